/- Parts of the proof: RdA, RdB, RdC, RdD, RdP. -/
import Derived.Test.YtaclhdpjkgoadaaGreatDoorP7
import Derived.Deep.RegionHeld3
import Derived.Test.YtaclhdpjkgoadaaGreatDoorP29
import Derived.Test.YtaclhdpjkgoadaaGreatDoorP28
import Derived.Test.YtaclhdpjkgoadaaGreatDoorP19
import Derived.Deep.QuietTactic
import Derived.BigQuiet
set_option maxHeartbeats 4000000
set_option maxRecDepth 100000
namespace Go.Proofs.YtaclhdpjkgoadaaGreatDoor
set_option linter.unusedSimpArgs false
set_option linter.unusedVariables false
section
open Go.RowKit
theorem Rd.cells {W0 w : World} {c : Nat} {s : RS} (h : Rd W0 c s w) : ∃ A cap, Ww W0 (.slice A s.ws.length cap) s.ws ∧ (s.ws.length ≤ cap ∧ cap ≤ maxLen ∧ s.ws.length ≤ 1000000) ∧ Bx w c #[.slice A s.ws.length cap, .int .i64 s.sz, .int .i64 s.op, .int .i64 s.wc, .int .i64 s.wa, .int .i64 s.lc, .int .i64 s.la] 54 := by
 obtain ⟨_, _, v, hw, hx⟩ := h
 obtain ⟨A, cap, rfl, h1, h2, h3⟩ := hw.form
 exact ⟨A, cap, hw, ⟨h1, h2, h3⟩, hx⟩
theorem Rd.cellsW {W0 w : World} {c : Nat} {s : RS} (h : Rd W0 c s w) : ∃ A cap, Ww w (.slice A s.ws.length cap) s.ws ∧ (s.ws.length ≤ cap ∧ cap ≤ maxLen ∧ s.ws.length ≤ 1000000) ∧ Bx w c #[.slice A s.ws.length cap, .int .i64 s.sz, .int .i64 s.op, .int .i64 s.wc, .int .i64 s.wa, .int .i64 s.lc, .int .i64 s.la] 54 := by
 obtain ⟨A, cap, hw, hm, hx⟩ := h.cells
 exact ⟨A, cap, h.lies hw, hm, hx⟩
theorem note_any (w : World) (c o : Nat) (x y k t : Int) (h0 : w.cell? ⟨c, o, none⟩ = some (.int .i64 x)) (h1 : w.cell? ⟨c, o + 1, none⟩ = some (.int .i64 y)) (f0 : w.frozen? ⟨c, o, none⟩ = false) (f1 : w.frozen? ⟨c, o + 1, none⟩ = false) :
   Calls Tryz.prog 44 #[.pointer (some ⟨c, o, none⟩), .int .i64 k, .int .i64 t] w fun e w' => e = .returned (.tuple #[]) ∧ w' = if x = 0 then ((w.alloc (.cells #[.int .i64 x, .int .i64 y] 52)).setCell ⟨c, o, none⟩ (.int .i64 k)).setCell ⟨c, o + 1, none⟩ (.int .i64 t) else w.alloc (.cells #[.int .i64 x, .int .i64 y] 52) := by
 have hlt := World.block_lt_of_cell? w (a := ⟨c, o, none⟩) h0
 have K := Keep.below ((Below.refl _ w).alloc (Nat.le_refl _) (.cells #[.int .i64 x, .int .i64 y] 52))
 have g0 := K _ _ h0
 have g1 := K _ _ h1
 have e0 : (w.alloc (.cells #[.int .i64 x, .int .i64 y] 52)).frozen? ⟨c, o, none⟩ = false := (World.frozen?_of_block (w := w) (a := ⟨c, o, none⟩) (Below.heap_alloc _ _ _ hlt)).trans f0
 have e1 : (w.alloc (.cells #[.int .i64 x, .int .i64 y] 52)).frozen? ⟨c, o + 1, none⟩ = false := (World.frozen?_of_block (w := w) (a := ⟨c, o + 1, none⟩) (Below.heap_alloc _ _ _ hlt)).trans f1
 clear K
 by_cases hx : x = 0
 · subst hx
   go_enter Tryz.func44, Tryz.ntmps44
   go_wp2_with (go_at_call 16; refine (fault_is _ _ _).mono ?_; rintro e w1 ⟨rfl, rfl⟩)
   exact bodyPost_end (v := .tuple #[]) (by simp [results, Tryz.results44, go_sem]) rfl ⟨rfl, by simp⟩
 · have hb : (x != 0) = true := by simpa using hx
   go_enter Tryz.func44, Tryz.ntmps44
   go_wp2_with (go_at_call 16; refine (fault_is _ _ _).mono ?_; rintro e w1 ⟨rfl, rfl⟩)
   exact bodyPost_end (v := .tuple #[]) (by simp [results, Tryz.results44, go_sem]) rfl ⟨rfl, by simp [hx]⟩
theorem at_any (W0 w : World) (c : Nat) (s : RS) (h : Rd W0 c s w) : Calls Tryz.prog 45 #[.pointer (some ⟨c, 0, none⟩)] w fun e w' => e = .returned (.int .i64 s.at) ∧ w = w' := by
 obtain ⟨ws, sz, op, wc, wa, lc, la⟩ := s
 obtain ⟨A, cap, hw, hm, hx⟩ := h.cellsW
 simp only at hw hm hx
 have hK : Keep w w := fun _ _ hu => hu
 have c0 := hx.cell 0; have c1 := hx.cell 1
 simp only [List.getElem?_toArray, List.getElem?_cons_succ, List.getElem?_cons_zero] at c0 c1
 simp only [RS.at]
 cases ws with
 | nil =>
   clear hw hx h hK
   go_enter Tryz.func45, Tryz.ntmps45
   go_wp2
   go_ret
   exact ⟨rfl, rfl⟩
 | cons x ws =>
   obtain ⟨b, o, y, rfl, hy, hc0, hc1⟩ := hw.get (k := 0) (by simp)
   simp at hy
   subst hy
   have d1 := hK _ _ hc1
   simp only [Nat.zero_mul, Nat.add_zero] at d1
   have hl : (0 : Int) < ((x :: ws).length : Int) := by simp
   have hl2 : (((x :: ws).length : Int) == 0) = false := by rw [beq_eq_false_iff_ne]; omega
   obtain ⟨n, hn⟩ : ∃ n, (x :: ws).length = n := ⟨_, rfl⟩
   rw [hn] at c0 hl hl2
   clear hw hx h hK hc0 hc1 hm
   go_enter Tryz.func45, Tryz.ntmps45
   go_wp2
   go_ret
   exact ⟨rfl, rfl⟩
theorem ahead_any (W0 w : World) (c k : Nat) (s : RS) (h : Rd W0 c s w) (hk : k ≤ 10) : Calls Tryz.prog 41 #[.pointer (some ⟨c, 0, none⟩), .int .i64 k] w fun e w' => e = .returned (aheadV s.ws k) ∧ w = w' := by
 obtain ⟨ws, sz, op, wc, wa, lc, la⟩ := s
 obtain ⟨A, cap, hw, hm, hx⟩ := h.cellsW
 simp only at hw hm hx
 have hK : Keep w w := fun _ _ hu => hu
 have c0 := hx.cell 0
 simp only [List.getElem?_toArray, List.getElem?_cons_zero] at c0
 simp only at hw hm c0 ⊢
 obtain ⟨n, hn⟩ : ∃ n, ws.length = n := ⟨_, rfl⟩
 rw [hn] at hw hm c0
 by_cases hlt : k < n
 · obtain ⟨b, o, y, rfl, hy, hc0, hc1⟩ := hw.get hlt
   have d0 := hK _ _ hc0
   have hv : aheadV ws k = y.1.V := by unfold aheadV; rw [hy]
   rw [hv]
   obtain ⟨V, hV⟩ : ∃ V, y.1.V = V := ⟨_, rfl⟩
   rw [hV] at d0 ⊢
   have hf : ∃ T u, V = .iface T u := by rw [← hV]; cases y.1 <;> exact ⟨_, _, rfl⟩
   obtain ⟨T, u, rfl⟩ := hf
   have hlt' : (k : Int) < n := by omega
   have hk0 : (0 : Int) ≤ k := by omega
   clear hw hx h hK hc0 hc1 hV hv hy
   go_enter Tryz.func41, Tryz.ntmps41
   go_wp2
   go_ret
   exact ⟨rfl, rfl⟩
 · have hv : aheadV ws k = .nilIface := by unfold aheadV; rw [List.getElem?_eq_none (by omega)]
   rw [hv]
   have hlt' : (n : Int) ≤ k := by omega
   clear hw hx h hK hv
   go_enter Tryz.func41, Tryz.ntmps41
   go_wp2
   go_ret
   exact ⟨rfl, rfl⟩
theorem Rd.put {W0 w : World} {c : Nat} {s s' : RS} {u : Value} (h : Rd W0 c s w) (hw : Ww W0 u s'.ws) (h1 : s'.sz = s.sz ∧ s'.op = s.op ∧ s'.wc = s.wc ∧ s'.wa = s.wa ∧ s'.lc = s.lc ∧ s'.la = s.la) : Mv W0 c s' w (w.setCell ⟨c, 0, none⟩ u) := by
 obtain ⟨A, cap, _, _, hx⟩ := h.cells
 obtain ⟨e1, e2, e3, e4, e5, e6⟩ := h1
 refine ⟨grown_setc _ _ _ _, h.1.setCell h.2.1 _, h.2.1, u, hw, ?_⟩
 rw [e1, e2, e3, e4, e5, e6]
 simpa using hx.set 0 u
theorem skip_any (W0 w : World) (c : Nat) (s : RS) (h : Rd W0 c s w) (hn : s.ws ≠ []) : Calls Tryz.prog 43 #[.pointer (some ⟨c, 0, none⟩)] w fun e w' => e = .returned (.tuple #[]) ∧ Mv W0 c s.skip w w' := by
 obtain ⟨ws, sz, op, wc, wa, lc, la⟩ := s
 obtain ⟨A, cap, hw, hm, hx⟩ := h.cells
 simp only at hw hm hx
 cases ws with
 | nil => exact absurd rfl hn
 | cons x ws =>
   obtain ⟨b, o, y, rfl, _, _, _⟩ := hw.get (k := 0) (by simp)
   have c0 := hx.cell 0
   have f0 := hx.fro 0
   simp only [List.getElem?_toArray, List.getElem?_cons_zero] at c0
   by_cases hcap : cap = 1
   · subst hcap
     have hws : ws = [] := List.eq_nil_of_length_eq_zero (by simp only [List.length_cons] at hm; omega)
     subst hws
     have HP := Lib.hid (h.put (s' := RS.skip ⟨[x], sz, op, wc, wa, lc, la⟩) (Ww.empt W0 (some ⟨b, o, none⟩) 0 (by unfold maxLen; omega)) ⟨rfl, rfl, rfl, rfl, rfl, rfl⟩)
     clear hw hx h
     go_enter Tryz.func43, Tryz.ntmps43
     go_wp2
     exact bodyPost_end (v := .tuple #[]) (by simp [results, Tryz.results43, go_sem]) rfl ⟨rfl, HP.out⟩
   · have HP := Lib.hid (h.put (s' := RS.skip ⟨x :: ws, sz, op, wc, wa, lc, la⟩) hw.tail ⟨rfl, rfl, rfl, rfl, rfl, rfl⟩)
     simp only [List.length_cons] at *
     have h1 : (1 : Int) ≤ ((ws.length + 1 : Nat) : Int) := by omega
     have h2 : ((ws.length + 1 : Nat) : Int) ≤ cap := by omega
     clear hw hx h
     go_enter Tryz.func43, Tryz.ntmps43
     go_wp2
     exact bodyPost_end (v := .tuple #[]) (by simp [results, Tryz.results43, go_sem]) rfl ⟨rfl, HP.out⟩
theorem Mv.below {W0 w w' : World} {c : Nat} {s : RS} (hb : Below w.heap.size w w') (h : Rd W0 c s w) : Mv W0 c s w w' := by
 obtain ⟨h1, h2, v, hw, hx⟩ := h
 exact ⟨⟨hb.os, hb.tape, hb.output, hb.size, fun k hk _ => hb.block k hk⟩, h1.trans (hb.mono h1.size), h2, v, hw, hx.next hb⟩
theorem Rd.noted {W0 w : World} {c : Nat} {s : RS} (h : Rd W0 c s w) (k t : Int) :
   Mv W0 c (if s.wc = 0 then { s with wc := k, wa := t } else s) w (if s.wc = 0 then ((w.alloc (.cells #[.int .i64 s.wc, .int .i64 s.wa] 52)).setCell ⟨c, 3, none⟩ (.int .i64 k)).setCell ⟨c, 4, none⟩ (.int .i64 t) else w.alloc (.cells #[.int .i64 s.wc, .int .i64 s.wa] 52)) := by
 have hb := (Below.refl _ w).alloc (Nat.le_refl _) (.cells #[.int .i64 s.wc, .int .i64 s.wa] 52)
 have hm := Mv.below hb h
 split
 · obtain ⟨hg, h1, h2, v, hw, hx⟩ := hm
   refine ⟨(hg.trans (grown_setc _ _ _ _)).trans (grown_setc _ _ _ _), (h1.setCell h2 _).setCell h2 _, h2, v, hw, ?_⟩
   have := (hx.set 3 (.int .i64 k)).set 4 (.int .i64 t)
   simpa using this
 · exact hm
theorem fail_any (W0 w : World) (c : Nat) (s : RS) (k : Int) (h : Rd W0 c s w) : Calls Tryz.prog 29 #[.pointer (some ⟨c, 0, none⟩), .int .i64 k] w fun e w' => e = .returned (.tuple #[]) ∧ Mv W0 c (s.fail k) w w' := by
 have HA := Lib.hid (at_any W0 w.drew c s h.drew)
 obtain ⟨A, cap, hw, hm, hx⟩ := h.cells
 have c3 := hx.cell 3; have c4 := hx.cell 4; have f3 := hx.fro 3; have f4 := hx.fro 4
 simp only [List.getElem?_toArray, List.getElem?_cons_succ, List.getElem?_cons_zero] at c3 c4
 have HN := Lib.hid (note_any w.drew c 3 s.wc s.wa k s.at c3 c4 f3 f4)
 obtain ⟨w2, hw2⟩ : ∃ w2, (if s.wc = 0 then (((w.drew).alloc (.cells #[.int .i64 s.wc, .int .i64 s.wa] 52)).setCell ⟨c, 3, none⟩ (.int .i64 k)).setCell ⟨c, 4, none⟩ (.int .i64 s.at) else (w.drew).alloc (.cells #[.int .i64 s.wc, .int .i64 s.wa] 52)) = w2 := ⟨_, rfl⟩
 have hn := h.drew.noted k s.at
 rw [hw2] at hn
 rw [hw2] at HN
 have hmv : Mv W0 c (s.fail k) w (w2.setCell ⟨c, 0, none⟩ (.slice none 0 0)) := by
   have hp := Rd.put (s' := s.fail k) (u := .slice none 0 0) hn.2 (by unfold RS.fail; split <;> exact Ww.nil _) (by unfold RS.fail; split <;> exact ⟨rfl, rfl, rfl, rfl, rfl, rfl⟩)
   exact ⟨(⟨rfl, rfl, rfl, Nat.le_refl _, fun _ _ _ => rfl⟩ : w.grownBy w.drew (some c)).trans (hn.1.trans hp.1), hp.2⟩
 obtain ⟨_, _, _, _, hx2⟩ := hn.2
 have d0 := hx2.cell 0
 have g0 := hx2.fro 0
 simp only [List.getElem?_toArray, List.getElem?_cons_zero] at d0
 have HM := Lib.hid hmv
 obtain ⟨t, ht⟩ : ∃ t, s.at = t := ⟨_, rfl⟩
 rw [ht] at HA HN
 clear hw hm hx c3 c4 f3 f4 hw2 hn hmv hx2 h ht
 go_enter Tryz.func29, Tryz.ntmps29
 go_wp2_with fail
 go_region_with (first
   | (go_at_call 45; refine HA.out.mono ?_; clear HA; rintro e w1 ⟨rfl, rfl⟩)
   | (go_at_call 44; refine HN.out.mono ?_; clear HN; rintro e w1 ⟨rfl, rfl⟩))
 all_goals
   go_wp2_with fail
   exact bodyPost_end (v := .tuple #[]) (by simp [results, Tryz.results29, go_sem]) rfl ⟨rfl, HM.out⟩
end
section
open Go.RowKit
theorem sees_fx {s : RS} {n : Nat} {t p : ByteArray} {a : Int} (h : s.ws[n]? = some (.fx t, a)) : s.sees n p = (t.toList == p.toList) := by simp [RS.sees, seesP, h]
theorem seesAt_any (W0 w : World) (c n : Nat) (s : RS) (p : ByteArray) (h : Rd W0 c s w) (hn : n ≤ 10) : Calls Tryz.prog 117 #[.pointer (some ⟨c, 0, none⟩), .int .i64 n, .string p] w fun e w' => e = .returned (.bool (s.sees n p)) ∧ w = w' := by
 have HA := Lib.hid (ahead_any W0 w c n s h hn)
 clear h
 cases hx : s.ws[n]? with
 | none =>
   have hs : s.sees n p = false := by simp [RS.sees, seesP, hx]
   have hv : aheadV s.ws n = .nilIface := by simp [aheadV, hx]
   rw [hv] at HA
   rw [hs]
   clear hx hv hs
   go_enter Tryz.func117, Tryz.ntmps117
   go_wp2_with (go_at_call 41; refine HA.out.mono ?_; clear HA; rintro e w1 ⟨rfl, rfl⟩)
   go_ret
   exact ⟨rfl, rfl⟩
 | some x =>
   obtain ⟨q, a⟩ := x
   have hv : aheadV s.ws n = q.V := by simp [aheadV, hx]
   rw [hv] at HA
   cases q with
   | fx t =>
     rw [sees_fx hx]
     simp only [Pr.V] at HA
     obtain ⟨r, hr⟩ : ∃ r, (t.toList == p.toList) = r := ⟨_, rfl⟩
     rw [hr]
     clear hx hv
     go_enter Tryz.func117, Tryz.ntmps117
     go_wp2_with (go_at_call 41; refine HA.out.mono ?_; clear HA; rintro e w1 ⟨rfl, rfl⟩)
     go_ret
     exact ⟨rfl, rfl⟩
   | nm t | cl t | nu t | qu t =>
     have hs : s.sees n p = false := by simp [RS.sees, seesP, hx]
     rw [hs]
     simp only [Pr.V] at HA
     clear hx hv hs
     go_enter Tryz.func117, Tryz.ntmps117
     go_wp2_with (go_at_call 41; refine HA.out.mono ?_; clear HA; rintro e w1 ⟨rfl, rfl⟩)
     go_ret
     exact ⟨rfl, rfl⟩
theorem sees_any (W0 w : World) (c : Nat) (s : RS) (p : ByteArray) (h : Rd W0 c s w) : Calls Tryz.prog 70 #[.pointer (some ⟨c, 0, none⟩), .string p] w fun e w' => e = .returned (.bool (s.sees 0 p)) ∧ w = w' := by
 have HA := Lib.hid (seesAt_any W0 w c 0 s p h (by omega))
 obtain ⟨r, hr⟩ : ∃ r, s.sees 0 p = r := ⟨_, rfl⟩
 rw [hr] at HA ⊢
 clear h hr
 go_enter Tryz.func70, Tryz.ntmps70
 go_wp2_with (go_at_call 117; refine HA.out.mono ?_; clear HA; rintro e w1 ⟨rfl, rfl⟩)
 go_ret
 exact ⟨rfl, rfl⟩
theorem sees_ne {s : RS} {p : ByteArray} (h : s.sees 0 p = true) : s.ws ≠ [] := by
 intro e; simp [RS.sees, seesP, e] at h
theorem take_any (W0 w : World) (c : Nat) (s : RS) (p : ByteArray) (h : Rd W0 c s w) : Calls Tryz.prog 58 #[.pointer (some ⟨c, 0, none⟩), .string p] w fun e w' => e = .returned (.bool (s.sees 0 p)) ∧ Mv W0 c (s.take p) w w' := by
 have HA := Lib.hid (sees_any W0 w c s p h)
 cases hr : s.sees 0 p with
 | false =>
   have HM : Hid (Mv W0 c (s.take p) w w) := by show Mv _ _ _ _ _; rw [RS.take, if_neg (by simp [hr])]; exact Mv.refl h
   rw [hr] at HA
   clear h hr
   go_enter Tryz.func58, Tryz.ntmps58
   go_wp2_with (go_at_call 70; refine HA.out.mono ?_; clear HA; rintro e w1 ⟨rfl, rfl⟩)
   go_ret
   exact ⟨rfl, HM.out⟩
 | true =>
   have HS := Lib.hid (skip_any W0 w c s h (sees_ne hr))
   have HE := Lib.hid (show s.take p = s.skip by rw [RS.take, if_pos hr])
   rw [hr] at HA
   clear h hr
   go_enter Tryz.func58, Tryz.ntmps58
   go_wp2_with (first | (go_at_call 70; refine HA.out.mono ?_; clear HA; rintro e w1 ⟨rfl, rfl⟩) | (go_at_call 43; refine HS.out.mono ?_; clear HS; rintro e w1 ⟨rfl, hm⟩; have HM := Lib.hid hm; clear hm))
   go_ret
   exact ⟨rfl, by rw [HE.out]; exact HM.out⟩
theorem need_any (W0 w : World) (c : Nat) (s : RS) (p : ByteArray) (h : Rd W0 c s w) : Calls Tryz.prog 56 #[.pointer (some ⟨c, 0, none⟩), .string p] w fun e w' => e = .returned (.tuple #[]) ∧ Mv W0 c (s.need p) w w' := by
 have HA := Lib.hid (take_any W0 w c s p h)
 cases hr : s.sees 0 p with
 | true =>
   have HE := Lib.hid (show s.need p = s.take p by rw [RS.need, RS.take, if_pos hr, if_pos hr])
   rw [hr] at HA
   clear h hr
   go_enter Tryz.func56, Tryz.ntmps56
   go_wp2_with (go_at_call 58; refine HA.out.mono ?_; clear HA; rintro e w1 ⟨rfl, hm⟩; have HM := Lib.hid hm; clear hm)
   exact bodyPost_end (v := .tuple #[]) (by simp [results, Tryz.results56, go_sem]) rfl ⟨rfl, by rw [HE.out]; exact HM.out⟩
 | false =>
   have hE : s.need p = s.fail 3 := by rw [RS.need, if_neg (by simp [hr])]
   have hT : s.take p = s := by rw [RS.take, if_neg (by simp [hr])]
   rw [hT] at HA
   have HE := Lib.hid hE
   rw [hr] at HA
   have HF : Hid (∀ w', Rd W0 c s w' → Calls Tryz.prog 29 #[.pointer (some ⟨c, 0, none⟩), .int .i64 3] w' fun e w'' => e = .returned (.tuple #[]) ∧ Mv W0 c (s.fail 3) w' w'') := by
     show ∀ w', _
     intro w' h'; exact fail_any W0 w' c s 3 h'
   clear h hr hE hT
   go_enter Tryz.func56, Tryz.ntmps56
   go_wp2_with (first | (go_at_call 58; refine HA.out.mono ?_; clear HA; rintro e w1 ⟨rfl, hm⟩; have HM := Lib.hid hm; clear hm) | (go_at_call 29; refine (HF.out _ HM.out.2).mono ?_; clear HF; rintro e w2 ⟨rfl, hm⟩; have HM2 := Lib.hid (HM.out.trans hm); clear hm))
   exact bodyPost_end (v := .tuple #[]) (by simp [results, Tryz.results56, go_sem]) rfl ⟨rfl, by rw [HE.out]; exact HM2.out⟩
end
section
open Go.RowKit
def RS.inc (r : RS) : RS := { r with op := wrap64 (r.op + 1) }
def RS.dec (r : RS) : RS := { r with op := wrap64 (r.op - 1) }
def RS.enter (r : RS) (p : ByteArray) : RS := ((if r.op = 41 ∧ r.sees 0 p = true then r.fail 4 else r).need p).inc
def RS.leave (r : RS) (p : ByteArray) : RS := (r.need p).dec
def RS.called (r : RS) (t : ByteArray) (is : Bool) : RS := if is = true then (if 20 < t.size then r.fail 5 else r.skip) else r.fail 3
def RS.calledV (t : ByteArray) (is : Bool) : ByteArray := if is = true ∧ t.size ≤ 20 then t else ⟨#[]⟩
def nmP : Option Pl → Option ByteArray
 | some (.nm t, _) => some t
 | _ => none
def clP : Option Pl → Option ByteArray
 | some (.cl t, _) => some t
 | _ => none
def RS.byO (r : RS) (o : Option ByteArray) : RS := match o with | some t => r.called t true | none => r.called ⟨#[]⟩ false
def byV (o : Option ByteArray) : ByteArray := match o with | some t => RS.calledV t true | none => ⟨#[]⟩
def RS.name (r : RS) : RS := r.byO (nmP r.ws[0]?)
def RS.nameV (r : RS) : ByteArray := byV (nmP r.ws[0]?)
def RS.class (r : RS) : RS := r.byO (clP r.ws[0]?)
def RS.classV (r : RS) : ByteArray := byV (clP r.ws[0]?)
theorem Rd.inc {W0 w : World} {c : Nat} {s : RS} (h : Rd W0 c s w) : Mv W0 c s.inc w (w.setCell ⟨c, 2, none⟩ (.int .i64 (wrap64 (s.op + 1)))) := by
 obtain ⟨h1, h2, v, hw, hx⟩ := h
 refine ⟨grown_setc _ _ _ _, h1.setCell h2 _, h2, v, hw, ?_⟩
 have := hx.set 2 (.int .i64 (wrap64 (s.op + 1)))
 simpa [RS.inc] using this
theorem Rd.dec {W0 w : World} {c : Nat} {s : RS} (h : Rd W0 c s w) : Mv W0 c s.dec w (w.setCell ⟨c, 2, none⟩ (.int .i64 (wrap64 (s.op - 1)))) := by
 obtain ⟨h1, h2, v, hw, hx⟩ := h
 refine ⟨grown_setc _ _ _ _, h1.setCell h2 _, h2, v, hw, ?_⟩
 have := hx.set 2 (.int .i64 (wrap64 (s.op - 1)))
 simpa [RS.dec] using this
theorem ret_str {a b : ByteArray} (h : b = a) : Ending.returned (.string a) = .returned (.string b) := by rw [h]
theorem Rd.op {W0 w : World} {c : Nat} {s : RS} (h : Rd W0 c s w) : w.cell? ⟨c, 2, none⟩ = some (.int .i64 s.op) ∧ w.frozen? ⟨c, 2, none⟩ = false := by
 obtain ⟨_, _, v, _, hx⟩ := h
 exact ⟨by simpa using hx.cell 2, hx.fro 2⟩
theorem enter_any (W0 w : World) (c : Nat) (s : RS) (p : ByteArray) (h : Rd W0 c s w) : Calls Tryz.prog 71 #[.pointer (some ⟨c, 0, none⟩), .string p] w fun e w' => e = .returned (.tuple #[]) ∧ Mv W0 c (s.enter p) w w' := by
 have HA := Lib.hid (sees_any W0 w c s p h)
 have HF : Hid (∀ w', Rd W0 c s w' → Calls Tryz.prog 29 #[.pointer (some ⟨c, 0, none⟩), .int .i64 4] w' fun e w'' => e = .returned (.tuple #[]) ∧ Mv W0 c (s.fail 4) w' w'') := by
   show ∀ w', _
   intro w' h'; exact fail_any W0 w' c s 4 h'
 have HN : Hid (∀ (s' : RS) w', Rd W0 c s' w' → Calls Tryz.prog 56 #[.pointer (some ⟨c, 0, none⟩), .string p] w' fun e w'' => e = .returned (.tuple #[]) ∧ Mv W0 c (s'.need p) w' w'') := by
   show ∀ s' w', _
   intro s' w' h'; exact need_any W0 w' c s' p h'
 obtain ⟨c2, f2⟩ := h.op
 have H := Lib.hid h
 obtain ⟨o, ho⟩ : ∃ o, s.op = o := ⟨_, rfl⟩
 rw [ho] at c2
 cases hr : s.sees 0 p with
 | false =>
   have HE := Lib.hid (show s.enter p = (s.need p).inc by unfold RS.enter; rw [if_neg (by simp [hr])])
   rw [hr] at HA
   by_cases ho41 : o = 41
   · subst ho41
     clear h hr ho
     go_enter Tryz.func71, Tryz.ntmps71
     go_wp2_with (first | (go_at_call 70; refine HA.out.mono ?_; clear HA; rintro e w1 ⟨rfl, rfl⟩) | (go_at_call 56; refine (HN.out s _ H.out).mono ?_; clear HN; rintro e w1 ⟨rfl, hm⟩; obtain ⟨d2, g2⟩ := hm.2.op; have HM := Lib.hid (hm.trans hm.2.inc); clear hm))
     exact bodyPost_end (v := .tuple #[]) (by simp [results, Tryz.results71, go_sem]) rfl ⟨rfl, by rw [HE.out]; exact HM.out⟩
   · have hob : (o == 41) = false := by rw [beq_eq_false_iff_ne]; exact ho41
     clear h hr ho
     go_enter Tryz.func71, Tryz.ntmps71
     go_wp2_with (first | (go_at_call 70; refine HA.out.mono ?_; clear HA; rintro e w1 ⟨rfl, rfl⟩) | (go_at_call 56; refine (HN.out s _ H.out).mono ?_; clear HN; rintro e w1 ⟨rfl, hm⟩; obtain ⟨d2, g2⟩ := hm.2.op; have HM := Lib.hid (hm.trans hm.2.inc); clear hm))
     exact bodyPost_end (v := .tuple #[]) (by simp [results, Tryz.results71, go_sem]) rfl ⟨rfl, by rw [HE.out]; exact HM.out⟩
 | true =>
   rw [hr] at HA
   by_cases ho41 : o = 41
   · have HE := Lib.hid (show s.enter p = ((s.fail 4).need p).inc by unfold RS.enter; rw [if_pos ⟨by omega, hr⟩])
     subst ho41
     clear h hr ho
     go_enter Tryz.func71, Tryz.ntmps71
     go_wp2_with (first | (go_at_call 70; refine HA.out.mono ?_; clear HA; rintro e w1 ⟨rfl, rfl⟩) | (go_at_call 29; refine (HF.out _ H.out).mono ?_; clear HF; rintro e w1 ⟨rfl, hm⟩; have HM1 := Lib.hid hm; clear hm) | (go_at_call 56; refine (HN.out (s.fail 4) _ HM1.out.2).mono ?_; clear HN; rintro e w2 ⟨rfl, hm⟩; obtain ⟨d2, g2⟩ := hm.2.op; have HM := Lib.hid ((HM1.out.trans hm).trans hm.2.inc); clear hm))
     exact bodyPost_end (v := .tuple #[]) (by simp [results, Tryz.results71, go_sem]) rfl ⟨rfl, by rw [HE.out]; exact HM.out⟩
   · have HE := Lib.hid (show s.enter p = (s.need p).inc by unfold RS.enter; rw [if_neg (by rintro ⟨g, _⟩; omega)])
     have hob : (o == 41) = false := by rw [beq_eq_false_iff_ne]; exact ho41
     clear h hr ho
     go_enter Tryz.func71, Tryz.ntmps71
     go_wp2_with (first | (go_at_call 70; refine HA.out.mono ?_; clear HA; rintro e w1 ⟨rfl, rfl⟩) | (go_at_call 56; refine (HN.out s _ H.out).mono ?_; clear HN; rintro e w1 ⟨rfl, hm⟩; obtain ⟨d2, g2⟩ := hm.2.op; have HM := Lib.hid (hm.trans hm.2.inc); clear hm))
     exact bodyPost_end (v := .tuple #[]) (by simp [results, Tryz.results71, go_sem]) rfl ⟨rfl, by rw [HE.out]; exact HM.out⟩
theorem leave_any (W0 w : World) (c : Nat) (s : RS) (p : ByteArray) (h : Rd W0 c s w) : Calls Tryz.prog 164 #[.pointer (some ⟨c, 0, none⟩), .string p] w fun e w' => e = .returned (.tuple #[]) ∧ Mv W0 c (s.leave p) w w' := by
 have HN := Lib.hid (need_any W0 w c s p h)
 clear h
 go_enter Tryz.func164, Tryz.ntmps164
 go_wp2_with (go_at_call 56; refine HN.out.mono ?_; clear HN; rintro e w1 ⟨rfl, hm⟩; obtain ⟨d2, g2⟩ := hm.2.op; have HM := Lib.hid (hm.trans hm.2.dec); clear hm)
 exact bodyPost_end (v := .tuple #[]) (by simp [results, Tryz.results164, go_sem]) rfl ⟨rfl, HM.out⟩
theorem called_any (W0 w : World) (c : Nat) (s : RS) (t : ByteArray) (is : Bool) (h : Rd W0 c s w) (hne : is = true → s.ws ≠ []) (ht : t.size ≤ maxLen) : Calls Tryz.prog 88 #[.pointer (some ⟨c, 0, none⟩), .string t, .bool is] w fun e w' => e = .returned (.string (RS.calledV t is)) ∧ Mv W0 c (s.called t is) w w' := by
 unfold maxLen at ht
 cases is with
 | false =>
   have HF := Lib.hid (fail_any W0 w c s 3 h)
   have HE := Lib.hid (show s.called t false = s.fail 3 by simp [RS.called])
   have HV := Lib.hid (show RS.calledV t false = ⟨#[]⟩ by simp [RS.calledV])
   clear h hne
   go_enter Tryz.func88, Tryz.ntmps88
   go_wp2_with (go_at_call 29; refine HF.out.mono ?_; clear HF; rintro e w1 ⟨rfl, hm⟩; have HM := Lib.hid hm; clear hm)
   go_ret
   exact ⟨ret_str HV.out, by rw [HE.out]; exact HM.out⟩
 | true =>
   by_cases hl : t.size ≤ 20
   · have HS := Lib.hid (skip_any W0 w c s h (hne rfl))
     have HE := Lib.hid (show s.called t true = s.skip by rw [RS.called, if_pos rfl, if_neg (by omega)])
     have HV := Lib.hid (show RS.calledV t true = t by simp [RS.calledV, hl])
     have hl' : (t.size : Int) ≤ 20 := by omega
     clear h hne
     go_enter Tryz.func88, Tryz.ntmps88
     go_wp2_with (go_at_call 43; refine HS.out.mono ?_; clear HS; rintro e w1 ⟨rfl, hm⟩; have HM := Lib.hid hm; clear hm)
     go_ret
     exact ⟨ret_str HV.out, by rw [HE.out]; exact HM.out⟩
   · have HF := Lib.hid (fail_any W0 w c s 5 h)
     have HE := Lib.hid (show s.called t true = s.fail 5 by rw [RS.called, if_pos rfl, if_pos (by omega)])
     have HV := Lib.hid (show RS.calledV t true = ⟨#[]⟩ by simp [RS.calledV, hl])
     have hl' : (20 : Int) < (t.size : Int) := by omega
     clear h hne
     go_enter Tryz.func88, Tryz.ntmps88
     go_wp2_with (go_at_call 29; refine HF.out.mono ?_; clear HF; rintro e w1 ⟨rfl, hm⟩; have HM := Lib.hid hm; clear hm)
     go_ret
     exact ⟨ret_str HV.out, by rw [HE.out]; exact HM.out⟩
theorem Rd.short {W0 w : World} {c : Nat} {s : RS} (h : Rd W0 c s w) {n : Nat} {x : Pl} (hx : s.ws[n]? = some x) : x.1.text.size ≤ 1000000 := by
 obtain ⟨_, _, v, ⟨_, _, _, _, ht, _⟩, _⟩ := h
 exact ht x (List.mem_of_getElem? hx)
theorem Rd.text {W0 w : World} {c : Nat} {s : RS} (h : Rd W0 c s w) {n : Nat} {x : Pl} (hx : s.ws[n]? = some x) : x.1.text.size ≤ maxLen := Nat.le_trans (h.short hx) (by unfold maxLen; omega)
theorem ne_of_get {l : List Pl} {n : Nat} {x : Pl} (h : l[n]? = some x) : l ≠ [] := by rintro rfl; simp at h
theorem nameR_any (W0 w : World) (c : Nat) (s : RS) (h : Rd W0 c s w) : Calls Tryz.prog 92 #[.pointer (some ⟨c, 0, none⟩)] w fun e w' => e = .returned (.string s.nameV) ∧ Mv W0 c s.name w w' := by
 have HA := Lib.hid (ahead_any W0 w c 0 s h (by omega))
 cases hx : s.ws[0]? with
 | none =>
   have HC := Lib.hid (called_any W0 w c s ⟨#[]⟩ false h (by simp) (Nat.zero_le _))
   have HE := Lib.hid (show s.name = s.called ⟨#[]⟩ false by simp [RS.name, nmP, hx, RS.byO])
   have HV := Lib.hid (show s.nameV = RS.calledV ⟨#[]⟩ false by simp [RS.nameV, nmP, hx, byV, RS.calledV])
   have hv : aheadV s.ws 0 = .nilIface := by simp [aheadV, hx]
   rw [hv] at HA
   clear hx hv h
   go_enter Tryz.func92, Tryz.ntmps92
   go_wp2_with (first | (go_at_call 41; refine HA.out.mono ?_; clear HA; rintro e w1 ⟨rfl, rfl⟩) | (go_at_call 88; refine HC.out.mono ?_; clear HC; rintro e w1 ⟨rfl, hm⟩; have HM := Lib.hid hm; clear hm))
   go_ret
   exact ⟨ret_str HV.out, by rw [HE.out]; exact HM.out⟩
 | some x =>
   obtain ⟨q, a⟩ := x
   have hv : aheadV s.ws 0 = q.V := by simp [aheadV, hx]
   rw [hv] at HA
   cases q with
   | nm t =>
     have HC := Lib.hid (called_any W0 w c s t true h (fun _ => ne_of_get hx) (h.text hx))
     have HE := Lib.hid (show s.name = s.called t true by simp [RS.name, nmP, hx, RS.byO])
     have HV := Lib.hid (show s.nameV = RS.calledV t true by simp [RS.nameV, nmP, hx, byV])
     simp only [Pr.V] at HA
     clear hx hv h
     go_enter Tryz.func92, Tryz.ntmps92
     go_wp2_with (first | (go_at_call 41; refine HA.out.mono ?_; clear HA; rintro e w1 ⟨rfl, rfl⟩) | (go_at_call 88; refine HC.out.mono ?_; clear HC; rintro e w1 ⟨rfl, hm⟩; have HM := Lib.hid hm; clear hm))
     go_ret
     exact ⟨ret_str HV.out, by rw [HE.out]; exact HM.out⟩
   | fx t | cl t | nu t | qu t =>
     have HC := Lib.hid (called_any W0 w c s ⟨#[]⟩ false h (by simp) (Nat.zero_le _))
     have HE := Lib.hid (show s.name = s.called ⟨#[]⟩ false by simp [RS.name, nmP, hx, RS.byO])
     have HV := Lib.hid (show s.nameV = RS.calledV ⟨#[]⟩ false by simp [RS.nameV, nmP, hx, byV, RS.calledV])
     simp only [Pr.V] at HA
     clear hx hv h
     go_enter Tryz.func92, Tryz.ntmps92
     go_wp2_with (first | (go_at_call 41; refine HA.out.mono ?_; clear HA; rintro e w1 ⟨rfl, rfl⟩) | (go_at_call 88; refine HC.out.mono ?_; clear HC; rintro e w1 ⟨rfl, hm⟩; have HM := Lib.hid hm; clear hm))
     go_ret
     exact ⟨ret_str HV.out, by rw [HE.out]; exact HM.out⟩
theorem classR_any (W0 w : World) (c : Nat) (s : RS) (h : Rd W0 c s w) : Calls Tryz.prog 57 #[.pointer (some ⟨c, 0, none⟩)] w fun e w' => e = .returned (.string s.classV) ∧ Mv W0 c s.class w w' := by
 have HA := Lib.hid (ahead_any W0 w c 0 s h (by omega))
 cases hx : s.ws[0]? with
 | none =>
   have HC := Lib.hid (called_any W0 w c s ⟨#[]⟩ false h (by simp) (Nat.zero_le _))
   have HE := Lib.hid (show s.class = s.called ⟨#[]⟩ false by simp [RS.class, clP, hx, RS.byO])
   have HV := Lib.hid (show s.classV = RS.calledV ⟨#[]⟩ false by simp [RS.classV, clP, hx, byV, RS.calledV])
   have hv : aheadV s.ws 0 = .nilIface := by simp [aheadV, hx]
   rw [hv] at HA
   clear hx hv h
   go_enter Tryz.func57, Tryz.ntmps57
   go_wp2_with (first | (go_at_call 41; refine HA.out.mono ?_; clear HA; rintro e w1 ⟨rfl, rfl⟩) | (go_at_call 88; refine HC.out.mono ?_; clear HC; rintro e w1 ⟨rfl, hm⟩; have HM := Lib.hid hm; clear hm))
   go_ret
   exact ⟨ret_str HV.out, by rw [HE.out]; exact HM.out⟩
 | some x =>
   obtain ⟨q, a⟩ := x
   have hv : aheadV s.ws 0 = q.V := by simp [aheadV, hx]
   rw [hv] at HA
   cases q with
   | cl t =>
     have HC := Lib.hid (called_any W0 w c s t true h (fun _ => ne_of_get hx) (h.text hx))
     have HE := Lib.hid (show s.class = s.called t true by simp [RS.class, clP, hx, RS.byO])
     have HV := Lib.hid (show s.classV = RS.calledV t true by simp [RS.classV, clP, hx, byV])
     simp only [Pr.V] at HA
     clear hx hv h
     go_enter Tryz.func57, Tryz.ntmps57
     go_wp2_with (first | (go_at_call 41; refine HA.out.mono ?_; clear HA; rintro e w1 ⟨rfl, rfl⟩) | (go_at_call 88; refine HC.out.mono ?_; clear HC; rintro e w1 ⟨rfl, hm⟩; have HM := Lib.hid hm; clear hm))
     go_ret
     exact ⟨ret_str HV.out, by rw [HE.out]; exact HM.out⟩
   | fx t | nm t | nu t | qu t =>
     have HC := Lib.hid (called_any W0 w c s ⟨#[]⟩ false h (by simp) (Nat.zero_le _))
     have HE := Lib.hid (show s.class = s.called ⟨#[]⟩ false by simp [RS.class, clP, hx, RS.byO])
     have HV := Lib.hid (show s.classV = RS.calledV ⟨#[]⟩ false by simp [RS.classV, clP, hx, byV, RS.calledV])
     simp only [Pr.V] at HA
     clear hx hv h
     go_enter Tryz.func57, Tryz.ntmps57
     go_wp2_with (first | (go_at_call 41; refine HA.out.mono ?_; clear HA; rintro e w1 ⟨rfl, rfl⟩) | (go_at_call 88; refine HC.out.mono ?_; clear HC; rintro e w1 ⟨rfl, hm⟩; have HM := Lib.hid hm; clear hm))
     go_ret
     exact ⟨ret_str HV.out, by rw [HE.out]; exact HM.out⟩
end
section
open Go.RowKit
theorem Rd.words {W0 w : World} {c : Nat} {s : RS} (h : Rd W0 c s w) : ∃ A cap, w.cell? ⟨c, 0, none⟩ = some (.slice A s.ws.length cap) ∧ s.ws.length ≤ 1000000 := by
 obtain ⟨A, cap, _, hm, hx⟩ := h.cells
 exact ⟨A, cap, by simpa using hx.cell 0, hm.2.2⟩
theorem end_any (W0 w : World) (c : Nat) (s : RS) (h : Rd W0 c s w) : Calls Tryz.prog 15 #[.pointer (some ⟨c, 0, none⟩)] w fun e w' => e = .returned (.tuple #[]) ∧ Mv W0 c s.fin w w' := by
 obtain ⟨A, cap, c0, hm⟩ := h.words
 have HF := Lib.hid (fail_any W0 w c s 3 h)
 cases hws : s.ws with
 | nil =>
   have HM : Hid (Mv W0 c s.fin w w) := by show Mv _ _ _ _ _; rw [RS.fin, if_pos (by simp [hws])]; exact Mv.refl h
   rw [hws] at c0
   simp only [List.length_nil] at c0
   clear h hws HF hm
   go_enter Tryz.func15, Tryz.ntmps15
   go_wp2
   exact bodyPost_end (v := .tuple #[]) (by simp [results, Tryz.results15, go_sem]) rfl ⟨rfl, HM.out⟩
 | cons x l =>
   have HE := Lib.hid (show s.fin = s.fail 3 by rw [RS.fin, if_neg (by simp [hws])])
   obtain ⟨n, hn⟩ : ∃ n, s.ws.length = n := ⟨_, rfl⟩
   have hp : (0 : Int) < (n : Int) := by have : s.ws.length = l.length + 1 := by simp [hws]
                                         omega
   rw [hn] at c0
   clear h hws hn hm
   go_enter Tryz.func15, Tryz.ntmps15
   go_wp2_with (go_at_call 29; refine HF.out.mono ?_; clear HF; rintro e w1 ⟨rfl, hm⟩; have HM := Lib.hid hm; clear hm)
   exact bodyPost_end (v := .tuple #[]) (by simp [results, Tryz.results15, go_sem]) rfl ⟨rfl, by rw [HE.out]; exact HM.out⟩
def tInt : ByteArray := ⟨#[105, 110, 116]⟩
def tBool : ByteArray := ⟨#[98, 111, 111, 108, 101, 97, 110]⟩
def tStr : ByteArray := ⟨#[83, 116, 114, 105, 110, 103]⟩
def RS.typ (r : RS) : RS := if r.sees 0 tInt = true then r.skip else if r.sees 0 tBool = true then r.skip else if r.sees 0 tStr = true then r.skip else r.class
def RS.typV (r : RS) : ByteArray := if r.sees 0 tInt = true then tInt else if r.sees 0 tBool = true then tBool else if r.sees 0 tStr = true then tStr else r.classV
theorem take_yes {s : RS} {p : ByteArray} (h : s.sees 0 p = true) : s.take p = s.skip := by rw [RS.take, if_pos h]
theorem take_no {s : RS} {p : ByteArray} (h : s.sees 0 p = false) : s.take p = s := by rw [RS.take, if_neg (by simp [h])]
@[go_sem] theorem index3_0 (a b d : Value) (w : World) : (Instr.index 146 (.agg #[a, b, d]) (.int .i64 0)).run Tryz.prog w = .ok a w := by kernel_rfl
@[go_sem] theorem index3_1 (a b d : Value) (w : World) : (Instr.index 146 (.agg #[a, b, d]) (.int .i64 1)).run Tryz.prog w = .ok b w := by kernel_rfl
@[go_sem] theorem index3_2 (a b d : Value) (w : World) : (Instr.index 146 (.agg #[a, b, d]) (.int .i64 2)).run Tryz.prog w = .ok d w := by kernel_rfl
end
section
open Go.RowKit
theorem runesF_len (s : ByteArray) : ∀ f p, (runesF s f p).length ≤ f
 | 0, p => Nat.le_refl _
 | f + 1, p => by
   simp only [runesF]
   split
   · simp only [List.length_cons]; have := runesF_len s f (p + (Utf8.decode s p).2); omega
   · simp
theorem plainL_len : ∀ (l : List Nat) (e : Bool) (m : List Nat), plainL e l = some m → m.length ≤ l.length
 | [], e, m, h => by cases e <;> simp [plainL] at h; subst h; simp
 | r :: t, false, m, h => by
   simp only [plainL] at h
   split at h
   · have := plainL_len t true m h; simp; omega
   · split at h
     · cases h
     · simp only [Option.map_eq_some_iff] at h
       obtain ⟨m', h1, rfl⟩ := h
       have := plainL_len t false m' h1
       simp; omega
 | r :: t, true, m, h => by
   simp only [plainL] at h
   split at h
   · simp only [Option.map_eq_some_iff] at h
     obtain ⟨m', h1, rfl⟩ := h
     have := plainL_len t false m' h1
     simp; omega
   · split at h
     · simp only [Option.map_eq_some_iff] at h
       obtain ⟨m', h1, rfl⟩ := h
       have := plainL_len t false m' h1
       simp; omega
     · cases h
theorem encs_len (l : List Nat) : (encs l).length ≤ 4 * l.length := by
 induction l with
 | nil => simp [encs]
 | cons r l ih => rw [encs_cons, List.length_append, List.length_cons]; have := (enc_len (r : Int)).2; omega
theorem plainText_len (s : ByteArray) : (plainText s).length ≤ 4 * s.size := by
 unfold plainText plain
 split
 · simp
 · cases h : plainL false (runes s 0) with
   | none => simp
   | some m =>
     simp only [Option.map_some, Option.getD_some]
     have h1 := plainL_len _ _ _ h
     have h2 := encs_len m
     have h3 : (runes s 0).length ≤ s.size := by unfold runes; exact runesF_len s _ _
     omega
theorem first_len (l : List UInt8) : (firstL l).2.1.length ≤ 4 * l.length := by
 unfold firstL
 split
 · simp only [List.length_take]; omega
 · split
   · simp only [List.length_take]; omega
   · split
     · split
       · simp only []
         refine Nat.le_trans (plainText_len _) ?_
         have : (inner l (textLen l)).size ≤ l.length := by unfold inner; simp [ByteArray.size]; omega
         omega
       · simp
     · simp only [List.length_take]; omega
theorem words_texts (l : List UInt8) (a : Nat) : ∀ x ∈ (wordsL l a).1, x.t.length ≤ 4 * l.length := by
 refine words_ind (fun l a r => ∀ x ∈ r.1, x.t.length ≤ 4 * l.length) (fun a => by simp) (fun l a _ _ => by simp) ?_ _ l a (Nat.le_refl _)
 intro l a hl hn ih x hx
 rcases List.mem_cons.1 hx with rfl | hx
 · exact first_len l
 · have := ih x hx
   simp only [List.length_drop] at this
   omega
theorem all_texts (s : ByteArray) : ∀ x ∈ allW s, x.t.length ≤ 32000 := by
 intro x hx
 unfold allW at hx
 split at hx
 · cases hx
 · rename_i h
   have := words_texts _ _ x hx
   have hs : s.data.toList.length = s.size := by simp
   simp only [List.length_drop, hs] at this
   omega
def letP (t : ByteArray) : Pr := if nameOk (t.extract 0 (min t.size 20)) = true then .nm t else if classOk (t.extract 0 (min t.size 20)) = true then .cl t else .fx t
def partP (k : Nat) (t : ByteArray) : Pr := if k = 1 then letP t else if k = 2 then .nu t else if k = 3 then .qu t else .fx t
def plOf (x : Wd) : Pl := (partP x.k ⟨x.t.toArray⟩, (x.a : Int))
def RS0 (s : ByteArray) : RS := ⟨(allW s).map plOf, s.size, 0, allE s, allA s, 0, 0⟩
theorem part_text (k : Nat) (t : ByteArray) : (partP k t).text = t := by
 unfold partP letP
 repeat' split
 all_goals rfl
theorem letters_any (w : World) (t : ByteArray) (ht : t.size ≤ 1000000) : Calls Tryz.prog 39 #[.string t] w fun e w' => e = .returned (letP t).V ∧ Below w.heap.size w w' := by
 obtain ⟨m, hm⟩ : ∃ m, min t.size 20 = m := ⟨_, rfl⟩
 have hmI : min (t.size : Int) 20 = (m : Int) := by rw [← hm]; omega
 have hml : m ≤ t.size := by omega
 have hm0 : (0 : Int) ≤ (m : Int) := by omega
 have hmL : (m : Int) ≤ (t.size : Int) := by omega
 obtain ⟨s, hs⟩ : ∃ s, t.extract 0 m = s := ⟨_, rfl⟩
 have hss : s.size ≤ maxLen := by rw [← hs]; simp [ByteArray.size_extract]; unfold maxLen; omega
 have HN := Lib.hid (name_any s w hss)
 have HC : Hid (∀ w', Calls Tryz.prog 69 #[.string s] w' fun e w'' => e = .returned (.bool (classOk s)) ∧ Below w'.heap.size w' w'') := by
   show ∀ w', _
   intro w'; exact class_any s w' hss
 have hR : letP t = if nameOk s = true then .nm t else if classOk s = true then .cl t else .fx t := by unfold letP; rw [hm, hs]
 rw [hR]
 clear hR
 cases h1 : nameOk s with
 | true =>
   rw [h1] at HN
   simp only [if_true, Pr.V]
   clear h1 HC hm
   go_enter Tryz.func39, Tryz.ntmps39
   go_wp2_with fail
   refine HN.out.mono ?_
   clear HN
   rintro e w1 ⟨rfl, hb⟩
   have HB := Lib.hid hb
   clear hb
   go_wp2_with fail
   go_ret
   exact ⟨rfl, HB.out⟩
 | false =>
   rw [h1] at HN
   cases h2 : classOk s with
   | true =>
     rw [h2] at HC
     simp only [if_true, Bool.false_eq_true, if_false, Pr.V]
     clear h1 h2 hm
     go_enter Tryz.func39, Tryz.ntmps39
     go_wp2_with fail
     refine HN.out.mono ?_
     clear HN
     rintro e w1 ⟨rfl, hb⟩
     have HB := Lib.hid hb
     clear hb
     go_wp2_with fail
     refine (HC.out _).mono ?_
     clear HC
     rintro e w2 ⟨rfl, hb⟩
     have HB2 := Lib.hid (HB.out.trans (hb.mono HB.out.size))
     clear hb
     go_wp2_with fail
     go_ret
     exact ⟨rfl, HB2.out⟩
   | false =>
     rw [h2] at HC
     simp only [Bool.false_eq_true, if_false, Pr.V]
     clear h1 h2 hm
     go_enter Tryz.func39, Tryz.ntmps39
     go_wp2_with fail
     refine HN.out.mono ?_
     clear HN
     rintro e w1 ⟨rfl, hb⟩
     have HB := Lib.hid hb
     clear hb
     go_wp2_with fail
     refine (HC.out _).mono ?_
     clear HC
     rintro e w2 ⟨rfl, hb⟩
     have HB2 := Lib.hid (HB.out.trans (hb.mono HB.out.size))
     clear hb
     go_wp2_with fail
     go_ret
     exact ⟨rfl, HB2.out⟩
theorem part_any (w : World) (k : Nat) (t : ByteArray) (a : Int) (ht : t.size ≤ 1000000) : Calls Tryz.prog 27 #[.agg #[.int .i64 k, .string t, .int .i64 a]] w fun e w' => e = .returned (partP k t).V ∧ Below w.heap.size w w' := by
 obtain ⟨ki, hki⟩ : ∃ ki : Int, (k : Int) = ki := ⟨_, rfl⟩
 rw [hki]
 obtain ⟨W1, hW1⟩ : ∃ W, w.alloc (.cells #[.int .i64 ki, .string t, .int .i64 a] 70) = W := ⟨_, rfl⟩
 have hb : Below w.heap.size w W1 := by rw [← hW1]; exact (Below.refl _ _).alloc (Nat.le_refl _) _
 have hx : Bx W1 w.heap.size #[.int .i64 ki, .string t, .int .i64 a] 70 := by rw [← hW1]; exact Bx.new _ _ _
 have c0 : W1.cell? ⟨w.heap.size, 0, none⟩ = some (.int .i64 ki) := hx.cell 0
 have c1 : W1.cell? ⟨w.heap.size, 1, none⟩ = some (.string t) := hx.cell 1
 have HB := Lib.hid hb
 clear hx hb
 by_cases h1 : k = 1
 · have hk1 : ki = 1 := by omega
   subst hk1 h1
   clear hki
   have HL := Lib.hid (letters_any W1 t ht)
   have HR := Lib.hid (show partP 1 t = letP t from rfl)
   rw [HR.out]
   go_enter Tryz.func27, Tryz.ntmps27
   go_wp2_with fail
   refine HL.out.mono ?_
   clear HL
   rintro e w2 ⟨rfl, hb⟩
   have HB2 := Lib.hid (HB.out.trans (hb.mono HB.out.size))
   clear hb
   obtain ⟨u, hu⟩ : ∃ u, (letP t).V = u := ⟨_, rfl⟩
   rw [hu]
   have HU := Lib.hid hu
   clear hu
   go_wp2_with fail
   go_ret
   exact ⟨by rw [HU.out]; rfl, HB2.out⟩
 have e1 : (ki == 1) = false := by rw [beq_eq_false_iff_ne]; omega
 by_cases h2 : k = 2
 · have hk2 : ki = 2 := by omega
   subst hk2 h2
   clear hki
   have HR := Lib.hid (show partP 2 t = .nu t from rfl)
   rw [HR.out]
   simp only [Pr.V]
   clear h1
   go_enter Tryz.func27, Tryz.ntmps27
   go_wp2_with fail
   go_ret
   exact ⟨rfl, HB.out⟩
 have e2 : (ki == 2) = false := by rw [beq_eq_false_iff_ne]; omega
 by_cases h3 : k = 3
 · have hk3 : ki = 3 := by omega
   subst hk3 h3
   clear hki
   have HR := Lib.hid (show partP 3 t = .qu t from rfl)
   rw [HR.out]
   simp only [Pr.V]
   clear h1 h2
   go_enter Tryz.func27, Tryz.ntmps27
   go_wp2_with fail
   go_ret
   exact ⟨rfl, HB.out⟩
 have e3 : (ki == 3) = false := by rw [beq_eq_false_iff_ne]; omega
 have HR := Lib.hid (show partP k t = .fx t by unfold partP; rw [if_neg h1, if_neg h2, if_neg h3])
 rw [HR.out]
 simp only [Pr.V]
 clear h1 h2 h3 hki
 go_enter Tryz.func27, Tryz.ntmps27
 go_wp2_with fail
 go_ret
 exact ⟨rfl, HB.out⟩
end
end Go.Proofs.YtaclhdpjkgoadaaGreatDoor
