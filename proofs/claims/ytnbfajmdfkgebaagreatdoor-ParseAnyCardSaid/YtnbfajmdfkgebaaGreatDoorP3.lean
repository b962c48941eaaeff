/- Parts of the proof: RdA, RdB, RdC, RdD, WordF, RdP. -/
import Derived.Test.YtnbfajmdfkgebaaGreatDoorP0
import Derived.Deep.RegionHeld3
import Derived.Test.YtnbfajmdfkgebaaGreatDoorP8
import Derived.Test.YtnbfajmdfkgebaaGreatDoorP7
import Derived.Test.YtnbfajmdfkgebaaGreatDoorP5
import Derived.Deep.QuietTactic
import Derived.BigQuiet
set_option maxHeartbeats 4000000
set_option maxRecDepth 100000
namespace Go.Proofs.YtnbfajmdfkgebaaGreatDoor
set_option linter.unusedSimpArgs false
set_option linter.unusedVariables false
section
open Go.RowKit
theorem Rd.cells {W0 w : World} {c : Nat} {s : RS} (h : Rd W0 c s w) : ∃ A cap, Ww W0 (.slice A s.ws.length cap) s.ws ∧ (s.ws.length ≤ cap ∧ cap ≤ maxLen ∧ s.ws.length ≤ 1000000) ∧ Bx w c #[.slice A s.ws.length cap, .int .i64 s.sz, .int .i64 s.op, .int .i64 s.wc, .int .i64 s.wa, .int .i64 s.lc, .int .i64 s.la] 57 := by
 obtain ⟨_, _, v, hw, hx⟩ := h
 obtain ⟨A, cap, rfl, h1, h2, h3⟩ := hw.form
 exact ⟨A, cap, hw, ⟨h1, h2, h3⟩, hx⟩
theorem Rd.cellsW {W0 w : World} {c : Nat} {s : RS} (h : Rd W0 c s w) : ∃ A cap, Ww w (.slice A s.ws.length cap) s.ws ∧ (s.ws.length ≤ cap ∧ cap ≤ maxLen ∧ s.ws.length ≤ 1000000) ∧ Bx w c #[.slice A s.ws.length cap, .int .i64 s.sz, .int .i64 s.op, .int .i64 s.wc, .int .i64 s.wa, .int .i64 s.lc, .int .i64 s.la] 57 := by
 obtain ⟨A, cap, hw, hm, hx⟩ := h.cells
 exact ⟨A, cap, h.lies hw, hm, hx⟩
theorem note_any (w : World) (c o : Nat) (x y k t : Int) (h0 : w.cell? ⟨c, o, none⟩ = some (.int .i64 x)) (h1 : w.cell? ⟨c, o + 1, none⟩ = some (.int .i64 y)) (f0 : w.frozen? ⟨c, o, none⟩ = false) (f1 : w.frozen? ⟨c, o + 1, none⟩ = false) :
   Calls Tryz.prog 73 #[.pointer (some ⟨c, o, none⟩), .int .i64 k, .int .i64 t] w fun e w' => e = .returned (.tuple #[]) ∧ w' = if x = 0 then ((w.alloc (.cells #[.int .i64 x, .int .i64 y] 53)).setCell ⟨c, o, none⟩ (.int .i64 k)).setCell ⟨c, o + 1, none⟩ (.int .i64 t) else w.alloc (.cells #[.int .i64 x, .int .i64 y] 53) := by
 have hlt := World.block_lt_of_cell? w (a := ⟨c, o, none⟩) h0
 have K := Keep.below ((Below.refl _ w).alloc (Nat.le_refl _) (.cells #[.int .i64 x, .int .i64 y] 53))
 have g0 := K _ _ h0
 have g1 := K _ _ h1
 have e0 : (w.alloc (.cells #[.int .i64 x, .int .i64 y] 53)).frozen? ⟨c, o, none⟩ = false := (World.frozen?_of_block (w := w) (a := ⟨c, o, none⟩) (Below.heap_alloc _ _ _ hlt)).trans f0
 have e1 : (w.alloc (.cells #[.int .i64 x, .int .i64 y] 53)).frozen? ⟨c, o + 1, none⟩ = false := (World.frozen?_of_block (w := w) (a := ⟨c, o + 1, none⟩) (Below.heap_alloc _ _ _ hlt)).trans f1
 clear K
 by_cases hx : x = 0
 · subst hx
   go_enter Tryz.func73, Tryz.ntmps73
   go_wp2_with (go_at_call 15; refine (fault_is _ _ _).mono ?_; rintro e w1 ⟨rfl, rfl⟩)
   exact bodyPost_end (v := .tuple #[]) (by simp [results, Tryz.results73, go_sem]) rfl ⟨rfl, by simp⟩
 · have hb : (x != 0) = true := by simpa using hx
   go_enter Tryz.func73, Tryz.ntmps73
   go_wp2_with (go_at_call 15; refine (fault_is _ _ _).mono ?_; rintro e w1 ⟨rfl, rfl⟩)
   exact bodyPost_end (v := .tuple #[]) (by simp [results, Tryz.results73, go_sem]) rfl ⟨rfl, by simp [hx]⟩
theorem at_any (W0 w : World) (c : Nat) (s : RS) (h : Rd W0 c s w) : Calls Tryz.prog 74 #[.pointer (some ⟨c, 0, none⟩)] w fun e w' => e = .returned (.int .i64 s.at) ∧ w = w' := by
 obtain ⟨ws, sz, op, wc, wa, lc, la⟩ := s
 obtain ⟨A, cap, hw, hm, hx⟩ := h.cellsW
 simp only at hw hm hx
 have hK : Keep w w := fun _ _ hu => hu
 have c0 := hx.cell 0; have c1 := hx.cell 1
 simp only [List.getElem?_toArray, List.getElem?_cons_succ, List.getElem?_cons_zero] at c0 c1
 simp only [RS.at]
 cases ws with
 | nil =>
   clear hw hx h hK
   go_enter Tryz.func74, Tryz.ntmps74
   go_wp2
   go_ret
   exact ⟨rfl, rfl⟩
 | cons x ws =>
   obtain ⟨b, o, y, rfl, hy, hc0, hc1⟩ := hw.get (k := 0) (by simp)
   simp at hy
   subst hy
   have d1 := hK _ _ hc1
   simp only [Nat.zero_mul, Nat.add_zero] at d1
   have hl : (0 : Int) < ((x :: ws).length : Int) := by simp
   have hl2 : (((x :: ws).length : Int) == 0) = false := by rw [beq_eq_false_iff_ne]; omega
   obtain ⟨n, hn⟩ : ∃ n, (x :: ws).length = n := ⟨_, rfl⟩
   rw [hn] at c0 hl hl2
   clear hw hx h hK hc0 hc1 hm
   go_enter Tryz.func74, Tryz.ntmps74
   go_wp2
   go_ret
   exact ⟨rfl, rfl⟩
theorem ahead_any (W0 w : World) (c k : Nat) (s : RS) (h : Rd W0 c s w) (hk : k ≤ 10) : Calls Tryz.prog 70 #[.pointer (some ⟨c, 0, none⟩), .int .i64 k] w fun e w' => e = .returned (aheadV s.ws k) ∧ w = w' := by
 obtain ⟨ws, sz, op, wc, wa, lc, la⟩ := s
 obtain ⟨A, cap, hw, hm, hx⟩ := h.cellsW
 simp only at hw hm hx
 have hK : Keep w w := fun _ _ hu => hu
 have c0 := hx.cell 0
 simp only [List.getElem?_toArray, List.getElem?_cons_zero] at c0
 simp only at hw hm c0 ⊢
 obtain ⟨n, hn⟩ : ∃ n, ws.length = n := ⟨_, rfl⟩
 rw [hn] at hw hm c0
 by_cases hlt : k < n
 · obtain ⟨b, o, y, rfl, hy, hc0, hc1⟩ := hw.get hlt
   have d0 := hK _ _ hc0
   have hv : aheadV ws k = y.1.V := by unfold aheadV; rw [hy]
   rw [hv]
   obtain ⟨V, hV⟩ : ∃ V, y.1.V = V := ⟨_, rfl⟩
   rw [hV] at d0 ⊢
   have hf : ∃ T u, V = .iface T u := by rw [← hV]; cases y.1 <;> exact ⟨_, _, rfl⟩
   obtain ⟨T, u, rfl⟩ := hf
   have hlt' : (k : Int) < n := by omega
   have hk0 : (0 : Int) ≤ k := by omega
   clear hw hx h hK hc0 hc1 hV hv hy
   go_enter Tryz.func70, Tryz.ntmps70
   go_wp2
   go_ret
   exact ⟨rfl, rfl⟩
 · have hv : aheadV ws k = .nilIface := by unfold aheadV; rw [List.getElem?_eq_none (by omega)]
   rw [hv]
   have hlt' : (n : Int) ≤ k := by omega
   clear hw hx h hK hv
   go_enter Tryz.func70, Tryz.ntmps70
   go_wp2
   go_ret
   exact ⟨rfl, rfl⟩
theorem Rd.put {W0 w : World} {c : Nat} {s s' : RS} {u : Value} (h : Rd W0 c s w) (hw : Ww W0 u s'.ws) (h1 : s'.sz = s.sz ∧ s'.op = s.op ∧ s'.wc = s.wc ∧ s'.wa = s.wa ∧ s'.lc = s.lc ∧ s'.la = s.la) : Mv W0 c s' w (w.setCell ⟨c, 0, none⟩ u) := by
 obtain ⟨A, cap, _, _, hx⟩ := h.cells
 obtain ⟨e1, e2, e3, e4, e5, e6⟩ := h1
 refine ⟨grown_setc _ _ _ _, h.1.setCell h.2.1 _, h.2.1, u, hw, ?_⟩
 rw [e1, e2, e3, e4, e5, e6]
 simpa using hx.set 0 u
theorem skip_any (W0 w : World) (c : Nat) (s : RS) (h : Rd W0 c s w) (hn : s.ws ≠ []) : Calls Tryz.prog 72 #[.pointer (some ⟨c, 0, none⟩)] w fun e w' => e = .returned (.tuple #[]) ∧ Mv W0 c s.skip w w' := by
 obtain ⟨ws, sz, op, wc, wa, lc, la⟩ := s
 obtain ⟨A, cap, hw, hm, hx⟩ := h.cells
 simp only at hw hm hx
 cases ws with
 | nil => exact absurd rfl hn
 | cons x ws =>
   obtain ⟨b, o, y, rfl, _, _, _⟩ := hw.get (k := 0) (by simp)
   have c0 := hx.cell 0
   have f0 := hx.fro 0
   simp only [List.getElem?_toArray, List.getElem?_cons_zero] at c0
   by_cases hcap : cap = 1
   · subst hcap
     have hws : ws = [] := List.eq_nil_of_length_eq_zero (by simp only [List.length_cons] at hm; omega)
     subst hws
     have HP := Lib.hid (h.put (s' := RS.skip ⟨[x], sz, op, wc, wa, lc, la⟩) (Ww.empt W0 (some ⟨b, o, none⟩) 0 (by unfold maxLen; omega)) ⟨rfl, rfl, rfl, rfl, rfl, rfl⟩)
     clear hw hx h
     go_enter Tryz.func72, Tryz.ntmps72
     go_wp2
     exact bodyPost_end (v := .tuple #[]) (by simp [results, Tryz.results72, go_sem]) rfl ⟨rfl, HP.out⟩
   · have HP := Lib.hid (h.put (s' := RS.skip ⟨x :: ws, sz, op, wc, wa, lc, la⟩) hw.tail ⟨rfl, rfl, rfl, rfl, rfl, rfl⟩)
     simp only [List.length_cons] at *
     have h1 : (1 : Int) ≤ ((ws.length + 1 : Nat) : Int) := by omega
     have h2 : ((ws.length + 1 : Nat) : Int) ≤ cap := by omega
     clear hw hx h
     go_enter Tryz.func72, Tryz.ntmps72
     go_wp2
     exact bodyPost_end (v := .tuple #[]) (by simp [results, Tryz.results72, go_sem]) rfl ⟨rfl, HP.out⟩
theorem Mv.below {W0 w w' : World} {c : Nat} {s : RS} (hb : Below w.heap.size w w') (h : Rd W0 c s w) : Mv W0 c s w w' := by
 obtain ⟨h1, h2, v, hw, hx⟩ := h
 exact ⟨⟨hb.os, hb.tape, hb.output, hb.size, fun k hk _ => hb.block k hk⟩, h1.trans (hb.mono h1.size), h2, v, hw, hx.next hb⟩
theorem Rd.noted {W0 w : World} {c : Nat} {s : RS} (h : Rd W0 c s w) (k t : Int) :
   Mv W0 c (if s.wc = 0 then { s with wc := k, wa := t } else s) w (if s.wc = 0 then ((w.alloc (.cells #[.int .i64 s.wc, .int .i64 s.wa] 53)).setCell ⟨c, 3, none⟩ (.int .i64 k)).setCell ⟨c, 4, none⟩ (.int .i64 t) else w.alloc (.cells #[.int .i64 s.wc, .int .i64 s.wa] 53)) := by
 have hb := (Below.refl _ w).alloc (Nat.le_refl _) (.cells #[.int .i64 s.wc, .int .i64 s.wa] 53)
 have hm := Mv.below hb h
 split
 · obtain ⟨hg, h1, h2, v, hw, hx⟩ := hm
   refine ⟨(hg.trans (grown_setc _ _ _ _)).trans (grown_setc _ _ _ _), (h1.setCell h2 _).setCell h2 _, h2, v, hw, ?_⟩
   have := (hx.set 3 (.int .i64 k)).set 4 (.int .i64 t)
   simpa using this
 · exact hm
theorem fail_any (W0 w : World) (c : Nat) (s : RS) (k : Int) (h : Rd W0 c s w) : Calls Tryz.prog 50 #[.pointer (some ⟨c, 0, none⟩), .int .i64 k] w fun e w' => e = .returned (.tuple #[]) ∧ Mv W0 c (s.fail k) w w' := by
 have HA := Lib.hid (at_any W0 w.drew c s h.drew)
 obtain ⟨A, cap, hw, hm, hx⟩ := h.cells
 have c3 := hx.cell 3; have c4 := hx.cell 4; have f3 := hx.fro 3; have f4 := hx.fro 4
 simp only [List.getElem?_toArray, List.getElem?_cons_succ, List.getElem?_cons_zero] at c3 c4
 have HN := Lib.hid (note_any w.drew c 3 s.wc s.wa k s.at c3 c4 f3 f4)
 obtain ⟨w2, hw2⟩ : ∃ w2, (if s.wc = 0 then (((w.drew).alloc (.cells #[.int .i64 s.wc, .int .i64 s.wa] 53)).setCell ⟨c, 3, none⟩ (.int .i64 k)).setCell ⟨c, 4, none⟩ (.int .i64 s.at) else (w.drew).alloc (.cells #[.int .i64 s.wc, .int .i64 s.wa] 53)) = w2 := ⟨_, rfl⟩
 have hn := h.drew.noted k s.at
 rw [hw2] at hn
 rw [hw2] at HN
 have hmv : Mv W0 c (s.fail k) w (w2.setCell ⟨c, 0, none⟩ (.slice none 0 0)) := by
   have hp := Rd.put (s' := s.fail k) (u := .slice none 0 0) hn.2 (by unfold RS.fail; split <;> exact Ww.nil _) (by unfold RS.fail; split <;> exact ⟨rfl, rfl, rfl, rfl, rfl, rfl⟩)
   exact ⟨(⟨rfl, rfl, rfl, Nat.le_refl _, fun _ _ _ => rfl⟩ : w.grownBy w.drew (some c)).trans (hn.1.trans hp.1), hp.2⟩
 obtain ⟨_, _, _, _, hx2⟩ := hn.2
 have d0 := hx2.cell 0
 have g0 := hx2.fro 0
 simp only [List.getElem?_toArray, List.getElem?_cons_zero] at d0
 have HM := Lib.hid hmv
 obtain ⟨t, ht⟩ : ∃ t, s.at = t := ⟨_, rfl⟩
 rw [ht] at HA HN
 clear hw hm hx c3 c4 f3 f4 hw2 hn hmv hx2 h ht
 go_enter Tryz.func50, Tryz.ntmps50
 go_wp2_with fail
 go_region_with (first
   | (go_at_call 74; refine HA.out.mono ?_; clear HA; rintro e w1 ⟨rfl, rfl⟩)
   | (go_at_call 73; refine HN.out.mono ?_; clear HN; rintro e w1 ⟨rfl, rfl⟩))
 all_goals
   go_wp2_with fail
   exact bodyPost_end (v := .tuple #[]) (by simp [results, Tryz.results50, go_sem]) rfl ⟨rfl, HM.out⟩
end
section
open Go.RowKit
theorem sees_fx {s : RS} {n : Nat} {t p : ByteArray} {a : Int} (h : s.ws[n]? = some (.fx t, a)) : s.sees n p = (t.toList == p.toList) := by simp [RS.sees, seesP, h]
theorem seesAt_any (W0 w : World) (c n : Nat) (s : RS) (p : ByteArray) (h : Rd W0 c s w) (hn : n ≤ 10) : Calls Tryz.prog 116 #[.pointer (some ⟨c, 0, none⟩), .int .i64 n, .string p] w fun e w' => e = .returned (.bool (s.sees n p)) ∧ w = w' := by
 have HA := Lib.hid (ahead_any W0 w c n s h hn)
 clear h
 cases hx : s.ws[n]? with
 | none =>
   have hs : s.sees n p = false := by simp [RS.sees, seesP, hx]
   have hv : aheadV s.ws n = .nilIface := by simp [aheadV, hx]
   rw [hv] at HA
   rw [hs]
   clear hx hv hs
   go_enter Tryz.func116, Tryz.ntmps116
   go_wp2_with (go_at_call 70; refine HA.out.mono ?_; clear HA; rintro e w1 ⟨rfl, rfl⟩)
   go_ret
   exact ⟨rfl, rfl⟩
 | some x =>
   obtain ⟨q, a⟩ := x
   have hv : aheadV s.ws n = q.V := by simp [aheadV, hx]
   rw [hv] at HA
   cases q with
   | fx t =>
     rw [sees_fx hx]
     simp only [Pr.V] at HA
     obtain ⟨r, hr⟩ : ∃ r, (t.toList == p.toList) = r := ⟨_, rfl⟩
     rw [hr]
     clear hx hv
     go_enter Tryz.func116, Tryz.ntmps116
     go_wp2_with (go_at_call 70; refine HA.out.mono ?_; clear HA; rintro e w1 ⟨rfl, rfl⟩)
     go_ret
     exact ⟨rfl, rfl⟩
   | nm t | cl t | nu t | qu t =>
     have hs : s.sees n p = false := by simp [RS.sees, seesP, hx]
     rw [hs]
     simp only [Pr.V] at HA
     clear hx hv hs
     go_enter Tryz.func116, Tryz.ntmps116
     go_wp2_with (go_at_call 70; refine HA.out.mono ?_; clear HA; rintro e w1 ⟨rfl, rfl⟩)
     go_ret
     exact ⟨rfl, rfl⟩
theorem sees_any (W0 w : World) (c : Nat) (s : RS) (p : ByteArray) (h : Rd W0 c s w) : Calls Tryz.prog 83 #[.pointer (some ⟨c, 0, none⟩), .string p] w fun e w' => e = .returned (.bool (s.sees 0 p)) ∧ w = w' := by
 have HA := Lib.hid (seesAt_any W0 w c 0 s p h (by omega))
 obtain ⟨r, hr⟩ : ∃ r, s.sees 0 p = r := ⟨_, rfl⟩
 rw [hr] at HA ⊢
 clear h hr
 go_enter Tryz.func83, Tryz.ntmps83
 go_wp2_with (go_at_call 116; refine HA.out.mono ?_; clear HA; rintro e w1 ⟨rfl, rfl⟩)
 go_ret
 exact ⟨rfl, rfl⟩
theorem sees_ne {s : RS} {p : ByteArray} (h : s.sees 0 p = true) : s.ws ≠ [] := by
 intro e; simp [RS.sees, seesP, e] at h
theorem take_any (W0 w : World) (c : Nat) (s : RS) (p : ByteArray) (h : Rd W0 c s w) : Calls Tryz.prog 57 #[.pointer (some ⟨c, 0, none⟩), .string p] w fun e w' => e = .returned (.bool (s.sees 0 p)) ∧ Mv W0 c (s.take p) w w' := by
 have HA := Lib.hid (sees_any W0 w c s p h)
 cases hr : s.sees 0 p with
 | false =>
   have HM : Hid (Mv W0 c (s.take p) w w) := by show Mv _ _ _ _ _; rw [RS.take, if_neg (by simp [hr])]; exact Mv.refl h
   rw [hr] at HA
   clear h hr
   go_enter Tryz.func57, Tryz.ntmps57
   go_wp2_with (go_at_call 83; refine HA.out.mono ?_; clear HA; rintro e w1 ⟨rfl, rfl⟩)
   go_ret
   exact ⟨rfl, HM.out⟩
 | true =>
   have HS := Lib.hid (skip_any W0 w c s h (sees_ne hr))
   have HE := Lib.hid (show s.take p = s.skip by rw [RS.take, if_pos hr])
   rw [hr] at HA
   clear h hr
   go_enter Tryz.func57, Tryz.ntmps57
   go_wp2_with (first | (go_at_call 83; refine HA.out.mono ?_; clear HA; rintro e w1 ⟨rfl, rfl⟩) | (go_at_call 72; refine HS.out.mono ?_; clear HS; rintro e w1 ⟨rfl, hm⟩; have HM := Lib.hid hm; clear hm))
   go_ret
   exact ⟨rfl, by rw [HE.out]; exact HM.out⟩
theorem need_any (W0 w : World) (c : Nat) (s : RS) (p : ByteArray) (h : Rd W0 c s w) : Calls Tryz.prog 55 #[.pointer (some ⟨c, 0, none⟩), .string p] w fun e w' => e = .returned (.tuple #[]) ∧ Mv W0 c (s.need p) w w' := by
 have HA := Lib.hid (take_any W0 w c s p h)
 cases hr : s.sees 0 p with
 | true =>
   have HE := Lib.hid (show s.need p = s.take p by rw [RS.need, RS.take, if_pos hr, if_pos hr])
   rw [hr] at HA
   clear h hr
   go_enter Tryz.func55, Tryz.ntmps55
   go_wp2_with (go_at_call 57; refine HA.out.mono ?_; clear HA; rintro e w1 ⟨rfl, hm⟩; have HM := Lib.hid hm; clear hm)
   exact bodyPost_end (v := .tuple #[]) (by simp [results, Tryz.results55, go_sem]) rfl ⟨rfl, by rw [HE.out]; exact HM.out⟩
 | false =>
   have hE : s.need p = s.fail 3 := by rw [RS.need, if_neg (by simp [hr])]
   have hT : s.take p = s := by rw [RS.take, if_neg (by simp [hr])]
   rw [hT] at HA
   have HE := Lib.hid hE
   rw [hr] at HA
   have HF : Hid (∀ w', Rd W0 c s w' → Calls Tryz.prog 50 #[.pointer (some ⟨c, 0, none⟩), .int .i64 3] w' fun e w'' => e = .returned (.tuple #[]) ∧ Mv W0 c (s.fail 3) w' w'') := by
     show ∀ w', _
     intro w' h'; exact fail_any W0 w' c s 3 h'
   clear h hr hE hT
   go_enter Tryz.func55, Tryz.ntmps55
   go_wp2_with (first | (go_at_call 57; refine HA.out.mono ?_; clear HA; rintro e w1 ⟨rfl, hm⟩; have HM := Lib.hid hm; clear hm) | (go_at_call 50; refine (HF.out _ HM.out.2).mono ?_; clear HF; rintro e w2 ⟨rfl, hm⟩; have HM2 := Lib.hid (HM.out.trans hm); clear hm))
   exact bodyPost_end (v := .tuple #[]) (by simp [results, Tryz.results55, go_sem]) rfl ⟨rfl, by rw [HE.out]; exact HM2.out⟩
end
section
open Go.RowKit
def RS.inc (r : RS) : RS := { r with op := wrap64 (r.op + 1) }
def RS.dec (r : RS) : RS := { r with op := wrap64 (r.op - 1) }
def RS.enter (r : RS) (p : ByteArray) : RS := ((if r.op = 41 ∧ r.sees 0 p = true then r.fail 4 else r).need p).inc
def RS.leave (r : RS) (p : ByteArray) : RS := (r.need p).dec
def RS.called (r : RS) (t : ByteArray) (is : Bool) : RS := if is = true then (if 20 < t.size then r.fail 5 else r.skip) else r.fail 3
def RS.calledV (t : ByteArray) (is : Bool) : ByteArray := if is = true ∧ t.size ≤ 20 then t else ⟨#[]⟩
def nmP : Option Pl → Option ByteArray
 | some (.nm t, _) => some t
 | _ => none
def clP : Option Pl → Option ByteArray
 | some (.cl t, _) => some t
 | _ => none
def RS.byO (r : RS) (o : Option ByteArray) : RS := match o with | some t => r.called t true | none => r.called ⟨#[]⟩ false
def byV (o : Option ByteArray) : ByteArray := match o with | some t => RS.calledV t true | none => ⟨#[]⟩
def RS.name (r : RS) : RS := r.byO (nmP r.ws[0]?)
def RS.nameV (r : RS) : ByteArray := byV (nmP r.ws[0]?)
def RS.class (r : RS) : RS := r.byO (clP r.ws[0]?)
def RS.classV (r : RS) : ByteArray := byV (clP r.ws[0]?)
theorem Rd.inc {W0 w : World} {c : Nat} {s : RS} (h : Rd W0 c s w) : Mv W0 c s.inc w (w.setCell ⟨c, 2, none⟩ (.int .i64 (wrap64 (s.op + 1)))) := by
 obtain ⟨h1, h2, v, hw, hx⟩ := h
 refine ⟨grown_setc _ _ _ _, h1.setCell h2 _, h2, v, hw, ?_⟩
 have := hx.set 2 (.int .i64 (wrap64 (s.op + 1)))
 simpa [RS.inc] using this
theorem Rd.dec {W0 w : World} {c : Nat} {s : RS} (h : Rd W0 c s w) : Mv W0 c s.dec w (w.setCell ⟨c, 2, none⟩ (.int .i64 (wrap64 (s.op - 1)))) := by
 obtain ⟨h1, h2, v, hw, hx⟩ := h
 refine ⟨grown_setc _ _ _ _, h1.setCell h2 _, h2, v, hw, ?_⟩
 have := hx.set 2 (.int .i64 (wrap64 (s.op - 1)))
 simpa [RS.dec] using this
theorem ret_str {a b : ByteArray} (h : b = a) : Ending.returned (.string a) = .returned (.string b) := by rw [h]
theorem Rd.op {W0 w : World} {c : Nat} {s : RS} (h : Rd W0 c s w) : w.cell? ⟨c, 2, none⟩ = some (.int .i64 s.op) ∧ w.frozen? ⟨c, 2, none⟩ = false := by
 obtain ⟨_, _, v, _, hx⟩ := h
 exact ⟨by simpa using hx.cell 2, hx.fro 2⟩
theorem enter_any (W0 w : World) (c : Nat) (s : RS) (p : ByteArray) (h : Rd W0 c s w) : Calls Tryz.prog 101 #[.pointer (some ⟨c, 0, none⟩), .string p] w fun e w' => e = .returned (.tuple #[]) ∧ Mv W0 c (s.enter p) w w' := by
 have HA := Lib.hid (sees_any W0 w c s p h)
 have HF : Hid (∀ w', Rd W0 c s w' → Calls Tryz.prog 50 #[.pointer (some ⟨c, 0, none⟩), .int .i64 4] w' fun e w'' => e = .returned (.tuple #[]) ∧ Mv W0 c (s.fail 4) w' w'') := by
   show ∀ w', _
   intro w' h'; exact fail_any W0 w' c s 4 h'
 have HN : Hid (∀ (s' : RS) w', Rd W0 c s' w' → Calls Tryz.prog 55 #[.pointer (some ⟨c, 0, none⟩), .string p] w' fun e w'' => e = .returned (.tuple #[]) ∧ Mv W0 c (s'.need p) w' w'') := by
   show ∀ s' w', _
   intro s' w' h'; exact need_any W0 w' c s' p h'
 obtain ⟨c2, f2⟩ := h.op
 have H := Lib.hid h
 obtain ⟨o, ho⟩ : ∃ o, s.op = o := ⟨_, rfl⟩
 rw [ho] at c2
 cases hr : s.sees 0 p with
 | false =>
   have HE := Lib.hid (show s.enter p = (s.need p).inc by unfold RS.enter; rw [if_neg (by simp [hr])])
   rw [hr] at HA
   by_cases ho41 : o = 41
   · subst ho41
     clear h hr ho
     go_enter Tryz.func101, Tryz.ntmps101
     go_wp2_with (first | (go_at_call 83; refine HA.out.mono ?_; clear HA; rintro e w1 ⟨rfl, rfl⟩) | (go_at_call 55; refine (HN.out s _ H.out).mono ?_; clear HN; rintro e w1 ⟨rfl, hm⟩; obtain ⟨d2, g2⟩ := hm.2.op; have HM := Lib.hid (hm.trans hm.2.inc); clear hm))
     exact bodyPost_end (v := .tuple #[]) (by simp [results, Tryz.results101, go_sem]) rfl ⟨rfl, by rw [HE.out]; exact HM.out⟩
   · have hob : (o == 41) = false := by rw [beq_eq_false_iff_ne]; exact ho41
     clear h hr ho
     go_enter Tryz.func101, Tryz.ntmps101
     go_wp2_with (first | (go_at_call 83; refine HA.out.mono ?_; clear HA; rintro e w1 ⟨rfl, rfl⟩) | (go_at_call 55; refine (HN.out s _ H.out).mono ?_; clear HN; rintro e w1 ⟨rfl, hm⟩; obtain ⟨d2, g2⟩ := hm.2.op; have HM := Lib.hid (hm.trans hm.2.inc); clear hm))
     exact bodyPost_end (v := .tuple #[]) (by simp [results, Tryz.results101, go_sem]) rfl ⟨rfl, by rw [HE.out]; exact HM.out⟩
 | true =>
   rw [hr] at HA
   by_cases ho41 : o = 41
   · have HE := Lib.hid (show s.enter p = ((s.fail 4).need p).inc by unfold RS.enter; rw [if_pos ⟨by omega, hr⟩])
     subst ho41
     clear h hr ho
     go_enter Tryz.func101, Tryz.ntmps101
     go_wp2_with (first | (go_at_call 83; refine HA.out.mono ?_; clear HA; rintro e w1 ⟨rfl, rfl⟩) | (go_at_call 50; refine (HF.out _ H.out).mono ?_; clear HF; rintro e w1 ⟨rfl, hm⟩; have HM1 := Lib.hid hm; clear hm) | (go_at_call 55; refine (HN.out (s.fail 4) _ HM1.out.2).mono ?_; clear HN; rintro e w2 ⟨rfl, hm⟩; obtain ⟨d2, g2⟩ := hm.2.op; have HM := Lib.hid ((HM1.out.trans hm).trans hm.2.inc); clear hm))
     exact bodyPost_end (v := .tuple #[]) (by simp [results, Tryz.results101, go_sem]) rfl ⟨rfl, by rw [HE.out]; exact HM.out⟩
   · have HE := Lib.hid (show s.enter p = (s.need p).inc by unfold RS.enter; rw [if_neg (by rintro ⟨g, _⟩; omega)])
     have hob : (o == 41) = false := by rw [beq_eq_false_iff_ne]; exact ho41
     clear h hr ho
     go_enter Tryz.func101, Tryz.ntmps101
     go_wp2_with (first | (go_at_call 83; refine HA.out.mono ?_; clear HA; rintro e w1 ⟨rfl, rfl⟩) | (go_at_call 55; refine (HN.out s _ H.out).mono ?_; clear HN; rintro e w1 ⟨rfl, hm⟩; obtain ⟨d2, g2⟩ := hm.2.op; have HM := Lib.hid (hm.trans hm.2.inc); clear hm))
     exact bodyPost_end (v := .tuple #[]) (by simp [results, Tryz.results101, go_sem]) rfl ⟨rfl, by rw [HE.out]; exact HM.out⟩
theorem leave_any (W0 w : World) (c : Nat) (s : RS) (p : ByteArray) (h : Rd W0 c s w) : Calls Tryz.prog 142 #[.pointer (some ⟨c, 0, none⟩), .string p] w fun e w' => e = .returned (.tuple #[]) ∧ Mv W0 c (s.leave p) w w' := by
 have HN := Lib.hid (need_any W0 w c s p h)
 clear h
 go_enter Tryz.func142, Tryz.ntmps142
 go_wp2_with (go_at_call 55; refine HN.out.mono ?_; clear HN; rintro e w1 ⟨rfl, hm⟩; obtain ⟨d2, g2⟩ := hm.2.op; have HM := Lib.hid (hm.trans hm.2.dec); clear hm)
 exact bodyPost_end (v := .tuple #[]) (by simp [results, Tryz.results142, go_sem]) rfl ⟨rfl, HM.out⟩
theorem called_any (W0 w : World) (c : Nat) (s : RS) (t : ByteArray) (is : Bool) (h : Rd W0 c s w) (hne : is = true → s.ws ≠ []) (ht : t.size ≤ maxLen) : Calls Tryz.prog 82 #[.pointer (some ⟨c, 0, none⟩), .string t, .bool is] w fun e w' => e = .returned (.string (RS.calledV t is)) ∧ Mv W0 c (s.called t is) w w' := by
 unfold maxLen at ht
 cases is with
 | false =>
   have HF := Lib.hid (fail_any W0 w c s 3 h)
   have HE := Lib.hid (show s.called t false = s.fail 3 by simp [RS.called])
   have HV := Lib.hid (show RS.calledV t false = ⟨#[]⟩ by simp [RS.calledV])
   clear h hne
   go_enter Tryz.func82, Tryz.ntmps82
   go_wp2_with (go_at_call 50; refine HF.out.mono ?_; clear HF; rintro e w1 ⟨rfl, hm⟩; have HM := Lib.hid hm; clear hm)
   go_ret
   exact ⟨ret_str HV.out, by rw [HE.out]; exact HM.out⟩
 | true =>
   by_cases hl : t.size ≤ 20
   · have HS := Lib.hid (skip_any W0 w c s h (hne rfl))
     have HE := Lib.hid (show s.called t true = s.skip by rw [RS.called, if_pos rfl, if_neg (by omega)])
     have HV := Lib.hid (show RS.calledV t true = t by simp [RS.calledV, hl])
     have hl' : (t.size : Int) ≤ 20 := by omega
     clear h hne
     go_enter Tryz.func82, Tryz.ntmps82
     go_wp2_with (go_at_call 72; refine HS.out.mono ?_; clear HS; rintro e w1 ⟨rfl, hm⟩; have HM := Lib.hid hm; clear hm)
     go_ret
     exact ⟨ret_str HV.out, by rw [HE.out]; exact HM.out⟩
   · have HF := Lib.hid (fail_any W0 w c s 5 h)
     have HE := Lib.hid (show s.called t true = s.fail 5 by rw [RS.called, if_pos rfl, if_pos (by omega)])
     have HV := Lib.hid (show RS.calledV t true = ⟨#[]⟩ by simp [RS.calledV, hl])
     have hl' : (20 : Int) < (t.size : Int) := by omega
     clear h hne
     go_enter Tryz.func82, Tryz.ntmps82
     go_wp2_with (go_at_call 50; refine HF.out.mono ?_; clear HF; rintro e w1 ⟨rfl, hm⟩; have HM := Lib.hid hm; clear hm)
     go_ret
     exact ⟨ret_str HV.out, by rw [HE.out]; exact HM.out⟩
theorem Rd.short {W0 w : World} {c : Nat} {s : RS} (h : Rd W0 c s w) {n : Nat} {x : Pl} (hx : s.ws[n]? = some x) : x.1.text.size ≤ 1000000 := by
 obtain ⟨_, _, v, ⟨_, _, _, _, ht, _⟩, _⟩ := h
 exact ht x (List.mem_of_getElem? hx)
theorem Rd.text {W0 w : World} {c : Nat} {s : RS} (h : Rd W0 c s w) {n : Nat} {x : Pl} (hx : s.ws[n]? = some x) : x.1.text.size ≤ maxLen := Nat.le_trans (h.short hx) (by unfold maxLen; omega)
theorem ne_of_get {l : List Pl} {n : Nat} {x : Pl} (h : l[n]? = some x) : l ≠ [] := by rintro rfl; simp at h
theorem nameR_any (W0 w : World) (c : Nat) (s : RS) (h : Rd W0 c s w) : Calls Tryz.prog 87 #[.pointer (some ⟨c, 0, none⟩)] w fun e w' => e = .returned (.string s.nameV) ∧ Mv W0 c s.name w w' := by
 have HA := Lib.hid (ahead_any W0 w c 0 s h (by omega))
 cases hx : s.ws[0]? with
 | none =>
   have HC := Lib.hid (called_any W0 w c s ⟨#[]⟩ false h (by simp) (Nat.zero_le _))
   have HE := Lib.hid (show s.name = s.called ⟨#[]⟩ false by simp [RS.name, nmP, hx, RS.byO])
   have HV := Lib.hid (show s.nameV = RS.calledV ⟨#[]⟩ false by simp [RS.nameV, nmP, hx, byV, RS.calledV])
   have hv : aheadV s.ws 0 = .nilIface := by simp [aheadV, hx]
   rw [hv] at HA
   clear hx hv h
   go_enter Tryz.func87, Tryz.ntmps87
   go_wp2_with (first | (go_at_call 70; refine HA.out.mono ?_; clear HA; rintro e w1 ⟨rfl, rfl⟩) | (go_at_call 82; refine HC.out.mono ?_; clear HC; rintro e w1 ⟨rfl, hm⟩; have HM := Lib.hid hm; clear hm))
   go_ret
   exact ⟨ret_str HV.out, by rw [HE.out]; exact HM.out⟩
 | some x =>
   obtain ⟨q, a⟩ := x
   have hv : aheadV s.ws 0 = q.V := by simp [aheadV, hx]
   rw [hv] at HA
   cases q with
   | nm t =>
     have HC := Lib.hid (called_any W0 w c s t true h (fun _ => ne_of_get hx) (h.text hx))
     have HE := Lib.hid (show s.name = s.called t true by simp [RS.name, nmP, hx, RS.byO])
     have HV := Lib.hid (show s.nameV = RS.calledV t true by simp [RS.nameV, nmP, hx, byV])
     simp only [Pr.V] at HA
     clear hx hv h
     go_enter Tryz.func87, Tryz.ntmps87
     go_wp2_with (first | (go_at_call 70; refine HA.out.mono ?_; clear HA; rintro e w1 ⟨rfl, rfl⟩) | (go_at_call 82; refine HC.out.mono ?_; clear HC; rintro e w1 ⟨rfl, hm⟩; have HM := Lib.hid hm; clear hm))
     go_ret
     exact ⟨ret_str HV.out, by rw [HE.out]; exact HM.out⟩
   | fx t | cl t | nu t | qu t =>
     have HC := Lib.hid (called_any W0 w c s ⟨#[]⟩ false h (by simp) (Nat.zero_le _))
     have HE := Lib.hid (show s.name = s.called ⟨#[]⟩ false by simp [RS.name, nmP, hx, RS.byO])
     have HV := Lib.hid (show s.nameV = RS.calledV ⟨#[]⟩ false by simp [RS.nameV, nmP, hx, byV, RS.calledV])
     simp only [Pr.V] at HA
     clear hx hv h
     go_enter Tryz.func87, Tryz.ntmps87
     go_wp2_with (first | (go_at_call 70; refine HA.out.mono ?_; clear HA; rintro e w1 ⟨rfl, rfl⟩) | (go_at_call 82; refine HC.out.mono ?_; clear HC; rintro e w1 ⟨rfl, hm⟩; have HM := Lib.hid hm; clear hm))
     go_ret
     exact ⟨ret_str HV.out, by rw [HE.out]; exact HM.out⟩
theorem classR_any (W0 w : World) (c : Nat) (s : RS) (h : Rd W0 c s w) : Calls Tryz.prog 56 #[.pointer (some ⟨c, 0, none⟩)] w fun e w' => e = .returned (.string s.classV) ∧ Mv W0 c s.class w w' := by
 have HA := Lib.hid (ahead_any W0 w c 0 s h (by omega))
 cases hx : s.ws[0]? with
 | none =>
   have HC := Lib.hid (called_any W0 w c s ⟨#[]⟩ false h (by simp) (Nat.zero_le _))
   have HE := Lib.hid (show s.class = s.called ⟨#[]⟩ false by simp [RS.class, clP, hx, RS.byO])
   have HV := Lib.hid (show s.classV = RS.calledV ⟨#[]⟩ false by simp [RS.classV, clP, hx, byV, RS.calledV])
   have hv : aheadV s.ws 0 = .nilIface := by simp [aheadV, hx]
   rw [hv] at HA
   clear hx hv h
   go_enter Tryz.func56, Tryz.ntmps56
   go_wp2_with (first | (go_at_call 70; refine HA.out.mono ?_; clear HA; rintro e w1 ⟨rfl, rfl⟩) | (go_at_call 82; refine HC.out.mono ?_; clear HC; rintro e w1 ⟨rfl, hm⟩; have HM := Lib.hid hm; clear hm))
   go_ret
   exact ⟨ret_str HV.out, by rw [HE.out]; exact HM.out⟩
 | some x =>
   obtain ⟨q, a⟩ := x
   have hv : aheadV s.ws 0 = q.V := by simp [aheadV, hx]
   rw [hv] at HA
   cases q with
   | cl t =>
     have HC := Lib.hid (called_any W0 w c s t true h (fun _ => ne_of_get hx) (h.text hx))
     have HE := Lib.hid (show s.class = s.called t true by simp [RS.class, clP, hx, RS.byO])
     have HV := Lib.hid (show s.classV = RS.calledV t true by simp [RS.classV, clP, hx, byV])
     simp only [Pr.V] at HA
     clear hx hv h
     go_enter Tryz.func56, Tryz.ntmps56
     go_wp2_with (first | (go_at_call 70; refine HA.out.mono ?_; clear HA; rintro e w1 ⟨rfl, rfl⟩) | (go_at_call 82; refine HC.out.mono ?_; clear HC; rintro e w1 ⟨rfl, hm⟩; have HM := Lib.hid hm; clear hm))
     go_ret
     exact ⟨ret_str HV.out, by rw [HE.out]; exact HM.out⟩
   | fx t | nm t | nu t | qu t =>
     have HC := Lib.hid (called_any W0 w c s ⟨#[]⟩ false h (by simp) (Nat.zero_le _))
     have HE := Lib.hid (show s.class = s.called ⟨#[]⟩ false by simp [RS.class, clP, hx, RS.byO])
     have HV := Lib.hid (show s.classV = RS.calledV ⟨#[]⟩ false by simp [RS.classV, clP, hx, byV, RS.calledV])
     simp only [Pr.V] at HA
     clear hx hv h
     go_enter Tryz.func56, Tryz.ntmps56
     go_wp2_with (first | (go_at_call 70; refine HA.out.mono ?_; clear HA; rintro e w1 ⟨rfl, rfl⟩) | (go_at_call 82; refine HC.out.mono ?_; clear HC; rintro e w1 ⟨rfl, hm⟩; have HM := Lib.hid hm; clear hm))
     go_ret
     exact ⟨ret_str HV.out, by rw [HE.out]; exact HM.out⟩
end
section
open Go.RowKit
theorem Rd.words {W0 w : World} {c : Nat} {s : RS} (h : Rd W0 c s w) : ∃ A cap, w.cell? ⟨c, 0, none⟩ = some (.slice A s.ws.length cap) ∧ s.ws.length ≤ 1000000 := by
 obtain ⟨A, cap, _, hm, hx⟩ := h.cells
 exact ⟨A, cap, by simpa using hx.cell 0, hm.2.2⟩
theorem end_any (W0 w : World) (c : Nat) (s : RS) (h : Rd W0 c s w) : Calls Tryz.prog 29 #[.pointer (some ⟨c, 0, none⟩)] w fun e w' => e = .returned (.tuple #[]) ∧ Mv W0 c s.fin w w' := by
 obtain ⟨A, cap, c0, hm⟩ := h.words
 have HF := Lib.hid (fail_any W0 w c s 3 h)
 cases hws : s.ws with
 | nil =>
   have HM : Hid (Mv W0 c s.fin w w) := by show Mv _ _ _ _ _; rw [RS.fin, if_pos (by simp [hws])]; exact Mv.refl h
   rw [hws] at c0
   simp only [List.length_nil] at c0
   clear h hws HF hm
   go_enter Tryz.func29, Tryz.ntmps29
   go_wp2
   exact bodyPost_end (v := .tuple #[]) (by simp [results, Tryz.results29, go_sem]) rfl ⟨rfl, HM.out⟩
 | cons x l =>
   have HE := Lib.hid (show s.fin = s.fail 3 by rw [RS.fin, if_neg (by simp [hws])])
   obtain ⟨n, hn⟩ : ∃ n, s.ws.length = n := ⟨_, rfl⟩
   have hp : (0 : Int) < (n : Int) := by have : s.ws.length = l.length + 1 := by simp [hws]
                                         omega
   rw [hn] at c0
   clear h hws hn hm
   go_enter Tryz.func29, Tryz.ntmps29
   go_wp2_with (go_at_call 50; refine HF.out.mono ?_; clear HF; rintro e w1 ⟨rfl, hm⟩; have HM := Lib.hid hm; clear hm)
   exact bodyPost_end (v := .tuple #[]) (by simp [results, Tryz.results29, go_sem]) rfl ⟨rfl, by rw [HE.out]; exact HM.out⟩
theorem ret_b {a b : Bool} (h : b = a) : Ending.returned (.bool a) = .returned (.bool b) := by rw [h]
theorem until_any (W0 w : World) (c : Nat) (s : RS) (p : ByteArray) (h : Rd W0 c s w) : Calls Tryz.prog 58 #[.pointer (some ⟨c, 0, none⟩), .string p] w fun e w' => e = .returned (.bool (s.until p)) ∧ w = w' := by
 obtain ⟨A, cap, c0, hm⟩ := h.words
 have HA := Lib.hid (sees_any W0 w c s p h)
 cases hws : s.ws with
 | nil =>
   have HE := Lib.hid (show s.until p = false by simp [RS.until, hws])
   rw [hws] at c0
   simp only [List.length_nil] at c0
   clear h hws HA hm
   go_enter Tryz.func58, Tryz.ntmps58
   go_wp2
   go_ret
   exact ⟨ret_b HE.out, rfl⟩
 | cons x l =>
   obtain ⟨q, hq⟩ : ∃ q, s.sees 0 p = q := ⟨_, rfl⟩
   have HE := Lib.hid (show s.until p = !q by simp [RS.until, hws, hq])
   rw [hq] at HA
   obtain ⟨n, hn⟩ : ∃ n, s.ws.length = n := ⟨_, rfl⟩
   have hp : (0 : Int) < (n : Int) := by have : s.ws.length = l.length + 1 := by simp [hws]
                                         omega
   rw [hn] at c0
   clear h hws hn hq hm
   go_enter Tryz.func58, Tryz.ntmps58
   go_wp2_with (go_at_call 83; refine HA.out.mono ?_; clear HA; rintro e w1 ⟨rfl, rfl⟩)
   go_ret
   exact ⟨ret_b HE.out, rfl⟩
def tInt : ByteArray := ⟨#[105, 110, 116]⟩
def tBool : ByteArray := ⟨#[98, 111, 111, 108, 101, 97, 110]⟩
def tStr : ByteArray := ⟨#[83, 116, 114, 105, 110, 103]⟩
def RS.typ (r : RS) : RS := if r.sees 0 tInt = true then r.skip else if r.sees 0 tBool = true then r.skip else if r.sees 0 tStr = true then r.skip else r.class
def RS.typV (r : RS) : ByteArray := if r.sees 0 tInt = true then tInt else if r.sees 0 tBool = true then tBool else if r.sees 0 tStr = true then tStr else r.classV
theorem take_yes {s : RS} {p : ByteArray} (h : s.sees 0 p = true) : s.take p = s.skip := by rw [RS.take, if_pos h]
theorem take_no {s : RS} {p : ByteArray} (h : s.sees 0 p = false) : s.take p = s := by rw [RS.take, if_neg (by simp [h])]
@[go_sem] theorem index3_0 (a b d : Value) (w : World) : (Instr.index 159 (.agg #[a, b, d]) (.int .i64 0)).run Tryz.prog w = .ok a w := by kernel_rfl
@[go_sem] theorem index3_1 (a b d : Value) (w : World) : (Instr.index 159 (.agg #[a, b, d]) (.int .i64 1)).run Tryz.prog w = .ok b w := by kernel_rfl
@[go_sem] theorem index3_2 (a b d : Value) (w : World) : (Instr.index 159 (.agg #[a, b, d]) (.int .i64 2)).run Tryz.prog w = .ok d w := by kernel_rfl
theorem type_0 (W0 w : World) (c : Nat) (s : RS) (h : Rd W0 c s w) (h0 : s.sees 0 tInt = true) : Calls Tryz.prog 88 #[.pointer (some ⟨c, 0, none⟩)] w fun e w' => e = .returned (.string s.typV) ∧ Mv W0 c s.typ w w' := by
 have HV := Lib.hid (show s.typV = tInt by simp [RS.typV, h0])
 have HE := Lib.hid (show s.typ = s.skip by simp [RS.typ, h0])
 have T0 : Hid (∀ w', Rd W0 c s w' → Calls Tryz.prog 57 #[.pointer (some ⟨c, 0, none⟩), .string tInt] w' fun e w'' => e = .returned (.bool true) ∧ Mv W0 c s.skip w' w'') := by
   show ∀ w', _
   intro w' h'; have := take_any W0 w' c s tInt h'; rw [h0, take_yes h0] at this; exact this
 have HM0 := Lib.hid (Mv.refl h)
 clear h h0
 go_enter Tryz.func88, Tryz.ntmps88
 go_wp2
 go_loopw [6] (fun v6 wr => ∃ j : Nat, v6 = .int .i64 j ∧ j ≤ 0 ∧ Mv W0 c s w wr) (fun v6 wr => 0 - (intOf v6).toNat)
 case atStart => exact ⟨0, rfl, by omega, HM0.out⟩
 case round =>
   obtain ⟨j, rfl, hj, hm⟩ := hrel
   have HM := Lib.hid hm
   clear hm HM0
   have hjs : j = 0 := by omega
   rcases hjs with rfl
   · go_wp2_with (go_at_call 57; refine (T0.out _ HM.out.2).mono ?_; rintro e w1 ⟨rfl, hm⟩; have HM1 := Lib.hid (HM.out.trans hm); clear hm)
     go_ret
     exact ⟨ret_str HV.out, by rw [HE.out]; exact HM1.out⟩
theorem type_1 (W0 w : World) (c : Nat) (s : RS) (h : Rd W0 c s w) (h0 : s.sees 0 tInt = false) (h1 : s.sees 0 tBool = true) : Calls Tryz.prog 88 #[.pointer (some ⟨c, 0, none⟩)] w fun e w' => e = .returned (.string s.typV) ∧ Mv W0 c s.typ w w' := by
 have HV := Lib.hid (show s.typV = tBool by simp [RS.typV, h0, h1])
 have HE := Lib.hid (show s.typ = s.skip by simp [RS.typ, h0, h1])
 have T0 : Hid (∀ w', Rd W0 c s w' → Calls Tryz.prog 57 #[.pointer (some ⟨c, 0, none⟩), .string tInt] w' fun e w'' => e = .returned (.bool false) ∧ Mv W0 c s w' w'') := by
   show ∀ w', _
   intro w' h'; have := take_any W0 w' c s tInt h'; rw [h0, take_no h0] at this; exact this
 have T1 : Hid (∀ w', Rd W0 c s w' → Calls Tryz.prog 57 #[.pointer (some ⟨c, 0, none⟩), .string tBool] w' fun e w'' => e = .returned (.bool true) ∧ Mv W0 c s.skip w' w'') := by
   show ∀ w', _
   intro w' h'; have := take_any W0 w' c s tBool h'; rw [h1, take_yes h1] at this; exact this
 have HM0 := Lib.hid (Mv.refl h)
 clear h h0 h1
 go_enter Tryz.func88, Tryz.ntmps88
 go_wp2
 go_loopw [6] (fun v6 wr => ∃ j : Nat, v6 = .int .i64 j ∧ j ≤ 1 ∧ Mv W0 c s w wr) (fun v6 wr => 1 - (intOf v6).toNat)
 case atStart => exact ⟨0, rfl, by omega, HM0.out⟩
 case round =>
   obtain ⟨j, rfl, hj, hm⟩ := hrel
   have HM := Lib.hid hm
   clear hm HM0
   have hjs : j = 0 ∨ j = 1 := by omega
   rcases hjs with rfl | rfl
   · go_wp2_with (go_at_call 57; refine (T0.out _ HM.out.2).mono ?_; rintro e w1 ⟨rfl, hm⟩; have HM1 := Lib.hid (HM.out.trans hm); clear hm)
     go_roundw
     case rel => exact ⟨1, by go_num, by omega, HM1.out⟩
     case measure => simp [intOf]; try omega
   · go_wp2_with (go_at_call 57; refine (T1.out _ HM.out.2).mono ?_; rintro e w1 ⟨rfl, hm⟩; have HM1 := Lib.hid (HM.out.trans hm); clear hm)
     go_ret
     exact ⟨ret_str HV.out, by rw [HE.out]; exact HM1.out⟩
theorem type_2 (W0 w : World) (c : Nat) (s : RS) (h : Rd W0 c s w) (h0 : s.sees 0 tInt = false) (h1 : s.sees 0 tBool = false) (h2 : s.sees 0 tStr = true) : Calls Tryz.prog 88 #[.pointer (some ⟨c, 0, none⟩)] w fun e w' => e = .returned (.string s.typV) ∧ Mv W0 c s.typ w w' := by
 have HV := Lib.hid (show s.typV = tStr by simp [RS.typV, h0, h1, h2])
 have HE := Lib.hid (show s.typ = s.skip by simp [RS.typ, h0, h1, h2])
 have T0 : Hid (∀ w', Rd W0 c s w' → Calls Tryz.prog 57 #[.pointer (some ⟨c, 0, none⟩), .string tInt] w' fun e w'' => e = .returned (.bool false) ∧ Mv W0 c s w' w'') := by
   show ∀ w', _
   intro w' h'; have := take_any W0 w' c s tInt h'; rw [h0, take_no h0] at this; exact this
 have T1 : Hid (∀ w', Rd W0 c s w' → Calls Tryz.prog 57 #[.pointer (some ⟨c, 0, none⟩), .string tBool] w' fun e w'' => e = .returned (.bool false) ∧ Mv W0 c s w' w'') := by
   show ∀ w', _
   intro w' h'; have := take_any W0 w' c s tBool h'; rw [h1, take_no h1] at this; exact this
 have T2 : Hid (∀ w', Rd W0 c s w' → Calls Tryz.prog 57 #[.pointer (some ⟨c, 0, none⟩), .string tStr] w' fun e w'' => e = .returned (.bool true) ∧ Mv W0 c s.skip w' w'') := by
   show ∀ w', _
   intro w' h'; have := take_any W0 w' c s tStr h'; rw [h2, take_yes h2] at this; exact this
 have HM0 := Lib.hid (Mv.refl h)
 clear h h0 h1 h2
 go_enter Tryz.func88, Tryz.ntmps88
 go_wp2
 go_loopw [6] (fun v6 wr => ∃ j : Nat, v6 = .int .i64 j ∧ j ≤ 2 ∧ Mv W0 c s w wr) (fun v6 wr => 2 - (intOf v6).toNat)
 case atStart => exact ⟨0, rfl, by omega, HM0.out⟩
 case round =>
   obtain ⟨j, rfl, hj, hm⟩ := hrel
   have HM := Lib.hid hm
   clear hm HM0
   have hjs : j = 0 ∨ j = 1 ∨ j = 2 := by omega
   rcases hjs with rfl | rfl | rfl
   · go_wp2_with (go_at_call 57; refine (T0.out _ HM.out.2).mono ?_; rintro e w1 ⟨rfl, hm⟩; have HM1 := Lib.hid (HM.out.trans hm); clear hm)
     go_roundw
     case rel => exact ⟨1, by go_num, by omega, HM1.out⟩
     case measure => simp [intOf]; try omega
   · go_wp2_with (go_at_call 57; refine (T1.out _ HM.out.2).mono ?_; rintro e w1 ⟨rfl, hm⟩; have HM1 := Lib.hid (HM.out.trans hm); clear hm)
     go_roundw
     case rel => exact ⟨2, by go_num, by omega, HM1.out⟩
     case measure => simp [intOf]; try omega
   · go_wp2_with (go_at_call 57; refine (T2.out _ HM.out.2).mono ?_; rintro e w1 ⟨rfl, hm⟩; have HM1 := Lib.hid (HM.out.trans hm); clear hm)
     go_ret
     exact ⟨ret_str HV.out, by rw [HE.out]; exact HM1.out⟩
theorem type_3 (W0 w : World) (c : Nat) (s : RS) (h : Rd W0 c s w) (h0 : s.sees 0 tInt = false) (h1 : s.sees 0 tBool = false) (h2 : s.sees 0 tStr = false) : Calls Tryz.prog 88 #[.pointer (some ⟨c, 0, none⟩)] w fun e w' => e = .returned (.string s.typV) ∧ Mv W0 c s.typ w w' := by
 have HV := Lib.hid (show s.typV = s.classV by simp [RS.typV, h0, h1, h2])
 have HE := Lib.hid (show s.typ = s.class by simp [RS.typ, h0, h1, h2])
 have T0 : Hid (∀ w', Rd W0 c s w' → Calls Tryz.prog 57 #[.pointer (some ⟨c, 0, none⟩), .string tInt] w' fun e w'' => e = .returned (.bool false) ∧ Mv W0 c s w' w'') := by
   show ∀ w', _
   intro w' h'; have := take_any W0 w' c s tInt h'; rw [h0, take_no h0] at this; exact this
 have T1 : Hid (∀ w', Rd W0 c s w' → Calls Tryz.prog 57 #[.pointer (some ⟨c, 0, none⟩), .string tBool] w' fun e w'' => e = .returned (.bool false) ∧ Mv W0 c s w' w'') := by
   show ∀ w', _
   intro w' h'; have := take_any W0 w' c s tBool h'; rw [h1, take_no h1] at this; exact this
 have T2 : Hid (∀ w', Rd W0 c s w' → Calls Tryz.prog 57 #[.pointer (some ⟨c, 0, none⟩), .string tStr] w' fun e w'' => e = .returned (.bool false) ∧ Mv W0 c s w' w'') := by
   show ∀ w', _
   intro w' h'; have := take_any W0 w' c s tStr h'; rw [h2, take_no h2] at this; exact this
 have HC : Hid (∀ w', Rd W0 c s w' → Calls Tryz.prog 56 #[.pointer (some ⟨c, 0, none⟩)] w' fun e w'' => e = .returned (.string s.classV) ∧ Mv W0 c s.class w' w'') := by
   show ∀ w', _
   intro w' h'; exact classR_any W0 w' c s h'
 have HM0 := Lib.hid (Mv.refl h)
 clear h h0 h1 h2
 go_enter Tryz.func88, Tryz.ntmps88
 go_wp2
 go_loopw [6] (fun v6 wr => ∃ j : Nat, v6 = .int .i64 j ∧ j ≤ 3 ∧ Mv W0 c s w wr) (fun v6 wr => 3 - (intOf v6).toNat)
 case atStart => exact ⟨0, rfl, by omega, HM0.out⟩
 case round =>
   obtain ⟨j, rfl, hj, hm⟩ := hrel
   have HM := Lib.hid hm
   clear hm HM0
   have hjs : j = 0 ∨ j = 1 ∨ j = 2 ∨ j = 3 := by omega
   rcases hjs with rfl | rfl | rfl | rfl
   · go_wp2_with (go_at_call 57; refine (T0.out _ HM.out.2).mono ?_; rintro e w1 ⟨rfl, hm⟩; have HM1 := Lib.hid (HM.out.trans hm); clear hm)
     go_roundw
     case rel => exact ⟨1, by go_num, by omega, HM1.out⟩
     case measure => simp [intOf]; try omega
   · go_wp2_with (go_at_call 57; refine (T1.out _ HM.out.2).mono ?_; rintro e w1 ⟨rfl, hm⟩; have HM1 := Lib.hid (HM.out.trans hm); clear hm)
     go_roundw
     case rel => exact ⟨2, by go_num, by omega, HM1.out⟩
     case measure => simp [intOf]; try omega
   · go_wp2_with (go_at_call 57; refine (T2.out _ HM.out.2).mono ?_; rintro e w1 ⟨rfl, hm⟩; have HM1 := Lib.hid (HM.out.trans hm); clear hm)
     go_roundw
     case rel => exact ⟨3, by go_num, by omega, HM1.out⟩
     case measure => simp [intOf]; try omega
   · go_wp2_with (go_at_call 56; refine (HC.out _ HM.out.2).mono ?_; rintro e w1 ⟨rfl, hm⟩; have HM1 := Lib.hid (HM.out.trans hm); clear hm)
     go_ret
     exact ⟨ret_str HV.out, by rw [HE.out]; exact HM1.out⟩
theorem type_any (W0 w : World) (c : Nat) (s : RS) (h : Rd W0 c s w) : Calls Tryz.prog 88 #[.pointer (some ⟨c, 0, none⟩)] w fun e w' => e = .returned (.string s.typV) ∧ Mv W0 c s.typ w w' := by
 cases h0 : s.sees 0 tInt with
 | true => exact type_0 W0 w c s h h0
 | false =>
   cases h1 : s.sees 0 tBool with
   | true => exact type_1 W0 w c s h h0 h1
   | false =>
     cases h2 : s.sees 0 tStr with
     | true => exact type_2 W0 w c s h h0 h1 h2
     | false => exact type_3 W0 w c s h h0 h1 h2
end
section
open Go.RowKit
def wcells (x : Wd) : List Value := [.int .i64 x.k, .string ⟨x.t.toArray⟩, .int .i64 x.a]
def cellsW (l : List Wd) : List Value := l.flatMap wcells
theorem cellsW_snoc (l : List Wd) (x : Wd) : cellsW (l ++ [x]) = cellsW l ++ wcells x := by simp [cellsW]
theorem below_own {B : Nat} {w a b : World} {base e size n : Nat} {v : Value} {xs : List Value} (h : Below B w a) (ho : a.ownsRow base e size v n xs) (hg : a.grownBy b v.ownBlock) (hB : B ≤ a.heap.size) (hb : B ≤ base) : Below B w b :=
 h.grown hg hB fun k hk => Nat.le_trans hb (ho.lt k hk).1
theorem Tryz.infoWord : (Tryz.prog.info? 78).map (fun i => (i.zero, i.size, i.bytes)) = some (some (.agg #[.int .i64 0, .string ⟨#[]⟩, .int .i64 0]), 3, 32) := by kernel_rfl
def CutSaid (s : ByteArray) (w : World) (e : Ending) (w' : World) : Prop := ∃ v : Value, e = .returned (.tuple #[v, .int .i64 (cutL s.data.toList 0).2]) ∧ w'.ownsRow w.heap.size 78 3 v (cutL s.data.toList 0).1.length (cellsW (cutL s.data.toList 0).1) ∧ Below w.heap.size w w'
theorem drop_ne (s : ByteArray) (p : Nat) (h : p < s.size) : s.data.toList.drop p ≠ [] := by
 obtain ⟨b, e, _⟩ := dropc s p h; rw [e]; simp
theorem cut_more (s : ByteArray) (p : Nat) (acc : List Wd) (h : p < s.size) (hc : cutL s.data.toList 0 = (acc ++ (wordsL (s.data.toList.drop p) p).1, (wordsL (s.data.toList.drop p) p).2)) (k n g : Nat) (t : List UInt8)
   (hf : firstL (s.data.toList.drop p) = (k, t, n)) (hn : n ≠ 0) (hg : gapL false (s.data.toList.drop (p + n)) = g) :
   cutL s.data.toList 0 = ((acc ++ [⟨k, t, p⟩]) ++ (wordsL (s.data.toList.drop (p + n + g)) (p + n + g)).1, (wordsL (s.data.toList.drop (p + n + g)) (p + n + g)).2) := by
 rw [hc, words_step _ p (drop_ne s p h) (by rw [hf]; exact hn), hf]
 simp only [List.drop_drop, cutL]
 rw [hg]; simp
theorem cut_stop (s : ByteArray) (p : Nat) (acc : List Wd) (h : p < s.size) (hc : cutL s.data.toList 0 = (acc ++ (wordsL (s.data.toList.drop p) p).1, (wordsL (s.data.toList.drop p) p).2)) (hn : (firstL (s.data.toList.drop p)).2.2 = 0) :
   cutL s.data.toList 0 = (acc, (p : Int)) := by
 rw [hc, words_none _ p (drop_ne s p h) hn]; simp
theorem cut_end (s : ByteArray) (p : Nat) (acc : List Wd) (h : ¬ p < s.size) (hc : cutL s.data.toList 0 = (acc ++ (wordsL (s.data.toList.drop p) p).1, (wordsL (s.data.toList.drop p) p).2)) :
   cutL s.data.toList 0 = (acc, -1) := by
 rw [hc, dropz s p h, words_nil]; simp
theorem cut_start (s : ByteArray) (g : Nat) (hg : gapL false s.data.toList = g) : cutL s.data.toList 0 = ([] ++ (wordsL (s.data.toList.drop g) g).1, (wordsL (s.data.toList.drop g) g).2) := by
 rw [cutL, hg]; simp
theorem cut_said {s : ByteArray} {w W : World} {v : Value} {acc : List Wd} {r : Int} (h : cutL s.data.toList 0 = (acc, r)) (ho : W.ownsRow w.heap.size 78 3 v acc.length (cellsW acc)) (hb : Below w.heap.size w W) :
   CutSaid s w (.returned (.tuple #[v, .int .i64 r])) W := ⟨v, by rw [h], by rw [h]; exact ho, hb⟩
theorem new_cells (w : World) (T : TypeId) (o : Obj) (x y z : Value) : ∀ (j : Nat) (u : Value), [x, y, z][j]? = some u → ((w.alloc o).alloc (.cells #[x, y, z] T)).cell? ((⟨w.heap.size + 1, 0, none⟩ : Addr).add j) = some u := by
 intro j u hj
 have hx : Bx ((w.alloc o).alloc (.cells #[x, y, z] T)) (w.heap.size + 1) #[x, y, z] T := by
   have := Bx.new (w.alloc o) #[x, y, z] T; simpa using this
 obtain ⟨c0, c1, c2, _⟩ := hx.get3
 match j, hj with
 | 0, hj => simp at hj; subst hj; exact c0
 | 1, hj => simp at hj; subst hj; exact c1
 | 2, hj => simp at hj; subst hj; exact c2
theorem three_one (k : Int) (t : ByteArray) (a : Int) : ∀ u ∈ [Value.int .i64 k, .string t, .int .i64 a], u.oneCell' = true := by
 intro u hu
 simp only [List.mem_cons, List.not_mem_nil, or_false] at hu
 rcases hu with rfl | rfl | rfl <;> rfl
theorem cut_any (s : ByteArray) (w : World) (hs : s.size ≤ 16777216) : Calls Tryz.prog 52 #[.string s] w (CutSaid s w) := by
 obtain ⟨g0, hg0⟩ : ∃ g, gapL false s.data.toList = g := ⟨_, rfl⟩
 have hg1 : g0 ≤ s.size := by have := gap_le s.data.toList false; simp at this; omega
 have H0 := Lib.hid (cut_start s g0 hg0)
 have HG0 : Hid (∀ w, Calls Tryz.prog 77 #[.string s] w fun e w' => e = .returned (.int .i64 (g0 : Nat)) ∧ Below w.heap.size w w') := by
   show ∀ w, _
   intro w; have := gap_any s w (by unfold maxLen; omega); rw [hg0] at this; exact this
 clear hg0
 obtain ⟨i0, hi, hz0, hz1, hz2⟩ := info_parts Tryz.infoWord
 go_enter Tryz.func52, Tryz.ntmps52
 go_wp2_with (go_at_call 77; refine (HG0.out _).mono ?_; clear HG0; rintro e w1 ⟨rfl, hb1⟩)
 go_loopw [4, 5] (fun v4 v5 wr => ∃ (p : Nat) (acc : List Wd), v5 = .int .i64 p ∧ p ≤ s.size ∧ wr.ownsRow w.heap.size 78 3 v4 acc.length (cellsW acc) ∧ Below w.heap.size w wr ∧ acc.length ≤ p ∧ cutL s.data.toList 0 = (acc ++ (wordsL (s.data.toList.drop p) p).1, (wordsL (s.data.toList.drop p) p).2)) (fun v4 v5 wr => s.size - (intOf v5).toNat)
 case atStart => exact ⟨g0, [], rfl, hg1, World.ownsRow_nil _ _ _ _, hb1, Nat.zero_le _, H0.out⟩
 case round =>
   obtain ⟨p, acc, rfl, hp, hown, hbw, hal, hc⟩ := hrel
   clear H0 hb1
   by_cases hlt : p < s.size
   · obtain ⟨k, t, n, hf⟩ : ∃ k t n, firstL (s.data.toList.drop p) = (k, t, n) := ⟨_, _, _, rfl⟩
     have hnl : p + n ≤ s.size := by
       have := first_le (s.data.toList.drop p); rw [hf] at this; simp at this; omega
     have hdx : (s.extract p s.size).data.toList = s.data.toList.drop p := drop_extract s p
     obtain ⟨tb, htb⟩ : ∃ tb : ByteArray, tb = ⟨t.toArray⟩ := ⟨_, rfl⟩
     have HF : Hid (∀ w, Calls Tryz.prog 78 #[.string (s.extract p s.size)] w fun e w' => e = .returned (.tuple #[.agg #[.int .i64 (k : Nat), .string tb, .int .i64 0], .int .i64 (n : Nat)]) ∧ Below w.heap.size w w') := by
       show ∀ w, _
       intro w
       have := first_any (s.extract p s.size) w (by simp; omega)
       unfold FirstSaid at this
       rw [hdx, hf, ← htb] at this
       exact this
     have hsz := hbw.size
     have hps : (p : Int) ≤ s.size := by omega
     by_cases hn : n = 0
     · subst hn
       have HS := Lib.hid (cut_stop s p acc hlt hc (by rw [hf])); clear hc hf hdx htb
       go_wp2_with (go_at_call 78; refine (HF.out _).mono ?_; clear HF; rintro e w2 ⟨rfl, hb2⟩)
       go_ret2
       exact cut_said HS.out ((own_next hown hb2).alloc _) ((hbw.trans (hb2.mono hsz)).alloc (Nat.le_trans hsz hb2.size) _)
     · have hnb : ((n : Int) == 0) = false := by rw [beq_eq_false_iff_ne]; omega
       obtain ⟨g, hg⟩ : ∃ g, gapL false (s.data.toList.drop (p + n)) = g := ⟨_, rfl⟩
       have hgl : p + n + g ≤ s.size := by have := gap_le (s.data.toList.drop (p + n)) false; rw [hg] at this; simp at this; omega
       have HS := Lib.hid (cut_more s p acc hlt hc k n g t hf hn hg)
       have HG : Hid (∀ w, Calls Tryz.prog 77 #[.string (s.extract (p + n) s.size)] w fun e w' => e = .returned (.int .i64 (g : Nat)) ∧ Below w.heap.size w w') := by
         show ∀ w, _
         intro w
         have := gap_any (s.extract (p + n) s.size) w (by unfold maxLen; simp; omega)
         rw [drop_extract s (p + n), hg] at this
         exact this
       have hpos : 0 < n := by omega
       have HTB := Lib.hid htb
       clear hc hf hdx htb hg hn
       go_wp2_with (first | (go_at_call 78; refine (HF.out _).mono ?_; clear HF; rintro e w2 ⟨rfl, hb2⟩) | (at_builtin; refine wpList_append_own _ rfl (.tmp 33) (.tmp 35) 74 rfl w.heap.size 78 i0 _ 3 32 Tryz.underlying74 hi hz0 hz1 hz2 rfl (by decide) _ _ _ rfl (((own_next hown hb2).alloc _).alloc _) ⟨w2.heap.size + 1, 0, none⟩ 1 1 [.int .i64 k, .string tb, .int .i64 p] rfl rfl ?c1 ?c2 ?c3 ?c4 ?c5 ?_))
       case c1 => exact new_cells w2 _ _ _ _ _
       case c2 => exact three_one _ _ _
       case c3 => unfold maxLen; omega
       case c4 => omega
       case c5 => have := hb2.size; simp; omega
       · intro v' w3 hown3 hgrow _
         have hB3 : Below w.heap.size w w3 := below_own ((((hbw.trans (hb2.mono hsz)).alloc (Nat.le_trans hsz hb2.size) _).alloc (by have := hb2.size; simp; omega) _)) (((own_next hown hb2).alloc _).alloc _) hgrow (by have := hb2.size; simp; omega) (Nat.le_refl _)
         have hO3 : w3.ownsRow w.heap.size 78 3 v' (acc ++ [(⟨k, t, p⟩ : Wd)]).length (cellsW (acc ++ [(⟨k, t, p⟩ : Wd)])) := by
           rw [cellsW_snoc, List.length_append]; rw [HTB.out] at hown3; exact hown3
         have hal3 : (acc ++ [(⟨k, t, p⟩ : Wd)]).length ≤ p + n := by simp; omega
         clear hown3 hgrow hb2 hbw hown
         have h1 : ((p : Int) + (n : Int)).toNat = p + n := by omega
         have h2 : 0 ≤ (p : Int) + (n : Int) := by omega
         have h3 : (p : Int) + (n : Int) ≤ s.size := by omega
         go_wp2_with (go_at_call 77; refine (HG.out _).mono ?_; clear HG; rintro e w4 ⟨rfl, hb4⟩)
         have hsz3 := hB3.size
         go_roundw
         case rel => exact ⟨p + n + g, _, by go_num, hgl, own_next hO3 hb4, hB3.trans (hb4.mono hsz3), by omega, HS.out⟩
         case measure => simp [intOf]; omega
   · have HS := Lib.hid (cut_end s p acc hlt hc); clear hc
     go_wp2
     go_ret2
     exact cut_said HS.out hown hbw
def AllSaid (s : ByteArray) (w : World) (e : Ending) (w' : World) : Prop := ∃ v : Value, e = .returned (.tuple #[v, .int .i64 (allE s), .int .i64 (allA s)]) ∧ w'.ownsRow w.heap.size 78 3 v (allW s).length (cellsW (allW s)) ∧ Below w.heap.size w w'
theorem all_said {s : ByteArray} {w W : World} {v : Value} {ws : List Wd} {x a : Int} (h1 : allW s = ws) (h2 : allE s = x) (h3 : allA s = a) (ho : W.ownsRow w.heap.size 78 3 v ws.length (cellsW ws)) (hb : Below w.heap.size w W) :
   AllSaid s w (.returned (.tuple #[v, .int .i64 x, .int .i64 a])) W := ⟨v, by rw [h2, h3], by rw [h1]; exact ho, hb⟩
theorem all_long (s : ByteArray) (h : 8000 < s.size) : allW s = [] ∧ allE s = 5 ∧ allA s = 0 := by
 unfold allW allE allA; rw [if_pos (.inl h), if_pos h, if_pos h]; exact ⟨rfl, rfl, rfl⟩
theorem all_wrong (s : ByteArray) (h : ¬ 8000 < s.size) (x : Int) (hx : wrongAt s = x) (h0 : 0 ≤ x) : allW s = [] ∧ allE s = 2 ∧ allA s = x := by
 unfold allW allE allA; rw [hx, if_pos (.inr h0), if_neg h, if_neg h, if_pos h0, if_pos h0]; exact ⟨rfl, rfl, rfl⟩
theorem all_right (s : ByteArray) (h : ¬ 8000 < s.size) (x : Int) (hx : wrongAt s = x) (h0 : ¬ 0 ≤ x) : allW s = (cutL s.data.toList 0).1 ∧ allE s = 0 ∧ allA s = 0 := by
 unfold allW allE allA; rw [hx, if_neg (by rintro (g | g); exact h g; exact h0 g), if_neg h, if_neg h, if_neg h0, if_neg h0]; exact ⟨rfl, rfl, rfl⟩
theorem all_any (s : ByteArray) (w : World) (hs : s.size ≤ maxLen) : Calls Tryz.prog 33 #[.string s] w (AllSaid s w) := by
 unfold maxLen at hs
 by_cases h8 : 8000 < s.size
 · have h8' : (8000 : Int) < s.size := by omega
   obtain ⟨a1, a2, a3⟩ := all_long s h8
   have A1 := Lib.hid a1; have A2 := Lib.hid a2; have A3 := Lib.hid a3; clear a1 a2 a3
   go_enter Tryz.func33, Tryz.ntmps33
   go_wp2
   refine bodyPost_ret (v := .tuple #[.slice none 0 0, .int .i64 5, .int .i64 0]) (by simp [results, Tryz.results33, go_sem]) rfl ?_
   exact all_said A1.out A2.out A3.out (World.ownsRow_nil _ _ _ _) (Below.refl _ _)
 · have h8' : (s.size : Int) ≤ 8000 := by omega
   obtain ⟨ws, c, hcut⟩ : ∃ ws c, cutL s.data.toList 0 = (ws, c) := ⟨_, _, rfl⟩
   obtain ⟨b, hb⟩ : ∃ b, bad s = b := ⟨_, rfl⟩
   have HC : Hid (∀ w, Calls Tryz.prog 52 #[.string s] w fun e w' => ∃ v : Value, e = .returned (.tuple #[v, .int .i64 c]) ∧ w'.ownsRow w.heap.size 78 3 v ws.length (cellsW ws) ∧ Below w.heap.size w w') := by
     show ∀ w, _
     intro w; have := cut_any s w (by omega); unfold CutSaid at this; rw [hcut] at this; exact this
   have HB : Hid (∀ w, Calls Tryz.prog 53 #[.string s] w fun e w' => e = .returned (.int .i64 b) ∧ Below w.heap.size w w') := by
     show ∀ w, _
     intro w; have := bad_any s w (by unfold maxLen; omega); rw [hb] at this; exact this
   have hw : wrongAt s = if 0 ≤ b ∧ (c < 0 ∨ b < c) then b else c := by unfold wrongAt; rw [hcut, hb]
   have H8 := Lib.hid h8
   have HW : Hid ((cutL s.data.toList 0).1 = ws) := by show (cutL s.data.toList 0).1 = ws; rw [hcut]
   clear hcut hb h8
   go_enter Tryz.func33, Tryz.ntmps33
   by_cases hb0 : 0 ≤ b
   · by_cases hx : c < 0 ∨ b < c
     · rw [if_pos ⟨hb0, hx⟩] at hw
       obtain ⟨a1, a2, a3⟩ := all_wrong s H8.out b hw hb0
       have A1 := Lib.hid a1; have A2 := Lib.hid a2; have A3 := Lib.hid a3; clear a1 a2 a3 hw
       rcases Int.lt_or_le c 0 with hc | hc
       · clear hx
         go_wp2_with (first | (go_at_call 52; refine (HC.out _).mono ?_; clear HC; rintro e w1 ⟨v, rfl, ho, hb1⟩) | (go_at_call 53; refine (HB.out _).mono ?_; clear HB; rintro e w2 ⟨rfl, hb2⟩))
         refine bodyPost_ret (v := .tuple #[.slice none 0 0, .int .i64 2, .int .i64 b]) (by simp [results, Tryz.results33, go_sem]) rfl ?_
         exact all_said A1.out A2.out A3.out (World.ownsRow_nil _ _ _ _) (hb1.trans (hb2.mono hb1.size))
       · have hx' : b < c := by rcases hx with h | h; omega; exact h
         clear hx
         go_wp2_with (first | (go_at_call 52; refine (HC.out _).mono ?_; clear HC; rintro e w1 ⟨v, rfl, ho, hb1⟩) | (go_at_call 53; refine (HB.out _).mono ?_; clear HB; rintro e w2 ⟨rfl, hb2⟩))
         refine bodyPost_ret (v := .tuple #[.slice none 0 0, .int .i64 2, .int .i64 b]) (by simp [results, Tryz.results33, go_sem]) rfl ?_
         exact all_said A1.out A2.out A3.out (World.ownsRow_nil _ _ _ _) (hb1.trans (hb2.mono hb1.size))
     · have hc : 0 ≤ c := by omega
       have hbc : c ≤ b := by omega
       rw [if_neg (fun h => hx h.2)] at hw
       obtain ⟨a1, a2, a3⟩ := all_wrong s H8.out c hw hc
       have A1 := Lib.hid a1; have A2 := Lib.hid a2; have A3 := Lib.hid a3; clear a1 a2 a3 hw hx
       go_wp2_with (first | (go_at_call 52; refine (HC.out _).mono ?_; clear HC; rintro e w1 ⟨v, rfl, ho, hb1⟩) | (go_at_call 53; refine (HB.out _).mono ?_; clear HB; rintro e w2 ⟨rfl, hb2⟩))
       refine bodyPost_ret (v := .tuple #[.slice none 0 0, .int .i64 2, .int .i64 c]) (by simp [results, Tryz.results33, go_sem]) rfl ?_
       exact all_said A1.out A2.out A3.out (World.ownsRow_nil _ _ _ _) (hb1.trans (hb2.mono hb1.size))
   · rw [if_neg (fun h => hb0 h.1)] at hw
     have hb0' : b < 0 := by omega
     by_cases hc : 0 ≤ c
     · obtain ⟨a1, a2, a3⟩ := all_wrong s H8.out c hw hc
       have A1 := Lib.hid a1; have A2 := Lib.hid a2; have A3 := Lib.hid a3; clear a1 a2 a3 hw hb0
       go_wp2_with (first | (go_at_call 52; refine (HC.out _).mono ?_; clear HC; rintro e w1 ⟨v, rfl, ho, hb1⟩) | (go_at_call 53; refine (HB.out _).mono ?_; clear HB; rintro e w2 ⟨rfl, hb2⟩))
       refine bodyPost_ret (v := .tuple #[.slice none 0 0, .int .i64 2, .int .i64 c]) (by simp [results, Tryz.results33, go_sem]) rfl ?_
       exact all_said A1.out A2.out A3.out (World.ownsRow_nil _ _ _ _) (hb1.trans (hb2.mono hb1.size))
     · obtain ⟨a1, a2, a3⟩ := all_right s H8.out c hw hc
       have A1 := Lib.hid a1; have A2 := Lib.hid a2; have A3 := Lib.hid a3; clear a1 a2 a3 hw hb0
       have hc' : c < 0 := by omega
       clear hc
       go_wp2_with (first | (go_at_call 52; refine (HC.out _).mono ?_; clear HC; rintro e w1 ⟨v, rfl, ho, hb1⟩) | (go_at_call 53; refine (HB.out _).mono ?_; clear HB; rintro e w2 ⟨rfl, hb2⟩))
       refine bodyPost_ret (v := .tuple #[v, .int .i64 0, .int .i64 0]) (by simp [results, Tryz.results33, go_sem]) rfl ?_
       exact all_said (A1.out.trans HW.out) A2.out A3.out (own_next ho hb2) (hb1.trans (hb2.mono hb1.size))
end
section
open Go.RowKit
theorem runesF_len (s : ByteArray) : ∀ f p, (runesF s f p).length ≤ f
 | 0, p => Nat.le_refl _
 | f + 1, p => by
   simp only [runesF]
   split
   · simp only [List.length_cons]; have := runesF_len s f (p + (Utf8.decode s p).2); omega
   · simp
theorem plainL_len : ∀ (l : List Nat) (e : Bool) (m : List Nat), plainL e l = some m → m.length ≤ l.length
 | [], e, m, h => by cases e <;> simp [plainL] at h; subst h; simp
 | r :: t, false, m, h => by
   simp only [plainL] at h
   split at h
   · have := plainL_len t true m h; simp; omega
   · split at h
     · cases h
     · simp only [Option.map_eq_some_iff] at h
       obtain ⟨m', h1, rfl⟩ := h
       have := plainL_len t false m' h1
       simp; omega
 | r :: t, true, m, h => by
   simp only [plainL] at h
   split at h
   · simp only [Option.map_eq_some_iff] at h
     obtain ⟨m', h1, rfl⟩ := h
     have := plainL_len t false m' h1
     simp; omega
   · split at h
     · simp only [Option.map_eq_some_iff] at h
       obtain ⟨m', h1, rfl⟩ := h
       have := plainL_len t false m' h1
       simp; omega
     · cases h
theorem encs_len (l : List Nat) : (encs l).length ≤ 4 * l.length := by
 induction l with
 | nil => simp [encs]
 | cons r l ih => rw [encs_cons, List.length_append, List.length_cons]; have := (enc_len (r : Int)).2; omega
theorem plainText_len (s : ByteArray) : (plainText s).length ≤ 4 * s.size := by
 unfold plainText plain
 split
 · simp
 · cases h : plainL false (runes s 0) with
   | none => simp
   | some m =>
     simp only [Option.map_some, Option.getD_some]
     have h1 := plainL_len _ _ _ h
     have h2 := encs_len m
     have h3 : (runes s 0).length ≤ s.size := by unfold runes; exact runesF_len s _ _
     omega
theorem first_len (l : List UInt8) : (firstL l).2.1.length ≤ 4 * l.length := by
 unfold firstL
 split
 · simp only [List.length_take]; omega
 · split
   · simp only [List.length_take]; omega
   · split
     · split
       · simp only []
         refine Nat.le_trans (plainText_len _) ?_
         have : (inner l (textLen l)).size ≤ l.length := by unfold inner; simp [ByteArray.size]; omega
         omega
       · simp
     · simp only [List.length_take]; omega
theorem words_texts (l : List UInt8) (a : Nat) : ∀ x ∈ (wordsL l a).1, x.t.length ≤ 4 * l.length := by
 refine words_ind (fun l a r => ∀ x ∈ r.1, x.t.length ≤ 4 * l.length) (fun a => by simp) (fun l a _ _ => by simp) ?_ _ l a (Nat.le_refl _)
 intro l a hl hn ih x hx
 rcases List.mem_cons.1 hx with rfl | hx
 · exact first_len l
 · have := ih x hx
   simp only [List.length_drop] at this
   omega
theorem all_texts (s : ByteArray) : ∀ x ∈ allW s, x.t.length ≤ 32000 := by
 intro x hx
 unfold allW at hx
 split at hx
 · cases hx
 · rename_i h
   have := words_texts _ _ x hx
   have hs : s.data.toList.length = s.size := by simp
   simp only [List.length_drop, hs] at this
   omega
def letP (t : ByteArray) : Pr := if nameOk (t.extract 0 (min t.size 20)) = true then .nm t else if classOk (t.extract 0 (min t.size 20)) = true then .cl t else .fx t
def partP (k : Nat) (t : ByteArray) : Pr := if k = 1 then letP t else if k = 2 then .nu t else if k = 3 then .qu t else .fx t
def plOf (x : Wd) : Pl := (partP x.k ⟨x.t.toArray⟩, (x.a : Int))
def RS0 (s : ByteArray) : RS := ⟨(allW s).map plOf, s.size, 0, allE s, allA s, 0, 0⟩
theorem part_text (k : Nat) (t : ByteArray) : (partP k t).text = t := by
 unfold partP letP
 repeat' split
 all_goals rfl
theorem letters_any (w : World) (t : ByteArray) (ht : t.size ≤ 1000000) : Calls Tryz.prog 54 #[.string t] w fun e w' => e = .returned (letP t).V ∧ Below w.heap.size w w' := by
 obtain ⟨m, hm⟩ : ∃ m, min t.size 20 = m := ⟨_, rfl⟩
 have hmI : min (t.size : Int) 20 = (m : Int) := by rw [← hm]; omega
 have hml : m ≤ t.size := by omega
 have hm0 : (0 : Int) ≤ (m : Int) := by omega
 have hmL : (m : Int) ≤ (t.size : Int) := by omega
 obtain ⟨s, hs⟩ : ∃ s, t.extract 0 m = s := ⟨_, rfl⟩
 have hss : s.size ≤ maxLen := by rw [← hs]; simp [ByteArray.size_extract]; unfold maxLen; omega
 have HN := Lib.hid (name_any s w hss)
 have HC : Hid (∀ w', Calls Tryz.prog 81 #[.string s] w' fun e w'' => e = .returned (.bool (classOk s)) ∧ Below w'.heap.size w' w'') := by
   show ∀ w', _
   intro w'; exact class_any s w' hss
 have hR : letP t = if nameOk s = true then .nm t else if classOk s = true then .cl t else .fx t := by unfold letP; rw [hm, hs]
 rw [hR]
 clear hR
 cases h1 : nameOk s with
 | true =>
   rw [h1] at HN
   simp only [if_true, Pr.V]
   clear h1 HC hm
   go_enter Tryz.func54, Tryz.ntmps54
   go_wp2_with fail
   refine HN.out.mono ?_
   clear HN
   rintro e w1 ⟨rfl, hb⟩
   have HB := Lib.hid hb
   clear hb
   go_wp2_with fail
   go_ret
   exact ⟨rfl, HB.out⟩
 | false =>
   rw [h1] at HN
   cases h2 : classOk s with
   | true =>
     rw [h2] at HC
     simp only [if_true, Bool.false_eq_true, if_false, Pr.V]
     clear h1 h2 hm
     go_enter Tryz.func54, Tryz.ntmps54
     go_wp2_with fail
     refine HN.out.mono ?_
     clear HN
     rintro e w1 ⟨rfl, hb⟩
     have HB := Lib.hid hb
     clear hb
     go_wp2_with fail
     refine (HC.out _).mono ?_
     clear HC
     rintro e w2 ⟨rfl, hb⟩
     have HB2 := Lib.hid (HB.out.trans (hb.mono HB.out.size))
     clear hb
     go_wp2_with fail
     go_ret
     exact ⟨rfl, HB2.out⟩
   | false =>
     rw [h2] at HC
     simp only [Bool.false_eq_true, if_false, Pr.V]
     clear h1 h2 hm
     go_enter Tryz.func54, Tryz.ntmps54
     go_wp2_with fail
     refine HN.out.mono ?_
     clear HN
     rintro e w1 ⟨rfl, hb⟩
     have HB := Lib.hid hb
     clear hb
     go_wp2_with fail
     refine (HC.out _).mono ?_
     clear HC
     rintro e w2 ⟨rfl, hb⟩
     have HB2 := Lib.hid (HB.out.trans (hb.mono HB.out.size))
     clear hb
     go_wp2_with fail
     go_ret
     exact ⟨rfl, HB2.out⟩
theorem part_any (w : World) (k : Nat) (t : ByteArray) (a : Int) (ht : t.size ≤ 1000000) : Calls Tryz.prog 34 #[.agg #[.int .i64 k, .string t, .int .i64 a]] w fun e w' => e = .returned (partP k t).V ∧ Below w.heap.size w w' := by
 obtain ⟨ki, hki⟩ : ∃ ki : Int, (k : Int) = ki := ⟨_, rfl⟩
 rw [hki]
 obtain ⟨W1, hW1⟩ : ∃ W, w.alloc (.cells #[.int .i64 ki, .string t, .int .i64 a] 78) = W := ⟨_, rfl⟩
 have hb : Below w.heap.size w W1 := by rw [← hW1]; exact (Below.refl _ _).alloc (Nat.le_refl _) _
 have hx : Bx W1 w.heap.size #[.int .i64 ki, .string t, .int .i64 a] 78 := by rw [← hW1]; exact Bx.new _ _ _
 have c0 : W1.cell? ⟨w.heap.size, 0, none⟩ = some (.int .i64 ki) := hx.cell 0
 have c1 : W1.cell? ⟨w.heap.size, 1, none⟩ = some (.string t) := hx.cell 1
 have HB := Lib.hid hb
 clear hx hb
 by_cases h1 : k = 1
 · have hk1 : ki = 1 := by omega
   subst hk1 h1
   clear hki
   have HL := Lib.hid (letters_any W1 t ht)
   have HR := Lib.hid (show partP 1 t = letP t from rfl)
   rw [HR.out]
   go_enter Tryz.func34, Tryz.ntmps34
   go_wp2_with fail
   refine HL.out.mono ?_
   clear HL
   rintro e w2 ⟨rfl, hb⟩
   have HB2 := Lib.hid (HB.out.trans (hb.mono HB.out.size))
   clear hb
   obtain ⟨u, hu⟩ : ∃ u, (letP t).V = u := ⟨_, rfl⟩
   rw [hu]
   have HU := Lib.hid hu
   clear hu
   go_wp2_with fail
   go_ret
   exact ⟨by rw [HU.out]; rfl, HB2.out⟩
 have e1 : (ki == 1) = false := by rw [beq_eq_false_iff_ne]; omega
 by_cases h2 : k = 2
 · have hk2 : ki = 2 := by omega
   subst hk2 h2
   clear hki
   have HR := Lib.hid (show partP 2 t = .nu t from rfl)
   rw [HR.out]
   simp only [Pr.V]
   clear h1
   go_enter Tryz.func34, Tryz.ntmps34
   go_wp2_with fail
   go_ret
   exact ⟨rfl, HB.out⟩
 have e2 : (ki == 2) = false := by rw [beq_eq_false_iff_ne]; omega
 by_cases h3 : k = 3
 · have hk3 : ki = 3 := by omega
   subst hk3 h3
   clear hki
   have HR := Lib.hid (show partP 3 t = .qu t from rfl)
   rw [HR.out]
   simp only [Pr.V]
   clear h1 h2
   go_enter Tryz.func34, Tryz.ntmps34
   go_wp2_with fail
   go_ret
   exact ⟨rfl, HB.out⟩
 have e3 : (ki == 3) = false := by rw [beq_eq_false_iff_ne]; omega
 have HR := Lib.hid (show partP k t = .fx t by unfold partP; rw [if_neg h1, if_neg h2, if_neg h3])
 rw [HR.out]
 simp only [Pr.V]
 clear h1 h2 h3 hki
 go_enter Tryz.func34, Tryz.ntmps34
 go_wp2_with fail
 go_ret
 exact ⟨rfl, HB.out⟩
end
end Go.Proofs.YtnbfajmdfkgebaaGreatDoor
