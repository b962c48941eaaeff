/- kin: Check, Find. -/
import Derived.Test.YteogphbdpjnjoaaGreatKinM
set_option linter.unusedSimpArgs false
set_option linter.unusedVariables false
namespace Go.Proofs.YteogphbdpjnjoaaGreat
open Go.RowKit
/-- The first class whose name is taken. -/
def chk1 (ps : List Hdr) : List Hdr → Nat → Option Nat
  | [], _ => none
  | c :: l, i => if plc ps c.1 = 5 + i then chk1 ps l (i + 1) else some i
/-- The first class whose way up is wrong, and in which way. -/
def chk2 (ps : List Hdr) : List Hdr → Nat → Option (Int × Nat)
  | [], _ => none
  | c :: l, i => if c.2 = ⟨#[]⟩ then chk2 ps l (i + 1) else if plc ps c.2 < ps.length then (if leadsB ps ps.length (5 + i) then chk2 ps l (i + 1) else some (8, i)) else some (7, i)
def chkL (cs : List Hdr) : Int × Nat := match chk1 (famL cs) cs 0 with
  | some i => (6, i)
  | none => match chk2 (famL cs) cs 0 with
    | some x => x
    | none => (0, 0)
theorem chk1_step {ps cs : List Hdr} {k : Nat} {c : Hdr} (h : cs[k]? = some c) : chk1 ps (cs.drop k) k = if plc ps c.1 = 5 + k then chk1 ps (cs.drop (k + 1)) (k + 1) else some k := by
  rw [drop_at h]; rfl
theorem chk2_step {ps cs : List Hdr} {k : Nat} {c : Hdr} (h : cs[k]? = some c) : chk2 ps (cs.drop k) k = if c.2 = ⟨#[]⟩ then chk2 ps (cs.drop (k + 1)) (k + 1) else if plc ps c.2 < ps.length then (if leadsB ps ps.length (5 + k) then chk2 ps (cs.drop (k + 1)) (k + 1) else some (8, k)) else some (7, k) := by
  rw [drop_at h]; rfl
theorem drop_none {cs : List Hdr} {k : Nat} (h : cs.length ≤ k) : cs.drop k = [] := List.drop_eq_nil_of_le h
theorem chk1_ok {ps : List Hdr} : ∀ {l : List Hdr} {i : Nat}, chk1 ps l i = none → ∀ j c, l[j]? = some c → plc ps c.1 = 5 + i + j
  | [], i, _, j, c, hj => by simp at hj
  | x :: l, i, h, j, c, hj => by
    unfold chk1 at h; split at h
    · rename_i hx
      cases j with
      | zero => simp at hj; subst hj; omega
      | succ j => have := chk1_ok h j c (by simpa using hj); omega
    · cases h
theorem chk2_ok {ps : List Hdr} : ∀ {l : List Hdr} {i : Nat}, chk2 ps l i = none → ∀ j c, l[j]? = some c → c.2 = ⟨#[]⟩ ∨ (plc ps c.2 < ps.length ∧ leadsB ps ps.length (5 + i + j) = true)
  | [], i, _, j, c, hj => by simp at hj
  | x :: l, i, h, j, c, hj => by
    have key : (x.2 = ⟨#[]⟩ ∨ (plc ps x.2 < ps.length ∧ leadsB ps ps.length (5 + i) = true)) ∧ chk2 ps l (i + 1) = none := by
      unfold chk2 at h; split at h
      · rename_i hx; exact ⟨.inl hx, h⟩
      · split at h
        · split at h
          · rename_i h1 h2 h3; exact ⟨.inr ⟨h2, h3⟩, h⟩
          · cases h
        · cases h
    cases j with
    | zero => simp at hj; subst hj; exact key.1
    | succ j => have := chk2_ok key.2 j c (by simpa using hj); rw [show 5 + (i + 1) + j = 5 + i + (j + 1) by omega] at this; exact this
/-- Nothing is wrong. -/
structure GoodH (cs : List Hdr) : Prop where
  own : ∀ j c, cs[j]? = some c → plc (famL cs) c.1 = 5 + j
  up : ∀ j c, cs[j]? = some c → c.2 = ⟨#[]⟩ ∨ (plc (famL cs) c.2 < (famL cs).length ∧ Leads (famL cs) (famL cs).length (5 + j))
theorem chk_code {ps : List Hdr} : ∀ {l : List Hdr} {i : Nat} {x : Int × Nat}, chk2 ps l i = some x → x.1 ≠ 0
  | [], i, x, h => by simp [chk2] at h
  | c :: l, i, x, h => by
    unfold chk2 at h; split at h
    · exact chk_code h
    · split at h
      · split at h
        · exact chk_code h
        · injection h with h; subst h; show (8 : Int) ≠ 0; decide
      · injection h with h; subst h; show (7 : Int) ≠ 0; decide
theorem good_of {cs : List Hdr} (h : (chkL cs).1 = 0) : GoodH cs := by
  unfold chkL at h
  split at h
  · simp at h
  · rename_i h1
    split at h
    · rename_i x h2; exact absurd h (chk_code h2)
    · rename_i h2
      refine ⟨fun j c hj => ?_, fun j c hj => ?_⟩
      · have := chk1_ok h1 j c hj; omega
      · rcases chk2_ok h2 j c hj with e | ⟨e1, e2⟩
        · exact .inl e
        · have hl := (List.getElem?_eq_some_iff.1 hj).1
          exact .inr ⟨e1, by rw [show 5 + 0 + j = 5 + j by omega] at e2; exact (leadsB_iff (by rw [famL_len]; omega) (Nat.le_refl _)).1 e2⟩
def ChkP (cs : List Hdr) (w : World) (e : Ending) (w' : World) : Prop := e = .returned (.tuple #[.int .i64 (chkL cs).1, .int .i64 (chkL cs).2]) ∧ Below w.heap.size w w'
theorem chk_said {cs : List Hdr} {w W : World} {a b : Int} (h : ((chkL cs).1, ((chkL cs).2 : Int)) = (a, b)) (hb : Below w.heap.size w W) : ChkP cs w (.returned (.tuple #[.int .i64 a, .int .i64 b])) W := by
  injection h with h1 h2; exact ⟨by rw [h1, h2], hb⟩
theorem chkL_one {cs : List Hdr} {i : Nat} (h : chk1 (famL cs) cs 0 = some i) : ((chkL cs).1, ((chkL cs).2 : Int)) = ((6 : Int), (i : Int)) := by unfold chkL; rw [h]
theorem chkL_two {cs : List Hdr} {x : Int × Nat} (h : chk1 (famL cs) cs 0 = none) (h2 : chk2 (famL cs) cs 0 = some x) : ((chkL cs).1, ((chkL cs).2 : Int)) = (x.1, (x.2 : Int)) := by unfold chkL; rw [h, h2]
theorem chkL_nil {cs : List Hdr} (h : chk1 (famL cs) cs 0 = none) (h2 : chk2 (famL cs) cs 0 = none) : ((chkL cs).1, ((chkL cs).2 : Int)) = ((0 : Int), (0 : Int)) := by unfold chkL; rw [h, h2]; rfl
set_option maxRecDepth 100000 in
set_option maxHeartbeats 8000000 in
theorem kcheck_any {w : World} {v : Value} {cs : List Hdr} (h : Cl w v cs) : Calls Tryz.prog 62 #[.agg #[v]] w (ChkP cs w) := by
  have hb1 : Below w.heap.size w (w.alloc (.cells #[v] 24)) := (Below.refl _ _).alloc (Nat.le_refl _) _
  have hX0 := Lib.hid (Bx.new w #[v] 24)
  have HC := Lib.hid h
  obtain ⟨A, cap0, rfl, hcap0, h59, _⟩ := h
  go_enter Tryz.func62, Tryz.ntmps62
  go_upto_region 2 with (go_at_call 90; refine (family_any (cl_below HC.out hb1)).mono ?_; rintro e w1 ⟨fv, rfl, hF, hb⟩; have hX1 := Lib.hid (hX0.out.next hb); replace hb1 := hb1.trans (hb.mono hb1.size); clear hb hX0; obtain ⟨g, cap, rfl, hcap, h5, h64, hg, hx⟩ := fam_new hF; have HF := Lib.hid hF; clear hF hx; obtain ⟨n, hn⟩ : ∃ n, (famL cs).length = n := ⟨_, rfl⟩; have HL := Lib.hid hn; rw [hn] at hcap h5 h64 ⊢; clear hn)
  have hbA : Below w1.heap.size w1 (w1.alloc (.cells #[.slice (some ⟨g, 0, none⟩) n cap, .int .i64 5, .map none] 163)) := (Below.refl _ _).alloc (Nat.le_refl _) _
  have hX := Bx.new w1 #[.slice (some ⟨g, 0, none⟩) n cap, .int .i64 5, .map none] 163
  obtain ⟨W, hW⟩ : ∃ W, W = w1.alloc (.cells #[.slice (some ⟨g, 0, none⟩) n cap, .int .i64 5, .map none] 163) := ⟨_, rfl⟩
  rw [← hW] at hbA hX ⊢
  have HB := fun (w' : World) (hb : Below W.heap.size W w') => (hbA.trans (hb.mono hbA.size) : Below w1.heap.size w1 w')
  have HP : Hid (∀ w', Below W.heap.size W w' → ∀ s, Calls Tryz.prog 91 #[.agg #[.slice (some ⟨g, 0, none⟩) n cap, .int .i64 5, .map none], .string s] w' fun e w'' => e = .returned (.int .i64 (plc (famL cs) s)) ∧ Below w'.heap.size w' w'') := Lib.hid fun w' hb s => by rw [← HL.out]; exact place_any (HF.out.keep (KeepC.below (HB _ hb))) s
  have HH : Hid (∀ w', Below W.heap.size W w' → ∀ s, Calls Tryz.prog 94 #[.agg #[.slice (some ⟨g, 0, none⟩) n cap, .int .i64 5, .map none], .string s] w' fun e w'' => e = .returned (.bool (isCk cs s)) ∧ Below w'.heap.size w' w'') := Lib.hid fun w' hb s => by rw [← HL.out]; exact has_any (HF.out.keep (KeepC.below (HB _ hb))) s
  have HN : Hid (∀ w', Below W.heap.size W w' → Calls Tryz.prog 93 #[.agg #[.slice (some ⟨g, 0, none⟩) n cap, .int .i64 5, .map none]] w' fun e w'' => e = .returned (.int .i64 n) ∧ Below w'.heap.size w' w'') := Lib.hid fun w' hb => by rw [← HL.out]; exact none_any (HF.out.keep (KeepC.below (HB _ hb)))
  have HK : Hid (∀ w', Below W.heap.size W w' → Calls Tryz.prog 92 #[.agg #[.slice (some ⟨g, 0, none⟩) n cap, .int .i64 5, .map none], .int .i64 n] w' (MarkSaid (famL cs) n w')) := Lib.hid fun w' hb => by rw [← HL.out]; exact marked_any (HF.out.keep (KeepC.below (HB _ hb))) _ (Nat.le_refl _)
  have HX := Lib.hid hX
  have HPX := Lib.hid (hX1.out.next hbA)
  have HBW := Lib.hid (hb1.trans (hbA.mono hb1.size))
  have HCW := Lib.hid (cl_below HC.out HBW.out)
  obtain ⟨m, hm⟩ : ∃ m, cs.length = m := ⟨_, rfl⟩
  have HM := Lib.hid hm
  have HNM : Hid (n = 5 + m) := Lib.hid (by rw [← HL.out, famL_len, hm])
  have c0 := HPX.out.cell 0
  rw [hm] at hcap0 h59 c0 ⊢
  clear hbA hX hX1 hb1 HB hW hm HC HF
  go_wp2_with fail
  go_loopw [15] (fun v15 wr => ∃ k : Nat, v15 = .int .i64 k ∧ k ≤ m ∧ Below W.heap.size W wr ∧ Hid (chk1 (famL cs) cs 0 = chk1 (famL cs) (cs.drop k) k)) (fun v15 wr => m - (intOf v15).toNat)
  case atStart => exact ⟨0, rfl, Nat.zero_le _, Below.refl _ _, Lib.hid (by rw [List.drop_zero])⟩
  case round =>
    obtain ⟨k, rfl, hk, hB, hE⟩ := hrel
    clear c0
    by_cases hlt : k < m
    · obtain ⟨c, hck⟩ : ∃ c, cs[k]? = some c := ⟨cs[k]'(by rw [HM.out]; exact hlt), List.getElem?_eq_getElem _⟩
      have hS := chk1_step (ps := famL cs) hck
      obtain ⟨b, o, A2, n2, k2, A3, n3, k3, e, a0, a1, a2, a3⟩ := cl_cells (cl_below HCW.out hB) hck
      subst e
      obtain ⟨x1, x2⟩ := c
      obtain ⟨W5, hW5⟩ : ∃ W5, W5 = wr.alloc (.cells #[.string x1, .string x2, .slice A2 n2 k2, .slice A3 n3 k3] 51) := ⟨_, rfl⟩
      have hb5 : Below wr.heap.size wr W5 := by rw [hW5]; exact (Below.refl _ _).alloc (Nat.le_refl _) _
      have hX5 : Bx W5 wr.heap.size #[.string x1, .string x2, .slice A2 n2 k2, .slice A3 n3 k3] 51 := by rw [hW5]; exact Bx.new _ _ _
      have hBB : Below W.heap.size W W5 := hB.trans (hb5.mono hB.size)
      obtain ⟨pj, hpj⟩ : ∃ pj, plc (famL cs) x1 = pj := ⟨_, rfl⟩
      have hpn : pj ≤ n := by rw [← hpj, ← HL.out]; exact plc_le _ _
      have HPj : Hid (∀ w', Below W5.heap.size W5 w' → Calls Tryz.prog 91 #[.agg #[.slice (some ⟨g, 0, none⟩) n cap, .int .i64 5, .map none], .string x1] w' fun e w'' => e = .returned (.int .i64 pj) ∧ Below w'.heap.size w' w'') := Lib.hid fun w' hb => by rw [← hpj]; exact HP.out w' (hBB.trans (hb.mono hBB.size)) x1
      have HCC : Hid (∀ w', Below W5.heap.size W5 w' → w'.cell? ⟨w1.heap.size, 0, none⟩ = some (.slice (some ⟨g, 0, none⟩) n cap) ∧ w'.cell? ⟨w1.heap.size, 1, none⟩ = some (.int .i64 5) ∧ w'.cell? ⟨w1.heap.size, 2, none⟩ = some (.map none) ∧ w'.cell? ⟨wr.heap.size, 0, none⟩ = some (.string x1)) := Lib.hid fun w' hb => by
        have h1 := HX.out.next (hBB.trans (hb.mono hBB.size))
        exact ⟨h1.cell 0, h1.cell 1, h1.cell 2, (hX5.next hb).cell 0⟩
      have hb0 : Below W5.heap.size W5 W5.drew := (Below.refl _ _).drew
      have hwrap : IntKind.i64.wrap (5 + (k : Int)) = 5 + (k : Int) := by rw [IntKind.wrap_i64]; omega
      have hHB := Lib.hid hBB
      rw [show ((x1, x2) : Hdr).1 = x1 from rfl, hpj] at hS
      have hS2 := Lib.hid hS
      have hE2 := hE
      clear hB hb5 hX5 hck hpj hS hE hBB
      go_upto_region 5 with (fail)
      rw [← hW5]
      clear hW5 a0 a1 a2 a3
      by_cases hq : pj = 5 + k
      · have hq1 : ((pj : Int) != 5 + (k : Int)) = false := by simp; omega
        have hN : Hid (chk1 (famL cs) cs 0 = chk1 (famL cs) (cs.drop (k + 1)) (k + 1)) := Lib.hid (by rw [hE2.out, hS2.out, if_pos hq])
        clear hq
        go_region_held3 (fun w' => w'.cell? ⟨w1.heap.size, 0, none⟩ = some (.slice (some ⟨g, 0, none⟩) n cap) ∧ w'.cell? ⟨w1.heap.size, 1, none⟩ = some (.int .i64 5) ∧ w'.cell? ⟨w1.heap.size, 2, none⟩ = some (.map none) ∧ w'.cell? ⟨wr.heap.size, 0, none⟩ = some (.string x1))
          (first | with_reducible exact HCC.out _ hb0)
          ((first
            | (go_at_call 91; refine (HPj.out _ hb0).mono ?_; rintro e w6 ⟨rfl, hb⟩; replace hb0 := hb0.trans (hb.mono hb0.size); clear hb)))
        all_goals
          have hB0 := hHB.out.trans (hb0.mono hHB.out.size)
          go_wp2_with fail
          go_roundw
          case rel => exact ⟨k + 1, by simp, by omega, hB0, hN⟩
          case measure => simp [intOf]; omega
      · have hq1 : ((pj : Int) != 5 + (k : Int)) = true := by simp; omega
        have hN : Hid (chk1 (famL cs) cs 0 = some k) := Lib.hid (by rw [hE2.out, hS2.out, if_neg hq])
        clear hq
        go_region_held3 (fun w' => w'.cell? ⟨w1.heap.size, 0, none⟩ = some (.slice (some ⟨g, 0, none⟩) n cap) ∧ w'.cell? ⟨w1.heap.size, 1, none⟩ = some (.int .i64 5) ∧ w'.cell? ⟨w1.heap.size, 2, none⟩ = some (.map none) ∧ w'.cell? ⟨wr.heap.size, 0, none⟩ = some (.string x1))
          (first | with_reducible exact HCC.out _ hb0)
          ((first
            | (go_at_call 91; refine (HPj.out _ hb0).mono ?_; rintro e w6 ⟨rfl, hb⟩; replace hb0 := hb0.trans (hb.mono hb0.size); clear hb)))
        all_goals
          have hB0 := hHB.out.trans (hb0.mono hHB.out.size)
          go_wp2_with fail
          go_ret2
          exact chk_said (chkL_one hN.out) (HBW.out.trans (hB0.mono HBW.out.size))
    · have hE0 : Hid (chk1 (famL cs) cs 0 = none) := Lib.hid (by rw [hE.out, drop_none (by rw [HM.out]; omega)]; rfl)
      have HCC : Hid (∀ w', Below wr.heap.size wr w' → w'.cell? ⟨w1.heap.size, 0, none⟩ = some (.slice (some ⟨g, 0, none⟩) n cap) ∧ w'.cell? ⟨w1.heap.size, 1, none⟩ = some (.int .i64 5) ∧ w'.cell? ⟨w1.heap.size, 2, none⟩ = some (.map none)) := Lib.hid fun w' hb => by
        have h1 := HX.out.next (hB.trans (hb.mono hB.size))
        exact ⟨h1.cell 0, h1.cell 1, h1.cell 2⟩
      have hb0 : Below wr.heap.size wr wr.drew := (Below.refl _ _).drew
      have hHB := Lib.hid hB
      have HN2 : Hid (∀ w', Below wr.heap.size wr w' → Calls Tryz.prog 93 #[.agg #[.slice (some ⟨g, 0, none⟩) n cap, .int .i64 5, .map none]] w' fun e w'' => e = .returned (.int .i64 n) ∧ Below w'.heap.size w' w'') := Lib.hid fun w' hb => HN.out w' (hB.trans (hb.mono hB.size))
      have HK2 : Hid (∀ w', Below wr.heap.size wr w' → Calls Tryz.prog 92 #[.agg #[.slice (some ⟨g, 0, none⟩) n cap, .int .i64 5, .map none], .int .i64 n] w' (MarkSaid (famL cs) n w')) := Lib.hid fun w' hb => HK.out w' (hB.trans (hb.mono hB.size))
      clear hB hE
      go_upto_region 8 with (fail)
      go_region_held3 (fun w' => w'.cell? ⟨w1.heap.size, 0, none⟩ = some (.slice (some ⟨g, 0, none⟩) n cap) ∧ w'.cell? ⟨w1.heap.size, 1, none⟩ = some (.int .i64 5) ∧ w'.cell? ⟨w1.heap.size, 2, none⟩ = some (.map none))
        (first | with_reducible exact HCC.out _ hb0)
        ((first
          | (go_at_call 93; refine (HN2.out _ hb0).mono ?_; rintro e w3 ⟨rfl, hb⟩; replace hb0 := hb0.trans (hb.mono hb0.size); clear hb)
          | (go_at_call 92; refine (HK2.out _ hb0).mono ?_; rintro e w4 ⟨mv, M, rfl, hmo, hMl, hM2, hb⟩; replace hb0 := hb0.trans (hb.mono hb0.size); clear hb)))
      all_goals
        rw [HL.out] at hmo
        have HMO := Lib.hid hmo
        have HML := Lib.hid hMl
        have HM2 := Lib.hid hM2
        obtain ⟨Am, cm, rfl, hcm⟩ := own_form hmo
        obtain ⟨gm, rfl⟩ : ∃ gm, Am = some ⟨gm, 0, none⟩ := by
          rcases hmo.2 with ⟨e, e2⟩ | ⟨gm, c', cur, e, _⟩
          · omega
          · injection e with e _ _; exact ⟨gm, e⟩
        have HB4 := Lib.hid (hHB.out.trans (hb0.mono hHB.out.size))
        have c0 := (HPX.out.next HB4.out).cell 0
        rw [HM.out] at c0
        clear hmo hMl hM2 hb0 HN2 HK2
        go_wp2_with fail
        go_loopw [38] (fun v38 wr => ∃ k : Nat, v38 = .int .i64 k ∧ k ≤ m ∧ Below w4.heap.size w4 wr ∧ Hid (chk2 (famL cs) cs 0 = chk2 (famL cs) (cs.drop k) k)) (fun v38 wr => m - (intOf v38).toNat)
        case atStart => exact ⟨0, rfl, Nat.zero_le _, Below.refl _ _, Lib.hid (by rw [List.drop_zero])⟩
        case round =>
          obtain ⟨k, rfl, hk, hB, hE⟩ := hrel
          clear c0
          have hBB := HB4.out.trans (hB.mono HB4.out.size)
          by_cases hlt2 : k < m
          · obtain ⟨c, hck⟩ : ∃ c, cs[k]? = some c := ⟨cs[k]'(by rw [HM.out]; exact hlt2), List.getElem?_eq_getElem _⟩
            have hS := chk2_step (ps := famL cs) hck
            obtain ⟨b, o, A2, n2, k2, A3, n3, k3, e, a0, a1, a2, a3⟩ := cl_cells (cl_below HCW.out hBB) hck
            subst e
            obtain ⟨x1, x2⟩ := c
            obtain ⟨W5, hW5⟩ : ∃ W5, W5 = wr.alloc (.cells #[.string x1, .string x2, .slice A2 n2 k2, .slice A3 n3 k3] 51) := ⟨_, rfl⟩
            have hb5 : Below wr.heap.size wr W5 := by rw [hW5]; exact (Below.refl _ _).alloc (Nat.le_refl _) _
            have hX5 : Bx W5 wr.heap.size #[.string x1, .string x2, .slice A2 n2 k2, .slice A3 n3 k3] 51 := by rw [hW5]; exact Bx.new _ _ _
            have hB5 : Below w4.heap.size w4 W5 := hB.trans (hb5.mono hB.size)
            have hBB5 : Below W.heap.size W W5 := HB4.out.trans (hB5.mono HB4.out.size)
            have HHx := Lib.hid (HH.out W5 hBB5 x2)
            have hX6 := HX.out.next hBB5
            obtain ⟨f0, f1, f2⟩ := (⟨hX6.cell 0, hX6.cell 1, hX6.cell 2⟩ : W5.cell? ⟨w1.heap.size, 0, none⟩ = _ ∧ W5.cell? ⟨w1.heap.size, 1, none⟩ = _ ∧ W5.cell? ⟨w1.heap.size, 2, none⟩ = _)
            have y1 : W5.cell? ⟨wr.heap.size, 1, none⟩ = some (.string x2) := hX5.cell 1
            have HX6 := Lib.hid hX6
            have HB5 := Lib.hid hB5
            have hS2 := Lib.hid hS
            have hE2 := hE
            have hi5 : 5 + k ≤ n := by have := HNM.out; omega
            have d0 : W5.cell? ⟨gm, 5 + k, none⟩ = some (.int .i64 (M (5 + k) : Nat)) := by
              refine KeepC.below hB5 _ _ ?_
              rw [HMO.out.cellAt (5 + k) (by omega)]; exact marksV_at (by omega)
            have hwrap : IntKind.i64.wrap (5 + (k : Int)) = 5 + (k : Int) := by rw [IntKind.wrap_i64]; omega
            have hi6 : (5 + (k : Int)).toNat = 5 + k := by omega
            have hi7 : 5 + (k : Int) < n + 1 := by omega
            have hi8 : 0 ≤ 5 + (k : Int) := by omega
            clear hB hb5 hX5 hck hS hE hBB hX6 hB5 hBB5
            go_upto_region 12 with (fail)
            rw [← hW5]
            clear hW5 a0 a1 a2 a3
            by_cases hq : x2 = ⟨#[]⟩
            · have hN : Hid (chk2 (famL cs) cs 0 = chk2 (famL cs) (cs.drop (k + 1)) (k + 1)) := Lib.hid (by rw [hE2.out, hS2.out, if_pos hq])
              subst hq
              go_wp2_with fail
              go_roundw
              case rel => exact ⟨k + 1, by simp, by omega, HB5.out, hN⟩
              case measure => simp [intOf]; omega
            · have hq1 : x2.toList.isEmpty = false := by
                cases he : x2.toList.isEmpty
                · rfl
                · exfalso; apply hq
                  have h0 := List.isEmpty_iff.1 he
                  rw [ByteArray.toList_eq] at h0
                  cases x2; simp at h0; rw [h0]
              have hq2 : (x2.toList == []) = false := ba_ne_l [] hq
              obtain ⟨qc, hqc⟩ : ∃ qc, isCk cs x2 = qc := ⟨_, rfl⟩
              rw [hqc] at HHx
              cases qc
              · have hN : Hid (chk2 (famL cs) cs 0 = some (7, k)) := Lib.hid (by
                  have := of_decide_eq_false hqc
                  rw [hE2.out, hS2.out, if_neg hq, if_neg this])
                clear hq hqc
                go_wp2_with (go_at_call 94; refine HHx.out.mono ?_; rintro e w6 ⟨rfl, hb6⟩; have hB6 := HB5.out.trans (hb6.mono HB5.out.size); clear hb6 y1 f0 f1 f2 d0)
                go_ret2
                exact chk_said (chkL_two hE0.out hN.out) (HBW.out.trans ((HB4.out.trans (hB6.mono HB4.out.size)).mono HBW.out.size))
              · have hlt3 : plc (famL cs) x2 < (famL cs).length := of_decide_eq_true hqc
                have hLd : leadsB (famL cs) (famL cs).length (5 + k) = decide (M (5 + k) = 2) := by
                  rw [Bool.eq_iff_iff, leadsB_iff (by rw [HL.out]; exact hi5) (Nat.le_refl _), decide_eq_true_eq, HL.out]
                  exact (HML.out (5 + k) (by rw [HL.out]; exact hi5)).symm
                have HLd := Lib.hid hLd
                have hlt4 := Lib.hid hlt3
                have hqq := Lib.hid hq
                have hm3 : M (5 + k) = 0 ∨ M (5 + k) = 1 ∨ M (5 + k) = 2 := by have := HM2.out (5 + k); omega
                clear hq hqc hLd hlt3
                rcases hm3 with h3 | h3 | h3
                · rw [h3] at d0 HLd
                  replace d0 : W5.cell? ⟨gm, 5 + k, none⟩ = some (.int .i64 0) := d0
                  have hN : Hid (chk2 (famL cs) cs 0 = some (8, k)) := Lib.hid (by rw [hE2.out, hS2.out, if_neg hqq.out, if_pos hlt4.out, HLd.out]; rfl)
                  clear h3 HLd
                  go_wp2_with (go_at_call 94; refine HHx.out.mono ?_; rintro e w6 ⟨rfl, hb6⟩; have hB6 := HB5.out.trans (hb6.mono HB5.out.size); have d1 := KeepC.below hb6 _ _ d0; have g1 := (HX6.out.next hb6).cell 1; clear hb6 y1 f0 f1 f2 d0)
                  go_ret2
                  exact chk_said (chkL_two hE0.out hN.out) (HBW.out.trans ((HB4.out.trans (hB6.mono HB4.out.size)).mono HBW.out.size))
                · rw [h3] at d0 HLd
                  replace d0 : W5.cell? ⟨gm, 5 + k, none⟩ = some (.int .i64 1) := d0
                  have hN : Hid (chk2 (famL cs) cs 0 = some (8, k)) := Lib.hid (by rw [hE2.out, hS2.out, if_neg hqq.out, if_pos hlt4.out, HLd.out]; rfl)
                  clear h3 HLd
                  go_wp2_with (go_at_call 94; refine HHx.out.mono ?_; rintro e w6 ⟨rfl, hb6⟩; have hB6 := HB5.out.trans (hb6.mono HB5.out.size); have d1 := KeepC.below hb6 _ _ d0; have g1 := (HX6.out.next hb6).cell 1; clear hb6 y1 f0 f1 f2 d0)
                  go_ret2
                  exact chk_said (chkL_two hE0.out hN.out) (HBW.out.trans ((HB4.out.trans (hB6.mono HB4.out.size)).mono HBW.out.size))
                · rw [h3] at d0 HLd
                  replace d0 : W5.cell? ⟨gm, 5 + k, none⟩ = some (.int .i64 2) := d0
                  have hN : Hid (chk2 (famL cs) cs 0 = chk2 (famL cs) (cs.drop (k + 1)) (k + 1)) := Lib.hid (by rw [hE2.out, hS2.out, if_neg hqq.out, if_pos hlt4.out, HLd.out]; rfl)
                  clear h3 HLd
                  go_wp2_with (go_at_call 94; refine HHx.out.mono ?_; rintro e w6 ⟨rfl, hb6⟩; have hB6 := HB5.out.trans (hb6.mono HB5.out.size); have d1 := KeepC.below hb6 _ _ d0; have g1 := (HX6.out.next hb6).cell 1; clear hb6 y1 f0 f1 f2 d0)
                  go_roundw
                  case rel => exact ⟨k + 1, by simp, by omega, hB6, hN⟩
                  case measure => simp [intOf]; omega
          · have hE1 : Hid (chk2 (famL cs) cs 0 = none) := Lib.hid (by rw [hE.out, drop_none (by rw [HM.out]; omega)]; rfl)
            have HBE := Lib.hid hBB
            clear hB hE hBB
            go_wp2_with fail
            go_ret2
            exact chk_said (chkL_nil hE0.out hE1.out) (HBW.out.trans (HBE.out.mono HBW.out.size))
end Go.Proofs.YteogphbdpjnjoaaGreat
