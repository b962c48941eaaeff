/- kin: none, place, up, has. -/
import Derived.Test.YteogphbdpjnjoaaGreatKinB
set_option linter.unusedSimpArgs false
set_option linter.unusedVariables false
namespace Go.Proofs.YteogphbdpjnjoaaGreat
open Go.RowKit
@[go_sem] theorem neq_map (w : World) : (binOp .neq 66 (.map none) (.map none)).run Tryz.prog w = .ok (.bool false) w := by kernel_rfl
/-- The family's box. -/
theorem fam_box {w : World} {fv : Value} {ps : List Hdr} (h : Fm w fv ps) : ∃ g cap, fv = .agg #[.slice (some ⟨g, 0, none⟩) ps.length cap, .int .i64 5, .map none] ∧ ps.length ≤ cap ∧ g < w.heap.size ∧ ∀ i h, ps[i]? = some h → ∃ x, w.cell? ⟨g, i, none⟩ = some x ∧ HdV w x h := by
  obtain ⟨pv, rfl, ⟨g, cap, rfl, hc, hx⟩, h5, h64⟩ := h
  refine ⟨g, cap, rfl, hc, ?_, hx⟩
  obtain ⟨x, h1, _⟩ := hx 0 ps[0] (by rw [List.getElem?_eq_getElem])
  exact World.block_lt_of_cell? w _ h1

set_option maxHeartbeats 4000000 in
theorem none_any {w : World} {fv : Value} {ps : List Hdr} (h : Fm w fv ps) : Calls Tryz.prog 93 #[fv] w fun e w' => e = .returned (.int .i64 ps.length) ∧ Below w.heap.size w w' := by
  obtain ⟨g, cap, rfl, _, _, _⟩ := fam_box h
  obtain ⟨_, _, _, h5, h64⟩ := h
  go_enter Tryz.func93, Tryz.ntmps93
  go_wp2_with fail
  go_ret
  exact ⟨rfl, (Below.refl _ _).alloc (Nat.le_refl _) _⟩

structure PlR (ps : List Hdr) (nm : ByteArray) (w : World) (k : Nat) (wr : World) : Prop where
  bel : Below w.heap.size w wr
  eq : plc ps nm = k + plc (ps.drop k) nm
  le : k ≤ ps.length
set_option maxRecDepth 100000 in
set_option maxHeartbeats 4000000 in
theorem place_any {w : World} {fv : Value} {ps : List Hdr} (h : Fm w fv ps) (nm : ByteArray) : Calls Tryz.prog 91 #[fv, .string nm] w fun e w' => e = .returned (.int .i64 (plc ps nm)) ∧ Below w.heap.size w w' := by
  obtain ⟨g, cap, rfl, hcap, hg, hx⟩ := fam_box h
  have hx0 := Lib.hid hx
  have HF := Lib.hid h
  obtain ⟨_, _, _, h5, h64⟩ := h
  clear hx
  obtain ⟨n, hn⟩ : ∃ n, ps.length = n := ⟨_, rfl⟩
  have HN : Hid (∀ w', Below w.heap.size w w' → Calls Tryz.prog 93 #[.agg #[.slice (some ⟨g, 0, none⟩) n cap, .int .i64 5, .map none]] w' fun e w'' => e = .returned (.int .i64 n) ∧ Below w'.heap.size w' w'') := Lib.hid fun w' hb => by rw [← hn]; exact none_any (HF.out.keep (KeepC.below hb))
  rw [hn] at hcap h5 h64 ⊢
  have HL := Lib.hid hn
  clear HF hn
  go_enter Tryz.func91, Tryz.ntmps91
  go_wp2_with fail
  have hb1 : Below w.heap.size w (w.alloc (.cells #[.slice (some ⟨g, 0, none⟩) n cap, .int .i64 5, .map none] 163)) := (Below.refl _ _).alloc (Nat.le_refl _) _
  go_loopw [28] (fun v28 wr => ∃ k : Nat, v28 = .int .i64 k ∧ k ≤ n ∧ PlR ps nm w k wr ∧ Bx wr w.heap.size #[.slice (some ⟨g, 0, none⟩) n cap, .int .i64 5, .map none] 163) (fun v28 wr => n - (intOf v28).toNat)
  case atStart => exact ⟨0, rfl, Nat.zero_le _, ⟨hb1, by simp, Nat.zero_le _⟩, Bx.new _ _ _⟩
  case round =>
    obtain ⟨k, rfl, hkn, hR, hB⟩ := hrel
    by_cases hlt : k < n
    · obtain ⟨x, hxk⟩ : ∃ x, ps[k]? = some x := ⟨ps[k]'(by rw [HL.out]; exact hlt), List.getElem?_eq_getElem _⟩
      obtain ⟨u, hu, hd⟩ := hx0.out k x hxk
      have hu2 := KeepC.below hR.bel _ _ hu
      have HH := Lib.hid (head_any (hd.keep (KeepC.below hR.bel)))
      clear hd hu
      obtain ⟨x1, x2⟩ := x
      by_cases hq : x1 = nm
      · have HP := Lib.hid (plc_hit hR.eq hxk hq)
        have HR := Lib.hid hR
        clear hR hxk
        go_wp2_with fail
        refine HH.out.mono ?_
        clear HH
        rintro e w1 ⟨rfl, hb2⟩
        go_wp2_with fail
        go_ret
        exact ⟨by rw [HP.out]; rfl, HR.out.bel.trans (hb2.mono HR.out.bel.size)⟩
      · have HP := Lib.hid (plc_next hR.eq hxk hq)
        have hq2 := ba_ne hq
        clear hq
        have HR := Lib.hid hR
        clear hR hxk
        have HB := Lib.hid hB
        go_wp2_with fail
        refine HH.out.mono ?_
        clear HH
        rintro e w1 ⟨rfl, hb2⟩
        go_wp2_with fail
        go_roundw
        case rel => exact ⟨k + 1, by simp, by omega, ⟨HR.out.bel.trans (hb2.mono HR.out.bel.size), HP.out, by rw [HL.out]; omega⟩, HB.out.next hb2⟩
        case measure => simp [intOf]; omega
    · have HP := Lib.hid (plc_end hR.eq (by rw [HL.out]; omega) hR.le)
      have c0 := hB.cell 0
      have c1 := hB.cell 1
      have c2 := hB.cell 2
      have hb := hR.bel
      rw [HL.out] at HP
      clear hR hB
      go_wp2_with fail
      refine (HN.out _ hb).mono ?_
      rintro e w1 ⟨rfl, hb2⟩
      go_wp2_with fail
      go_ret
      exact ⟨by rw [HP.out]; rfl, hb.trans (hb2.mono hb.size)⟩

set_option maxRecDepth 100000 in
set_option maxHeartbeats 4000000 in
theorem up_any {w : World} {fv : Value} {ps : List Hdr} (h : Fm w fv ps) (i : Nat) (hi : i < ps.length) : Calls Tryz.prog 129 #[fv, .int .i64 i] w fun e w' => e = .returned (.int .i64 (upp ps i)) ∧ Below w.heap.size w w' := by
  obtain ⟨g, cap, rfl, hcap, hg, hx⟩ := fam_box h
  have HF := Lib.hid h
  obtain ⟨_, _, _, h5, h64⟩ := h
  obtain ⟨x, hxk⟩ : ∃ x, ps[i]? = some x := ⟨ps[i]'hi, List.getElem?_eq_getElem _⟩
  obtain ⟨u, hu, hd⟩ := hx i x hxk
  have HU := Lib.hid (upp_at hxk)
  have HD := Lib.hid hd
  obtain ⟨x1, x2⟩ := x
  obtain ⟨n, hn⟩ : ∃ n, ps.length = n := ⟨_, rfl⟩
  have HP : Hid (∀ w', Below w.heap.size w w' → Calls Tryz.prog 91 #[.agg #[.slice (some ⟨g, 0, none⟩) n cap, .int .i64 5, .map none], .string x2] w' fun e w'' => e = .returned (.int .i64 (plc ps x2)) ∧ Below w'.heap.size w' w'') := Lib.hid fun w' hb => by rw [← hn]; exact place_any (HF.out.keep (KeepC.below hb)) x2
  have HH : Hid (∀ w', Below w.heap.size w w' → Calls Tryz.prog 128 #[u] w' fun e w'' => e = .returned (.tuple #[.string x1, .string x2]) ∧ Below w'.heap.size w' w'') := Lib.hid fun w' hb => head_any (HD.out.keep (KeepC.below hb))
  rw [hn] at hcap h5 h64 hi ⊢
  have hb1 : Below w.heap.size w (w.alloc (.cells #[.slice (some ⟨g, 0, none⟩) n cap, .int .i64 5, .map none] 163)) := (Below.refl _ _).alloc (Nat.le_refl _) _
  have hX := Bx.new w #[.slice (some ⟨g, 0, none⟩) n cap, .int .i64 5, .map none] 163
  have hne : g ≠ w.heap.size := by omega
  clear HF hn hd hx hxk HD
  go_enter Tryz.func129, Tryz.ntmps129
  go_wp2_with fail
  refine (HH.out _ hb1).mono ?_
  rintro e w1 ⟨rfl, hb2⟩
  have hb3 := hb1.trans (hb2.mono hb1.size)
  have c0 := (hX.next hb2).cell 0
  have c1 := (hX.next hb2).cell 1
  have c2 := (hX.next hb2).cell 2
  clear hb2 hX hb1
  go_wp2_with fail
  refine (HP.out _ hb3).mono ?_
  rintro e w2 ⟨rfl, hb4⟩
  go_wp2_with fail
  go_ret
  exact ⟨by rw [HU.out]; rfl, hb3.trans (hb4.mono hb3.size)⟩

set_option maxRecDepth 100000 in
set_option maxHeartbeats 4000000 in
theorem has_any {w : World} {fv : Value} {ps : List Hdr} (h : Fm w fv ps) (nm : ByteArray) : Calls Tryz.prog 94 #[fv, .string nm] w fun e w' => e = .returned (.bool (decide (plc ps nm < ps.length))) ∧ Below w.heap.size w w' := by
  obtain ⟨g, cap, rfl, hcap, hg, hx⟩ := fam_box h
  have HF := Lib.hid h
  obtain ⟨_, _, _, h5, h64⟩ := h
  have hle := plc_le ps nm
  obtain ⟨n, hn⟩ : ∃ n, ps.length = n := ⟨_, rfl⟩
  obtain ⟨q, hq⟩ : ∃ q, plc ps nm = q := ⟨_, rfl⟩
  have HP : Hid (∀ w', Below w.heap.size w w' → Calls Tryz.prog 91 #[.agg #[.slice (some ⟨g, 0, none⟩) n cap, .int .i64 5, .map none], .string nm] w' fun e w'' => e = .returned (.int .i64 q) ∧ Below w'.heap.size w' w'') := Lib.hid fun w' hb => by rw [← hn, ← hq]; exact place_any (HF.out.keep (KeepC.below hb)) nm
  have HN : Hid (∀ w', Below w.heap.size w w' → Calls Tryz.prog 93 #[.agg #[.slice (some ⟨g, 0, none⟩) n cap, .int .i64 5, .map none]] w' fun e w'' => e = .returned (.int .i64 n) ∧ Below w'.heap.size w' w'') := Lib.hid fun w' hb => by rw [← hn]; exact none_any (HF.out.keep (KeepC.below hb))
  rw [hn] at hcap h5 h64 hle ⊢
  rw [hq] at hle ⊢
  obtain ⟨W1, hW1⟩ : ∃ W1, W1 = w.alloc (.cells #[.slice (some ⟨g, 0, none⟩) n cap, .int .i64 5, .map none] 163) := ⟨_, rfl⟩
  have hb1 : Below w.heap.size w W1 := by rw [hW1]; exact (Below.refl _ _).alloc (Nat.le_refl _) _
  have hX : Bx W1 w.heap.size #[.slice (some ⟨g, 0, none⟩) n cap, .int .i64 5, .map none] 163 := by rw [hW1]; exact Bx.new w _ _
  have HC : Hid (∀ w', Below W1.heap.size W1 w' → w'.cell? ⟨w.heap.size, 0, none⟩ = some (.slice (some ⟨g, 0, none⟩) n cap) ∧ w'.cell? ⟨w.heap.size, 1, none⟩ = some (.int .i64 5) ∧ w'.cell? ⟨w.heap.size, 2, none⟩ = some (.map none)) := Lib.hid fun w' hb => ⟨(hX.next hb).cell 0, (hX.next hb).cell 1, (hX.next hb).cell 2⟩
  have hb0 : Below W1.heap.size W1 W1.drew := (Below.refl _ _).drew
  clear HF hn hx hq hX
  go_enter Tryz.func94, Tryz.ntmps94
  go_upto_region 1 with (fail)
  rw [← hW1]
  clear hW1
  go_region_held3 (fun w' => w'.cell? ⟨w.heap.size, 0, none⟩ = some (.slice (some ⟨g, 0, none⟩) n cap) ∧ w'.cell? ⟨w.heap.size, 1, none⟩ = some (.int .i64 5) ∧ w'.cell? ⟨w.heap.size, 2, none⟩ = some (.map none))
    (first | with_reducible exact HC.out _ hb0)
    ((first
      | (go_at_call 91; refine (HP.out _ (hb1.trans (hb0.mono hb1.size))).mono ?_; rintro e w2 ⟨rfl, hb⟩; replace hb0 := hb0.trans (hb.mono hb0.size); clear hb)
      | (go_at_call 93; refine (HN.out _ (hb1.trans (hb0.mono hb1.size))).mono ?_; rintro e w2 ⟨rfl, hb⟩; replace hb0 := hb0.trans (hb.mono hb0.size); clear hb)))
  all_goals
    go_wp2_with fail
    go_ret
    refine ⟨congrArg (fun b => Ending.returned (Value.bool b)) (a₁ := (q : Int) != n) ?_, hb1.trans (hb0.mono hb1.size)⟩
    rw [Bool.eq_iff_iff]
    simp
    omega
end Go.Proofs.YteogphbdpjnjoaaGreat
