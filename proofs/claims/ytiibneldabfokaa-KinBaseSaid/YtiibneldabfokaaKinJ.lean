/- kin: Super, Sub. -/
import Derived.Test.YtiibneldabfokaaKinI
import Derived.Test.YtiibneldabfokaaShelf
set_option linter.unusedSimpArgs false
set_option linter.unusedVariables false
namespace Go.Proofs.Ytiibneldabfokaa
open Go.RowKit
theorem cloneK_any (s : ByteArray) (w : World) (hs : s.size ≤ 16777216) : Calls Try.prog 24 #[.string s] w fun e w' => e = .returned (.string s) ∧ Below w.heap.size w w' := by
  go_enter Try.func24, Try.ntmps24
  go_wp2_with (go_at_call 32; refine (Try.stringslite_Clone _ _ (by omega)).mono ?_; rintro e w1 ⟨rfl, hb⟩)
  go_ret
  exact ⟨rfl, hb⟩
/-- Names that are not long. -/
def Sm (cs : List Hdr) : Prop := ∀ h ∈ cs, h.1.size ≤ 1000 ∧ h.2.size ≤ 1000
theorem Sm.fam {cs : List Hdr} (h : Sm cs) : ∀ x ∈ famL cs, x.1.size ≤ 1000 ∧ x.2.size ≤ 1000 := by
  intro x hx
  rcases List.mem_append.1 hx with hx | hx
  · simp only [basesL, List.mem_cons, List.not_mem_nil, or_false] at hx
    rcases hx with rfl | rfl | rfl | rfl | rfl <;> decide
  · exact h x hx
/-- The family's box that a call makes. -/
theorem fam_new {w : World} {fv : Value} {ps : List Hdr} (h : Fm w fv ps) : ∃ g cap, fv = .agg #[.slice (some ⟨g, 0, none⟩) ps.length cap, .int .i64 5, .map none] ∧ ps.length ≤ cap ∧ 5 ≤ ps.length ∧ ps.length ≤ 64 ∧ g < w.heap.size ∧ ∀ i h, ps[i]? = some h → ∃ x, w.cell? ⟨g, i, none⟩ = some x ∧ HdV w x h := by
  obtain ⟨g, cap, rfl, hc, hg, hx⟩ := fam_box h
  obtain ⟨_, _, _, h5, h64⟩ := h
  exact ⟨g, cap, rfl, hc, h5, h64, hg, hx⟩
theorem superS_none {cs : List Hdr} {s : ByteArray} (h : isC cs s = false) : superS cs s = ⟨#[]⟩ := by
  unfold superS; rw [List.getElem?_eq_none (by unfold isC at h; have := of_decide_eq_false h; omega)]
set_option maxRecDepth 100000 in
set_option maxHeartbeats 8000000 in
theorem super_any {w : World} {v : Value} {cs : List Hdr} (h : Cl w v cs) (hs : Sm cs) (s : ByteArray) : Calls Try.prog 12 #[.agg #[v], .string s] w fun e w' => e = .returned (.string (superS cs s)) ∧ Below w.heap.size w w' := by
  have hb1 : Below w.heap.size w (w.alloc (.cells #[v] 25)) := (Below.refl _ _).alloc (Nat.le_refl _) _
  have HC := Lib.hid h
  have HSm := Lib.hid hs
  obtain ⟨A, cap0, rfl, _⟩ := h
  obtain ⟨q, hq⟩ : ∃ q, isC cs s = q := ⟨_, rfl⟩
  have HQ := Lib.hid hq
  clear hq hs
  go_enter Try.func12, Try.ntmps12
  go_wp2_with (go_at_call 16; refine (family_any (cl_below HC.out hb1)).mono ?_; rintro e w1 ⟨fv, rfl, hF, hb⟩; replace hb1 := hb1.trans (hb.mono hb1.size); clear hb; obtain ⟨g, cap, rfl, hcap, h5, h64, hg, hx⟩ := fam_new hF; have HF := Lib.hid hF; have HX := Lib.hid hx; clear hF hx)
  have hbA : Below w1.heap.size w1 (w1.alloc (.cells #[.slice (some ⟨g, 0, none⟩) (famL cs).length cap, .int .i64 5, .map none] 48)) := (Below.refl _ _).alloc (Nat.le_refl _) _
  refine (has_any (HF.out.keep (KeepC.below hbA)) s).mono ?_
  rintro e w2 ⟨rfl, hb2⟩
  have hX := (Bx.new w1 #[.slice (some ⟨g, 0, none⟩) (famL cs).length cap, .int .i64 5, .map none] 48).next hb2
  have hbB : Below w1.heap.size w1 w2 := hbA.trans (hb2.mono hbA.size)
  have hb3 : Below w.heap.size w w2 := hb1.trans (hbB.mono hb1.size)
  clear hbA hb2 hb1
  rw [show decide (plc (famL cs) s < (famL cs).length) = q from HQ.out]
  have c0 := hX.cell 0
  have c1 := hX.cell 1
  have c2 := hX.cell 2
  obtain ⟨n, hn⟩ : ∃ n, (famL cs).length = n := ⟨_, rfl⟩
  have HL := Lib.hid hn
  rw [hn] at hcap h5 h64 c0 ⊢
  cases q
  · clear hX hn
    have HE := Lib.hid (superS_none HQ.out)
    go_wp2_with fail
    go_ret
    exact ⟨by rw [HE.out]; rfl, hb3⟩
  · have hlt : plc (famL cs) s < (famL cs).length := of_decide_eq_true HQ.out
    obtain ⟨x, hxk⟩ : ∃ x, (famL cs)[plc (famL cs) s]? = some x := ⟨(famL cs)[plc (famL cs) s]'hlt, List.getElem?_eq_getElem _⟩
    have HE : Hid (superS cs s = x.2) := Lib.hid (by unfold superS; rw [hxk])
    have hsm := HSm.out.fam x (List.mem_of_getElem? hxk)
    obtain ⟨u, hu, hd⟩ := HX.out _ x hxk
    obtain ⟨x1, x2⟩ := x
    obtain ⟨i, hi⟩ : ∃ i, plc (famL cs) s = i := ⟨_, rfl⟩
    have HP : Hid (∀ w', Below w2.heap.size w2 w' → Calls Try.prog 17 #[.agg #[.slice (some ⟨g, 0, none⟩) n cap, .int .i64 5, .map none], .string s] w' fun e w'' => e = .returned (.int .i64 i) ∧ Below w'.heap.size w' w'') := Lib.hid fun w' hb => by rw [← hn, ← hi]; exact place_any (HF.out.keep (KeepC.below (hbB.trans (hb.mono hbB.size)))) s
    have HH : Hid (∀ w', Below w2.heap.size w2 w' → Calls Try.prog 25 #[u] w' fun e w'' => e = .returned (.tuple #[.string x1, .string x2]) ∧ Below w'.heap.size w' w'') := Lib.hid fun w' hb => head_any (hd.keep (KeepC.below (hbB.trans (hb.mono hbB.size))))
    have HC : Hid (∀ w', Below w2.heap.size w2 w' → w'.cell? ⟨w1.heap.size, 0, none⟩ = some (.slice (some ⟨g, 0, none⟩) n cap) ∧ w'.cell? ⟨w1.heap.size, 1, none⟩ = some (.int .i64 5) ∧ w'.cell? ⟨w1.heap.size, 2, none⟩ = some (.map none) ∧ w'.cell? ⟨g, i, none⟩ = some u) := Lib.hid fun w' hb => by
      rw [← hn]
      exact ⟨(hX.next hb).cell 0, (hX.next hb).cell 1, (hX.next hb).cell 2, by rw [← hi]; exact KeepC.below (hbB.trans (hb.mono hbB.size)) _ _ hu⟩
    have hb0 : Below w2.heap.size w2 w2.drew := (Below.refl _ _).drew
    have hs2 : x2.size ≤ 16777216 := by have := hsm.2; simp at this; omega
    have hin : (i : Int) < n := by omega
    clear hX hn hlt hxk hsm hu hd hi c0 c1 c2
    go_upto_region 4 with (fail)
    go_region_held3 (fun w' => w'.cell? ⟨w1.heap.size, 0, none⟩ = some (.slice (some ⟨g, 0, none⟩) n cap) ∧ w'.cell? ⟨w1.heap.size, 1, none⟩ = some (.int .i64 5) ∧ w'.cell? ⟨w1.heap.size, 2, none⟩ = some (.map none) ∧ w'.cell? ⟨g, i, none⟩ = some u)
      (first | with_reducible exact HC.out _ hb0)
      ((first
        | (go_at_call 17; refine (HP.out _ hb0).mono ?_; rintro e w3 ⟨rfl, hb⟩; replace hb0 := hb0.trans (hb.mono hb0.size); clear hb)
        | (go_at_call 25; refine (HH.out _ hb0).mono ?_; rintro e w4 ⟨rfl, hb⟩; replace hb0 := hb0.trans (hb.mono hb0.size); clear hb)))
    all_goals
      go_wp2_with (go_at_call 24; refine (cloneK_any _ _ hs2).mono ?_; rintro e w5 ⟨rfl, hb⟩; replace hb0 := hb0.trans (hb.mono hb0.size); clear hb)
      go_ret
      exact ⟨by rw [HE.out]; rfl, hb3.trans (hb0.mono hb3.size)⟩
end Go.Proofs.Ytiibneldabfokaa
