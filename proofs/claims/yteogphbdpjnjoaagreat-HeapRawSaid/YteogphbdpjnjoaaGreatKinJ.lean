/- kin: Super, Sub. -/
import Derived.Test.YteogphbdpjnjoaaGreatKinI
import Derived.Test.YteogphbdpjnjoaaGreatShelf
set_option linter.unusedSimpArgs false
set_option linter.unusedVariables false
namespace Go.Proofs.YteogphbdpjnjoaaGreat
open Go.RowKit
theorem cloneK_any (s : ByteArray) (w : World) (hs : s.size ≤ 16777216) : Calls Tryz.prog 29 #[.string s] w fun e w' => e = .returned (.string s) ∧ Below w.heap.size w w' := by
  go_enter Tryz.func29, Tryz.ntmps29
  go_wp2_with (go_at_call 55; refine (Tryz.stringslite_Clone _ _ (by omega)).mono ?_; rintro e w1 ⟨rfl, hb⟩)
  go_ret
  exact ⟨rfl, hb⟩
/-- Names that are not long. -/
def SmK (cs : List Hdr) : Prop := ∀ h ∈ cs, h.1.size ≤ 1000 ∧ h.2.size ≤ 1000
theorem SmK.fam {cs : List Hdr} (h : SmK cs) : ∀ x ∈ famL cs, x.1.size ≤ 1000 ∧ x.2.size ≤ 1000 := by
  intro x hx
  rcases List.mem_append.1 hx with hx | hx
  · simp only [basesL, List.mem_cons, List.not_mem_nil, or_false] at hx
    rcases hx with rfl | rfl | rfl | rfl | rfl <;> decide
  · exact h x hx
/-- The family's box that a call makes. -/
theorem fam_new {w : World} {fv : Value} {ps : List Hdr} (h : Fm w fv ps) : ∃ g cap, fv = .agg #[.slice (some ⟨g, 0, none⟩) ps.length cap, .int .i64 5, .map none] ∧ ps.length ≤ cap ∧ 5 ≤ ps.length ∧ ps.length ≤ 64 ∧ g < w.heap.size ∧ ∀ i h, ps[i]? = some h → ∃ x, w.cell? ⟨g, i, none⟩ = some x ∧ HdV w x h := by
  obtain ⟨g, cap, rfl, hc, hg, hx⟩ := fam_box h
  obtain ⟨_, _, _, h5, h64⟩ := h
  exact ⟨g, cap, rfl, hc, h5, h64, hg, hx⟩
theorem superS_none {cs : List Hdr} {s : ByteArray} (h : isCk cs s = false) : superS cs s = ⟨#[]⟩ := by
  unfold superS; rw [List.getElem?_eq_none (by unfold isCk at h; have := of_decide_eq_false h; omega)]
end Go.Proofs.YteogphbdpjnjoaaGreat
