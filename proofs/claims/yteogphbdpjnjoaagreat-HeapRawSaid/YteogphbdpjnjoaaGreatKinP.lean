/- kin: marks while the ways up are gone: what they tell. No program. -/
import Derived.Test.YteogphbdpjnjoaaGreatKinA
set_option linter.unusedSimpArgs false
set_option linter.unusedVariables false
namespace Go.Proofs.YteogphbdpjnjoaaGreat
open Go.RowKit
def passOn (M : Nat → Nat) (wl : List Nat) (m : Nat) : Nat → Nat := fun j => if j ∈ wl then m else M j
theorem passOn_nil (M : Nat → Nat) (m : Nat) : passOn M [] m = M := by funext j; simp [passOn]
theorem passOn_snoc (M : Nat → Nat) (wl : List Nat) (m i : Nat) : (fun k => if k = i then m else passOn M wl m k) = passOn M (wl ++ [i]) m := by
  funext k; unfold passOn; by_cases h : k = i
  · simp [h]
  · simp [h]
theorem passOn_over (M : Nat → Nat) (wl : List Nat) : passOn (passOn M wl 1) wl 2 = passOn M wl 2 := by
  funext k; unfold passOn; by_cases h : k ∈ wl <;> simp [h]
structure MkB (ps : List Hdr) (goal : Nat) (M : Nat → Nat) : Prop where
  le : ∀ j, M j ≤ 2
  two : ∀ j, j ≤ ps.length → M j = 2 → Leads ps goal j
  one : ∀ j, j ≤ ps.length → M j = 1 → ¬ Leads ps goal j
  nn : M ps.length ≠ 0
  g2 : M goal = 2
  gle : goal ≤ ps.length
theorem MkB.start (ps : List Hdr) {goal : Nat} (h : goal ≤ ps.length) : MkB ps goal (fun k => if k = goal then 2 else if k = ps.length then 1 else 0) := by
  refine ⟨fun j => ?_, fun j hj h2 => ?_, fun j hj h1 => ?_, ?_, by simp, h⟩
  · (try simp only []); split
    · omega
    · split <;> omega
  · (try simp only [] at h2)
    split at h2
    · rename_i e; rw [e]; exact Leads.refl _ _
    · split at h2 <;> omega
  · (try simp only [] at h1)
    split at h1
    · omega
    · rename_i e
      split at h1
      · rename_i e2; rw [e2]; exact leads_none_not (by omega)
      · omega
  · (try simp only []); split
    · omega
    · simp
theorem Way.later {ps : List Hdr} {i0 i x : Nat} {l : List Nat} (h : Way ps i0 l i) (hx : x ∈ l) : Leads ps i x := by
  obtain ⟨j, hj, rfl⟩ := h.mem hx
  refine ⟨l.length - j, ?_⟩
  rw [← it_add, h.at_]; congr 1; omega
theorem MkB.lead {ps : List Hdr} {goal k at' : Nat} {M : Nat → Nat} {wl : List Nat} (h : MkB ps goal M) (hw : Way ps k wl at') (hf : ∀ x ∈ wl, M x = 0) (ha : at' ≤ ps.length) (h2 : passOn M wl 1 at' = 2) : MkB ps goal (passOn M wl 2) := by
  have hn : at' ∉ wl := by intro hm; simp [passOn, hm] at h2
  simp only [passOn, if_neg hn] at h2
  have hl := h.two _ ha h2
  refine ⟨fun j => ?_, fun j hj e => ?_, fun j hj e => ?_, ?_, ?_, h.gle⟩
  · unfold passOn; split
    · omega
    · exact h.le j
  · unfold passOn at e; split at e
    · rename_i hm; exact (hw.later hm).trans hl
    · exact h.two j hj e
  · unfold passOn at e; split at e
    · omega
    · exact h.one j hj e
  · unfold passOn; split
    · omega
    · exact h.nn
  · unfold passOn; split
    · rfl
    · exact h.g2
theorem Way.closed {ps : List Hdr} {i0 i : Nat} {l : List Nat} (h : Way ps i0 l i) (hi : i ∈ l) : ∀ (m x : Nat), x ∈ l → it (upp ps) m x ∈ l
  | 0, x, hx => hx
  | m + 1, x, hx => by
    refine Way.closed h hi m (upp ps x) ?_
    obtain ⟨j, hj, rfl⟩ := h.mem hx
    rw [← it_succ (upp ps)]
    by_cases hl : j + 1 < l.length
    · exact h.of hl
    · have : j + 1 = l.length := by omega
      rw [this, ← h.at_]; exact hi
theorem MkB.pass {ps : List Hdr} {goal k at' : Nat} {M : Nat → Nat} {wl : List Nat} (h : MkB ps goal M) (hw : Way ps k wl at') (hf : ∀ x ∈ wl, M x = 0) (ha : at' ≤ ps.length) (h1 : passOn M wl 1 at' = 1) : MkB ps goal (passOn M wl 1) := by
  have hg : goal ∉ wl := fun hm => by have := hf _ hm; rw [h.g2] at this; omega
  have hno : ¬ Leads ps goal at' := by
    by_cases hm : at' ∈ wl
    · rintro ⟨m, e⟩; exact hg (e ▸ hw.closed hm m _ hm)
    · simp only [passOn, if_neg hm] at h1; exact h.one _ ha h1
  have hall : ∀ x ∈ wl, ¬ Leads ps goal x := by
    intro x hx ⟨m, e⟩
    obtain ⟨j, hj, rfl⟩ := hw.mem hx
    rw [← it_add] at e
    by_cases hl : j + m < wl.length
    · exact hg (e ▸ hw.of hl)
    · refine hno ⟨j + m - wl.length, ?_⟩
      rw [hw.at_, ← it_add, ← e]; congr 1; omega
  refine ⟨fun j => ?_, fun j hj e => ?_, fun j hj e => ?_, ?_, ?_, h.gle⟩
  · unfold passOn; split
    · omega
    · exact h.le j
  · unfold passOn at e; split at e
    · omega
    · exact h.two j hj e
  · unfold passOn at e; split at e
    · rename_i hm; exact hall j hm
    · exact h.one j hj e
  · unfold passOn; split
    · omega
    · exact h.nn
  · unfold passOn; rw [if_neg hg]; exact h.g2
/-- The round's own place is told. -/
theorem pass_own {ps : List Hdr} {k at' m : Nat} {M : Nat → Nat} {wl : List Nat} (hw : Way ps k wl at') (hz : passOn M wl 1 at' ≠ 0) (hm : m ≠ 0) : passOn M wl m k ≠ 0 := by
  cases wl with
  | nil =>
    have : at' = k := hw.at_
    rw [passOn_nil] at hz ⊢; rw [← this]; exact hz
  | cons x l =>
    have := hw.of (j := 0) (by simp)
    have h0 : it (upp ps) 0 k = k := rfl
    rw [h0] at this
    simp only [passOn, if_pos this]; exact hm
theorem pass_keep {M : Nat → Nat} {wl : List Nat} {m j : Nat} (hm : m ≠ 0) (h : M j ≠ 0) : passOn M wl m j ≠ 0 := by
  unfold passOn; split
  · exact hm
  · exact h
theorem MkB.done {ps : List Hdr} {goal : Nat} {M : Nat → Nat} (h : MkB ps goal M) (hk : ∀ j, j < ps.length → M j ≠ 0) (j : Nat) (hj : j ≤ ps.length) : M j = 2 ↔ Leads ps goal j := by
  constructor
  · exact h.two j hj
  · intro hl
    have h1 := h.le j
    have h2 : M j ≠ 1 := fun e => h.one j hj e hl
    have h3 : M j ≠ 0 := by
      by_cases e : j = ps.length
      · rw [e]; exact h.nn
      · exact hk j (by omega)
    omega
/-- What the second walk over the way has put by now. -/
theorem over_step (M : Nat → Nat) (wl : List Nat) (t x : Nat) (hx : wl[t]? = some x) : (fun k => if k = x then 2 else passOn M (wl.take t) 2 k) = passOn M (wl.take (t + 1)) 2 := by
  have h : wl.take (t + 1) = wl.take t ++ [x] := by rw [List.take_add_one, hx]; rfl
  rw [h, passOn_snoc]
end Go.Proofs.YteogphbdpjnjoaaGreat
