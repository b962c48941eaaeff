/- An argument opened: a row of whole numbers. -/
import Derived.Test.YtiibneldabfokaaKinR
import Derived.ChangeSlices
import Derived.Deep.Slices
set_option linter.unusedSimpArgs false
set_option linter.unusedVariables false
namespace Go.Proofs.Ytiibneldabfokaa
open Go.RowKit Go.ChangeShapes Go.WideShapes Go.Deep
section
variable {H : Type} {enc : TypeId × Value → H} {w : World} {base : Nat} {held : Bool}
theorem add_spotK {w : World} {a : Addr} {i : Nat} {u u0 : Value} (h0 : w.cell? (a.add 0) = some u0) (h : w.cell? (a.add i) = some u) : ∃ b o, a = ⟨b, o, none⟩ ∧ w.cell? ⟨b, o + i, none⟩ = some u := by
  obtain ⟨b, o, s⟩ := a
  have e0 : (⟨b, o, s⟩ : Addr).add 0 = ⟨b, o, s⟩ := by simp [Addr.add]
  rw [e0] at h0
  cases s with
  | none =>
    refine ⟨b, o, rfl, ?_⟩
    have e : (⟨b, o, none⟩ : Addr).add i = ⟨b, o + i, none⟩ := by simp [Addr.add]
    rw [e] at h
    exact h
  | some s =>
    exfalso
    unfold World.cell? at h0
    split at h0 <;> simp at h0
set_option maxRecDepth 100000 in
theorem open_is {r : Reach} {b0 : Nat} {v : Value} {d : DataW H} {p : List MemPlace} (hv : Value.okWide Try.prog w r b0 22 v) (h : DataW.Trod enc Try.prog w base (fun _ => true) held 22 v d p) : Is w v := by
  obtain ⟨a, len, cap, rfl⟩ := okWide_slice Try.underlying22 hv
  obtain ⟨fuel, hf⟩ := h
  rcases open_ints Try.underlying22 Try.underlying3 (by kernel_rfl) hf with ⟨h0, _⟩ | ⟨a', len', cap', zs, h0, _, hl, hm, hz, _, hr, _⟩
  · injection h0 with h1
    injection h1 with h1 h2 h3
    subst h1 h2 h3
    exact ⟨none, 0, 0, rfl, Nat.le_refl _, Nat.zero_le _, fun j hj => by omega⟩
  · injection h0 with h1
    injection h1 with h1 h2 h3
    subst h1 h2 h3
    have hz2 : zs.length = cap := by simpa using hz
    refine ⟨some a', len, cap, rfl, hl, Nat.le_trans hl hm, fun i hi => ?_⟩
    obtain ⟨b, o, rfl, hc⟩ := add_spotK (hr 0 (by omega)) (hr i (by omega))
    exact ⟨b, o, _, rfl, hc⟩
end
end Go.Proofs.Ytiibneldabfokaa
