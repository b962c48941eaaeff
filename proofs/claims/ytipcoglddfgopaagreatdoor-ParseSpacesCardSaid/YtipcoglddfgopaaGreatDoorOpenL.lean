/- Parts of the proof: OpenL. -/
import Derived.Test.YtipcoglddfgopaaGreatDoorP8
import Derived.Deep.Matrix
set_option maxRecDepth 100000
set_option linter.unusedSimpArgs false
set_option linter.unusedVariables false
namespace Go.Proofs.YtipcoglddfgopaaGreatDoor
open Go.RowKit Go.ChangeShapes Go.WideShapes Go.Deep
section
variable {H : Type} {enc : TypeId × Value → H} {w : World} {base : Nat} {held : Bool}
theorem add_spot {w : World} {a : Addr} {i : Nat} {u u0 : Value} (h0 : w.cell? (a.add 0) = some u0) (h : w.cell? (a.add i) = some u) : ∃ b o, a = ⟨b, o, none⟩ ∧ w.cell? ⟨b, o + i, none⟩ = some u := by
 obtain ⟨b, o, s⟩ := a
 have e0 : (⟨b, o, s⟩ : Addr).add 0 = ⟨b, o, s⟩ := by simp [Addr.add]
 rw [e0] at h0
 cases s with
 | none =>
   refine ⟨b, o, rfl, ?_⟩
   have e : (⟨b, o, none⟩ : Addr).add i = ⟨b, o + i, none⟩ := by simp [Addr.add]
   rw [e] at h
   exact h
 | some s =>
   exfalso
   unfold World.cell? at h0
   split at h0 <;> simp at h0
theorem open_ll {r : Reach} {b0 : Nat} {v : Value} {d : DataW H} {p : List MemPlace} (hv : Value.okWide Tryz.prog w r b0 22 v) (h : DataW.Trod enc Tryz.prog w base (fun _ => true) held 22 v d p) : Ll w v := by
 obtain ⟨a, len, cap, rfl⟩ := okWide_slice Tryz.underlying22 hv
 obtain ⟨fuel, hf⟩ := h
 rcases open_int_rows Tryz.underlying22 Tryz.underlying35 Tryz.underlying3 (by kernel_rfl) (by kernel_rfl) hf with ⟨h0, _⟩ | ⟨a', len', cap', A, L, C, Z, h0, _, hl, hm, _, hr⟩
 · have h1 : [Value.slice a len cap] = [.slice none 0 0] := h0
   injection h1 with h1
   injection h1 with h1 h2 h3
   subst h1 h2 h3
   exact ⟨none, 0, 0, rfl, Nat.zero_le _, fun j hj => by omega⟩
 · have h1 : [Value.slice a len cap] = [.slice (some a') len' cap'] := h0
   injection h1 with h1
   injection h1 with h1 h2 h3
   subst h1 h2 h3
   refine ⟨some a', len, cap, rfl, Nat.le_trans hl hm, fun i hi => ?_⟩
   obtain ⟨c1, c2, c3, c4, c5, c6, c7⟩ := hr i (by omega)
   obtain ⟨b, o, rfl, hc⟩ := add_spot (hr 0 (by omega)).1 c1
   refine ⟨b, o, _, rfl, hc, A i, L i, C i, rfl, Nat.le_trans c2 c3, fun j hj => ?_⟩
   cases hA : A i with
   | none => have := c6 hA; omega
   | some a2 =>
     obtain ⟨_, hz⟩ := c7 a2 hA
     obtain ⟨b2, o2, rfl, hc2⟩ := add_spot (hz 0 (by omega)) (hz j (by omega))
     exact ⟨b2, o2, _, rfl, hc2⟩
end
end Go.Proofs.YtipcoglddfgopaaGreatDoor
