/- Parts of the proof: BxN. -/
import Derived.Test.YtipcoglddfgopaaGreatDoorP6
set_option linter.unusedSimpArgs false
set_option linter.unusedVariables false
namespace Go.Proofs.YtipcoglddfgopaaGreatDoor
open Go.RowKit
theorem grown_1 (w : World) (b : Nat) (u0 : Value) : w.grownBy (w.setCell ⟨b, 0, none⟩ u0) (some b) := grown_set_at w b 0 u0
theorem Bx.to_1 {w : World} {b : Nat} {T : TypeId} {x0 : Value} (h : Bx w b #[x0] T) (u0 : Value) : Bx (w.setCell ⟨b, 0, none⟩ u0) b #[u0] T := by
 have := (h.set 0 u0)
 simpa using this
theorem Bx.all_1 {w : World} {b : Nat} {T : TypeId} {x0 : Value} (h : Bx w b #[x0] T) : w.cell? ⟨b, 0, none⟩ = some x0 := h.cell 0
theorem grown_2 (w : World) (b : Nat) (u0 u1 : Value) : w.grownBy ((w.setCell ⟨b, 0, none⟩ u0).setCell ⟨b, 1, none⟩ u1) (some b) := (grown_set_at w b 0 u0).trans (grown_set_at _ b 1 u1)
theorem Bx.to_2 {w : World} {b : Nat} {T : TypeId} {x0 x1 : Value} (h : Bx w b #[x0, x1] T) (u0 u1 : Value) : Bx ((w.setCell ⟨b, 0, none⟩ u0).setCell ⟨b, 1, none⟩ u1) b #[u0, u1] T := by
 have := ((h.set 0 u0).set 1 u1)
 simpa using this
theorem Bx.all_2 {w : World} {b : Nat} {T : TypeId} {x0 x1 : Value} (h : Bx w b #[x0, x1] T) : w.cell? ⟨b, 0, none⟩ = some x0 ∧ w.cell? ⟨b, 1, none⟩ = some x1 := ⟨h.cell 0, h.cell 1⟩
theorem grown_4 (w : World) (b : Nat) (u0 u1 u2 u3 : Value) : w.grownBy ((((w.setCell ⟨b, 0, none⟩ u0).setCell ⟨b, 1, none⟩ u1).setCell ⟨b, 2, none⟩ u2).setCell ⟨b, 3, none⟩ u3) (some b) := (((grown_set_at w b 0 u0).trans (grown_set_at _ b 1 u1)).trans (grown_set_at _ b 2 u2)).trans (grown_set_at _ b 3 u3)
theorem Bx.to_4 {w : World} {b : Nat} {T : TypeId} {x0 x1 x2 x3 : Value} (h : Bx w b #[x0, x1, x2, x3] T) (u0 u1 u2 u3 : Value) : Bx ((((w.setCell ⟨b, 0, none⟩ u0).setCell ⟨b, 1, none⟩ u1).setCell ⟨b, 2, none⟩ u2).setCell ⟨b, 3, none⟩ u3) b #[u0, u1, u2, u3] T := by
 have := ((((h.set 0 u0).set 1 u1).set 2 u2).set 3 u3)
 simpa using this
theorem Bx.all_4 {w : World} {b : Nat} {T : TypeId} {x0 x1 x2 x3 : Value} (h : Bx w b #[x0, x1, x2, x3] T) : w.cell? ⟨b, 0, none⟩ = some x0 ∧ w.cell? ⟨b, 1, none⟩ = some x1 ∧ w.cell? ⟨b, 2, none⟩ = some x2 ∧ w.cell? ⟨b, 3, none⟩ = some x3 := ⟨h.cell 0, h.cell 1, h.cell 2, h.cell 3⟩
theorem grown_6 (w : World) (b : Nat) (u0 u1 u2 u3 u4 u5 : Value) : w.grownBy ((((((w.setCell ⟨b, 0, none⟩ u0).setCell ⟨b, 1, none⟩ u1).setCell ⟨b, 2, none⟩ u2).setCell ⟨b, 3, none⟩ u3).setCell ⟨b, 4, none⟩ u4).setCell ⟨b, 5, none⟩ u5) (some b) := (((((grown_set_at w b 0 u0).trans (grown_set_at _ b 1 u1)).trans (grown_set_at _ b 2 u2)).trans (grown_set_at _ b 3 u3)).trans (grown_set_at _ b 4 u4)).trans (grown_set_at _ b 5 u5)
theorem Bx.to_6 {w : World} {b : Nat} {T : TypeId} {x0 x1 x2 x3 x4 x5 : Value} (h : Bx w b #[x0, x1, x2, x3, x4, x5] T) (u0 u1 u2 u3 u4 u5 : Value) : Bx ((((((w.setCell ⟨b, 0, none⟩ u0).setCell ⟨b, 1, none⟩ u1).setCell ⟨b, 2, none⟩ u2).setCell ⟨b, 3, none⟩ u3).setCell ⟨b, 4, none⟩ u4).setCell ⟨b, 5, none⟩ u5) b #[u0, u1, u2, u3, u4, u5] T := by
 have := ((((((h.set 0 u0).set 1 u1).set 2 u2).set 3 u3).set 4 u4).set 5 u5)
 simpa using this
theorem Bx.all_6 {w : World} {b : Nat} {T : TypeId} {x0 x1 x2 x3 x4 x5 : Value} (h : Bx w b #[x0, x1, x2, x3, x4, x5] T) : w.cell? ⟨b, 0, none⟩ = some x0 ∧ w.cell? ⟨b, 1, none⟩ = some x1 ∧ w.cell? ⟨b, 2, none⟩ = some x2 ∧ w.cell? ⟨b, 3, none⟩ = some x3 ∧ w.cell? ⟨b, 4, none⟩ = some x4 ∧ w.cell? ⟨b, 5, none⟩ = some x5 := ⟨h.cell 0, h.cell 1, h.cell 2, h.cell 3, h.cell 4, h.cell 5⟩
theorem grown_9 (w : World) (b : Nat) (u0 u1 u2 u3 u4 u5 u6 u7 u8 : Value) : w.grownBy (((((((((w.setCell ⟨b, 0, none⟩ u0).setCell ⟨b, 1, none⟩ u1).setCell ⟨b, 2, none⟩ u2).setCell ⟨b, 3, none⟩ u3).setCell ⟨b, 4, none⟩ u4).setCell ⟨b, 5, none⟩ u5).setCell ⟨b, 6, none⟩ u6).setCell ⟨b, 7, none⟩ u7).setCell ⟨b, 8, none⟩ u8) (some b) := ((((((((grown_set_at w b 0 u0).trans (grown_set_at _ b 1 u1)).trans (grown_set_at _ b 2 u2)).trans (grown_set_at _ b 3 u3)).trans (grown_set_at _ b 4 u4)).trans (grown_set_at _ b 5 u5)).trans (grown_set_at _ b 6 u6)).trans (grown_set_at _ b 7 u7)).trans (grown_set_at _ b 8 u8)
theorem Bx.to_9 {w : World} {b : Nat} {T : TypeId} {x0 x1 x2 x3 x4 x5 x6 x7 x8 : Value} (h : Bx w b #[x0, x1, x2, x3, x4, x5, x6, x7, x8] T) (u0 u1 u2 u3 u4 u5 u6 u7 u8 : Value) : Bx (((((((((w.setCell ⟨b, 0, none⟩ u0).setCell ⟨b, 1, none⟩ u1).setCell ⟨b, 2, none⟩ u2).setCell ⟨b, 3, none⟩ u3).setCell ⟨b, 4, none⟩ u4).setCell ⟨b, 5, none⟩ u5).setCell ⟨b, 6, none⟩ u6).setCell ⟨b, 7, none⟩ u7).setCell ⟨b, 8, none⟩ u8) b #[u0, u1, u2, u3, u4, u5, u6, u7, u8] T := by
 have := (((((((((h.set 0 u0).set 1 u1).set 2 u2).set 3 u3).set 4 u4).set 5 u5).set 6 u6).set 7 u7).set 8 u8)
 simpa using this
theorem Bx.all_9 {w : World} {b : Nat} {T : TypeId} {x0 x1 x2 x3 x4 x5 x6 x7 x8 : Value} (h : Bx w b #[x0, x1, x2, x3, x4, x5, x6, x7, x8] T) : w.cell? ⟨b, 0, none⟩ = some x0 ∧ w.cell? ⟨b, 1, none⟩ = some x1 ∧ w.cell? ⟨b, 2, none⟩ = some x2 ∧ w.cell? ⟨b, 3, none⟩ = some x3 ∧ w.cell? ⟨b, 4, none⟩ = some x4 ∧ w.cell? ⟨b, 5, none⟩ = some x5 ∧ w.cell? ⟨b, 6, none⟩ = some x6 ∧ w.cell? ⟨b, 7, none⟩ = some x7 ∧ w.cell? ⟨b, 8, none⟩ = some x8 := ⟨h.cell 0, h.cell 1, h.cell 2, h.cell 3, h.cell 4, h.cell 5, h.cell 6, h.cell 7, h.cell 8⟩
end Go.Proofs.YtipcoglddfgopaaGreatDoor
