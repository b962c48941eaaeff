/- kin: bases, slices.Grow of parts, familyOf; slices.Index and Contains of ints. -/
import Derived.Test.YteogphbdpjnjoaaGreatKinC
import Derived.Lib.AppendZerosOnto
set_option linter.unusedSimpArgs false
set_option linter.unusedVariables false
namespace Go.Proofs.YteogphbdpjnjoaaGreat
open Go.RowKit
theorem Tryz.infoPart : (Tryz.prog.info? 198).map (fun i => (i.zero, i.size, i.bytes)) = some (some .nilIface, 1, 16) := by kernel_rfl
def baseVs : List Value := basesL.map baseV
/-- A family's row while it is being made. -/
def BasesSaid (w : World) (e : Ending) (w' : World) : Prop := ∃ g, e = .returned (.slice (some ⟨g, 0, none⟩) 5 5) ∧ w'.ownsRow w.heap.size 198 1 (.slice (some ⟨g, 0, none⟩) 5 5) 5 baseVs ∧ Below w.heap.size w w'
set_option maxHeartbeats 4000000 in
theorem bases_any (w : World) : Calls Tryz.prog 126 #[] w (BasesSaid w) := by
  go_enter Tryz.func126, Tryz.ntmps126
  go_wp2_with fail
  go_ret
  exact ⟨_, rfl, World.ownsRow_lit w _ 5 (Nat.le_refl _) (by decide) rfl, (Below.refl _ _).alloc (Nat.le_refl _) _⟩
def GrowSaid (B : Nat) (xs : List Value) (w : World) (e : Ending) (w' : World) : Prop := ∃ v, e = .returned v ∧ w'.ownsRow B 198 1 v 5 xs ∧ Below w.heap.size w w'
set_option maxHeartbeats 4000000 in
theorem grow_any {w : World} {B g : Nat} {xs : List Value} (ho : w.ownsRow B 198 1 (.slice (some ⟨g, 0, none⟩) 5 5) 5 xs) (hB : B ≤ w.heap.size) (n : Nat) (hn : n ≤ 59) :
    Calls Tryz.prog 125 #[.slice (some ⟨g, 0, none⟩) 5 5, .int .i64 n] w (GrowSaid B xs w) := by
  have HO := Lib.hid ho
  have hcs := ho.cells (g := g) rfl
  have hl := ho.1
  obtain ⟨i0, hi, hz0, hz1, hz2⟩ := info_parts Tryz.infoPart
  clear ho
  rcases Nat.eq_zero_or_pos n with rfl | hp
  · clear hcs hl
    go_enter Tryz.func125, Tryz.ntmps125
    go_wp2_with fail
    go_ret
    exact ⟨_, rfl, HO.out, Below.refl _ _⟩
  · have hrz : ∀ ty, (Builtin.append_ #[161, 3] ty #[.slice (some ⟨g, 0, none⟩) 5 5, .int .i64 (n : Int)]).run Tryz.prog w =
        .ok (.slice (some ⟨w.heap.size, 0, none⟩) (5 + n) (grownCap w (5 + n) 5 198)) (w.drew.alloc (.cells (xs.toArray ++ Builtin.zeroCells Value.nilIface.cells n ++ Builtin.zeroCells Value.nilIface.cells (grownCap w (5 + n) 5 198 - (5 + n))) 198)) := fun ty =>
      Lib.run_append_grow_zeros w 161 3 ty 198 i0 _ .i64 .i64 Tryz.underlying161 Tryz.underlying3 hi hz0 (some ⟨g, 0, none⟩) 5 5 xs
        (run_firstCells_some w.drew i0.size 5 ⟨g, 0, none⟩ 5 5 xs (by rw [hz1]; exact hl) hcs) n hp (by rw [hz1]; decide) (by omega) (by omega) (by rw [hz2]; omega) (growslice_fits (by omega) (by rw [hz2]; omega))
    have hGn : 5 + n ≤ grownCap w (5 + n) 5 198 := grownCap_ge w _ _ _
    have hG63 := grownCap_le_maxLen w (5 + n) 5 198 (by unfold maxLen; omega)
    obtain ⟨G, hG⟩ : ∃ G, G = grownCap w (5 + n) 5 198 := ⟨_, rfl⟩
    rw [← hG] at hGn hG63
    have hrz2 := hrz
    rw [← hG] at hrz2
    have hend : (w.drew.alloc (.cells (xs.toArray ++ Builtin.zeroCells Value.nilIface.cells n ++ Builtin.zeroCells Value.nilIface.cells (G - (5 + n))) 198)).ownsRow B 198 1 (.slice (some ⟨w.heap.size, 0, none⟩) 5 G) 5 xs := by
      refine ⟨by rw [hl], .inr ⟨w.heap.size, G, _, rfl, hB, heap_alloc_new w.drew _, by omega, hG63, ?_, ?_⟩⟩
      · simp only [Array.size_append, List.size_toArray, size_zeroCells, hl]
        show 5 * 1 + n * 1 + (G - (5 + n)) * 1 = G * 1
        omega
      · simp only [Array.toList_append, List.append_assoc]
        exact List.take_left' (by rw [hl])
    have hW : Below w.heap.size w (w.drew.alloc (.cells (xs.toArray ++ Builtin.zeroCells Value.nilIface.cells n ++ Builtin.zeroCells Value.nilIface.cells (G - (5 + n))) 198)) := ((Below.refl _ _).drew).alloc (Nat.le_refl _) _
    obtain ⟨W2, hW2⟩ : ∃ W2, W2 = w.drew.alloc (.cells (xs.toArray ++ Builtin.zeroCells Value.nilIface.cells n ++ Builtin.zeroCells Value.nilIface.cells (G - (5 + n))) 198) := ⟨_, rfl⟩
    rw [← hW2] at hend hrz2 hW
    have HE := Lib.hid hend
    have HW := Lib.hid hW
    have HR := Lib.hid hrz2
    unfold maxLen at hG63
    clear hW hW2 hend hrz hrz2 hG hcs hl HO hz0 hz1 hz2 hi
    go_enter Tryz.func125, Tryz.ntmps125
    go_wp2_with (at_builtin; refine Lib.wpList_append_run _ rfl _ _ _ _ rfl _ _ rfl rfl _ _ (HR.out _) ?_)
    all_goals (go_ret; exact ⟨_, rfl, HE.out, HW.out⟩)
end Go.Proofs.YteogphbdpjnjoaaGreat
