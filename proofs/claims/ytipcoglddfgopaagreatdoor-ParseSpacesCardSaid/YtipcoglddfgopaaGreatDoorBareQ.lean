/- Parts of the proof: BareQ. -/
import Derived.Test.YtipcoglddfgopaaGreatDoorFit
import Derived.Test.YtipcoglddfgopaaGreatDoorP19
import Derived.Test.YtipcoglddfgopaaGreatDoorP2
set_option linter.unusedSimpArgs false
set_option linter.unusedVariables false
namespace Go.Proofs.YtipcoglddfgopaaGreatDoor
theorem kind_bare (x : Nd) : (bareN x).kind = x.kind := by cases x <;> rfl
theorem sup_bare (l : List Nd) : hasSup (bareL l) = hasSup l := by
 unfold hasSup
 rw [bareL_map, List.any_map]
 congr 1; funext x; simp [kind_bare]
theorem head_bare (l : List Nd) : headK (bareL l) = headK l := by
 cases l with
 | nil => rfl
 | cons x l => simp [bareL, headK, kind_bare]
theorem tail_bare (l : List Nd) : (bareL l).tail = bareL l.tail := by cases l <;> rfl
theorem fits_bare (x : Nd) : fitsB (bareN x) = fitsB x := by
 cases x with
 | ex k n tx nm ty v l own nth => simp [bareN, fitsB, bareL_len]
 | st k n ty nm ve va vb vc e a b c nth => simp [bareN, fitsB, fitS, exprsS, blocksS, bareL_len, sup_bare, head_bare]
 | fd s ty nm v l => simp [bareN, fitsB, bareL_len]
 | mt s c ty nm vp ps v l => simp [bareN, fitsB, fitM, sup_bare, tail_bare]
 | cl nm sp vf vm f m => simp [bareN, fitsB, bareL_len]
theorem step_bare (x y : Nd) : stepN (bareN x) (bareN y) = stepN x y := by unfold stepN; rw [tag_bare, tag_bare]
theorem okT_bare : ∀ (n : Nat) (x : Nd) (d : Nat), x.size ≤ n → okT (bareN x) d = okT x d
 | 0, x, d, h => by have := size_pos x; omega
 | n + 1, x, d, h => by
   have h1 := size_kids x
   rw [okT_eq, okT_eq x, fits_bare, kids_bare]
   have : ((bareL x.kids).all fun y => okT y (d + stepN (bareN x) y)) = (x.kids.all fun y => okT y (d + stepN x y)) := by
     rw [bareL_map, List.all_map, Bool.eq_iff_iff, List.all_eq_true, List.all_eq_true]
     constructor
     · intro g y hy
       have := g y hy
       simp only [Function.comp_apply] at this
       rw [step_bare, okT_bare n y _ (by have := size_mem hy; omega)] at this; exact this
     · intro g y hy
       simp only [Function.comp_apply]
       rw [step_bare, okT_bare n y _ (by have := size_mem hy; omega)]; exact g y hy
   rw [this]
theorem mayB_bare (l : List Nd) : mayB (bareL l) = mayB l := by
 unfold mayB
 rw [bareL_len, sizeL_bare _ l (Nat.le_refl _)]
 congr 2
 rw [bareL_map, List.all_map]
 congr 1; funext x
 exact okT_bare _ x 0 (Nat.le_refl _)
theorem mayB_of_bare {a b : List Nd} (h : bareL a = bareL b) : mayB a = mayB b := by rw [← mayB_bare a, ← mayB_bare b, h]
end Go.Proofs.YtipcoglddfgopaaGreatDoor
