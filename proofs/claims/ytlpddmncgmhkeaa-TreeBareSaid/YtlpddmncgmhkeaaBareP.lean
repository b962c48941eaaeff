/- What is bare is the same, as long, and may be as much: no program. -/
import Derived.Test.YtlpddmncgmhkeaaBareF
set_option linter.unusedSimpArgs false
set_option linter.unusedVariables false
namespace Go.Proofs.Ytlpddmncgmhkeaa
open Go.RowKit
theorem gen_world {P : Program} {c : Code} {Q : Exit → Act → World → Prop} {a : Act} {W0 : World} (F : World → Prop) (h0 : F W0) (h : ∀ W, F W → Code.wp P c Q a W) : Code.wp P c Q a W0 := h W0 h0
theorem bareL_len (l : List Nd) : (bareL l).length = l.length := by rw [bareL_map]; simp
theorem bareL_append (a b : List Nd) : bareL (a ++ b) = bareL a ++ bareL b := by simp [bareL_map]
theorem kids_bare (x : Nd) : (bareN x).kids = bareL x.kids := by cases x <;> simp [bareN, Nd.kids, bareL_append]
theorem alike_bare (x y : Nd) : alikeB (bareN x) (bareN y) = alikeB x y := by
  cases x <;> cases y <;> simp [bareN, alikeB, bareL_len]
theorem sameL_bare : ∀ (n : Nat) (a b : List Nd), sizeL a ≤ n → sameL (bareL a) (bareL b) = sameL a b
  | 0, [], [], _ => rfl
  | 0, [], y :: b, _ => by simp [bareL, sameL]
  | 0, x :: a, b, h => by have := size_pos x; simp [sizeL] at h; omega
  | n + 1, [], [], _ => rfl
  | n + 1, [], y :: b, _ => by simp [bareL, sameL]
  | n + 1, x :: a, [], _ => by simp [bareL, sameL]
  | n + 1, x :: a, y :: b, h => by
    simp only [bareL, sameL_cons, alike_bare, kids_bare]
    simp only [sizeL] at h
    have h1 := size_kids x
    rw [sameL_bare n x.kids y.kids (by omega), sameL_bare n a b (by have := size_pos x; omega)]
theorem sameL_of_bare {a b c : List Nd} (h : bareL a = bareL b) : sameL a c = sameL b c := by
  rw [← sameL_bare (sizeL a) a c (Nat.le_refl _), ← sameL_bare (sizeL b) b c (Nat.le_refl _), h]
theorem alike_refl (x : Nd) : alikeB x x = true := by
  cases x <;> simp [alikeB]
  case mt s c ty nm vp ps v l =>
    induction ps with
    | nil => rfl
    | cons p ps ih => simp [psB, prmB, ih]
theorem sameL_refl : ∀ (n : Nat) (a : List Nd), sizeL a ≤ n → sameL a a = true
  | _, [], _ => sameL_nil
  | 0, x :: a, h => by have := size_pos x; simp [sizeL] at h; omega
  | n + 1, x :: a, h => by
    simp only [sizeL] at h
    have h1 := size_kids x
    rw [sameL_cons, alike_refl, sameL_refl n x.kids (by omega), sameL_refl n a (by have := size_pos x; omega)]; rfl
theorem sizeL_bare : ∀ (n : Nat) (a : List Nd), sizeL a ≤ n → sizeL (bareL a) = sizeL a
  | _, [], _ => rfl
  | 0, x :: a, h => by have := size_pos x; simp [sizeL] at h; omega
  | n + 1, x :: a, h => by
    simp only [sizeL] at h
    have h1 := size_kids x
    have h2 := size_kids (bareN x)
    rw [kids_bare, sizeL_bare n x.kids (by omega)] at h2
    simp only [bareL, sizeL]
    rw [sizeL_bare n a (by have := size_pos x; omega)]; omega
theorem sizeL_of_bare {a b : List Nd} (h : bareL a = bareL b) : sizeL a = sizeL b := by
  rw [← sizeL_bare (sizeL a) a (Nat.le_refl _), ← sizeL_bare (sizeL b) b (Nat.le_refl _), h]
end Go.Proofs.Ytlpddmncgmhkeaa
/- What is bare may be just as much: no program. -/
set_option linter.unusedSimpArgs false
set_option linter.unusedVariables false
namespace Go.Proofs.Ytlpddmncgmhkeaa
theorem kind_bare (x : Nd) : (bareN x).kind = x.kind := by cases x <;> rfl
theorem sup_bare (l : List Nd) : hasSup (bareL l) = hasSup l := by
  unfold hasSup
  rw [bareL_map, List.any_map]
  congr 1; funext x; simp [kind_bare]
theorem head_bare (l : List Nd) : headK (bareL l) = headK l := by
  cases l with
  | nil => rfl
  | cons x l => simp [bareL, headK, kind_bare]
theorem drop_bare (l : List Nd) (n : Nat) : (bareL l).drop n = bareL (l.drop n) := by rw [bareL_map, bareL_map, List.map_drop]
theorem tail_bare (l : List Nd) : (bareL l).tail = bareL l.tail := by cases l <;> rfl
theorem fits_bare (x : Nd) : fitsB (bareN x) = fitsB x := by
  cases x with
  | ex k n tx nm ty v l own nth => simp [bareN, fitsB, bareL_len]
  | st k n ty nm ve va vb vc e a b c nth => simp [bareN, fitsB, fitS, exprsS, blocksS, bareL_len, sup_bare, head_bare]
  | fd s ty nm v l => simp [bareN, fitsB, bareL_len]
  | mt s c ty nm vp ps v l => simp [bareN, fitsB, fitM, sup_bare, tail_bare]
  | cl nm sp vf vm f m => simp [bareN, fitsB, bareL_len]
theorem step_bare (x y : Nd) : stepN (bareN x) (bareN y) = stepN x y := by unfold stepN; rw [tag_bare, tag_bare]
theorem okT_bare : ∀ (n : Nat) (x : Nd) (d : Nat), x.size ≤ n → okT (bareN x) d = okT x d
  | 0, x, d, h => by have := size_pos x; omega
  | n + 1, x, d, h => by
    have h1 := size_kids x
    rw [okT_eq, okT_eq x, fits_bare, kids_bare]
    have : ((bareL x.kids).all fun y => okT y (d + stepN (bareN x) y)) = (x.kids.all fun y => okT y (d + stepN x y)) := by
      rw [bareL_map, List.all_map, Bool.eq_iff_iff, List.all_eq_true, List.all_eq_true]
      constructor
      · intro g y hy
        have := g y hy
        simp only [Function.comp_apply] at this
        rw [step_bare, okT_bare n y _ (by have := size_mem hy; omega)] at this; exact this
      · intro g y hy
        simp only [Function.comp_apply]
        rw [step_bare, okT_bare n y _ (by have := size_mem hy; omega)]; exact g y hy
    rw [this]
theorem mayB_bare (l : List Nd) : mayB (bareL l) = mayB l := by
  unfold mayB
  rw [bareL_len, sizeL_bare _ l (Nat.le_refl _)]
  congr 2
  rw [bareL_map, List.all_map]
  congr 1; funext x
  exact okT_bare _ x 0 (Nat.le_refl _)
theorem mayB_of_bare {a b : List Nd} (h : bareL a = bareL b) : mayB a = mayB b := by rw [← mayB_bare a, ← mayB_bare b, h]
end Go.Proofs.Ytlpddmncgmhkeaa
