/- What is bare is the same, as long, and may be as much: no program. -/
import Derived.Test.YtnphimechniplaaBareL
set_option linter.unusedSimpArgs false
set_option linter.unusedVariables false
namespace Go.Proofs.Ytnphimechniplaa
theorem bareL_len (l : List Nd) : (bareL l).length = l.length := by rw [bareL_map]; simp
theorem bareL_append (a b : List Nd) : bareL (a ++ b) = bareL a ++ bareL b := by simp [bareL_map]
theorem kids_bare (x : Nd) : (bareN x).kids = bareL x.kids := by cases x <;> simp [bareN, Nd.kids, bareL_append]
theorem alike_bare (x y : Nd) : alikeB (bareN x) (bareN y) = alikeB x y := by
  cases x <;> cases y <;> simp [bareN, alikeB, bareL_len]
theorem sameL_bare : ∀ (n : Nat) (a b : List Nd), sizeL a ≤ n → sameL (bareL a) (bareL b) = sameL a b
  | 0, [], [], _ => rfl
  | 0, [], y :: b, _ => by simp [bareL, sameL]
  | 0, x :: a, b, h => by have := size_pos x; simp [sizeL] at h; omega
  | n + 1, [], [], _ => rfl
  | n + 1, [], y :: b, _ => by simp [bareL, sameL]
  | n + 1, x :: a, [], _ => by simp [bareL, sameL]
  | n + 1, x :: a, y :: b, h => by
    simp only [bareL, sameL_cons, alike_bare, kids_bare]
    simp only [sizeL] at h
    have h1 := size_kids x
    rw [sameL_bare n x.kids y.kids (by omega), sameL_bare n a b (by have := size_pos x; omega)]
theorem sameL_of_bare {a b c : List Nd} (h : bareL a = bareL b) : sameL a c = sameL b c := by
  rw [← sameL_bare (sizeL a) a c (Nat.le_refl _), ← sameL_bare (sizeL b) b c (Nat.le_refl _), h]
theorem alike_refl (x : Nd) : alikeB x x = true := by
  cases x <;> simp [alikeB]
  case mt s c ty nm vp ps v l =>
    induction ps with
    | nil => rfl
    | cons p ps ih => simp [psB, prmB, ih]
theorem sameL_refl : ∀ (n : Nat) (a : List Nd), sizeL a ≤ n → sameL a a = true
  | _, [], _ => sameL_nil
  | 0, x :: a, h => by have := size_pos x; simp [sizeL] at h; omega
  | n + 1, x :: a, h => by
    simp only [sizeL] at h
    have h1 := size_kids x
    rw [sameL_cons, alike_refl, sameL_refl n x.kids (by omega), sameL_refl n a (by have := size_pos x; omega)]; rfl
theorem sizeL_bare : ∀ (n : Nat) (a : List Nd), sizeL a ≤ n → sizeL (bareL a) = sizeL a
  | _, [], _ => rfl
  | 0, x :: a, h => by have := size_pos x; simp [sizeL] at h; omega
  | n + 1, x :: a, h => by
    simp only [sizeL] at h
    have h1 := size_kids x
    have h2 := size_kids (bareN x)
    rw [kids_bare, sizeL_bare n x.kids (by omega)] at h2
    simp only [bareL, sizeL]
    rw [sizeL_bare n a (by have := size_pos x; omega)]; omega
theorem sizeL_of_bare {a b : List Nd} (h : bareL a = bareL b) : sizeL a = sizeL b := by
  rw [← sizeL_bare (sizeL a) a (Nat.le_refl _), ← sizeL_bare (sizeL b) b (Nat.le_refl _), h]
end Go.Proofs.Ytnphimechniplaa
