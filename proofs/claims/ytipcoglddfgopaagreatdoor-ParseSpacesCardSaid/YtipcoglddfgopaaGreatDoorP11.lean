/- Parts of the proof: SameP, SameB. -/
import Derived.Test.YtipcoglddfgopaaGreatDoorP1
import Derived.Test.YtipcoglddfgopaaGreatDoorP2
namespace Go.Proofs.YtipcoglddfgopaaGreatDoor
set_option linter.unusedSimpArgs false
set_option linter.unusedVariables false
section
open Go.RowKit
def prmB (x y : Prm) : Bool := x.1.toList == y.1.toList && x.2.toList == y.2.toList
def psB : List Prm → List Prm → Bool
 | [], [] => true
 | x :: l, y :: m => prmB x y && psB l m
 | _, _ => false
theorem psB_ne : ∀ {l m : List Prm}, l.length ≠ m.length → psB l m = false
 | [], [], h => by simp at h
 | [], _ :: _, _ => rfl
 | _ :: _, [], _ => rfl
 | x :: l, y :: m, h => by simp only [psB]; rw [psB_ne (by simpa using h), Bool.and_false]
def alikeB : Nd → Nd → Bool
 | .ex xk xn xtx xnm xty _ xl _ _, .ex xk' xn' xtx' xnm' xty' _ xl' _ _ => xk == xk' && xn == xn' && xtx.toList == xtx'.toList && xnm.toList == xnm'.toList && xty.toList == xty'.toList && xl.length == xl'.length
 | .st xk xn xty xnm _ _ _ _ xe xa xb xc _, .st xk' xn' xty' xnm' _ _ _ _ xe' xa' xb' xc' _ => xk == xk' && xn == xn' && xty.toList == xty'.toList && xnm.toList == xnm'.toList && xe.length == xe'.length && xa.length == xa'.length && xb.length == xb'.length && xc.length == xc'.length
 | .mt xs xc xty xnm _ xps _ xl, .mt xs' xc' xty' xnm' _ xps' _ xl' => xs == xs' && xc == xc' && xty.toList == xty'.toList && xnm.toList == xnm'.toList && psB xps xps' && xl.length == xl'.length
 | .fd xs xty xnm _ xl, .fd xs' xty' xnm' _ xl' => xs == xs' && xty.toList == xty'.toList && xnm.toList == xnm'.toList && xl.length == xl'.length
 | .cl xnm xsp _ _ xf xm, .cl xnm' xsp' _ _ xf' xm' => xnm.toList == xnm'.toList && xsp.toList == xsp'.toList && xf.length == xf'.length && xm.length == xm'.length
 | _, _ => false
def sameL : List Nd → List Nd → Bool
 | [], [] => true
 | x :: l, y :: m => alikeB x y && (sameL x.kids y.kids && sameL l m)
 | [], _ :: _ => false
 | _ :: _, [] => false
termination_by l => sizeL l
decreasing_by
 · simp only [sizeL]; rw [size_kids x]; omega
 · simp only [sizeL]; have := size_pos x; omega
theorem sameL_nil : sameL [] [] = true := by rw [sameL]
theorem sameL_cons (x y : Nd) (l m : List Nd) : sameL (x :: l) (y :: m) = (alikeB x y && (sameL x.kids y.kids && sameL l m)) := by rw [sameL]
theorem sameL_ne : ∀ (l m : List Nd), l.length ≠ m.length → sameL l m = false
 | [], [], h => by simp at h
 | [], _ :: _, _ => by rw [sameL]
 | _ :: _, [], _ => by rw [sameL]
 | x :: l, y :: m, h => by rw [sameL_cons, sameL_ne l m (by simpa using h)]; simp
theorem sameL_append : ∀ (a b c d : List Nd), a.length = b.length → sameL (a ++ c) (b ++ d) = (sameL a b && sameL c d)
 | [], [], c, d, _ => by simp [sameL_nil]
 | [], _ :: _, _, _, h => by simp at h
 | _ :: _, [], _, _, h => by simp at h
 | x :: a, y :: b, c, d, h => by
   simp only [List.cons_append, sameL_cons]
   rw [sameL_append a b c d (by simpa using h)]
   simp only [Bool.and_assoc]
theorem sameL_one (x y : Nd) : sameL [x] [y] = (alikeB x y && sameL x.kids y.kids) := by rw [sameL_cons, sameL_nil]; simp
theorem ret_bool {a b : Bool} (h : a = b) : Ending.returned (.bool a) = .returned (.bool b) := by rw [h]
end
section
open Go.RowKit
theorem alike_bare (x y : Nd) : alikeB (bareN x) (bareN y) = alikeB x y := by
 cases x <;> cases y <;> simp [bareN, alikeB, bareL_len]
theorem sameL_bare : ∀ (n : Nat) (a b : List Nd), sizeL a ≤ n → sameL (bareL a) (bareL b) = sameL a b
 | 0, [], [], _ => rfl
 | 0, [], y :: b, _ => by simp [bareL, sameL]
 | 0, x :: a, b, h => by have := size_pos x; simp [sizeL] at h; omega
 | n + 1, [], [], _ => rfl
 | n + 1, [], y :: b, _ => by simp [bareL, sameL]
 | n + 1, x :: a, [], _ => by simp [bareL, sameL]
 | n + 1, x :: a, y :: b, h => by
   simp only [bareL, sameL_cons, alike_bare, kids_bare]
   simp only [sizeL] at h
   have h1 := size_kids x
   rw [sameL_bare n x.kids y.kids (by omega), sameL_bare n a b (by have := size_pos x; omega)]
theorem sameL_of_bare {a b c : List Nd} (h : bareL a = bareL b) : sameL a c = sameL b c := by
 rw [← sameL_bare (sizeL a) a c (Nat.le_refl _), ← sameL_bare (sizeL b) b c (Nat.le_refl _), h]
theorem alike_refl (x : Nd) : alikeB x x = true := by
 cases x <;> simp [alikeB]
 case mt s c ty nm vp ps v l =>
   induction ps with
   | nil => rfl
   | cons p ps ih => simp [psB, prmB, ih]
theorem sameL_refl : ∀ (n : Nat) (a : List Nd), sizeL a ≤ n → sameL a a = true
 | _, [], _ => sameL_nil
 | 0, x :: a, h => by have := size_pos x; simp [sizeL] at h; omega
 | n + 1, x :: a, h => by
   simp only [sizeL] at h
   have h1 := size_kids x
   rw [sameL_cons, alike_refl, sameL_refl n x.kids (by omega), sameL_refl n a (by have := size_pos x; omega)]; rfl
end
end Go.Proofs.YtipcoglddfgopaaGreatDoor
