/- Trees without what they are bound to; cells of rows: no program. -/
import Derived.Test.YteogphbdpjnjoaaGreatTree
import Derived.Deep.AppendLies
set_option linter.unusedSimpArgs false
set_option linter.unusedVariables false
namespace Go.Proofs.YteogphbdpjnjoaaGreat
open Go.RowKit
mutual
def bareN : Nd → Nd
  | .ex k n tx nm ty _ l _ _ => .ex k n tx nm ty (.slice none 0 0) (bareL l) ⟨#[]⟩ 0
  | .st k n ty nm _ _ _ _ e a b c _ => .st k n ty nm (.slice none 0 0) (.slice none 0 0) (.slice none 0 0) (.slice none 0 0) (bareL e) (bareL a) (bareL b) (bareL c) 0
  | .fd s ty nm _ l => .fd s ty nm (.slice none 0 0) (bareL l)
  | .mt s c ty nm _ ps _ l => .mt s c ty nm (.slice none 0 0) ps (.slice none 0 0) (bareL l)
  | .cl nm sp _ _ f m => .cl nm sp (.slice none 0 0) (.slice none 0 0) (bareL f) (bareL m)
def bareL : List Nd → List Nd
  | [] => []
  | x :: l => bareN x :: bareL l
end
theorem bareL_map (l : List Nd) : bareL l = l.map bareN := by
  induction l with
  | nil => rfl
  | cons x l ih => simp [bareL, ih]
theorem tag_bare (x : Nd) : (bareN x).tag = x.tag := by cases x <;> rfl
theorem tag_of_bare {x y : Nd} (h : bareN x = bareN y) : x.tag = y.tag := by rw [← tag_bare x, h, tag_bare y]
theorem add_off (b o j : Nat) : (⟨b, o, none⟩ : Addr).add j = ⟨b, o + j, none⟩ := by unfold Addr.add; split <;> simp_all
theorem flat_get {t : Tg} : ∀ (l : List Nd) (i j : Nat) (x : Nd), (∀ y ∈ l, y.tag = t) → l[i]? = some x → j < t.sz → (l.flatMap cellsN)[i * t.sz + j]? = (cellsN x)[j]?
  | [], i, j, x, _, h, _ => by simp at h
  | y :: l, 0, j, x, ht, h, hj => by
    simp at h; subst h
    rw [List.flatMap_cons, Nat.zero_mul, Nat.zero_add, List.getElem?_append_left (by rw [cells_len, ht y (by simp)]; exact hj)]
  | y :: l, i + 1, j, x, ht, h, hj => by
    have ih := flat_get l i j x (fun z hz => ht z (by simp [hz])) (by simpa using h) hj
    have hy : (cellsN y).length = t.sz := by rw [cells_len, ht y (by simp)]
    rw [List.flatMap_cons, List.getElem?_append_right (by rw [hy, Nat.add_mul]; omega), hy, ← ih]
    congr 1; rw [Nat.add_mul]; omega
theorem grown_set_at (w : World) (g o : Nat) (u : Value) : w.grownBy (w.setCell ⟨g, o, none⟩ u) (some g) :=
  ⟨rfl, rfl, rfl, by simp, fun k hk hne => Below.heap_setCell w _ u k (fun e => hne (by rw [e]))⟩
theorem own_row {w : World} {B n : Nat} {e : TypeId} {v : Value} {xs : List Value} {sz : Nat} (h : w.ownsRow B e sz v n xs) (hn : 0 < n) : ∃ g cap, v = .slice (some ⟨g, 0, none⟩) n cap ∧ B ≤ g ∧ g < w.heap.size ∧ ∀ k u, xs[k]? = some u → w.cell? ⟨g, k, none⟩ = some u ∧ w.frozen? ⟨g, k, none⟩ = false := by
  obtain ⟨g, cap, rfl, hb, hl⟩ := h.form hn
  refine ⟨g, cap, rfl, hb, hl, fun k u hu => ⟨?_, h.frozenAt k⟩⟩
  have hc := h.cells (g := g) rfl k u hu
  rw [add_off] at hc
  simpa using hc
theorem gen_world {P : Program} {c : Code} {Q : Exit → Act → World → Prop} {a : Act} {W0 : World} (F : World → Prop) (h0 : F W0) (h : ∀ W, F W → Code.wp P c Q a W) : Code.wp P c Q a W0 := h W0 h0
theorem bareL_len (l : List Nd) : (bareL l).length = l.length := by rw [bareL_map]; simp
theorem bareL_append (a b : List Nd) : bareL (a ++ b) = bareL a ++ bareL b := by simp [bareL_map]
theorem kids_bare (x : Nd) : (bareN x).kids = bareL x.kids := by cases x <;> simp [bareN, Nd.kids, bareL_append]
end Go.Proofs.YteogphbdpjnjoaaGreat
