/- Parts of the proof: BareN, CopyP, SameP, BareO, SameB, App. -/
import Derived.Test.YtaclhdpjkgoadaaGreatDoorP5
import Derived.Deep.AppendLies
import Derived.Laws.AppendOwnNone
namespace Go.Proofs.YtaclhdpjkgoadaaGreatDoor
set_option linter.unusedSimpArgs false
set_option linter.unusedVariables false
section
open Go.RowKit
mutual
def bareN : Nd → Nd
 | .ex k n tx nm ty _ l _ _ => .ex k n tx nm ty (.slice none 0 0) (bareL l) ⟨#[]⟩ 0
 | .st k n ty nm _ _ _ _ e a b c _ => .st k n ty nm (.slice none 0 0) (.slice none 0 0) (.slice none 0 0) (.slice none 0 0) (bareL e) (bareL a) (bareL b) (bareL c) 0
 | .fd s ty nm _ l => .fd s ty nm (.slice none 0 0) (bareL l)
 | .mt s c ty nm _ ps _ l => .mt s c ty nm (.slice none 0 0) ps (.slice none 0 0) (bareL l)
 | .cl nm sp _ _ f m => .cl nm sp (.slice none 0 0) (.slice none 0 0) (bareL f) (bareL m)
def bareL : List Nd → List Nd
 | [] => []
 | x :: l => bareN x :: bareL l
end
theorem bareL_map (l : List Nd) : bareL l = l.map bareN := by
 induction l with
 | nil => rfl
 | cons x l ih => simp [bareL, ih]
theorem add_off (b o j : Nat) : (⟨b, o, none⟩ : Addr).add j = ⟨b, o + j, none⟩ := by unfold Addr.add; split <;> simp_all
theorem flat_get {t : Tg} : ∀ (l : List Nd) (i j : Nat) (x : Nd), (∀ y ∈ l, y.tag = t) → l[i]? = some x → j < t.sz → (l.flatMap cellsN)[i * t.sz + j]? = (cellsN x)[j]?
 | [], i, j, x, _, h, _ => by simp at h
 | y :: l, 0, j, x, ht, h, hj => by
   simp at h; subst h
   rw [List.flatMap_cons, Nat.zero_mul, Nat.zero_add, List.getElem?_append_left (by rw [cells_len, ht y (by simp)]; exact hj)]
 | y :: l, i + 1, j, x, ht, h, hj => by
   have ih := flat_get l i j x (fun z hz => ht z (by simp [hz])) (by simpa using h) hj
   have hy : (cellsN y).length = t.sz := by rw [cells_len, ht y (by simp)]
   rw [List.flatMap_cons, List.getElem?_append_right (by rw [hy, Nat.add_mul]; omega), hy, ← ih]
   congr 1; rw [Nat.add_mul]; omega
theorem grown_set_at (w : World) (g o : Nat) (u : Value) : w.grownBy (w.setCell ⟨g, o, none⟩ u) (some g) :=
 ⟨rfl, rfl, rfl, by simp, fun k hk hne => Below.heap_setCell w _ u k (fun e => hne (by rw [e]))⟩
theorem own_row {w : World} {B n : Nat} {e : TypeId} {v : Value} {xs : List Value} {sz : Nat} (h : w.ownsRow B e sz v n xs) (hn : 0 < n) : ∃ g cap, v = .slice (some ⟨g, 0, none⟩) n cap ∧ B ≤ g ∧ g < w.heap.size ∧ ∀ k u, xs[k]? = some u → w.cell? ⟨g, k, none⟩ = some u ∧ w.frozen? ⟨g, k, none⟩ = false := by
 obtain ⟨g, cap, rfl, hb, hl⟩ := h.form hn
 refine ⟨g, cap, rfl, hb, hl, fun k u hu => ⟨?_, h.frozenAt k⟩⟩
 have hc := h.cells (g := g) rfl k u hu
 rw [add_off] at hc
 simpa using hc
theorem gen_world {P : Program} {c : Code} {Q : Exit → Act → World → Prop} {a : Act} {W0 : World} (F : World → Prop) (h0 : F W0) (h : ∀ W, F W → Code.wp P c Q a W) : Code.wp P c Q a W0 := h W0 h0
theorem bareL_len (l : List Nd) : (bareL l).length = l.length := by rw [bareL_map]; simp
theorem bareL_append (a b : List Nd) : bareL (a ++ b) = bareL a ++ bareL b := by simp [bareL_map]
theorem kids_bare (x : Nd) : (bareN x).kids = bareL x.kids := by cases x <;> simp [bareN, Nd.kids, bareL_append]
end
section
open Go.RowKit
def FkL (B : Nat) (w : World) (t : Tg) (v : Value) (l : List Nd) : Prop :=
 ∀ ws, (∀ k j u, B ≤ k → w.cell? ⟨k, j, none⟩ = some u → ws.cell? ⟨k, j, none⟩ = some u) → Rw ws t v l ∧ KdL ws l
theorem FkL.now {B : Nat} {w : World} {t : Tg} {v : Value} {l : List Nd} (h : FkL B w t v l) : Rw w t v l ∧ KdL w l := h w fun _ _ _ _ h => h
theorem FkL.nil (B : Nat) (w : World) (t : Tg) : FkL B w t (.slice none 0 0) [] := fun ws _ => ⟨⟨none, 0, rfl, by unfold maxLen; simp, by simp, fun h => by simp at h⟩, trivial⟩
def KO (B : Nat) (r : Option Nat) (w : World) (l : List Nd) : Prop :=
 ∀ ws, (∀ k j u, B ≤ k → some k ≠ r → w.cell? ⟨k, j, none⟩ = some u → ws.cell? ⟨k, j, none⟩ = some u) → KdL ws l
theorem KO.nil (B : Nat) (r : Option Nat) (w : World) : KO B r w [] := fun _ _ => trivial
theorem len_of_bare {a b : List Nd} (h : bareL a = bareL b) : a.length = b.length := by rw [← bareL_len a, h, bareL_len]
theorem new_at (w : World) (cs : List Value) (T : TypeId) : ∀ (j : Nat) (u : Value), cs[j]? = some u → (w.alloc (.cells cs.toArray T)).cell? ((⟨w.heap.size, 0, none⟩ : Addr).add j) = some u := by
 intro j u hj
 have hx : Bx (w.alloc (.cells cs.toArray T)) w.heap.size cs.toArray T := Bx.new w _ T
 rw [add_off, Nat.zero_add]
 exact (hx.cell j).trans (by simpa using hj)
end
section
open Go.RowKit
def prmB (x y : Prm) : Bool := x.1.toList == y.1.toList && x.2.toList == y.2.toList
def psB : List Prm → List Prm → Bool
 | [], [] => true
 | x :: l, y :: m => prmB x y && psB l m
 | _, _ => false
def alikeB : Nd → Nd → Bool
 | .ex xk xn xtx xnm xty _ xl _ _, .ex xk' xn' xtx' xnm' xty' _ xl' _ _ => xk == xk' && xn == xn' && xtx.toList == xtx'.toList && xnm.toList == xnm'.toList && xty.toList == xty'.toList && xl.length == xl'.length
 | .st xk xn xty xnm _ _ _ _ xe xa xb xc _, .st xk' xn' xty' xnm' _ _ _ _ xe' xa' xb' xc' _ => xk == xk' && xn == xn' && xty.toList == xty'.toList && xnm.toList == xnm'.toList && xe.length == xe'.length && xa.length == xa'.length && xb.length == xb'.length && xc.length == xc'.length
 | .mt xs xc xty xnm _ xps _ xl, .mt xs' xc' xty' xnm' _ xps' _ xl' => xs == xs' && xc == xc' && xty.toList == xty'.toList && xnm.toList == xnm'.toList && psB xps xps' && xl.length == xl'.length
 | .fd xs xty xnm _ xl, .fd xs' xty' xnm' _ xl' => xs == xs' && xty.toList == xty'.toList && xnm.toList == xnm'.toList && xl.length == xl'.length
 | .cl xnm xsp _ _ xf xm, .cl xnm' xsp' _ _ xf' xm' => xnm.toList == xnm'.toList && xsp.toList == xsp'.toList && xf.length == xf'.length && xm.length == xm'.length
 | _, _ => false
def sameL : List Nd → List Nd → Bool
 | [], [] => true
 | x :: l, y :: m => alikeB x y && (sameL x.kids y.kids && sameL l m)
 | [], _ :: _ => false
 | _ :: _, [] => false
termination_by l => sizeL l
decreasing_by
 · simp only [sizeL]; rw [size_kids x]; omega
 · simp only [sizeL]; have := size_pos x; omega
theorem sameL_nil : sameL [] [] = true := by rw [sameL]
theorem sameL_cons (x y : Nd) (l m : List Nd) : sameL (x :: l) (y :: m) = (alikeB x y && (sameL x.kids y.kids && sameL l m)) := by rw [sameL]
theorem sameL_ne : ∀ (l m : List Nd), l.length ≠ m.length → sameL l m = false
 | [], [], h => by simp at h
 | [], _ :: _, _ => by rw [sameL]
 | _ :: _, [], _ => by rw [sameL]
 | x :: l, y :: m, h => by rw [sameL_cons, sameL_ne l m (by simpa using h)]; simp
theorem sameL_one (x y : Nd) : sameL [x] [y] = (alikeB x y && sameL x.kids y.kids) := by rw [sameL_cons, sameL_nil]; simp
theorem ret_bool {a b : Bool} (h : a = b) : Ending.returned (.bool a) = .returned (.bool b) := by rw [h]
end
section
open Go.RowKit
theorem sizeL_bare : ∀ (n : Nat) (a : List Nd), sizeL a ≤ n → sizeL (bareL a) = sizeL a
 | _, [], _ => rfl
 | 0, x :: a, h => by have := size_pos x; simp [sizeL] at h; omega
 | n + 1, x :: a, h => by
   simp only [sizeL] at h
   have h1 := size_kids x
   have h2 := size_kids (bareN x)
   rw [kids_bare, sizeL_bare n x.kids (by omega)] at h2
   simp only [bareL, sizeL]
   rw [sizeL_bare n a (by have := size_pos x; omega)]; omega
theorem sizeL_of_bare {a b : List Nd} (h : bareL a = bareL b) : sizeL a = sizeL b := by
 rw [← sizeL_bare (sizeL a) a (Nat.le_refl _), ← sizeL_bare (sizeL b) b (Nat.le_refl _), h]
end
section
open Go.RowKit
theorem alike_bare (x y : Nd) : alikeB (bareN x) (bareN y) = alikeB x y := by
 cases x <;> cases y <;> simp [bareN, alikeB, bareL_len]
theorem sameL_bare : ∀ (n : Nat) (a b : List Nd), sizeL a ≤ n → sameL (bareL a) (bareL b) = sameL a b
 | 0, [], [], _ => rfl
 | 0, [], y :: b, _ => by simp [bareL, sameL]
 | 0, x :: a, b, h => by have := size_pos x; simp [sizeL] at h; omega
 | n + 1, [], [], _ => rfl
 | n + 1, [], y :: b, _ => by simp [bareL, sameL]
 | n + 1, x :: a, [], _ => by simp [bareL, sameL]
 | n + 1, x :: a, y :: b, h => by
   simp only [bareL, sameL_cons, alike_bare, kids_bare]
   simp only [sizeL] at h
   have h1 := size_kids x
   rw [sameL_bare n x.kids y.kids (by omega), sameL_bare n a b (by have := size_pos x; omega)]
theorem sameL_of_bare {a b c : List Nd} (h : bareL a = bareL b) : sameL a c = sameL b c := by
 rw [← sameL_bare (sizeL a) a c (Nat.le_refl _), ← sameL_bare (sizeL b) b c (Nat.le_refl _), h]
theorem alike_refl (x : Nd) : alikeB x x = true := by
 cases x <;> simp [alikeB]
 case mt s c ty nm vp ps v l =>
   induction ps with
   | nil => rfl
   | cons p ps ih => simp [psB, prmB, ih]
theorem sameL_refl : ∀ (n : Nat) (a : List Nd), sizeL a ≤ n → sameL a a = true
 | _, [], _ => sameL_nil
 | 0, x :: a, h => by have := size_pos x; simp [sizeL] at h; omega
 | n + 1, x :: a, h => by
   simp only [sizeL] at h
   have h1 := size_kids x
   rw [sameL_cons, alike_refl, sameL_refl n x.kids (by omega), sameL_refl n a (by have := size_pos x; omega)]; rfl
theorem same_two {x y z : Nd} (hx : bareN x = bareN z) (hy : bareN y = bareN z) : sameL [x] [y] = true := by
 have h1 : bareL [x] = bareL [y] := by simp only [bareL]; rw [hx, hy]
 rw [sameL_of_bare h1]
 exact sameL_refl _ _ (Nat.le_refl _)
end
section
open Go.RowKit
theorem append_any {P : Program} {w : World} {ops : Array Oper} {rest : List Oper} {o : Oper} {a : Act} {Q : Exit → Act → World → Prop} (hgd : o.guard = none) (s x : Operand) (t : TypeId)
   (ho : o.op = .call { callee := .builtin .append, args := #[s, x], argTypes := #[t, t] })
   (base : Nat) (e : TypeId) (i : TypeInfo) (z : Value) (size bytes : Nat) (ht : P.underlying t = some (.slice e)) (hi : P.info? e = some i) (hz : i.zero = some z)
   (hsize : i.size = size) (hby : i.bytes = bytes) (hzs : z.cells.size = size) (hsz : 0 < size)
   (v : Value) (n : Nat) (xs : List Value) (hs : a.eval s = v) (hown : w.ownsRow base e size v n xs)
   (B2 : Nat) (v2 : Value) (m : Nat) (news : List Value) (hx : a.eval x = v2) (hown2 : w.ownsRow B2 e size v2 m news) (h1 : ∀ u ∈ news, u.oneCell' = true)
   (h63 : n + m ≤ maxLen) (hbytes : (n + m) * bytes ≤ 140737488355328) (hbase : base ≤ w.heap.size)
   (h : ∀ v' w', w'.ownsRow base e size v' (n + m) (xs ++ news) → w.grownBy w' v.ownBlock → (v'.ownBlock = v.ownBlock ∨ v'.ownBlock = some w.heap.size) → wpList P ops Q rest (a.put o.dst v') w') :
   wpList P ops Q (o :: rest) a w := by
 have ho2 := hown2
 rcases hown2 with ⟨hl, ⟨rfl, rfl⟩ | ⟨g, cap, cur, rfl, _⟩⟩
 · have hn : news = [] := by simpa using hl
   subst hn
   refine wpList_append_own_none hgd s x t ho base e i size ht hi v n xs hs hown hx ?_
   exact h v w (by simpa using hown) (grown_refl w _) (.inl rfl)
 · refine wpList_append_own_at w hgd s x t ho base e i z size bytes ht hi hz hsize hby hzs hsz v n xs hs hown ⟨g, 0, none⟩ m cap news hx hl (fun j u hj => ho2.cells (g := g) rfl j u hj) h1 h63 hbytes hbase ?_
   intro v' w' a b _ c
   exact h v' w' a b c
def EX (x : Nd) : Prop := ∃ (k n : Int) (tx nm ty : ByteArray) (A : Option Addr) (len cap : Nat) (l : List Nd), x = .ex k n tx nm ty (.slice A len cap) l ⟨#[]⟩ 0
theorem ex_one {es : List Nd} (h : ∀ y ∈ es, EX y) : ∀ u ∈ es.flatMap cellsN, u.oneCell' = true := by
 intro u hu
 rw [List.mem_flatMap] at hu
 obtain ⟨x, hx, hu⟩ := hu
 obtain ⟨k, n, tx, nm, ty, A, len, cap, l, rfl⟩ := h x hx
 simp only [cellsN, List.mem_cons, List.not_mem_nil, or_false] at hu
 rcases hu with rfl | rfl | rfl | rfl | rfl | rfl | rfl | rfl <;> rfl
theorem Tryz.infoEx : (Tryz.prog.info? 26).map (fun i => (i.zero, i.size, i.bytes)) = some (some (.agg #[.int .i64 0, .int .i32 0, .string ⟨#[]⟩, .string ⟨#[]⟩, .string ⟨#[]⟩, .slice none 0 0, .string ⟨#[]⟩, .int .i64 0]), 8, 112) := by kernel_rfl
theorem own_base {w : World} {base base' e sz n : Nat} {v : Value} {xs : List Value} (h : w.ownsRow base e sz v n xs) (hb : base' ≤ base) : w.ownsRow base' e sz v n xs :=
 ⟨h.1, h.2.imp id fun ⟨g, cap, cur, a, b, c⟩ => ⟨g, cap, cur, a, Nat.le_trans hb b, c⟩⟩
end
end Go.Proofs.YtaclhdpjkgoadaaGreatDoor
