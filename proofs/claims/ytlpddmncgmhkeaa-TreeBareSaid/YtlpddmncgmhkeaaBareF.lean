/- What is bare; what stands in new rows. -/
import Derived.Test.YtlpddmncgmhkeaaBareD
import Derived.Test.YtlpddmncgmhkeaaBareC
set_option linter.unusedSimpArgs false
set_option linter.unusedVariables false
namespace Go.Proofs.Ytlpddmncgmhkeaa
open Go.RowKit
mutual
def bareN : Nd → Nd
  | .ex k n tx nm ty _ l _ _ => .ex k n tx nm ty (.slice none 0 0) (bareL l) ⟨#[]⟩ 0
  | .st k n ty nm _ _ _ _ e a b c _ => .st k n ty nm (.slice none 0 0) (.slice none 0 0) (.slice none 0 0) (.slice none 0 0) (bareL e) (bareL a) (bareL b) (bareL c) 0
  | .fd s ty nm _ l => .fd s ty nm (.slice none 0 0) (bareL l)
  | .mt s c ty nm _ ps _ l => .mt s c ty nm (.slice none 0 0) ps (.slice none 0 0) (bareL l)
  | .cl nm sp _ _ f m => .cl nm sp (.slice none 0 0) (.slice none 0 0) (bareL f) (bareL m)
def bareL : List Nd → List Nd
  | [] => []
  | x :: l => bareN x :: bareL l
end
theorem bareL_map (l : List Nd) : bareL l = l.map bareN := by
  induction l with
  | nil => rfl
  | cons x l ih => simp [bareL, ih]
theorem tag_bare (x : Nd) : (bareN x).tag = x.tag := by cases x <;> rfl
theorem tag_of_bare {x y : Nd} (h : bareN x = bareN y) : x.tag = y.tag := by rw [← tag_bare x, h, tag_bare y]
def ntH : Nd → Prop
  | .ex _ _ _ _ _ _ _ own nth => own = ⟨#[]⟩ ∧ nth = 0
  | .st _ _ _ _ _ _ _ _ _ _ _ _ nth => nth = 0
  | _ => True
/-- No target in it. -/
inductive NT : Nd → Prop where
  | mk (x : Nd) (h : ntH x) (k : ∀ y ∈ x.kids, NT y) : NT x
def smH : Nd → Prop
  | .ex _ _ tx nm ty _ _ _ _ => tx.size ≤ 281474976710656 ∧ nm.size ≤ 281474976710656 ∧ ty.size ≤ 281474976710656
  | .st _ _ ty nm _ _ _ _ _ _ _ _ _ => ty.size ≤ 281474976710656 ∧ nm.size ≤ 281474976710656
  | .fd _ ty nm _ _ => ty.size ≤ 281474976710656 ∧ nm.size ≤ 281474976710656
  | .mt _ _ ty nm _ ps _ _ => (ty.size ≤ 281474976710656 ∧ nm.size ≤ 281474976710656) ∧ ps.length ≤ 1000000 ∧ ∀ p ∈ ps, p.1.size ≤ 281474976710656 ∧ p.2.size ≤ 281474976710656
  | .cl nm sp _ _ _ _ => nm.size ≤ 281474976710656 ∧ sp.size ≤ 281474976710656
/-- Its texts are no longer than memory can be. -/
inductive Sm : Nd → Prop where
  | mk (x : Nd) (h : smH x) (k : ∀ y ∈ x.kids, Sm y) : Sm x
theorem Sm.head {x : Nd} (h : Sm x) : smH x := by cases h; assumption
theorem Sm.kid {x : Nd} (h : Sm x) : ∀ y ∈ x.kids, Sm y := by cases h; assumption

/-- The cells of a part stand where it says, and may be written. -/
def Raw (w : World) (p : Pt) : Prop := ∀ j u, (cellsN p.x)[j]? = some u → w.cell? ⟨p.b, p.o + j, none⟩ = some u ∧ w.frozen? ⟨p.b, p.o + j, none⟩ = false
def apart (p q : Pt) : Prop := p.b ≠ q.b ∨ p.o + p.x.tag.sz ≤ q.o ∨ q.o + q.x.tag.sz ≤ p.o
def inFoot (p : Pt) (k j : Nat) : Prop := p.b = k ∧ p.o ≤ j ∧ j < p.o + p.x.tag.sz
/-- What a row of the new memory is. -/
structure Seg (w : World) (B : Nat) (t : Tg) (v : Value) (l : List Nd) : Prop where
  form : ∃ A cap, v = .slice A l.length cap ∧ l.length ≤ cap ∧ (0 < l.length → ∃ g, A = some ⟨g, 0, none⟩)
  raw : ∀ q ∈ ptsV t v l, Raw w q ∧ B ≤ q.b ∧ q.b < w.heap.size ∧ v.ownBlock = some q.b
  dis : (ptsV t v l).Pairwise apart
  xs : (ptsV t v l).map Pt.x = l
  tags : ∀ x ∈ l, x.tag = t
theorem flat_get {t : Tg} : ∀ (l : List Nd) (i j : Nat) (x : Nd), (∀ y ∈ l, y.tag = t) → l[i]? = some x → j < t.sz → (l.flatMap cellsN)[i * t.sz + j]? = (cellsN x)[j]?
  | [], i, j, x, _, h, _ => by simp at h
  | y :: l, 0, j, x, ht, h, hj => by
    simp at h; subst h
    rw [List.flatMap_cons, Nat.zero_mul, Nat.zero_add, List.getElem?_append_left (by rw [cells_len, ht y (by simp)]; exact hj)]
  | y :: l, i + 1, j, x, ht, h, hj => by
    have ih := flat_get l i j x (fun z hz => ht z (by simp [hz])) (by simpa using h) hj
    have hy : (cellsN y).length = t.sz := by rw [cells_len, ht y (by simp)]
    rw [List.flatMap_cons, List.getElem?_append_right (by rw [hy, Nat.add_mul]; omega), hy, ← ih]
    congr 1; rw [Nat.add_mul]; omega
theorem pts_apart (g : Nat) {t : Tg} : ∀ (l : List Nd) (o : Nat), (∀ x ∈ l, x.tag = t) → (pts g o t.sz l).Pairwise apart
  | [], _, _ => List.Pairwise.nil
  | x :: l, o, ht => by
    refine List.Pairwise.cons (fun q hq => ?_) (pts_apart g l (o + t.sz) fun y hy => ht y (by simp [hy]))
    obtain ⟨i, hi⟩ := List.getElem?_of_mem hq
    rw [pts_get] at hi
    cases hx : l[i]? with
    | none => simp [hx] at hi
    | some y =>
      simp only [hx, Option.map_some, Option.some.injEq] at hi
      subst hi
      right; left
      show o + x.tag.sz ≤ _
      rw [ht x (by simp)]
      simp only; omega
theorem seg_of {w : World} {B : Nat} {t : Tg} {el : TypeId} {v : Value} {l : List Nd} (ho : w.ownsRow B el t.sz v l.length (l.flatMap cellsN)) (ht : ∀ x ∈ l, x.tag = t) : Seg w B t v l := by
  rcases Nat.eq_zero_or_pos l.length with h0 | h0
  · have hl : l = [] := List.eq_nil_of_length_eq_zero h0
    subst hl
    obtain ⟨A, cap, rfl, hc⟩ := own_form ho
    have hp : ptsV t (.slice A ([] : List Nd).length cap) [] = [] := by cases A <;> rfl
    exact ⟨⟨A, cap, rfl, hc, fun h => by simp at h⟩, by rw [hp]; simp, by rw [hp]; exact List.Pairwise.nil, by rw [hp]; rfl, by simp⟩
  · obtain ⟨g, cap, rfl, hB, hg, hat⟩ := own_row ho h0
    obtain ⟨A', cap', hv, hc⟩ := own_form ho
    injection hv with _ _ hv3
    subst hv3
    refine ⟨⟨_, cap, rfl, hc, fun _ => ⟨g, rfl⟩⟩, ?_, pts_apart g l 0 ht, pts_x _ _ _ _, ht⟩
    intro q hq
    obtain ⟨i, hi⟩ := List.getElem?_of_mem hq
    simp only [ptsV] at hi
    rw [pts_get] at hi
    cases hx : l[i]? with
    | none => simp [hx] at hi
    | some x =>
      simp only [hx, Option.map_some, Option.some.injEq] at hi
      subst hi
      refine ⟨fun j u hu => ?_, hB, hg, rfl⟩
      have hxt := ht x (List.mem_of_getElem? hx)
      have hj : j < t.sz := by rw [← hxt, ← cells_len]; exact (List.getElem?_eq_some_iff.1 hu).1
      have := hat (i * t.sz + j) u (by rw [flat_get l i j x ht hx hj]; exact hu)
      simpa using this
theorem Raw.keep {w w' : World} {p : Pt} (h : Raw w p) (hb : w'.heap[p.b]? = w.heap[p.b]?) : Raw w' p := fun j u hu =>
  ⟨(World.cell?_of_block hb).trans (h j u hu).1, (World.frozen?_of_block hb).trans (h j u hu).2⟩
theorem Raw.lt {w : World} {p : Pt} (h : Raw w p) : p.b < w.heap.size := by
  have : 0 < (cellsN p.x).length := by rw [cells_len]; cases p.x.tag <;> simp [Tg.sz]
  exact World.block_lt_of_cell? w _ (h 0 _ (List.getElem?_eq_getElem this)).1
/-- A part is finished: a bare one stands there. -/
def Fin' (w : World) (p : Pt) : Prop := ∃ x, Pt.at_ w ⟨p.b, p.o, x⟩ ∧ NT x ∧ bareN x = bareN p.x
theorem fin_list {w : World} {b sz : Nat} : ∀ (l : List Nd) (o : Nat), (∀ p ∈ pts b o sz l, Fin' w p) → ∃ l', l'.length = l.length ∧ bareL l' = bareL l ∧ (∀ x ∈ l', NT x ∧ Kd w x) ∧ ∀ i x, l'[i]? = some x → ∀ j u, (cellsN x)[j]? = some u → w.cell? ⟨b, o + i * sz + j, none⟩ = some u
  | [], o, _ => ⟨[], rfl, rfl, by simp, by simp⟩
  | x :: l, o, h => by
    obtain ⟨x', hat, hnt, hb⟩ := h ⟨b, o, x⟩ (by simp [pts])
    obtain ⟨l', h1, h2, h3, h4⟩ := fin_list (w := w) (b := b) (sz := sz) l (o + sz) fun p hp => h p (List.mem_cons_of_mem _ hp)
    refine ⟨x' :: l', by simp [h1], by simp only [bareL]; rw [hb, h2], fun y hy => ?_, fun i y hy j u hu => ?_⟩
    · rcases List.mem_cons.1 hy with rfl | hy
      · exact ⟨hnt, hat.2⟩
      · exact h3 y hy
    · cases i with
      | zero => simp at hy; subst hy; simpa using hat.1 j u hu
      | succ i =>
        have := h4 i y (by simpa using hy) j u hu
        have e : o + sz + i * sz + j = o + (i + 1) * sz + j := by rw [Nat.add_mul]; omega
        rw [e] at this; exact this
theorem tags_of {t : Tg} : ∀ {l' l : List Nd}, bareL l' = bareL l → (∀ x ∈ l, x.tag = t) → ∀ x ∈ l', x.tag = t
  | [], _, _, _, x, hx => by simp at hx
  | y :: l', [], h, _, x, hx => by simp [bareL] at h
  | y :: l', z :: l, h, ht, x, hx => by
    simp only [bareL, List.cons.injEq] at h
    rcases List.mem_cons.1 hx with rfl | hx
    · rw [tag_of_bare h.1]; exact ht z (by simp)
    · exact tags_of h.2 (fun y hy => ht y (by simp [hy])) x hx
/-- A row whose parts are finished. -/
theorem fin_seg {w w0 : World} {B : Nat} {t : Tg} {v : Value} {l : List Nd} (hs : Seg w0 B t v l) (hm : l.length ≤ 1000000) (h : ∀ p ∈ ptsV t v l, Fin' w p) : ∃ l', Rw w t v l' ∧ KdL w l' ∧ (∀ x ∈ l', NT x) ∧ bareL l' = bareL l := by
  obtain ⟨A, cap, rfl, hc, hA⟩ := hs.form
  rcases Nat.eq_zero_or_pos l.length with h0 | h0
  · have hl : l = [] := List.eq_nil_of_length_eq_zero h0
    subst hl
    exact ⟨[], Rw.empty w t A cap, trivial, by simp, rfl⟩
  · obtain ⟨g, rfl⟩ := hA h0
    obtain ⟨l', h1, h2, h3, h4⟩ := fin_list l 0 h
    refine ⟨l', ⟨_, cap, by rw [h1], by rw [h1]; exact ⟨by unfold maxLen; omega, hc⟩, tags_of h2 hs.tags, fun _ => ⟨g, 0, rfl, h4⟩⟩, KdL_of fun x hx => (h3 x hx).2, fun x hx => (h3 x hx).1, h2⟩
end Go.Proofs.Ytlpddmncgmhkeaa
