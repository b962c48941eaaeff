/- Arguments opened: from the row's reading to nodes that lie in memory. -/
import Derived.Test.YteogphbdpjnjoaaGreatTree
import Derived.Deep.Slices
import Derived.Deep.Fields
import Derived.ReadAgain
import Derived.Below
set_option linter.unusedSimpArgs false
set_option linter.unusedVariables false
namespace Go.Proofs.YteogphbdpjnjoaaGreat
open Go.RowKit Go.ChangeShapes Go.WideShapes Go.Deep
section
variable {H : Type} {enc : TypeId × Value → H} {w : World} {base : Nat} {spare : Nat → Bool} {held : Bool}
theorem struct_cells {P : Program} {e : TypeId} {fs : Array Field} {fuel : Nat} {cs : List Value} {x : DataW H × List MemPlace} (he : P.underlying e = some (.struct fs)) (hone : oneCellFields P fs = true) (hC : P.cellsOf e = fs.size)
    (h : DataW.trod enc P w base spare held fuel e cs = some x) :
    ∃ n, n + 1 = fuel ∧ cs.length = fs.size ∧ ∀ (j : Nat) (f : Field), fs[j]? = some f → ∃ (u : Value) (y : DataW H × List MemPlace), cs[j]? = some u ∧ DataW.trod enc P w base spare held n f.type [u] = some y := by
  obtain ⟨ys, n, hn, _, hlen, hyl, hf⟩ := DataW.trod_struct he h
  rw [hC] at hlen
  refine ⟨n, hn.symm, hlen, fun j f hj => ?_⟩
  obtain ⟨ho, hk⟩ := hone_of hone j f hj
  have hjl : j < fs.size := (Array.getElem?_eq_some_iff.1 hj).1
  have h1 := hf j f hj
  rw [ho, hk] at h1
  have hone' : (cs.drop j).take 1 = [cs[j]'(by omega)] := by
    rw [List.drop_eq_getElem_cons (by omega)]; rfl
  rw [hone'] at h1
  have hys : ys[j]? = some (ys[j]'(by omega)) := List.getElem?_eq_getElem (by omega)
  exact ⟨_, _, List.getElem?_eq_getElem (by omega), h1.trans hys⟩
theorem slice_cells {P : Program} {t e : TypeId} {fs : Array Field} {fuel : Nat} {cs : List Value} {x : DataW H × List MemPlace} (ht : P.underlying t = some (.slice e)) (he : P.underlying e = some (.struct fs)) (hone : oneCellFields P fs = true) (hC : P.cellsOf e = fs.size)
    (h : DataW.trod enc P w base spare held fuel t cs = some x) :
    cs = [.slice none 0 0] ∨ ∃ (a : Addr) (len cap : Nat), cs = [.slice (some a) len cap] ∧ len ≤ cap ∧ cap ≤ maxLen ∧ ∀ i, i < len → ∃ (vs : List Value) (n : Nat), n + 2 = fuel ∧ vs.length = fs.size ∧ (∀ j u, vs[j]? = some u → w.cell? (a.add (i * fs.size + j)) = some u) ∧
      ∀ (j : Nat) (f : Field), fs[j]? = some f → ∃ (u : Value) (y : DataW H × List MemPlace), vs[j]? = some u ∧ DataW.trod enc P w base spare held n f.type [u] = some y := by
  rcases DataW.trod_slice ht h with ⟨h0, _⟩ | ⟨a, len, cap, elems, rest, n, hn, hcs, _, _, hl, hm, hlen, hel, _, _⟩
  · exact .inl h0
  · refine .inr ⟨a, len, cap, hcs, hl, hm, fun i hi => ?_⟩
    have h1 := hel i hi
    rw [List.getElem?_eq_getElem (show i < elems.length by omega)] at h1
    obtain ⟨vs, h2, h3⟩ := Option.bind_eq_some_iff.1 h1
    obtain ⟨n', hn', hvl, hf⟩ := struct_cells he hone hC h3
    rw [hC] at h2
    obtain ⟨_, _, hat⟩ := World.cells?_some h2
    refine ⟨vs, n', by omega, hvl, fun j u hu => ?_, hf⟩
    have hj : j < fs.size := by rw [← hvl]; exact (List.getElem?_eq_some_iff.1 hu).1
    rw [← add_add, hat j hj, hu]
end
theorem spot_none {w : World} {a : Addr} {u : Value} (h : w.cell? a = some u) : ∃ b o, a = ⟨b, o, none⟩ := by
  obtain ⟨b, o, s⟩ := a
  cases s with
  | none => exact ⟨b, o, rfl⟩
  | some s =>
    unfold World.cell? at h
    split at h <;> simp at h
theorem pick_list {α : Type} {p : Nat → α → Prop} : ∀ n, (∀ i, i < n → ∃ x, p i x) → ∃ l : List α, l.length = n ∧ ∀ i x, l[i]? = some x → p i x
  | 0, _ => ⟨[], rfl, by simp⟩
  | n + 1, h => by
    obtain ⟨l, h1, h2⟩ := pick_list n fun i hi => h i (by omega)
    obtain ⟨x, hx⟩ := h n (by omega)
    refine ⟨l ++ [x], by simp [h1], fun i y hy => ?_⟩
    by_cases hi : i < l.length
    · rw [List.getElem?_append_left hi] at hy; exact h2 i y hy
    · rw [List.getElem?_append_right (by omega)] at hy
      have : i - l.length = 0 := by
        rcases Nat.eq_zero_or_pos (i - l.length) with h0 | h0
        · exact h0
        · rw [List.getElem?_eq_none (by simp; omega)] at hy; cases hy
      rw [this] at hy
      simp at hy
      have : i = n := by omega
      rw [this, ← hy]; exact hx
/-- A row of nodes, out of its cells. -/
theorem rw_pick {w : World} {t : Tg} {v : Value} {len cap : Nat} {a : Addr} (hv : v = .slice (some a) len cap) (hl : len ≤ cap) (hm : cap ≤ maxLen) (h : ∀ i, i < len → ∃ x : Nd, x.tag = t ∧ Kd w x ∧ ∀ j u, (cellsN x)[j]? = some u → w.cell? (a.add (i * t.sz + j)) = some u) : ∃ l, Rw w t v l ∧ KdL w l := by
  obtain ⟨l, h1, h2⟩ := pick_list len h
  refine ⟨l, ⟨some a, cap, by rw [hv, h1], by omega, fun x hx => ?_, fun h0 => ?_⟩, KdL_of fun x hx => ?_⟩
  · obtain ⟨i, hi⟩ := List.getElem?_of_mem hx
    exact (h2 i x hi).1
  · obtain ⟨x, hx⟩ : ∃ x, l[0]? = some x := ⟨_, List.getElem?_eq_getElem h0⟩
    have h3 := (h2 0 x hx).2.2
    have hp : 0 < (cellsN x).length := by rw [cells_len]; cases x.tag <;> simp [Tg.sz]
    have h4 := h3 0 _ (List.getElem?_eq_getElem hp)
    have e0 : a.add (0 * t.sz + 0) = a := by simp [Addr.add]
    rw [e0] at h4
    obtain ⟨b, o, rfl⟩ := spot_none h4
    refine ⟨b, o, rfl, fun i x hx j u hu => ?_⟩
    have := (h2 i x hx).2.2 j u hu
    have e : (⟨b, o, none⟩ : Addr).add (i * t.sz + j) = ⟨b, o + i * t.sz + j, none⟩ := by
      unfold Addr.add; split <;> simp <;> omega
    rw [e] at this; exact this
  · obtain ⟨i, hi⟩ := List.getElem?_of_mem hx
    exact (h2 i x hi).2.1
theorem rw_nil (w : World) (t : Tg) : ∃ l, Rw w t (.slice none 0 0) l ∧ KdL w l := ⟨[], ⟨none, 0, rfl, by unfold maxLen; simp, by simp, fun h => by simp at h⟩, trivial⟩
section
variable {H : Type} {enc : TypeId × Value → H} {w : World} {base : Nat} {spare : Nat → Bool} {held : Bool}
theorem node_ex {n : Nat} {vs : List Value} (hl : vs.length = 8) (c0 : ∃ y, DataW.trod enc Tryz.prog w base spare held n 3 [vs.getD 0 undef] = some y) (c1 : ∃ y, DataW.trod enc Tryz.prog w base spare held n 21 [vs.getD 1 undef] = some y)
    (c2 : ∃ y, DataW.trod enc Tryz.prog w base spare held n 9 [vs.getD 2 undef] = some y) (c3 : ∃ y, DataW.trod enc Tryz.prog w base spare held n 9 [vs.getD 3 undef] = some y) (c4 : ∃ y, DataW.trod enc Tryz.prog w base spare held n 9 [vs.getD 4 undef] = some y)
    (c5 : ∃ l, Rw w .ex (vs.getD 5 undef) l ∧ KdL w l) (c6 : ∃ y, DataW.trod enc Tryz.prog w base spare held n 9 [vs.getD 6 undef] = some y) (c7 : ∃ y, DataW.trod enc Tryz.prog w base spare held n 3 [vs.getD 7 undef] = some y) :
    ∃ x : Nd, x.tag = .ex ∧ Kd w x ∧ cellsN x = vs := by
  match vs, hl with
  | [v0, v1, v2, v3, v4, v5, v6, v7], _ =>
    simp only [List.getD_cons_zero, List.getD_cons_succ] at c0 c1 c2 c3 c4 c5 c6 c7
    obtain ⟨_, h0⟩ := c0; obtain ⟨_, h1⟩ := c1; obtain ⟨_, h2⟩ := c2; obtain ⟨_, h3⟩ := c3; obtain ⟨_, h4⟩ := c4; obtain ⟨l, h5, h5'⟩ := c5; obtain ⟨_, h6⟩ := c6; obtain ⟨_, h7⟩ := c7
    obtain ⟨k, e0, _⟩ := DataW.trod_int Tryz.underlying3 h0
    obtain ⟨m, e1, _⟩ := DataW.trod_int Tryz.underlying21 h1
    obtain ⟨tx, e2, _, s2⟩ := DataW.trod_string Tryz.underlying9 h2
    obtain ⟨nm, e3, _, s3⟩ := DataW.trod_string Tryz.underlying9 h3
    obtain ⟨ty, e4, _, s4⟩ := DataW.trod_string Tryz.underlying9 h4
    obtain ⟨ow, e6, _, s6⟩ := DataW.trod_string Tryz.underlying9 h6
    obtain ⟨nth, e7, _⟩ := DataW.trod_int Tryz.underlying3 h7
    simp only [List.cons.injEq, and_true] at e0 e1 e2 e3 e4 e6 e7
    subst e0 e1 e2 e3 e4 e6 e7
    refine ⟨.ex k m tx nm ty v5 l ow nth, rfl, ?_, rfl⟩
    rw [Kd]; exact ⟨⟨s2, s3, s4⟩, h5, h5'⟩
theorem Tryz.oneExpr : ∃ fs, Tryz.prog.underlying 94 = some (.struct fs) ∧ oneCellFields Tryz.prog fs = true ∧ Tryz.prog.cellsOf 94 = fs.size ∧ fs.size = 8 ∧ fs.toList.map (·.type) = [3, 21, 9, 9, 9, 53, 9, 3] :=
  ⟨_, Tryz.underlying94, by kernel_rfl, by kernel_rfl, rfl, rfl⟩
theorem Tryz.oneStmt : ∃ fs, Tryz.prog.underlying 96 = some (.struct fs) ∧ oneCellFields Tryz.prog fs = true ∧ Tryz.prog.cellsOf 96 = fs.size ∧ fs.size = 9 ∧ fs.toList.map (·.type) = [3, 21, 9, 9, 53, 58, 58, 58, 3] :=
  ⟨_, Tryz.underlying96, by kernel_rfl, by kernel_rfl, rfl, rfl⟩
/-- A field's reading. -/
theorem field_at {P : Program} {fs : Array Field} {n : Nat} {vs : List Value} (h : ∀ (j : Nat) (f : Field), fs[j]? = some f → ∃ (u : Value) (y : DataW H × List MemPlace), vs[j]? = some u ∧ DataW.trod enc P w base spare held n f.type [u] = some y)
    (j : Nat) (t : TypeId) (hj : (fs.toList.map (·.type))[j]? = some t) : ∃ y, DataW.trod enc P w base spare held n t [vs.getD j undef] = some y := by
  rw [List.getElem?_map] at hj
  obtain ⟨f, hf, hft⟩ := Option.map_eq_some_iff.1 hj
  obtain ⟨u, y, hu, hy⟩ := h j f (by simpa using hf)
  subst hft
  exact ⟨y, by rw [List.getD_eq_getElem?_getD, hu]; exact hy⟩
theorem open_exprs : ∀ (fuel : Nat) (v : Value) (x : DataW H × List MemPlace), DataW.trod enc Tryz.prog w base spare held fuel 53 [v] = some x → ∃ l, Rw w .ex v l ∧ KdL w l := by
  intro fuel
  induction fuel using Nat.strongRecOn with
  | ind fuel ih =>
    intro v x h
    obtain ⟨fs, he, hone, hC, h8, hty⟩ := Tryz.oneExpr
    rcases slice_cells Tryz.underlying53 he hone hC h with h0 | ⟨a, len, cap, hcs, hl, hm, hel⟩
    · injection h0 with h0; subst h0; exact rw_nil w .ex
    · injection hcs with hcs
      refine rw_pick hcs hl hm fun i hi => ?_
      obtain ⟨vs, n, hn, hvl, hc, hf⟩ := hel i hi
      have F := fun j t hj => field_at (enc := enc) (w := w) hf j t (by rw [hty]; exact hj)
      obtain ⟨y5, h5⟩ := F 5 _ rfl
      obtain ⟨x, hxt, hxk, hxc⟩ := node_ex (by omega) (F 0 _ rfl) (F 1 _ rfl) (F 2 _ rfl) (F 3 _ rfl) (F 4 _ rfl) (ih n (by omega) _ _ h5) (F 6 _ rfl) (F 7 _ rfl)
      refine ⟨x, hxt, hxk, fun j u hu => ?_⟩
      rw [hxc] at hu
      have := hc j u hu
      rw [h8] at this; exact this
theorem node_st {n : Nat} {vs : List Value} (hl : vs.length = 9) (c0 : ∃ y, DataW.trod enc Tryz.prog w base spare held n 3 [vs.getD 0 undef] = some y) (c1 : ∃ y, DataW.trod enc Tryz.prog w base spare held n 21 [vs.getD 1 undef] = some y)
    (c2 : ∃ y, DataW.trod enc Tryz.prog w base spare held n 9 [vs.getD 2 undef] = some y) (c3 : ∃ y, DataW.trod enc Tryz.prog w base spare held n 9 [vs.getD 3 undef] = some y)
    (c4 : ∃ l, Rw w .ex (vs.getD 4 undef) l ∧ KdL w l) (c5 : ∃ l, Rw w .st (vs.getD 5 undef) l ∧ KdL w l) (c6 : ∃ l, Rw w .st (vs.getD 6 undef) l ∧ KdL w l) (c7 : ∃ l, Rw w .st (vs.getD 7 undef) l ∧ KdL w l) (c8 : ∃ y, DataW.trod enc Tryz.prog w base spare held n 3 [vs.getD 8 undef] = some y) :
    ∃ x : Nd, x.tag = .st ∧ Kd w x ∧ cellsN x = vs := by
  match vs, hl with
  | [v0, v1, v2, v3, v4, v5, v6, v7, v8], _ =>
    simp only [List.getD_cons_zero, List.getD_cons_succ] at c0 c1 c2 c3 c4 c5 c6 c7 c8
    obtain ⟨_, h0⟩ := c0; obtain ⟨_, h1⟩ := c1; obtain ⟨_, h2⟩ := c2; obtain ⟨_, h3⟩ := c3; obtain ⟨e, h4, h4'⟩ := c4; obtain ⟨a, h5, h5'⟩ := c5; obtain ⟨b, h6, h6'⟩ := c6; obtain ⟨c, h7, h7'⟩ := c7; obtain ⟨_, h8⟩ := c8
    obtain ⟨k, e0, _⟩ := DataW.trod_int Tryz.underlying3 h0
    obtain ⟨m, e1, _⟩ := DataW.trod_int Tryz.underlying21 h1
    obtain ⟨ty, e2, _, s2⟩ := DataW.trod_string Tryz.underlying9 h2
    obtain ⟨nm, e3, _, s3⟩ := DataW.trod_string Tryz.underlying9 h3
    obtain ⟨nth, e8, _⟩ := DataW.trod_int Tryz.underlying3 h8
    simp only [List.cons.injEq, and_true] at e0 e1 e2 e3 e8
    subst e0 e1 e2 e3 e8
    refine ⟨.st k m ty nm v4 v5 v6 v7 e a b c nth, rfl, ?_, rfl⟩
    rw [Kd]; exact ⟨⟨s2, s3⟩, ⟨h4, h4'⟩, ⟨h5, h5'⟩, ⟨h6, h6'⟩, h7, h7'⟩
theorem open_stmts : ∀ (fuel : Nat) (v : Value) (x : DataW H × List MemPlace), DataW.trod enc Tryz.prog w base spare held fuel 58 [v] = some x → ∃ l, Rw w .st v l ∧ KdL w l := by
  intro fuel
  induction fuel using Nat.strongRecOn with
  | ind fuel ih =>
    intro v x h
    obtain ⟨fs, he, hone, hC, h9, hty⟩ := Tryz.oneStmt
    rcases slice_cells Tryz.underlying58 he hone hC h with h0 | ⟨a, len, cap, hcs, hl, hm, hel⟩
    · injection h0 with h0; subst h0; exact rw_nil w .st
    · injection hcs with hcs
      refine rw_pick hcs hl hm fun i hi => ?_
      obtain ⟨vs, n, hn, hvl, hc, hf⟩ := hel i hi
      have F := fun j t hj => field_at (enc := enc) (w := w) hf j t (by rw [hty]; exact hj)
      obtain ⟨y4, h4⟩ := F 4 _ rfl
      obtain ⟨y5, h5⟩ := F 5 _ rfl
      obtain ⟨y6, h6⟩ := F 6 _ rfl
      obtain ⟨y7, h7⟩ := F 7 _ rfl
      obtain ⟨x, hxt, hxk, hxc⟩ := node_st (by omega) (F 0 _ rfl) (F 1 _ rfl) (F 2 _ rfl) (F 3 _ rfl) (open_exprs n _ _ h4) (ih n (by omega) _ _ h5) (ih n (by omega) _ _ h6) (ih n (by omega) _ _ h7) (F 8 _ rfl)
      refine ⟨x, hxt, hxk, fun j u hu => ?_⟩
      rw [hxc] at hu
      have := hc j u hu
      rw [h9] at this; exact this
set_option maxRecDepth 100000 in
/-- A parameter that is an expression. -/
theorem open_expr {r : Reach} {b0 : Nat} {v : Value} {d : DataW H} {p : List MemPlace} (hv : Value.okWide Tryz.prog w r b0 94 v) (h : DataW.Trod enc Tryz.prog w base spare held 94 v d p) :
    ∃ k n tx nm ty nv l own nth, v = .agg #[.int .i64 k, .int .i32 n, .string tx, .string nm, .string ty, nv, .string own, .int .i64 nth] ∧ Kd w (.ex k n tx nm ty nv l own nth) := by
  obtain ⟨fs, he, hone, hC, h8, hty⟩ := Tryz.oneExpr
  obtain ⟨cs, rfl, hsz⟩ := okWide_struct he hv
  obtain ⟨fuel, hf⟩ := h
  obtain ⟨n, _, hlen, hg⟩ := struct_cells he hone hC hf
  have F := fun j t hj => field_at (enc := enc) (w := w) hg j t (by rw [hty]; exact hj)
  obtain ⟨y5, h5⟩ := F 5 _ rfl
  obtain ⟨x, hxt, hxk, hxc⟩ := node_ex (by omega) (F 0 _ rfl) (F 1 _ rfl) (F 2 _ rfl) (F 3 _ rfl) (F 4 _ rfl) (open_exprs n _ _ h5) (F 6 _ rfl) (F 7 _ rfl)
  cases x <;> first | (simp [Nd.tag] at hxt; done) | skip
  rename_i k n tx nm ty nv l own nth
  refine ⟨k, n, tx, nm, ty, nv, l, own, nth, ?_, hxk⟩
  have : cs.toList = [.int .i64 k, .int .i32 n, .string tx, .string nm, .string ty, nv, .string own, .int .i64 nth] := hxc.symm
  rw [← Array.toArray_toList (xs := cs), this]
set_option maxRecDepth 100000 in
/-- A parameter that is a row of statements. -/
theorem open_stmt_row {r : Reach} {b0 : Nat} {v : Value} {d : DataW H} {p : List MemPlace} (hv : Value.okWide Tryz.prog w r b0 58 v) (h : DataW.Trod enc Tryz.prog w base spare held 58 v d p) : ∃ l, Rw w .st v l ∧ KdL w l := by
  obtain ⟨a, len, cap, rfl⟩ := okWide_slice Tryz.underlying58 hv
  obtain ⟨fuel, hf⟩ := h
  exact open_stmts fuel _ _ hf
end
end Go.Proofs.YteogphbdpjnjoaaGreat
