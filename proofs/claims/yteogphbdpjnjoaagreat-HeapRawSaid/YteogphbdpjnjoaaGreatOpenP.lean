/- A program opened. -/
import Derived.Test.YteogphbdpjnjoaaGreatOpen
set_option linter.unusedSimpArgs false
set_option linter.unusedVariables false
namespace Go.Proofs.YteogphbdpjnjoaaGreat
open Go.RowKit Go.ChangeShapes Go.WideShapes Go.Deep
section
variable {H : Type} {enc : TypeId × Value → H} {w : World} {base : Nat} {spare : Nat → Bool} {held : Bool}
theorem Tryz.oneParam : ∃ fs, Tryz.prog.underlying 178 = some (.struct fs) ∧ oneCellFields Tryz.prog fs = true ∧ Tryz.prog.cellsOf 178 = fs.size ∧ fs.size = 2 ∧ fs.toList.map (·.type) = [9, 9] :=
  ⟨_, Tryz.underlying178, by kernel_rfl, by kernel_rfl, rfl, rfl⟩
theorem Tryz.oneField : ∃ fs, Tryz.prog.underlying 55 = some (.struct fs) ∧ oneCellFields Tryz.prog fs = true ∧ Tryz.prog.cellsOf 55 = fs.size ∧ fs.size = 4 ∧ fs.toList.map (·.type) = [4, 9, 9, 53] :=
  ⟨_, Tryz.underlying55, by kernel_rfl, by kernel_rfl, rfl, rfl⟩
theorem Tryz.oneMethod : ∃ fs, Tryz.prog.underlying 60 = some (.struct fs) ∧ oneCellFields Tryz.prog fs = true ∧ Tryz.prog.cellsOf 60 = fs.size ∧ fs.size = 6 ∧ fs.toList.map (·.type) = [4, 4, 9, 9, 57, 58] :=
  ⟨_, Tryz.underlying60, by kernel_rfl, by kernel_rfl, rfl, rfl⟩
theorem Tryz.oneClass : ∃ fs, Tryz.prog.underlying 51 = some (.struct fs) ∧ oneCellFields Tryz.prog fs = true ∧ Tryz.prog.cellsOf 51 = fs.size ∧ fs.size = 4 ∧ fs.toList.map (·.type) = [9, 9, 48, 49] :=
  ⟨_, Tryz.underlying51, by kernel_rfl, by kernel_rfl, rfl, rfl⟩
theorem Tryz.oneProg : ∃ fs, Tryz.prog.underlying 24 = some (.struct fs) ∧ oneCellFields Tryz.prog fs = true ∧ Tryz.prog.cellsOf 24 = fs.size ∧ fs.size = 1 ∧ fs.toList.map (·.type) = [22] :=
  ⟨_, Tryz.underlying24, by kernel_rfl, by kernel_rfl, rfl, rfl⟩
/-- A slice of structs of one-cell fields, out of nodes for its elements. -/
theorem open_row {T e : TypeId} {tg : Tg} {fs : Array Field} (ht : Tryz.prog.underlying T = some (.slice e)) (he : Tryz.prog.underlying e = some (.struct fs)) (hone : oneCellFields Tryz.prog fs = true) (hC : Tryz.prog.cellsOf e = fs.size) (hz : fs.size = tg.sz)
    (node : ∀ (n : Nat) (vs : List Value), vs.length = fs.size → (∀ (j : Nat) (f : Field), fs[j]? = some f → ∃ (u : Value) (y : DataW H × List MemPlace), vs[j]? = some u ∧ DataW.trod enc Tryz.prog w base spare held n f.type [u] = some y) → ∃ x : Nd, x.tag = tg ∧ Kd w x ∧ cellsN x = vs)
    (fuel : Nat) (v : Value) (x : DataW H × List MemPlace) (h : DataW.trod enc Tryz.prog w base spare held fuel T [v] = some x) : ∃ l, Rw w tg v l ∧ KdL w l := by
  rcases slice_cells ht he hone hC h with h0 | ⟨a, len, cap, hcs, hl, hm, hel⟩
  · injection h0 with h0; subst h0; exact rw_nil w tg
  · injection hcs with hcs
    refine rw_pick hcs hl hm fun i hi => ?_
    obtain ⟨vs, n, _, hvl, hc, hf⟩ := hel i hi
    obtain ⟨x, hxt, hxk, hxc⟩ := node n vs hvl hf
    refine ⟨x, hxt, hxk, fun j u hu => ?_⟩
    rw [hxc] at hu
    have := hc j u hu
    rw [hz] at this; exact this
theorem open_fields (fuel : Nat) (v : Value) (x : DataW H × List MemPlace) (h : DataW.trod enc Tryz.prog w base spare held fuel 48 [v] = some x) : ∃ l, Rw w .fd v l ∧ KdL w l := by
  obtain ⟨fs, he, hone, hC, h4, hty⟩ := Tryz.oneField
  refine open_row (tg := .fd) Tryz.underlying48 he hone hC h4 (fun n vs hl hf => ?_) fuel v x h
  have F := fun j t hj => field_at (enc := enc) (w := w) hf j t (by rw [hty]; exact hj)
  rw [h4] at hl
  match vs, hl, F with
  | [v0, v1, v2, v3], _, F =>
    obtain ⟨_, h0⟩ := F 0 _ rfl; obtain ⟨_, h1⟩ := F 1 _ rfl; obtain ⟨_, h2⟩ := F 2 _ rfl; obtain ⟨_, h3⟩ := F 3 _ rfl
    simp only [List.getD_cons_zero, List.getD_cons_succ] at h0 h1 h2 h3
    obtain ⟨s, e0, _⟩ := DataW.trod_bool Tryz.underlying4 h0
    obtain ⟨ty, e1, _, s1⟩ := DataW.trod_string Tryz.underlying9 h1
    obtain ⟨nm, e2, _, s2⟩ := DataW.trod_string Tryz.underlying9 h2
    obtain ⟨l, r, k⟩ := open_exprs n _ _ h3
    simp only [List.cons.injEq, and_true] at e0 e1 e2
    subst e0 e1 e2
    refine ⟨.fd s ty nm v3 l, rfl, ?_, rfl⟩
    rw [Kd]; exact ⟨⟨s1, s2⟩, r, k⟩
theorem open_params (fuel : Nat) (v : Value) (x : DataW H × List MemPlace) (h : DataW.trod enc Tryz.prog w base spare held fuel 57 [v] = some x) : ∃ ps, Pw w v ps := by
  obtain ⟨fs, he, hone, hC, h2, hty⟩ := Tryz.oneParam
  rcases slice_cells Tryz.underlying57 he hone hC h with h0 | ⟨a, len, cap, hcs, hl, hm, hel⟩
  · injection h0 with h0; subst h0
    exact ⟨[], none, 0, rfl, by unfold maxLen; simp, by simp, fun h => by simp at h⟩
  · injection hcs with hcs
    have hp : ∀ i, i < len → ∃ q : ByteArray × ByteArray, (q.1.size ≤ maxLen ∧ q.2.size ≤ maxLen) ∧ w.cell? (a.add (i * 2 + 0)) = some (.string q.1) ∧ w.cell? (a.add (i * 2 + 1)) = some (.string q.2) := by
      intro i hi
      obtain ⟨vs, n, _, hvl, hc, hf⟩ := hel i hi
      have F := fun j t hj => field_at (enc := enc) (w := w) hf j t (by rw [hty]; exact hj)
      rw [h2] at hvl hc
      match vs, hvl, F, hc with
      | [v0, v1], _, F, hc =>
        obtain ⟨_, h0⟩ := F 0 _ rfl; obtain ⟨_, h1⟩ := F 1 _ rfl
        simp only [List.getD_cons_zero, List.getD_cons_succ] at h0 h1
        obtain ⟨ty, e0, _, s0⟩ := DataW.trod_string Tryz.underlying9 h0
        obtain ⟨nm, e1, _, s1⟩ := DataW.trod_string Tryz.underlying9 h1
        simp only [List.cons.injEq, and_true] at e0 e1
        subst e0 e1
        exact ⟨(ty, nm), ⟨s0, s1⟩, hc 0 _ rfl, hc 1 _ rfl⟩
    obtain ⟨ps, g1, g2⟩ := pick_list len hp
    refine ⟨ps, some a, cap, by rw [hcs, g1], by omega, fun q hq => ?_, fun h0 => ?_⟩
    · obtain ⟨i, hi⟩ := List.getElem?_of_mem hq
      exact (g2 i q hi).1
    · obtain ⟨q, hq⟩ : ∃ q, ps[0]? = some q := ⟨_, List.getElem?_eq_getElem h0⟩
      have g3 := (g2 0 q hq).2.1
      have e0 : a.add (0 * 2 + 0) = a := by simp [Addr.add]
      rw [e0] at g3
      obtain ⟨b, o, rfl⟩ := spot_none g3
      refine ⟨b, o, rfl, fun i q hq => ?_⟩
      have g4 := (g2 i q hq).2
      have f0 : (⟨b, o, none⟩ : Addr).add (i * 2 + 0) = ⟨b, o + i * 2, none⟩ := by unfold Addr.add; split <;> simp <;> omega
      have f1 : (⟨b, o, none⟩ : Addr).add (i * 2 + 1) = ⟨b, o + i * 2 + 1, none⟩ := by unfold Addr.add; split <;> simp <;> omega
      rw [f0, f1] at g4; exact g4
theorem open_methods (fuel : Nat) (v : Value) (x : DataW H × List MemPlace) (h : DataW.trod enc Tryz.prog w base spare held fuel 49 [v] = some x) : ∃ l, Rw w .mt v l ∧ KdL w l := by
  obtain ⟨fs, he, hone, hC, h4, hty⟩ := Tryz.oneMethod
  refine open_row (tg := .mt) Tryz.underlying49 he hone hC h4 (fun n vs hl hf => ?_) fuel v x h
  have F := fun j t hj => field_at (enc := enc) (w := w) hf j t (by rw [hty]; exact hj)
  rw [h4] at hl
  match vs, hl, F with
  | [v0, v1, v2, v3, v4, v5], _, F =>
    obtain ⟨_, h0⟩ := F 0 _ rfl; obtain ⟨_, h1⟩ := F 1 _ rfl; obtain ⟨_, h2⟩ := F 2 _ rfl; obtain ⟨_, h3⟩ := F 3 _ rfl; obtain ⟨_, h4⟩ := F 4 _ rfl; obtain ⟨_, h5⟩ := F 5 _ rfl
    simp only [List.getD_cons_zero, List.getD_cons_succ] at h0 h1 h2 h3 h4 h5
    obtain ⟨s, e0, _⟩ := DataW.trod_bool Tryz.underlying4 h0
    obtain ⟨c, e1, _⟩ := DataW.trod_bool Tryz.underlying4 h1
    obtain ⟨ty, e2, _, s1⟩ := DataW.trod_string Tryz.underlying9 h2
    obtain ⟨nm, e3, _, s2⟩ := DataW.trod_string Tryz.underlying9 h3
    obtain ⟨ps, hps⟩ := open_params n _ _ h4
    obtain ⟨l, r, k⟩ := open_stmts n _ _ h5
    simp only [List.cons.injEq, and_true] at e0 e1 e2 e3
    subst e0 e1 e2 e3
    refine ⟨.mt s c ty nm v4 ps v5 l, rfl, ?_, rfl⟩
    rw [Kd]; exact ⟨⟨s1, s2⟩, hps, r, k⟩
theorem open_classes (fuel : Nat) (v : Value) (x : DataW H × List MemPlace) (h : DataW.trod enc Tryz.prog w base spare held fuel 22 [v] = some x) : ∃ l, Rw w .cl v l ∧ KdL w l := by
  obtain ⟨fs, he, hone, hC, h4, hty⟩ := Tryz.oneClass
  refine open_row (tg := .cl) Tryz.underlying22 he hone hC h4 (fun n vs hl hf => ?_) fuel v x h
  have F := fun j t hj => field_at (enc := enc) (w := w) hf j t (by rw [hty]; exact hj)
  rw [h4] at hl
  match vs, hl, F with
  | [v0, v1, v2, v3], _, F =>
    obtain ⟨_, h0⟩ := F 0 _ rfl; obtain ⟨_, h1⟩ := F 1 _ rfl; obtain ⟨_, h2⟩ := F 2 _ rfl; obtain ⟨_, h3⟩ := F 3 _ rfl
    simp only [List.getD_cons_zero, List.getD_cons_succ] at h0 h1 h2 h3
    obtain ⟨nm, e0, _, s1⟩ := DataW.trod_string Tryz.underlying9 h0
    obtain ⟨sp, e1, _, s2⟩ := DataW.trod_string Tryz.underlying9 h1
    obtain ⟨f, r1, k1⟩ := open_fields n _ _ h2
    obtain ⟨m, r2, k2⟩ := open_methods n _ _ h3
    simp only [List.cons.injEq, and_true] at e0 e1
    subst e0 e1
    refine ⟨.cl nm sp v2 v3 f m, rfl, ?_, rfl⟩
    rw [Kd]; exact ⟨⟨s1, s2⟩, ⟨r1, k1⟩, r2, k2⟩
set_option maxRecDepth 100000 in
/-- A parameter that is a program. -/
theorem open_prog {r : Reach} {b0 : Nat} {v : Value} {d : DataW H} {p : List MemPlace} (hv : Value.okWide Tryz.prog w r b0 24 v) (h : DataW.Trod enc Tryz.prog w base spare held 24 v d p) : ∃ u l, v = .agg #[u] ∧ Rw w .cl u l ∧ KdL w l := by
  obtain ⟨fs, he, hone, hC, h8, hty⟩ := Tryz.oneProg
  obtain ⟨cs, rfl, hsz⟩ := okWide_struct he hv
  obtain ⟨fuel, hf⟩ := h
  obtain ⟨n, _, hlen, hg⟩ := struct_cells he hone hC hf
  have F := fun j t hj => field_at (enc := enc) (w := w) hg j t (by rw [hty]; exact hj)
  obtain ⟨_, h0⟩ := F 0 _ rfl
  obtain ⟨l, r, k⟩ := open_classes n _ _ h0
  obtain ⟨cs⟩ := cs
  have hl1 : cs.length = 1 := by rw [hC, h8] at hsz; simpa using hsz
  match cs, hl1 with
  | [u], _ => exact ⟨u, l, rfl, r, k⟩
end
end Go.Proofs.YteogphbdpjnjoaaGreat
