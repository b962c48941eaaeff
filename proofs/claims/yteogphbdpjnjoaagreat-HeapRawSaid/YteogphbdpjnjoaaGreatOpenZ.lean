/- (Parted from XOpenS.) A program opened, with the sizes of its texts (the form's own reach). -/
import Derived.Test.YteogphbdpjnjoaaGreatOpenP
import Derived.SizedLaws
set_option linter.unusedSimpArgs false
set_option linter.unusedVariables false
namespace Go.Proofs.YteogphbdpjnjoaaGreat
open Go.RowKit Go.ChangeShapes Go.WideShapes Go.Deep
def szH : Nd → Prop
  | .ex _ _ tx nm ty _ _ _ _ => tx.size ≤ 281474976710656 ∧ nm.size ≤ 281474976710656 ∧ ty.size ≤ 281474976710656
  | .st _ _ ty nm _ _ _ _ _ _ _ _ _ => ty.size ≤ 281474976710656 ∧ nm.size ≤ 281474976710656
  | .fd _ ty nm _ _ => ty.size ≤ 281474976710656 ∧ nm.size ≤ 281474976710656
  | .mt _ _ ty nm _ ps _ _ => (ty.size ≤ 281474976710656 ∧ nm.size ≤ 281474976710656) ∧ ∀ p ∈ ps, p.1.size ≤ 281474976710656 ∧ p.2.size ≤ 281474976710656
  | .cl nm sp _ _ _ _ => nm.size ≤ 281474976710656 ∧ sp.size ≤ 281474976710656
/-- Its texts are no longer than memory can be. -/
inductive Sz : Nd → Prop where
  | mk (x : Nd) (h : szH x) (k : ∀ y ∈ x.kids, Sz y) : Sz x
theorem Sz.head {x : Nd} (h : Sz x) : szH x := by cases h; assumption
theorem Sz.kids {x : Nd} (h : Sz x) : ∀ y ∈ x.kids, Sz y := by cases h; assumption
/-- Lies in memory, and is not too long. -/
def Qd (w : World) (x : Nd) : Prop := Kd w x ∧ Sz x
def QdL (w : World) (l : List Nd) : Prop := KdL w l ∧ ∀ x ∈ l, Sz x
theorem QdL.nil (w : World) : QdL w [] := ⟨trivial, by simp⟩
section
variable {H : Type} {enc : TypeId × Value → H} {w : World} {base : Nat} {spare : Nat → Bool} {held : Bool}
/-- What is read, with its weights within the reach. -/
def TS (enc : TypeId × Value → H) (P : Program) (w : World) (base : Nat) (spare : Nat → Bool) (held : Bool) (n : Nat) (T : TypeId) (cs : List Value) (y : DataW H × List MemPlace) : Prop :=
  DataW.trod enc P w base spare held n T cs = some y ∧ ∀ m ∈ y.1.weights P T, m ≤ reachBytes
theorem ts_string {P : Program} {n : Nat} {T : TypeId} {u : Value} {y : DataW H × List MemPlace} (ht : P.underlying T = some .string) (h : TS enc P w base spare held n T [u] y) : ∃ s : ByteArray, u = .string s ∧ s.size ≤ maxLen ∧ s.size ≤ 281474976710656 := by
  obtain ⟨s, e, rfl, hs⟩ := DataW.trod_string ht h.1
  simp only [List.cons.injEq, and_true] at e
  have := h.2 s.data.toList.length (by simp [DataW.weights])
  refine ⟨s, e, hs, ?_⟩
  unfold reachBytes at this
  simp at this; omega
theorem each_mem {P : Program} {fs : Array Field} {ys : List (DataW H × List MemPlace)} {j : Nat} {f : Field} {y : DataW H × List MemPlace} (hf : fs[j]? = some f) (hy : ys[j]? = some y) : ∀ m ∈ y.1.weights P f.type, m ∈ DataW.weightsEach P (fs.toList.map (·.type)) (ys.map (·.1)) := by
  refine DataW.weights_mem_each (j := j) ?_ ?_
  · rw [List.getElem?_map]; simp [hf]
  · rw [List.getElem?_map, hy]; rfl
theorem all_mem {P : Program} {e : TypeId} : ∀ {l : List (DataW H × List MemPlace)} {y : DataW H × List MemPlace}, y ∈ l → ∀ m ∈ y.1.weights P e, m ∈ DataW.weightsAll P e (l.map (·.1))
  | [], _, h, _, _ => by simp at h
  | z :: l, y, h, m, hm => by
    simp only [List.map_cons, DataW.weightsAll, List.mem_append]
    rcases List.mem_cons.1 h with rfl | h
    · exact .inl hm
    · exact .inr (all_mem h m hm)
theorem struct_z {P : Program} {e : TypeId} {fs : Array Field} {fuel : Nat} {cs : List Value} {x : DataW H × List MemPlace} (he : P.underlying e = some (.struct fs)) (hone : oneCellFields P fs = true) (hC : P.cellsOf e = fs.size)
    (h : TS enc P w base spare held fuel e cs x) :
    ∃ n, n + 1 = fuel ∧ cs.length = fs.size ∧ ∀ (j : Nat) (f : Field), fs[j]? = some f → ∃ (u : Value) (y : DataW H × List MemPlace), cs[j]? = some u ∧ TS enc P w base spare held n f.type [u] y := by
  obtain ⟨h, hw⟩ := h
  obtain ⟨ys, n, hn, hx, hlen, hyl, hf⟩ := DataW.trod_struct he h
  rw [hC] at hlen
  refine ⟨n, hn.symm, hlen, fun j f hj => ?_⟩
  obtain ⟨ho, hk⟩ := hone_of hone j f hj
  have hjl : j < fs.size := (Array.getElem?_eq_some_iff.1 hj).1
  have h1 := hf j f hj
  rw [ho, hk] at h1
  have hone' : (cs.drop j).take 1 = [cs[j]'(by omega)] := by
    rw [List.drop_eq_getElem_cons (by omega)]; rfl
  rw [hone'] at h1
  have hys : ys[j]? = some (ys[j]'(by omega)) := List.getElem?_eq_getElem (by omega)
  refine ⟨_, _, List.getElem?_eq_getElem (by omega), h1.trans hys, fun m hm => hw m ?_⟩
  rw [hx]
  simp only [DataW.weights, he]
  exact each_mem hj hys m hm
theorem slice_z {P : Program} {t e : TypeId} {fs : Array Field} {fuel : Nat} {cs : List Value} {x : DataW H × List MemPlace} (ht : P.underlying t = some (.slice e)) (he : P.underlying e = some (.struct fs)) (hone : oneCellFields P fs = true) (hC : P.cellsOf e = fs.size)
    (h : TS enc P w base spare held fuel t cs x) :
    cs = [.slice none 0 0] ∨ ∃ (a : Addr) (len cap : Nat), cs = [.slice (some a) len cap] ∧ len ≤ cap ∧ cap ≤ maxLen ∧ ∀ i, i < len → ∃ (vs : List Value) (n : Nat), n + 2 = fuel ∧ vs.length = fs.size ∧ (∀ j u, vs[j]? = some u → w.cell? (a.add (i * fs.size + j)) = some u) ∧
      ∀ (j : Nat) (f : Field), fs[j]? = some f → ∃ (u : Value) (y : DataW H × List MemPlace), vs[j]? = some u ∧ TS enc P w base spare held n f.type [u] y := by
  obtain ⟨h, hw⟩ := h
  rcases DataW.trod_slice ht h with ⟨h0, _⟩ | ⟨a, len, cap, elems, rest, n, hn, hcs, hx, _, hl, hm, hlen, hel, _, _⟩
  · exact .inl h0
  · refine .inr ⟨a, len, cap, hcs, hl, hm, fun i hi => ?_⟩
    have h1 := hel i hi
    have hg : elems[i]? = some (elems[i]'(by omega)) := List.getElem?_eq_getElem (show i < elems.length by omega)
    rw [hg] at h1
    obtain ⟨vs, h2, h3⟩ := Option.bind_eq_some_iff.1 h1
    obtain ⟨n', hn', hvl, hf⟩ := struct_z he hone hC ⟨h3, fun m hm => hw m (by
      rw [hx]
      simp only [DataW.weights, ht, List.mem_cons, List.mem_append]
      exact .inr (.inl (all_mem (List.mem_of_getElem? hg) m hm)))⟩
    rw [hC] at h2
    obtain ⟨_, _, hat⟩ := World.cells?_some h2
    refine ⟨vs, n', by omega, hvl, fun j u hu => ?_, hf⟩
    have hj : j < fs.size := by rw [← hvl]; exact (List.getElem?_eq_some_iff.1 hu).1
    rw [← add_add, hat j hj, hu]
end
theorem rw_pick_z {w : World} {t : Tg} {v : Value} {len cap : Nat} {a : Addr} (hv : v = .slice (some a) len cap) (hl : len ≤ cap) (hm : cap ≤ maxLen) (h : ∀ i, i < len → ∃ x : Nd, x.tag = t ∧ Qd w x ∧ ∀ j u, (cellsN x)[j]? = some u → w.cell? (a.add (i * t.sz + j)) = some u) : ∃ l, Rw w t v l ∧ QdL w l := by
  obtain ⟨l, h1, h2⟩ := pick_list len h
  refine ⟨l, ⟨some a, cap, by rw [hv, h1], by omega, fun x hx => ?_, fun h0 => ?_⟩, KdL_of fun x hx => ?_, fun x hx => ?_⟩
  · obtain ⟨i, hi⟩ := List.getElem?_of_mem hx
    exact (h2 i x hi).1
  · obtain ⟨x, hx⟩ : ∃ x, l[0]? = some x := ⟨_, List.getElem?_eq_getElem h0⟩
    have h3 := (h2 0 x hx).2.2
    have hp : 0 < (cellsN x).length := by rw [cells_len]; cases x.tag <;> simp [Tg.sz]
    have h4 := h3 0 _ (List.getElem?_eq_getElem hp)
    have e0 : a.add (0 * t.sz + 0) = a := by simp [Addr.add]
    rw [e0] at h4
    obtain ⟨b, o, rfl⟩ := spot_none h4
    refine ⟨b, o, rfl, fun i x hx j u hu => ?_⟩
    have := (h2 i x hx).2.2 j u hu
    have e : (⟨b, o, none⟩ : Addr).add (i * t.sz + j) = ⟨b, o + i * t.sz + j, none⟩ := by
      unfold Addr.add; split <;> simp <;> omega
    rw [e] at this; exact this
  · obtain ⟨i, hi⟩ := List.getElem?_of_mem hx
    exact (h2 i x hi).2.1.1
  · obtain ⟨i, hi⟩ := List.getElem?_of_mem hx
    exact (h2 i x hi).2.1.2
theorem rw_nil_z (w : World) (t : Tg) : ∃ l, Rw w t (.slice none 0 0) l ∧ QdL w l := ⟨[], ⟨none, 0, rfl, by unfold maxLen; simp, by simp, fun h => by simp at h⟩, QdL.nil w⟩
section
variable {H : Type} {enc : TypeId × Value → H} {w : World} {base : Nat} {spare : Nat → Bool} {held : Bool}
/-- A field's reading. -/
theorem field_z {P : Program} {fs : Array Field} {n : Nat} {vs : List Value} (h : ∀ (j : Nat) (f : Field), fs[j]? = some f → ∃ (u : Value) (y : DataW H × List MemPlace), vs[j]? = some u ∧ TS enc P w base spare held n f.type [u] y)
    (j : Nat) (t : TypeId) (hj : (fs.toList.map (·.type))[j]? = some t) : ∃ y, TS enc P w base spare held n t [vs.getD j undef] y := by
  rw [List.getElem?_map] at hj
  obtain ⟨f, hf, hft⟩ := Option.map_eq_some_iff.1 hj
  obtain ⟨u, y, hu, hy⟩ := h j f (by simpa using hf)
  subst hft
  exact ⟨y, by rw [List.getD_eq_getElem?_getD, hu]; exact hy⟩
/-- A slice of structs of one-cell fields, out of nodes for its elements. -/
theorem open_row_z {T e : TypeId} {tg : Tg} {fs : Array Field} (ht : Tryz.prog.underlying T = some (.slice e)) (he : Tryz.prog.underlying e = some (.struct fs)) (hone : oneCellFields Tryz.prog fs = true) (hC : Tryz.prog.cellsOf e = fs.size) (hz : fs.size = tg.sz) (fuel : Nat)
    (node : ∀ (n : Nat) (vs : List Value), n < fuel → vs.length = fs.size → (∀ (j : Nat) (f : Field), fs[j]? = some f → ∃ (u : Value) (y : DataW H × List MemPlace), vs[j]? = some u ∧ TS enc Tryz.prog w base spare held n f.type [u] y) → ∃ x : Nd, x.tag = tg ∧ Qd w x ∧ cellsN x = vs)
    (v : Value) (x : DataW H × List MemPlace) (h : TS enc Tryz.prog w base spare held fuel T [v] x) : ∃ l, Rw w tg v l ∧ QdL w l := by
  rcases slice_z ht he hone hC h with h0 | ⟨a, len, cap, hcs, hl, hm, hel⟩
  · injection h0 with h0; subst h0; exact rw_nil_z w tg
  · injection hcs with hcs
    refine rw_pick_z hcs hl hm fun i hi => ?_
    obtain ⟨vs, n, hn, hvl, hc, hf⟩ := hel i hi
    obtain ⟨x, hxt, hxk, hxc⟩ := node n vs (by omega) hvl hf
    refine ⟨x, hxt, hxk, fun j u hu => ?_⟩
    rw [hxc] at hu
    have := hc j u hu
    rw [hz] at this; exact this
theorem zexprs : ∀ (fuel : Nat) (v : Value) (x : DataW H × List MemPlace), TS enc Tryz.prog w base spare held fuel 53 [v] x → ∃ l, Rw w .ex v l ∧ QdL w l := by
  intro fuel
  induction fuel using Nat.strongRecOn with
  | ind fuel ih =>
    intro v x h
    obtain ⟨fs, he, hone, hC, h8, hty⟩ := Tryz.oneExpr
    refine open_row_z (tg := .ex) Tryz.underlying53 he hone hC h8 fuel (fun n vs hn hl hf => ?_) v x h
    have F := fun j t hj => field_z (enc := enc) (w := w) hf j t (by rw [hty]; exact hj)
    rw [h8] at hl
    match vs, hl, F with
    | [v0, v1, v2, v3, v4, v5, v6, v7], _, F =>
      obtain ⟨_, h0⟩ := F 0 _ rfl; obtain ⟨_, h1⟩ := F 1 _ rfl; obtain ⟨_, h2⟩ := F 2 _ rfl; obtain ⟨_, h3⟩ := F 3 _ rfl; obtain ⟨_, h4⟩ := F 4 _ rfl; obtain ⟨_, h5⟩ := F 5 _ rfl; obtain ⟨_, h6⟩ := F 6 _ rfl; obtain ⟨_, h7⟩ := F 7 _ rfl
      simp only [List.getD_cons_zero, List.getD_cons_succ] at h0 h1 h2 h3 h4 h5 h6 h7
      obtain ⟨k, e0, _⟩ := DataW.trod_int Tryz.underlying3 h0.1
      obtain ⟨m, e1, _⟩ := DataW.trod_int Tryz.underlying21 h1.1
      obtain ⟨tx, e2, s2, z2⟩ := ts_string Tryz.underlying9 h2
      obtain ⟨nm, e3, s3, z3⟩ := ts_string Tryz.underlying9 h3
      obtain ⟨ty, e4, s4, z4⟩ := ts_string Tryz.underlying9 h4
      obtain ⟨l, r5, k5⟩ := ih n hn _ _ h5
      obtain ⟨ow, e6, s6, z6⟩ := ts_string Tryz.underlying9 h6
      obtain ⟨nth, e7, _⟩ := DataW.trod_int Tryz.underlying3 h7.1
      simp only [List.cons.injEq, and_true] at e0 e1 e7
      subst e0 e1 e2 e3 e4 e6 e7
      refine ⟨.ex k m tx nm ty v5 l ow nth, rfl, ⟨?_, .mk _ ⟨z2, z3, z4⟩ k5.2⟩, rfl⟩
      rw [Kd]; exact ⟨⟨s2, s3, s4⟩, r5, k5.1⟩
theorem zstmts : ∀ (fuel : Nat) (v : Value) (x : DataW H × List MemPlace), TS enc Tryz.prog w base spare held fuel 58 [v] x → ∃ l, Rw w .st v l ∧ QdL w l := by
  intro fuel
  induction fuel using Nat.strongRecOn with
  | ind fuel ih =>
    intro v x h
    obtain ⟨fs, he, hone, hC, h9, hty⟩ := Tryz.oneStmt
    refine open_row_z (tg := .st) Tryz.underlying58 he hone hC h9 fuel (fun n vs hn hl hf => ?_) v x h
    have F := fun j t hj => field_z (enc := enc) (w := w) hf j t (by rw [hty]; exact hj)
    rw [h9] at hl
    match vs, hl, F with
    | [v0, v1, v2, v3, v4, v5, v6, v7, v8], _, F =>
      obtain ⟨_, h0⟩ := F 0 _ rfl; obtain ⟨_, h1⟩ := F 1 _ rfl; obtain ⟨_, h2⟩ := F 2 _ rfl; obtain ⟨_, h3⟩ := F 3 _ rfl; obtain ⟨_, h4⟩ := F 4 _ rfl; obtain ⟨_, h5⟩ := F 5 _ rfl; obtain ⟨_, h6⟩ := F 6 _ rfl; obtain ⟨_, h7⟩ := F 7 _ rfl; obtain ⟨_, h8⟩ := F 8 _ rfl
      simp only [List.getD_cons_zero, List.getD_cons_succ] at h0 h1 h2 h3 h4 h5 h6 h7 h8
      obtain ⟨k, e0, _⟩ := DataW.trod_int Tryz.underlying3 h0.1
      obtain ⟨m, e1, _⟩ := DataW.trod_int Tryz.underlying21 h1.1
      obtain ⟨ty, e2, s2, z2⟩ := ts_string Tryz.underlying9 h2
      obtain ⟨nm, e3, s3, z3⟩ := ts_string Tryz.underlying9 h3
      obtain ⟨e, r4, k4⟩ := zexprs n _ _ h4
      obtain ⟨a, r5, k5⟩ := ih n hn _ _ h5
      obtain ⟨b, r6, k6⟩ := ih n hn _ _ h6
      obtain ⟨c, r7, k7⟩ := ih n hn _ _ h7
      obtain ⟨nth, e8, _⟩ := DataW.trod_int Tryz.underlying3 h8.1
      simp only [List.cons.injEq, and_true] at e0 e1 e8
      subst e0 e1 e2 e3 e8
      refine ⟨.st k m ty nm v4 v5 v6 v7 e a b c nth, rfl, ⟨?_, .mk _ ⟨z2, z3⟩ fun y hy => ?_⟩, rfl⟩
      · rw [Kd]; exact ⟨⟨s2, s3⟩, ⟨r4, k4.1⟩, ⟨r5, k5.1⟩, ⟨r6, k6.1⟩, r7, k7.1⟩
      · simp only [Nd.kids, List.mem_append] at hy
        rcases hy with ((hy | hy) | hy) | hy
        · exact k4.2 y hy
        · exact k5.2 y hy
        · exact k6.2 y hy
        · exact k7.2 y hy
theorem zfields (fuel : Nat) (v : Value) (x : DataW H × List MemPlace) (h : TS enc Tryz.prog w base spare held fuel 48 [v] x) : ∃ l, Rw w .fd v l ∧ QdL w l := by
  obtain ⟨fs, he, hone, hC, h4, hty⟩ := Tryz.oneField
  refine open_row_z (tg := .fd) Tryz.underlying48 he hone hC h4 fuel (fun n vs _ hl hf => ?_) v x h
  have F := fun j t hj => field_z (enc := enc) (w := w) hf j t (by rw [hty]; exact hj)
  rw [h4] at hl
  match vs, hl, F with
  | [v0, v1, v2, v3], _, F =>
    obtain ⟨_, h0⟩ := F 0 _ rfl; obtain ⟨_, h1⟩ := F 1 _ rfl; obtain ⟨_, h2⟩ := F 2 _ rfl; obtain ⟨_, h3⟩ := F 3 _ rfl
    simp only [List.getD_cons_zero, List.getD_cons_succ] at h0 h1 h2 h3
    obtain ⟨s, e0, _⟩ := DataW.trod_bool Tryz.underlying4 h0.1
    obtain ⟨ty, e1, s1, z1⟩ := ts_string Tryz.underlying9 h1
    obtain ⟨nm, e2, s2, z2⟩ := ts_string Tryz.underlying9 h2
    obtain ⟨l, r, k⟩ := zexprs n _ _ h3
    simp only [List.cons.injEq, and_true] at e0
    subst e0 e1 e2
    refine ⟨.fd s ty nm v3 l, rfl, ⟨?_, .mk _ ⟨z1, z2⟩ k.2⟩, rfl⟩
    rw [Kd]; exact ⟨⟨s1, s2⟩, r, k.1⟩
theorem zparams (fuel : Nat) (v : Value) (x : DataW H × List MemPlace) (h : TS enc Tryz.prog w base spare held fuel 57 [v] x) : ∃ ps, Pw w v ps ∧ ∀ p ∈ ps, p.1.size ≤ 281474976710656 ∧ p.2.size ≤ 281474976710656 := by
  obtain ⟨fs, he, hone, hC, h2, hty⟩ := Tryz.oneParam
  rcases slice_z Tryz.underlying57 he hone hC h with h0 | ⟨a, len, cap, hcs, hl, hm, hel⟩
  · injection h0 with h0; subst h0
    exact ⟨[], ⟨none, 0, rfl, by unfold maxLen; simp, by simp, fun h => by simp at h⟩, by simp⟩
  · injection hcs with hcs
    have hp : ∀ i, i < len → ∃ q : ByteArray × ByteArray, ((q.1.size ≤ maxLen ∧ q.2.size ≤ maxLen) ∧ q.1.size ≤ 281474976710656 ∧ q.2.size ≤ 281474976710656) ∧ w.cell? (a.add (i * 2 + 0)) = some (.string q.1) ∧ w.cell? (a.add (i * 2 + 1)) = some (.string q.2) := by
      intro i hi
      obtain ⟨vs, n, _, hvl, hc, hf⟩ := hel i hi
      have F := fun j t hj => field_z (enc := enc) (w := w) hf j t (by rw [hty]; exact hj)
      rw [h2] at hvl hc
      match vs, hvl, F, hc with
      | [v0, v1], _, F, hc =>
        obtain ⟨_, h0⟩ := F 0 _ rfl; obtain ⟨_, h1⟩ := F 1 _ rfl
        simp only [List.getD_cons_zero, List.getD_cons_succ] at h0 h1
        obtain ⟨ty, e0, s0, z0⟩ := ts_string Tryz.underlying9 h0
        obtain ⟨nm, e1, s1, z1⟩ := ts_string Tryz.underlying9 h1
        subst e0 e1
        exact ⟨(ty, nm), ⟨⟨s0, s1⟩, z0, z1⟩, hc 0 _ rfl, hc 1 _ rfl⟩
    obtain ⟨ps, g1, g2⟩ := pick_list len hp
    refine ⟨ps, ⟨some a, cap, by rw [hcs, g1], by omega, fun q hq => ?_, fun h0 => ?_⟩, fun q hq => ?_⟩
    · obtain ⟨i, hi⟩ := List.getElem?_of_mem hq
      exact (g2 i q hi).1.1
    · obtain ⟨q, hq⟩ : ∃ q, ps[0]? = some q := ⟨_, List.getElem?_eq_getElem h0⟩
      have g3 := (g2 0 q hq).2.1
      have e0 : a.add (0 * 2 + 0) = a := by simp [Addr.add]
      rw [e0] at g3
      obtain ⟨b, o, rfl⟩ := spot_none g3
      refine ⟨b, o, rfl, fun i q hq => ?_⟩
      have g4 := (g2 i q hq).2
      have f0 : (⟨b, o, none⟩ : Addr).add (i * 2 + 0) = ⟨b, o + i * 2, none⟩ := by unfold Addr.add; split <;> simp <;> omega
      have f1 : (⟨b, o, none⟩ : Addr).add (i * 2 + 1) = ⟨b, o + i * 2 + 1, none⟩ := by unfold Addr.add; split <;> simp <;> omega
      rw [f0, f1] at g4; exact g4
    · obtain ⟨i, hi⟩ := List.getElem?_of_mem hq
      exact (g2 i q hi).1.2
theorem zmethods (fuel : Nat) (v : Value) (x : DataW H × List MemPlace) (h : TS enc Tryz.prog w base spare held fuel 49 [v] x) : ∃ l, Rw w .mt v l ∧ QdL w l := by
  obtain ⟨fs, he, hone, hC, h4, hty⟩ := Tryz.oneMethod
  refine open_row_z (tg := .mt) Tryz.underlying49 he hone hC h4 fuel (fun n vs _ hl hf => ?_) v x h
  have F := fun j t hj => field_z (enc := enc) (w := w) hf j t (by rw [hty]; exact hj)
  rw [h4] at hl
  match vs, hl, F with
  | [v0, v1, v2, v3, v4, v5], _, F =>
    obtain ⟨_, h0⟩ := F 0 _ rfl; obtain ⟨_, h1⟩ := F 1 _ rfl; obtain ⟨_, h2⟩ := F 2 _ rfl; obtain ⟨_, h3⟩ := F 3 _ rfl; obtain ⟨_, h4⟩ := F 4 _ rfl; obtain ⟨_, h5⟩ := F 5 _ rfl
    simp only [List.getD_cons_zero, List.getD_cons_succ] at h0 h1 h2 h3 h4 h5
    obtain ⟨s, e0, _⟩ := DataW.trod_bool Tryz.underlying4 h0.1
    obtain ⟨c, e1, _⟩ := DataW.trod_bool Tryz.underlying4 h1.1
    obtain ⟨ty, e2, s1, z1⟩ := ts_string Tryz.underlying9 h2
    obtain ⟨nm, e3, s2, z2⟩ := ts_string Tryz.underlying9 h3
    obtain ⟨ps, hps, zps⟩ := zparams n _ _ h4
    obtain ⟨l, r, k⟩ := zstmts n _ _ h5
    simp only [List.cons.injEq, and_true] at e0 e1
    subst e0 e1 e2 e3
    refine ⟨.mt s c ty nm v4 ps v5 l, rfl, ⟨?_, .mk _ ⟨⟨z1, z2⟩, zps⟩ k.2⟩, rfl⟩
    rw [Kd]; exact ⟨⟨s1, s2⟩, hps, r, k.1⟩
theorem zclasses (fuel : Nat) (v : Value) (x : DataW H × List MemPlace) (h : TS enc Tryz.prog w base spare held fuel 22 [v] x) : ∃ l, Rw w .cl v l ∧ QdL w l := by
  obtain ⟨fs, he, hone, hC, h4, hty⟩ := Tryz.oneClass
  refine open_row_z (tg := .cl) Tryz.underlying22 he hone hC h4 fuel (fun n vs _ hl hf => ?_) v x h
  have F := fun j t hj => field_z (enc := enc) (w := w) hf j t (by rw [hty]; exact hj)
  rw [h4] at hl
  match vs, hl, F with
  | [v0, v1, v2, v3], _, F =>
    obtain ⟨_, h0⟩ := F 0 _ rfl; obtain ⟨_, h1⟩ := F 1 _ rfl; obtain ⟨_, h2⟩ := F 2 _ rfl; obtain ⟨_, h3⟩ := F 3 _ rfl
    simp only [List.getD_cons_zero, List.getD_cons_succ] at h0 h1 h2 h3
    obtain ⟨nm, e0, s1, z1⟩ := ts_string Tryz.underlying9 h0
    obtain ⟨sp, e1, s2, z2⟩ := ts_string Tryz.underlying9 h1
    obtain ⟨f, r1, k1⟩ := zfields n _ _ h2
    obtain ⟨m, r2, k2⟩ := zmethods n _ _ h3
    subst e0 e1
    refine ⟨.cl nm sp v2 v3 f m, rfl, ⟨?_, .mk _ ⟨z1, z2⟩ fun y hy => ?_⟩, rfl⟩
    · rw [Kd]; exact ⟨⟨s1, s2⟩, ⟨r1, k1.1⟩, r2, k2.1⟩
    · simp only [Nd.kids, List.mem_append] at hy
      rcases hy with hy | hy
      · exact k1.2 y hy
      · exact k2.2 y hy
set_option maxRecDepth 100000 in
/-- A parameter that is a program. -/
theorem zprog {r : Reach} {b0 : Nat} {v : Value} {d : DataW H} {p : List MemPlace} (hv : Value.okWide Tryz.prog w r b0 24 v) (h : DataW.Trod enc Tryz.prog w base spare held 24 v d p) (hw : ∀ m ∈ d.weights Tryz.prog 24, m ≤ reachBytes) : ∃ u l, v = .agg #[u] ∧ Rw w .cl u l ∧ QdL w l := by
  obtain ⟨fs, he, hone, hC, h8, hty⟩ := Tryz.oneProg
  obtain ⟨cs, rfl, hsz⟩ := okWide_struct he hv
  obtain ⟨fuel, hf⟩ := h
  obtain ⟨n, _, hlen, hg⟩ := struct_z he hone hC ⟨hf, hw⟩
  have F := fun j t hj => field_z (enc := enc) (w := w) hg j t (by rw [hty]; exact hj)
  obtain ⟨_, h0⟩ := F 0 _ rfl
  obtain ⟨l, r, k⟩ := zclasses n _ _ h0
  obtain ⟨cs⟩ := cs
  have hl1 : cs.length = 1 := by rw [hC, h8] at hsz; simpa using hsz
  match cs, hl1 with
  | [u], _ => exact ⟨u, l, rfl, r, k⟩
end
end Go.Proofs.YteogphbdpjnjoaaGreat
