/- An argument that is a value (a struct of a number, a number of 32 bits, a text), opened. -/
import Derived.Test.YtinjlmkdhgaeeaaProg
import Derived.Deep.Slices
import Derived.Deep.Fields
import Derived.ReadAgain
import Derived.Below
import Derived.OpenShut
set_option linter.unusedSimpArgs false
set_option linter.unusedVariables false
namespace Go.Proofs.Ytinjlmkdhgaeeaa
open Go.RowKit Go.ChangeShapes Go.WideShapes Go.Deep
section
variable {H : Type} {enc : TypeId × Value → H} {w : World} {base : Nat} {spare : Nat → Bool} {held : Bool}
theorem struct_cellsV {P : Program} {e : TypeId} {fs : Array Field} {fuel : Nat} {cs : List Value} {x : DataW H × List MemPlace} (he : P.underlying e = some (.struct fs)) (hone : oneCellFields P fs = true) (hC : P.cellsOf e = fs.size)
    (h : DataW.trod enc P w base spare held fuel e cs = some x) :
    ∃ n, n + 1 = fuel ∧ cs.length = fs.size ∧ ∀ (j : Nat) (f : Field), fs[j]? = some f → ∃ (u : Value) (y : DataW H × List MemPlace), cs[j]? = some u ∧ DataW.trod enc P w base spare held n f.type [u] = some y := by
  obtain ⟨ys, n, hn, _, hlen, hyl, hf⟩ := DataW.trod_struct he h
  rw [hC] at hlen
  refine ⟨n, hn.symm, hlen, fun j f hj => ?_⟩
  obtain ⟨ho, hk⟩ := hone_of hone j f hj
  have hjl : j < fs.size := (Array.getElem?_eq_some_iff.1 hj).1
  have h1 := hf j f hj
  rw [ho, hk] at h1
  have hone' : (cs.drop j).take 1 = [cs[j]'(by omega)] := by
    rw [List.drop_eq_getElem_cons (by omega)]; rfl
  rw [hone'] at h1
  have hys : ys[j]? = some (ys[j]'(by omega)) := List.getElem?_eq_getElem (by omega)
  exact ⟨_, _, List.getElem?_eq_getElem (by omega), h1.trans hys⟩
theorem field_atV {P : Program} {fs : Array Field} {n : Nat} {vs : List Value} (h : ∀ (j : Nat) (f : Field), fs[j]? = some f → ∃ (u : Value) (y : DataW H × List MemPlace), vs[j]? = some u ∧ DataW.trod enc P w base spare held n f.type [u] = some y)
    (j : Nat) (t : TypeId) (hj : (fs.toList.map (·.type))[j]? = some t) : ∃ y, DataW.trod enc P w base spare held n t [vs.getD j undef] = some y := by
  rw [List.getElem?_map] at hj
  obtain ⟨f, hf, hft⟩ := Option.map_eq_some_iff.1 hj
  obtain ⟨u, y, hu, hy⟩ := h j f (by simpa using hf)
  subst hft
  exact ⟨y, by rw [List.getD_eq_getElem?_getD, hu]; exact hy⟩
theorem Try.oneValue : ∃ fs, Try.prog.underlying 23 = some (.struct fs) ∧ oneCellFields Try.prog fs = true ∧ Try.prog.cellsOf 23 = fs.size ∧ fs.size = 3 ∧ fs.toList.map (·.type) = [3, 21, 9] :=
  ⟨_, Try.underlying23, by kernel_rfl, by kernel_rfl, rfl, rfl⟩
set_option maxRecDepth 100000 in
theorem open_value {r : Reach} {b0 : Nat} {v : Value} {d : DataW H} {p : List MemPlace} (hv : Value.okWide Try.prog w r b0 23 v) (h : DataW.Trod enc Try.prog w base spare held 23 v d p) :
    ∃ k n s, v = .agg #[.int .i64 k, .int .i32 n, .string s] ∧ (Lit.int .i32 n).wf = true ∧ s.size ≤ maxLen := by
  obtain ⟨fs, he, hone, hC, h3, hty⟩ := Try.oneValue
  obtain ⟨cs, rfl, hsz⟩ := okWide_struct he hv
  obtain ⟨fuel, hf⟩ := h
  obtain ⟨n, _, hlen, hg⟩ := struct_cellsV he hone hC hf
  have F := fun j t hj => field_atV (enc := enc) (w := w) hg j t (by rw [hty]; exact hj)
  obtain ⟨y0, c0⟩ := F 0 _ rfl
  obtain ⟨y1, c1⟩ := F 1 _ rfl
  obtain ⟨y2, c2⟩ := F 2 _ rfl
  obtain ⟨k, e0, _⟩ := DataW.trod_int Try.underlying3 c0
  obtain ⟨m, e1, w1⟩ := DataW.trod_int Try.underlying21 c1
  obtain ⟨tx, e2, _, s2⟩ := DataW.trod_string Try.underlying9 c2
  have hcl : (Value.agg cs).cells = cs := by simp [Value.cells]
  rw [hcl] at e0 e1 e2 hlen
  refine ⟨k, m, tx, ?_, w1.2, s2⟩
  have hl3 : cs.toList.length = 3 := by rw [hlen]; exact h3
  have : cs.toList = [.int .i64 k, .int .i32 m, .string tx] := by
    match hc : cs.toList, hl3 with
    | [v0, v1, v2], _ =>
      rw [hc] at e0 e1 e2
      simp only [List.getD_cons_zero, List.getD_cons_succ, List.cons.injEq, and_true] at e0 e1 e2
      rw [e0, e1, e2]
  rw [← Array.toArray_toList (xs := cs), this]
end
end Go.Proofs.Ytinjlmkdhgaeeaa
