/- The package variable that is known of: out of the world's shape; a row's claim whose contract is handed the world's shape. -/
import Derived.Test.YtnohnacgefhgnaaGreatDoorEw4
import Derived.Handed
import Derived.SizedLaws
import Derived.Shelf.Vars
set_option linter.unusedSimpArgs false
set_option linter.unusedVariables false
namespace Go.Proofs.YtnohnacgefhgnaaGreatDoor
open Go.ChangeShapes Go.WideShapes Go.RowKit

theorem glW_shaped {P : Program} {W : World} (hsh : W.ShapedOpen P) (h : ∀ g, glob = some g → g < P.globals.size ∧ ((begin P (fun _ _ => 0) default).world.heap[g]?).bind Obj.row? = some (#[.int .i64 0], globT) ∧ P.buildable globT = true ∧ P.cellTypes P.depth globT = some [globT] ∧ P.underlying globT = some (.int .i64)) :
    ∃ C, GlW C W := by
  cases hq : glob with
  | none => exact ⟨0, fun g hg => by rw [hq] at hg; cases hg⟩
  | some g0 =>
    obtain ⟨h1, h2, h3, h4, h5⟩ := h g0 hq
    obtain ⟨m, hm⟩ := cell_of_shapedOpen_int hsh h1 h2 rfl h3 h4 h5
    obtain ⟨cs, hh, hs, _⟩ := hsh.1 g0 _ _ h1 h2
    refine ⟨encI m, fun g hg => ?_⟩
    rw [hq] at hg; cases hg
    have hs1 : cs.size = 1 := hs
    have hc : cs[0]? = some (.int .i64 m) := by
      rw [← hm]; simp [World.cell?, hh]
    have : cs = #[.int .i64 m] := by
      apply Array.ext
      · simp [hs1]
      · intro i hi1 hi2
        have : i = 0 := by omega
        subst this
        rw [Array.getElem?_eq_getElem hi1] at hc
        exact Option.some.inj hc
    rw [hh, this]
    show _ = some (Obj.cells #[.int .i64 (decI (encI m))] globT (0, 0))
    rw [decI_encI]
theorem handed_shaped {H : Type} {enc : TypeId × Value → H} {C : Checked} {os : Os} {f : FuncId} {fn : Func} {s : ChangeSpec} {X : World → Array Value → Prop}
    (hX : ∀ (w w' : World) (args : Array Value), w.heap = w'.heap → X w args → X w' args) (own : ownKnob C.prog.godebug = none) (started : os.Started) (noInit : C.prog.inits.idxOf? f = none) (hfn : C.prog.funcs[f]? = some fn)
    (witness : ∃ (w : World) (tape : Tape) (i : Input), w.os = os ∧ (w.forCall tape i).Shaped C.prog ∧ i.vars = [] ∧ Input.okWide C.prog (w.forCall tape i) .any w.heap.size f i ∧
      ((s.pre enc C.prog fn [] false (w.forCall tape i).memory i.args ∧ X (w.forCall tape i).memory i.args) ∧ sizedMet enc C.prog fn (OpenSpec.ofChange s) false (w.forCall tape i).memory i.args) ∧ ({} : Assume).holds C.prog (lone (Frame.enter C.prog f i.args .normal) [] (w.forCall tape i)))
    (contract : ∀ (W : World) (base : Nat) (args : Array Value) (ds gs : List (DataW H)) (before : List MemPlace), (∀ (j : Nat) t v, fn.params[j]? = some t → args[j]? = some v → Value.okWide C.prog W .any base t v) →
      DataW.Whole enc C.prog fn.params.toList s.vars false W args.toList ds gs before → W.ShapedOpen C.prog → Calls C.prog f args W fun e W' => ∃ v, e = .returned v ∧ s.post enc C.prog fn false true false false W args v W') :
    ReturnsInHanded {} C os f .any (fun w args => (s.pre enc C.prog fn [] false w args ∧ X w args) ∧ sizedMet enc C.prog fn (OpenSpec.ofChange s) false w args) (s.post enc C.prog fn false true false false) := by
  refine returnsInHanded_of_calls own started noInit witness ?_
  intro w tape i _ hsh _ hok hpre hholds
  obtain ⟨_, _, _, g, hg, _, _, _, _, hval⟩ := hok
  obtain rfl : g = fn := Option.some.inj (hg.symm.trans hfn)
  obtain ⟨⟨⟨ds, gs, before, hw, _⟩, _⟩, _⟩ := hpre
  exact (contract _ w.heap.size i.args ds gs before hval (DataW.Whole.of_heap (by rfl) hw) hsh).mono fun e W' ⟨v, he, hp⟩ => by subst he; exact ChangeSpec.post_blind hp
end Go.Proofs.YtnohnacgefhgnaaGreatDoor
