/- BindReturns: for every input the statement's function returns true, and each argument reads behind the call as it read before; the card ties the library's listed variables to the program's text. No condition but what the given row says. -/
import Derived.Test.YtnohnacgefhgnaaGreatDoorRows
import Derived.Test.YtnohnacgefhgnaaGreatDoorTie
import Derived.Test.YtnohnacgefhgnaaGreatDoorCards
import Derived.Test.YtnohnacgefhgnaaGreatDoorBreD
import Derived.Test.YtnohnacgefhgnaaGreatDoorLaidG
import Derived.Test.YtnohnacgefhgnaaGreatDoorGlW
import Derived.SevenTiedAt
import Derived.Below
import Derived.WalkKit
import Derived.ProofKit
import Derived.OpenShut
import Derived.ShutString
import Derived.ReadAgain
import Derived.ChangeMaps5
namespace Go.Proofs.YtnohnacgefhgnaaGreatDoor.bindReturns
open Go.ChangeShapes Go.WideShapes Go.ChangeAt Go.RowKit
set_option linter.unusedVariables false
set_option linter.unusedSimpArgs false
theorem kids : Kids Tryz.prog (· < Tryz.prog.types.size) := kids_rows (by kernel_rfl) (by kernel_rfl)
theorem full : ∀ t e, t < Tryz.prog.types.size → Tryz.prog.underlying t = some (.slice e) → 0 < Tryz.prog.cellsOf e := slices_full_of Tryz.prog (by kernel_rfl)
theorem carry {H : Type} {enc : TypeId × Value → H} {P : Program} {w w' : World} {spare : Nat → Bool} {held : Bool} : ∀ {ts : List TypeId} {vs : List Value} {ds : List (DataW H)} {ps : List MemPlace},
    DataW.TrodAll enc P w 0 spare held ts vs ds ps → (∀ p ∈ ps, w.sameAt w' p) → DataW.TrodAll enc P w' 0 spare held ts vs ds ps
  | [], [], [], _, h, _ => h
  | _ :: _, _ :: _, _ :: _, _, ⟨p, q, ⟨n, hn⟩, h2, e⟩, hs => ⟨p, q, ⟨n, DataW.trod_carry n _ _ _ hn fun x hx => hs x (by rw [e]; exact List.mem_append_left _ hx)⟩, carry h2 fun x hx => hs x (by rw [e]; exact List.mem_append_right _ hx), e⟩
theorem and2t {a b : Bool} (h : a = true) (k : b = true) : (a && b) = true := by rw [h, k]; rfl
set_option maxHeartbeats 16000000 in
theorem joined : joinedFacts Tryz.prog 4 Tryz.f4 Rows.bindReturnsSpec Rows.bindReturnsRow = true := by
  unfold joinedFacts
  repeat' (with_reducible apply and2t)
  all_goals decide +kernel
theorem instOf : Tryz.f4.isInstance Tryz.prog Rows.bindReturnsRow.origin Rows.bindReturnsRow.targs := of_decide_eq_true (by kernel_rfl)
theorem wrapOf : Tryz.f4.isWrapper Tryz.prog Rows.bindReturnsRow.wrapper Rows.bindReturnsRow.mainSum := by
  unfold Func.isWrapper; first | (rw [if_pos (by decide +kernel)]; kernel_rfl) | (rw [if_neg (by decide +kernel)]; exact ⟨rfl, rfl⟩)
theorem named : Tryz.prog.funcNamed Rows.bindReturnsRow.func = some 4 := by kernel_rfl
theorem wfText : Rows.bindReturnsRow.wfByText (OpenSpec.ofChange Rows.bindReturnsSpec) = true := by kernel_rfl
theorem mainOf : Tryz.pinned.checked.prog.mainIs = some (true, ("df8403f2f058ee219799f155b0a13b7dc4bbd59d4a407ee81c2c1eef028e493a" : String).toList) := by kernel_rfl
theorem goesNot : false = Rows.bindReturnsRow.goesBy Tryz.pinned.checked.prog := by kernel_rfl
theorem looksAt : true = Tryz.pinned.checked.prog.looks [] := by kernel_rfl

set_option maxHeartbeats 1600000 in
set_option maxRecDepth 100000 in
theorem lifted (os : Os) (started : os.Started) (H : Type) (enc : TypeId × Value → H) :
    ReturnsInHanded {} Tryz.checked os 4 .any (fun w args => (Rows.bindReturnsSpec.pre enc Tryz.prog Tryz.f4 [] false w args ∧ laidMetH Tryz.prog Rows.bindReturnsRow.laid w) ∧ sizedMet enc Tryz.prog Tryz.f4 (OpenSpec.ofChange Rows.bindReturnsSpec) false w args)
      (Rows.bindReturnsSpec.post enc Tryz.prog Tryz.f4 false true false false) := by
  refine handed_shaped (C := Tryz.checked) (X := fun w _ => laidMetH Tryz.prog Rows.bindReturnsRow.laid w) (fun _ _ _ hh h => h.of_heap hh) ownK started (by kernel_rfl) Tryz.func4
    (ChangeSpec.witness_at (enc := enc) (C := Tryz.checked) (os := os) (X := fun w _ => laidMetH Tryz.prog Rows.bindReturnsRow.laid w) false (laidWorld os) #[.int .i64 0] 8 rfl (by kernel_rfl) (by kernel_rfl) (by kernel_rfl) (by kernel_rfl) (by kernel_rfl) (laidWorld_met os _)) ?_
  intro W base args ds gs before hval0 hW hsh
  obtain ⟨C0, hW0⟩ := glW_shaped hsh (fun g hg => by (cases hg; try exact ⟨of_decide_eq_true (by kernel_rfl), by kernel_rfl, by kernel_rfl, by kernel_rfl, Tryz.underlying3⟩))
  have hval : ∀ (j : Nat) t v, Tryz.f4.params[j]? = some t → args[j]? = some v → Value.okWide Tryz.prog W .any base t v := hval0
  have hW' := hW
  obtain ⟨p, q, hA0, hV0, rfl, hfz, hnd⟩ := hW
  have hA : DataW.TrodAll enc Tryz.prog W 0 (fun _ => true) true Tryz.f4.params.toList args.toList ds p := hA0
  have hV : DataW.TrodVars enc Tryz.prog W (fun _ => true) [] gs q := hV0
  have hAk := hA
  rw [Tryz.params4] at hA hval
  obtain ⟨v0, vs0, d0, ds0, p0, q0, hargs, rfl, rfl, h0, r0⟩ := trodAll_cons hA
  obtain ⟨rfl, rfl, rfl⟩ := trodAll_nil r0
  obtain rfl : args = #[v0] := by cases args; simp_all
  obtain ⟨rfl, rfl⟩ := trodVars_none hV
  obtain ⟨n0, rfl, rfl, rfl, hw0⟩ := open_int Tryz.underlying3 (hval 0 3 v0 rfl rfl) h0
  clear hA0 hV0 hval0
  have hlt := hW'.lt
  refine (bre_any W hW0 n0).mono fun e W' ⟨he, hg⟩ => ?_
  subst he
  have hargs := DataW.TrodAll.respare (spare' := fun b => decide (b < W.heap.size)) kids full (by rw [Tryz.params4]; decide) (carry hAk (fun x hx => hg.same (hlt x (List.mem_append_left _ hx)))) (fun x hx => decide_eq_true (hlt x (List.mem_append_left _ hx)))
  exact ⟨_, rfl, _, _, _, [], _, [], hW', (trodAll_cons_mk (shut_bool Tryz.underlying4 _) trodAll_mk0), hargs, rfl, hg.frame _, fun h => by cases h⟩
theorem over : Rows.BindReturnsSaid :=
  OpenClaim.holds_of_wide 4 Tryz.f4 rfl rfl rfl rfl rfl rfl rfl ⟨rfl, rfl, rfl, rfl, rfl⟩ rfl rfl rfl rfl rfl named Tryz.func4 joined
    instOf wrapOf (fun os started H enc _ => lifted os started H enc)

/-- ████ THE STATEMENT ████ -/
theorem proved : Rows.BindReturnsCardSaid :=
  Claim7.holds_tied_plain_at .later [] [.data, .data, .data, .data, .pinned] true (true, "df8403f2f058ee219799f155b0a13b7dc4bbd59d4a407ee81c2c1eef028e493a") true
    over (fun _ h => by cases h) wfText (fun _ h => by cases h) bindReturns_row_tie rfl ⟨rfl, rfl⟩ mainOf rfl
    (fun f fn hf hfn => by
      obtain rfl : f = 4 := Option.some.inj ((show Tryz.prog.funcNamed "changeling/changelinglaw12.BindReturns" = some 4 by kernel_rfl).symm.trans hf) |>.symm
      obtain rfl : fn = Tryz.f4 := (Option.some.inj (Tryz.func4.symm.trans hfn)).symm
      exact ⟨looksAt, fun j t ht => by
          rw [Tryz.params4] at ht
          rcases j with _ | j
          · obtain rfl : t = 3 := by simpa using ht.symm
            exact (show Tryz.prog.wantsStandIn 3 = false by kernel_rfl)
          simp at ht⟩)
    goesNot
#print axioms proved
end Go.Proofs.YtnohnacgefhgnaaGreatDoor.bindReturns
