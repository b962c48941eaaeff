/- ShowTexts: for every input the statement's function returns true, and each argument reads behind the call as it read before; the card ties the library's listed variables to the program's text. No condition but what the given row says. -/
import Derived.Test.YtaclhdpjkgoadaaGreatDoorRows
import Derived.Test.YtaclhdpjkgoadaaGreatDoorTie
import Derived.Test.YtaclhdpjkgoadaaGreatDoorCards
import Derived.Test.YtaclhdpjkgoadaaGreatDoorP32
import Derived.Test.YtaclhdpjkgoadaaGreatDoorP10
import Derived.Test.YtaclhdpjkgoadaaGreatDoorP4
import Derived.SevenTiedAt
import Derived.Below
import Derived.WalkKit
import Derived.ProofKit
import Derived.OpenShut
import Derived.ShutString
import Derived.ReadAgain
import Derived.ChangeMaps5
namespace Go.Proofs.YtaclhdpjkgoadaaGreatDoor.showTexts
open Go.ChangeShapes Go.WideShapes Go.ChangeAt Go.RowKit
set_option linter.unusedVariables false
set_option linter.unusedSimpArgs false
theorem kids : Kids Tryz.prog (· < Tryz.prog.types.size) := kids_rows (by kernel_rfl) (by kernel_rfl)
theorem full : ∀ t e, t < Tryz.prog.types.size → Tryz.prog.underlying t = some (.slice e) → 0 < Tryz.prog.cellsOf e := slices_full_of Tryz.prog (by kernel_rfl)
theorem carry {H : Type} {enc : TypeId × Value → H} {P : Program} {w w' : World} {spare : Nat → Bool} {held : Bool} : ∀ {ts : List TypeId} {vs : List Value} {ds : List (DataW H)} {ps : List MemPlace},
   DataW.TrodAll enc P w 0 spare held ts vs ds ps → (∀ p ∈ ps, w.sameAt w' p) → DataW.TrodAll enc P w' 0 spare held ts vs ds ps
 | [], [], [], _, h, _ => h
 | _ :: _, _ :: _, _ :: _, _, ⟨p, q, ⟨n, hn⟩, h2, e⟩, hs => ⟨p, q, ⟨n, DataW.trod_carry n _ _ _ hn fun x hx => hs x (by rw [e]; exact List.mem_append_left _ hx)⟩, carry h2 fun x hx => hs x (by rw [e]; exact List.mem_append_right _ hx), e⟩
theorem and2t {a b : Bool} (h : a = true) (k : b = true) : (a && b) = true := by rw [h, k]; rfl
set_option maxHeartbeats 16000000 in
theorem joined : joinedFacts Tryz.prog 3 Tryz.f3 Rows.showTextsSpec Rows.showTextsRow = true := by
 unfold joinedFacts
 repeat' (with_reducible apply and2t)
 all_goals decide +kernel
theorem instOf : Tryz.f3.isInstance Tryz.prog Rows.showTextsRow.origin Rows.showTextsRow.targs := of_decide_eq_true (by kernel_rfl)
theorem wrapOf : Tryz.f3.isWrapper Tryz.prog Rows.showTextsRow.wrapper Rows.showTextsRow.mainSum := by
 unfold Func.isWrapper; first | (rw [if_pos (by decide +kernel)]; kernel_rfl) | (rw [if_neg (by decide +kernel)]; exact ⟨rfl, rfl⟩)
theorem named : Tryz.prog.funcNamed Rows.showTextsRow.func = some 3 := by kernel_rfl
theorem wfText : Rows.showTextsRow.wfByText (OpenSpec.ofChange Rows.showTextsSpec) = true := by kernel_rfl
theorem mainOf : Tryz.pinned.checked.prog.mainIs = some (true, ("92601ec299b119c14bd420d92257990880997609081e7b2ba05e1ae59c3ea020" : String).toList) := by kernel_rfl
theorem goesNot : false = Rows.showTextsRow.goesBy Tryz.pinned.checked.prog := by kernel_rfl
theorem looksAt : true = Tryz.pinned.checked.prog.looks [] := by kernel_rfl
set_option maxHeartbeats 1600000 in
set_option maxRecDepth 100000 in
theorem lifted (os : Os) (started : os.Started) (H : Type) (enc : TypeId × Value → H) :
   ReturnsInHanded {} Tryz.checked os 3 .any (fun w args => (Rows.showTextsSpec.pre enc Tryz.prog Tryz.f3 [] false w args ∧ laidMetH Tryz.prog Rows.showTextsRow.laid w) ∧ sizedMet enc Tryz.prog Tryz.f3 (OpenSpec.ofChange Rows.showTextsSpec) false w args)
     (Rows.showTextsSpec.post enc Tryz.prog Tryz.f3 false true false false) := by
 refine handed_shapedX (C := Tryz.checked) (X := fun w _ => laidMetH Tryz.prog Rows.showTextsRow.laid w) (fun _ _ _ hh h => h.of_heap hh) ownK started (by kernel_rfl) Tryz.func3
   (ChangeSpec.witness_at (enc := enc) (C := Tryz.checked) (os := os) (X := fun w _ => laidMetH Tryz.prog Rows.showTextsRow.laid w) false (laidWorld os) #[.string ByteArray.empty] 8 rfl (by kernel_rfl) (by kernel_rfl) (by kernel_rfl) (by kernel_rfl) (by kernel_rfl) (laidWorld_met os _)) ?_
 intro W base args ds gs before hval0 hW hsh hL
 have hg0 := vars_of_laid hL
 obtain ⟨C0, hW0⟩ := glW_shaped hsh (fun g hg => by (cases hg; try exact ⟨of_decide_eq_true (by kernel_rfl), by kernel_rfl, by kernel_rfl, by kernel_rfl, Tryz.underlying3⟩))
 have hval : ∀ (j : Nat) t v, Tryz.f3.params[j]? = some t → args[j]? = some v → Value.okWide Tryz.prog W .any base t v := hval0
 have hW' := hW
 obtain ⟨p, q, hA0, hV0, rfl, hfz, hnd⟩ := hW
 have hA : DataW.TrodAll enc Tryz.prog W 0 (fun _ => true) true Tryz.f3.params.toList args.toList ds p := hA0
 have hV : DataW.TrodVars enc Tryz.prog W (fun _ => true) [] gs q := hV0
 have hAk := hA
 rw [Tryz.params3] at hA hval
 obtain ⟨v0, vs0, d0, ds0, p0, q0, hargs, rfl, rfl, h0, r0⟩ := trodAll_cons hA
 obtain ⟨rfl, rfl, rfl⟩ := trodAll_nil r0
 obtain rfl : args = #[v0] := by cases args; simp_all
 obtain ⟨rfl, rfl⟩ := trodVars_none hV
 obtain ⟨s0, rfl, rfl, rfl, hw0⟩ := Go.ChangeMaps.open_string Tryz.underlying9 (hval 0 9 v0 rfl rfl) h0
 clear hA0 hV0 hval0
 have hlt := hW'.lt
 refine (pshow_all W hW0 s0 hg0).mono fun e W' ⟨he, hg⟩ => ?_
 subst he
 have hargs := DataW.TrodAll.respare (spare' := fun b => decide (b < W.heap.size)) kids full (by rw [Tryz.params3]; decide) (carry hAk (fun x hx => hg.same (hlt x (List.mem_append_left _ hx)))) (fun x hx => decide_eq_true (hlt x (List.mem_append_left _ hx)))
 exact ⟨_, rfl, _, _, _, [], _, [], hW', (trodAll_cons_mk (shut_bool Tryz.underlying4 _) trodAll_mk0), hargs, rfl, hg.frame _, fun h => by cases h⟩
theorem over : Rows.ShowTextsSaid :=
 OpenClaim.holds_of_wide 3 Tryz.f3 rfl rfl rfl rfl rfl rfl rfl ⟨rfl, rfl, rfl, rfl, rfl⟩ rfl rfl rfl rfl rfl named Tryz.func3 joined
   instOf wrapOf (fun os started H enc _ => lifted os started H enc)
/-- ████ THE STATEMENT ████ -/
theorem proved : Rows.ShowTextsCardSaid :=
 Claim7.holds_tied_plain_at .later [] [.data, .data, .data, .sentinel, .sentinel] true (true, "92601ec299b119c14bd420d92257990880997609081e7b2ba05e1ae59c3ea020") true
   over (fun _ h => by cases h) wfText (fun _ h => by cases h) showTexts_row_tie rfl ⟨rfl, rfl⟩ mainOf rfl
   (fun f fn hf hfn => by
     obtain rfl : f = 3 := Option.some.inj ((show Tryz.prog.funcNamed "changeling/changelinglaw5.ShowTexts" = some 3 by kernel_rfl).symm.trans hf) |>.symm
     obtain rfl : fn = Tryz.f3 := (Option.some.inj (Tryz.func3.symm.trans hfn)).symm
     exact ⟨looksAt, fun j t ht => by
         rw [Tryz.params3] at ht
         rcases j with _ | j
         · obtain rfl : t = 9 := by simpa using ht.symm
           exact (show Tryz.prog.wantsStandIn 9 = false by kernel_rfl)
         simp at ht⟩)
   goesNot
#print axioms proved
end Go.Proofs.YtaclhdpjkgoadaaGreatDoor.showTexts
