/- The closed facts that each statement of layer 1 asks for besides. -/
import Derived.Test.YthimniopmeihgaaSignD
import Derived.Test.YthimniopmeihgaaSignF
import Derived.Test.YthimniopmeihgaaRefG
set_option linter.unusedSimpArgs false
set_option linter.unusedVariables false
namespace Go.Proofs.Ythimniopmeihgaa
open Go.RowKit

set_option maxRecDepth 100000 in
set_option maxHeartbeats 4000000 in
theorem told_any (w : World) : Calls Try.prog 8 #[] w fun e w' => e = .returned (.bool true) ∧ Below w.heap.size w w' := by
  have p1 : plainText ⟨#[120, 92, 34, 92, 110]⟩ = [120, 34, 10] := by decide +kernel
  have p2 : plainOk ⟨#[120, 92, 34, 92, 110]⟩ = true := by decide +kernel
  have p3 : plainOk ⟨#[120, 92, 121]⟩ = false := by decide +kernel
  have s1 : small 113 = true := by decide +kernel
  have s2 : small 81 = false := by decide +kernel
  have s3 : big 81 = true := by decide +kernel
  have s4 : digit 55 = true := by decide +kernel
  have n1 : nameOk ⟨#[97, 66, 49]⟩ = true := by decide +kernel
  have n2 : nameOk ⟨#[99, 108, 97, 115, 115]⟩ = false := by decide +kernel
  have n3 : nameOk ⟨#[66]⟩ = false := by decide +kernel
  have c1 : classOk ⟨#[66]⟩ = true := by decide +kernel
  have c2 : classOk ⟨#[83, 116, 114, 105, 110, 103]⟩ = false := by decide +kernel
  have q1 : quote ⟨#[97, 34, 10]⟩ = [34, 97, 92, 34, 92, 110, 34] := by decide +kernel
  have q2 : quote ⟨#[255]⟩ = [34, 239, 191, 189, 34] := by decide +kernel
  have b1 : bad ⟨#[97, 255]⟩ = 1 := by decide +kernel
  have b2 : bad ⟨#[239, 191, 189]⟩ = -1 := by decide +kernel
  have hc : Below w.heap.size w w := Below.refl _ _
  go_enter Try.func8, Try.ntmps8
  go_wp2_with (first
    | (go_at_call 9; refine (plain_any _ _ (by decide)).mono ?_; rintro e w1 ⟨rfl, hb⟩; replace hc := hc.trans (hb.mono hc.size); clear hb)
    | (go_at_call 11; refine (small_any _ _).mono ?_; rintro e w1 ⟨rfl, rfl⟩)
    | (go_at_call 13; refine (big_any _ _).mono ?_; rintro e w1 ⟨rfl, rfl⟩)
    | (go_at_call 15; refine (digit_any _ _).mono ?_; rintro e w1 ⟨rfl, rfl⟩)
    | (go_at_call 17; refine (name_any _ _ (by decide)).mono ?_; rintro e w1 ⟨rfl, hb⟩; replace hc := hc.trans (hb.mono hc.size); clear hb)
    | (go_at_call 19; refine (class_any _ _ (by decide)).mono ?_; rintro e w1 ⟨rfl, hb⟩; replace hc := hc.trans (hb.mono hc.size); clear hb)
    | (go_at_call 21; refine (quote_any _ _ (by decide)).mono ?_; rintro e w1 ⟨rfl, hb⟩; replace hc := hc.trans (hb.mono hc.size); clear hb)
    | (go_at_call 23; refine (bad_any _ _ (by decide)).mono ?_; rintro e w1 ⟨rfl, hb⟩; replace hc := hc.trans (hb.mono hc.size); clear hb))
  go_ret
  exact ⟨rfl, hc⟩
end Go.Proofs.Ythimniopmeihgaa
