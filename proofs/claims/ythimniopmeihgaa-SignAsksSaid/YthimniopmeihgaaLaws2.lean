/- Statements of layer 1 as walks: the document's own answers. -/
import Derived.Test.YthimniopmeihgaaTold
set_option linter.unusedSimpArgs false
set_option linter.unusedVariables false
namespace Go.Proofs.Ythimniopmeihgaa
open Go.RowKit

set_option maxRecDepth 100000 in
set_option maxHeartbeats 4000000 in
theorem lawSignAsks (r : Int) (s : ByteArray) (hr : (Lit.int .i32 r).wf = true) (hs : s.size ≤ maxLen) (w : World) : Calls Try.prog 3 #[.int .i32 r, .string s] w fun e w' => e = .returned (.bool true) ∧ Below w.heap.size w w' := by
  by_cases h2 : 300 < s.size
  · have h2' : (300 : Int) < s.size := by omega
    go_enter Try.func3, Try.ntmps3
    go_wp2_with (go_at_call 8; refine (told_any _).mono ?_; rintro e w1 ⟨rfl, hb⟩)
    go_ret
    exact ⟨rfl, hb⟩
  · have h2' : (s.size : Int) ≤ 300 := by omega
    have hc : Below w.heap.size w w := Below.refl _ _
    clear hr
    go_enter Try.func3, Try.ntmps3
    go_wp2_with (first
      | (go_at_call 8; refine (told_any _).mono ?_; rintro e w1 ⟨rfl, hb⟩; replace hc := hc.trans (hb.mono hc.size); clear hb)
      | (go_at_call 9; refine (plain_any _ _ (by omega)).mono ?_; rintro e w1 ⟨rfl, hb⟩; replace hc := hc.trans (hb.mono hc.size); clear hb)
      | (go_at_call 10; refine (rplain_any _ _ (by omega)).mono ?_; rintro e w1 ⟨rfl, hb⟩; replace hc := hc.trans (hb.mono hc.size); clear hb)
      | (go_at_call 11; refine (small_any _ _).mono ?_; rintro e w1 ⟨rfl, rfl⟩)
      | (go_at_call 13; refine (big_any _ _).mono ?_; rintro e w1 ⟨rfl, rfl⟩)
      | (go_at_call 15; refine (digit_any _ _).mono ?_; rintro e w1 ⟨rfl, rfl⟩)
      | (go_at_call 12; refine (rsmall_any _ _).mono ?_; rintro e w1 ⟨rfl, rfl⟩)
      | (go_at_call 14; refine (rbig_any _ _).mono ?_; rintro e w1 ⟨rfl, rfl⟩)
      | (go_at_call 16; refine (rdigit_any _ _).mono ?_; rintro e w1 ⟨rfl, rfl⟩)
      | (go_at_call 17; refine (name_any _ _ hs).mono ?_; rintro e w1 ⟨rfl, hb⟩; replace hc := hc.trans (hb.mono hc.size); clear hb)
      | (go_at_call 18; refine (rname_any _ _ hs).mono ?_; rintro e w1 ⟨rfl, hb⟩; replace hc := hc.trans (hb.mono hc.size); clear hb)
      | (go_at_call 19; refine (class_any _ _ hs).mono ?_; rintro e w1 ⟨rfl, hb⟩; replace hc := hc.trans (hb.mono hc.size); clear hb)
      | (go_at_call 20; refine (rclass_any _ _ hs).mono ?_; rintro e w1 ⟨rfl, rfl⟩)
      | (go_at_call 21; refine (quote_any _ _ (by omega)).mono ?_; rintro e w1 ⟨rfl, hb⟩; replace hc := hc.trans (hb.mono hc.size); clear hb)
      | (go_at_call 22; refine (rquote_any _ _ (by omega)).mono ?_; rintro e w1 ⟨rfl, hb⟩; replace hc := hc.trans (hb.mono hc.size); clear hb)
      | (go_at_call 23; refine (bad_any _ _ hs).mono ?_; rintro e w1 ⟨rfl, hb⟩; replace hc := hc.trans (hb.mono hc.size); clear hb)
      | (go_at_call 24; refine (rbad_any _ _ (by omega)).mono ?_; rintro e w1 ⟨rfl, hb⟩; replace hc := hc.trans (hb.mono hc.size); clear hb))
    go_ret
    exact ⟨rfl, hc⟩
end Go.Proofs.Ythimniopmeihgaa
