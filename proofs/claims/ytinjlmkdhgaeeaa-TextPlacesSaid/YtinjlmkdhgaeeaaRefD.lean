/- The document's answer for the rune at a place: every place; its bytes (Part). -/
import Derived.Test.YtinjlmkdhgaeeaaRefC1
import Derived.Test.YtinjlmkdhgaeeaaRefC2
import Derived.Test.YtinjlmkdhgaeeaaRefC3
import Derived.Test.YtinjlmkdhgaeeaaRefC4
set_option linter.unusedSimpArgs false
set_option linter.unusedVariables false
namespace Go.Proofs.Ytinjlmkdhgaeeaa
open Go.RowKit

set_option maxRecDepth 100000 in
theorem one_low (s : ByteArray) (p : Nat) (w : World) (hs : s.size ≤ 16777216) (hp : p < s.size) (h1 : bt s p < 128) : OneSaid s p w := by
  unfold OneSaid
  have hbt := bt_eq s p hp
  have hd := low_of s p h1
  have hb := badAt_low s p h1
  have HD := Lib.hid hd; clear hd
  have HB := Lib.hid hb; clear hb
  have i1 : ((bt s p : Nat) : Int) < 128 := by omega
  go_enter Try.func23, Try.ntmps23
  go_wp2
  refine bodyPost_ret (v := .agg #[.int .i32 (bt s p : Nat), .int .i64 1, .bool false]) (by simp [results, Try.results23, go_sem]) rfl ⟨?_, box_below _ _ _⟩
  rw [HB.out, HD.out]; rfl
set_option maxRecDepth 100000 in
theorem one_none (s : ByteArray) (p : Nat) (w : World) (hs : s.size ≤ 16777216) (hp : p < s.size) (h1 : 128 ≤ bt s p) (h2 : bt s p < 194 ∨ 244 < bt s p) : OneSaid s p w := by
  unfold OneSaid
  have hbt := bt_eq s p hp
  have HD : Hid (Utf8.decode s p = (65533, 1)) := by
    apply dbad s p h1
    · intro k; have := k.1; have := k.2.1; omega
    · intro k; have := k.1; have := k.2.1; omega
    · intro k; have := k.1; have := k.2.1; omega
  have i1 : 128 ≤ ((bt s p : Nat) : Int) := by omega
  rcases h2 with h2 | h2
  · have i2 : ((bt s p : Nat) : Int) < 194 := by omega
    have i3 : ((bt s p : Nat) : Int) < 224 := by omega
    have i4 : ((bt s p : Nat) : Int) < 240 := by omega
    go_enter Try.func23, Try.ntmps23
    go_wp2
    refine bodyPost_ret (v := .agg #[.int .i32 65533, .int .i64 1, .bool true]) (by simp [results, Try.results23, go_sem]) rfl ⟨?_, box_below _ _ _⟩
    rw [badAt_of HD.out, HD.out]; rfl
  · have i2 : 194 ≤ ((bt s p : Nat) : Int) := by omega
    have i3 : 223 < ((bt s p : Nat) : Int) := by omega
    have i4 : 224 ≤ ((bt s p : Nat) : Int) := by omega
    have i5 : 239 < ((bt s p : Nat) : Int) := by omega
    have i6 : 240 ≤ ((bt s p : Nat) : Int) := by omega
    have i7 : 244 < ((bt s p : Nat) : Int) := by omega
    go_enter Try.func23, Try.ntmps23
    go_wp2
    refine bodyPost_ret (v := .agg #[.int .i32 65533, .int .i64 1, .bool true]) (by simp [results, Try.results23, go_sem]) rfl ⟨?_, box_below _ _ _⟩
    rw [badAt_of HD.out, HD.out]; rfl
set_option maxRecDepth 100000 in
set_option maxHeartbeats 1000000 in
theorem one_cut (s : ByteArray) (p : Nat) (w : World) (hs : s.size ≤ 16777216) (hp : p < s.size) (h1 : (194 ≤ bt s p ∧ bt s p ≤ 223 ∧ s.size < p + 2) ∨ (224 ≤ bt s p ∧ bt s p ≤ 239 ∧ s.size < p + 3) ∨ (240 ≤ bt s p ∧ bt s p ≤ 244 ∧ s.size < p + 4)) : OneSaid s p w := by
  unfold OneSaid
  have hbt := bt_eq s p hp
  have HD : Hid (Utf8.decode s p = (65533, 1)) := by
    apply dbad s p (by omega)
    · intro k; have := k.1; have := k.2.1; have := k.2.2.1; omega
    · intro k; have := k.1; have := k.2.1; have := k.2.2.1; omega
    · intro k; have := k.1; have := k.2.1; have := k.2.2.1; omega
  have i0 : 128 ≤ ((bt s p : Nat) : Int) := by omega
  have i1 : 194 ≤ ((bt s p : Nat) : Int) := by omega
  rcases h1 with ⟨a, b, c⟩ | ⟨a, b, c⟩ | ⟨a, b, c⟩
  · have i2 : ((bt s p : Nat) : Int) ≤ 223 := by omega
    have i3 : (s.size : Int) < (p : Int) + 2 := by omega
    go_enter Try.func23, Try.ntmps23
    go_wp2
    refine bodyPost_ret (v := .agg #[.int .i32 65533, .int .i64 1, .bool true]) (by simp [results, Try.results23, go_sem]) rfl ⟨?_, box_below _ _ _⟩
    rw [badAt_of HD.out, HD.out]; rfl
  · have i2 : 223 < ((bt s p : Nat) : Int) := by omega
    have i4 : 224 ≤ ((bt s p : Nat) : Int) := by omega
    have i5 : ((bt s p : Nat) : Int) ≤ 239 := by omega
    have i3 : (s.size : Int) < (p : Int) + 3 := by omega
    go_enter Try.func23, Try.ntmps23
    go_wp2
    all_goals (refine bodyPost_ret (v := .agg #[.int .i32 65533, .int .i64 1, .bool true]) (by simp [results, Try.results23, go_sem]) rfl ⟨?_, box_below _ _ _⟩; rw [badAt_of HD.out, HD.out]; rfl)
  · have i2 : 223 < ((bt s p : Nat) : Int) := by omega
    have i4 : 224 ≤ ((bt s p : Nat) : Int) := by omega
    have i5 : 239 < ((bt s p : Nat) : Int) := by omega
    have i6 : 240 ≤ ((bt s p : Nat) : Int) := by omega
    have i7 : ((bt s p : Nat) : Int) ≤ 244 := by omega
    have i3 : (s.size : Int) < (p : Int) + 4 := by omega
    go_enter Try.func23, Try.ntmps23
    go_wp2
    all_goals (refine bodyPost_ret (v := .agg #[.int .i32 65533, .int .i64 1, .bool true]) (by simp [results, Try.results23, go_sem]) rfl ⟨?_, box_below _ _ _⟩; rw [badAt_of HD.out, HD.out]; rfl)
theorem one_any (s : ByteArray) (p : Nat) (w : World) (hs : s.size ≤ 16777216) (hp : p < s.size) : OneSaid s p w := by
  by_cases a : bt s p < 128
  · exact one_low s p w hs hp a
  by_cases b : bt s p < 194 ∨ 244 < bt s p
  · exact one_none s p w hs hp (by omega) b
  by_cases c : (194 ≤ bt s p ∧ bt s p ≤ 223 ∧ s.size < p + 2) ∨ (224 ≤ bt s p ∧ bt s p ≤ 239 ∧ s.size < p + 3) ∨ (240 ≤ bt s p ∧ bt s p ≤ 244 ∧ s.size < p + 4)
  · exact one_cut s p w hs hp c
  by_cases d : bt s p ≤ 223
  · exact one2 s p w hs hp (by omega) (by omega) (by omega)
  by_cases d : bt s p ≤ 224
  · exact one3a s p w hs hp (by omega) (by omega) (by omega)
  by_cases d : bt s p ≤ 236
  · exact one3b s p w hs hp (by omega) (by omega) (by omega)
  by_cases d : bt s p ≤ 237
  · exact one3c s p w hs hp (by omega) (by omega) (by omega)
  by_cases d : bt s p ≤ 239
  · exact one3d s p w hs hp (by omega) (by omega) (by omega)
  by_cases d : bt s p ≤ 240
  · exact one4a s p w hs hp (by omega) (by omega) (by omega)
  by_cases d : bt s p ≤ 243
  · exact one4b s p w hs hp (by omega) (by omega) (by omega)
  · exact one4c s p w hs hp (by omega) (by omega) (by omega)
end Go.Proofs.Ytinjlmkdhgaeeaa
