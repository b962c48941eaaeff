/- Parts of the proof: RefC4, RefD, RefE. -/
import Derived.Test.YtaclhdpjkgoadaaGreatDoorP12
import Derived.Test.YtaclhdpjkgoadaaGreatDoorP13
import Derived.Test.YtaclhdpjkgoadaaGreatDoorRefC2
import Derived.Test.YtaclhdpjkgoadaaGreatDoorRefC3
import Derived.WalkSmall
set_option maxHeartbeats 2000000
set_option maxRecDepth 100000
namespace Go.Proofs.YtaclhdpjkgoadaaGreatDoor
set_option linter.unusedSimpArgs false
set_option linter.unusedVariables false
section
open Go.RowKit
theorem one4b (s : ByteArray) (p : Nat) (w : World) (hs : s.size ≤ 16777216) (hp : p < s.size) (h1 : 241 ≤ bt s p) (h2 : bt s p ≤ 243) (hn : p + 4 ≤ s.size) : OneSaid s p w := by
 unfold OneSaid
 have hbt := bt_eq s p hp
 have hpn : (p : Int) + 4 ≤ s.size := by omega
 have i0 : 128 ≤ ((bt s p : Nat) : Int) := by omega
 have i1 : 194 ≤ ((bt s p : Nat) : Int) := by omega
 have i2 : 223 < ((bt s p : Nat) : Int) := by omega
 have i3 : 224 ≤ ((bt s p : Nat) : Int) := by omega
 have i4 : 239 < ((bt s p : Nat) : Int) := by omega
 have i5 : 240 ≤ ((bt s p : Nat) : Int) := by omega
 have i6 : ((bt s p : Nat) : Int) ≤ 244 := by omega
 have q240 : (((bt s p : Nat) : Int) == 240) = false := by rw [beq_eq_false_iff_ne]; omega
 have q244 : (((bt s p : Nat) : Int) == 244) = false := by rw [beq_eq_false_iff_ne]; omega
 have hand := i32_and7 (bt s p) (by omega) (by omega)
 go_enter Tryz.func10, Tryz.ntmps10
 go_wp2
 go_loopw [9, 10] (fun r k w1 => w1 = w.alloc (.cells #[.int .i32 0, .int .i64 0, .bool false] 34) ∧ ∃ j : Nat, 1 ≤ j ∧ j ≤ 4 ∧ k = .int .i64 j ∧ r = .int .i32 (accR s p 8 j : Nat) ∧ (2 ≤ j → 128 ≤ bt s (p + 1) ∧ bt s (p + 1) ≤ 191) ∧ (3 ≤ j → 128 ≤ bt s (p + 2) ∧ bt s (p + 2) ≤ 191) ∧ (4 ≤ j → 128 ≤ bt s (p + 3) ∧ bt s (p + 3) ≤ 191)) (fun r k w1 => 4 - (intOf k).toNat)
 case atStart => exact ⟨rfl, 1, by omega, by omega, rfl, by simp [accR], fun h => by omega, fun h => by omega, fun h => by omega⟩
 case round =>
   obtain ⟨rfl, j, hj1, hj2, rfl, rfl, g1, g2, g3⟩ := hrel
   have G1 := Lib.hid g1; clear g1
   have G2 := Lib.hid g2; clear g2
   have G3 := Lib.hid g3; clear g3
   clear hand hbt
   by_cases hlt : j < 4
   · have hpj : p + j < s.size := by omega
     have hbt := bt_eq s (p + j) hpj
     have hb256 := bt_lt s (p + j)
     have hand := i64_and63 (bt s (p + j)) (by omega) (by omega)
     have hacc := accR_lt s p 8 (by omega) (by omega) j (by omega)
     have hj64 : (j : Int) < 4 := by omega
     have HN := Lib.hid (accR_succ s p 8 j hj1)
     rcases Nat.lt_or_ge 1 j with hj | hj
     · have hjb : ((j : Int) == 1) = false := by rw [beq_eq_false_iff_ne]; omega
       by_cases c1 : 128 ≤ bt s (p + j) ∧ bt s (p + j) ≤ 191
       · obtain ⟨c1, c2⟩ := c1
         have c1' : 128 ≤ ((bt s (p + j) : Nat) : Int) := by omega
         have c2' : ((bt s (p + j) : Nat) : Int) ≤ 191 := by omega
         go_wp2
         go_roundw
         case rel =>
           refine ⟨trivial, j + 1, by omega, by omega, by go_num, ?_, fun g => G1.out (by omega), fun g => ?_, fun g => ?_⟩
           · rw [HN.out]; go_num
           · by_cases e : j = 2
             · subst e; exact ⟨c1, c2⟩
             · exact G2.out (by omega)
           · by_cases e : j = 3
             · subst e; exact ⟨c1, c2⟩
             · exact G3.out (by omega)
         case measure => simp [intOf]; omega
       · have HD : Hid (Utf8.decode s p = (65533, 1)) := by
           apply dbad s p (by omega)
           · intro k; have := k.2.1; omega
           · intro k; obtain ⟨_, _, _, _, _, _, _, _, _⟩ := k
             have e : j = 2 := by omega
             subst e; omega
           · intro k; obtain ⟨_, _, _, _, _, _, _, _, _, _, _⟩ := k
             have e : j = 2 ∨ j = 3 := by omega
             rcases e with rfl | rfl <;> omega
         rcases (show bt s (p + j) < 128 ∨ (128 ≤ bt s (p + j) ∧ 191 < bt s (p + j)) from by omega) with c1 | ⟨c1, c2⟩
         · have c1' : ((bt s (p + j) : Nat) : Int) < 128 := by omega
           go_wp2
           (refine bodyPost_ret (v := .agg #[.int .i32 65533, .int .i64 1, .bool true]) (by simp [results, Tryz.results10, go_sem]) rfl ⟨?_, box_below _ _ _⟩; rw [badAt_of HD.out, HD.out]; rfl)
         · have c1' : 128 ≤ ((bt s (p + j) : Nat) : Int) := by omega
           have c2' : 191 < ((bt s (p + j) : Nat) : Int) := by omega
           go_wp2
           (refine bodyPost_ret (v := .agg #[.int .i32 65533, .int .i64 1, .bool true]) (by simp [results, Tryz.results10, go_sem]) rfl ⟨?_, box_below _ _ _⟩; rw [badAt_of HD.out, HD.out]; rfl)
     · obtain rfl : j = 1 := by omega
       by_cases c1 : 128 ≤ bt s (p + 1) ∧ bt s (p + 1) ≤ 191
       · obtain ⟨c1, c2⟩ := c1
         have c1' : 128 ≤ ((bt s (p + 1) : Nat) : Int) := by omega
         have c2' : ((bt s (p + 1) : Nat) : Int) ≤ 191 := by omega
         have c3' : 128 ≤ ((bt s (p + 1) : Nat) : Int) := by omega
         have c4' : ((bt s (p + 1) : Nat) : Int) ≤ 191 := by omega
         go_wp2
         go_roundw
         case rel =>
           refine ⟨trivial, 2, by omega, by omega, rfl, ?_, fun g => ⟨c1, c2⟩, fun g => by omega, fun g => by omega⟩
           rw [HN.out]; go_num
         case measure => simp [intOf]
       · have HD : Hid (Utf8.decode s p = (65533, 1)) := by
           apply dbad s p (by omega)
           · intro k; obtain ⟨_, _, _, _, _⟩ := k; omega
           · intro k; obtain ⟨_, _, _, _, _, _, _, _, _⟩ := k; omega
           · intro k; obtain ⟨_, _, _, _, _, _, _, _, _, _, _⟩ := k; omega
         rcases (show bt s (p + 1) < 128 ∨ (128 ≤ bt s (p + 1) ∧ 191 < bt s (p + 1)) from by omega) with c1 | ⟨c1, c2⟩
         · have c1' : ((bt s (p + 1) : Nat) : Int) < 128 := by omega
           go_wp2
           (refine bodyPost_ret (v := .agg #[.int .i32 65533, .int .i64 1, .bool true]) (by simp [results, Tryz.results10, go_sem]) rfl ⟨?_, box_below _ _ _⟩; rw [badAt_of HD.out, HD.out]; rfl)
         · have c1' : 128 ≤ ((bt s (p + 1) : Nat) : Int) := by omega
           have c2' : 191 < ((bt s (p + 1) : Nat) : Int) := by omega
           go_wp2
           (refine bodyPost_ret (v := .agg #[.int .i32 65533, .int .i64 1, .bool true]) (by simp [results, Tryz.results10, go_sem]) rfl ⟨?_, box_below _ _ _⟩; rw [badAt_of HD.out, HD.out]; rfl)
   · obtain rfl : j = 4 := by omega
     have HE : Hid (Utf8.decode s p = (accR s p 8 4, 4)) := by
       show Utf8.decode s p = (accR s p 8 4, 4)
       have l1 := G1.out (by omega)
       have l2 := G2.out (by omega)
       have l3 := G3.out (by omega)
       rw [decode_bt, dec4 _ _ _ _ _ ⟨by omega, by omega, by omega, by omega, by omega, by omega, by omega, by omega, by omega, by omega, by omega⟩]
       simp only [accR, Nat.add_zero]
       exact Prod.ext (by simp only [Nat.add_assoc, Nat.reduceAdd]; omega) rfl
     go_wp2
     refine bodyPost_ret (v := .agg #[.int .i32 (accR s p 8 4 : Nat), .int .i64 4, .bool false]) (by simp [results, Tryz.results10, go_sem]) rfl ⟨?_, box_below _ _ _⟩
     rw [badAt_not (by rw [HE.out]; simp), HE.out]
     rfl
theorem one4c (s : ByteArray) (p : Nat) (w : World) (hs : s.size ≤ 16777216) (hp : p < s.size) (h1 : 244 ≤ bt s p) (h2 : bt s p ≤ 244) (hn : p + 4 ≤ s.size) : OneSaid s p w := by
 unfold OneSaid
 have hbt := bt_eq s p hp
 have hpn : (p : Int) + 4 ≤ s.size := by omega
 have i0 : 128 ≤ ((bt s p : Nat) : Int) := by omega
 have i1 : 194 ≤ ((bt s p : Nat) : Int) := by omega
 have i2 : 223 < ((bt s p : Nat) : Int) := by omega
 have i3 : 224 ≤ ((bt s p : Nat) : Int) := by omega
 have i4 : 239 < ((bt s p : Nat) : Int) := by omega
 have i5 : 240 ≤ ((bt s p : Nat) : Int) := by omega
 have i6 : ((bt s p : Nat) : Int) ≤ 244 := by omega
 have q240 : (((bt s p : Nat) : Int) == 240) = false := by rw [beq_eq_false_iff_ne]; omega
 have q244 : (((bt s p : Nat) : Int) == 244) = true := by rw [beq_iff_eq]; omega
 have hand := i32_and7 (bt s p) (by omega) (by omega)
 go_enter Tryz.func10, Tryz.ntmps10
 go_wp2
 go_loopw [9, 10] (fun r k w1 => w1 = w.alloc (.cells #[.int .i32 0, .int .i64 0, .bool false] 34) ∧ ∃ j : Nat, 1 ≤ j ∧ j ≤ 4 ∧ k = .int .i64 j ∧ r = .int .i32 (accR s p 8 j : Nat) ∧ (2 ≤ j → 128 ≤ bt s (p + 1) ∧ bt s (p + 1) ≤ 143) ∧ (3 ≤ j → 128 ≤ bt s (p + 2) ∧ bt s (p + 2) ≤ 191) ∧ (4 ≤ j → 128 ≤ bt s (p + 3) ∧ bt s (p + 3) ≤ 191)) (fun r k w1 => 4 - (intOf k).toNat)
 case atStart => exact ⟨rfl, 1, by omega, by omega, rfl, by simp [accR], fun h => by omega, fun h => by omega, fun h => by omega⟩
 case round =>
   obtain ⟨rfl, j, hj1, hj2, rfl, rfl, g1, g2, g3⟩ := hrel
   have G1 := Lib.hid g1; clear g1
   have G2 := Lib.hid g2; clear g2
   have G3 := Lib.hid g3; clear g3
   clear hand hbt
   by_cases hlt : j < 4
   · have hpj : p + j < s.size := by omega
     have hbt := bt_eq s (p + j) hpj
     have hb256 := bt_lt s (p + j)
     have hand := i64_and63 (bt s (p + j)) (by omega) (by omega)
     have hacc := accR_lt s p 8 (by omega) (by omega) j (by omega)
     have hj64 : (j : Int) < 4 := by omega
     have HN := Lib.hid (accR_succ s p 8 j hj1)
     rcases Nat.lt_or_ge 1 j with hj | hj
     · have hjb : ((j : Int) == 1) = false := by rw [beq_eq_false_iff_ne]; omega
       by_cases c1 : 128 ≤ bt s (p + j) ∧ bt s (p + j) ≤ 191
       · obtain ⟨c1, c2⟩ := c1
         have c1' : 128 ≤ ((bt s (p + j) : Nat) : Int) := by omega
         have c2' : ((bt s (p + j) : Nat) : Int) ≤ 191 := by omega
         go_wp2
         go_roundw
         case rel =>
           refine ⟨trivial, j + 1, by omega, by omega, by go_num, ?_, fun g => G1.out (by omega), fun g => ?_, fun g => ?_⟩
           · rw [HN.out]; go_num
           · by_cases e : j = 2
             · subst e; exact ⟨c1, c2⟩
             · exact G2.out (by omega)
           · by_cases e : j = 3
             · subst e; exact ⟨c1, c2⟩
             · exact G3.out (by omega)
         case measure => simp [intOf]; omega
       · have HD : Hid (Utf8.decode s p = (65533, 1)) := by
           apply dbad s p (by omega)
           · intro k; have := k.2.1; omega
           · intro k; obtain ⟨_, _, _, _, _, _, _, _, _⟩ := k
             have e : j = 2 := by omega
             subst e; omega
           · intro k; obtain ⟨_, _, _, _, _, _, _, _, _, _, _⟩ := k
             have e : j = 2 ∨ j = 3 := by omega
             rcases e with rfl | rfl <;> omega
         rcases (show bt s (p + j) < 128 ∨ (128 ≤ bt s (p + j) ∧ 191 < bt s (p + j)) from by omega) with c1 | ⟨c1, c2⟩
         · have c1' : ((bt s (p + j) : Nat) : Int) < 128 := by omega
           go_wp2
           (refine bodyPost_ret (v := .agg #[.int .i32 65533, .int .i64 1, .bool true]) (by simp [results, Tryz.results10, go_sem]) rfl ⟨?_, box_below _ _ _⟩; rw [badAt_of HD.out, HD.out]; rfl)
         · have c1' : 128 ≤ ((bt s (p + j) : Nat) : Int) := by omega
           have c2' : 191 < ((bt s (p + j) : Nat) : Int) := by omega
           go_wp2
           (refine bodyPost_ret (v := .agg #[.int .i32 65533, .int .i64 1, .bool true]) (by simp [results, Tryz.results10, go_sem]) rfl ⟨?_, box_below _ _ _⟩; rw [badAt_of HD.out, HD.out]; rfl)
     · obtain rfl : j = 1 := by omega
       by_cases c1 : 128 ≤ bt s (p + 1) ∧ bt s (p + 1) ≤ 143
       · obtain ⟨c1, c2⟩ := c1
         have c1' : 128 ≤ ((bt s (p + 1) : Nat) : Int) := by omega
         have c2' : ((bt s (p + 1) : Nat) : Int) ≤ 143 := by omega
         have c3' : 128 ≤ ((bt s (p + 1) : Nat) : Int) := by omega
         have c4' : ((bt s (p + 1) : Nat) : Int) ≤ 191 := by omega
         go_wp2
         go_roundw
         case rel =>
           refine ⟨trivial, 2, by omega, by omega, rfl, ?_, fun g => ⟨c1, c2⟩, fun g => by omega, fun g => by omega⟩
           rw [HN.out]; go_num
         case measure => simp [intOf]
       · have HD : Hid (Utf8.decode s p = (65533, 1)) := by
           apply dbad s p (by omega)
           · intro k; obtain ⟨_, _, _, _, _⟩ := k; omega
           · intro k; obtain ⟨_, _, _, _, _, _, _, _, _⟩ := k; omega
           · intro k; obtain ⟨_, _, _, _, _, _, _, _, _, _, _⟩ := k; omega
         rcases (show bt s (p + 1) < 128 ∨ (128 ≤ bt s (p + 1) ∧ 143 < bt s (p + 1)) from by omega) with c1 | ⟨c1, c2⟩
         · have c1' : ((bt s (p + 1) : Nat) : Int) < 128 := by omega
           go_wp2
           (refine bodyPost_ret (v := .agg #[.int .i32 65533, .int .i64 1, .bool true]) (by simp [results, Tryz.results10, go_sem]) rfl ⟨?_, box_below _ _ _⟩; rw [badAt_of HD.out, HD.out]; rfl)
         · have c1' : 128 ≤ ((bt s (p + 1) : Nat) : Int) := by omega
           have c2' : 143 < ((bt s (p + 1) : Nat) : Int) := by omega
           go_wp2
           (refine bodyPost_ret (v := .agg #[.int .i32 65533, .int .i64 1, .bool true]) (by simp [results, Tryz.results10, go_sem]) rfl ⟨?_, box_below _ _ _⟩; rw [badAt_of HD.out, HD.out]; rfl)
   · obtain rfl : j = 4 := by omega
     have HE : Hid (Utf8.decode s p = (accR s p 8 4, 4)) := by
       show Utf8.decode s p = (accR s p 8 4, 4)
       have l1 := G1.out (by omega)
       have l2 := G2.out (by omega)
       have l3 := G3.out (by omega)
       rw [decode_bt, dec4 _ _ _ _ _ ⟨by omega, by omega, by omega, by omega, by omega, by omega, by omega, by omega, by omega, by omega, by omega⟩]
       simp only [accR, Nat.add_zero]
       exact Prod.ext (by simp only [Nat.add_assoc, Nat.reduceAdd]; omega) rfl
     go_wp2
     refine bodyPost_ret (v := .agg #[.int .i32 (accR s p 8 4 : Nat), .int .i64 4, .bool false]) (by simp [results, Tryz.results10, go_sem]) rfl ⟨?_, box_below _ _ _⟩
     rw [badAt_not (by rw [HE.out]; simp), HE.out]
     rfl
end
section
open Go.RowKit
theorem one_low (s : ByteArray) (p : Nat) (w : World) (hs : s.size ≤ 16777216) (hp : p < s.size) (h1 : bt s p < 128) : OneSaid s p w := by
 unfold OneSaid
 have hbt := bt_eq s p hp
 have hd := low_of s p h1
 have hb := badAt_low s p h1
 have HD := Lib.hid hd; clear hd
 have HB := Lib.hid hb; clear hb
 have i1 : ((bt s p : Nat) : Int) < 128 := by omega
 go_enter Tryz.func10, Tryz.ntmps10
 go_wp2
 refine bodyPost_ret (v := .agg #[.int .i32 (bt s p : Nat), .int .i64 1, .bool false]) (by simp [results, Tryz.results10, go_sem]) rfl ⟨?_, box_below _ _ _⟩
 rw [HB.out, HD.out]; rfl
theorem one_none (s : ByteArray) (p : Nat) (w : World) (hs : s.size ≤ 16777216) (hp : p < s.size) (h1 : 128 ≤ bt s p) (h2 : bt s p < 194 ∨ 244 < bt s p) : OneSaid s p w := by
 unfold OneSaid
 have hbt := bt_eq s p hp
 have HD : Hid (Utf8.decode s p = (65533, 1)) := by
   apply dbad s p h1
   · intro k; have := k.1; have := k.2.1; omega
   · intro k; have := k.1; have := k.2.1; omega
   · intro k; have := k.1; have := k.2.1; omega
 have i1 : 128 ≤ ((bt s p : Nat) : Int) := by omega
 rcases h2 with h2 | h2
 · have i2 : ((bt s p : Nat) : Int) < 194 := by omega
   have i3 : ((bt s p : Nat) : Int) < 224 := by omega
   have i4 : ((bt s p : Nat) : Int) < 240 := by omega
   go_enter Tryz.func10, Tryz.ntmps10
   go_wp2
   refine bodyPost_ret (v := .agg #[.int .i32 65533, .int .i64 1, .bool true]) (by simp [results, Tryz.results10, go_sem]) rfl ⟨?_, box_below _ _ _⟩
   rw [badAt_of HD.out, HD.out]; rfl
 · have i2 : 194 ≤ ((bt s p : Nat) : Int) := by omega
   have i3 : 223 < ((bt s p : Nat) : Int) := by omega
   have i4 : 224 ≤ ((bt s p : Nat) : Int) := by omega
   have i5 : 239 < ((bt s p : Nat) : Int) := by omega
   have i6 : 240 ≤ ((bt s p : Nat) : Int) := by omega
   have i7 : 244 < ((bt s p : Nat) : Int) := by omega
   go_enter Tryz.func10, Tryz.ntmps10
   go_wp2
   refine bodyPost_ret (v := .agg #[.int .i32 65533, .int .i64 1, .bool true]) (by simp [results, Tryz.results10, go_sem]) rfl ⟨?_, box_below _ _ _⟩
   rw [badAt_of HD.out, HD.out]; rfl
theorem one_cut (s : ByteArray) (p : Nat) (w : World) (hs : s.size ≤ 16777216) (hp : p < s.size) (h1 : (194 ≤ bt s p ∧ bt s p ≤ 223 ∧ s.size < p + 2) ∨ (224 ≤ bt s p ∧ bt s p ≤ 239 ∧ s.size < p + 3) ∨ (240 ≤ bt s p ∧ bt s p ≤ 244 ∧ s.size < p + 4)) : OneSaid s p w := by
 unfold OneSaid
 have hbt := bt_eq s p hp
 have HD : Hid (Utf8.decode s p = (65533, 1)) := by
   apply dbad s p (by omega)
   · intro k; have := k.1; have := k.2.1; have := k.2.2.1; omega
   · intro k; have := k.1; have := k.2.1; have := k.2.2.1; omega
   · intro k; have := k.1; have := k.2.1; have := k.2.2.1; omega
 have i0 : 128 ≤ ((bt s p : Nat) : Int) := by omega
 have i1 : 194 ≤ ((bt s p : Nat) : Int) := by omega
 rcases h1 with ⟨a, b, c⟩ | ⟨a, b, c⟩ | ⟨a, b, c⟩
 · have i2 : ((bt s p : Nat) : Int) ≤ 223 := by omega
   have i3 : (s.size : Int) < (p : Int) + 2 := by omega
   go_enter Tryz.func10, Tryz.ntmps10
   go_wp2
   refine bodyPost_ret (v := .agg #[.int .i32 65533, .int .i64 1, .bool true]) (by simp [results, Tryz.results10, go_sem]) rfl ⟨?_, box_below _ _ _⟩
   rw [badAt_of HD.out, HD.out]; rfl
 · have i2 : 223 < ((bt s p : Nat) : Int) := by omega
   have i4 : 224 ≤ ((bt s p : Nat) : Int) := by omega
   have i5 : ((bt s p : Nat) : Int) ≤ 239 := by omega
   have i3 : (s.size : Int) < (p : Int) + 3 := by omega
   go_enter Tryz.func10, Tryz.ntmps10
   go_wp2
   all_goals (refine bodyPost_ret (v := .agg #[.int .i32 65533, .int .i64 1, .bool true]) (by simp [results, Tryz.results10, go_sem]) rfl ⟨?_, box_below _ _ _⟩; rw [badAt_of HD.out, HD.out]; rfl)
 · have i2 : 223 < ((bt s p : Nat) : Int) := by omega
   have i4 : 224 ≤ ((bt s p : Nat) : Int) := by omega
   have i5 : 239 < ((bt s p : Nat) : Int) := by omega
   have i6 : 240 ≤ ((bt s p : Nat) : Int) := by omega
   have i7 : ((bt s p : Nat) : Int) ≤ 244 := by omega
   have i3 : (s.size : Int) < (p : Int) + 4 := by omega
   go_enter Tryz.func10, Tryz.ntmps10
   go_wp2
   all_goals (refine bodyPost_ret (v := .agg #[.int .i32 65533, .int .i64 1, .bool true]) (by simp [results, Tryz.results10, go_sem]) rfl ⟨?_, box_below _ _ _⟩; rw [badAt_of HD.out, HD.out]; rfl)
theorem one_any (s : ByteArray) (p : Nat) (w : World) (hs : s.size ≤ 16777216) (hp : p < s.size) : OneSaid s p w := by
 by_cases a : bt s p < 128
 · exact one_low s p w hs hp a
 by_cases b : bt s p < 194 ∨ 244 < bt s p
 · exact one_none s p w hs hp (by omega) b
 by_cases c : (194 ≤ bt s p ∧ bt s p ≤ 223 ∧ s.size < p + 2) ∨ (224 ≤ bt s p ∧ bt s p ≤ 239 ∧ s.size < p + 3) ∨ (240 ≤ bt s p ∧ bt s p ≤ 244 ∧ s.size < p + 4)
 · exact one_cut s p w hs hp c
 by_cases d : bt s p ≤ 223
 · exact one2 s p w hs hp (by omega) (by omega) (by omega)
 by_cases d : bt s p ≤ 224
 · exact one3a s p w hs hp (by omega) (by omega) (by omega)
 by_cases d : bt s p ≤ 236
 · exact one3b s p w hs hp (by omega) (by omega) (by omega)
 by_cases d : bt s p ≤ 237
 · exact one3c s p w hs hp (by omega) (by omega) (by omega)
 by_cases d : bt s p ≤ 239
 · exact one3d s p w hs hp (by omega) (by omega) (by omega)
 by_cases d : bt s p ≤ 240
 · exact one4a s p w hs hp (by omega) (by omega) (by omega)
 by_cases d : bt s p ≤ 243
 · exact one4b s p w hs hp (by omega) (by omega) (by omega)
 · exact one4c s p w hs hp (by omega) (by omega) (by omega)
end
section
open Go.RowKit
theorem ba_of (s : ByteArray) (l : List UInt8) (h : s.data.toList = l) : s = ⟨l.toArray⟩ := by
 cases s with | mk d => subst h; simp
theorem rbad_any (s : ByteArray) (w : World) (hs : s.size ≤ 16777216) : Calls Tryz.prog 4 #[.string s] w fun e w' => e = .returned (.int .i64 (bad s)) ∧ Below w.heap.size w w' := by
 go_enter Tryz.func4, Tryz.ntmps4
 go_wp2
 go_loopw [3] (fun v wr => ∃ p : Nat, v = .int .i64 p ∧ p ≤ s.size ∧ badFrom s p = bad s ∧ Below w.heap.size w wr) (fun v wr => s.size - (intOf v).toNat)
 case atStart => exact ⟨0, rfl, Nat.zero_le _, rfl, Below.refl _ _⟩
 case round =>
   obtain ⟨p, rfl, hp, hb, hbw⟩ := hrel
   have hsz := hbw.size
   by_cases hlt : p < s.size
   · have hw := wid_pos s p
     have hwl := wid_le s p hlt
     cases hB : badAt s p
     · have HS := Lib.hid ((badFrom_step s p hlt hB).symm.trans hb); clear hb
       go_wp2_with (go_at_call 10; refine (one_any s p _ hs hlt).mono ?_; rintro e w1 ⟨rfl, hb1⟩)
       have hb2 := (hbw.trans (hb1.mono hsz)).alloc (Nat.le_trans hsz hb1.size) (.cells #[.int .i32 ((Utf8.decode s p).1 : Nat), .int .i64 ((Utf8.decode s p).2 : Nat), .bool (badAt s p)] 34)
       rw [hB] at hb2
       go_roundw
       case rel => exact ⟨p + (Utf8.decode s p).2, by go_num, hwl, HS.out, hb2⟩
       case measure => simp [intOf]; omega
     · have HS := Lib.hid ((badFrom_at s p hlt hB).symm.trans hb); clear hb
       go_wp2_with (go_at_call 10; refine (one_any s p _ hs hlt).mono ?_; rintro e w1 ⟨rfl, hb1⟩)
       have hb2 := (hbw.trans (hb1.mono hsz)).alloc (Nat.le_trans hsz hb1.size) (.cells #[.int .i32 ((Utf8.decode s p).1 : Nat), .int .i64 ((Utf8.decode s p).2 : Nat), .bool (badAt s p)] 34)
       rw [hB] at hb2
       go_ret
       exact ⟨by rw [← HS.out]; rfl, hb2⟩
   · have HS := Lib.hid (hb.symm.trans (badFrom_end s p hlt)); clear hb
     go_wp2
     go_ret
     exact ⟨by rw [HS.out]; rfl, hbw⟩
end
end Go.Proofs.YtaclhdpjkgoadaaGreatDoor
