/- Parts of the proof: RefC3. -/
import Derived.Test.YtaclhdpjkgoadaaGreatDoorP12
set_option maxHeartbeats 2000000
set_option maxRecDepth 100000
set_option linter.unusedSimpArgs false
set_option linter.unusedVariables false
namespace Go.Proofs.YtaclhdpjkgoadaaGreatDoor
open Go.RowKit
theorem one3d (s : ByteArray) (p : Nat) (w : World) (hs : s.size ≤ 16777216) (hp : p < s.size) (h1 : 238 ≤ bt s p) (h2 : bt s p ≤ 239) (hn : p + 3 ≤ s.size) : OneSaid s p w := by
 unfold OneSaid
 have hbt := bt_eq s p hp
 have hpn : (p : Int) + 3 ≤ s.size := by omega
 have i0 : 128 ≤ ((bt s p : Nat) : Int) := by omega
 have i1 : 194 ≤ ((bt s p : Nat) : Int) := by omega
 have i2 : 223 < ((bt s p : Nat) : Int) := by omega
 have i3 : 224 ≤ ((bt s p : Nat) : Int) := by omega
 have i4 : ((bt s p : Nat) : Int) ≤ 239 := by omega
 have q224 : (((bt s p : Nat) : Int) == 224) = false := by rw [beq_eq_false_iff_ne]; omega
 have q237 : (((bt s p : Nat) : Int) == 237) = false := by rw [beq_eq_false_iff_ne]; omega
 have hand := i32_and15 (bt s p) (by omega) (by omega)
 go_enter Tryz.func10, Tryz.ntmps10
 go_wp2
 go_loopw [9, 10] (fun r k w1 => w1 = w.alloc (.cells #[.int .i32 0, .int .i64 0, .bool false] 34) ∧ ∃ j : Nat, 1 ≤ j ∧ j ≤ 3 ∧ k = .int .i64 j ∧ r = .int .i32 (accR s p 16 j : Nat) ∧ (2 ≤ j → 128 ≤ bt s (p + 1) ∧ bt s (p + 1) ≤ 191) ∧ (3 ≤ j → 128 ≤ bt s (p + 2) ∧ bt s (p + 2) ≤ 191) ∧ (4 ≤ j → 128 ≤ bt s (p + 3) ∧ bt s (p + 3) ≤ 191)) (fun r k w1 => 3 - (intOf k).toNat)
 case atStart => exact ⟨rfl, 1, by omega, by omega, rfl, by simp [accR], fun h => by omega, fun h => by omega, fun h => by omega⟩
 case round =>
   obtain ⟨rfl, j, hj1, hj2, rfl, rfl, g1, g2, g3⟩ := hrel
   have G1 := Lib.hid g1; clear g1
   have G2 := Lib.hid g2; clear g2
   have G3 := Lib.hid g3; clear g3
   clear hand hbt
   by_cases hlt : j < 3
   · have hpj : p + j < s.size := by omega
     have hbt := bt_eq s (p + j) hpj
     have hb256 := bt_lt s (p + j)
     have hand := i64_and63 (bt s (p + j)) (by omega) (by omega)
     have hacc := accR_lt s p 16 (by omega) (by omega) j (by omega)
     have hj64 : (j : Int) < 3 := by omega
     have HN := Lib.hid (accR_succ s p 16 j hj1)
     rcases Nat.lt_or_ge 1 j with hj | hj
     · have hjb : ((j : Int) == 1) = false := by rw [beq_eq_false_iff_ne]; omega
       by_cases c1 : 128 ≤ bt s (p + j) ∧ bt s (p + j) ≤ 191
       · obtain ⟨c1, c2⟩ := c1
         have c1' : 128 ≤ ((bt s (p + j) : Nat) : Int) := by omega
         have c2' : ((bt s (p + j) : Nat) : Int) ≤ 191 := by omega
         go_wp2
         go_roundw
         case rel =>
           refine ⟨trivial, j + 1, by omega, by omega, by go_num, ?_, fun g => G1.out (by omega), fun g => ?_, fun g => ?_⟩
           · rw [HN.out]; go_num
           · by_cases e : j = 2
             · subst e; exact ⟨c1, c2⟩
             · exact G2.out (by omega)
           · by_cases e : j = 3
             · subst e; exact ⟨c1, c2⟩
             · exact G3.out (by omega)
         case measure => simp [intOf]; omega
       · have HD : Hid (Utf8.decode s p = (65533, 1)) := by
           apply dbad s p (by omega)
           · intro k; have := k.2.1; omega
           · intro k; obtain ⟨_, _, _, _, _, _, _, _, _⟩ := k
             have e : j = 2 := by omega
             subst e; omega
           · intro k; obtain ⟨_, _, _, _, _, _, _, _, _, _, _⟩ := k
             have e : j = 2 ∨ j = 3 := by omega
             rcases e with rfl | rfl <;> omega
         rcases (show bt s (p + j) < 128 ∨ (128 ≤ bt s (p + j) ∧ 191 < bt s (p + j)) from by omega) with c1 | ⟨c1, c2⟩
         · have c1' : ((bt s (p + j) : Nat) : Int) < 128 := by omega
           go_wp2
           (refine bodyPost_ret (v := .agg #[.int .i32 65533, .int .i64 1, .bool true]) (by simp [results, Tryz.results10, go_sem]) rfl ⟨?_, box_below _ _ _⟩; rw [badAt_of HD.out, HD.out]; rfl)
         · have c1' : 128 ≤ ((bt s (p + j) : Nat) : Int) := by omega
           have c2' : 191 < ((bt s (p + j) : Nat) : Int) := by omega
           go_wp2
           (refine bodyPost_ret (v := .agg #[.int .i32 65533, .int .i64 1, .bool true]) (by simp [results, Tryz.results10, go_sem]) rfl ⟨?_, box_below _ _ _⟩; rw [badAt_of HD.out, HD.out]; rfl)
     · obtain rfl : j = 1 := by omega
       by_cases c1 : 128 ≤ bt s (p + 1) ∧ bt s (p + 1) ≤ 191
       · obtain ⟨c1, c2⟩ := c1
         have c1' : 128 ≤ ((bt s (p + 1) : Nat) : Int) := by omega
         have c2' : ((bt s (p + 1) : Nat) : Int) ≤ 191 := by omega
         have c3' : 128 ≤ ((bt s (p + 1) : Nat) : Int) := by omega
         have c4' : ((bt s (p + 1) : Nat) : Int) ≤ 191 := by omega
         go_wp2
         go_roundw
         case rel =>
           refine ⟨trivial, 2, by omega, by omega, rfl, ?_, fun g => ⟨c1, c2⟩, fun g => by omega, fun g => by omega⟩
           rw [HN.out]; go_num
         case measure => simp [intOf]
       · have HD : Hid (Utf8.decode s p = (65533, 1)) := by
           apply dbad s p (by omega)
           · intro k; obtain ⟨_, _, _, _, _⟩ := k; omega
           · intro k; obtain ⟨_, _, _, _, _, _, _, _, _⟩ := k; omega
           · intro k; obtain ⟨_, _, _, _, _, _, _, _, _, _, _⟩ := k; omega
         rcases (show bt s (p + 1) < 128 ∨ (128 ≤ bt s (p + 1) ∧ 191 < bt s (p + 1)) from by omega) with c1 | ⟨c1, c2⟩
         · have c1' : ((bt s (p + 1) : Nat) : Int) < 128 := by omega
           go_wp2
           (refine bodyPost_ret (v := .agg #[.int .i32 65533, .int .i64 1, .bool true]) (by simp [results, Tryz.results10, go_sem]) rfl ⟨?_, box_below _ _ _⟩; rw [badAt_of HD.out, HD.out]; rfl)
         · have c1' : 128 ≤ ((bt s (p + 1) : Nat) : Int) := by omega
           have c2' : 191 < ((bt s (p + 1) : Nat) : Int) := by omega
           go_wp2
           (refine bodyPost_ret (v := .agg #[.int .i32 65533, .int .i64 1, .bool true]) (by simp [results, Tryz.results10, go_sem]) rfl ⟨?_, box_below _ _ _⟩; rw [badAt_of HD.out, HD.out]; rfl)
   · obtain rfl : j = 3 := by omega
     have HE : Hid (Utf8.decode s p = (accR s p 16 3, 3)) := by
       show Utf8.decode s p = (accR s p 16 3, 3)
       have l1 := G1.out (by omega)
       have l2 := G2.out (by omega)
       skip
       rw [decode_bt, dec3 _ _ _ _ _ ⟨by omega, by omega, by omega, by omega, by omega, by omega, by omega, by omega, by omega⟩]
       simp only [accR, Nat.add_zero]
       exact Prod.ext (by simp only [Nat.add_assoc, Nat.reduceAdd]; omega) rfl
     go_wp2
     refine bodyPost_ret (v := .agg #[.int .i32 (accR s p 16 3 : Nat), .int .i64 3, .bool false]) (by simp [results, Tryz.results10, go_sem]) rfl ⟨?_, box_below _ _ _⟩
     rw [badAt_not (by rw [HE.out]; simp), HE.out]
     rfl
theorem one4a (s : ByteArray) (p : Nat) (w : World) (hs : s.size ≤ 16777216) (hp : p < s.size) (h1 : 240 ≤ bt s p) (h2 : bt s p ≤ 240) (hn : p + 4 ≤ s.size) : OneSaid s p w := by
 unfold OneSaid
 have hbt := bt_eq s p hp
 have hpn : (p : Int) + 4 ≤ s.size := by omega
 have i0 : 128 ≤ ((bt s p : Nat) : Int) := by omega
 have i1 : 194 ≤ ((bt s p : Nat) : Int) := by omega
 have i2 : 223 < ((bt s p : Nat) : Int) := by omega
 have i3 : 224 ≤ ((bt s p : Nat) : Int) := by omega
 have i4 : 239 < ((bt s p : Nat) : Int) := by omega
 have i5 : 240 ≤ ((bt s p : Nat) : Int) := by omega
 have i6 : ((bt s p : Nat) : Int) ≤ 244 := by omega
 have q240 : (((bt s p : Nat) : Int) == 240) = true := by rw [beq_iff_eq]; omega
 have q244 : (((bt s p : Nat) : Int) == 244) = false := by rw [beq_eq_false_iff_ne]; omega
 have hand := i32_and7 (bt s p) (by omega) (by omega)
 go_enter Tryz.func10, Tryz.ntmps10
 go_wp2
 go_loopw [9, 10] (fun r k w1 => w1 = w.alloc (.cells #[.int .i32 0, .int .i64 0, .bool false] 34) ∧ ∃ j : Nat, 1 ≤ j ∧ j ≤ 4 ∧ k = .int .i64 j ∧ r = .int .i32 (accR s p 8 j : Nat) ∧ (2 ≤ j → 144 ≤ bt s (p + 1) ∧ bt s (p + 1) ≤ 191) ∧ (3 ≤ j → 128 ≤ bt s (p + 2) ∧ bt s (p + 2) ≤ 191) ∧ (4 ≤ j → 128 ≤ bt s (p + 3) ∧ bt s (p + 3) ≤ 191)) (fun r k w1 => 4 - (intOf k).toNat)
 case atStart => exact ⟨rfl, 1, by omega, by omega, rfl, by simp [accR], fun h => by omega, fun h => by omega, fun h => by omega⟩
 case round =>
   obtain ⟨rfl, j, hj1, hj2, rfl, rfl, g1, g2, g3⟩ := hrel
   have G1 := Lib.hid g1; clear g1
   have G2 := Lib.hid g2; clear g2
   have G3 := Lib.hid g3; clear g3
   clear hand hbt
   by_cases hlt : j < 4
   · have hpj : p + j < s.size := by omega
     have hbt := bt_eq s (p + j) hpj
     have hb256 := bt_lt s (p + j)
     have hand := i64_and63 (bt s (p + j)) (by omega) (by omega)
     have hacc := accR_lt s p 8 (by omega) (by omega) j (by omega)
     have hj64 : (j : Int) < 4 := by omega
     have HN := Lib.hid (accR_succ s p 8 j hj1)
     rcases Nat.lt_or_ge 1 j with hj | hj
     · have hjb : ((j : Int) == 1) = false := by rw [beq_eq_false_iff_ne]; omega
       by_cases c1 : 128 ≤ bt s (p + j) ∧ bt s (p + j) ≤ 191
       · obtain ⟨c1, c2⟩ := c1
         have c1' : 128 ≤ ((bt s (p + j) : Nat) : Int) := by omega
         have c2' : ((bt s (p + j) : Nat) : Int) ≤ 191 := by omega
         go_wp2
         go_roundw
         case rel =>
           refine ⟨trivial, j + 1, by omega, by omega, by go_num, ?_, fun g => G1.out (by omega), fun g => ?_, fun g => ?_⟩
           · rw [HN.out]; go_num
           · by_cases e : j = 2
             · subst e; exact ⟨c1, c2⟩
             · exact G2.out (by omega)
           · by_cases e : j = 3
             · subst e; exact ⟨c1, c2⟩
             · exact G3.out (by omega)
         case measure => simp [intOf]; omega
       · have HD : Hid (Utf8.decode s p = (65533, 1)) := by
           apply dbad s p (by omega)
           · intro k; have := k.2.1; omega
           · intro k; obtain ⟨_, _, _, _, _, _, _, _, _⟩ := k
             have e : j = 2 := by omega
             subst e; omega
           · intro k; obtain ⟨_, _, _, _, _, _, _, _, _, _, _⟩ := k
             have e : j = 2 ∨ j = 3 := by omega
             rcases e with rfl | rfl <;> omega
         rcases (show bt s (p + j) < 128 ∨ (128 ≤ bt s (p + j) ∧ 191 < bt s (p + j)) from by omega) with c1 | ⟨c1, c2⟩
         · have c1' : ((bt s (p + j) : Nat) : Int) < 128 := by omega
           go_wp2
           (refine bodyPost_ret (v := .agg #[.int .i32 65533, .int .i64 1, .bool true]) (by simp [results, Tryz.results10, go_sem]) rfl ⟨?_, box_below _ _ _⟩; rw [badAt_of HD.out, HD.out]; rfl)
         · have c1' : 128 ≤ ((bt s (p + j) : Nat) : Int) := by omega
           have c2' : 191 < ((bt s (p + j) : Nat) : Int) := by omega
           go_wp2
           (refine bodyPost_ret (v := .agg #[.int .i32 65533, .int .i64 1, .bool true]) (by simp [results, Tryz.results10, go_sem]) rfl ⟨?_, box_below _ _ _⟩; rw [badAt_of HD.out, HD.out]; rfl)
     · obtain rfl : j = 1 := by omega
       by_cases c1 : 144 ≤ bt s (p + 1) ∧ bt s (p + 1) ≤ 191
       · obtain ⟨c1, c2⟩ := c1
         have c1' : 144 ≤ ((bt s (p + 1) : Nat) : Int) := by omega
         have c2' : ((bt s (p + 1) : Nat) : Int) ≤ 191 := by omega
         have c3' : 128 ≤ ((bt s (p + 1) : Nat) : Int) := by omega
         have c4' : ((bt s (p + 1) : Nat) : Int) ≤ 191 := by omega
         go_wp2
         go_roundw
         case rel =>
           refine ⟨trivial, 2, by omega, by omega, rfl, ?_, fun g => ⟨c1, c2⟩, fun g => by omega, fun g => by omega⟩
           rw [HN.out]; go_num
         case measure => simp [intOf]
       · have HD : Hid (Utf8.decode s p = (65533, 1)) := by
           apply dbad s p (by omega)
           · intro k; obtain ⟨_, _, _, _, _⟩ := k; omega
           · intro k; obtain ⟨_, _, _, _, _, _, _, _, _⟩ := k; omega
           · intro k; obtain ⟨_, _, _, _, _, _, _, _, _, _, _⟩ := k; omega
         rcases (show bt s (p + 1) < 144 ∨ (144 ≤ bt s (p + 1) ∧ 191 < bt s (p + 1)) from by omega) with c1 | ⟨c1, c2⟩
         · have c1' : ((bt s (p + 1) : Nat) : Int) < 144 := by omega
           go_wp2
           (refine bodyPost_ret (v := .agg #[.int .i32 65533, .int .i64 1, .bool true]) (by simp [results, Tryz.results10, go_sem]) rfl ⟨?_, box_below _ _ _⟩; rw [badAt_of HD.out, HD.out]; rfl)
         · have c1' : 144 ≤ ((bt s (p + 1) : Nat) : Int) := by omega
           have c2' : 191 < ((bt s (p + 1) : Nat) : Int) := by omega
           go_wp2
           (refine bodyPost_ret (v := .agg #[.int .i32 65533, .int .i64 1, .bool true]) (by simp [results, Tryz.results10, go_sem]) rfl ⟨?_, box_below _ _ _⟩; rw [badAt_of HD.out, HD.out]; rfl)
   · obtain rfl : j = 4 := by omega
     have HE : Hid (Utf8.decode s p = (accR s p 8 4, 4)) := by
       show Utf8.decode s p = (accR s p 8 4, 4)
       have l1 := G1.out (by omega)
       have l2 := G2.out (by omega)
       have l3 := G3.out (by omega)
       rw [decode_bt, dec4 _ _ _ _ _ ⟨by omega, by omega, by omega, by omega, by omega, by omega, by omega, by omega, by omega, by omega, by omega⟩]
       simp only [accR, Nat.add_zero]
       exact Prod.ext (by simp only [Nat.add_assoc, Nat.reduceAdd]; omega) rfl
     go_wp2
     refine bodyPost_ret (v := .agg #[.int .i32 (accR s p 8 4 : Nat), .int .i64 4, .bool false]) (by simp [results, Tryz.results10, go_sem]) rfl ⟨?_, box_below _ _ _⟩
     rw [badAt_not (by rw [HE.out]; simp), HE.out]
     rfl
end Go.Proofs.YtaclhdpjkgoadaaGreatDoor
