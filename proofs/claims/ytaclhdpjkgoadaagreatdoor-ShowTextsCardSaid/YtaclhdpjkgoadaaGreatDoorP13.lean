/- Parts of the proof: RefC1, Sz. -/
import Derived.Test.YtaclhdpjkgoadaaGreatDoorP12
import Derived.Test.YtaclhdpjkgoadaaGreatDoorP23
set_option maxHeartbeats 2000000
set_option maxRecDepth 100000
namespace Go.Proofs.YtaclhdpjkgoadaaGreatDoor
set_option linter.unusedSimpArgs false
set_option linter.unusedVariables false
section
open Go.RowKit
theorem one2 (s : ByteArray) (p : Nat) (w : World) (hs : s.size ≤ 16777216) (hp : p < s.size) (h1 : 194 ≤ bt s p) (h2 : bt s p ≤ 223) (hn : p + 2 ≤ s.size) : OneSaid s p w := by
 unfold OneSaid
 have hbt := bt_eq s p hp
 have hpn : (p : Int) + 2 ≤ s.size := by omega
 have i0 : 128 ≤ ((bt s p : Nat) : Int) := by omega
 have i1 : 194 ≤ ((bt s p : Nat) : Int) := by omega
 have i2 : ((bt s p : Nat) : Int) ≤ 223 := by omega
 have hand := i32_and31 (bt s p) (by omega) (by omega)
 go_enter Tryz.func10, Tryz.ntmps10
 go_wp2
 go_loopw [9, 10] (fun r k w1 => w1 = w.alloc (.cells #[.int .i32 0, .int .i64 0, .bool false] 34) ∧ ∃ j : Nat, 1 ≤ j ∧ j ≤ 2 ∧ k = .int .i64 j ∧ r = .int .i32 (accR s p 32 j : Nat) ∧ (2 ≤ j → 128 ≤ bt s (p + 1) ∧ bt s (p + 1) ≤ 191) ∧ (3 ≤ j → 128 ≤ bt s (p + 2) ∧ bt s (p + 2) ≤ 191) ∧ (4 ≤ j → 128 ≤ bt s (p + 3) ∧ bt s (p + 3) ≤ 191)) (fun r k w1 => 2 - (intOf k).toNat)
 case atStart => exact ⟨rfl, 1, by omega, by omega, rfl, by simp [accR], fun h => by omega, fun h => by omega, fun h => by omega⟩
 case round =>
   obtain ⟨rfl, j, hj1, hj2, rfl, rfl, g1, g2, g3⟩ := hrel
   have G1 := Lib.hid g1; clear g1
   have G2 := Lib.hid g2; clear g2
   have G3 := Lib.hid g3; clear g3
   clear hand hbt
   by_cases hlt : j < 2
   · have hpj : p + j < s.size := by omega
     have hbt := bt_eq s (p + j) hpj
     have hb256 := bt_lt s (p + j)
     have hand := i64_and63 (bt s (p + j)) (by omega) (by omega)
     have hacc := accR_lt s p 32 (by omega) (by omega) j (by omega)
     have hj64 : (j : Int) < 2 := by omega
     have HN := Lib.hid (accR_succ s p 32 j hj1)
     rcases Nat.lt_or_ge 1 j with hj | hj
     · exfalso; omega
     · obtain rfl : j = 1 := by omega
       by_cases c1 : 128 ≤ bt s (p + 1) ∧ bt s (p + 1) ≤ 191
       · obtain ⟨c1, c2⟩ := c1
         have c1' : 128 ≤ ((bt s (p + 1) : Nat) : Int) := by omega
         have c2' : ((bt s (p + 1) : Nat) : Int) ≤ 191 := by omega
         have c3' : 128 ≤ ((bt s (p + 1) : Nat) : Int) := by omega
         have c4' : ((bt s (p + 1) : Nat) : Int) ≤ 191 := by omega
         go_wp2
         go_roundw
         case rel =>
           refine ⟨trivial, 2, by omega, by omega, rfl, ?_, fun g => ⟨c1, c2⟩, fun g => by omega, fun g => by omega⟩
           rw [HN.out]; go_num
         case measure => simp [intOf]
       · have HD : Hid (Utf8.decode s p = (65533, 1)) := by
           apply dbad s p (by omega)
           · intro k; obtain ⟨_, _, _, _, _⟩ := k; omega
           · intro k; obtain ⟨_, _, _, _, _, _, _, _, _⟩ := k; omega
           · intro k; obtain ⟨_, _, _, _, _, _, _, _, _, _, _⟩ := k; omega
         rcases (show bt s (p + 1) < 128 ∨ (128 ≤ bt s (p + 1) ∧ 191 < bt s (p + 1)) from by omega) with c1 | ⟨c1, c2⟩
         · have c1' : ((bt s (p + 1) : Nat) : Int) < 128 := by omega
           go_wp2
           (refine bodyPost_ret (v := .agg #[.int .i32 65533, .int .i64 1, .bool true]) (by simp [results, Tryz.results10, go_sem]) rfl ⟨?_, box_below _ _ _⟩; rw [badAt_of HD.out, HD.out]; rfl)
         · have c1' : 128 ≤ ((bt s (p + 1) : Nat) : Int) := by omega
           have c2' : 191 < ((bt s (p + 1) : Nat) : Int) := by omega
           go_wp2
           (refine bodyPost_ret (v := .agg #[.int .i32 65533, .int .i64 1, .bool true]) (by simp [results, Tryz.results10, go_sem]) rfl ⟨?_, box_below _ _ _⟩; rw [badAt_of HD.out, HD.out]; rfl)
   · obtain rfl : j = 2 := by omega
     have HE : Hid (Utf8.decode s p = (accR s p 32 2, 2)) := by
       show Utf8.decode s p = (accR s p 32 2, 2)
       have l1 := G1.out (by omega)
       skip
       skip
       rw [decode_bt, dec2 _ _ _ _ _ ⟨by omega, by omega, by omega, by omega, by omega⟩]
       simp only [accR, Nat.add_zero]
       exact Prod.ext (by simp only [Nat.add_assoc, Nat.reduceAdd]; omega) rfl
     go_wp2
     refine bodyPost_ret (v := .agg #[.int .i32 (accR s p 32 2 : Nat), .int .i64 2, .bool false]) (by simp [results, Tryz.results10, go_sem]) rfl ⟨?_, box_below _ _ _⟩
     rw [badAt_not (by rw [HE.out]; simp), HE.out]
     rfl
theorem one3a (s : ByteArray) (p : Nat) (w : World) (hs : s.size ≤ 16777216) (hp : p < s.size) (h1 : 224 ≤ bt s p) (h2 : bt s p ≤ 224) (hn : p + 3 ≤ s.size) : OneSaid s p w := by
 unfold OneSaid
 have hbt := bt_eq s p hp
 have hpn : (p : Int) + 3 ≤ s.size := by omega
 have i0 : 128 ≤ ((bt s p : Nat) : Int) := by omega
 have i1 : 194 ≤ ((bt s p : Nat) : Int) := by omega
 have i2 : 223 < ((bt s p : Nat) : Int) := by omega
 have i3 : 224 ≤ ((bt s p : Nat) : Int) := by omega
 have i4 : ((bt s p : Nat) : Int) ≤ 239 := by omega
 have q224 : (((bt s p : Nat) : Int) == 224) = true := by rw [beq_iff_eq]; omega
 have q237 : (((bt s p : Nat) : Int) == 237) = false := by rw [beq_eq_false_iff_ne]; omega
 have hand := i32_and15 (bt s p) (by omega) (by omega)
 go_enter Tryz.func10, Tryz.ntmps10
 go_wp2
 go_loopw [9, 10] (fun r k w1 => w1 = w.alloc (.cells #[.int .i32 0, .int .i64 0, .bool false] 34) ∧ ∃ j : Nat, 1 ≤ j ∧ j ≤ 3 ∧ k = .int .i64 j ∧ r = .int .i32 (accR s p 16 j : Nat) ∧ (2 ≤ j → 160 ≤ bt s (p + 1) ∧ bt s (p + 1) ≤ 191) ∧ (3 ≤ j → 128 ≤ bt s (p + 2) ∧ bt s (p + 2) ≤ 191) ∧ (4 ≤ j → 128 ≤ bt s (p + 3) ∧ bt s (p + 3) ≤ 191)) (fun r k w1 => 3 - (intOf k).toNat)
 case atStart => exact ⟨rfl, 1, by omega, by omega, rfl, by simp [accR], fun h => by omega, fun h => by omega, fun h => by omega⟩
 case round =>
   obtain ⟨rfl, j, hj1, hj2, rfl, rfl, g1, g2, g3⟩ := hrel
   have G1 := Lib.hid g1; clear g1
   have G2 := Lib.hid g2; clear g2
   have G3 := Lib.hid g3; clear g3
   clear hand hbt
   by_cases hlt : j < 3
   · have hpj : p + j < s.size := by omega
     have hbt := bt_eq s (p + j) hpj
     have hb256 := bt_lt s (p + j)
     have hand := i64_and63 (bt s (p + j)) (by omega) (by omega)
     have hacc := accR_lt s p 16 (by omega) (by omega) j (by omega)
     have hj64 : (j : Int) < 3 := by omega
     have HN := Lib.hid (accR_succ s p 16 j hj1)
     rcases Nat.lt_or_ge 1 j with hj | hj
     · have hjb : ((j : Int) == 1) = false := by rw [beq_eq_false_iff_ne]; omega
       by_cases c1 : 128 ≤ bt s (p + j) ∧ bt s (p + j) ≤ 191
       · obtain ⟨c1, c2⟩ := c1
         have c1' : 128 ≤ ((bt s (p + j) : Nat) : Int) := by omega
         have c2' : ((bt s (p + j) : Nat) : Int) ≤ 191 := by omega
         go_wp2
         go_roundw
         case rel =>
           refine ⟨trivial, j + 1, by omega, by omega, by go_num, ?_, fun g => G1.out (by omega), fun g => ?_, fun g => ?_⟩
           · rw [HN.out]; go_num
           · by_cases e : j = 2
             · subst e; exact ⟨c1, c2⟩
             · exact G2.out (by omega)
           · by_cases e : j = 3
             · subst e; exact ⟨c1, c2⟩
             · exact G3.out (by omega)
         case measure => simp [intOf]; omega
       · have HD : Hid (Utf8.decode s p = (65533, 1)) := by
           apply dbad s p (by omega)
           · intro k; have := k.2.1; omega
           · intro k; obtain ⟨_, _, _, _, _, _, _, _, _⟩ := k
             have e : j = 2 := by omega
             subst e; omega
           · intro k; obtain ⟨_, _, _, _, _, _, _, _, _, _, _⟩ := k
             have e : j = 2 ∨ j = 3 := by omega
             rcases e with rfl | rfl <;> omega
         rcases (show bt s (p + j) < 128 ∨ (128 ≤ bt s (p + j) ∧ 191 < bt s (p + j)) from by omega) with c1 | ⟨c1, c2⟩
         · have c1' : ((bt s (p + j) : Nat) : Int) < 128 := by omega
           go_wp2
           (refine bodyPost_ret (v := .agg #[.int .i32 65533, .int .i64 1, .bool true]) (by simp [results, Tryz.results10, go_sem]) rfl ⟨?_, box_below _ _ _⟩; rw [badAt_of HD.out, HD.out]; rfl)
         · have c1' : 128 ≤ ((bt s (p + j) : Nat) : Int) := by omega
           have c2' : 191 < ((bt s (p + j) : Nat) : Int) := by omega
           go_wp2
           (refine bodyPost_ret (v := .agg #[.int .i32 65533, .int .i64 1, .bool true]) (by simp [results, Tryz.results10, go_sem]) rfl ⟨?_, box_below _ _ _⟩; rw [badAt_of HD.out, HD.out]; rfl)
     · obtain rfl : j = 1 := by omega
       by_cases c1 : 160 ≤ bt s (p + 1) ∧ bt s (p + 1) ≤ 191
       · obtain ⟨c1, c2⟩ := c1
         have c1' : 160 ≤ ((bt s (p + 1) : Nat) : Int) := by omega
         have c2' : ((bt s (p + 1) : Nat) : Int) ≤ 191 := by omega
         have c3' : 128 ≤ ((bt s (p + 1) : Nat) : Int) := by omega
         have c4' : ((bt s (p + 1) : Nat) : Int) ≤ 191 := by omega
         go_wp2
         go_roundw
         case rel =>
           refine ⟨trivial, 2, by omega, by omega, rfl, ?_, fun g => ⟨c1, c2⟩, fun g => by omega, fun g => by omega⟩
           rw [HN.out]; go_num
         case measure => simp [intOf]
       · have HD : Hid (Utf8.decode s p = (65533, 1)) := by
           apply dbad s p (by omega)
           · intro k; obtain ⟨_, _, _, _, _⟩ := k; omega
           · intro k; obtain ⟨_, _, _, _, _, _, _, _, _⟩ := k; omega
           · intro k; obtain ⟨_, _, _, _, _, _, _, _, _, _, _⟩ := k; omega
         rcases (show bt s (p + 1) < 160 ∨ (160 ≤ bt s (p + 1) ∧ 191 < bt s (p + 1)) from by omega) with c1 | ⟨c1, c2⟩
         · have c1' : ((bt s (p + 1) : Nat) : Int) < 160 := by omega
           go_wp2
           (refine bodyPost_ret (v := .agg #[.int .i32 65533, .int .i64 1, .bool true]) (by simp [results, Tryz.results10, go_sem]) rfl ⟨?_, box_below _ _ _⟩; rw [badAt_of HD.out, HD.out]; rfl)
         · have c1' : 160 ≤ ((bt s (p + 1) : Nat) : Int) := by omega
           have c2' : 191 < ((bt s (p + 1) : Nat) : Int) := by omega
           go_wp2
           (refine bodyPost_ret (v := .agg #[.int .i32 65533, .int .i64 1, .bool true]) (by simp [results, Tryz.results10, go_sem]) rfl ⟨?_, box_below _ _ _⟩; rw [badAt_of HD.out, HD.out]; rfl)
   · obtain rfl : j = 3 := by omega
     have HE : Hid (Utf8.decode s p = (accR s p 16 3, 3)) := by
       show Utf8.decode s p = (accR s p 16 3, 3)
       have l1 := G1.out (by omega)
       have l2 := G2.out (by omega)
       skip
       rw [decode_bt, dec3 _ _ _ _ _ ⟨by omega, by omega, by omega, by omega, by omega, by omega, by omega, by omega, by omega⟩]
       simp only [accR, Nat.add_zero]
       exact Prod.ext (by simp only [Nat.add_assoc, Nat.reduceAdd]; omega) rfl
     go_wp2
     refine bodyPost_ret (v := .agg #[.int .i32 (accR s p 16 3 : Nat), .int .i64 3, .bool false]) (by simp [results, Tryz.results10, go_sem]) rfl ⟨?_, box_below _ _ _⟩
     rw [badAt_not (by rw [HE.out]; simp), HE.out]
     rfl
end
section
open Go.RowKit
theorem sz_one (x : Nd) : sizeL [x] = x.size := by simp [sizeL]
theorem sz_mkE (k n : Int) (tx nm ty : ByteArray) (l : List Nd) : (mkE k n tx nm ty l).size = 1 + sizeL l := by simp [mkE, Nd.size]
theorem sz_two (x y : Nd) : sizeL [x, y] = x.size + y.size := by simp [sizeL]
theorem sz_noE : noE.size = 1 := by simp [noE, mkE, Nd.size, sizeL]
theorem sz_hd (l : List Nd) : (hdE l).size ≤ sizeL l ∨ ((hdE l).size = 1 ∧ l = []) := by
 cases l with
 | nil => right; exact ⟨sz_noE, rfl⟩
 | cons x l => left; simp [hdE, sizeL]
theorem sees_len' {s : RS} {p : ByteArray} (h : s.sees 0 p = true) : 1 ≤ s.len := by
 cases hw : s.ws with
 | nil => simp [RS.sees, seesP, hw] at h
 | cons x l => simp [RS.len, hw]
def Md.ext : Md → Nat
 | .loopJ _ e => e.size | .loopF e => e.size | .used _ _ _ l => 1 + sizeL l | .more l => sizeL l | _ => 1
theorem hd_le {l : List Nd} {a b c : Nat} (h : sizeL l + 2 * a ≤ 2 * b + c) (hl : a ≤ b) (hc : 1 ≤ c) : (hdE l).size + 2 * a ≤ 2 * b + c := by
 rcases sz_hd l with h1 | ⟨h1, _⟩ <;> omega
theorem run_size : ∀ (n : Nat) (m : Md) (s : RS), sizeL (run n m s).1 + 2 * (run n m s).2.len ≤ 2 * s.len + m.ext := by
 intro n
 induction n with
 | zero => intro m s; simp [run, sizeL] <;> omega
 | succ n ih =>
   intro m s
   cases m with
   | expr => exact ih _ _
   | joined k =>
     simp only [run]
     have h1 := ih .signed s
     have h2 := run_len n .signed s
     have h3 := hd_le h1 h2 (Nat.le_refl _)
     have h4 := ih (.loopJ k (hdE (run n .signed s).1)) (run n .signed s).2
     simp only [Md.ext] at h3 h4 ⊢
     omega
   | loopJ k e =>
     simp only [run]
     split
     · rename_i t ht
       split
       · have hl : 1 ≤ s.len := by
           cases hw : s.ws with
           | nil => simp [hw, fxP] at ht
           | cons x l => simp [RS.len, hw]
         have h0 := len_skip s
         have h1 := ih (.joined (tight t + 1)) s.skip
         have h2 := run_len n (.joined (tight t + 1)) s.skip
         have h3 := hd_le h1 h2 (Nat.le_refl _)
         have h4 := ih (.loopJ k (mkE 17 0 E0 t E0 [e, hdE (run n (.joined (tight t + 1)) s.skip).1])) (run n (.joined (tight t + 1)) s.skip).2
         simp only [Md.ext, sz_mkE, sz_two] at h3 h4 ⊢
         omega
       · simp only [sz_one, Md.ext]; omega
     · simp only [sz_one, Md.ext]; omega
   | signed =>
     simp only [run]
     split
     · rename_i t ht
       have hl : 1 ≤ s.len := by
         unfold signOf at ht
         split at ht
         · rename_i h; exact sees_len' h
         · split at ht
           · rename_i h; exact sees_len' h
           · split at ht
             · rename_i h; exact sees_len' h
             · cases ht
       have h0 := len_enter s t
       have h1 := ih .signed (s.enter t)
       have h2 := run_len n .signed (s.enter t)
       have h3 := hd_le h1 h2 (Nat.le_refl _)
       have h5 := len_dec (run n .signed (s.enter t)).2
       simp only [sz_one, sz_mkE, Md.ext] at h3 ⊢
       omega
     · exact ih _ _
   | followed =>
     simp only [run]
     have h1 := ih .atom s
     have h2 := run_len n .atom s
     have h3 := hd_le h1 h2 (Nat.le_refl _)
     have h4 := ih (.loopF (hdE (run n .atom s).1)) (run n .atom s).2
     simp only [Md.ext] at h3 h4 ⊢
     omega
   | loopF e =>
     simp only [run]
     have h0 := len_skip s
     have hc := len_class s.skip
     split
     · rename_i h
       have hl := sees_len' h
       have h1 := ih (.used 7 10 E0 [e]) s.skip
       have h2 := run_len n (.used 7 10 E0 [e]) s.skip
       have h3 := hd_le h1 h2 (by simp [Md.ext])
       have h4 := ih (.loopF (hdE (run n (.used 7 10 E0 [e]) s.skip).1)) (run n (.used 7 10 E0 [e]) s.skip).2
       simp only [Md.ext, sz_one] at h3 h4 ⊢
       omega
     · split
       · rename_i h
         have hl := sees_len' h
         have h4 := ih (.loopF (mkE 15 0 E0 E0 s.skip.classV [e])) s.skip.class
         simp only [Md.ext, sz_mkE, sz_one] at h4 ⊢
         omega
       · split
         · rename_i h
           have hl := sees_len' h
           have h4 := ih (.loopF (mkE 16 0 E0 E0 s.skip.classV [e])) s.skip.class
           simp only [Md.ext, sz_mkE, sz_one] at h4 ⊢
           omega
         · simp only [sz_one, Md.ext]; omega
   | used p c ty l =>
     simp only [run]
     have h0 := len_name s
     split
     · rename_i h
       have hl := sees_len' h
       have h1 := ih .args s.name
       simp only [sz_one, sz_mkE, sizeL_append, Md.ext] at h1 ⊢
       omega
     · simp only [sz_one, sz_mkE, Md.ext]; omega
   | args =>
     simp only [run]
     have h0 := len_enter s sOpen
     have h1 := ih .listed (s.enter sOpen)
     have h2 := len_leave (run n .listed (s.enter sOpen)).2 sShut
     simp only [Md.ext] at h1 ⊢
     omega
   | listed =>
     simp only [run]
     split
     · simp [sizeL, Md.ext] <;> omega
     · have h1 := ih .expr s
       have h2 := run_len n .expr s
       have h3 := hd_le h1 h2 (Nat.le_refl _)
       have h4 := ih (.more [hdE (run n .expr s).1]) (run n .expr s).2
       simp only [Md.ext, sz_one] at h3 h4 ⊢
       omega
   | more l =>
     simp only [run]
     split
     · rename_i h
       have hl := sees_len' h
       have h0 := len_skip s
       have h1 := ih .expr s.skip
       have h2 := run_len n .expr s.skip
       have h3 := hd_le h1 h2 (Nat.le_refl _)
       have h4 := ih (.more (l ++ [hdE (run n .expr s.skip).1])) (run n .expr s.skip).2
       simp only [Md.ext, sizeL_append, sz_one] at h3 h4 ⊢
       omega
     · simp only [Md.ext]; omega
   | atom =>
     simp only [run]
     have h0 := len_skip s
     have h1 := len_class s
     have h2 := len_need s.class sCols
     have h3 := len_num s 2147483647
     split
     · simp only [sz_one, sz_mkE, Md.ext, sizeL]; omega
     · simp only [sz_one, sz_mkE, Md.ext, sizeL]; omega
     · have := ih (.used 6 11 E0 []) s; simp only [Md.ext, sizeL] at this ⊢; omega
     · have := ih (.used 9 13 s.classV []) (s.class.need sCols); simp only [Md.ext, sizeL] at this ⊢; omega
     · have := ih .fixed s; simp only [Md.ext] at this ⊢; omega
   | fixed =>
     simp only [run]
     have h0 := len_skip s
     have h1 := len_class s.skip
     have h2 := len_need s.skip sDot
     have h3 := len_enter s sOpen
     have h4 := ih (.used 8 12 E0 []) (s.skip.need sDot)
     have h5 := ih .args s.skip.class
     have h6 := ih .expr (s.enter sOpen)
     have h7 := run_len n .expr (s.enter sOpen)
     have h8 := hd_le h6 h7 (Nat.le_refl _)
     have h9 := len_leave (run n .expr (s.enter sOpen)).2 sShut
     have h10 := len_fail s 3
     simp only [Md.ext, sizeL] at h4 h5 h8
     repeat' split
     all_goals simp only [sz_one, sz_mkE, sz_noE, Md.ext, sizeL]
     all_goals first
       | omega
       | (rename_i h; have hl := sees_len' h; omega)
end
end Go.Proofs.YtaclhdpjkgoadaaGreatDoor
