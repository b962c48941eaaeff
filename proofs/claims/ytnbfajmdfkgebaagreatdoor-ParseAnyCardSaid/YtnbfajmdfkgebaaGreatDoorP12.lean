/- Parts of the proof: Ref, RefB, RefC, RefC4. -/
import Derived.Test.YtnbfajmdfkgebaaGreatDoorShelf
import Derived.Test.YtnbfajmdfkgebaaGreatDoorP0
import Derived.Lib.Hide
import Derived.WalkKit
import Derived.BigCall
import Derived.Deep.QuietTactic
import Derived.BigQuiet
import Derived.Laws.BitsLemmas
set_option maxHeartbeats 2000000
set_option maxRecDepth 100000
namespace Go.Proofs.YtnbfajmdfkgebaaGreatDoor
set_option linter.unusedSimpArgs false
set_option linter.unusedVariables false
section
open Go.RowKit
theorem rsmall_any (r : Int) (w : World) : Calls Tryz.prog 41 #[.int .i32 r] w fun e w' => e = .returned (.bool (small r)) ∧ w = w' := by
 go_enter Tryz.func41, Tryz.ntmps41
 go_wp2
 all_goals (go_ret; exact ⟨by simp [small, *] <;> omega, rfl⟩)
theorem rbig_any (r : Int) (w : World) : Calls Tryz.prog 40 #[.int .i32 r] w fun e w' => e = .returned (.bool (big r)) ∧ w = w' := by
 go_enter Tryz.func40, Tryz.ntmps40
 go_wp2
 all_goals (go_ret; exact ⟨by simp [big, *] <;> omega, rfl⟩)
theorem rdigit_any (r : Int) (w : World) : Calls Tryz.prog 65 #[.int .i32 r] w fun e w' => e = .returned (.bool (digit r)) ∧ w = w' := by
 go_enter Tryz.func65, Tryz.ntmps65
 go_wp2
 all_goals (go_ret; exact ⟨by simp [digit, *] <;> omega, rfl⟩)
def hasText (ss : List ByteArray) (s : ByteArray) : Bool := (ss.map fun x => x.data.toList).contains s.data.toList
theorem hasText_take (ss : List ByteArray) (s : ByteArray) (k : Nat) (h : k < ss.length) : hasText (ss.take (k + 1)) s = (hasText (ss.take k) s || ((ss.getD k ByteArray.empty).toList == s.toList)) := by
 unfold hasText
 have e : ss.getD k ByteArray.empty = ss[k] := by simp [List.getD, h]
 rw [List.take_succ_eq_append_getElem h, List.map_append, List.contains_append, e, Lib.toList_data, Lib.toList_data]
 simp only [List.map_cons, List.map_nil, List.contains_cons, List.contains_nil, Bool.or_false]
 rw [Bool.beq_comm]
theorem hasText_more (ss : List ByteArray) (s : ByteArray) (k : Nat) (h : hasText (ss.take k) s = true) : hasText ss s = true := by
 unfold hasText at *
 rw [List.contains_iff_mem] at *
 rw [List.mem_map] at *
 obtain ⟨a, ha, e⟩ := h
 exact ⟨a, List.mem_of_mem_take ha, e⟩
theorem in_any (b off n cap : Nat) (ss : List ByteArray) (s : ByteArray) (w : World) (hnl : n = ss.length) (hn : ss.length ≤ 1048576) (hc : ∀ k : Nat, k < ss.length → w.cell? ⟨b, off + k, none⟩ = some (.string (ss.getD k ByteArray.empty))) :
   Calls Tryz.prog 66 #[.slice (some ⟨b, off, none⟩) n cap, .string s] w fun e w' => e = .returned (.bool (hasText ss s)) ∧ w = w' := by
 subst hnl
 go_enter Tryz.func66, Tryz.ntmps66
 go_wp2
 go_loop [5] (fun i => ∃ k : Nat, k ≤ ss.length ∧ i = .int .i64 k ∧ hasText (ss.take k) s = false) (fun i => ss.length - (intOf i).toNat)
 case atStart => exact ⟨0, Nat.zero_le _, rfl, by simp [hasText]⟩
 case round =>
   obtain ⟨k, hk, rfl, hh⟩ := hrel
   by_cases hlt : k < ss.length
   · obtain ⟨x, hcell, hst⟩ : ∃ x : ByteArray, w.cell? ⟨b, off + k, none⟩ = some (.string x) ∧ hasText (ss.take (k + 1)) s = (hasText (ss.take k) s || (x.toList == s.toList)) := ⟨_, hc k hlt, hasText_take ss s k hlt⟩
     clear hc
     rw [hh, Bool.false_or] at hst
     cases he : x.toList == s.toList
     · rw [he] at hst
       have HS := Lib.hid hst; clear hst hh
       go_wp2
       go_round
       case rel => exact ⟨k + 1, by omega, by go_num, HS.out⟩
       case measure => simp [intOf]; omega
     · rw [he] at hst
       have HS := Lib.hid (hasText_more ss s _ hst); clear hst hh
       go_wp2
       go_ret
       exact ⟨by rw [HS.out]; rfl, rfl⟩
   · obtain rfl : k = ss.length := by omega
     rw [List.take_length] at hh
     have HS := Lib.hid hh; clear hh
     go_wp2
     go_ret
     exact ⟨by rw [HS.out]; rfl, rfl⟩
theorem cells_lit (w : World) (T : TypeId) (vs : Array Value) (ss : List ByteArray) (h : vs = (ss.map Value.string).toArray) : ∀ k : Nat, k < ss.length → (w.alloc (.cells vs T)).cell? ⟨w.heap.size, 0 + k, none⟩ = some (.string (ss.getD k ByteArray.empty)) := by
 intro k hk
 subst h
 have e : ss.getD k ByteArray.empty = ss[k] := by simp [List.getD, hk]
 rw [e]
 rw [World.cell?_alloc_new]
 simp [hk]
end
section
open Go.RowKit
def keptTexts : List ByteArray := keptWords.map fun l => ⟨l.toArray⟩
theorem rkept_any (s : ByteArray) (w : World) : Calls Tryz.prog 42 #[.string s] w fun e w' => e = .returned (.bool (kept s.data.toList)) ∧ Below w.heap.size w w' := by
 go_enter Tryz.func42, Tryz.ntmps42
 go_wp2_with (go_at_call 66; refine (in_any _ _ _ _ keptTexts _ _ rfl (by decide) (cells_lit _ _ _ _ rfl)).mono ?_; rintro e w' ⟨rfl, rfl⟩)
 go_ret
 exact ⟨rfl, (Below.refl _ w).alloc (Nat.le_refl _) _⟩
def lettersOk (s : ByteArray) (m : Int) : Bool := allAl s 0 && (decide (1 ≤ s.size) && decide ((s.size : Int) ≤ m))
theorem letters_no (s : ByteArray) (m : Int) (p : Nat) (h : p < s.size) (hb : allAl s p = allAl s 0) (ha : alnum (bt s p) = false) : lettersOk s m = false := by
 have := allAl_step s p h
 rw [ha, Bool.false_and, hb] at this
 simp [lettersOk, this]
theorem al_next' (s : ByteArray) (p : Nat) (h : p < s.size) (hb : allAl s p = allAl s 0) (ha : alnum (bt s p) = true) : allAl s (p + 1) = allAl s 0 := by
 have := allAl_step s p h
 rw [ha, Bool.true_and, hb] at this
 exact this.symm
theorem rletters_any (s : ByteArray) (m : Int) (w : World) (hs : s.size ≤ maxLen) (hm0 : 0 ≤ m) (hm1 : m ≤ 1000) : Calls Tryz.prog 39 #[.string s, .int .i64 m] w fun e w' => e = .returned (.bool (lettersOk s m)) ∧ w = w' := by
 unfold maxLen at hs
 go_enter Tryz.func39, Tryz.ntmps39
 go_wp2
 go_loop [5] (fun i => ∃ k : Nat, k ≤ s.size ∧ i = .int .i64 k ∧ allAl s k = allAl s 0) (fun i => s.size - (intOf i).toNat)
 case atStart => exact ⟨0, Nat.zero_le _, rfl, rfl⟩
 case round =>
   obtain ⟨k, hk, rfl, hh⟩ := hrel
   have HH := Lib.hid hh; clear hh
   by_cases hlt : k < s.size
   · have hbt := bt_eq s k hlt
     have hb256 := bt_lt s k
     cases hal : alnum (bt s k)
     · have HR := Lib.hid (letters_no s m k hlt HH.out hal)
       obtain ⟨a1, a2, a3⟩ := al0 hal
       go_wp2_with (first | (go_at_call 41; refine (rsmall_any _ _).mono ?_; rintro e w' ⟨rfl, rfl⟩) | (go_at_call 40; refine (rbig_any _ _).mono ?_; rintro e w' ⟨rfl, rfl⟩) | (go_at_call 65; refine (rdigit_any _ _).mono ?_; rintro e w' ⟨rfl, rfl⟩))
       go_ret
       exact ⟨by rw [HR.out]; rfl, rfl⟩
     · have HR := Lib.hid (al_next' s k hlt HH.out hal)
       rcases al3 hal with a1 | ⟨a1, a2⟩ | ⟨a1, a2, a3⟩
       all_goals clear hal
       all_goals go_wp2_with (first | (go_at_call 41; refine (rsmall_any _ _).mono ?_; rintro e w' ⟨rfl, rfl⟩) | (go_at_call 40; refine (rbig_any _ _).mono ?_; rintro e w' ⟨rfl, rfl⟩) | (go_at_call 65; refine (rdigit_any _ _).mono ?_; rintro e w' ⟨rfl, rfl⟩))
       all_goals go_round
       all_goals first | exact ⟨k + 1, by omega, by go_num, HR.out⟩ | (simp [intOf]; omega)
   · have he := allAl_end s k hlt
     rw [HH.out] at he
     have HE := Lib.hid he; clear he
     go_wp2
     all_goals (go_ret; refine ⟨?_, rfl⟩)
     · have g1 : (1 : Int) ≤ s.size := by assumption
       have g2 : 1 ≤ s.size := by omega
       rw [show lettersOk s m = decide ((s.size : Int) ≤ m) from by simp only [lettersOk, HE.out, Bool.true_and, decide_eq_true g2]]; rfl
     · have g1 : (s.size : Int) < 1 := by assumption
       have g2 : ¬ 1 ≤ s.size := by omega
       rw [show lettersOk s m = false from by simp only [lettersOk, HE.out, Bool.true_and, decide_eq_false g2, Bool.false_and]]; rfl
theorem shape_letters (first : Int → Bool) (s : ByteArray) : shape first s = (lettersOk s 20 && first (bt s 0)) := by
 have e : decide ((s.size : Int) ≤ 20) = decide (s.size ≤ 20) := by rw [decide_eq_decide]; omega
 unfold shape lettersOk
 rw [e]
 cases allAl s 0 <;> cases decide (1 ≤ s.size) <;> cases decide (s.size ≤ 20) <;> cases first (bt s 0) <;> rfl
theorem letters_pos (s : ByteArray) (m : Int) (h : lettersOk s m = true) : 0 < s.size := by
 simp only [lettersOk, Bool.and_eq_true, decide_eq_true_eq] at h; omega
theorem rname_any (s : ByteArray) (w : World) (hs : s.size ≤ maxLen) : Calls Tryz.prog 20 #[.string s] w fun e w' => e = .returned (.bool (nameOk s)) ∧ Below w.heap.size w w' := by
 have hsh := shape_letters small s
 go_enter Tryz.func20, Tryz.ntmps20
 cases h1 : lettersOk s 20
 · have HR : Hid (nameOk s = false) := by show nameOk s = false; rw [nameOk, hsh, h1]; rfl
   clear hsh
   go_wp2_with (first | (go_at_call 39; refine (rletters_any _ 20 _ hs (by omega) (by omega)).mono ?_; rintro e w1 ⟨rfl, rfl⟩))
   go_ret
   exact ⟨by rw [HR.out]; rfl, Below.refl _ _⟩
 · have hpos := letters_pos s 20 h1
   have hbt := bt_eq s 0 hpos
   have hb256 := bt_lt s 0
   cases h2 : small (bt s 0)
   · have HR : Hid (nameOk s = false) := by show nameOk s = false; rw [nameOk, hsh, h1, h2]; rfl
     clear hsh
     go_wp2_with (first | (go_at_call 39; refine (rletters_any _ 20 _ hs (by omega) (by omega)).mono ?_; rintro e w1 ⟨rfl, rfl⟩) | (go_at_call 41; refine (rsmall_any _ _).mono ?_; rintro e w' ⟨rfl, rfl⟩))
     go_ret
     exact ⟨by rw [HR.out]; rfl, Below.refl _ _⟩
   · have HR : Hid (nameOk s = !kept s.data.toList) := by show nameOk s = !kept s.data.toList; rw [nameOk, hsh, h1, h2]; rfl
     clear hsh
     go_wp2_with (first | (go_at_call 39; refine (rletters_any _ 20 _ hs (by omega) (by omega)).mono ?_; rintro e w1 ⟨rfl, rfl⟩) | (go_at_call 41; refine (rsmall_any _ _).mono ?_; rintro e w' ⟨rfl, rfl⟩) | (go_at_call 42; refine (rkept_any _ _).mono ?_; rintro e w1 ⟨rfl, hb⟩))
     go_ret
     exact ⟨by rw [HR.out]; rfl, hb⟩
theorem rclass_any (s : ByteArray) (w : World) (hs : s.size ≤ maxLen) : Calls Tryz.prog 18 #[.string s] w fun e w' => e = .returned (.bool (classOk s)) ∧ w = w' := by
 have hsh := shape_letters big s
 go_enter Tryz.func18, Tryz.ntmps18
 cases h1 : lettersOk s 20
 · have HR : Hid (classOk s = false) := by show classOk s = false; rw [classOk, hsh, h1]; rfl
   clear hsh
   go_wp2_with (first | (go_at_call 39; refine (rletters_any _ 20 _ hs (by omega) (by omega)).mono ?_; rintro e w1 ⟨rfl, rfl⟩))
   go_ret
   exact ⟨by rw [HR.out]; rfl, rfl⟩
 · have hpos := letters_pos s 20 h1
   have hbt := bt_eq s 0 hpos
   have hb256 := bt_lt s 0
   cases h2 : big (bt s 0)
   · have HR : Hid (classOk s = false) := by show classOk s = false; rw [classOk, hsh, h1, h2]; rfl
     clear hsh
     go_wp2_with (first | (go_at_call 39; refine (rletters_any _ 20 _ hs (by omega) (by omega)).mono ?_; rintro e w1 ⟨rfl, rfl⟩) | (go_at_call 40; refine (rbig_any _ _).mono ?_; rintro e w' ⟨rfl, rfl⟩))
     go_ret
     exact ⟨by rw [HR.out]; rfl, rfl⟩
   · have HR : Hid (classOk s = !(s.toList == [83, 116, 114, 105, 110, 103])) := by show classOk s = !(s.toList == [83, 116, 114, 105, 110, 103]); rw [classOk, hsh, h1, h2, Lib.toList_data]; rfl
     clear hsh
     go_wp2_with (first | (go_at_call 39; refine (rletters_any _ 20 _ hs (by omega) (by omega)).mono ?_; rintro e w1 ⟨rfl, rfl⟩) | (go_at_call 40; refine (rbig_any _ _).mono ?_; rintro e w' ⟨rfl, rfl⟩))
     go_ret
     exact ⟨by rw [HR.out]; rfl, rfl⟩
end
section
open Go.RowKit
def accR (s : ByteArray) (p m : Nat) : Nat → Nat
 | 0 => 0
 | 1 => bt s p % m
 | k + 2 => accR s p m (k + 1) * 64 + bt s (p + k + 1) % 64
theorem accR_succ (s : ByteArray) (p m k : Nat) (h : 1 ≤ k) : accR s p m (k + 1) = accR s p m k * 64 + bt s (p + k) % 64 := by
 obtain ⟨j, rfl⟩ : ∃ j, k = j + 1 := ⟨k - 1, by omega⟩
 rfl
theorem accR_lt (s : ByteArray) (p m : Nat) (hm : 0 < m) (hm2 : m ≤ 32) : ∀ k, k ≤ 4 → accR s p m k < 8388608 ∧ (k ≤ 3 → accR s p m k < 131072) ∧ (k ≤ 2 → accR s p m k < 2048) ∧ (k ≤ 1 → accR s p m k < 32) := by
 intro k hk
 have h0 := Nat.mod_lt (bt s p) hm
 have h1 := Nat.mod_lt (bt s (p + 0 + 1)) (show 0 < 64 by decide)
 have h2 := Nat.mod_lt (bt s (p + 1 + 1)) (show 0 < 64 by decide)
 have h3 := Nat.mod_lt (bt s (p + 2 + 1)) (show 0 < 64 by decide)
 match k, hk with
 | 0, _ => simp [accR]
 | 1, _ => simp only [accR]; omega
 | 2, _ => simp only [accR]; omega
 | 3, _ => simp only [accR]; omega
 | 4, _ => simp only [accR]; omega
theorem i64_and63 (x : Int) (h0 : 0 ≤ x) (h1 : x < 256) : bits .and .i64 x 63 = x % 64 := bits_mask .i64 8 (by decide) (fun n a b => by rw [IntKind.wrap_i64]; omega) 6 (by decide) x h0 h1
theorem i32_and31 (x : Int) (h0 : 0 ≤ x) (h1 : x < 256) : bits .and .i32 x 31 = x % 32 := bits_mask .i32 8 (by decide) (fun n a b => by rw [IntKind.wrap_i32]; omega) 5 (by decide) x h0 h1
theorem i32_and15 (x : Int) (h0 : 0 ≤ x) (h1 : x < 256) : bits .and .i32 x 15 = x % 16 := bits_mask .i32 8 (by decide) (fun n a b => by rw [IntKind.wrap_i32]; omega) 4 (by decide) x h0 h1
theorem i32_and7 (x : Int) (h0 : 0 ≤ x) (h1 : x < 256) : bits .and .i32 x 7 = x % 8 := bits_mask .i32 8 (by decide) (fun n a b => by rw [IntKind.wrap_i32]; omega) 3 (by decide) x h0 h1
def OneSaid (s : ByteArray) (p : Nat) (w : World) : Prop :=
 Calls Tryz.prog 67 #[.string s, .int .i64 p] w fun e w' => e = .returned (.agg #[.int .i32 ((Utf8.decode s p).1 : Nat), .int .i64 ((Utf8.decode s p).2 : Nat), .bool (badAt s p)]) ∧ Below w.heap.size w w'
theorem box_below (w : World) (c : Array Value) (T : TypeId) : Below w.heap.size w (w.alloc (.cells c T)) := (Below.refl _ w).alloc (Nat.le_refl _) _
theorem dbad (s : ByteArray) (p : Nat) (h : 128 ≤ bt s p) (h2 : ¬ K2 s p) (h3 : ¬ K3 s p) (h4 : ¬ K4 s p) : Utf8.decode s p = (65533, 1) := by
 rcases dcases s p with ⟨k, _⟩ | ⟨k, _⟩ | ⟨k, _⟩ | ⟨k, _⟩ | ⟨_, _, _, _, e⟩
 · omega
 · exact absurd k h2
 · exact absurd k h3
 · exact absurd k h4
 · exact e
end
section
open Go.RowKit
theorem one4b (s : ByteArray) (p : Nat) (w : World) (hs : s.size ≤ 16777216) (hp : p < s.size) (h1 : 241 ≤ bt s p) (h2 : bt s p ≤ 243) (hn : p + 4 ≤ s.size) : OneSaid s p w := by
 unfold OneSaid
 have hbt := bt_eq s p hp
 have hpn : (p : Int) + 4 ≤ s.size := by omega
 have i0 : 128 ≤ ((bt s p : Nat) : Int) := by omega
 have i1 : 194 ≤ ((bt s p : Nat) : Int) := by omega
 have i2 : 223 < ((bt s p : Nat) : Int) := by omega
 have i3 : 224 ≤ ((bt s p : Nat) : Int) := by omega
 have i4 : 239 < ((bt s p : Nat) : Int) := by omega
 have i5 : 240 ≤ ((bt s p : Nat) : Int) := by omega
 have i6 : ((bt s p : Nat) : Int) ≤ 244 := by omega
 have q240 : (((bt s p : Nat) : Int) == 240) = false := by rw [beq_eq_false_iff_ne]; omega
 have q244 : (((bt s p : Nat) : Int) == 244) = false := by rw [beq_eq_false_iff_ne]; omega
 have hand := i32_and7 (bt s p) (by omega) (by omega)
 go_enter Tryz.func67, Tryz.ntmps67
 go_wp2
 go_loopw [9, 10] (fun r k w1 => w1 = w.alloc (.cells #[.int .i32 0, .int .i64 0, .bool false] 121) ∧ ∃ j : Nat, 1 ≤ j ∧ j ≤ 4 ∧ k = .int .i64 j ∧ r = .int .i32 (accR s p 8 j : Nat) ∧ (2 ≤ j → 128 ≤ bt s (p + 1) ∧ bt s (p + 1) ≤ 191) ∧ (3 ≤ j → 128 ≤ bt s (p + 2) ∧ bt s (p + 2) ≤ 191) ∧ (4 ≤ j → 128 ≤ bt s (p + 3) ∧ bt s (p + 3) ≤ 191)) (fun r k w1 => 4 - (intOf k).toNat)
 case atStart => exact ⟨rfl, 1, by omega, by omega, rfl, by simp [accR], fun h => by omega, fun h => by omega, fun h => by omega⟩
 case round =>
   obtain ⟨rfl, j, hj1, hj2, rfl, rfl, g1, g2, g3⟩ := hrel
   have G1 := Lib.hid g1; clear g1
   have G2 := Lib.hid g2; clear g2
   have G3 := Lib.hid g3; clear g3
   clear hand hbt
   by_cases hlt : j < 4
   · have hpj : p + j < s.size := by omega
     have hbt := bt_eq s (p + j) hpj
     have hb256 := bt_lt s (p + j)
     have hand := i64_and63 (bt s (p + j)) (by omega) (by omega)
     have hacc := accR_lt s p 8 (by omega) (by omega) j (by omega)
     have hj64 : (j : Int) < 4 := by omega
     have HN := Lib.hid (accR_succ s p 8 j hj1)
     rcases Nat.lt_or_ge 1 j with hj | hj
     · have hjb : ((j : Int) == 1) = false := by rw [beq_eq_false_iff_ne]; omega
       by_cases c1 : 128 ≤ bt s (p + j) ∧ bt s (p + j) ≤ 191
       · obtain ⟨c1, c2⟩ := c1
         have c1' : 128 ≤ ((bt s (p + j) : Nat) : Int) := by omega
         have c2' : ((bt s (p + j) : Nat) : Int) ≤ 191 := by omega
         go_wp2
         go_roundw
         case rel =>
           refine ⟨trivial, j + 1, by omega, by omega, by go_num, ?_, fun g => G1.out (by omega), fun g => ?_, fun g => ?_⟩
           · rw [HN.out]; go_num
           · by_cases e : j = 2
             · subst e; exact ⟨c1, c2⟩
             · exact G2.out (by omega)
           · by_cases e : j = 3
             · subst e; exact ⟨c1, c2⟩
             · exact G3.out (by omega)
         case measure => simp [intOf]; omega
       · have HD : Hid (Utf8.decode s p = (65533, 1)) := by
           apply dbad s p (by omega)
           · intro k; have := k.2.1; omega
           · intro k; obtain ⟨_, _, _, _, _, _, _, _, _⟩ := k
             have e : j = 2 := by omega
             subst e; omega
           · intro k; obtain ⟨_, _, _, _, _, _, _, _, _, _, _⟩ := k
             have e : j = 2 ∨ j = 3 := by omega
             rcases e with rfl | rfl <;> omega
         rcases (show bt s (p + j) < 128 ∨ (128 ≤ bt s (p + j) ∧ 191 < bt s (p + j)) from by omega) with c1 | ⟨c1, c2⟩
         · have c1' : ((bt s (p + j) : Nat) : Int) < 128 := by omega
           go_wp2
           (refine bodyPost_ret (v := .agg #[.int .i32 65533, .int .i64 1, .bool true]) (by simp [results, Tryz.results67, go_sem]) rfl ⟨?_, box_below _ _ _⟩; rw [badAt_of HD.out, HD.out]; rfl)
         · have c1' : 128 ≤ ((bt s (p + j) : Nat) : Int) := by omega
           have c2' : 191 < ((bt s (p + j) : Nat) : Int) := by omega
           go_wp2
           (refine bodyPost_ret (v := .agg #[.int .i32 65533, .int .i64 1, .bool true]) (by simp [results, Tryz.results67, go_sem]) rfl ⟨?_, box_below _ _ _⟩; rw [badAt_of HD.out, HD.out]; rfl)
     · obtain rfl : j = 1 := by omega
       by_cases c1 : 128 ≤ bt s (p + 1) ∧ bt s (p + 1) ≤ 191
       · obtain ⟨c1, c2⟩ := c1
         have c1' : 128 ≤ ((bt s (p + 1) : Nat) : Int) := by omega
         have c2' : ((bt s (p + 1) : Nat) : Int) ≤ 191 := by omega
         have c3' : 128 ≤ ((bt s (p + 1) : Nat) : Int) := by omega
         have c4' : ((bt s (p + 1) : Nat) : Int) ≤ 191 := by omega
         go_wp2
         go_roundw
         case rel =>
           refine ⟨trivial, 2, by omega, by omega, rfl, ?_, fun g => ⟨c1, c2⟩, fun g => by omega, fun g => by omega⟩
           rw [HN.out]; go_num
         case measure => simp [intOf]
       · have HD : Hid (Utf8.decode s p = (65533, 1)) := by
           apply dbad s p (by omega)
           · intro k; obtain ⟨_, _, _, _, _⟩ := k; omega
           · intro k; obtain ⟨_, _, _, _, _, _, _, _, _⟩ := k; omega
           · intro k; obtain ⟨_, _, _, _, _, _, _, _, _, _, _⟩ := k; omega
         rcases (show bt s (p + 1) < 128 ∨ (128 ≤ bt s (p + 1) ∧ 191 < bt s (p + 1)) from by omega) with c1 | ⟨c1, c2⟩
         · have c1' : ((bt s (p + 1) : Nat) : Int) < 128 := by omega
           go_wp2
           (refine bodyPost_ret (v := .agg #[.int .i32 65533, .int .i64 1, .bool true]) (by simp [results, Tryz.results67, go_sem]) rfl ⟨?_, box_below _ _ _⟩; rw [badAt_of HD.out, HD.out]; rfl)
         · have c1' : 128 ≤ ((bt s (p + 1) : Nat) : Int) := by omega
           have c2' : 191 < ((bt s (p + 1) : Nat) : Int) := by omega
           go_wp2
           (refine bodyPost_ret (v := .agg #[.int .i32 65533, .int .i64 1, .bool true]) (by simp [results, Tryz.results67, go_sem]) rfl ⟨?_, box_below _ _ _⟩; rw [badAt_of HD.out, HD.out]; rfl)
   · obtain rfl : j = 4 := by omega
     have HE : Hid (Utf8.decode s p = (accR s p 8 4, 4)) := by
       show Utf8.decode s p = (accR s p 8 4, 4)
       have l1 := G1.out (by omega)
       have l2 := G2.out (by omega)
       have l3 := G3.out (by omega)
       rw [decode_bt, dec4 _ _ _ _ _ ⟨by omega, by omega, by omega, by omega, by omega, by omega, by omega, by omega, by omega, by omega, by omega⟩]
       simp only [accR, Nat.add_zero]
       exact Prod.ext (by simp only [Nat.add_assoc, Nat.reduceAdd]; omega) rfl
     go_wp2
     refine bodyPost_ret (v := .agg #[.int .i32 (accR s p 8 4 : Nat), .int .i64 4, .bool false]) (by simp [results, Tryz.results67, go_sem]) rfl ⟨?_, box_below _ _ _⟩
     rw [badAt_not (by rw [HE.out]; simp), HE.out]
     rfl
theorem one4c (s : ByteArray) (p : Nat) (w : World) (hs : s.size ≤ 16777216) (hp : p < s.size) (h1 : 244 ≤ bt s p) (h2 : bt s p ≤ 244) (hn : p + 4 ≤ s.size) : OneSaid s p w := by
 unfold OneSaid
 have hbt := bt_eq s p hp
 have hpn : (p : Int) + 4 ≤ s.size := by omega
 have i0 : 128 ≤ ((bt s p : Nat) : Int) := by omega
 have i1 : 194 ≤ ((bt s p : Nat) : Int) := by omega
 have i2 : 223 < ((bt s p : Nat) : Int) := by omega
 have i3 : 224 ≤ ((bt s p : Nat) : Int) := by omega
 have i4 : 239 < ((bt s p : Nat) : Int) := by omega
 have i5 : 240 ≤ ((bt s p : Nat) : Int) := by omega
 have i6 : ((bt s p : Nat) : Int) ≤ 244 := by omega
 have q240 : (((bt s p : Nat) : Int) == 240) = false := by rw [beq_eq_false_iff_ne]; omega
 have q244 : (((bt s p : Nat) : Int) == 244) = true := by rw [beq_iff_eq]; omega
 have hand := i32_and7 (bt s p) (by omega) (by omega)
 go_enter Tryz.func67, Tryz.ntmps67
 go_wp2
 go_loopw [9, 10] (fun r k w1 => w1 = w.alloc (.cells #[.int .i32 0, .int .i64 0, .bool false] 121) ∧ ∃ j : Nat, 1 ≤ j ∧ j ≤ 4 ∧ k = .int .i64 j ∧ r = .int .i32 (accR s p 8 j : Nat) ∧ (2 ≤ j → 128 ≤ bt s (p + 1) ∧ bt s (p + 1) ≤ 143) ∧ (3 ≤ j → 128 ≤ bt s (p + 2) ∧ bt s (p + 2) ≤ 191) ∧ (4 ≤ j → 128 ≤ bt s (p + 3) ∧ bt s (p + 3) ≤ 191)) (fun r k w1 => 4 - (intOf k).toNat)
 case atStart => exact ⟨rfl, 1, by omega, by omega, rfl, by simp [accR], fun h => by omega, fun h => by omega, fun h => by omega⟩
 case round =>
   obtain ⟨rfl, j, hj1, hj2, rfl, rfl, g1, g2, g3⟩ := hrel
   have G1 := Lib.hid g1; clear g1
   have G2 := Lib.hid g2; clear g2
   have G3 := Lib.hid g3; clear g3
   clear hand hbt
   by_cases hlt : j < 4
   · have hpj : p + j < s.size := by omega
     have hbt := bt_eq s (p + j) hpj
     have hb256 := bt_lt s (p + j)
     have hand := i64_and63 (bt s (p + j)) (by omega) (by omega)
     have hacc := accR_lt s p 8 (by omega) (by omega) j (by omega)
     have hj64 : (j : Int) < 4 := by omega
     have HN := Lib.hid (accR_succ s p 8 j hj1)
     rcases Nat.lt_or_ge 1 j with hj | hj
     · have hjb : ((j : Int) == 1) = false := by rw [beq_eq_false_iff_ne]; omega
       by_cases c1 : 128 ≤ bt s (p + j) ∧ bt s (p + j) ≤ 191
       · obtain ⟨c1, c2⟩ := c1
         have c1' : 128 ≤ ((bt s (p + j) : Nat) : Int) := by omega
         have c2' : ((bt s (p + j) : Nat) : Int) ≤ 191 := by omega
         go_wp2
         go_roundw
         case rel =>
           refine ⟨trivial, j + 1, by omega, by omega, by go_num, ?_, fun g => G1.out (by omega), fun g => ?_, fun g => ?_⟩
           · rw [HN.out]; go_num
           · by_cases e : j = 2
             · subst e; exact ⟨c1, c2⟩
             · exact G2.out (by omega)
           · by_cases e : j = 3
             · subst e; exact ⟨c1, c2⟩
             · exact G3.out (by omega)
         case measure => simp [intOf]; omega
       · have HD : Hid (Utf8.decode s p = (65533, 1)) := by
           apply dbad s p (by omega)
           · intro k; have := k.2.1; omega
           · intro k; obtain ⟨_, _, _, _, _, _, _, _, _⟩ := k
             have e : j = 2 := by omega
             subst e; omega
           · intro k; obtain ⟨_, _, _, _, _, _, _, _, _, _, _⟩ := k
             have e : j = 2 ∨ j = 3 := by omega
             rcases e with rfl | rfl <;> omega
         rcases (show bt s (p + j) < 128 ∨ (128 ≤ bt s (p + j) ∧ 191 < bt s (p + j)) from by omega) with c1 | ⟨c1, c2⟩
         · have c1' : ((bt s (p + j) : Nat) : Int) < 128 := by omega
           go_wp2
           (refine bodyPost_ret (v := .agg #[.int .i32 65533, .int .i64 1, .bool true]) (by simp [results, Tryz.results67, go_sem]) rfl ⟨?_, box_below _ _ _⟩; rw [badAt_of HD.out, HD.out]; rfl)
         · have c1' : 128 ≤ ((bt s (p + j) : Nat) : Int) := by omega
           have c2' : 191 < ((bt s (p + j) : Nat) : Int) := by omega
           go_wp2
           (refine bodyPost_ret (v := .agg #[.int .i32 65533, .int .i64 1, .bool true]) (by simp [results, Tryz.results67, go_sem]) rfl ⟨?_, box_below _ _ _⟩; rw [badAt_of HD.out, HD.out]; rfl)
     · obtain rfl : j = 1 := by omega
       by_cases c1 : 128 ≤ bt s (p + 1) ∧ bt s (p + 1) ≤ 143
       · obtain ⟨c1, c2⟩ := c1
         have c1' : 128 ≤ ((bt s (p + 1) : Nat) : Int) := by omega
         have c2' : ((bt s (p + 1) : Nat) : Int) ≤ 143 := by omega
         have c3' : 128 ≤ ((bt s (p + 1) : Nat) : Int) := by omega
         have c4' : ((bt s (p + 1) : Nat) : Int) ≤ 191 := by omega
         go_wp2
         go_roundw
         case rel =>
           refine ⟨trivial, 2, by omega, by omega, rfl, ?_, fun g => ⟨c1, c2⟩, fun g => by omega, fun g => by omega⟩
           rw [HN.out]; go_num
         case measure => simp [intOf]
       · have HD : Hid (Utf8.decode s p = (65533, 1)) := by
           apply dbad s p (by omega)
           · intro k; obtain ⟨_, _, _, _, _⟩ := k; omega
           · intro k; obtain ⟨_, _, _, _, _, _, _, _, _⟩ := k; omega
           · intro k; obtain ⟨_, _, _, _, _, _, _, _, _, _, _⟩ := k; omega
         rcases (show bt s (p + 1) < 128 ∨ (128 ≤ bt s (p + 1) ∧ 143 < bt s (p + 1)) from by omega) with c1 | ⟨c1, c2⟩
         · have c1' : ((bt s (p + 1) : Nat) : Int) < 128 := by omega
           go_wp2
           (refine bodyPost_ret (v := .agg #[.int .i32 65533, .int .i64 1, .bool true]) (by simp [results, Tryz.results67, go_sem]) rfl ⟨?_, box_below _ _ _⟩; rw [badAt_of HD.out, HD.out]; rfl)
         · have c1' : 128 ≤ ((bt s (p + 1) : Nat) : Int) := by omega
           have c2' : 143 < ((bt s (p + 1) : Nat) : Int) := by omega
           go_wp2
           (refine bodyPost_ret (v := .agg #[.int .i32 65533, .int .i64 1, .bool true]) (by simp [results, Tryz.results67, go_sem]) rfl ⟨?_, box_below _ _ _⟩; rw [badAt_of HD.out, HD.out]; rfl)
   · obtain rfl : j = 4 := by omega
     have HE : Hid (Utf8.decode s p = (accR s p 8 4, 4)) := by
       show Utf8.decode s p = (accR s p 8 4, 4)
       have l1 := G1.out (by omega)
       have l2 := G2.out (by omega)
       have l3 := G3.out (by omega)
       rw [decode_bt, dec4 _ _ _ _ _ ⟨by omega, by omega, by omega, by omega, by omega, by omega, by omega, by omega, by omega, by omega, by omega⟩]
       simp only [accR, Nat.add_zero]
       exact Prod.ext (by simp only [Nat.add_assoc, Nat.reduceAdd]; omega) rfl
     go_wp2
     refine bodyPost_ret (v := .agg #[.int .i32 (accR s p 8 4 : Nat), .int .i64 4, .bool false]) (by simp [results, Tryz.results67, go_sem]) rfl ⟨?_, box_below _ _ _⟩
     rw [badAt_not (by rw [HE.out]; simp), HE.out]
     rfl
end
end Go.Proofs.YtnbfajmdfkgebaaGreatDoor
