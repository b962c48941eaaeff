/- Parts of the proof: WordA, WordB, WordC, WordD, WordE. -/
import Derived.Test.YtnbfajmdfkgebaaGreatDoorP6
import Derived.Test.YtnbfajmdfkgebaaGreatDoorP7
import Derived.Test.YtnbfajmdfkgebaaGreatDoorP0
set_option maxHeartbeats 2000000
namespace Go.Proofs.YtnbfajmdfkgebaaGreatDoor
set_option linter.unusedSimpArgs false
set_option linter.unusedVariables false
section
open Go.RowKit
theorem blank_any (r : Int) (w : World) : Calls Tryz.prog 103 #[.int .i32 r] w fun e w' => e = .returned (.bool (blankI r)) ∧ w = w' := by
 go_enter Tryz.func103, Tryz.ntmps103
 go_wp2
 all_goals (go_ret; refine ⟨?_, rfl⟩)
 all_goals simp_all [blankI, Bool.or_assoc]
theorem inName_any (r : Int) (w : World) : Calls Tryz.prog 107 #[.int .i32 r] w fun e w' => e = .returned (.bool (alnum r)) ∧ w = w' := by
 have e : alnum r = (small r || (big r || digit r)) := rfl
 go_enter Tryz.func107, Tryz.ntmps107
 rw [e]; clear e
 cases h1 : small r
 · cases h2 : big r
   · go_wp2_with (first | (go_at_call 113; refine (small_any _ _).mono ?_; rintro e w' ⟨rfl, rfl⟩) | (go_at_call 115; refine (big_any _ _).mono ?_; rintro e w' ⟨rfl, rfl⟩) | (go_at_call 105; refine (digit_any _ _).mono ?_; rintro e w' ⟨rfl, rfl⟩))
     go_ret
     exact ⟨by simp, rfl⟩
   · go_wp2_with (first | (go_at_call 113; refine (small_any _ _).mono ?_; rintro e w' ⟨rfl, rfl⟩) | (go_at_call 115; refine (big_any _ _).mono ?_; rintro e w' ⟨rfl, rfl⟩) | (go_at_call 105; refine (digit_any _ _).mono ?_; rintro e w' ⟨rfl, rfl⟩))
     go_ret
     exact ⟨by simp, rfl⟩
 · go_wp2_with (first | (go_at_call 113; refine (small_any _ _).mono ?_; rintro e w' ⟨rfl, rfl⟩) | (go_at_call 115; refine (big_any _ _).mono ?_; rintro e w' ⟨rfl, rfl⟩) | (go_at_call 105; refine (digit_any _ _).mono ?_; rintro e w' ⟨rfl, rfl⟩))
   go_ret
   exact ⟨by simp, rfl⟩
theorem reach_digit (s : ByteArray) (w : World) (hs : s.size ≤ maxLen) : Calls Tryz.prog 104 #[.string s, .func (.func 105) #[] #[]] w fun e w' => e = .returned (.int .i64 (spanL digit s.data.toList : Nat)) ∧ Below w.heap.size w w' := by
 unfold maxLen at hs
 obtain ⟨n, hn⟩ : ∃ n, n = spanL digit s.data.toList := ⟨_, rfl⟩
 rw [← hn]
 have hn0 : n = 0 + spanL digit (s.data.toList.drop 0) := by rw [List.drop_zero]; omega
 clear hn
 have HN := Lib.hid hn0; clear hn0
 go_enter Tryz.func104, Tryz.ntmps104
 go_wp2
 go_loopw [] (fun wr => ∃ p : Nat, wr = w.iter s p ∧ p ≤ s.size ∧ n = p + spanL digit (s.data.toList.drop p)) (fun wr => s.size - wr.iterPos w.heap.size)
 case atStart => exact ⟨0, rfl, Nat.zero_le _, HN.out⟩
 case round =>
   obtain ⟨p, rfl, hp, hb⟩ := hrel
   by_cases hlt : p < s.size
   · have hnx := fun ty => run_next_any (P := Tryz.prog) w s p ty hlt
     have hw := wid_pos s p
     have hwl := wid_le s p hlt
     have hst := span_step digit s p hlt
     cases hd : digit ((Utf8.decode s p).1 : Nat)
     · rw [← digit_at, hd] at hst
       have HB := Lib.hid (show n = p by simp at hst; omega); clear hb hst
       go_wp2_with (go_at_call 105; refine (digit_any _ _).mono ?_; rintro e w' ⟨rfl, rfl⟩)
       go_ret
       exact ⟨by rw [HB.out]; rfl, iter_below w s _⟩
     · have h1 := digit_wid s p hd
       rw [← digit_at, hd] at hst
       have HB := Lib.hid (show n = p + (Utf8.decode s p).2 + spanL digit (s.data.toList.drop (p + (Utf8.decode s p).2)) by rw [h1]; simp at hst; omega); clear hb hst h1
       go_wp2_with (go_at_call 105; refine (digit_any _ _).mono ?_; rintro e w' ⟨rfl, rfl⟩)
       go_roundw
       case rel => exact ⟨p + (Utf8.decode s p).2, rfl, hwl, HB.out⟩
       case measure => simp; omega
   · have hnx := fun ty => run_next_end (P := Tryz.prog) w s p ty hlt
     rw [span_end digit s p hlt] at hb
     have HB := Lib.hid (show n = s.size by omega); clear hb
     go_wp2
     go_ret
     exact ⟨by rw [HB.out]; rfl, iter_below w s p⟩
theorem reach_alnum (s : ByteArray) (w : World) (hs : s.size ≤ maxLen) : Calls Tryz.prog 104 #[.string s, .func (.func 107) #[] #[]] w fun e w' => e = .returned (.int .i64 (spanL alnum s.data.toList : Nat)) ∧ Below w.heap.size w w' := by
 unfold maxLen at hs
 obtain ⟨n, hn⟩ : ∃ n, n = spanL alnum s.data.toList := ⟨_, rfl⟩
 rw [← hn]
 have hn0 : n = 0 + spanL alnum (s.data.toList.drop 0) := by rw [List.drop_zero]; omega
 clear hn
 have HN := Lib.hid hn0; clear hn0
 go_enter Tryz.func104, Tryz.ntmps104
 go_wp2
 go_loopw [] (fun wr => ∃ p : Nat, wr = w.iter s p ∧ p ≤ s.size ∧ n = p + spanL alnum (s.data.toList.drop p)) (fun wr => s.size - wr.iterPos w.heap.size)
 case atStart => exact ⟨0, rfl, Nat.zero_le _, HN.out⟩
 case round =>
   obtain ⟨p, rfl, hp, hb⟩ := hrel
   by_cases hlt : p < s.size
   · have hnx := fun ty => run_next_any (P := Tryz.prog) w s p ty hlt
     have hw := wid_pos s p
     have hwl := wid_le s p hlt
     have hst := span_step alnum s p hlt
     cases hd : alnum ((Utf8.decode s p).1 : Nat)
     · rw [← alnum_at, hd] at hst
       have HB := Lib.hid (show n = p by simp at hst; omega); clear hb hst
       go_wp2_with (go_at_call 107; refine (inName_any _ _).mono ?_; rintro e w' ⟨rfl, rfl⟩)
       go_ret
       exact ⟨by rw [HB.out]; rfl, iter_below w s _⟩
     · have h1 := (alnum_wid s p hd).1
       rw [← alnum_at, hd] at hst
       have HB := Lib.hid (show n = p + (Utf8.decode s p).2 + spanL alnum (s.data.toList.drop (p + (Utf8.decode s p).2)) by rw [h1]; simp at hst; omega); clear hb hst h1
       go_wp2_with (go_at_call 107; refine (inName_any _ _).mono ?_; rintro e w' ⟨rfl, rfl⟩)
       go_roundw
       case rel => exact ⟨p + (Utf8.decode s p).2, rfl, hwl, HB.out⟩
       case measure => simp; omega
   · have hnx := fun ty => run_next_end (P := Tryz.prog) w s p ty hlt
     rw [span_end alnum s p hlt] at hb
     have HB := Lib.hid (show n = s.size by omega); clear hb
     go_wp2
     go_ret
     exact ⟨by rw [HB.out]; rfl, iter_below w s p⟩
theorem cloneW_any (s : ByteArray) (w : World) (hs : s.size ≤ 16777216) : Calls Tryz.prog 106 #[.string s] w fun e w' => e = .returned (.string s) ∧ Below w.heap.size w w' := by
 go_enter Tryz.func106, Tryz.ntmps106
 go_wp2_with (go_at_call 134; refine (Tryz.stringslite_Clone _ _ (by omega)).mono ?_; rintro e w1 ⟨rfl, hb⟩)
 go_ret
 exact ⟨rfl, hb⟩
end
section
open Go.RowKit
theorem gap_any (s : ByteArray) (w : World) (hs : s.size ≤ maxLen) : Calls Tryz.prog 77 #[.string s] w fun e w' => e = .returned (.int .i64 (gapL false s.data.toList : Nat)) ∧ Below w.heap.size w w' := by
 unfold maxLen at hs
 obtain ⟨n, hn⟩ : ∃ n, n = gapL false s.data.toList := ⟨_, rfl⟩
 rw [← hn]
 have hn0 : n = 0 + gapL false (s.data.toList.drop 0) := by rw [List.drop_zero]; omega
 clear hn
 have HN := Lib.hid hn0; clear hn0
 go_enter Tryz.func77, Tryz.ntmps77
 go_wp2
 go_loopw [3] (fun v wr => ∃ (p : Nat) (c : Bool), v = .bool c ∧ wr = w.iter s p ∧ p ≤ s.size ∧ n = p + gapL c (s.data.toList.drop p)) (fun v wr => s.size - wr.iterPos w.heap.size)
 case atStart => exact ⟨0, false, rfl, rfl, Nat.zero_le _, HN.out⟩
 case round =>
   obtain ⟨p, c, rfl, rfl, hp, hb⟩ := hrel
   by_cases hlt : p < s.size
   · have hnx := fun ty => run_next_any (P := Tryz.prog) w s p ty hlt
     have hw := wid_pos s p
     have hwl := wid_le s p hlt
     by_cases h10 : bt s p = 10
     · have e : (Utf8.decode s p).2 = 1 := by rw [low_of s p (by omega)]
       have hF : ((((Utf8.decode s p).1 : Nat) : Int) == 10) = true := by rw [beq_iff_eq, (rune_is s p 10 (by omega)).2 h10]; rfl
       rw [gap_line s c p hlt h10] at hb
       have HB := Lib.hid (show n = p + (Utf8.decode s p).2 + gapL false (s.data.toList.drop (p + (Utf8.decode s p).2)) by rw [e]; omega); clear hb e h10
       go_wp2
       go_roundw
       case rel => exact ⟨p + (Utf8.decode s p).2, false, rfl, rfl, hwl, HB.out⟩
       case measure => simp; omega
     · have hF : ((((Utf8.decode s p).1 : Nat) : Int) == 10) = false := by
         rw [beq_eq_false_iff_ne]; intro e; exact h10 ((rune_is s p 10 (by omega)).1 (by omega))
       cases c
       · cases hk : blankI ((Utf8.decode s p).1 : Nat)
         · rw [blank_at] at hk
           have hpf := pre_slash s p
           by_cases hsl : bt s p = 47 ∧ p + 1 < s.size ∧ bt s (p + 1) = 47
           · rw [decide_eq_true hsl] at hpf
             have Hpf := Lib.hid hpf; clear hpf
             rw [gap_slash s p hlt hsl.1 hsl.2.1 hsl.2.2] at hb
             have e : (Utf8.decode s p).2 = 1 := by rw [low_of s p (by omega)]
             have HB := Lib.hid (show n = p + (Utf8.decode s p).2 + gapL true (s.data.toList.drop (p + (Utf8.decode s p).2)) by rw [e]; omega); clear hb e h10 hsl
             rw [← blank_at] at hk
             go_wp2_with (first | (go_at_call 79; refine (hasPrefix_any _ _ _ _ Hpf.out).mono ?_; rintro e w' ⟨rfl, rfl⟩) | (go_at_call 103; refine (blank_any _ _).mono ?_; rintro e w' ⟨rfl, rfl⟩))
             go_roundw
             case rel => exact ⟨p + (Utf8.decode s p).2, true, rfl, rfl, hwl, HB.out⟩
             case measure => simp; omega
           · rw [decide_eq_false hsl] at hpf
             have Hpf := Lib.hid hpf; clear hpf
             rw [gap_stop s p hlt h10 hk hsl] at hb
             have HB := Lib.hid (show n = p by omega); clear hb h10 hsl
             rw [← blank_at] at hk
             go_wp2_with (first | (go_at_call 79; refine (hasPrefix_any _ _ _ _ Hpf.out).mono ?_; rintro e w' ⟨rfl, rfl⟩) | (go_at_call 103; refine (blank_any _ _).mono ?_; rintro e w' ⟨rfl, rfl⟩))
             go_ret
             exact ⟨by rw [HB.out]; rfl, iter_below w s _⟩
         · rw [blank_at] at hk
           have e : (Utf8.decode s p).2 = 1 := by rw [low_of s p (blank_low s p hk)]
           rw [gap_blank s p hlt h10 hk] at hb
           have HB := Lib.hid (show n = p + (Utf8.decode s p).2 + gapL false (s.data.toList.drop (p + (Utf8.decode s p).2)) by rw [e]; omega); clear hb e h10
           rw [← blank_at] at hk
           go_wp2_with (first | (go_at_call 103; refine (blank_any _ _).mono ?_; rintro e w' ⟨rfl, rfl⟩))
           go_roundw
           case rel => exact ⟨p + (Utf8.decode s p).2, false, rfl, rfl, hwl, HB.out⟩
           case measure => simp; omega
       · rw [gap_note s p hlt h10] at hb
         have HB := Lib.hid (show n = p + (Utf8.decode s p).2 + gapL true (s.data.toList.drop (p + (Utf8.decode s p).2)) by omega); clear hb h10
         go_wp2
         go_roundw
         case rel => exact ⟨p + (Utf8.decode s p).2, true, rfl, rfl, hwl, HB.out⟩
         case measure => simp; omega
   · have hnx := fun ty => run_next_end (P := Tryz.prog) w s p ty hlt
     rw [gap_end s c p hlt] at hb
     have HB := Lib.hid (show n = s.size by omega); clear hb
     go_wp2
     go_ret
     exact ⟨by rw [HB.out]; rfl, iter_below w s p⟩
end
section
open Go.RowKit
theorem tlen_any (s : ByteArray) (w : World) (hs : s.size ≤ 16777216) : Calls Tryz.prog 108 #[.string s] w fun e w' => e = .returned (.int .i64 (textLen s.data.toList : Nat)) ∧ Below w.heap.size w w' := by
 obtain ⟨n, hn⟩ : ∃ n, n = textLen s.data.toList := ⟨_, rfl⟩
 rw [← hn]
 have HN := Lib.hid hn; clear hn
 go_enter Tryz.func108, Tryz.ntmps108
 go_wp2
 go_loopw [3] (fun v wr => ∃ (p : Nat) (c : Bool), v = .bool c ∧ wr = w.iter s p ∧ p ≤ s.size ∧ (p = 0 → c = false) ∧ (0 < p → n = tlenL c (s.data.toList.drop p) p)) (fun v wr => s.size - wr.iterPos w.heap.size)
 case atStart => exact ⟨0, false, rfl, rfl, Nat.zero_le _, fun _ => rfl, fun h => by omega⟩
 case round =>
   obtain ⟨p, c, rfl, rfl, hp, hc, hb⟩ := hrel
   have HB := Lib.hid hb; clear hb
   have HC := Lib.hid hc; clear hc
   by_cases hlt : p < s.size
   · have hnx := fun ty => run_next_any (P := Tryz.prog) w s p ty hlt
     have hw := wid_pos s p
     have hwl := wid_le s p hlt
     rcases Nat.eq_zero_or_pos p with rfl | hpos
     · obtain rfl : c = false := HC.out rfl
       by_cases h34 : bt s 0 = 34
       · have e : (Utf8.decode s 0).2 = 1 := by rw [low_of s 0 (by omega)]
         have hF : ((((Utf8.decode s 0).1 : Nat) : Int) != 34) = false := by rw [bne_eq_false_iff_eq, (rune_is s 0 34 (by omega)).2 h34]; rfl
         have HS := Lib.hid (show n = tlenL false (s.data.toList.drop (0 + (Utf8.decode s 0).2)) (0 + (Utf8.decode s 0).2) by rw [HN.out, e, text_start s hlt h34]); clear e h34
         go_wp2
         go_roundw
         case rel => exact ⟨0 + (Utf8.decode s 0).2, false, rfl, by simp, by omega, fun _ => rfl, fun _ => HS.out⟩
         case measure => simp; omega
       · have hF : ((((Utf8.decode s 0).1 : Nat) : Int) != 34) = true := by
           rw [bne_iff_ne]; intro e; exact h34 ((rune_is s 0 34 (by omega)).1 (by omega))
         have HS := Lib.hid (show n = 0 by rw [HN.out]; exact text_none s (fun h => h34 h.2)); clear h34
         go_wp2
         go_ret
         exact ⟨by rw [HS.out]; rfl, iter_below w s _⟩
     · have hb := HB.out hpos
       have hpb : ((p : Int) == 0) = false := by rw [beq_eq_false_iff_ne]; omega
       by_cases h10 : bt s p = 10
       · have hF : ((((Utf8.decode s p).1 : Nat) : Int) == 10) = true := by rw [beq_iff_eq, (rune_is s p 10 (by omega)).2 h10]; rfl
         have HS := Lib.hid (show n = 0 by rw [hb]; exact tlen_line s c p p hlt h10); clear h10 hb
         go_wp2
         go_ret
         exact ⟨by rw [HS.out]; rfl, iter_below w s _⟩
       · have hF : ((((Utf8.decode s p).1 : Nat) : Int) == 10) = false := by
           rw [beq_eq_false_iff_ne]; intro e; exact h10 ((rune_is s p 10 (by omega)).1 (by omega))
         cases c
         · by_cases h92 : bt s p = 92
           · have e : (Utf8.decode s p).2 = 1 := by rw [low_of s p (by omega)]
             have hF2 : ((((Utf8.decode s p).1 : Nat) : Int) == 92) = true := by rw [beq_iff_eq, (rune_is s p 92 (by omega)).2 h92]; rfl
             have HS := Lib.hid (show n = tlenL true (s.data.toList.drop (p + (Utf8.decode s p).2)) (p + (Utf8.decode s p).2) by rw [hb, e]; exact tlen_back s p hlt h92); clear h10 hb e h92
             go_wp2
             go_roundw
             case rel => exact ⟨p + (Utf8.decode s p).2, true, rfl, rfl, hwl, fun h => by omega, fun _ => HS.out⟩
             case measure => simp; omega
           · have hF2 : ((((Utf8.decode s p).1 : Nat) : Int) == 92) = false := by
               rw [beq_eq_false_iff_ne]; intro e; exact h92 ((rune_is s p 92 (by omega)).1 (by omega))
             by_cases h34 : bt s p = 34
             · have hF3 : ((((Utf8.decode s p).1 : Nat) : Int) == 34) = true := by rw [beq_iff_eq, (rune_is s p 34 (by omega)).2 h34]; rfl
               have HS := Lib.hid (show n = p + 1 by rw [hb]; exact tlen_quote s p hlt h34); clear h10 hb h92 h34
               go_wp2
               go_ret
               exact ⟨by rw [HS.out]; rfl, iter_below w s _⟩
             · have hF3 : ((((Utf8.decode s p).1 : Nat) : Int) == 34) = false := by
                 rw [beq_eq_false_iff_ne]; intro e; exact h34 ((rune_is s p 34 (by omega)).1 (by omega))
               have HS := Lib.hid (show n = tlenL false (s.data.toList.drop (p + (Utf8.decode s p).2)) (p + (Utf8.decode s p).2) by rw [hb]; exact tlen_other s p hlt h10 h92 h34); clear h10 hb h92 h34
               go_wp2
               go_roundw
               case rel => exact ⟨p + (Utf8.decode s p).2, false, rfl, rfl, hwl, fun h => by omega, fun _ => HS.out⟩
               case measure => simp; omega
         · have HS := Lib.hid (show n = tlenL false (s.data.toList.drop (p + (Utf8.decode s p).2)) (p + (Utf8.decode s p).2) by rw [hb]; exact tlen_esc s p hlt h10); clear h10 hb
           go_wp2
           go_roundw
           case rel => exact ⟨p + (Utf8.decode s p).2, false, rfl, rfl, hwl, fun h => by omega, fun _ => HS.out⟩
           case measure => simp; omega
   · have hnx := fun ty => run_next_end (P := Tryz.prog) w s p ty hlt
     have HS := Lib.hid (show n = 0 by
       rcases Nat.eq_zero_or_pos p with rfl | hpos
       · rw [HN.out]; exact text_none s (fun h => hlt h.1)
       · rw [HB.out hpos]; exact tlen_end s c p p hlt)
     go_wp2
     go_ret
     exact ⟨by rw [HS.out]; rfl, iter_below w s p⟩
end
section
open Go.RowKit
theorem take2 (s : ByteArray) : (s.extract 0 (min 2 (s.size : Int)).toNat).toList = s.data.toList.take 2 := by
 rw [Lib.toList_data, extract_list, List.drop_zero, Nat.sub_zero]
 have hl : s.data.toList.length = s.size := by simp
 by_cases h : 2 ≤ s.size
 · rw [show (min 2 (s.size : Int)).toNat = 2 from by omega]
 · rw [show (min 2 (s.size : Int)).toNat = s.size from by omega, List.take_of_length_le (by omega), List.take_of_length_le (by omega)]
theorem take2_eq (s : ByteArray) (x c : List UInt8) (b : Bool) (h : s.data.toList.take 2 = x) (hb : (x == c) = b) : ((s.extract 0 (min 2 (s.size : Int)).toNat).toList == c) = b := by
 rw [take2, h, hb]
theorem take2_ne (s : ByteArray) (c : List UInt8) (hc : c ∈ twos) (h : ¬ s.data.toList.take 2 ∈ twos) : ((s.extract 0 (min 2 (s.size : Int)).toNat).toList == c) = false := by
 rw [take2, beq_eq_false_iff_ne]; intro e; exact h (e ▸ hc)
theorem mark_two (l : List UInt8) (h : l.take 2 ∈ twos) : markL l = 2 := by
 unfold markL; rw [if_pos (by rw [List.contains_iff_mem]; exact h)]
theorem mark_one (s : ByteArray) (h : 0 < s.size) (hn : ¬ s.data.toList.take 2 ∈ twos) : markL s.data.toList = if ones.contains (s.get! 0) = true then 1 else 0 := by
 obtain ⟨b, e, h1, h2⟩ := dropc s 0 h
 rw [List.drop_zero] at e
 unfold markL
 rw [if_neg (by rw [List.contains_iff_mem]; exact hn), e, ← h2]
theorem get_one (s : ByteArray) (k : UInt8) : (s.get! 0 == k) = (((bt s 0 : Nat) : Int) == ((k.toNat : Nat) : Int)) := by
 rw [Bool.eq_iff_iff, beq_iff_eq, beq_iff_eq, get_bt]; omega
theorem ones_in (s : ByteArray) : ones.contains (s.get! 0) = ((((bt s 0 : Nat) : Int) == 123) || ((((bt s 0 : Nat) : Int) == 125) || ((((bt s 0 : Nat) : Int) == 40) || ((((bt s 0 : Nat) : Int) == 41) || ((((bt s 0 : Nat) : Int) == 59) || ((((bt s 0 : Nat) : Int) == 44) || ((((bt s 0 : Nat) : Int) == 46) || ((((bt s 0 : Nat) : Int) == 61) || ((((bt s 0 : Nat) : Int) == 60) || ((((bt s 0 : Nat) : Int) == 43) || ((((bt s 0 : Nat) : Int) == 45) || ((((bt s 0 : Nat) : Int) == 42) || ((((bt s 0 : Nat) : Int) == 47) || ((((bt s 0 : Nat) : Int) == 37) || ((((bt s 0 : Nat) : Int) == 33) || ((((bt s 0 : Nat) : Int) == 35) || ((((bt s 0 : Nat) : Int) == 64)))))))))))))))))) := by
 simp only [ones, List.contains_cons, List.contains_nil, Bool.or_false]
 rw [show (s.get! 0 == 123) = (((bt s 0 : Nat) : Int) == 123) from get_one s 123]
 rw [show (s.get! 0 == 125) = (((bt s 0 : Nat) : Int) == 125) from get_one s 125]
 rw [show (s.get! 0 == 40) = (((bt s 0 : Nat) : Int) == 40) from get_one s 40]
 rw [show (s.get! 0 == 41) = (((bt s 0 : Nat) : Int) == 41) from get_one s 41]
 rw [show (s.get! 0 == 59) = (((bt s 0 : Nat) : Int) == 59) from get_one s 59]
 rw [show (s.get! 0 == 44) = (((bt s 0 : Nat) : Int) == 44) from get_one s 44]
 rw [show (s.get! 0 == 46) = (((bt s 0 : Nat) : Int) == 46) from get_one s 46]
 rw [show (s.get! 0 == 61) = (((bt s 0 : Nat) : Int) == 61) from get_one s 61]
 rw [show (s.get! 0 == 60) = (((bt s 0 : Nat) : Int) == 60) from get_one s 60]
 rw [show (s.get! 0 == 43) = (((bt s 0 : Nat) : Int) == 43) from get_one s 43]
 rw [show (s.get! 0 == 45) = (((bt s 0 : Nat) : Int) == 45) from get_one s 45]
 rw [show (s.get! 0 == 42) = (((bt s 0 : Nat) : Int) == 42) from get_one s 42]
 rw [show (s.get! 0 == 47) = (((bt s 0 : Nat) : Int) == 47) from get_one s 47]
 rw [show (s.get! 0 == 37) = (((bt s 0 : Nat) : Int) == 37) from get_one s 37]
 rw [show (s.get! 0 == 33) = (((bt s 0 : Nat) : Int) == 33) from get_one s 33]
 rw [show (s.get! 0 == 35) = (((bt s 0 : Nat) : Int) == 35) from get_one s 35]
 rw [show (s.get! 0 == 64) = (((bt s 0 : Nat) : Int) == 64) from get_one s 64]
def MarkSaid (s : ByteArray) (w : World) : Prop := Calls Tryz.prog 110 #[.string s] w fun e w' => e = .returned (.int .i64 (markL s.data.toList : Nat)) ∧ w = w'
theorem mark_t0 (s : ByteArray) (w : World) (hs : s.size ≤ 16777216) (h : s.data.toList.take 2 = [58, 58]) : MarkSaid s w := by
 unfold MarkSaid
 have h0 : ¬ s.size = 0 := by
   intro e
   have hl : s.data.toList.length = s.size := by simp
   have := congrArg List.length h
   rw [List.length_take] at this; simp at this; omega
 have hne := ne_nil s h0
 have HM := Lib.hid (mark_two s.data.toList (by rw [h]; decide))
 have f0 := take2_eq s _ [58, 58] true h (by decide)
 have m1 : 0 ≤ min 2 (s.size : Int) := by omega
 have m2 : min 2 (s.size : Int) ≤ s.size := by omega
 clear h
 go_enter Tryz.func110, Tryz.ntmps110
 go_wp2
 go_ret
 exact ⟨by rw [HM.out]; rfl, rfl⟩
theorem mark_t1 (s : ByteArray) (w : World) (hs : s.size ≤ 16777216) (h : s.data.toList.take 2 = [60, 61]) : MarkSaid s w := by
 unfold MarkSaid
 have h0 : ¬ s.size = 0 := by
   intro e
   have hl : s.data.toList.length = s.size := by simp
   have := congrArg List.length h
   rw [List.length_take] at this; simp at this; omega
 have hne := ne_nil s h0
 have HM := Lib.hid (mark_two s.data.toList (by rw [h]; decide))
 have f0 := take2_eq s _ [58, 58] false h (by decide)
 have f1 := take2_eq s _ [60, 61] true h (by decide)
 have m1 : 0 ≤ min 2 (s.size : Int) := by omega
 have m2 : min 2 (s.size : Int) ≤ s.size := by omega
 clear h
 go_enter Tryz.func110, Tryz.ntmps110
 go_wp2
 go_ret
 exact ⟨by rw [HM.out]; rfl, rfl⟩
theorem mark_t2 (s : ByteArray) (w : World) (hs : s.size ≤ 16777216) (h : s.data.toList.take 2 = [61, 61]) : MarkSaid s w := by
 unfold MarkSaid
 have h0 : ¬ s.size = 0 := by
   intro e
   have hl : s.data.toList.length = s.size := by simp
   have := congrArg List.length h
   rw [List.length_take] at this; simp at this; omega
 have hne := ne_nil s h0
 have HM := Lib.hid (mark_two s.data.toList (by rw [h]; decide))
 have f0 := take2_eq s _ [58, 58] false h (by decide)
 have f1 := take2_eq s _ [60, 61] false h (by decide)
 have f2 := take2_eq s _ [61, 61] true h (by decide)
 have m1 : 0 ≤ min 2 (s.size : Int) := by omega
 have m2 : min 2 (s.size : Int) ≤ s.size := by omega
 clear h
 go_enter Tryz.func110, Tryz.ntmps110
 go_wp2
 go_ret
 exact ⟨by rw [HM.out]; rfl, rfl⟩
theorem mark_t3 (s : ByteArray) (w : World) (hs : s.size ≤ 16777216) (h : s.data.toList.take 2 = [33, 61]) : MarkSaid s w := by
 unfold MarkSaid
 have h0 : ¬ s.size = 0 := by
   intro e
   have hl : s.data.toList.length = s.size := by simp
   have := congrArg List.length h
   rw [List.length_take] at this; simp at this; omega
 have hne := ne_nil s h0
 have HM := Lib.hid (mark_two s.data.toList (by rw [h]; decide))
 have f0 := take2_eq s _ [58, 58] false h (by decide)
 have f1 := take2_eq s _ [60, 61] false h (by decide)
 have f2 := take2_eq s _ [61, 61] false h (by decide)
 have f3 := take2_eq s _ [33, 61] true h (by decide)
 have m1 : 0 ≤ min 2 (s.size : Int) := by omega
 have m2 : min 2 (s.size : Int) ≤ s.size := by omega
 clear h
 go_enter Tryz.func110, Tryz.ntmps110
 go_wp2
 go_ret
 exact ⟨by rw [HM.out]; rfl, rfl⟩
theorem mark_t4 (s : ByteArray) (w : World) (hs : s.size ≤ 16777216) (h : s.data.toList.take 2 = [38, 38]) : MarkSaid s w := by
 unfold MarkSaid
 have h0 : ¬ s.size = 0 := by
   intro e
   have hl : s.data.toList.length = s.size := by simp
   have := congrArg List.length h
   rw [List.length_take] at this; simp at this; omega
 have hne := ne_nil s h0
 have HM := Lib.hid (mark_two s.data.toList (by rw [h]; decide))
 have f0 := take2_eq s _ [58, 58] false h (by decide)
 have f1 := take2_eq s _ [60, 61] false h (by decide)
 have f2 := take2_eq s _ [61, 61] false h (by decide)
 have f3 := take2_eq s _ [33, 61] false h (by decide)
 have f4 := take2_eq s _ [38, 38] true h (by decide)
 have m1 : 0 ≤ min 2 (s.size : Int) := by omega
 have m2 : min 2 (s.size : Int) ≤ s.size := by omega
 clear h
 go_enter Tryz.func110, Tryz.ntmps110
 go_wp2
 go_ret
 exact ⟨by rw [HM.out]; rfl, rfl⟩
theorem mark_t5 (s : ByteArray) (w : World) (hs : s.size ≤ 16777216) (h : s.data.toList.take 2 = [124, 124]) : MarkSaid s w := by
 unfold MarkSaid
 have h0 : ¬ s.size = 0 := by
   intro e
   have hl : s.data.toList.length = s.size := by simp
   have := congrArg List.length h
   rw [List.length_take] at this; simp at this; omega
 have hne := ne_nil s h0
 have HM := Lib.hid (mark_two s.data.toList (by rw [h]; decide))
 have f0 := take2_eq s _ [58, 58] false h (by decide)
 have f1 := take2_eq s _ [60, 61] false h (by decide)
 have f2 := take2_eq s _ [61, 61] false h (by decide)
 have f3 := take2_eq s _ [33, 61] false h (by decide)
 have f4 := take2_eq s _ [38, 38] false h (by decide)
 have f5 := take2_eq s _ [124, 124] true h (by decide)
 have m1 : 0 ≤ min 2 (s.size : Int) := by omega
 have m2 : min 2 (s.size : Int) ≤ s.size := by omega
 clear h
 go_enter Tryz.func110, Tryz.ntmps110
 go_wp2
 go_ret
 exact ⟨by rw [HM.out]; rfl, rfl⟩
theorem mark_n (s : ByteArray) (w : World) (hs : s.size ≤ 16777216) (h0 : ¬ s.size = 0) (h : ¬ s.data.toList.take 2 ∈ twos) : MarkSaid s w := by
 unfold MarkSaid
 have hne := ne_nil s h0
 have hbt := bt_eq s 0 (by omega)
 have hlt := bt_lt s 0
 have HM := Lib.hid (mark_one s (by omega) h)
 have f0 := take2_ne s [58, 58] (by decide) h
 have f1 := take2_ne s [60, 61] (by decide) h
 have f2 := take2_ne s [61, 61] (by decide) h
 have f3 := take2_ne s [33, 61] (by decide) h
 have f4 := take2_ne s [38, 38] (by decide) h
 have f5 := take2_ne s [124, 124] (by decide) h
 have m1 : 0 ≤ min 2 (s.size : Int) := by omega
 have m2 : min 2 (s.size : Int) ≤ s.size := by omega
 have m3 : 0 < s.size := by omega
 clear h
 go_enter Tryz.func110, Tryz.ntmps110
 go_wp2
 all_goals (go_ret; refine ⟨?_, rfl⟩; rw [HM.out, ones_in]; clear HM f0 f1 f2 f3 f4 f5)
 all_goals first | (simp_all only [Bool.true_or, Bool.or_true, Bool.false_or, if_true, Bool.false_eq_true, if_false]; done) | (simp_all; done)
theorem mark_any (s : ByteArray) (w : World) (hs : s.size ≤ 16777216) : Calls Tryz.prog 110 #[.string s] w fun e w' => e = .returned (.int .i64 (markL s.data.toList : Nat)) ∧ w = w' := by
 by_cases h0 : s.size = 0
 · obtain rfl := size0 s h0
   go_enter Tryz.func110, Tryz.ntmps110
   go_wp2
   go_ret
   exact ⟨rfl, rfl⟩
 · by_cases h : s.data.toList.take 2 ∈ twos
   · have h' := h
     simp only [twos, List.mem_cons, List.not_mem_nil, or_false] at h'
     rcases h' with h' | h' | h' | h' | h' | h'
     · exact mark_t0 s w hs h'
     · exact mark_t1 s w hs h'
     · exact mark_t2 s w hs h'
     · exact mark_t3 s w hs h'
     · exact mark_t4 s w hs h'
     · exact mark_t5 s w hs h'
   · exact mark_n s w hs h0 h
end
section
open Go.RowKit
theorem Bx.get3 {w : World} {b : Nat} {x y z : Value} {T : TypeId} (h : Bx w b #[x, y, z] T) : w.cell? ⟨b, 0, none⟩ = some x ∧ w.cell? ⟨b, 1, none⟩ = some y ∧ w.cell? ⟨b, 2, none⟩ = some z ∧ ∀ o, w.frozen? ⟨b, o, none⟩ = false := by
 refine ⟨cell_of_row w b 0 _ T (0, 0) h, cell_of_row w b 1 _ T (0, 0) h, cell_of_row w b 2 _ T (0, 0) h, fun o => ?_⟩
 unfold Bx at h
 simp [World.frozen?, h]
theorem below3 {B : Nat} {w w2 : World} (h : Below B w w2) {b : Nat} (hb : B ≤ b) (x y z : Value) : Below B w (((w2.setCell ⟨b, 0, none⟩ x).setCell ⟨b, 1, none⟩ y).setCell ⟨b, 2, none⟩ z) :=
 ((h.setCell hb x).setCell hb y).setCell hb z
def FirstSaid (s : ByteArray) (w : World) : Prop := Calls Tryz.prog 78 #[.string s] w fun e w' => e = .returned (.tuple #[.agg #[.int .i64 ((firstL s.data.toList).1 : Nat), .string ⟨(firstL s.data.toList).2.1.toArray⟩, .int .i64 0], .int .i64 ((firstL s.data.toList).2.2 : Nat)]) ∧ Below w.heap.size w w'
theorem ba_is (s : ByteArray) (l : List UInt8) (h : s.data.toList = l) : s = ⟨l.toArray⟩ := by
 cases s with | mk d => subst h; simp
theorem take_ba (s : ByteArray) (n : Nat) : s.extract 0 n = ⟨(s.data.toList.take n).toArray⟩ := by
 apply ba_is; rw [extract_list, List.drop_zero, Nat.sub_zero]
theorem first_digits (s : ByteArray) (w : World) (hs : s.size ≤ 16777216) (h : 0 < spanL digit s.data.toList) : FirstSaid s w := by
 unfold FirstSaid
 have hle := span_le digit s.data.toList
 have hF : firstL s.data.toList = (2, s.data.toList.take (spanL digit s.data.toList), spanL digit s.data.toList) := by rw [firstL, if_pos h]
 obtain ⟨n, hn⟩ : ∃ n, n = spanL digit s.data.toList := ⟨_, rfl⟩
 have HD : Hid (∀ w, Calls Tryz.prog 104 #[.string s, .func (.func 105) #[] #[]] w fun e w' => e = .returned (.int .i64 (n : Nat)) ∧ Below w.heap.size w w') := by
   show ∀ w, _
   intro w; have := reach_digit s w (by unfold maxLen; omega); rw [← hn] at this; exact this
 rw [← hn] at hF h hle
 have hle' : n ≤ s.size := by simpa using hle
 have HF := Lib.hid hF; clear hF hn hle
 have ht := take_ba s n
 have HX := Lib.hid ht; clear ht
 go_enter Tryz.func78, Tryz.ntmps78
 go_wp2_with (first
   | (go_at_call 104; refine (HD.out _).mono ?_; clear HD; rintro e w1 ⟨rfl, hb⟩; have hx := (Bx.new w #[.int .i64 0, .string ⟨#[]⟩, .int .i64 0] 78).next hb; have hB := below_box hb; clear hb)
   | (go_at_call 106; refine (cloneW_any _ _ (by simp; omega)).mono ?_; rintro e w1 ⟨rfl, hb⟩; replace hx := hx.next hb; replace hB := hB.trans (hb.mono hB.size); clear hb; obtain ⟨c0, c1, c2, c3⟩ := hx.get3))
 refine bodyPost_ret (v := .tuple #[.agg #[.int .i64 2, .string (s.extract 0 n), .int .i64 0], .int .i64 n]) (by simp [results, Tryz.results78, go_sem, c0, c1, c2, c3]) rfl ⟨?_, below3 hB (Nat.le_refl _) _ _ _⟩
 rw [HF.out, HX.out]; rfl
theorem first_name (s : ByteArray) (w : World) (hs : s.size ≤ 16777216) (h0 : spanL digit s.data.toList = 0) (h : 0 < spanL alnum s.data.toList) : FirstSaid s w := by
 unfold FirstSaid
 have hle := span_le alnum s.data.toList
 have hF : firstL s.data.toList = (1, s.data.toList.take (spanL alnum s.data.toList), spanL alnum s.data.toList) := by rw [firstL, if_neg (by omega), if_pos h]
 obtain ⟨n, hn⟩ : ∃ n, n = spanL alnum s.data.toList := ⟨_, rfl⟩
 have HD : Hid (∀ w, Calls Tryz.prog 104 #[.string s, .func (.func 105) #[] #[]] w fun e w' => e = .returned (.int .i64 0) ∧ Below w.heap.size w w') := by
   show ∀ w, _
   intro w; have := reach_digit s w (by unfold maxLen; omega); rw [h0] at this; exact this
 have HA : Hid (∀ w, Calls Tryz.prog 104 #[.string s, .func (.func 107) #[] #[]] w fun e w' => e = .returned (.int .i64 (n : Nat)) ∧ Below w.heap.size w w') := by
   show ∀ w, _
   intro w; have := reach_alnum s w (by unfold maxLen; omega); rw [← hn] at this; exact this
 rw [← hn] at hF h hle
 have hle' : n ≤ s.size := by simpa using hle
 have HF := Lib.hid hF; clear hF hn hle h0
 have ht := take_ba s n
 have HX := Lib.hid ht; clear ht
 go_enter Tryz.func78, Tryz.ntmps78
 go_wp2_with (first
   | (go_at_call 104; refine (HD.out _).mono ?_; clear HD; rintro e w1 ⟨rfl, hb⟩; have hx := (Bx.new w #[.int .i64 0, .string ⟨#[]⟩, .int .i64 0] 78).next hb; have hB := below_box hb; clear hb)
   | (go_at_call 104; refine (HA.out _).mono ?_; clear HA; rintro e w1 ⟨rfl, hb⟩; replace hx := hx.next hb; replace hB := hB.trans (hb.mono hB.size); clear hb)
   | (go_at_call 106; refine (cloneW_any _ _ (by simp; omega)).mono ?_; rintro e w1 ⟨rfl, hb⟩; replace hx := hx.next hb; replace hB := hB.trans (hb.mono hB.size); clear hb; obtain ⟨c0, c1, c2, c3⟩ := hx.get3))
 refine bodyPost_ret (v := .tuple #[.agg #[.int .i64 1, .string (s.extract 0 n), .int .i64 0], .int .i64 n]) (by simp [results, Tryz.results78, go_sem, c0, c1, c2, c3]) rfl ⟨?_, below3 hB (Nat.le_refl _) _ _ _⟩
 rw [HF.out, HX.out]; rfl
theorem inner_is (s : ByteArray) (n : Nat) (h : n ≤ s.size) : s.extract 1 (n - 1) = inner s.data.toList n := by
 apply ba_is; rw [extract_list, List.drop_take]
theorem first_text (s : ByteArray) (w : World) (hs : s.size ≤ 16777216) (h0 : spanL digit s.data.toList = 0) (h1 : spanL alnum s.data.toList = 0) (h : 0 < textLen s.data.toList) (hp : plainOk (inner s.data.toList (textLen s.data.toList)) = true) : FirstSaid s w := by
 unfold FirstSaid
 have hle := text_le s.data.toList
 have hl : s.data.toList.length = s.size := by simp
 have hF : firstL s.data.toList = (3, plainText (inner s.data.toList (textLen s.data.toList)), textLen s.data.toList) := by rw [firstL, if_neg (by omega), if_neg (by omega), if_pos h, if_pos hp]
 obtain ⟨n, hn⟩ : ∃ n, n = textLen s.data.toList := ⟨_, rfl⟩
 have HD : Hid (∀ w, Calls Tryz.prog 104 #[.string s, .func (.func 105) #[] #[]] w fun e w' => e = .returned (.int .i64 0) ∧ Below w.heap.size w w') := by
   show ∀ w, _
   intro w; have := reach_digit s w (by unfold maxLen; omega); rw [h0] at this; exact this
 have HA : Hid (∀ w, Calls Tryz.prog 104 #[.string s, .func (.func 107) #[] #[]] w fun e w' => e = .returned (.int .i64 0) ∧ Below w.heap.size w w') := by
   show ∀ w, _
   intro w; have := reach_alnum s w (by unfold maxLen; omega); rw [h1] at this; exact this
 have HT : Hid (∀ w, Calls Tryz.prog 108 #[.string s] w fun e w' => e = .returned (.int .i64 (n : Nat)) ∧ Below w.heap.size w w') := by
   show ∀ w, _
   intro w; have := tlen_any s w hs; rw [← hn] at this; exact this
 (try rw [← hn] at hF)
 rw [← hn] at h hle hp
 have hn2 : 2 ≤ n := by omega
 have hle' : n ≤ s.size := by omega
 have hin := inner_is s n hle'
 obtain ⟨t, ht⟩ : ∃ t : ByteArray, t = ⟨(plainText (inner s.data.toList n)).toArray⟩ := ⟨_, rfl⟩
 have HP : Hid (∀ w, Calls Tryz.prog 109 #[.string (s.extract 1 (n - 1))] w fun e w' => e = .returned (.tuple #[.string t, .bool true]) ∧ Below w.heap.size w w') := by
   show ∀ w, _
   intro w
   have := plain_any (s.extract 1 (n - 1)) w (by simp; omega)
   rw [hin, hp, ← ht, ← hin] at this
   exact this
 have HF := Lib.hid hF; clear hF hn hle h0 h1 hin hp
 have HX := Lib.hid ht; clear ht
 have hsl : ∀ w : World, (Instr.slice 9 (.string s) (some (.int .i64 1)) (some (.int .i64 ((n : Int) - 1))) none).run Tryz.prog w = .ok (.string (s.extract 1 (n - 1))) w := by
   intro w
   have := run_slice_string (P := Tryz.prog) (w := w) 9 s .i64 .i64 1 ((n : Int) - 1) Tryz.underlying9 (by omega) (by omega) (by omega)
   rw [show ((n : Int) - 1).toNat = n - 1 from by omega] at this
   exact this
 go_enter Tryz.func78, Tryz.ntmps78
 go_wp2_with (first
   | (go_at_call 104; refine (HD.out _).mono ?_; clear HD; rintro e w1 ⟨rfl, hb⟩; have hx := (Bx.new w #[.int .i64 0, .string ⟨#[]⟩, .int .i64 0] 78).next hb; have hB := below_box hb; clear hb)
   | (go_at_call 104; refine (HA.out _).mono ?_; clear HA; rintro e w1 ⟨rfl, hb⟩; replace hx := hx.next hb; replace hB := hB.trans (hb.mono hB.size); clear hb)
   | (go_at_call 108; refine (HT.out _).mono ?_; clear HT; rintro e w1 ⟨rfl, hb⟩; replace hx := hx.next hb; replace hB := hB.trans (hb.mono hB.size); clear hb)
   | (go_at_call 109; refine (HP.out _).mono ?_; clear HP; rintro e w1 ⟨rfl, hb⟩; replace hx := hx.next hb; replace hB := hB.trans (hb.mono hB.size); clear hb; obtain ⟨c0, c1, c2, c3⟩ := hx.get3))
 refine bodyPost_ret (v := .tuple #[.agg #[.int .i64 3, .string t, .int .i64 0], .int .i64 n]) (by simp [results, Tryz.results78, go_sem, c0, c1, c2, c3]) rfl ⟨?_, below3 hB (Nat.le_refl _) _ _ _⟩
 rw [HF.out, HX.out]; rfl
theorem first_bad (s : ByteArray) (w : World) (hs : s.size ≤ 16777216) (h0 : spanL digit s.data.toList = 0) (h1 : spanL alnum s.data.toList = 0) (h : 0 < textLen s.data.toList) (hp : plainOk (inner s.data.toList (textLen s.data.toList)) = false) : FirstSaid s w := by
 unfold FirstSaid
 have hle := text_le s.data.toList
 have hl : s.data.toList.length = s.size := by simp
 have hF : firstL s.data.toList = (0, [], 0) := by rw [firstL, if_neg (by omega), if_neg (by omega), if_pos h, if_neg (by rw [hp]; simp)]
 obtain ⟨n, hn⟩ : ∃ n, n = textLen s.data.toList := ⟨_, rfl⟩
 have HD : Hid (∀ w, Calls Tryz.prog 104 #[.string s, .func (.func 105) #[] #[]] w fun e w' => e = .returned (.int .i64 0) ∧ Below w.heap.size w w') := by
   show ∀ w, _
   intro w; have := reach_digit s w (by unfold maxLen; omega); rw [h0] at this; exact this
 have HA : Hid (∀ w, Calls Tryz.prog 104 #[.string s, .func (.func 107) #[] #[]] w fun e w' => e = .returned (.int .i64 0) ∧ Below w.heap.size w w') := by
   show ∀ w, _
   intro w; have := reach_alnum s w (by unfold maxLen; omega); rw [h1] at this; exact this
 have HT : Hid (∀ w, Calls Tryz.prog 108 #[.string s] w fun e w' => e = .returned (.int .i64 (n : Nat)) ∧ Below w.heap.size w w') := by
   show ∀ w, _
   intro w; have := tlen_any s w hs; rw [← hn] at this; exact this
 (try rw [← hn] at hF)
 rw [← hn] at h hle hp
 have hn2 : 2 ≤ n := by omega
 have hle' : n ≤ s.size := by omega
 have hin := inner_is s n hle'
 obtain ⟨t, ht⟩ : ∃ t : ByteArray, t = ⟨(plainText (inner s.data.toList n)).toArray⟩ := ⟨_, rfl⟩
 have HP : Hid (∀ w, Calls Tryz.prog 109 #[.string (s.extract 1 (n - 1))] w fun e w' => e = .returned (.tuple #[.string t, .bool false]) ∧ Below w.heap.size w w') := by
   show ∀ w, _
   intro w
   have := plain_any (s.extract 1 (n - 1)) w (by simp; omega)
   rw [hin, hp, ← ht, ← hin] at this
   exact this
 have HF := Lib.hid hF; clear hF hn hle h0 h1 hin hp
 have HX := Lib.hid ht; clear ht
 have hsl : ∀ w : World, (Instr.slice 9 (.string s) (some (.int .i64 1)) (some (.int .i64 ((n : Int) - 1))) none).run Tryz.prog w = .ok (.string (s.extract 1 (n - 1))) w := by
   intro w
   have := run_slice_string (P := Tryz.prog) (w := w) 9 s .i64 .i64 1 ((n : Int) - 1) Tryz.underlying9 (by omega) (by omega) (by omega)
   rw [show ((n : Int) - 1).toNat = n - 1 from by omega] at this
   exact this
 go_enter Tryz.func78, Tryz.ntmps78
 go_wp2_with (first
   | (go_at_call 104; refine (HD.out _).mono ?_; clear HD; rintro e w1 ⟨rfl, hb⟩; have hx := (Bx.new w #[.int .i64 0, .string ⟨#[]⟩, .int .i64 0] 78).next hb; have hB := below_box hb; clear hb)
   | (go_at_call 104; refine (HA.out _).mono ?_; clear HA; rintro e w1 ⟨rfl, hb⟩; replace hx := hx.next hb; replace hB := hB.trans (hb.mono hB.size); clear hb)
   | (go_at_call 108; refine (HT.out _).mono ?_; clear HT; rintro e w1 ⟨rfl, hb⟩; replace hx := hx.next hb; replace hB := hB.trans (hb.mono hB.size); clear hb)
   | (go_at_call 109; refine (HP.out _).mono ?_; clear HP; rintro e w1 ⟨rfl, hb⟩; replace hx := hx.next hb; replace hB := hB.trans (hb.mono hB.size); clear hb; obtain ⟨c0, c1, c2, c3⟩ := hx.get3))
 refine bodyPost_ret (v := .tuple #[.agg #[.int .i64 0, .string ⟨#[]⟩, .int .i64 0], .int .i64 0]) (by simp [results, Tryz.results78, go_sem, c0, c1, c2, c3]) rfl ⟨?_, below3 hB (Nat.le_refl _) _ _ _⟩
 rw [HF.out]; rfl
theorem first_mark (s : ByteArray) (w : World) (hs : s.size ≤ 16777216) (h0 : spanL digit s.data.toList = 0) (h1 : spanL alnum s.data.toList = 0) (h2 : textLen s.data.toList = 0) : FirstSaid s w := by
 unfold FirstSaid
 have hle := mark_le s.data.toList
 have hF : firstL s.data.toList = (4, s.data.toList.take (markL s.data.toList), markL s.data.toList) := by rw [firstL, if_neg (by omega), if_neg (by omega), if_neg (by omega)]
 obtain ⟨n, hn⟩ : ∃ n, n = markL s.data.toList := ⟨_, rfl⟩
 have HD : Hid (∀ w, Calls Tryz.prog 104 #[.string s, .func (.func 105) #[] #[]] w fun e w' => e = .returned (.int .i64 0) ∧ Below w.heap.size w w') := by
   show ∀ w, _
   intro w; have := reach_digit s w (by unfold maxLen; omega); rw [h0] at this; exact this
 have HA : Hid (∀ w, Calls Tryz.prog 104 #[.string s, .func (.func 107) #[] #[]] w fun e w' => e = .returned (.int .i64 0) ∧ Below w.heap.size w w') := by
   show ∀ w, _
   intro w; have := reach_alnum s w (by unfold maxLen; omega); rw [h1] at this; exact this
 have HT : Hid (∀ w, Calls Tryz.prog 108 #[.string s] w fun e w' => e = .returned (.int .i64 0) ∧ Below w.heap.size w w') := by
   show ∀ w, _
   intro w; have := tlen_any s w hs; rw [h2] at this; exact this
 have HM : Hid (∀ w, Calls Tryz.prog 110 #[.string s] w fun e w' => e = .returned (.int .i64 (n : Nat)) ∧ w = w') := by
   show ∀ w, _
   intro w; have := mark_any s w hs; rw [← hn] at this; exact this
 rw [← hn] at hF hle
 have hle' : n ≤ s.size := by simpa using hle
 have HF := Lib.hid hF; clear hF hn hle h0 h1 h2
 have ht := take_ba s n
 have HX := Lib.hid ht; clear ht
 go_enter Tryz.func78, Tryz.ntmps78
 go_wp2_with (first
   | (go_at_call 104; refine (HD.out _).mono ?_; clear HD; rintro e w1 ⟨rfl, hb⟩; have hx := (Bx.new w #[.int .i64 0, .string ⟨#[]⟩, .int .i64 0] 78).next hb; have hB := below_box hb; clear hb)
   | (go_at_call 104; refine (HA.out _).mono ?_; clear HA; rintro e w1 ⟨rfl, hb⟩; replace hx := hx.next hb; replace hB := hB.trans (hb.mono hB.size); clear hb)
   | (go_at_call 108; refine (HT.out _).mono ?_; clear HT; rintro e w1 ⟨rfl, hb⟩; replace hx := hx.next hb; replace hB := hB.trans (hb.mono hB.size); clear hb)
   | (go_at_call 110; refine (HM.out _).mono ?_; clear HM; rintro e w1 ⟨rfl, rfl⟩)
   | (go_at_call 106; refine (cloneW_any _ _ (by simp; omega)).mono ?_; rintro e w1 ⟨rfl, hb⟩; replace hx := hx.next hb; replace hB := hB.trans (hb.mono hB.size); clear hb; obtain ⟨c0, c1, c2, c3⟩ := hx.get3))
 refine bodyPost_ret (v := .tuple #[.agg #[.int .i64 4, .string (s.extract 0 n), .int .i64 0], .int .i64 n]) (by simp [results, Tryz.results78, go_sem, c0, c1, c2, c3]) rfl ⟨?_, below3 hB (Nat.le_refl _) _ _ _⟩
 rw [HF.out, HX.out]; rfl
theorem first_any (s : ByteArray) (w : World) (hs : s.size ≤ 16777216) : FirstSaid s w := by
 by_cases h0 : 0 < spanL digit s.data.toList
 · exact first_digits s w hs h0
 by_cases h1 : 0 < spanL alnum s.data.toList
 · exact first_name s w hs (by omega) h1
 by_cases h2 : 0 < textLen s.data.toList
 · cases hp : plainOk (inner s.data.toList (textLen s.data.toList))
   · exact first_bad s w hs (by omega) (by omega) h2 hp
   · exact first_text s w hs (by omega) (by omega) h2 hp
 · exact first_mark s w hs (by omega) (by omega) (by omega)
end
end Go.Proofs.YtnbfajmdfkgebaaGreatDoor
