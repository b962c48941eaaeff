/- Parts of the proof: Sign, SignB, SignC, SignD, SignE, SignF. -/
import Derived.Test.YtipcoglddfgopaaGreatDoorShelf
import Derived.Test.YtipcoglddfgopaaGreatDoorText
import Derived.WalkKit
import Derived.BigCall
import Derived.Deep.QuietTactic
import Derived.BigQuiet
import Derived.Lib.Hide
import Derived.Lib.RuneBytes
set_option maxHeartbeats 2000000
namespace Go.Proofs.YtipcoglddfgopaaGreatDoor
set_option linter.unusedSimpArgs false
set_option linter.unusedVariables false
section
open Go.RowKit
theorem small_any (r : Int) (w : World) : Calls Tryz.prog 90 #[.int .i32 r] w fun e w' => e = .returned (.bool (small r)) ∧ w = w' := by
 go_enter Tryz.func90, Tryz.ntmps90
 go_wp2
 all_goals (go_ret; exact ⟨by simp [small, *] <;> omega, rfl⟩)
theorem big_any (r : Int) (w : World) : Calls Tryz.prog 92 #[.int .i32 r] w fun e w' => e = .returned (.bool (big r)) ∧ w = w' := by
 go_enter Tryz.func92, Tryz.ntmps92
 go_wp2
 all_goals (go_ret; exact ⟨by simp [big, *] <;> omega, rfl⟩)
theorem digit_any (r : Int) (w : World) : Calls Tryz.prog 82 #[.int .i32 r] w fun e w' => e = .returned (.bool (digit r)) ∧ w = w' := by
 go_enter Tryz.func82, Tryz.ntmps82
 go_wp2
 all_goals (go_ret; exact ⟨by simp [digit, *] <;> omega, rfl⟩)
theorem letterOf_any (r : Int) (w : World) : Calls Tryz.prog 128 #[.int .i32 r] w fun e w' => e = .returned (.tuple #[.int .i32 (letter r), .bool (must r)]) ∧ w = w' := by
 go_enter Tryz.func128, Tryz.ntmps128
 go_wp2
 all_goals (go_ret2; refine ⟨?_, rfl⟩)
 all_goals (unfold letter must; simp_all)
theorem meantBy_any (r : Int) (esc : Bool) (w : World) : Calls Tryz.prog 112 #[.int .i32 r, .bool esc] w fun e w' => e = .returned (.tuple #[.int .i32 (meant r esc), .bool (means r esc)]) ∧ w = w' := by
 go_enter Tryz.func112, Tryz.ntmps112
 cases esc
 all_goals go_wp2_with (go_at_call 128; refine (letterOf_any _ _).mono ?_; rintro e w' ⟨rfl, rfl⟩)
 all_goals (go_ret2; refine ⟨?_, rfl⟩)
 all_goals (simp only [must] at *; unfold meant means; simp_all [must] <;> omega)
end
section
open Go.RowKit
theorem size0 (s : ByteArray) (h : s.size = 0) : s = ⟨#[]⟩ := by
 cases s with | mk d => congr 1; exact Array.eq_empty_of_size_eq_zero h
theorem ne_nil (s : ByteArray) (h : ¬ s.size = 0) : s.toList.isEmpty = false := by
 rw [Lib.toList_data, List.isEmpty_eq_false_iff]; intro e; apply h; have := congrArg List.length e; simpa using this
theorem iter_below (w : World) (s : ByteArray) (p : Nat) : Below w.heap.size w (w.iter s p) := (Below.refl _ w).alloc (Nat.le_refl _) _
theorem hasPrefix_any (s t : ByteArray) (b : Bool) (w : World) (h : Lib.hasPrefix s.data.toList t.data.toList = b) : Calls Tryz.prog 57 #[.string s, .string t] w fun e w' => e = .returned (.bool b) ∧ w = w' := by
 refine (Tryz.strings_HasPrefix s t w).mono ?_
 rintro e w' ⟨rfl, rfl⟩
 exact ⟨by rw [h], rfl⟩
theorem bad_any (s : ByteArray) (w : World) (hs : s.size ≤ maxLen) : Calls Tryz.prog 34 #[.string s] w fun e w' => e = .returned (.int .i64 (bad s)) ∧ Below w.heap.size w w' := by
 unfold maxLen at hs
 go_enter Tryz.func34, Tryz.ntmps34
 go_wp2
 go_loopw [] (fun wr => ∃ p : Nat, wr = w.iter s p ∧ p ≤ s.size ∧ badFrom s p = bad s) (fun wr => s.size - wr.iterPos w.heap.size)
 case atStart => exact ⟨0, rfl, Nat.zero_le _, rfl⟩
 case round =>
   obtain ⟨p, rfl, hp, hb⟩ := hrel
   by_cases hlt : p < s.size
   · have hnx := fun ty => run_next_any (P := Tryz.prog) w s p ty hlt
     have hw := wid_pos s p
     have hwl := wid_le s p hlt
     by_cases hF : (Utf8.decode s p).1 = 65533
     · have hFb : ((((Utf8.decode s p).1 : Nat) : Int) == 65533) = true := by rw [beq_iff_eq]; omega
       by_cases hB : badAt s p = true
       · have hst := badFrom_at s p hlt hB
         have hpf := fffd_bad s p hB
         have Hb := Lib.hid (hst.symm.trans hb); clear hb hst
         have Hpf := Lib.hid hpf; clear hpf
         clear hF hB
         go_wp2_with (go_at_call 57; refine (hasPrefix_any _ _ _ _ Hpf.out).mono ?_; rintro e w' ⟨rfl, rfl⟩)
         go_ret
         exact ⟨by rw [← Hb.out]; rfl, iter_below w s _⟩
       · have hB' : badAt s p = false := by simpa using hB
         have hst := badFrom_step s p hlt hB'
         have hpf := fffd_good s p hlt hF hB'
         have Hb := Lib.hid (hst.symm.trans hb); clear hb hst
         have Hpf := Lib.hid hpf; clear hpf
         clear hF hB hB'
         go_wp2_with (go_at_call 57; refine (hasPrefix_any _ _ _ _ Hpf.out).mono ?_; rintro e w' ⟨rfl, rfl⟩)
         go_roundw
         case rel => exact ⟨p + (Utf8.decode s p).2, rfl, hwl, Hb.out⟩
         case measure => simp; omega
     · have hFb : ((((Utf8.decode s p).1 : Nat) : Int) == 65533) = false := by rw [beq_eq_false_iff_ne]; omega
       have hst := badFrom_step s p hlt (badAt_not (fun e => hF (by rw [e])))
       have Hb := Lib.hid (hst.symm.trans hb); clear hb hst
       clear hF
       go_wp2
       go_roundw
       case rel => exact ⟨p + (Utf8.decode s p).2, rfl, hwl, Hb.out⟩
       case measure => simp; omega
   · have hnx := fun ty => run_next_end (P := Tryz.prog) w s p ty hlt
     have he := badFrom_end s p hlt
     have Hb := Lib.hid (hb.symm.trans he); clear hb he
     go_wp2
     go_ret
     exact ⟨by rw [Hb.out]; rfl, iter_below w s p⟩
end
section
open Go.RowKit
theorem reserved_any (s : ByteArray) (w : World) : Calls Tryz.prog 91 #[.string s] w fun e w' => e = .returned (.bool (kept s.data.toList)) ∧ w = w' := by
 go_enter Tryz.func91, Tryz.ntmps91
 rw [← Lib.toList_data]
 go_wp2
 all_goals (go_ret; refine ⟨?_, rfl⟩)
 all_goals first | (simp_all only [kept, keptWords, List.contains_cons]; done) | (simp_all [kept, keptWords, List.contains_cons]; done)
theorem shaped_small (s : ByteArray) (w : World) (hs : s.size ≤ maxLen) : Calls Tryz.prog 89 #[.string s, .func (.func 90) #[] #[]] w fun e w' => e = .returned (.bool (shape small s)) ∧ Below w.heap.size w w' := by
 unfold maxLen at hs
 by_cases h0 : s.size = 0
 · obtain rfl := size0 s h0
   go_enter Tryz.func89, Tryz.ntmps89
   go_wp2
   go_ret
   exact ⟨by have e : (⟨#[]⟩ : ByteArray).size = 0 := rfl; simp [shape, e], Below.refl _ _⟩
 · have hne := ne_nil s h0
   by_cases h20 : 20 < s.size
   · go_enter Tryz.func89, Tryz.ntmps89
     go_wp2
     go_ret
     exact ⟨by simp [shape]; omega, Below.refl _ _⟩
   · have h20' : (s.size : Int) ≤ 20 := by omega
     go_enter Tryz.func89, Tryz.ntmps89
     go_wp2
     go_loopw [] (fun wr => ∃ p : Nat, wr = w.iter s p ∧ p ≤ s.size ∧ allAl s p = allAl s 0 ∧ (0 < p → small (bt s 0) = true)) (fun wr => s.size - wr.iterPos w.heap.size)
     case atStart => exact ⟨0, rfl, Nat.zero_le _, rfl, fun h => by omega⟩
     case round =>
       obtain ⟨p, rfl, hp, hb, hf⟩ := hrel
       have Hb := Lib.hid hb; clear hb
       have Hf := Lib.hid hf; clear hf
       by_cases hlt : p < s.size
       · have hnx := fun ty => run_next_any (P := Tryz.prog) w s p ty hlt
         have hw := wid_pos s p
         have hwl := wid_le s p hlt
         cases hal : alnum ((Utf8.decode s p).1 : Nat)
         · have HR := Lib.hid (shape_no_al small s p hlt Hb.out hal)
           obtain ⟨a1, a2, a3⟩ := al0 hal
           rcases Nat.eq_zero_or_pos p with rfl | hpos
           · go_wp2_with (first | (go_at_call 90; refine (small_any _ _).mono ?_; rintro e w' ⟨rfl, rfl⟩) | (go_at_call 92; refine (big_any _ _).mono ?_; rintro e w' ⟨rfl, rfl⟩) | (go_at_call 82; refine (digit_any _ _).mono ?_; rintro e w' ⟨rfl, rfl⟩))
             go_ret
             exact ⟨by rw [HR.out]; rfl, iter_below w s _⟩
           · have hpb : ((p : Int) == 0) = false := by rw [beq_eq_false_iff_ne]; omega
             go_wp2_with (first | (go_at_call 90; refine (small_any _ _).mono ?_; rintro e w' ⟨rfl, rfl⟩) | (go_at_call 92; refine (big_any _ _).mono ?_; rintro e w' ⟨rfl, rfl⟩) | (go_at_call 82; refine (digit_any _ _).mono ?_; rintro e w' ⟨rfl, rfl⟩))
             go_ret
             exact ⟨by rw [HR.out]; rfl, iter_below w s _⟩
         · have HS := Lib.hid (al_next s p hlt Hb.out hal)
           rcases Nat.eq_zero_or_pos p with rfl | hpos
           · cases hf : small ((Utf8.decode s 0).1 : Nat)
             · have HR := Lib.hid (shape_no_first small s hal hf)
               clear hal
               go_wp2_with (first | (go_at_call 90; refine (small_any _ _).mono ?_; rintro e w' ⟨rfl, rfl⟩) | (go_at_call 92; refine (big_any _ _).mono ?_; rintro e w' ⟨rfl, rfl⟩) | (go_at_call 82; refine (digit_any _ _).mono ?_; rintro e w' ⟨rfl, rfl⟩))
               go_ret
               exact ⟨by rw [HR.out]; rfl, iter_below w s _⟩
             · have HF := Lib.hid (first_next small s hal hf)
               rcases al3 hal with a1 | ⟨a1, a2⟩ | ⟨a1, a2, a3⟩
               all_goals clear hal
               all_goals go_wp2_with (first | (go_at_call 90; refine (small_any _ _).mono ?_; rintro e w' ⟨rfl, rfl⟩) | (go_at_call 92; refine (big_any _ _).mono ?_; rintro e w' ⟨rfl, rfl⟩) | (go_at_call 82; refine (digit_any _ _).mono ?_; rintro e w' ⟨rfl, rfl⟩))
               all_goals go_roundw
               all_goals first | exact ⟨_, rfl, by first | exact hwl | simpa using hwl, by first | exact HS.out | simpa using HS.out, fun _ => HF.out⟩ | (simp; omega)
           · have hpb : ((p : Int) == 0) = false := by rw [beq_eq_false_iff_ne]; omega
             have HF := Lib.hid (Hf.out hpos)
             rcases al3 hal with a1 | ⟨a1, a2⟩ | ⟨a1, a2, a3⟩
             all_goals clear hal
             all_goals go_wp2_with (first | (go_at_call 90; refine (small_any _ _).mono ?_; rintro e w' ⟨rfl, rfl⟩) | (go_at_call 92; refine (big_any _ _).mono ?_; rintro e w' ⟨rfl, rfl⟩) | (go_at_call 82; refine (digit_any _ _).mono ?_; rintro e w' ⟨rfl, rfl⟩))
             all_goals go_roundw
             all_goals first | exact ⟨p + (Utf8.decode s p).2, rfl, hwl, HS.out, fun _ => HF.out⟩ | (simp; omega)
       · have hnx := fun ty => run_next_end (P := Tryz.prog) w s p ty hlt
         have he := allAl_end s p hlt
         have HR : Hid (shape small s = true) := by
           show shape small s = true
           rw [shape, ← Hb.out, he, Hf.out (by omega)]; simp; omega
         clear he
         go_wp2
         go_ret
         exact ⟨by rw [HR.out]; rfl, iter_below w s p⟩
end
section
open Go.RowKit
theorem shaped_big (s : ByteArray) (w : World) (hs : s.size ≤ maxLen) : Calls Tryz.prog 89 #[.string s, .func (.func 92) #[] #[]] w fun e w' => e = .returned (.bool (shape big s)) ∧ Below w.heap.size w w' := by
 unfold maxLen at hs
 by_cases h0 : s.size = 0
 · obtain rfl := size0 s h0
   go_enter Tryz.func89, Tryz.ntmps89
   go_wp2
   go_ret
   exact ⟨by have e : (⟨#[]⟩ : ByteArray).size = 0 := rfl; simp [shape, e], Below.refl _ _⟩
 · have hne := ne_nil s h0
   by_cases h20 : 20 < s.size
   · go_enter Tryz.func89, Tryz.ntmps89
     go_wp2
     go_ret
     exact ⟨by simp [shape]; omega, Below.refl _ _⟩
   · have h20' : (s.size : Int) ≤ 20 := by omega
     go_enter Tryz.func89, Tryz.ntmps89
     go_wp2
     go_loopw [] (fun wr => ∃ p : Nat, wr = w.iter s p ∧ p ≤ s.size ∧ allAl s p = allAl s 0 ∧ (0 < p → big (bt s 0) = true)) (fun wr => s.size - wr.iterPos w.heap.size)
     case atStart => exact ⟨0, rfl, Nat.zero_le _, rfl, fun h => by omega⟩
     case round =>
       obtain ⟨p, rfl, hp, hb, hf⟩ := hrel
       have Hb := Lib.hid hb; clear hb
       have Hf := Lib.hid hf; clear hf
       by_cases hlt : p < s.size
       · have hnx := fun ty => run_next_any (P := Tryz.prog) w s p ty hlt
         have hw := wid_pos s p
         have hwl := wid_le s p hlt
         cases hal : alnum ((Utf8.decode s p).1 : Nat)
         · have HR := Lib.hid (shape_no_al big s p hlt Hb.out hal)
           obtain ⟨a1, a2, a3⟩ := al0 hal
           rcases Nat.eq_zero_or_pos p with rfl | hpos
           · go_wp2_with (first | (go_at_call 90; refine (small_any _ _).mono ?_; rintro e w' ⟨rfl, rfl⟩) | (go_at_call 92; refine (big_any _ _).mono ?_; rintro e w' ⟨rfl, rfl⟩) | (go_at_call 82; refine (digit_any _ _).mono ?_; rintro e w' ⟨rfl, rfl⟩))
             go_ret
             exact ⟨by rw [HR.out]; rfl, iter_below w s _⟩
           · have hpb : ((p : Int) == 0) = false := by rw [beq_eq_false_iff_ne]; omega
             go_wp2_with (first | (go_at_call 90; refine (small_any _ _).mono ?_; rintro e w' ⟨rfl, rfl⟩) | (go_at_call 92; refine (big_any _ _).mono ?_; rintro e w' ⟨rfl, rfl⟩) | (go_at_call 82; refine (digit_any _ _).mono ?_; rintro e w' ⟨rfl, rfl⟩))
             go_ret
             exact ⟨by rw [HR.out]; rfl, iter_below w s _⟩
         · have HS := Lib.hid (al_next s p hlt Hb.out hal)
           rcases Nat.eq_zero_or_pos p with rfl | hpos
           · cases hf : big ((Utf8.decode s 0).1 : Nat)
             · have HR := Lib.hid (shape_no_first big s hal hf)
               clear hal
               go_wp2_with (first | (go_at_call 90; refine (small_any _ _).mono ?_; rintro e w' ⟨rfl, rfl⟩) | (go_at_call 92; refine (big_any _ _).mono ?_; rintro e w' ⟨rfl, rfl⟩) | (go_at_call 82; refine (digit_any _ _).mono ?_; rintro e w' ⟨rfl, rfl⟩))
               go_ret
               exact ⟨by rw [HR.out]; rfl, iter_below w s _⟩
             · have HF := Lib.hid (first_next big s hal hf)
               rcases al3 hal with a1 | ⟨a1, a2⟩ | ⟨a1, a2, a3⟩
               all_goals clear hal
               all_goals go_wp2_with (first | (go_at_call 90; refine (small_any _ _).mono ?_; rintro e w' ⟨rfl, rfl⟩) | (go_at_call 92; refine (big_any _ _).mono ?_; rintro e w' ⟨rfl, rfl⟩) | (go_at_call 82; refine (digit_any _ _).mono ?_; rintro e w' ⟨rfl, rfl⟩))
               all_goals go_roundw
               all_goals first | exact ⟨_, rfl, by first | exact hwl | simpa using hwl, by first | exact HS.out | simpa using HS.out, fun _ => HF.out⟩ | (simp; omega)
           · have hpb : ((p : Int) == 0) = false := by rw [beq_eq_false_iff_ne]; omega
             have HF := Lib.hid (Hf.out hpos)
             rcases al3 hal with a1 | ⟨a1, a2⟩ | ⟨a1, a2, a3⟩
             all_goals clear hal
             all_goals go_wp2_with (first | (go_at_call 90; refine (small_any _ _).mono ?_; rintro e w' ⟨rfl, rfl⟩) | (go_at_call 92; refine (big_any _ _).mono ?_; rintro e w' ⟨rfl, rfl⟩) | (go_at_call 82; refine (digit_any _ _).mono ?_; rintro e w' ⟨rfl, rfl⟩))
             all_goals go_roundw
             all_goals first | exact ⟨p + (Utf8.decode s p).2, rfl, hwl, HS.out, fun _ => HF.out⟩ | (simp; omega)
       · have hnx := fun ty => run_next_end (P := Tryz.prog) w s p ty hlt
         have he := allAl_end s p hlt
         have HR : Hid (shape big s = true) := by
           show shape big s = true
           rw [shape, ← Hb.out, he, Hf.out (by omega)]; simp; omega
         clear he
         go_wp2
         go_ret
         exact ⟨by rw [HR.out]; rfl, iter_below w s p⟩
theorem name_any (s : ByteArray) (w : World) (hs : s.size ≤ maxLen) : Calls Tryz.prog 58 #[.string s] w fun e w' => e = .returned (.bool (nameOk s)) ∧ Below w.heap.size w w' := by
 go_enter Tryz.func58, Tryz.ntmps58
 cases h1 : shape small s
 · have HR : Hid (nameOk s = false) := by show nameOk s = false; simp [nameOk, h1]
   go_wp2_with (first | (go_at_call 89; refine (shaped_small _ _ hs).mono ?_; rintro e w1 ⟨rfl, hb⟩))
   go_ret
   exact ⟨by rw [HR.out]; rfl, hb⟩
 · cases h2 : kept s.data.toList
   · have HR : Hid (nameOk s = true) := by show nameOk s = true; simp [nameOk, h1, h2]
     go_wp2_with (first | (go_at_call 89; refine (shaped_small _ _ hs).mono ?_; rintro e w1 ⟨rfl, hb⟩) | (go_at_call 91; refine (reserved_any _ _).mono ?_; rintro e w2 ⟨rfl, rfl⟩))
     go_ret
     exact ⟨by rw [HR.out]; rfl, hb⟩
   · have HR : Hid (nameOk s = false) := by show nameOk s = false; simp [nameOk, h2]
     go_wp2_with (first | (go_at_call 89; refine (shaped_small _ _ hs).mono ?_; rintro e w1 ⟨rfl, hb⟩) | (go_at_call 91; refine (reserved_any _ _).mono ?_; rintro e w2 ⟨rfl, rfl⟩))
     go_ret
     exact ⟨by rw [HR.out]; rfl, hb⟩
theorem class_any (s : ByteArray) (w : World) (hs : s.size ≤ maxLen) : Calls Tryz.prog 59 #[.string s] w fun e w' => e = .returned (.bool (classOk s)) ∧ Below w.heap.size w w' := by
 go_enter Tryz.func59, Tryz.ntmps59
 cases h1 : shape big s
 · have HR : Hid (classOk s = false) := by show classOk s = false; simp [classOk, h1]
   go_wp2_with (first | (go_at_call 89; refine (shaped_big _ _ hs).mono ?_; rintro e w1 ⟨rfl, hb⟩))
   go_ret
   exact ⟨by rw [HR.out]; rfl, hb⟩
 · go_wp2_with (first | (go_at_call 89; refine (shaped_big _ _ hs).mono ?_; rintro e w1 ⟨rfl, hb⟩))
   go_ret
   exact ⟨by rw [show classOk s = !(s.toList == [83, 116, 114, 105, 110, 103]) from by rw [classOk, h1, Lib.toList_data]; rfl]; rfl, hb⟩
end
section
open Go.RowKit
def Bld (B b : Nat) (l : List UInt8) (w : World) : Prop := Lib.IsBuilderF 168 5 B b (Lib.byteCells l) w
theorem wrune (B b : Nat) (l : List UInt8) (r : Int) (h0 : 0 ≤ r) (h1 : r ≤ 1114111) (w : World) (h : Bld B b l w) (hl : l.length ≤ 70368744177664) (hBw : B ≤ w.heap.size) :
   Calls Tryz.prog 113 #[.pointer (some ⟨b, 0, none⟩), .int .i32 r] w fun e w' => (∃ n : Nat, e = .returned (.tuple #[.int .i64 n, .nilIface])) ∧ Bld B b (l ++ Lib.encodeRune r) w' ∧ Below B w w' ∧ Lib.OthersKept 5 (some b) w w' := by
 refine (Tryz.Builder_WriteRune_k B b _ r (by omega) (by omega) w h (by rw [Lib.byteCells_length]; omega) hBw).mono ?_
 rintro e w' ⟨rfl, h1, b1, k1⟩
 refine ⟨⟨_, rfl⟩, ?_, b1, k1⟩
 unfold Bld
 rw [Lib.byteCells_append, Lib.byteCells_encodeRune]
 exact Or.inr h1
theorem bstring (B b : Nat) (l : List UInt8) (w : World) (h : Bld B b l w) (hBw : B ≤ w.heap.size) :
   Calls Tryz.prog 114 #[.pointer (some ⟨b, 0, none⟩)] w fun e w' => e = .returned (.string ⟨l.toArray⟩) ∧ Bld B b l w' ∧ Below B w w' ∧ Lib.OthersKept 5 (some b) w w' :=
 Tryz.Builder_String_any_k B b l w h hBw
theorem bnew (w : World) : Bld w.heap.size w.heap.size [] (w.alloc (.cells #[.pointer none, .slice none 0 0] 168)) := Lib.IsBuilderF.of (Lib.fresh_isBuilder 168 5 w)
theorem Bld.iterAt {B b : Nat} {l : List UInt8} {w : World} (h : Bld B b l w) {k : Nat} {s : ByteArray} {p : Nat} (hk : w.heap[k]? = some (.stringIter s p)) (p' : Nat) : Bld B b l (w.iterAt k s p') := Lib.IsBuilderF.iterAt h hk p'
theorem Bld.alloc {B b : Nat} {l : List UInt8} {w : World} (h : Bld B b l w) (o : Obj) : Bld B b l (w.alloc o) := Lib.IsBuilderF.alloc h o
end
section
open Go.RowKit
theorem ret_sb (a b : ByteArray) (x y : Bool) (h1 : a = b) (h2 : x = y) : Ending.returned (.tuple #[.string a, .bool x]) = .returned (.tuple #[.string b, .bool y]) := by rw [h1, h2]
theorem plain_any (s : ByteArray) (w : World) (hs : s.size ≤ 16777216) : Calls Tryz.prog 86 #[.string s] w fun e w' => e = .returned (.tuple #[.string ⟨(plainText s).toArray⟩, .bool (plainOk s)]) ∧ Below w.heap.size w w' := by
 by_cases hbad : 0 ≤ bad s
 · obtain ⟨r1, r2⟩ := plain_bad s hbad
   have R1 := Lib.hid r1; clear r1
   have R2 := Lib.hid r2; clear r2
   go_enter Tryz.func86, Tryz.ntmps86
   go_wp2_with (go_at_call 34; refine (bad_any _ _ (by unfold maxLen; omega)).mono ?_; rintro e w1 ⟨rfl, hb1⟩)
   go_ret2
   exact ⟨by rw [R1.out, R2.out]; rfl, hb1⟩
 · have hbad' : bad s < 0 := by omega
   go_enter Tryz.func86, Tryz.ntmps86
   go_wp2_with (go_at_call 34; refine (bad_any _ _ (by unfold maxLen; omega)).mono ?_; rintro e w1 ⟨rfl, hb1⟩)
   have hw1 := hb1.size
   have PO := Lib.hid (plain_of s hbad')
   have hI0 := bnew w1
   have bb : Below w.heap.size w (w1.alloc (.cells #[.pointer none, .slice none 0 0] 168)) := hb1.alloc (by omega) _
   go_loopw [5] (fun v5 wr => ∃ (p : Nat) (esc : Bool) (acc : List UInt8), v5 = .bool esc ∧ Bld w1.heap.size w1.heap.size acc wr ∧ wr.heap[w1.heap.size + 1]? = some (.stringIter s p) ∧ Below w.heap.size w wr ∧ Reads s p esc acc ∧ acc.length ≤ 4 * p ∧ p ≤ s.size) (fun v5 wr => s.size - wr.iterPos (w1.heap.size + 1))
   case atStart =>
     refine ⟨0, false, [], rfl, hI0.alloc _, ?_, bb.alloc (by simp; omega) _, reads_start s, by simp, Nat.zero_le _⟩
     have := World.iter_heap (w1.alloc (.cells #[.pointer none, .slice none 0 0] 168)) s 0
     simpa using this
   case round =>
     obtain ⟨p, esc, acc, rfl, hI, hit, hbw, hR, hal, hp⟩ := hrel
     have hsz : w1.heap.size + 1 < wr.heap.size := (Array.getElem?_eq_some_iff.1 hit).1
     have HR := Lib.hid hR; clear hR
     by_cases hlt : p < s.size
     · have hnx := fun ty => Lib.run_next_any_at (P := Tryz.prog) wr (w1.heap.size + 1) s p ty hit hlt
       have hw := wid_pos s p
       have hwl := wid_le s p hlt
       have hI2 := hI.iterAt hit (p + (Utf8.decode s p).2)
       have hit2 := Lib.iterAt_heap wr (w1.heap.size + 1) s p (p + (Utf8.decode s p).2) hit
       have hbw2 := Lib.below_iterAt hbw (k := w1.heap.size + 1) (by omega) s (p + (Utf8.decode s p).2)
       have hsz2 : w1.heap.size ≤ (wr.iterAt (w1.heap.size + 1) s (p + (Utf8.decode s p).2)).heap.size := by rw [Lib.iterAt_size]; omega
       by_cases h92 : (((Utf8.decode s p).1 : Nat) : Int) = 92 ∧ esc = false
       · obtain ⟨g, rfl⟩ := h92
         have HN := Lib.hid (reads_esc s p acc hlt g HR.out)
         have h92b : ((((Utf8.decode s p).1 : Nat) : Int) == 92) = true := by rw [beq_iff_eq]; exact g
         clear g
         go_wp2
         go_roundw
         case rel => exact ⟨p + (Utf8.decode s p).2, true, acc, rfl, hI2, hit2, hbw2, HN.out, by omega, hwl⟩
         case measure => simp only [World.iterPos, hit2, hit]; omega
       · have hreg : ((((Utf8.decode s p).1 : Nat) : Int) == 92) = false ∨ (((((Utf8.decode s p).1 : Nat) : Int) == 92) = true ∧ esc = true) := by
           by_cases g : (((Utf8.decode s p).1 : Nat) : Int) = 92
           · right; refine ⟨by rw [beq_iff_eq]; exact g, ?_⟩
             cases esc
             · exact absurd ⟨g, rfl⟩ h92
             · rfl
           · left; rw [beq_eq_false_iff_ne]; exact g
         cases hm : means ((Utf8.decode s p).1 : Nat) esc
         · have hn := PO.out _ (reads_none s p esc acc hlt hm h92 HR.out)
           have HN := Lib.hid hn; clear hn h92
           rcases hreg with hreg | ⟨hreg, rfl⟩
           all_goals go_wp2_with (go_at_call 112; refine (meantBy_any _ _ _).mono ?_; rintro e w' ⟨rfl, rfl⟩)
           all_goals go_ret2
           all_goals exact ⟨ret_sb _ _ _ _ (by rw [HN.out.1]; rfl) (by rw [HN.out.2]; rfl), hbw2⟩
         · have HN := Lib.hid (reads_next s p esc acc hlt hm HR.out)
           have hmr := meant_range s p esc
           have hle := enc_len (meant ((Utf8.decode s p).1 : Nat) esc)
           clear h92
           rcases hreg with hreg | ⟨hreg, rfl⟩
           all_goals go_wp2_with (first | (go_at_call 112; refine (meantBy_any _ _ _).mono ?_; rintro e w' ⟨rfl, rfl⟩) | (go_at_call 113; refine (wrune w1.heap.size w1.heap.size acc _ hmr.1 hmr.2 _ hI2 (by omega) hsz2).mono ?_))
           all_goals (
             rintro e W2 ⟨⟨n2, rfl⟩, h2, b2, k2⟩
             have hit3 := k2.iter hit2 (by omega)
             have hb3 := hbw2.trans (b2.mono hw1)
             go_wp2
             go_roundw
             case rel => exact ⟨p + (Utf8.decode s p).2, false, _, rfl, h2, hit3, hb3, HN.out, by simp; omega, hwl⟩
             case measure => simp only [World.iterPos, hit3, hit]; omega)
     · have hnx := fun ty => Lib.run_next_end_at (P := Tryz.prog) wr (w1.heap.size + 1) s p ty hit hlt
       have hn := PO.out _ (reads_end s p esc acc hlt HR.out)
       have hsz2 : w1.heap.size ≤ wr.heap.size := by omega
       cases esc
       · have HN := Lib.hid hn; clear hn
         go_wp2_with (go_at_call 114; refine (bstring w1.heap.size w1.heap.size acc _ hI hsz2).mono ?_)
         rintro e W3 ⟨rfl, h4, b4, k4⟩
         go_wp2
         go_ret2
         exact ⟨ret_sb _ _ _ _ (by rw [HN.out.1]; rfl) (by rw [HN.out.2]; rfl), hbw.trans (b4.mono hw1)⟩
       · have HN := Lib.hid hn; clear hn
         go_wp2
         go_ret2
         exact ⟨ret_sb _ _ _ _ (by rw [HN.out.1]; rfl) (by rw [HN.out.2]; rfl), hbw⟩
end
end Go.Proofs.YtipcoglddfgopaaGreatDoor
