/- Parts of the proof: Sign, SignB, SignC, SignD, SignE. -/
import Derived.Test.YtnbfajmdfkgebaaGreatDoorShelf
import Derived.Test.YtnbfajmdfkgebaaGreatDoorP0
import Derived.WalkKit
import Derived.BigCall
import Derived.Deep.QuietTactic
import Derived.BigQuiet
import Derived.Lib.Hide
import Derived.Lib.RuneBytes
set_option maxHeartbeats 2000000
namespace Go.Proofs.YtnbfajmdfkgebaaGreatDoor
set_option linter.unusedSimpArgs false
set_option linter.unusedVariables false
section
open Go.RowKit
theorem small_any (r : Int) (w : World) : Calls Tryz.prog 113 #[.int .i32 r] w fun e w' => e = .returned (.bool (small r)) ∧ w = w' := by
 go_enter Tryz.func113, Tryz.ntmps113
 go_wp2
 all_goals (go_ret; exact ⟨by simp [small, *] <;> omega, rfl⟩)
theorem big_any (r : Int) (w : World) : Calls Tryz.prog 115 #[.int .i32 r] w fun e w' => e = .returned (.bool (big r)) ∧ w = w' := by
 go_enter Tryz.func115, Tryz.ntmps115
 go_wp2
 all_goals (go_ret; exact ⟨by simp [big, *] <;> omega, rfl⟩)
theorem digit_any (r : Int) (w : World) : Calls Tryz.prog 105 #[.int .i32 r] w fun e w' => e = .returned (.bool (digit r)) ∧ w = w' := by
 go_enter Tryz.func105, Tryz.ntmps105
 go_wp2
 all_goals (go_ret; exact ⟨by simp [digit, *] <;> omega, rfl⟩)
theorem letterOf_any (r : Int) (w : World) : Calls Tryz.prog 151 #[.int .i32 r] w fun e w' => e = .returned (.tuple #[.int .i32 (letter r), .bool (must r)]) ∧ w = w' := by
 go_enter Tryz.func151, Tryz.ntmps151
 go_wp2
 all_goals (go_ret2; refine ⟨?_, rfl⟩)
 all_goals (unfold letter must; simp_all)
theorem meantBy_any (r : Int) (esc : Bool) (w : World) : Calls Tryz.prog 135 #[.int .i32 r, .bool esc] w fun e w' => e = .returned (.tuple #[.int .i32 (meant r esc), .bool (means r esc)]) ∧ w = w' := by
 go_enter Tryz.func135, Tryz.ntmps135
 cases esc
 all_goals go_wp2_with (go_at_call 151; refine (letterOf_any _ _).mono ?_; rintro e w' ⟨rfl, rfl⟩)
 all_goals (go_ret2; refine ⟨?_, rfl⟩)
 all_goals (simp only [must] at *; unfold meant means; simp_all [must] <;> omega)
end
section
open Go.RowKit
theorem size0 (s : ByteArray) (h : s.size = 0) : s = ⟨#[]⟩ := by
 cases s with | mk d => congr 1; exact Array.eq_empty_of_size_eq_zero h
theorem ne_nil (s : ByteArray) (h : ¬ s.size = 0) : s.toList.isEmpty = false := by
 rw [Lib.toList_data, List.isEmpty_eq_false_iff]; intro e; apply h; have := congrArg List.length e; simpa using this
theorem iter_below (w : World) (s : ByteArray) (p : Nat) : Below w.heap.size w (w.iter s p) := (Below.refl _ w).alloc (Nat.le_refl _) _
theorem hasPrefix_any (s t : ByteArray) (b : Bool) (w : World) (h : Lib.hasPrefix s.data.toList t.data.toList = b) : Calls Tryz.prog 79 #[.string s, .string t] w fun e w' => e = .returned (.bool b) ∧ w = w' := by
 refine (Tryz.strings_HasPrefix s t w).mono ?_
 rintro e w' ⟨rfl, rfl⟩
 exact ⟨by rw [h], rfl⟩
theorem bad_any (s : ByteArray) (w : World) (hs : s.size ≤ maxLen) : Calls Tryz.prog 53 #[.string s] w fun e w' => e = .returned (.int .i64 (bad s)) ∧ Below w.heap.size w w' := by
 unfold maxLen at hs
 go_enter Tryz.func53, Tryz.ntmps53
 go_wp2
 go_loopw [] (fun wr => ∃ p : Nat, wr = w.iter s p ∧ p ≤ s.size ∧ badFrom s p = bad s) (fun wr => s.size - wr.iterPos w.heap.size)
 case atStart => exact ⟨0, rfl, Nat.zero_le _, rfl⟩
 case round =>
   obtain ⟨p, rfl, hp, hb⟩ := hrel
   by_cases hlt : p < s.size
   · have hnx := fun ty => run_next_any (P := Tryz.prog) w s p ty hlt
     have hw := wid_pos s p
     have hwl := wid_le s p hlt
     by_cases hF : (Utf8.decode s p).1 = 65533
     · have hFb : ((((Utf8.decode s p).1 : Nat) : Int) == 65533) = true := by rw [beq_iff_eq]; omega
       by_cases hB : badAt s p = true
       · have hst := badFrom_at s p hlt hB
         have hpf := fffd_bad s p hB
         have Hb := Lib.hid (hst.symm.trans hb); clear hb hst
         have Hpf := Lib.hid hpf; clear hpf
         clear hF hB
         go_wp2_with (go_at_call 79; refine (hasPrefix_any _ _ _ _ Hpf.out).mono ?_; rintro e w' ⟨rfl, rfl⟩)
         go_ret
         exact ⟨by rw [← Hb.out]; rfl, iter_below w s _⟩
       · have hB' : badAt s p = false := by simpa using hB
         have hst := badFrom_step s p hlt hB'
         have hpf := fffd_good s p hlt hF hB'
         have Hb := Lib.hid (hst.symm.trans hb); clear hb hst
         have Hpf := Lib.hid hpf; clear hpf
         clear hF hB hB'
         go_wp2_with (go_at_call 79; refine (hasPrefix_any _ _ _ _ Hpf.out).mono ?_; rintro e w' ⟨rfl, rfl⟩)
         go_roundw
         case rel => exact ⟨p + (Utf8.decode s p).2, rfl, hwl, Hb.out⟩
         case measure => simp; omega
     · have hFb : ((((Utf8.decode s p).1 : Nat) : Int) == 65533) = false := by rw [beq_eq_false_iff_ne]; omega
       have hst := badFrom_step s p hlt (badAt_not (fun e => hF (by rw [e])))
       have Hb := Lib.hid (hst.symm.trans hb); clear hb hst
       clear hF
       go_wp2
       go_roundw
       case rel => exact ⟨p + (Utf8.decode s p).2, rfl, hwl, Hb.out⟩
       case measure => simp; omega
   · have hnx := fun ty => run_next_end (P := Tryz.prog) w s p ty hlt
     have he := badFrom_end s p hlt
     have Hb := Lib.hid (hb.symm.trans he); clear hb he
     go_wp2
     go_ret
     exact ⟨by rw [Hb.out]; rfl, iter_below w s p⟩
end
section
open Go.RowKit
theorem reserved_any (s : ByteArray) (w : World) : Calls Tryz.prog 114 #[.string s] w fun e w' => e = .returned (.bool (kept s.data.toList)) ∧ w = w' := by
 go_enter Tryz.func114, Tryz.ntmps114
 rw [← Lib.toList_data]
 go_wp2
 all_goals (go_ret; refine ⟨?_, rfl⟩)
 all_goals first | (simp_all only [kept, keptWords, List.contains_cons]; done) | (simp_all [kept, keptWords, List.contains_cons]; done)
theorem shaped_small (s : ByteArray) (w : World) (hs : s.size ≤ maxLen) : Calls Tryz.prog 112 #[.string s, .func (.func 113) #[] #[]] w fun e w' => e = .returned (.bool (shape small s)) ∧ Below w.heap.size w w' := by
 unfold maxLen at hs
 by_cases h0 : s.size = 0
 · obtain rfl := size0 s h0
   go_enter Tryz.func112, Tryz.ntmps112
   go_wp2
   go_ret
   exact ⟨by have e : (⟨#[]⟩ : ByteArray).size = 0 := rfl; simp [shape, e], Below.refl _ _⟩
 · have hne := ne_nil s h0
   by_cases h20 : 20 < s.size
   · go_enter Tryz.func112, Tryz.ntmps112
     go_wp2
     go_ret
     exact ⟨by simp [shape]; omega, Below.refl _ _⟩
   · have h20' : (s.size : Int) ≤ 20 := by omega
     go_enter Tryz.func112, Tryz.ntmps112
     go_wp2
     go_loopw [] (fun wr => ∃ p : Nat, wr = w.iter s p ∧ p ≤ s.size ∧ allAl s p = allAl s 0 ∧ (0 < p → small (bt s 0) = true)) (fun wr => s.size - wr.iterPos w.heap.size)
     case atStart => exact ⟨0, rfl, Nat.zero_le _, rfl, fun h => by omega⟩
     case round =>
       obtain ⟨p, rfl, hp, hb, hf⟩ := hrel
       have Hb := Lib.hid hb; clear hb
       have Hf := Lib.hid hf; clear hf
       by_cases hlt : p < s.size
       · have hnx := fun ty => run_next_any (P := Tryz.prog) w s p ty hlt
         have hw := wid_pos s p
         have hwl := wid_le s p hlt
         cases hal : alnum ((Utf8.decode s p).1 : Nat)
         · have HR := Lib.hid (shape_no_al small s p hlt Hb.out hal)
           obtain ⟨a1, a2, a3⟩ := al0 hal
           rcases Nat.eq_zero_or_pos p with rfl | hpos
           · go_wp2_with (first | (go_at_call 113; refine (small_any _ _).mono ?_; rintro e w' ⟨rfl, rfl⟩) | (go_at_call 115; refine (big_any _ _).mono ?_; rintro e w' ⟨rfl, rfl⟩) | (go_at_call 105; refine (digit_any _ _).mono ?_; rintro e w' ⟨rfl, rfl⟩))
             go_ret
             exact ⟨by rw [HR.out]; rfl, iter_below w s _⟩
           · have hpb : ((p : Int) == 0) = false := by rw [beq_eq_false_iff_ne]; omega
             go_wp2_with (first | (go_at_call 113; refine (small_any _ _).mono ?_; rintro e w' ⟨rfl, rfl⟩) | (go_at_call 115; refine (big_any _ _).mono ?_; rintro e w' ⟨rfl, rfl⟩) | (go_at_call 105; refine (digit_any _ _).mono ?_; rintro e w' ⟨rfl, rfl⟩))
             go_ret
             exact ⟨by rw [HR.out]; rfl, iter_below w s _⟩
         · have HS := Lib.hid (al_next s p hlt Hb.out hal)
           rcases Nat.eq_zero_or_pos p with rfl | hpos
           · cases hf : small ((Utf8.decode s 0).1 : Nat)
             · have HR := Lib.hid (shape_no_first small s hal hf)
               clear hal
               go_wp2_with (first | (go_at_call 113; refine (small_any _ _).mono ?_; rintro e w' ⟨rfl, rfl⟩) | (go_at_call 115; refine (big_any _ _).mono ?_; rintro e w' ⟨rfl, rfl⟩) | (go_at_call 105; refine (digit_any _ _).mono ?_; rintro e w' ⟨rfl, rfl⟩))
               go_ret
               exact ⟨by rw [HR.out]; rfl, iter_below w s _⟩
             · have HF := Lib.hid (first_next small s hal hf)
               rcases al3 hal with a1 | ⟨a1, a2⟩ | ⟨a1, a2, a3⟩
               all_goals clear hal
               all_goals go_wp2_with (first | (go_at_call 113; refine (small_any _ _).mono ?_; rintro e w' ⟨rfl, rfl⟩) | (go_at_call 115; refine (big_any _ _).mono ?_; rintro e w' ⟨rfl, rfl⟩) | (go_at_call 105; refine (digit_any _ _).mono ?_; rintro e w' ⟨rfl, rfl⟩))
               all_goals go_roundw
               all_goals first | exact ⟨_, rfl, by first | exact hwl | simpa using hwl, by first | exact HS.out | simpa using HS.out, fun _ => HF.out⟩ | (simp; omega)
           · have hpb : ((p : Int) == 0) = false := by rw [beq_eq_false_iff_ne]; omega
             have HF := Lib.hid (Hf.out hpos)
             rcases al3 hal with a1 | ⟨a1, a2⟩ | ⟨a1, a2, a3⟩
             all_goals clear hal
             all_goals go_wp2_with (first | (go_at_call 113; refine (small_any _ _).mono ?_; rintro e w' ⟨rfl, rfl⟩) | (go_at_call 115; refine (big_any _ _).mono ?_; rintro e w' ⟨rfl, rfl⟩) | (go_at_call 105; refine (digit_any _ _).mono ?_; rintro e w' ⟨rfl, rfl⟩))
             all_goals go_roundw
             all_goals first | exact ⟨p + (Utf8.decode s p).2, rfl, hwl, HS.out, fun _ => HF.out⟩ | (simp; omega)
       · have hnx := fun ty => run_next_end (P := Tryz.prog) w s p ty hlt
         have he := allAl_end s p hlt
         have HR : Hid (shape small s = true) := by
           show shape small s = true
           rw [shape, ← Hb.out, he, Hf.out (by omega)]; simp; omega
         clear he
         go_wp2
         go_ret
         exact ⟨by rw [HR.out]; rfl, iter_below w s p⟩
end
section
open Go.RowKit
theorem shaped_big (s : ByteArray) (w : World) (hs : s.size ≤ maxLen) : Calls Tryz.prog 112 #[.string s, .func (.func 115) #[] #[]] w fun e w' => e = .returned (.bool (shape big s)) ∧ Below w.heap.size w w' := by
 unfold maxLen at hs
 by_cases h0 : s.size = 0
 · obtain rfl := size0 s h0
   go_enter Tryz.func112, Tryz.ntmps112
   go_wp2
   go_ret
   exact ⟨by have e : (⟨#[]⟩ : ByteArray).size = 0 := rfl; simp [shape, e], Below.refl _ _⟩
 · have hne := ne_nil s h0
   by_cases h20 : 20 < s.size
   · go_enter Tryz.func112, Tryz.ntmps112
     go_wp2
     go_ret
     exact ⟨by simp [shape]; omega, Below.refl _ _⟩
   · have h20' : (s.size : Int) ≤ 20 := by omega
     go_enter Tryz.func112, Tryz.ntmps112
     go_wp2
     go_loopw [] (fun wr => ∃ p : Nat, wr = w.iter s p ∧ p ≤ s.size ∧ allAl s p = allAl s 0 ∧ (0 < p → big (bt s 0) = true)) (fun wr => s.size - wr.iterPos w.heap.size)
     case atStart => exact ⟨0, rfl, Nat.zero_le _, rfl, fun h => by omega⟩
     case round =>
       obtain ⟨p, rfl, hp, hb, hf⟩ := hrel
       have Hb := Lib.hid hb; clear hb
       have Hf := Lib.hid hf; clear hf
       by_cases hlt : p < s.size
       · have hnx := fun ty => run_next_any (P := Tryz.prog) w s p ty hlt
         have hw := wid_pos s p
         have hwl := wid_le s p hlt
         cases hal : alnum ((Utf8.decode s p).1 : Nat)
         · have HR := Lib.hid (shape_no_al big s p hlt Hb.out hal)
           obtain ⟨a1, a2, a3⟩ := al0 hal
           rcases Nat.eq_zero_or_pos p with rfl | hpos
           · go_wp2_with (first | (go_at_call 113; refine (small_any _ _).mono ?_; rintro e w' ⟨rfl, rfl⟩) | (go_at_call 115; refine (big_any _ _).mono ?_; rintro e w' ⟨rfl, rfl⟩) | (go_at_call 105; refine (digit_any _ _).mono ?_; rintro e w' ⟨rfl, rfl⟩))
             go_ret
             exact ⟨by rw [HR.out]; rfl, iter_below w s _⟩
           · have hpb : ((p : Int) == 0) = false := by rw [beq_eq_false_iff_ne]; omega
             go_wp2_with (first | (go_at_call 113; refine (small_any _ _).mono ?_; rintro e w' ⟨rfl, rfl⟩) | (go_at_call 115; refine (big_any _ _).mono ?_; rintro e w' ⟨rfl, rfl⟩) | (go_at_call 105; refine (digit_any _ _).mono ?_; rintro e w' ⟨rfl, rfl⟩))
             go_ret
             exact ⟨by rw [HR.out]; rfl, iter_below w s _⟩
         · have HS := Lib.hid (al_next s p hlt Hb.out hal)
           rcases Nat.eq_zero_or_pos p with rfl | hpos
           · cases hf : big ((Utf8.decode s 0).1 : Nat)
             · have HR := Lib.hid (shape_no_first big s hal hf)
               clear hal
               go_wp2_with (first | (go_at_call 113; refine (small_any _ _).mono ?_; rintro e w' ⟨rfl, rfl⟩) | (go_at_call 115; refine (big_any _ _).mono ?_; rintro e w' ⟨rfl, rfl⟩) | (go_at_call 105; refine (digit_any _ _).mono ?_; rintro e w' ⟨rfl, rfl⟩))
               go_ret
               exact ⟨by rw [HR.out]; rfl, iter_below w s _⟩
             · have HF := Lib.hid (first_next big s hal hf)
               rcases al3 hal with a1 | ⟨a1, a2⟩ | ⟨a1, a2, a3⟩
               all_goals clear hal
               all_goals go_wp2_with (first | (go_at_call 113; refine (small_any _ _).mono ?_; rintro e w' ⟨rfl, rfl⟩) | (go_at_call 115; refine (big_any _ _).mono ?_; rintro e w' ⟨rfl, rfl⟩) | (go_at_call 105; refine (digit_any _ _).mono ?_; rintro e w' ⟨rfl, rfl⟩))
               all_goals go_roundw
               all_goals first | exact ⟨_, rfl, by first | exact hwl | simpa using hwl, by first | exact HS.out | simpa using HS.out, fun _ => HF.out⟩ | (simp; omega)
           · have hpb : ((p : Int) == 0) = false := by rw [beq_eq_false_iff_ne]; omega
             have HF := Lib.hid (Hf.out hpos)
             rcases al3 hal with a1 | ⟨a1, a2⟩ | ⟨a1, a2, a3⟩
             all_goals clear hal
             all_goals go_wp2_with (first | (go_at_call 113; refine (small_any _ _).mono ?_; rintro e w' ⟨rfl, rfl⟩) | (go_at_call 115; refine (big_any _ _).mono ?_; rintro e w' ⟨rfl, rfl⟩) | (go_at_call 105; refine (digit_any _ _).mono ?_; rintro e w' ⟨rfl, rfl⟩))
             all_goals go_roundw
             all_goals first | exact ⟨p + (Utf8.decode s p).2, rfl, hwl, HS.out, fun _ => HF.out⟩ | (simp; omega)
       · have hnx := fun ty => run_next_end (P := Tryz.prog) w s p ty hlt
         have he := allAl_end s p hlt
         have HR : Hid (shape big s = true) := by
           show shape big s = true
           rw [shape, ← Hb.out, he, Hf.out (by omega)]; simp; omega
         clear he
         go_wp2
         go_ret
         exact ⟨by rw [HR.out]; rfl, iter_below w s p⟩
theorem name_any (s : ByteArray) (w : World) (hs : s.size ≤ maxLen) : Calls Tryz.prog 80 #[.string s] w fun e w' => e = .returned (.bool (nameOk s)) ∧ Below w.heap.size w w' := by
 go_enter Tryz.func80, Tryz.ntmps80
 cases h1 : shape small s
 · have HR : Hid (nameOk s = false) := by show nameOk s = false; simp [nameOk, h1]
   go_wp2_with (first | (go_at_call 112; refine (shaped_small _ _ hs).mono ?_; rintro e w1 ⟨rfl, hb⟩))
   go_ret
   exact ⟨by rw [HR.out]; rfl, hb⟩
 · cases h2 : kept s.data.toList
   · have HR : Hid (nameOk s = true) := by show nameOk s = true; simp [nameOk, h1, h2]
     go_wp2_with (first | (go_at_call 112; refine (shaped_small _ _ hs).mono ?_; rintro e w1 ⟨rfl, hb⟩) | (go_at_call 114; refine (reserved_any _ _).mono ?_; rintro e w2 ⟨rfl, rfl⟩))
     go_ret
     exact ⟨by rw [HR.out]; rfl, hb⟩
   · have HR : Hid (nameOk s = false) := by show nameOk s = false; simp [nameOk, h2]
     go_wp2_with (first | (go_at_call 112; refine (shaped_small _ _ hs).mono ?_; rintro e w1 ⟨rfl, hb⟩) | (go_at_call 114; refine (reserved_any _ _).mono ?_; rintro e w2 ⟨rfl, rfl⟩))
     go_ret
     exact ⟨by rw [HR.out]; rfl, hb⟩
theorem class_any (s : ByteArray) (w : World) (hs : s.size ≤ maxLen) : Calls Tryz.prog 81 #[.string s] w fun e w' => e = .returned (.bool (classOk s)) ∧ Below w.heap.size w w' := by
 go_enter Tryz.func81, Tryz.ntmps81
 cases h1 : shape big s
 · have HR : Hid (classOk s = false) := by show classOk s = false; simp [classOk, h1]
   go_wp2_with (first | (go_at_call 112; refine (shaped_big _ _ hs).mono ?_; rintro e w1 ⟨rfl, hb⟩))
   go_ret
   exact ⟨by rw [HR.out]; rfl, hb⟩
 · go_wp2_with (first | (go_at_call 112; refine (shaped_big _ _ hs).mono ?_; rintro e w1 ⟨rfl, hb⟩))
   go_ret
   exact ⟨by rw [show classOk s = !(s.toList == [83, 116, 114, 105, 110, 103]) from by rw [classOk, h1, Lib.toList_data]; rfl]; rfl, hb⟩
end
section
open Go.RowKit
def Bld (B b : Nat) (l : List UInt8) (w : World) : Prop := Lib.IsBuilderF 177 5 B b (Lib.byteCells l) w
theorem wrune (B b : Nat) (l : List UInt8) (r : Int) (h0 : 0 ≤ r) (h1 : r ≤ 1114111) (w : World) (h : Bld B b l w) (hl : l.length ≤ 70368744177664) (hBw : B ≤ w.heap.size) :
   Calls Tryz.prog 136 #[.pointer (some ⟨b, 0, none⟩), .int .i32 r] w fun e w' => (∃ n : Nat, e = .returned (.tuple #[.int .i64 n, .nilIface])) ∧ Bld B b (l ++ Lib.encodeRune r) w' ∧ Below B w w' ∧ Lib.OthersKept 5 (some b) w w' := by
 refine (Tryz.Builder_WriteRune_k B b _ r (by omega) (by omega) w h (by rw [Lib.byteCells_length]; omega) hBw).mono ?_
 rintro e w' ⟨rfl, h1, b1, k1⟩
 refine ⟨⟨_, rfl⟩, ?_, b1, k1⟩
 unfold Bld
 rw [Lib.byteCells_append, Lib.byteCells_encodeRune]
 exact Or.inr h1
theorem bstring (B b : Nat) (l : List UInt8) (w : World) (h : Bld B b l w) (hBw : B ≤ w.heap.size) :
   Calls Tryz.prog 137 #[.pointer (some ⟨b, 0, none⟩)] w fun e w' => e = .returned (.string ⟨l.toArray⟩) ∧ Bld B b l w' ∧ Below B w w' ∧ Lib.OthersKept 5 (some b) w w' :=
 Tryz.Builder_String_any_k B b l w h hBw
theorem bnew (w : World) : Bld w.heap.size w.heap.size [] (w.alloc (.cells #[.pointer none, .slice none 0 0] 177)) := Lib.IsBuilderF.of (Lib.fresh_isBuilder 177 5 w)
theorem Bld.iterAt {B b : Nat} {l : List UInt8} {w : World} (h : Bld B b l w) {k : Nat} {s : ByteArray} {p : Nat} (hk : w.heap[k]? = some (.stringIter s p)) (p' : Nat) : Bld B b l (w.iterAt k s p') := Lib.IsBuilderF.iterAt h hk p'
theorem Bld.alloc {B b : Nat} {l : List UInt8} {w : World} (h : Bld B b l w) (o : Obj) : Bld B b l (w.alloc o) := Lib.IsBuilderF.alloc h o
end
end Go.Proofs.YtnbfajmdfkgebaaGreatDoor
