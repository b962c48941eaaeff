/- Parts of the proof: Lex, SignD. -/
import Derived.Test.YtaclhdpjkgoadaaGreatDoorProg
import Derived.WalkKit
import Derived.Deep.QuietTactic
import Derived.BigQuiet
import Derived.Test.YtaclhdpjkgoadaaGreatDoorP4
import Derived.Lib.Hide
import Derived.BigCall
set_option maxHeartbeats 2000000
namespace Go.Proofs.YtaclhdpjkgoadaaGreatDoor
set_option linter.unusedSimpArgs false
set_option linter.unusedVariables false
section
end
section
open Go.RowKit
theorem shaped_big (s : ByteArray) (w : World) (hs : s.size ≤ maxLen) : Calls Tryz.prog 113 #[.string s, .func (.func 116) #[] #[]] w fun e w' => e = .returned (.bool (shape big s)) ∧ Below w.heap.size w w' := by
 unfold maxLen at hs
 by_cases h0 : s.size = 0
 · obtain rfl := size0 s h0
   go_enter Tryz.func113, Tryz.ntmps113
   go_wp2
   go_ret
   exact ⟨by have e : (⟨#[]⟩ : ByteArray).size = 0 := rfl; simp [shape, e], Below.refl _ _⟩
 · have hne := ne_nil s h0
   by_cases h20 : 20 < s.size
   · go_enter Tryz.func113, Tryz.ntmps113
     go_wp2
     go_ret
     exact ⟨by simp [shape]; omega, Below.refl _ _⟩
   · have h20' : (s.size : Int) ≤ 20 := by omega
     go_enter Tryz.func113, Tryz.ntmps113
     go_wp2
     go_loopw [] (fun wr => ∃ p : Nat, wr = w.iter s p ∧ p ≤ s.size ∧ allAl s p = allAl s 0 ∧ (0 < p → big (bt s 0) = true)) (fun wr => s.size - wr.iterPos w.heap.size)
     case atStart => exact ⟨0, rfl, Nat.zero_le _, rfl, fun h => by omega⟩
     case round =>
       obtain ⟨p, rfl, hp, hb, hf⟩ := hrel
       have Hb := Lib.hid hb; clear hb
       have Hf := Lib.hid hf; clear hf
       by_cases hlt : p < s.size
       · have hnx := fun ty => run_next_any (P := Tryz.prog) w s p ty hlt
         have hw := wid_pos s p
         have hwl := wid_le s p hlt
         cases hal : alnum ((Utf8.decode s p).1 : Nat)
         · have HR := Lib.hid (shape_no_al big s p hlt Hb.out hal)
           obtain ⟨a1, a2, a3⟩ := al0 hal
           rcases Nat.eq_zero_or_pos p with rfl | hpos
           · go_wp2_with (first | (go_at_call 114; refine (small_any _ _).mono ?_; rintro e w' ⟨rfl, rfl⟩) | (go_at_call 116; refine (big_any _ _).mono ?_; rintro e w' ⟨rfl, rfl⟩) | (go_at_call 106; refine (digit_any _ _).mono ?_; rintro e w' ⟨rfl, rfl⟩))
             go_ret
             exact ⟨by rw [HR.out]; rfl, iter_below w s _⟩
           · have hpb : ((p : Int) == 0) = false := by rw [beq_eq_false_iff_ne]; omega
             go_wp2_with (first | (go_at_call 114; refine (small_any _ _).mono ?_; rintro e w' ⟨rfl, rfl⟩) | (go_at_call 116; refine (big_any _ _).mono ?_; rintro e w' ⟨rfl, rfl⟩) | (go_at_call 106; refine (digit_any _ _).mono ?_; rintro e w' ⟨rfl, rfl⟩))
             go_ret
             exact ⟨by rw [HR.out]; rfl, iter_below w s _⟩
         · have HS := Lib.hid (al_next s p hlt Hb.out hal)
           rcases Nat.eq_zero_or_pos p with rfl | hpos
           · cases hf : big ((Utf8.decode s 0).1 : Nat)
             · have HR := Lib.hid (shape_no_first big s hal hf)
               clear hal
               go_wp2_with (first | (go_at_call 114; refine (small_any _ _).mono ?_; rintro e w' ⟨rfl, rfl⟩) | (go_at_call 116; refine (big_any _ _).mono ?_; rintro e w' ⟨rfl, rfl⟩) | (go_at_call 106; refine (digit_any _ _).mono ?_; rintro e w' ⟨rfl, rfl⟩))
               go_ret
               exact ⟨by rw [HR.out]; rfl, iter_below w s _⟩
             · have HF := Lib.hid (first_next big s hal hf)
               rcases al3 hal with a1 | ⟨a1, a2⟩ | ⟨a1, a2, a3⟩
               all_goals clear hal
               all_goals go_wp2_with (first | (go_at_call 114; refine (small_any _ _).mono ?_; rintro e w' ⟨rfl, rfl⟩) | (go_at_call 116; refine (big_any _ _).mono ?_; rintro e w' ⟨rfl, rfl⟩) | (go_at_call 106; refine (digit_any _ _).mono ?_; rintro e w' ⟨rfl, rfl⟩))
               all_goals go_roundw
               all_goals first | exact ⟨_, rfl, by first | exact hwl | simpa using hwl, by first | exact HS.out | simpa using HS.out, fun _ => HF.out⟩ | (simp; omega)
           · have hpb : ((p : Int) == 0) = false := by rw [beq_eq_false_iff_ne]; omega
             have HF := Lib.hid (Hf.out hpos)
             rcases al3 hal with a1 | ⟨a1, a2⟩ | ⟨a1, a2, a3⟩
             all_goals clear hal
             all_goals go_wp2_with (first | (go_at_call 114; refine (small_any _ _).mono ?_; rintro e w' ⟨rfl, rfl⟩) | (go_at_call 116; refine (big_any _ _).mono ?_; rintro e w' ⟨rfl, rfl⟩) | (go_at_call 106; refine (digit_any _ _).mono ?_; rintro e w' ⟨rfl, rfl⟩))
             all_goals go_roundw
             all_goals first | exact ⟨p + (Utf8.decode s p).2, rfl, hwl, HS.out, fun _ => HF.out⟩ | (simp; omega)
       · have hnx := fun ty => run_next_end (P := Tryz.prog) w s p ty hlt
         have he := allAl_end s p hlt
         have HR : Hid (shape big s = true) := by
           show shape big s = true
           rw [shape, ← Hb.out, he, Hf.out (by omega)]; simp; omega
         clear he
         go_wp2
         go_ret
         exact ⟨by rw [HR.out]; rfl, iter_below w s p⟩
theorem name_any (s : ByteArray) (w : World) (hs : s.size ≤ maxLen) : Calls Tryz.prog 68 #[.string s] w fun e w' => e = .returned (.bool (nameOk s)) ∧ Below w.heap.size w w' := by
 go_enter Tryz.func68, Tryz.ntmps68
 cases h1 : shape small s
 · have HR : Hid (nameOk s = false) := by show nameOk s = false; simp [nameOk, h1]
   go_wp2_with (first | (go_at_call 113; refine (shaped_small _ _ hs).mono ?_; rintro e w1 ⟨rfl, hb⟩))
   go_ret
   exact ⟨by rw [HR.out]; rfl, hb⟩
 · cases h2 : kept s.data.toList
   · have HR : Hid (nameOk s = true) := by show nameOk s = true; simp [nameOk, h1, h2]
     go_wp2_with (first | (go_at_call 113; refine (shaped_small _ _ hs).mono ?_; rintro e w1 ⟨rfl, hb⟩) | (go_at_call 115; refine (reserved_any _ _).mono ?_; rintro e w2 ⟨rfl, rfl⟩))
     go_ret
     exact ⟨by rw [HR.out]; rfl, hb⟩
   · have HR : Hid (nameOk s = false) := by show nameOk s = false; simp [nameOk, h2]
     go_wp2_with (first | (go_at_call 113; refine (shaped_small _ _ hs).mono ?_; rintro e w1 ⟨rfl, hb⟩) | (go_at_call 115; refine (reserved_any _ _).mono ?_; rintro e w2 ⟨rfl, rfl⟩))
     go_ret
     exact ⟨by rw [HR.out]; rfl, hb⟩
theorem class_any (s : ByteArray) (w : World) (hs : s.size ≤ maxLen) : Calls Tryz.prog 69 #[.string s] w fun e w' => e = .returned (.bool (classOk s)) ∧ Below w.heap.size w w' := by
 go_enter Tryz.func69, Tryz.ntmps69
 cases h1 : shape big s
 · have HR : Hid (classOk s = false) := by show classOk s = false; simp [classOk, h1]
   go_wp2_with (first | (go_at_call 113; refine (shaped_big _ _ hs).mono ?_; rintro e w1 ⟨rfl, hb⟩))
   go_ret
   exact ⟨by rw [HR.out]; rfl, hb⟩
 · go_wp2_with (first | (go_at_call 113; refine (shaped_big _ _ hs).mono ?_; rintro e w1 ⟨rfl, hb⟩))
   go_ret
   exact ⟨by rw [show classOk s = !(s.toList == [83, 116, 114, 105, 110, 103]) from by rw [classOk, h1, Lib.toList_data]; rfl]; rfl, hb⟩
end
end Go.Proofs.YtaclhdpjkgoadaaGreatDoor
