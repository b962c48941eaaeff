/- Contract of the function of package word that tells signs. -/
import Derived.Test.YtolhanngkackcaaWordA
set_option linter.unusedSimpArgs false
set_option linter.unusedVariables false
namespace Go.Proofs.Ytolhanngkackcaa
open Go.RowKit

theorem take2 (s : ByteArray) : (s.extract 0 (min 2 (s.size : Int)).toNat).toList = s.data.toList.take 2 := by
  rw [Lib.toList_data, extract_list, List.drop_zero, Nat.sub_zero]
  have hl : s.data.toList.length = s.size := by simp
  by_cases h : 2 ≤ s.size
  · rw [show (min 2 (s.size : Int)).toNat = 2 from by omega]
  · rw [show (min 2 (s.size : Int)).toNat = s.size from by omega, List.take_of_length_le (by omega), List.take_of_length_le (by omega)]
theorem take2_eq (s : ByteArray) (x c : List UInt8) (b : Bool) (h : s.data.toList.take 2 = x) (hb : (x == c) = b) : ((s.extract 0 (min 2 (s.size : Int)).toNat).toList == c) = b := by
  rw [take2, h, hb]
theorem take2_ne (s : ByteArray) (c : List UInt8) (hc : c ∈ twos) (h : ¬ s.data.toList.take 2 ∈ twos) : ((s.extract 0 (min 2 (s.size : Int)).toNat).toList == c) = false := by
  rw [take2, beq_eq_false_iff_ne]; intro e; exact h (e ▸ hc)
theorem mark_two (l : List UInt8) (h : l.take 2 ∈ twos) : markL l = 2 := by
  unfold markL; rw [if_pos (by rw [List.contains_iff_mem]; exact h)]
theorem mark_one (s : ByteArray) (h : 0 < s.size) (hn : ¬ s.data.toList.take 2 ∈ twos) : markL s.data.toList = if ones.contains (s.get! 0) = true then 1 else 0 := by
  obtain ⟨b, e, h1, h2⟩ := dropc s 0 h
  rw [List.drop_zero] at e
  unfold markL
  rw [if_neg (by rw [List.contains_iff_mem]; exact hn), e, ← h2]
theorem get_one (s : ByteArray) (k : UInt8) : (s.get! 0 == k) = (((bt s 0 : Nat) : Int) == ((k.toNat : Nat) : Int)) := by
  rw [Bool.eq_iff_iff, beq_iff_eq, beq_iff_eq, get_bt]; omega
theorem ones_in (s : ByteArray) : ones.contains (s.get! 0) = ((((bt s 0 : Nat) : Int) == 123) || ((((bt s 0 : Nat) : Int) == 125) || ((((bt s 0 : Nat) : Int) == 40) || ((((bt s 0 : Nat) : Int) == 41) || ((((bt s 0 : Nat) : Int) == 59) || ((((bt s 0 : Nat) : Int) == 44) || ((((bt s 0 : Nat) : Int) == 46) || ((((bt s 0 : Nat) : Int) == 61) || ((((bt s 0 : Nat) : Int) == 60) || ((((bt s 0 : Nat) : Int) == 43) || ((((bt s 0 : Nat) : Int) == 45) || ((((bt s 0 : Nat) : Int) == 42) || ((((bt s 0 : Nat) : Int) == 47) || ((((bt s 0 : Nat) : Int) == 37) || ((((bt s 0 : Nat) : Int) == 33) || ((((bt s 0 : Nat) : Int) == 35) || ((((bt s 0 : Nat) : Int) == 64)))))))))))))))))) := by
  simp only [ones, List.contains_cons, List.contains_nil, Bool.or_false]
  rw [show (s.get! 0 == 123) = (((bt s 0 : Nat) : Int) == 123) from get_one s 123]
  rw [show (s.get! 0 == 125) = (((bt s 0 : Nat) : Int) == 125) from get_one s 125]
  rw [show (s.get! 0 == 40) = (((bt s 0 : Nat) : Int) == 40) from get_one s 40]
  rw [show (s.get! 0 == 41) = (((bt s 0 : Nat) : Int) == 41) from get_one s 41]
  rw [show (s.get! 0 == 59) = (((bt s 0 : Nat) : Int) == 59) from get_one s 59]
  rw [show (s.get! 0 == 44) = (((bt s 0 : Nat) : Int) == 44) from get_one s 44]
  rw [show (s.get! 0 == 46) = (((bt s 0 : Nat) : Int) == 46) from get_one s 46]
  rw [show (s.get! 0 == 61) = (((bt s 0 : Nat) : Int) == 61) from get_one s 61]
  rw [show (s.get! 0 == 60) = (((bt s 0 : Nat) : Int) == 60) from get_one s 60]
  rw [show (s.get! 0 == 43) = (((bt s 0 : Nat) : Int) == 43) from get_one s 43]
  rw [show (s.get! 0 == 45) = (((bt s 0 : Nat) : Int) == 45) from get_one s 45]
  rw [show (s.get! 0 == 42) = (((bt s 0 : Nat) : Int) == 42) from get_one s 42]
  rw [show (s.get! 0 == 47) = (((bt s 0 : Nat) : Int) == 47) from get_one s 47]
  rw [show (s.get! 0 == 37) = (((bt s 0 : Nat) : Int) == 37) from get_one s 37]
  rw [show (s.get! 0 == 33) = (((bt s 0 : Nat) : Int) == 33) from get_one s 33]
  rw [show (s.get! 0 == 35) = (((bt s 0 : Nat) : Int) == 35) from get_one s 35]
  rw [show (s.get! 0 == 64) = (((bt s 0 : Nat) : Int) == 64) from get_one s 64]
def MarkSaid (s : ByteArray) (w : World) : Prop := Calls Try.prog 35 #[.string s] w fun e w' => e = .returned (.int .i64 (markL s.data.toList : Nat)) ∧ w = w'
theorem mark_t0 (s : ByteArray) (w : World) (hs : s.size ≤ 16777216) (h : s.data.toList.take 2 = [58, 58]) : MarkSaid s w := by
  unfold MarkSaid
  have h0 : ¬ s.size = 0 := by
    intro e
    have hl : s.data.toList.length = s.size := by simp
    have := congrArg List.length h
    rw [List.length_take] at this; simp at this; omega
  have hne := ne_nil s h0
  have HM := Lib.hid (mark_two s.data.toList (by rw [h]; decide))
  have f0 := take2_eq s _ [58, 58] true h (by decide)
  have m1 : 0 ≤ min 2 (s.size : Int) := by omega
  have m2 : min 2 (s.size : Int) ≤ s.size := by omega
  clear h
  go_enter Try.func35, Try.ntmps35
  go_wp2
  go_ret
  exact ⟨by rw [HM.out]; rfl, rfl⟩
theorem mark_t1 (s : ByteArray) (w : World) (hs : s.size ≤ 16777216) (h : s.data.toList.take 2 = [60, 61]) : MarkSaid s w := by
  unfold MarkSaid
  have h0 : ¬ s.size = 0 := by
    intro e
    have hl : s.data.toList.length = s.size := by simp
    have := congrArg List.length h
    rw [List.length_take] at this; simp at this; omega
  have hne := ne_nil s h0
  have HM := Lib.hid (mark_two s.data.toList (by rw [h]; decide))
  have f0 := take2_eq s _ [58, 58] false h (by decide)
  have f1 := take2_eq s _ [60, 61] true h (by decide)
  have m1 : 0 ≤ min 2 (s.size : Int) := by omega
  have m2 : min 2 (s.size : Int) ≤ s.size := by omega
  clear h
  go_enter Try.func35, Try.ntmps35
  go_wp2
  go_ret
  exact ⟨by rw [HM.out]; rfl, rfl⟩
theorem mark_t2 (s : ByteArray) (w : World) (hs : s.size ≤ 16777216) (h : s.data.toList.take 2 = [61, 61]) : MarkSaid s w := by
  unfold MarkSaid
  have h0 : ¬ s.size = 0 := by
    intro e
    have hl : s.data.toList.length = s.size := by simp
    have := congrArg List.length h
    rw [List.length_take] at this; simp at this; omega
  have hne := ne_nil s h0
  have HM := Lib.hid (mark_two s.data.toList (by rw [h]; decide))
  have f0 := take2_eq s _ [58, 58] false h (by decide)
  have f1 := take2_eq s _ [60, 61] false h (by decide)
  have f2 := take2_eq s _ [61, 61] true h (by decide)
  have m1 : 0 ≤ min 2 (s.size : Int) := by omega
  have m2 : min 2 (s.size : Int) ≤ s.size := by omega
  clear h
  go_enter Try.func35, Try.ntmps35
  go_wp2
  go_ret
  exact ⟨by rw [HM.out]; rfl, rfl⟩
theorem mark_t3 (s : ByteArray) (w : World) (hs : s.size ≤ 16777216) (h : s.data.toList.take 2 = [33, 61]) : MarkSaid s w := by
  unfold MarkSaid
  have h0 : ¬ s.size = 0 := by
    intro e
    have hl : s.data.toList.length = s.size := by simp
    have := congrArg List.length h
    rw [List.length_take] at this; simp at this; omega
  have hne := ne_nil s h0
  have HM := Lib.hid (mark_two s.data.toList (by rw [h]; decide))
  have f0 := take2_eq s _ [58, 58] false h (by decide)
  have f1 := take2_eq s _ [60, 61] false h (by decide)
  have f2 := take2_eq s _ [61, 61] false h (by decide)
  have f3 := take2_eq s _ [33, 61] true h (by decide)
  have m1 : 0 ≤ min 2 (s.size : Int) := by omega
  have m2 : min 2 (s.size : Int) ≤ s.size := by omega
  clear h
  go_enter Try.func35, Try.ntmps35
  go_wp2
  go_ret
  exact ⟨by rw [HM.out]; rfl, rfl⟩
theorem mark_t4 (s : ByteArray) (w : World) (hs : s.size ≤ 16777216) (h : s.data.toList.take 2 = [38, 38]) : MarkSaid s w := by
  unfold MarkSaid
  have h0 : ¬ s.size = 0 := by
    intro e
    have hl : s.data.toList.length = s.size := by simp
    have := congrArg List.length h
    rw [List.length_take] at this; simp at this; omega
  have hne := ne_nil s h0
  have HM := Lib.hid (mark_two s.data.toList (by rw [h]; decide))
  have f0 := take2_eq s _ [58, 58] false h (by decide)
  have f1 := take2_eq s _ [60, 61] false h (by decide)
  have f2 := take2_eq s _ [61, 61] false h (by decide)
  have f3 := take2_eq s _ [33, 61] false h (by decide)
  have f4 := take2_eq s _ [38, 38] true h (by decide)
  have m1 : 0 ≤ min 2 (s.size : Int) := by omega
  have m2 : min 2 (s.size : Int) ≤ s.size := by omega
  clear h
  go_enter Try.func35, Try.ntmps35
  go_wp2
  go_ret
  exact ⟨by rw [HM.out]; rfl, rfl⟩
theorem mark_t5 (s : ByteArray) (w : World) (hs : s.size ≤ 16777216) (h : s.data.toList.take 2 = [124, 124]) : MarkSaid s w := by
  unfold MarkSaid
  have h0 : ¬ s.size = 0 := by
    intro e
    have hl : s.data.toList.length = s.size := by simp
    have := congrArg List.length h
    rw [List.length_take] at this; simp at this; omega
  have hne := ne_nil s h0
  have HM := Lib.hid (mark_two s.data.toList (by rw [h]; decide))
  have f0 := take2_eq s _ [58, 58] false h (by decide)
  have f1 := take2_eq s _ [60, 61] false h (by decide)
  have f2 := take2_eq s _ [61, 61] false h (by decide)
  have f3 := take2_eq s _ [33, 61] false h (by decide)
  have f4 := take2_eq s _ [38, 38] false h (by decide)
  have f5 := take2_eq s _ [124, 124] true h (by decide)
  have m1 : 0 ≤ min 2 (s.size : Int) := by omega
  have m2 : min 2 (s.size : Int) ≤ s.size := by omega
  clear h
  go_enter Try.func35, Try.ntmps35
  go_wp2
  go_ret
  exact ⟨by rw [HM.out]; rfl, rfl⟩
set_option maxHeartbeats 1000000 in
theorem mark_n (s : ByteArray) (w : World) (hs : s.size ≤ 16777216) (h0 : ¬ s.size = 0) (h : ¬ s.data.toList.take 2 ∈ twos) : MarkSaid s w := by
  unfold MarkSaid
  have hne := ne_nil s h0
  have hbt := bt_eq s 0 (by omega)
  have hlt := bt_lt s 0
  have HM := Lib.hid (mark_one s (by omega) h)
  have f0 := take2_ne s [58, 58] (by decide) h
  have f1 := take2_ne s [60, 61] (by decide) h
  have f2 := take2_ne s [61, 61] (by decide) h
  have f3 := take2_ne s [33, 61] (by decide) h
  have f4 := take2_ne s [38, 38] (by decide) h
  have f5 := take2_ne s [124, 124] (by decide) h
  have m1 : 0 ≤ min 2 (s.size : Int) := by omega
  have m2 : min 2 (s.size : Int) ≤ s.size := by omega
  have m3 : 0 < s.size := by omega
  clear h
  go_enter Try.func35, Try.ntmps35
  go_wp2
  all_goals (go_ret; refine ⟨?_, rfl⟩; rw [HM.out, ones_in]; clear HM f0 f1 f2 f3 f4 f5)
  all_goals first | (simp_all only [Bool.true_or, Bool.or_true, Bool.false_or, if_true, Bool.false_eq_true, if_false]; done) | (simp_all; done)
theorem mark_any (s : ByteArray) (w : World) (hs : s.size ≤ 16777216) : Calls Try.prog 35 #[.string s] w fun e w' => e = .returned (.int .i64 (markL s.data.toList : Nat)) ∧ w = w' := by
  by_cases h0 : s.size = 0
  · obtain rfl := size0 s h0
    go_enter Try.func35, Try.ntmps35
    go_wp2
    go_ret
    exact ⟨rfl, rfl⟩
  · by_cases h : s.data.toList.take 2 ∈ twos
    · have h' := h
      simp only [twos, List.mem_cons, List.not_mem_nil, or_false] at h'
      rcases h' with h' | h' | h' | h' | h' | h'
      · exact mark_t0 s w hs h'
      · exact mark_t1 s w hs h'
      · exact mark_t2 s w hs h'
      · exact mark_t3 s w hs h'
      · exact mark_t4 s w hs h'
      · exact mark_t5 s w hs h'
    · exact mark_n s w hs h0 h
end Go.Proofs.Ytolhanngkackcaa
