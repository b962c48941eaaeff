/- Parts of the proof: WordC, WordD, WordE, WordF, WordH, WordI. -/
import Derived.Test.YtaclhdpjkgoadaaGreatDoorP28
import Derived.Test.YtaclhdpjkgoadaaGreatDoorP4
set_option maxHeartbeats 4000000
set_option maxRecDepth 100000
namespace Go.Proofs.YtaclhdpjkgoadaaGreatDoor
set_option linter.unusedSimpArgs false
set_option linter.unusedVariables false
section
open Go.RowKit
theorem tlen_any (s : ByteArray) (w : World) (hs : s.size ≤ 16777216) : Calls Tryz.prog 109 #[.string s] w fun e w' => e = .returned (.int .i64 (textLen s.data.toList : Nat)) ∧ Below w.heap.size w w' := by
 obtain ⟨n, hn⟩ : ∃ n, n = textLen s.data.toList := ⟨_, rfl⟩
 rw [← hn]
 have HN := Lib.hid hn; clear hn
 go_enter Tryz.func109, Tryz.ntmps109
 go_wp2
 go_loopw [3] (fun v wr => ∃ (p : Nat) (c : Bool), v = .bool c ∧ wr = w.iter s p ∧ p ≤ s.size ∧ (p = 0 → c = false) ∧ (0 < p → n = tlenL c (s.data.toList.drop p) p)) (fun v wr => s.size - wr.iterPos w.heap.size)
 case atStart => exact ⟨0, false, rfl, rfl, Nat.zero_le _, fun _ => rfl, fun h => by omega⟩
 case round =>
   obtain ⟨p, c, rfl, rfl, hp, hc, hb⟩ := hrel
   have HB := Lib.hid hb; clear hb
   have HC := Lib.hid hc; clear hc
   by_cases hlt : p < s.size
   · have hnx := fun ty => run_next_any (P := Tryz.prog) w s p ty hlt
     have hw := wid_pos s p
     have hwl := wid_le s p hlt
     rcases Nat.eq_zero_or_pos p with rfl | hpos
     · obtain rfl : c = false := HC.out rfl
       by_cases h34 : bt s 0 = 34
       · have e : (Utf8.decode s 0).2 = 1 := by rw [low_of s 0 (by omega)]
         have hF : ((((Utf8.decode s 0).1 : Nat) : Int) != 34) = false := by rw [bne_eq_false_iff_eq, (rune_is s 0 34 (by omega)).2 h34]; rfl
         have HS := Lib.hid (show n = tlenL false (s.data.toList.drop (0 + (Utf8.decode s 0).2)) (0 + (Utf8.decode s 0).2) by rw [HN.out, e, text_start s hlt h34]); clear e h34
         go_wp2
         go_roundw
         case rel => exact ⟨0 + (Utf8.decode s 0).2, false, rfl, by simp, by omega, fun _ => rfl, fun _ => HS.out⟩
         case measure => simp; omega
       · have hF : ((((Utf8.decode s 0).1 : Nat) : Int) != 34) = true := by
           rw [bne_iff_ne]; intro e; exact h34 ((rune_is s 0 34 (by omega)).1 (by omega))
         have HS := Lib.hid (show n = 0 by rw [HN.out]; exact text_none s (fun h => h34 h.2)); clear h34
         go_wp2
         go_ret
         exact ⟨by rw [HS.out]; rfl, iter_below w s _⟩
     · have hb := HB.out hpos
       have hpb : ((p : Int) == 0) = false := by rw [beq_eq_false_iff_ne]; omega
       by_cases h10 : bt s p = 10
       · have hF : ((((Utf8.decode s p).1 : Nat) : Int) == 10) = true := by rw [beq_iff_eq, (rune_is s p 10 (by omega)).2 h10]; rfl
         have HS := Lib.hid (show n = 0 by rw [hb]; exact tlen_line s c p p hlt h10); clear h10 hb
         go_wp2
         go_ret
         exact ⟨by rw [HS.out]; rfl, iter_below w s _⟩
       · have hF : ((((Utf8.decode s p).1 : Nat) : Int) == 10) = false := by
           rw [beq_eq_false_iff_ne]; intro e; exact h10 ((rune_is s p 10 (by omega)).1 (by omega))
         cases c
         · by_cases h92 : bt s p = 92
           · have e : (Utf8.decode s p).2 = 1 := by rw [low_of s p (by omega)]
             have hF2 : ((((Utf8.decode s p).1 : Nat) : Int) == 92) = true := by rw [beq_iff_eq, (rune_is s p 92 (by omega)).2 h92]; rfl
             have HS := Lib.hid (show n = tlenL true (s.data.toList.drop (p + (Utf8.decode s p).2)) (p + (Utf8.decode s p).2) by rw [hb, e]; exact tlen_back s p hlt h92); clear h10 hb e h92
             go_wp2
             go_roundw
             case rel => exact ⟨p + (Utf8.decode s p).2, true, rfl, rfl, hwl, fun h => by omega, fun _ => HS.out⟩
             case measure => simp; omega
           · have hF2 : ((((Utf8.decode s p).1 : Nat) : Int) == 92) = false := by
               rw [beq_eq_false_iff_ne]; intro e; exact h92 ((rune_is s p 92 (by omega)).1 (by omega))
             by_cases h34 : bt s p = 34
             · have hF3 : ((((Utf8.decode s p).1 : Nat) : Int) == 34) = true := by rw [beq_iff_eq, (rune_is s p 34 (by omega)).2 h34]; rfl
               have HS := Lib.hid (show n = p + 1 by rw [hb]; exact tlen_quote s p hlt h34); clear h10 hb h92 h34
               go_wp2
               go_ret
               exact ⟨by rw [HS.out]; rfl, iter_below w s _⟩
             · have hF3 : ((((Utf8.decode s p).1 : Nat) : Int) == 34) = false := by
                 rw [beq_eq_false_iff_ne]; intro e; exact h34 ((rune_is s p 34 (by omega)).1 (by omega))
               have HS := Lib.hid (show n = tlenL false (s.data.toList.drop (p + (Utf8.decode s p).2)) (p + (Utf8.decode s p).2) by rw [hb]; exact tlen_other s p hlt h10 h92 h34); clear h10 hb h92 h34
               go_wp2
               go_roundw
               case rel => exact ⟨p + (Utf8.decode s p).2, false, rfl, rfl, hwl, fun h => by omega, fun _ => HS.out⟩
               case measure => simp; omega
         · have HS := Lib.hid (show n = tlenL false (s.data.toList.drop (p + (Utf8.decode s p).2)) (p + (Utf8.decode s p).2) by rw [hb]; exact tlen_esc s p hlt h10); clear h10 hb
           go_wp2
           go_roundw
           case rel => exact ⟨p + (Utf8.decode s p).2, false, rfl, rfl, hwl, fun h => by omega, fun _ => HS.out⟩
           case measure => simp; omega
   · have hnx := fun ty => run_next_end (P := Tryz.prog) w s p ty hlt
     have HS := Lib.hid (show n = 0 by
       rcases Nat.eq_zero_or_pos p with rfl | hpos
       · rw [HN.out]; exact text_none s (fun h => hlt h.1)
       · rw [HB.out hpos]; exact tlen_end s c p p hlt)
     go_wp2
     go_ret
     exact ⟨by rw [HS.out]; rfl, iter_below w s p⟩
end
section
open Go.RowKit
theorem take2 (s : ByteArray) : (s.extract 0 (min 2 (s.size : Int)).toNat).toList = s.data.toList.take 2 := by
 rw [Lib.toList_data, extract_list, List.drop_zero, Nat.sub_zero]
 have hl : s.data.toList.length = s.size := by simp
 by_cases h : 2 ≤ s.size
 · rw [show (min 2 (s.size : Int)).toNat = 2 from by omega]
 · rw [show (min 2 (s.size : Int)).toNat = s.size from by omega, List.take_of_length_le (by omega), List.take_of_length_le (by omega)]
theorem take2_eq (s : ByteArray) (x c : List UInt8) (b : Bool) (h : s.data.toList.take 2 = x) (hb : (x == c) = b) : ((s.extract 0 (min 2 (s.size : Int)).toNat).toList == c) = b := by
 rw [take2, h, hb]
theorem take2_ne (s : ByteArray) (c : List UInt8) (hc : c ∈ twos) (h : ¬ s.data.toList.take 2 ∈ twos) : ((s.extract 0 (min 2 (s.size : Int)).toNat).toList == c) = false := by
 rw [take2, beq_eq_false_iff_ne]; intro e; exact h (e ▸ hc)
theorem mark_two (l : List UInt8) (h : l.take 2 ∈ twos) : markL l = 2 := by
 unfold markL; rw [if_pos (by rw [List.contains_iff_mem]; exact h)]
theorem mark_one (s : ByteArray) (h : 0 < s.size) (hn : ¬ s.data.toList.take 2 ∈ twos) : markL s.data.toList = if ones.contains (s.get! 0) = true then 1 else 0 := by
 obtain ⟨b, e, h1, h2⟩ := dropc s 0 h
 rw [List.drop_zero] at e
 unfold markL
 rw [if_neg (by rw [List.contains_iff_mem]; exact hn), e, ← h2]
theorem get_one (s : ByteArray) (k : UInt8) : (s.get! 0 == k) = (((bt s 0 : Nat) : Int) == ((k.toNat : Nat) : Int)) := by
 rw [Bool.eq_iff_iff, beq_iff_eq, beq_iff_eq, get_bt]; omega
theorem ones_in (s : ByteArray) : ones.contains (s.get! 0) = ((((bt s 0 : Nat) : Int) == 123) || ((((bt s 0 : Nat) : Int) == 125) || ((((bt s 0 : Nat) : Int) == 40) || ((((bt s 0 : Nat) : Int) == 41) || ((((bt s 0 : Nat) : Int) == 59) || ((((bt s 0 : Nat) : Int) == 44) || ((((bt s 0 : Nat) : Int) == 46) || ((((bt s 0 : Nat) : Int) == 61) || ((((bt s 0 : Nat) : Int) == 60) || ((((bt s 0 : Nat) : Int) == 43) || ((((bt s 0 : Nat) : Int) == 45) || ((((bt s 0 : Nat) : Int) == 42) || ((((bt s 0 : Nat) : Int) == 47) || ((((bt s 0 : Nat) : Int) == 37) || ((((bt s 0 : Nat) : Int) == 33) || ((((bt s 0 : Nat) : Int) == 35) || ((((bt s 0 : Nat) : Int) == 64)))))))))))))))))) := by
 simp only [ones, List.contains_cons, List.contains_nil, Bool.or_false]
 rw [show (s.get! 0 == 123) = (((bt s 0 : Nat) : Int) == 123) from get_one s 123]
 rw [show (s.get! 0 == 125) = (((bt s 0 : Nat) : Int) == 125) from get_one s 125]
 rw [show (s.get! 0 == 40) = (((bt s 0 : Nat) : Int) == 40) from get_one s 40]
 rw [show (s.get! 0 == 41) = (((bt s 0 : Nat) : Int) == 41) from get_one s 41]
 rw [show (s.get! 0 == 59) = (((bt s 0 : Nat) : Int) == 59) from get_one s 59]
 rw [show (s.get! 0 == 44) = (((bt s 0 : Nat) : Int) == 44) from get_one s 44]
 rw [show (s.get! 0 == 46) = (((bt s 0 : Nat) : Int) == 46) from get_one s 46]
 rw [show (s.get! 0 == 61) = (((bt s 0 : Nat) : Int) == 61) from get_one s 61]
 rw [show (s.get! 0 == 60) = (((bt s 0 : Nat) : Int) == 60) from get_one s 60]
 rw [show (s.get! 0 == 43) = (((bt s 0 : Nat) : Int) == 43) from get_one s 43]
 rw [show (s.get! 0 == 45) = (((bt s 0 : Nat) : Int) == 45) from get_one s 45]
 rw [show (s.get! 0 == 42) = (((bt s 0 : Nat) : Int) == 42) from get_one s 42]
 rw [show (s.get! 0 == 47) = (((bt s 0 : Nat) : Int) == 47) from get_one s 47]
 rw [show (s.get! 0 == 37) = (((bt s 0 : Nat) : Int) == 37) from get_one s 37]
 rw [show (s.get! 0 == 33) = (((bt s 0 : Nat) : Int) == 33) from get_one s 33]
 rw [show (s.get! 0 == 35) = (((bt s 0 : Nat) : Int) == 35) from get_one s 35]
 rw [show (s.get! 0 == 64) = (((bt s 0 : Nat) : Int) == 64) from get_one s 64]
def MarkSaid (s : ByteArray) (w : World) : Prop := Calls Tryz.prog 111 #[.string s] w fun e w' => e = .returned (.int .i64 (markL s.data.toList : Nat)) ∧ w = w'
theorem mark_t0 (s : ByteArray) (w : World) (hs : s.size ≤ 16777216) (h : s.data.toList.take 2 = [58, 58]) : MarkSaid s w := by
 unfold MarkSaid
 have h0 : ¬ s.size = 0 := by
   intro e
   have hl : s.data.toList.length = s.size := by simp
   have := congrArg List.length h
   rw [List.length_take] at this; simp at this; omega
 have hne := ne_nil s h0
 have HM := Lib.hid (mark_two s.data.toList (by rw [h]; decide))
 have f0 := take2_eq s _ [58, 58] true h (by decide)
 have m1 : 0 ≤ min 2 (s.size : Int) := by omega
 have m2 : min 2 (s.size : Int) ≤ s.size := by omega
 clear h
 go_enter Tryz.func111, Tryz.ntmps111
 go_wp2
 go_ret
 exact ⟨by rw [HM.out]; rfl, rfl⟩
theorem mark_t1 (s : ByteArray) (w : World) (hs : s.size ≤ 16777216) (h : s.data.toList.take 2 = [60, 61]) : MarkSaid s w := by
 unfold MarkSaid
 have h0 : ¬ s.size = 0 := by
   intro e
   have hl : s.data.toList.length = s.size := by simp
   have := congrArg List.length h
   rw [List.length_take] at this; simp at this; omega
 have hne := ne_nil s h0
 have HM := Lib.hid (mark_two s.data.toList (by rw [h]; decide))
 have f0 := take2_eq s _ [58, 58] false h (by decide)
 have f1 := take2_eq s _ [60, 61] true h (by decide)
 have m1 : 0 ≤ min 2 (s.size : Int) := by omega
 have m2 : min 2 (s.size : Int) ≤ s.size := by omega
 clear h
 go_enter Tryz.func111, Tryz.ntmps111
 go_wp2
 go_ret
 exact ⟨by rw [HM.out]; rfl, rfl⟩
theorem mark_t2 (s : ByteArray) (w : World) (hs : s.size ≤ 16777216) (h : s.data.toList.take 2 = [61, 61]) : MarkSaid s w := by
 unfold MarkSaid
 have h0 : ¬ s.size = 0 := by
   intro e
   have hl : s.data.toList.length = s.size := by simp
   have := congrArg List.length h
   rw [List.length_take] at this; simp at this; omega
 have hne := ne_nil s h0
 have HM := Lib.hid (mark_two s.data.toList (by rw [h]; decide))
 have f0 := take2_eq s _ [58, 58] false h (by decide)
 have f1 := take2_eq s _ [60, 61] false h (by decide)
 have f2 := take2_eq s _ [61, 61] true h (by decide)
 have m1 : 0 ≤ min 2 (s.size : Int) := by omega
 have m2 : min 2 (s.size : Int) ≤ s.size := by omega
 clear h
 go_enter Tryz.func111, Tryz.ntmps111
 go_wp2
 go_ret
 exact ⟨by rw [HM.out]; rfl, rfl⟩
theorem mark_t3 (s : ByteArray) (w : World) (hs : s.size ≤ 16777216) (h : s.data.toList.take 2 = [33, 61]) : MarkSaid s w := by
 unfold MarkSaid
 have h0 : ¬ s.size = 0 := by
   intro e
   have hl : s.data.toList.length = s.size := by simp
   have := congrArg List.length h
   rw [List.length_take] at this; simp at this; omega
 have hne := ne_nil s h0
 have HM := Lib.hid (mark_two s.data.toList (by rw [h]; decide))
 have f0 := take2_eq s _ [58, 58] false h (by decide)
 have f1 := take2_eq s _ [60, 61] false h (by decide)
 have f2 := take2_eq s _ [61, 61] false h (by decide)
 have f3 := take2_eq s _ [33, 61] true h (by decide)
 have m1 : 0 ≤ min 2 (s.size : Int) := by omega
 have m2 : min 2 (s.size : Int) ≤ s.size := by omega
 clear h
 go_enter Tryz.func111, Tryz.ntmps111
 go_wp2
 go_ret
 exact ⟨by rw [HM.out]; rfl, rfl⟩
theorem mark_t4 (s : ByteArray) (w : World) (hs : s.size ≤ 16777216) (h : s.data.toList.take 2 = [38, 38]) : MarkSaid s w := by
 unfold MarkSaid
 have h0 : ¬ s.size = 0 := by
   intro e
   have hl : s.data.toList.length = s.size := by simp
   have := congrArg List.length h
   rw [List.length_take] at this; simp at this; omega
 have hne := ne_nil s h0
 have HM := Lib.hid (mark_two s.data.toList (by rw [h]; decide))
 have f0 := take2_eq s _ [58, 58] false h (by decide)
 have f1 := take2_eq s _ [60, 61] false h (by decide)
 have f2 := take2_eq s _ [61, 61] false h (by decide)
 have f3 := take2_eq s _ [33, 61] false h (by decide)
 have f4 := take2_eq s _ [38, 38] true h (by decide)
 have m1 : 0 ≤ min 2 (s.size : Int) := by omega
 have m2 : min 2 (s.size : Int) ≤ s.size := by omega
 clear h
 go_enter Tryz.func111, Tryz.ntmps111
 go_wp2
 go_ret
 exact ⟨by rw [HM.out]; rfl, rfl⟩
theorem mark_t5 (s : ByteArray) (w : World) (hs : s.size ≤ 16777216) (h : s.data.toList.take 2 = [124, 124]) : MarkSaid s w := by
 unfold MarkSaid
 have h0 : ¬ s.size = 0 := by
   intro e
   have hl : s.data.toList.length = s.size := by simp
   have := congrArg List.length h
   rw [List.length_take] at this; simp at this; omega
 have hne := ne_nil s h0
 have HM := Lib.hid (mark_two s.data.toList (by rw [h]; decide))
 have f0 := take2_eq s _ [58, 58] false h (by decide)
 have f1 := take2_eq s _ [60, 61] false h (by decide)
 have f2 := take2_eq s _ [61, 61] false h (by decide)
 have f3 := take2_eq s _ [33, 61] false h (by decide)
 have f4 := take2_eq s _ [38, 38] false h (by decide)
 have f5 := take2_eq s _ [124, 124] true h (by decide)
 have m1 : 0 ≤ min 2 (s.size : Int) := by omega
 have m2 : min 2 (s.size : Int) ≤ s.size := by omega
 clear h
 go_enter Tryz.func111, Tryz.ntmps111
 go_wp2
 go_ret
 exact ⟨by rw [HM.out]; rfl, rfl⟩
theorem mark_n (s : ByteArray) (w : World) (hs : s.size ≤ 16777216) (h0 : ¬ s.size = 0) (h : ¬ s.data.toList.take 2 ∈ twos) : MarkSaid s w := by
 unfold MarkSaid
 have hne := ne_nil s h0
 have hbt := bt_eq s 0 (by omega)
 have hlt := bt_lt s 0
 have HM := Lib.hid (mark_one s (by omega) h)
 have f0 := take2_ne s [58, 58] (by decide) h
 have f1 := take2_ne s [60, 61] (by decide) h
 have f2 := take2_ne s [61, 61] (by decide) h
 have f3 := take2_ne s [33, 61] (by decide) h
 have f4 := take2_ne s [38, 38] (by decide) h
 have f5 := take2_ne s [124, 124] (by decide) h
 have m1 : 0 ≤ min 2 (s.size : Int) := by omega
 have m2 : min 2 (s.size : Int) ≤ s.size := by omega
 have m3 : 0 < s.size := by omega
 clear h
 go_enter Tryz.func111, Tryz.ntmps111
 go_wp2
 all_goals (go_ret; refine ⟨?_, rfl⟩; rw [HM.out, ones_in]; clear HM f0 f1 f2 f3 f4 f5)
 all_goals first | (simp_all only [Bool.true_or, Bool.or_true, Bool.false_or, if_true, Bool.false_eq_true, if_false]; done) | (simp_all; done)
theorem mark_any (s : ByteArray) (w : World) (hs : s.size ≤ 16777216) : Calls Tryz.prog 111 #[.string s] w fun e w' => e = .returned (.int .i64 (markL s.data.toList : Nat)) ∧ w = w' := by
 by_cases h0 : s.size = 0
 · obtain rfl := size0 s h0
   go_enter Tryz.func111, Tryz.ntmps111
   go_wp2
   go_ret
   exact ⟨rfl, rfl⟩
 · by_cases h : s.data.toList.take 2 ∈ twos
   · have h' := h
     simp only [twos, List.mem_cons, List.not_mem_nil, or_false] at h'
     rcases h' with h' | h' | h' | h' | h' | h'
     · exact mark_t0 s w hs h'
     · exact mark_t1 s w hs h'
     · exact mark_t2 s w hs h'
     · exact mark_t3 s w hs h'
     · exact mark_t4 s w hs h'
     · exact mark_t5 s w hs h'
   · exact mark_n s w hs h0 h
end
section
open Go.RowKit
theorem Bx.get3 {w : World} {b : Nat} {x y z : Value} {T : TypeId} (h : Bx w b #[x, y, z] T) : w.cell? ⟨b, 0, none⟩ = some x ∧ w.cell? ⟨b, 1, none⟩ = some y ∧ w.cell? ⟨b, 2, none⟩ = some z ∧ ∀ o, w.frozen? ⟨b, o, none⟩ = false := by
 refine ⟨cell_of_row w b 0 _ T (0, 0) h, cell_of_row w b 1 _ T (0, 0) h, cell_of_row w b 2 _ T (0, 0) h, fun o => ?_⟩
 unfold Bx at h
 simp [World.frozen?, h]
theorem below3 {B : Nat} {w w2 : World} (h : Below B w w2) {b : Nat} (hb : B ≤ b) (x y z : Value) : Below B w (((w2.setCell ⟨b, 0, none⟩ x).setCell ⟨b, 1, none⟩ y).setCell ⟨b, 2, none⟩ z) :=
 ((h.setCell hb x).setCell hb y).setCell hb z
def FirstSaid (s : ByteArray) (w : World) : Prop := Calls Tryz.prog 66 #[.string s] w fun e w' => e = .returned (.tuple #[.agg #[.int .i64 ((firstL s.data.toList).1 : Nat), .string ⟨(firstL s.data.toList).2.1.toArray⟩, .int .i64 0], .int .i64 ((firstL s.data.toList).2.2 : Nat)]) ∧ Below w.heap.size w w'
theorem ba_is (s : ByteArray) (l : List UInt8) (h : s.data.toList = l) : s = ⟨l.toArray⟩ := by
 cases s with | mk d => subst h; simp
theorem take_ba (s : ByteArray) (n : Nat) : s.extract 0 n = ⟨(s.data.toList.take n).toArray⟩ := by
 apply ba_is; rw [extract_list, List.drop_zero, Nat.sub_zero]
theorem first_digits (s : ByteArray) (w : World) (hs : s.size ≤ 16777216) (h : 0 < spanL digit s.data.toList) : FirstSaid s w := by
 unfold FirstSaid
 have hle := span_le digit s.data.toList
 have hF : firstL s.data.toList = (2, s.data.toList.take (spanL digit s.data.toList), spanL digit s.data.toList) := by rw [firstL, if_pos h]
 obtain ⟨n, hn⟩ : ∃ n, n = spanL digit s.data.toList := ⟨_, rfl⟩
 have HD : Hid (∀ w, Calls Tryz.prog 105 #[.string s, .func (.func 106) #[] #[]] w fun e w' => e = .returned (.int .i64 (n : Nat)) ∧ Below w.heap.size w w') := by
   show ∀ w, _
   intro w; have := reach_digit s w (by unfold maxLen; omega); rw [← hn] at this; exact this
 rw [← hn] at hF h hle
 have hle' : n ≤ s.size := by simpa using hle
 have HF := Lib.hid hF; clear hF hn hle
 have ht := take_ba s n
 have HX := Lib.hid ht; clear ht
 go_enter Tryz.func66, Tryz.ntmps66
 go_wp2_with (first
   | (go_at_call 105; refine (HD.out _).mono ?_; clear HD; rintro e w1 ⟨rfl, hb⟩; have hx := (Bx.new w #[.int .i64 0, .string ⟨#[]⟩, .int .i64 0] 70).next hb; have hB := below_box hb; clear hb)
   | (go_at_call 107; refine (cloneW_any _ _ (by simp; omega)).mono ?_; rintro e w1 ⟨rfl, hb⟩; replace hx := hx.next hb; replace hB := hB.trans (hb.mono hB.size); clear hb; obtain ⟨c0, c1, c2, c3⟩ := hx.get3))
 refine bodyPost_ret (v := .tuple #[.agg #[.int .i64 2, .string (s.extract 0 n), .int .i64 0], .int .i64 n]) (by simp [results, Tryz.results66, go_sem, c0, c1, c2, c3]) rfl ⟨?_, below3 hB (Nat.le_refl _) _ _ _⟩
 rw [HF.out, HX.out]; rfl
theorem first_name (s : ByteArray) (w : World) (hs : s.size ≤ 16777216) (h0 : spanL digit s.data.toList = 0) (h : 0 < spanL alnum s.data.toList) : FirstSaid s w := by
 unfold FirstSaid
 have hle := span_le alnum s.data.toList
 have hF : firstL s.data.toList = (1, s.data.toList.take (spanL alnum s.data.toList), spanL alnum s.data.toList) := by rw [firstL, if_neg (by omega), if_pos h]
 obtain ⟨n, hn⟩ : ∃ n, n = spanL alnum s.data.toList := ⟨_, rfl⟩
 have HD : Hid (∀ w, Calls Tryz.prog 105 #[.string s, .func (.func 106) #[] #[]] w fun e w' => e = .returned (.int .i64 0) ∧ Below w.heap.size w w') := by
   show ∀ w, _
   intro w; have := reach_digit s w (by unfold maxLen; omega); rw [h0] at this; exact this
 have HA : Hid (∀ w, Calls Tryz.prog 105 #[.string s, .func (.func 108) #[] #[]] w fun e w' => e = .returned (.int .i64 (n : Nat)) ∧ Below w.heap.size w w') := by
   show ∀ w, _
   intro w; have := reach_alnum s w (by unfold maxLen; omega); rw [← hn] at this; exact this
 rw [← hn] at hF h hle
 have hle' : n ≤ s.size := by simpa using hle
 have HF := Lib.hid hF; clear hF hn hle h0
 have ht := take_ba s n
 have HX := Lib.hid ht; clear ht
 go_enter Tryz.func66, Tryz.ntmps66
 go_wp2_with (first
   | (go_at_call 105; refine (HD.out _).mono ?_; clear HD; rintro e w1 ⟨rfl, hb⟩; have hx := (Bx.new w #[.int .i64 0, .string ⟨#[]⟩, .int .i64 0] 70).next hb; have hB := below_box hb; clear hb)
   | (go_at_call 105; refine (HA.out _).mono ?_; clear HA; rintro e w1 ⟨rfl, hb⟩; replace hx := hx.next hb; replace hB := hB.trans (hb.mono hB.size); clear hb)
   | (go_at_call 107; refine (cloneW_any _ _ (by simp; omega)).mono ?_; rintro e w1 ⟨rfl, hb⟩; replace hx := hx.next hb; replace hB := hB.trans (hb.mono hB.size); clear hb; obtain ⟨c0, c1, c2, c3⟩ := hx.get3))
 refine bodyPost_ret (v := .tuple #[.agg #[.int .i64 1, .string (s.extract 0 n), .int .i64 0], .int .i64 n]) (by simp [results, Tryz.results66, go_sem, c0, c1, c2, c3]) rfl ⟨?_, below3 hB (Nat.le_refl _) _ _ _⟩
 rw [HF.out, HX.out]; rfl
theorem inner_is (s : ByteArray) (n : Nat) (h : n ≤ s.size) : s.extract 1 (n - 1) = inner s.data.toList n := by
 apply ba_is; rw [extract_list, List.drop_take]
theorem first_text (s : ByteArray) (w : World) (hs : s.size ≤ 16777216) (h0 : spanL digit s.data.toList = 0) (h1 : spanL alnum s.data.toList = 0) (h : 0 < textLen s.data.toList) (hp : plainOk (inner s.data.toList (textLen s.data.toList)) = true) : FirstSaid s w := by
 unfold FirstSaid
 have hle := text_le s.data.toList
 have hl : s.data.toList.length = s.size := by simp
 have hF : firstL s.data.toList = (3, plainText (inner s.data.toList (textLen s.data.toList)), textLen s.data.toList) := by rw [firstL, if_neg (by omega), if_neg (by omega), if_pos h, if_pos hp]
 obtain ⟨n, hn⟩ : ∃ n, n = textLen s.data.toList := ⟨_, rfl⟩
 have HD : Hid (∀ w, Calls Tryz.prog 105 #[.string s, .func (.func 106) #[] #[]] w fun e w' => e = .returned (.int .i64 0) ∧ Below w.heap.size w w') := by
   show ∀ w, _
   intro w; have := reach_digit s w (by unfold maxLen; omega); rw [h0] at this; exact this
 have HA : Hid (∀ w, Calls Tryz.prog 105 #[.string s, .func (.func 108) #[] #[]] w fun e w' => e = .returned (.int .i64 0) ∧ Below w.heap.size w w') := by
   show ∀ w, _
   intro w; have := reach_alnum s w (by unfold maxLen; omega); rw [h1] at this; exact this
 have HT : Hid (∀ w, Calls Tryz.prog 109 #[.string s] w fun e w' => e = .returned (.int .i64 (n : Nat)) ∧ Below w.heap.size w w') := by
   show ∀ w, _
   intro w; have := tlen_any s w hs; rw [← hn] at this; exact this
 (try rw [← hn] at hF)
 rw [← hn] at h hle hp
 have hn2 : 2 ≤ n := by omega
 have hle' : n ≤ s.size := by omega
 have hin := inner_is s n hle'
 obtain ⟨t, ht⟩ : ∃ t : ByteArray, t = ⟨(plainText (inner s.data.toList n)).toArray⟩ := ⟨_, rfl⟩
 have HP : Hid (∀ w, Calls Tryz.prog 110 #[.string (s.extract 1 (n - 1))] w fun e w' => e = .returned (.tuple #[.string t, .bool true]) ∧ Below w.heap.size w w') := by
   show ∀ w, _
   intro w
   have := plain_any (s.extract 1 (n - 1)) w (by simp; omega)
   rw [hin, hp, ← ht, ← hin] at this
   exact this
 have HF := Lib.hid hF; clear hF hn hle h0 h1 hin hp
 have HX := Lib.hid ht; clear ht
 have hsl : ∀ w : World, (Instr.slice 9 (.string s) (some (.int .i64 1)) (some (.int .i64 ((n : Int) - 1))) none).run Tryz.prog w = .ok (.string (s.extract 1 (n - 1))) w := by
   intro w
   have := run_slice_string (P := Tryz.prog) (w := w) 9 s .i64 .i64 1 ((n : Int) - 1) Tryz.underlying9 (by omega) (by omega) (by omega)
   rw [show ((n : Int) - 1).toNat = n - 1 from by omega] at this
   exact this
 go_enter Tryz.func66, Tryz.ntmps66
 go_wp2_with (first
   | (go_at_call 105; refine (HD.out _).mono ?_; clear HD; rintro e w1 ⟨rfl, hb⟩; have hx := (Bx.new w #[.int .i64 0, .string ⟨#[]⟩, .int .i64 0] 70).next hb; have hB := below_box hb; clear hb)
   | (go_at_call 105; refine (HA.out _).mono ?_; clear HA; rintro e w1 ⟨rfl, hb⟩; replace hx := hx.next hb; replace hB := hB.trans (hb.mono hB.size); clear hb)
   | (go_at_call 109; refine (HT.out _).mono ?_; clear HT; rintro e w1 ⟨rfl, hb⟩; replace hx := hx.next hb; replace hB := hB.trans (hb.mono hB.size); clear hb)
   | (go_at_call 110; refine (HP.out _).mono ?_; clear HP; rintro e w1 ⟨rfl, hb⟩; replace hx := hx.next hb; replace hB := hB.trans (hb.mono hB.size); clear hb; obtain ⟨c0, c1, c2, c3⟩ := hx.get3))
 refine bodyPost_ret (v := .tuple #[.agg #[.int .i64 3, .string t, .int .i64 0], .int .i64 n]) (by simp [results, Tryz.results66, go_sem, c0, c1, c2, c3]) rfl ⟨?_, below3 hB (Nat.le_refl _) _ _ _⟩
 rw [HF.out, HX.out]; rfl
theorem first_bad (s : ByteArray) (w : World) (hs : s.size ≤ 16777216) (h0 : spanL digit s.data.toList = 0) (h1 : spanL alnum s.data.toList = 0) (h : 0 < textLen s.data.toList) (hp : plainOk (inner s.data.toList (textLen s.data.toList)) = false) : FirstSaid s w := by
 unfold FirstSaid
 have hle := text_le s.data.toList
 have hl : s.data.toList.length = s.size := by simp
 have hF : firstL s.data.toList = (0, [], 0) := by rw [firstL, if_neg (by omega), if_neg (by omega), if_pos h, if_neg (by rw [hp]; simp)]
 obtain ⟨n, hn⟩ : ∃ n, n = textLen s.data.toList := ⟨_, rfl⟩
 have HD : Hid (∀ w, Calls Tryz.prog 105 #[.string s, .func (.func 106) #[] #[]] w fun e w' => e = .returned (.int .i64 0) ∧ Below w.heap.size w w') := by
   show ∀ w, _
   intro w; have := reach_digit s w (by unfold maxLen; omega); rw [h0] at this; exact this
 have HA : Hid (∀ w, Calls Tryz.prog 105 #[.string s, .func (.func 108) #[] #[]] w fun e w' => e = .returned (.int .i64 0) ∧ Below w.heap.size w w') := by
   show ∀ w, _
   intro w; have := reach_alnum s w (by unfold maxLen; omega); rw [h1] at this; exact this
 have HT : Hid (∀ w, Calls Tryz.prog 109 #[.string s] w fun e w' => e = .returned (.int .i64 (n : Nat)) ∧ Below w.heap.size w w') := by
   show ∀ w, _
   intro w; have := tlen_any s w hs; rw [← hn] at this; exact this
 (try rw [← hn] at hF)
 rw [← hn] at h hle hp
 have hn2 : 2 ≤ n := by omega
 have hle' : n ≤ s.size := by omega
 have hin := inner_is s n hle'
 obtain ⟨t, ht⟩ : ∃ t : ByteArray, t = ⟨(plainText (inner s.data.toList n)).toArray⟩ := ⟨_, rfl⟩
 have HP : Hid (∀ w, Calls Tryz.prog 110 #[.string (s.extract 1 (n - 1))] w fun e w' => e = .returned (.tuple #[.string t, .bool false]) ∧ Below w.heap.size w w') := by
   show ∀ w, _
   intro w
   have := plain_any (s.extract 1 (n - 1)) w (by simp; omega)
   rw [hin, hp, ← ht, ← hin] at this
   exact this
 have HF := Lib.hid hF; clear hF hn hle h0 h1 hin hp
 have HX := Lib.hid ht; clear ht
 have hsl : ∀ w : World, (Instr.slice 9 (.string s) (some (.int .i64 1)) (some (.int .i64 ((n : Int) - 1))) none).run Tryz.prog w = .ok (.string (s.extract 1 (n - 1))) w := by
   intro w
   have := run_slice_string (P := Tryz.prog) (w := w) 9 s .i64 .i64 1 ((n : Int) - 1) Tryz.underlying9 (by omega) (by omega) (by omega)
   rw [show ((n : Int) - 1).toNat = n - 1 from by omega] at this
   exact this
 go_enter Tryz.func66, Tryz.ntmps66
 go_wp2_with (first
   | (go_at_call 105; refine (HD.out _).mono ?_; clear HD; rintro e w1 ⟨rfl, hb⟩; have hx := (Bx.new w #[.int .i64 0, .string ⟨#[]⟩, .int .i64 0] 70).next hb; have hB := below_box hb; clear hb)
   | (go_at_call 105; refine (HA.out _).mono ?_; clear HA; rintro e w1 ⟨rfl, hb⟩; replace hx := hx.next hb; replace hB := hB.trans (hb.mono hB.size); clear hb)
   | (go_at_call 109; refine (HT.out _).mono ?_; clear HT; rintro e w1 ⟨rfl, hb⟩; replace hx := hx.next hb; replace hB := hB.trans (hb.mono hB.size); clear hb)
   | (go_at_call 110; refine (HP.out _).mono ?_; clear HP; rintro e w1 ⟨rfl, hb⟩; replace hx := hx.next hb; replace hB := hB.trans (hb.mono hB.size); clear hb; obtain ⟨c0, c1, c2, c3⟩ := hx.get3))
 refine bodyPost_ret (v := .tuple #[.agg #[.int .i64 0, .string ⟨#[]⟩, .int .i64 0], .int .i64 0]) (by simp [results, Tryz.results66, go_sem, c0, c1, c2, c3]) rfl ⟨?_, below3 hB (Nat.le_refl _) _ _ _⟩
 rw [HF.out]; rfl
theorem first_mark (s : ByteArray) (w : World) (hs : s.size ≤ 16777216) (h0 : spanL digit s.data.toList = 0) (h1 : spanL alnum s.data.toList = 0) (h2 : textLen s.data.toList = 0) : FirstSaid s w := by
 unfold FirstSaid
 have hle := mark_le s.data.toList
 have hF : firstL s.data.toList = (4, s.data.toList.take (markL s.data.toList), markL s.data.toList) := by rw [firstL, if_neg (by omega), if_neg (by omega), if_neg (by omega)]
 obtain ⟨n, hn⟩ : ∃ n, n = markL s.data.toList := ⟨_, rfl⟩
 have HD : Hid (∀ w, Calls Tryz.prog 105 #[.string s, .func (.func 106) #[] #[]] w fun e w' => e = .returned (.int .i64 0) ∧ Below w.heap.size w w') := by
   show ∀ w, _
   intro w; have := reach_digit s w (by unfold maxLen; omega); rw [h0] at this; exact this
 have HA : Hid (∀ w, Calls Tryz.prog 105 #[.string s, .func (.func 108) #[] #[]] w fun e w' => e = .returned (.int .i64 0) ∧ Below w.heap.size w w') := by
   show ∀ w, _
   intro w; have := reach_alnum s w (by unfold maxLen; omega); rw [h1] at this; exact this
 have HT : Hid (∀ w, Calls Tryz.prog 109 #[.string s] w fun e w' => e = .returned (.int .i64 0) ∧ Below w.heap.size w w') := by
   show ∀ w, _
   intro w; have := tlen_any s w hs; rw [h2] at this; exact this
 have HM : Hid (∀ w, Calls Tryz.prog 111 #[.string s] w fun e w' => e = .returned (.int .i64 (n : Nat)) ∧ w = w') := by
   show ∀ w, _
   intro w; have := mark_any s w hs; rw [← hn] at this; exact this
 rw [← hn] at hF hle
 have hle' : n ≤ s.size := by simpa using hle
 have HF := Lib.hid hF; clear hF hn hle h0 h1 h2
 have ht := take_ba s n
 have HX := Lib.hid ht; clear ht
 go_enter Tryz.func66, Tryz.ntmps66
 go_wp2_with (first
   | (go_at_call 105; refine (HD.out _).mono ?_; clear HD; rintro e w1 ⟨rfl, hb⟩; have hx := (Bx.new w #[.int .i64 0, .string ⟨#[]⟩, .int .i64 0] 70).next hb; have hB := below_box hb; clear hb)
   | (go_at_call 105; refine (HA.out _).mono ?_; clear HA; rintro e w1 ⟨rfl, hb⟩; replace hx := hx.next hb; replace hB := hB.trans (hb.mono hB.size); clear hb)
   | (go_at_call 109; refine (HT.out _).mono ?_; clear HT; rintro e w1 ⟨rfl, hb⟩; replace hx := hx.next hb; replace hB := hB.trans (hb.mono hB.size); clear hb)
   | (go_at_call 111; refine (HM.out _).mono ?_; clear HM; rintro e w1 ⟨rfl, rfl⟩)
   | (go_at_call 107; refine (cloneW_any _ _ (by simp; omega)).mono ?_; rintro e w1 ⟨rfl, hb⟩; replace hx := hx.next hb; replace hB := hB.trans (hb.mono hB.size); clear hb; obtain ⟨c0, c1, c2, c3⟩ := hx.get3))
 refine bodyPost_ret (v := .tuple #[.agg #[.int .i64 4, .string (s.extract 0 n), .int .i64 0], .int .i64 n]) (by simp [results, Tryz.results66, go_sem, c0, c1, c2, c3]) rfl ⟨?_, below3 hB (Nat.le_refl _) _ _ _⟩
 rw [HF.out, HX.out]; rfl
theorem first_any (s : ByteArray) (w : World) (hs : s.size ≤ 16777216) : FirstSaid s w := by
 by_cases h0 : 0 < spanL digit s.data.toList
 · exact first_digits s w hs h0
 by_cases h1 : 0 < spanL alnum s.data.toList
 · exact first_name s w hs (by omega) h1
 by_cases h2 : 0 < textLen s.data.toList
 · cases hp : plainOk (inner s.data.toList (textLen s.data.toList))
   · exact first_bad s w hs (by omega) (by omega) h2 hp
   · exact first_text s w hs (by omega) (by omega) h2 hp
 · exact first_mark s w hs (by omega) (by omega) (by omega)
end
section
open Go.RowKit
def wcells (x : Wd) : List Value := [.int .i64 x.k, .string ⟨x.t.toArray⟩, .int .i64 x.a]
def cellsW (l : List Wd) : List Value := l.flatMap wcells
theorem cellsW_snoc (l : List Wd) (x : Wd) : cellsW (l ++ [x]) = cellsW l ++ wcells x := by simp [cellsW]
theorem below_own {B : Nat} {w a b : World} {base e size n : Nat} {v : Value} {xs : List Value} (h : Below B w a) (ho : a.ownsRow base e size v n xs) (hg : a.grownBy b v.ownBlock) (hB : B ≤ a.heap.size) (hb : B ≤ base) : Below B w b :=
 h.grown hg hB fun k hk => Nat.le_trans hb (ho.lt k hk).1
theorem Tryz.infoWord : (Tryz.prog.info? 70).map (fun i => (i.zero, i.size, i.bytes)) = some (some (.agg #[.int .i64 0, .string ⟨#[]⟩, .int .i64 0]), 3, 32) := by kernel_rfl
def CutSaid (s : ByteArray) (w : World) (e : Ending) (w' : World) : Prop := ∃ v : Value, e = .returned (.tuple #[v, .int .i64 (cutL s.data.toList 0).2]) ∧ w'.ownsRow w.heap.size 70 3 v (cutL s.data.toList 0).1.length (cellsW (cutL s.data.toList 0).1) ∧ Below w.heap.size w w'
theorem drop_ne (s : ByteArray) (p : Nat) (h : p < s.size) : s.data.toList.drop p ≠ [] := by
 obtain ⟨b, e, _⟩ := dropc s p h; rw [e]; simp
theorem cut_more (s : ByteArray) (p : Nat) (acc : List Wd) (h : p < s.size) (hc : cutL s.data.toList 0 = (acc ++ (wordsL (s.data.toList.drop p) p).1, (wordsL (s.data.toList.drop p) p).2)) (k n g : Nat) (t : List UInt8)
   (hf : firstL (s.data.toList.drop p) = (k, t, n)) (hn : n ≠ 0) (hg : gapL false (s.data.toList.drop (p + n)) = g) :
   cutL s.data.toList 0 = ((acc ++ [⟨k, t, p⟩]) ++ (wordsL (s.data.toList.drop (p + n + g)) (p + n + g)).1, (wordsL (s.data.toList.drop (p + n + g)) (p + n + g)).2) := by
 rw [hc, words_step _ p (drop_ne s p h) (by rw [hf]; exact hn), hf]
 simp only [List.drop_drop, cutL]
 rw [hg]; simp
theorem cut_stop (s : ByteArray) (p : Nat) (acc : List Wd) (h : p < s.size) (hc : cutL s.data.toList 0 = (acc ++ (wordsL (s.data.toList.drop p) p).1, (wordsL (s.data.toList.drop p) p).2)) (hn : (firstL (s.data.toList.drop p)).2.2 = 0) :
   cutL s.data.toList 0 = (acc, (p : Int)) := by
 rw [hc, words_none _ p (drop_ne s p h) hn]; simp
theorem cut_end (s : ByteArray) (p : Nat) (acc : List Wd) (h : ¬ p < s.size) (hc : cutL s.data.toList 0 = (acc ++ (wordsL (s.data.toList.drop p) p).1, (wordsL (s.data.toList.drop p) p).2)) :
   cutL s.data.toList 0 = (acc, -1) := by
 rw [hc, dropz s p h, words_nil]; simp
theorem cut_start (s : ByteArray) (g : Nat) (hg : gapL false s.data.toList = g) : cutL s.data.toList 0 = ([] ++ (wordsL (s.data.toList.drop g) g).1, (wordsL (s.data.toList.drop g) g).2) := by
 rw [cutL, hg]; simp
theorem cut_said {s : ByteArray} {w W : World} {v : Value} {acc : List Wd} {r : Int} (h : cutL s.data.toList 0 = (acc, r)) (ho : W.ownsRow w.heap.size 70 3 v acc.length (cellsW acc)) (hb : Below w.heap.size w W) :
   CutSaid s w (.returned (.tuple #[v, .int .i64 r])) W := ⟨v, by rw [h], by rw [h]; exact ho, hb⟩
theorem new_cells (w : World) (T : TypeId) (o : Obj) (x y z : Value) : ∀ (j : Nat) (u : Value), [x, y, z][j]? = some u → ((w.alloc o).alloc (.cells #[x, y, z] T)).cell? ((⟨w.heap.size + 1, 0, none⟩ : Addr).add j) = some u := by
 intro j u hj
 have hx : Bx ((w.alloc o).alloc (.cells #[x, y, z] T)) (w.heap.size + 1) #[x, y, z] T := by
   have := Bx.new (w.alloc o) #[x, y, z] T; simpa using this
 obtain ⟨c0, c1, c2, _⟩ := hx.get3
 match j, hj with
 | 0, hj => simp at hj; subst hj; exact c0
 | 1, hj => simp at hj; subst hj; exact c1
 | 2, hj => simp at hj; subst hj; exact c2
theorem three_one (k : Int) (t : ByteArray) (a : Int) : ∀ u ∈ [Value.int .i64 k, .string t, .int .i64 a], u.oneCell' = true := by
 intro u hu
 simp only [List.mem_cons, List.not_mem_nil, or_false] at hu
 rcases hu with rfl | rfl | rfl <;> rfl
theorem cut_any (s : ByteArray) (w : World) (hs : s.size ≤ 16777216) : Calls Tryz.prog 37 #[.string s] w (CutSaid s w) := by
 obtain ⟨g0, hg0⟩ : ∃ g, gapL false s.data.toList = g := ⟨_, rfl⟩
 have hg1 : g0 ≤ s.size := by have := gap_le s.data.toList false; simp at this; omega
 have H0 := Lib.hid (cut_start s g0 hg0)
 have HG0 : Hid (∀ w, Calls Tryz.prog 65 #[.string s] w fun e w' => e = .returned (.int .i64 (g0 : Nat)) ∧ Below w.heap.size w w') := by
   show ∀ w, _
   intro w; have := gap_any s w (by unfold maxLen; omega); rw [hg0] at this; exact this
 clear hg0
 obtain ⟨i0, hi, hz0, hz1, hz2⟩ := info_parts Tryz.infoWord
 go_enter Tryz.func37, Tryz.ntmps37
 go_wp2_with (go_at_call 65; refine (HG0.out _).mono ?_; clear HG0; rintro e w1 ⟨rfl, hb1⟩)
 go_loopw [4, 5] (fun v4 v5 wr => ∃ (p : Nat) (acc : List Wd), v5 = .int .i64 p ∧ p ≤ s.size ∧ wr.ownsRow w.heap.size 70 3 v4 acc.length (cellsW acc) ∧ Below w.heap.size w wr ∧ acc.length ≤ p ∧ cutL s.data.toList 0 = (acc ++ (wordsL (s.data.toList.drop p) p).1, (wordsL (s.data.toList.drop p) p).2)) (fun v4 v5 wr => s.size - (intOf v5).toNat)
 case atStart => exact ⟨g0, [], rfl, hg1, World.ownsRow_nil _ _ _ _, hb1, Nat.zero_le _, H0.out⟩
 case round =>
   obtain ⟨p, acc, rfl, hp, hown, hbw, hal, hc⟩ := hrel
   clear H0 hb1
   by_cases hlt : p < s.size
   · obtain ⟨k, t, n, hf⟩ : ∃ k t n, firstL (s.data.toList.drop p) = (k, t, n) := ⟨_, _, _, rfl⟩
     have hnl : p + n ≤ s.size := by
       have := first_le (s.data.toList.drop p); rw [hf] at this; simp at this; omega
     have hdx : (s.extract p s.size).data.toList = s.data.toList.drop p := drop_extract s p
     obtain ⟨tb, htb⟩ : ∃ tb : ByteArray, tb = ⟨t.toArray⟩ := ⟨_, rfl⟩
     have HF : Hid (∀ w, Calls Tryz.prog 66 #[.string (s.extract p s.size)] w fun e w' => e = .returned (.tuple #[.agg #[.int .i64 (k : Nat), .string tb, .int .i64 0], .int .i64 (n : Nat)]) ∧ Below w.heap.size w w') := by
       show ∀ w, _
       intro w
       have := first_any (s.extract p s.size) w (by simp; omega)
       unfold FirstSaid at this
       rw [hdx, hf, ← htb] at this
       exact this
     have hsz := hbw.size
     have hps : (p : Int) ≤ s.size := by omega
     by_cases hn : n = 0
     · subst hn
       have HS := Lib.hid (cut_stop s p acc hlt hc (by rw [hf])); clear hc hf hdx htb
       go_wp2_with (go_at_call 66; refine (HF.out _).mono ?_; clear HF; rintro e w2 ⟨rfl, hb2⟩)
       go_ret2
       exact cut_said HS.out ((own_next hown hb2).alloc _) ((hbw.trans (hb2.mono hsz)).alloc (Nat.le_trans hsz hb2.size) _)
     · have hnb : ((n : Int) == 0) = false := by rw [beq_eq_false_iff_ne]; omega
       obtain ⟨g, hg⟩ : ∃ g, gapL false (s.data.toList.drop (p + n)) = g := ⟨_, rfl⟩
       have hgl : p + n + g ≤ s.size := by have := gap_le (s.data.toList.drop (p + n)) false; rw [hg] at this; simp at this; omega
       have HS := Lib.hid (cut_more s p acc hlt hc k n g t hf hn hg)
       have HG : Hid (∀ w, Calls Tryz.prog 65 #[.string (s.extract (p + n) s.size)] w fun e w' => e = .returned (.int .i64 (g : Nat)) ∧ Below w.heap.size w w') := by
         show ∀ w, _
         intro w
         have := gap_any (s.extract (p + n) s.size) w (by unfold maxLen; simp; omega)
         rw [drop_extract s (p + n), hg] at this
         exact this
       have hpos : 0 < n := by omega
       have HTB := Lib.hid htb
       clear hc hf hdx htb hg hn
       go_wp2_with (first | (go_at_call 66; refine (HF.out _).mono ?_; clear HF; rintro e w2 ⟨rfl, hb2⟩) | (at_builtin; refine wpList_append_own _ rfl (.tmp 33) (.tmp 35) 66 rfl w.heap.size 70 i0 _ 3 32 Tryz.underlying66 hi hz0 hz1 hz2 rfl (by decide) _ _ _ rfl (((own_next hown hb2).alloc _).alloc _) ⟨w2.heap.size + 1, 0, none⟩ 1 1 [.int .i64 k, .string tb, .int .i64 p] rfl rfl ?c1 ?c2 ?c3 ?c4 ?c5 ?_))
       case c1 => exact new_cells w2 _ _ _ _ _
       case c2 => exact three_one _ _ _
       case c3 => unfold maxLen; omega
       case c4 => omega
       case c5 => have := hb2.size; simp; omega
       · intro v' w3 hown3 hgrow _
         have hB3 : Below w.heap.size w w3 := below_own ((((hbw.trans (hb2.mono hsz)).alloc (Nat.le_trans hsz hb2.size) _).alloc (by have := hb2.size; simp; omega) _)) (((own_next hown hb2).alloc _).alloc _) hgrow (by have := hb2.size; simp; omega) (Nat.le_refl _)
         have hO3 : w3.ownsRow w.heap.size 70 3 v' (acc ++ [(⟨k, t, p⟩ : Wd)]).length (cellsW (acc ++ [(⟨k, t, p⟩ : Wd)])) := by
           rw [cellsW_snoc, List.length_append]; rw [HTB.out] at hown3; exact hown3
         have hal3 : (acc ++ [(⟨k, t, p⟩ : Wd)]).length ≤ p + n := by simp; omega
         clear hown3 hgrow hb2 hbw hown
         have h1 : ((p : Int) + (n : Int)).toNat = p + n := by omega
         have h2 : 0 ≤ (p : Int) + (n : Int) := by omega
         have h3 : (p : Int) + (n : Int) ≤ s.size := by omega
         go_wp2_with (go_at_call 65; refine (HG.out _).mono ?_; clear HG; rintro e w4 ⟨rfl, hb4⟩)
         have hsz3 := hB3.size
         go_roundw
         case rel => exact ⟨p + n + g, _, by go_num, hgl, own_next hO3 hb4, hB3.trans (hb4.mono hsz3), by omega, HS.out⟩
         case measure => simp [intOf]; omega
   · have HS := Lib.hid (cut_end s p acc hlt hc); clear hc
     go_wp2
     go_ret2
     exact cut_said HS.out hown hbw
def AllSaid (s : ByteArray) (w : World) (e : Ending) (w' : World) : Prop := ∃ v : Value, e = .returned (.tuple #[v, .int .i64 (allE s), .int .i64 (allA s)]) ∧ w'.ownsRow w.heap.size 70 3 v (allW s).length (cellsW (allW s)) ∧ Below w.heap.size w w'
theorem all_said {s : ByteArray} {w W : World} {v : Value} {ws : List Wd} {x a : Int} (h1 : allW s = ws) (h2 : allE s = x) (h3 : allA s = a) (ho : W.ownsRow w.heap.size 70 3 v ws.length (cellsW ws)) (hb : Below w.heap.size w W) :
   AllSaid s w (.returned (.tuple #[v, .int .i64 x, .int .i64 a])) W := ⟨v, by rw [h2, h3], by rw [h1]; exact ho, hb⟩
theorem all_long (s : ByteArray) (h : 8000 < s.size) : allW s = [] ∧ allE s = 5 ∧ allA s = 0 := by
 unfold allW allE allA; rw [if_pos (.inl h), if_pos h, if_pos h]; exact ⟨rfl, rfl, rfl⟩
theorem all_wrong (s : ByteArray) (h : ¬ 8000 < s.size) (x : Int) (hx : wrongAt s = x) (h0 : 0 ≤ x) : allW s = [] ∧ allE s = 2 ∧ allA s = x := by
 unfold allW allE allA; rw [hx, if_pos (.inr h0), if_neg h, if_neg h, if_pos h0, if_pos h0]; exact ⟨rfl, rfl, rfl⟩
theorem all_right (s : ByteArray) (h : ¬ 8000 < s.size) (x : Int) (hx : wrongAt s = x) (h0 : ¬ 0 ≤ x) : allW s = (cutL s.data.toList 0).1 ∧ allE s = 0 ∧ allA s = 0 := by
 unfold allW allE allA; rw [hx, if_neg (by rintro (g | g); exact h g; exact h0 g), if_neg h, if_neg h, if_neg h0, if_neg h0]; exact ⟨rfl, rfl, rfl⟩
theorem all_any (s : ByteArray) (w : World) (hs : s.size ≤ maxLen) : Calls Tryz.prog 26 #[.string s] w (AllSaid s w) := by
 unfold maxLen at hs
 by_cases h8 : 8000 < s.size
 · have h8' : (8000 : Int) < s.size := by omega
   obtain ⟨a1, a2, a3⟩ := all_long s h8
   have A1 := Lib.hid a1; have A2 := Lib.hid a2; have A3 := Lib.hid a3; clear a1 a2 a3
   go_enter Tryz.func26, Tryz.ntmps26
   go_wp2
   refine bodyPost_ret (v := .tuple #[.slice none 0 0, .int .i64 5, .int .i64 0]) (by simp [results, Tryz.results26, go_sem]) rfl ?_
   exact all_said A1.out A2.out A3.out (World.ownsRow_nil _ _ _ _) (Below.refl _ _)
 · have h8' : (s.size : Int) ≤ 8000 := by omega
   obtain ⟨ws, c, hcut⟩ : ∃ ws c, cutL s.data.toList 0 = (ws, c) := ⟨_, _, rfl⟩
   obtain ⟨b, hb⟩ : ∃ b, bad s = b := ⟨_, rfl⟩
   have HC : Hid (∀ w, Calls Tryz.prog 37 #[.string s] w fun e w' => ∃ v : Value, e = .returned (.tuple #[v, .int .i64 c]) ∧ w'.ownsRow w.heap.size 70 3 v ws.length (cellsW ws) ∧ Below w.heap.size w w') := by
     show ∀ w, _
     intro w; have := cut_any s w (by omega); unfold CutSaid at this; rw [hcut] at this; exact this
   have HB : Hid (∀ w, Calls Tryz.prog 38 #[.string s] w fun e w' => e = .returned (.int .i64 b) ∧ Below w.heap.size w w') := by
     show ∀ w, _
     intro w; have := bad_any s w (by unfold maxLen; omega); rw [hb] at this; exact this
   have hw : wrongAt s = if 0 ≤ b ∧ (c < 0 ∨ b < c) then b else c := by unfold wrongAt; rw [hcut, hb]
   have H8 := Lib.hid h8
   have HW : Hid ((cutL s.data.toList 0).1 = ws) := by show (cutL s.data.toList 0).1 = ws; rw [hcut]
   clear hcut hb h8
   go_enter Tryz.func26, Tryz.ntmps26
   by_cases hb0 : 0 ≤ b
   · by_cases hx : c < 0 ∨ b < c
     · rw [if_pos ⟨hb0, hx⟩] at hw
       obtain ⟨a1, a2, a3⟩ := all_wrong s H8.out b hw hb0
       have A1 := Lib.hid a1; have A2 := Lib.hid a2; have A3 := Lib.hid a3; clear a1 a2 a3 hw
       rcases Int.lt_or_le c 0 with hc | hc
       · clear hx
         go_wp2_with (first | (go_at_call 37; refine (HC.out _).mono ?_; clear HC; rintro e w1 ⟨v, rfl, ho, hb1⟩) | (go_at_call 38; refine (HB.out _).mono ?_; clear HB; rintro e w2 ⟨rfl, hb2⟩))
         refine bodyPost_ret (v := .tuple #[.slice none 0 0, .int .i64 2, .int .i64 b]) (by simp [results, Tryz.results26, go_sem]) rfl ?_
         exact all_said A1.out A2.out A3.out (World.ownsRow_nil _ _ _ _) (hb1.trans (hb2.mono hb1.size))
       · have hx' : b < c := by rcases hx with h | h; omega; exact h
         clear hx
         go_wp2_with (first | (go_at_call 37; refine (HC.out _).mono ?_; clear HC; rintro e w1 ⟨v, rfl, ho, hb1⟩) | (go_at_call 38; refine (HB.out _).mono ?_; clear HB; rintro e w2 ⟨rfl, hb2⟩))
         refine bodyPost_ret (v := .tuple #[.slice none 0 0, .int .i64 2, .int .i64 b]) (by simp [results, Tryz.results26, go_sem]) rfl ?_
         exact all_said A1.out A2.out A3.out (World.ownsRow_nil _ _ _ _) (hb1.trans (hb2.mono hb1.size))
     · have hc : 0 ≤ c := by omega
       have hbc : c ≤ b := by omega
       rw [if_neg (fun h => hx h.2)] at hw
       obtain ⟨a1, a2, a3⟩ := all_wrong s H8.out c hw hc
       have A1 := Lib.hid a1; have A2 := Lib.hid a2; have A3 := Lib.hid a3; clear a1 a2 a3 hw hx
       go_wp2_with (first | (go_at_call 37; refine (HC.out _).mono ?_; clear HC; rintro e w1 ⟨v, rfl, ho, hb1⟩) | (go_at_call 38; refine (HB.out _).mono ?_; clear HB; rintro e w2 ⟨rfl, hb2⟩))
       refine bodyPost_ret (v := .tuple #[.slice none 0 0, .int .i64 2, .int .i64 c]) (by simp [results, Tryz.results26, go_sem]) rfl ?_
       exact all_said A1.out A2.out A3.out (World.ownsRow_nil _ _ _ _) (hb1.trans (hb2.mono hb1.size))
   · rw [if_neg (fun h => hb0 h.1)] at hw
     have hb0' : b < 0 := by omega
     by_cases hc : 0 ≤ c
     · obtain ⟨a1, a2, a3⟩ := all_wrong s H8.out c hw hc
       have A1 := Lib.hid a1; have A2 := Lib.hid a2; have A3 := Lib.hid a3; clear a1 a2 a3 hw hb0
       go_wp2_with (first | (go_at_call 37; refine (HC.out _).mono ?_; clear HC; rintro e w1 ⟨v, rfl, ho, hb1⟩) | (go_at_call 38; refine (HB.out _).mono ?_; clear HB; rintro e w2 ⟨rfl, hb2⟩))
       refine bodyPost_ret (v := .tuple #[.slice none 0 0, .int .i64 2, .int .i64 c]) (by simp [results, Tryz.results26, go_sem]) rfl ?_
       exact all_said A1.out A2.out A3.out (World.ownsRow_nil _ _ _ _) (hb1.trans (hb2.mono hb1.size))
     · obtain ⟨a1, a2, a3⟩ := all_right s H8.out c hw hc
       have A1 := Lib.hid a1; have A2 := Lib.hid a2; have A3 := Lib.hid a3; clear a1 a2 a3 hw hb0
       have hc' : c < 0 := by omega
       clear hc
       go_wp2_with (first | (go_at_call 37; refine (HC.out _).mono ?_; clear HC; rintro e w1 ⟨v, rfl, ho, hb1⟩) | (go_at_call 38; refine (HB.out _).mono ?_; clear HB; rintro e w2 ⟨rfl, hb2⟩))
       refine bodyPost_ret (v := .tuple #[v, .int .i64 0, .int .i64 0]) (by simp [results, Tryz.results26, go_sem]) rfl ?_
       exact all_said (A1.out.trans HW.out) A2.out A3.out (own_next ho hb2) (hb1.trans (hb2.mono hb1.size))
end
section
def B (l : List UInt8) : ByteArray := ⟨l.toArray⟩
theorem B_list (l : List UInt8) : (B l).data.toList = l := rfl
theorem B_size (l : List UInt8) : (B l).size = l.length := by simp [B, ByteArray.size]
theorem B_of (s : ByteArray) : B s.data.toList = s := by cases s; simp [B]
theorem btB (l : List UInt8) (i : Nat) (h : i < l.length) : bt (B l) i = l[i].toNat := by
 have := get_list l i l[i] (List.getElem?_eq_getElem h); exact this
theorem btB_mid (P S R : List UInt8) (i : Nat) (h : i < S.length) : bt (B (P ++ (S ++ R))) (P.length + i) = bt (B S) i := by
 rw [btB _ _ (by simp; omega), btB _ _ h]
 congr 1
 rw [List.getElem_append_right (by omega)]
 simp only [Nat.add_sub_cancel_left]
 rw [List.getElem_append_left h]
theorem btB_end (P S R : List UInt8) (b : UInt8) (h : R.head? = some b) : bt (B (P ++ (S ++ R))) (P.length + S.length) = b.toNat := by
 cases R with
 | nil => simp at h
 | cons x t =>
   simp at h; subst h
   rw [btB _ _ (by simp)]
   congr 1
   rw [List.getElem_append_right (by omega)]
   simp
def low (R : List UInt8) : Prop := ∀ b, R.head? = some b → b.toNat < 128
theorem dec_mid (P S R : List UInt8) (hR : low R) (p : Nat) (h : p < S.length) : Utf8.decode (B (P ++ (S ++ R))) (P.length + p) = Utf8.decode (B S) p := by
 have hz : (B (P ++ (S ++ R))).size - (P.length + p) = S.length - p + R.length := by rw [B_size]; simp; omega
 have hzS : (B S).size = S.length := B_size S
 have b0 := btB_mid P S R p h
 have nx : ∀ i, p + i < S.length → bt (B (P ++ (S ++ R))) (P.length + p + i) = bt (B S) (p + i) := fun i hi => by
   rw [Nat.add_assoc]; exact btB_mid P S R (p + i) hi
 have ed : ∀ i, p + i = S.length → 0 < R.length → bt (B (P ++ (S ++ R))) (P.length + p + i) < 128 := by
   intro i hi hr
   cases hR' : R.head? with
   | none => rw [List.head?_eq_none_iff] at hR'; subst hR'; simp at hr
   | some b =>
     rw [show P.length + p + i = P.length + S.length from by omega, btB_end P S R b hR']
     exact hR b hR'
 rcases dcases (B S) p with ⟨k, e⟩ | ⟨k, e⟩ | ⟨k, e⟩ | ⟨k, e⟩ | ⟨k0, k2, k3, k4, e⟩
 · rw [e, low_of _ _ (by omega), b0]
 · obtain ⟨h1, h2, h3, h4, h5⟩ := k
   have n1 := nx 1 (by omega)
   rw [e, decode_bt, dec2 _ _ _ _ _ ⟨by omega, by omega, by omega, by omega, by omega⟩, b0, n1]
 · obtain ⟨h1, h2, h3, h4, h5, h6, h7, h8, h9⟩ := k
   have n1 := nx 1 (by omega)
   have n2 := nx 2 (by omega)
   rw [e, decode_bt, dec3 _ _ _ _ _ ⟨by omega, by omega, by omega, by omega, by omega, by omega, by omega, by omega, by omega⟩, b0, n1, n2]
 · obtain ⟨h1, h2, h3, h4, h5, h6, h7, h8, h9, h10, h11⟩ := k
   have n1 := nx 1 (by omega)
   have n2 := nx 2 (by omega)
   have n3 := nx 3 (by omega)
   rw [e, decode_bt, dec4 _ _ _ _ _ ⟨by omega, by omega, by omega, by omega, by omega, by omega, by omega, by omega, by omega, by omega, by omega⟩, b0, n1, n2, n3]
 · rw [e, decode_bt, dec0 _ _ _ _ _ (bt_lt _ _) (bt_lt _ _) (bt_lt _ _) (bt_lt _ _) (by omega)]
   · rintro ⟨h1, h2, h3, h4, h5⟩
     rcases Nat.lt_or_ge (p + 1) S.length with g | g
     · have n1 := nx 1 g
       exact k2 ⟨by omega, by omega, by omega, by omega, by omega⟩
     · have := ed 1 (by omega) (by omega); omega
   · rintro ⟨h1, h2, h3, h4, h5, h6, h7, h8, h9⟩
     rcases Nat.lt_or_ge (p + 1) S.length with g | g
     · have n1 := nx 1 g
       rcases Nat.lt_or_ge (p + 2) S.length with g2 | g2
       · have n2 := nx 2 g2
         exact k3 ⟨by omega, by omega, by omega, by omega, by omega, by omega, by omega, by omega, by omega⟩
       · have := ed 2 (by omega) (by omega); omega
     · have := ed 1 (by omega) (by omega); omega
   · rintro ⟨h1, h2, h3, h4, h5, h6, h7, h8, h9, h10, h11⟩
     rcases Nat.lt_or_ge (p + 1) S.length with g | g
     · have n1 := nx 1 g
       rcases Nat.lt_or_ge (p + 2) S.length with g2 | g2
       · have n2 := nx 2 g2
         rcases Nat.lt_or_ge (p + 3) S.length with g3 | g3
         · have n3 := nx 3 g3
           exact k4 ⟨by omega, by omega, by omega, by omega, by omega, by omega, by omega, by omega, by omega, by omega, by omega⟩
         · have := ed 3 (by omega) (by omega); omega
       · have := ed 2 (by omega) (by omega); omega
     · have := ed 1 (by omega) (by omega); omega
theorem bad_mid (P S R : List UInt8) (hR : low R) : ∀ (n p : Nat), S.length - p ≤ n → p ≤ S.length →
   badFrom (B (P ++ (S ++ R))) (P.length + p) = if badFrom (B S) p < 0 then badFrom (B (P ++ (S ++ R))) (P.length + S.length) else P.length + badFrom (B S) p
 | 0, p, hn, hp => by
   obtain rfl : p = S.length := by omega
   rw [badFrom_end (B S) _ (by rw [B_size]; omega), if_pos (by omega)]
 | n + 1, p, hn, hp => by
   rcases Nat.lt_or_ge p S.length with h | h
   · have hd := dec_mid P S R hR p h
     have hps : p < (B S).size := by rw [B_size]; exact h
     have hpb : P.length + p < (B (P ++ (S ++ R))).size := by rw [B_size]; simp; omega
     have hb : badAt (B (P ++ (S ++ R))) (P.length + p) = badAt (B S) p := by unfold badAt; rw [hd]
     cases hB : badAt (B S) p
     · rw [badFrom_step _ _ hpb (hb.trans hB), badFrom_step _ _ hps hB, hd]
       have hw := wid_pos (B S) p
       have hl := wid_le (B S) p hps
       rw [B_size] at hl
       rw [Nat.add_assoc]
       exact bad_mid P S R hR n _ (by omega) hl
     · rw [badFrom_at _ _ hpb (hb.trans hB), badFrom_at _ _ hps hB, if_neg (by omega)]; omega
   · obtain rfl : p = S.length := by omega
     rw [badFrom_end (B S) _ (by rw [B_size]; omega), if_pos (by omega)]
theorem bad_low (s : ByteArray) : ∀ (n p : Nat), p + n ≤ s.size → (∀ i, i < n → bt s (p + i) < 128) → badFrom s p = badFrom s (p + n)
 | 0, p, _, _ => rfl
 | n + 1, p, h, hb => by
   have h0 := hb 0 (by omega)
   rw [Nat.add_zero] at h0
   rw [badFrom_step s p (by omega) (badAt_low s p h0), low_of s p h0, bad_low s n (p + 1) (by omega) (fun i hi => by have := hb (i + 1) (by omega); rwa [show p + (i + 1) = p + 1 + i from by omega] at this), show p + 1 + n = p + (n + 1) from by omega]
theorem low_run (P S Q : List UInt8) (h : ∀ b ∈ S, b.toNat < 128) : badFrom (B (P ++ (S ++ Q))) P.length = badFrom (B (P ++ (S ++ Q))) (P.length + S.length) := by
 refine bad_low (B (P ++ (S ++ Q))) S.length P.length (by rw [B_size]; simp) (fun i hi => ?_)
 rw [btB_mid P S Q i hi, btB _ _ hi]
 exact h _ (List.getElem_mem hi)
theorem bad_put (P S Q : List UInt8) (hS : ∀ b ∈ S, b.toNat < 128) (hS0 : S ≠ []) (hQ : low Q) (h : bad (B (P ++ Q)) < 0) : bad (B (P ++ (S ++ Q))) < 0 := by
 have e1 := bad_mid [] P Q hQ P.length 0 (by omega) (Nat.zero_le _)
 simp only [List.nil_append, List.length_nil, Nat.add_zero, Nat.zero_add] at e1
 have lowS : low (S ++ Q) := by
   intro b hb
   cases S with
   | nil => exact absurd rfl hS0
   | cons x t => simp at hb; subst hb; exact hS x (by simp)
 have e2 := bad_mid [] P (S ++ Q) lowS P.length 0 (by omega) (Nat.zero_le _)
 simp only [List.nil_append, List.length_nil, Nat.add_zero, Nat.zero_add] at e2
 have ln : low [] := fun b hb => by simp at hb
 have e3 := bad_mid P Q [] ln Q.length 0 (by omega) (Nat.zero_le _)
 have e4 := bad_mid (P ++ S) Q [] ln Q.length 0 (by omega) (Nat.zero_le _)
 simp only [List.append_nil, Nat.add_zero, List.append_assoc] at e3 e4
 have e5 := low_run P S Q hS
 rw [bad_zero] at h ⊢
 rw [e1] at h
 have r0 := badFrom_range (B P) 0
 have r1 := badFrom_range (B Q) 0
 split at h
 · rename_i hp
   rw [e2, if_pos hp, e5]
   rw [List.length_append] at e4
   rw [e4]
   rw [e3] at h
   split at h
   · rename_i hq
     rw [if_pos hq, badFrom_end _ _ (by rw [B_size]; simp; omega)]; omega
   · omega
 · omega
end
section
theorem span_cons (f : Int → Bool) (b : UInt8) (t : List UInt8) : spanL f (b :: t) = if f (b.toNat : Int) = true then spanL f t + 1 else 0 := by
 rw [spanL, List.takeWhile_cons]
 split <;> simp [spanL]
theorem enc_high (r : Nat) (h : 128 ≤ r) (hr : okRune r) : ∀ b ∈ Lib.encodeRune (r : Int), 128 ≤ b.toNat := by
 intro b hb
 unfold okRune at hr
 by_cases h2 : r < 2048
 · rw [Lib.encodeRune, Lib.encodeRuneZ_two (by omega) (by omega)] at hb
   simp only [List.map_cons, List.map_nil, List.mem_cons, List.not_mem_nil, or_false] at hb
   rcases hb with rfl | rfl
   · have := u8v (192 + (r : Int) / 64) (by omega) (by omega); omega
   · have := u8v (128 + (r : Int) % 64) (by omega) (by omega); omega
 · by_cases h3 : r < 65536
   · rw [Lib.encodeRune, Lib.encodeRuneZ_three (by omega)] at hb
     simp only [List.map_cons, List.map_nil, List.mem_cons, List.not_mem_nil, or_false] at hb
     rcases hb with rfl | rfl | rfl
     · have := u8v (224 + (r : Int) / 4096) (by omega) (by omega); omega
     · have := u8v (128 + (r : Int) / 64 % 64) (by omega) (by omega); omega
     · have := u8v (128 + (r : Int) % 64) (by omega) (by omega); omega
   · rw [Lib.encodeRune, Lib.encodeRuneZ_four (by omega) (by omega)] at hb
     simp only [List.map_cons, List.map_nil, List.mem_cons, List.not_mem_nil, or_false] at hb
     rcases hb with rfl | rfl | rfl | rfl
     · have := u8v (240 + (r : Int) / 262144) (by omega) (by omega); omega
     · have := u8v (128 + (r : Int) / 4096 % 64) (by omega) (by omega); omega
     · have := u8v (128 + (r : Int) / 64 % 64) (by omega) (by omega); omega
     · have := u8v (128 + (r : Int) % 64) (by omega) (by omega); omega
theorem tlen_bytes : ∀ (bs rest : List UInt8) (n : Nat), (∀ b ∈ bs, b.toNat ≠ 10 ∧ b.toNat ≠ 92 ∧ b.toNat ≠ 34) → tlenL false (bs ++ rest) n = tlenL false rest (n + bs.length)
 | [], rest, n, _ => rfl
 | b :: t, rest, n, h => by
   obtain ⟨h1, h2, h3⟩ := h b (by simp)
   rw [List.cons_append, tlenL, if_neg h1, if_neg (by simp), if_neg h2, if_neg h3, tlen_bytes t rest (n + 1) (fun x hx => h x (by simp [hx])), List.length_cons, show n + 1 + t.length = n + (t.length + 1) from by omega]
theorem enc_one (r : Nat) (h : r < 128) : Lib.encodeRune (r : Int) = [r.toUInt8] := by
 rw [Lib.encodeRune, Lib.encodeRuneZ_one (by omega) (by omega)]; simp
theorem tlen_quoted : ∀ (l : List Nat) (rest : List UInt8) (n : Nat), (∀ r ∈ l, okRune r) → tlenL false (encs (l.flatMap qr) ++ rest) n = tlenL false rest (n + (encs (l.flatMap qr)).length)
 | [], rest, n, _ => by simp [encs]
 | r :: l, rest, n, h => by
   have hr := h r (by simp)
   rw [List.flatMap_cons, encs_append, List.append_assoc]
   have ih := tlen_quoted l rest (n + (encs (qr r)).length) (fun x hx => h x (by simp [hx]))
   rw [List.length_append, show n + ((encs (qr r)).length + (encs (l.flatMap qr)).length) = n + (encs (qr r)).length + (encs (l.flatMap qr)).length from by omega, ← ih]
   unfold qr
   cases hm : mustN r
   · simp only [if_neg (show ¬ (false = true) by simp), encs_cons, encs_nil, List.append_nil, Bool.false_eq_true, if_false]
     apply tlen_bytes
     intro b hb
     simp only [mustN, Bool.or_eq_false_iff, beq_eq_false_iff_ne] at hm
     by_cases h1 : r < 128
     · rw [enc_one r h1, List.mem_singleton] at hb
       subst hb
       have : (r.toUInt8).toNat = r := by simp; omega
       rw [this]; omega
     · have := enc_high r (by omega) hr b hb; omega
   · simp only [if_true, encs_cons, encs_nil, List.append_nil]
     have e92 : Lib.encodeRune ((92 : Nat) : Int) = [92] := by decide
     simp only [mustN, Bool.or_eq_true, beq_iff_eq] at hm
     have hl : Lib.encodeRune ((letterN r : Nat) : Int) = [(letterN r).toUInt8] ∧ (letterN r).toUInt8.toNat ≠ 10 := by
       rcases hm with rfl | rfl | rfl <;> exact ⟨by decide, by decide⟩
     rw [e92, hl.1]
     simp only [List.cons_append, List.nil_append, List.length_cons, List.length_nil]
     rw [tlenL, if_neg (by decide), if_neg (by simp), if_pos (by decide), tlenL, if_neg hl.2, if_pos rfl]
theorem quote_is (s : ByteArray) : quote s = 34 :: (quoteFrom s 0 ++ [34]) := rfl
theorem quoteFrom_is (s : ByteArray) : quoteFrom s 0 = encs ((runes s 0).flatMap qr) := rfl
theorem textLen_quote (s : ByteArray) (t : List UInt8) : textLen (34 :: (quoteFrom s 0 ++ (34 :: t))) = (quoteFrom s 0).length + 2 := by
 rw [textLen, if_pos (by decide), quoteFrom_is, tlen_quoted _ _ _ (runes_ok s 0), tlenL, if_neg (by decide), if_neg (by simp), if_neg (by decide), if_pos (by decide)]
 omega
theorem wd_plain (s : ByteArray) : plainText ⟨(quoteFrom s 0).toArray⟩ = encs (runes s 0) ∧ plainOk ⟨(quoteFrom s 0).toArray⟩ = true := by
 simp [plainText, plainOk, plain_inner]
theorem first_quote (s : ByteArray) (t : List UInt8) (hb : bad s < 0) : firstL (34 :: (quoteFrom s 0 ++ (34 :: t))) = (3, s.data.toList, (quoteFrom s 0).length + 2) := by
 have e1 : spanL digit (34 :: (quoteFrom s 0 ++ (34 :: t))) = 0 := by rw [span_cons]; rfl
 have e2 : spanL alnum (34 :: (quoteFrom s 0 ++ (34 :: t))) = 0 := by rw [span_cons]; rfl
 have e3 := textLen_quote s t
 have e4 : inner (34 :: (quoteFrom s 0 ++ (34 :: t))) ((quoteFrom s 0).length + 2) = ⟨(quoteFrom s 0).toArray⟩ := by
   unfold inner
   rw [show (quoteFrom s 0).length + 2 - 1 = (quoteFrom s 0).length + 1 from by omega, List.take_succ_cons, List.drop_succ_cons, List.drop_zero, List.take_left]
 unfold firstL
 rw [e1, e2, e3, if_neg (by omega), if_neg (by omega), if_pos (by omega), e4, (wd_plain s).2, if_pos rfl, (wd_plain s).1, back_same s hb]
theorem gap_at (b : UInt8) (t : List UInt8) (h : b.toNat ≠ 10 ∧ blankI (b.toNat : Int) = false ∧ b.toNat ≠ 47) : gapL false (b :: t) = 0 := by
 rw [gapL, if_neg h.1, if_neg (by simp), if_neg (by rw [h.2.1]; simp), if_neg (fun e => h.2.2 e.1)]
theorem all_of (s : ByteArray) (h : ¬ 8000 < s.size) (ws : List Wd) (c b : Int) (hc : cutL s.data.toList 0 = (ws, c)) (hb : bad s = b) :
   wrongAt s = if 0 ≤ b ∧ (c < 0 ∨ b < c) then b else c := by unfold wrongAt; rw [hc, hb]
theorem all_fine (s : ByteArray) (h : ¬ 8000 < s.size) (ws : List Wd) (hc : cutL s.data.toList 0 = (ws, -1)) (hb : bad s < 0) : allW s = ws ∧ allE s = 0 ∧ allA s = 0 := by
 have hw := all_of s h ws (-1) _ hc rfl
 rw [if_neg (by omega)] at hw
 unfold allW allE allA
 rw [hw, if_neg (by omega), if_neg h, if_neg h, if_neg (by omega), if_neg (by omega), hc]
 exact ⟨rfl, rfl, rfl⟩
theorem ok_quoted (s : ByteArray) : ∀ r ∈ (runes s 0).flatMap qr, okRune r := qrs_ok _ (runes_ok s 0)
theorem enc_small (k : Nat) (h : k < 128) : encs [k] = [k.toUInt8] := by rw [encs_cons, encs_nil, enc_one k h]; rfl
/-! ### A note between two names -/
end
end Go.Proofs.YtaclhdpjkgoadaaGreatDoor
