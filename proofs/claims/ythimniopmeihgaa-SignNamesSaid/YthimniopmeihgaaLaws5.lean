/- Statements of layer 1 as walks: names. -/
import Derived.Test.YthimniopmeihgaaTold
set_option linter.unusedSimpArgs false
set_option linter.unusedVariables false
namespace Go.Proofs.Ythimniopmeihgaa
open Go.RowKit

def plainInit (s : ByteArray) : Bool := decide ((1 : Int) ≤ s.size) && decide ((s.size : Int) ≤ 20)
theorem names_no (s : ByteArray) (h : (plainInit s && allAl s 0) = false) : nameOk s = false ∧ classOk s = false := by
  have e1 : decide ((1 : Int) ≤ s.size) = decide (1 ≤ s.size) := by rw [decide_eq_decide]; omega
  have e2 : decide ((s.size : Int) ≤ 20) = decide (s.size ≤ 20) := by rw [decide_eq_decide]; omega
  have g : ∀ f, shape f s = false := by
    intro f
    unfold shape
    unfold plainInit at h
    rw [e1, e2] at h
    revert h
    cases decide (1 ≤ s.size) <;> cases decide (s.size ≤ 20) <;> cases allAl s 0 <;> cases f (bt s 0) <;> simp
  exact ⟨by rw [nameOk, g]; rfl, by rw [classOk, g]; rfl⟩
theorem names_yes (s : ByteArray) (h : (plainInit s && allAl s 0) = true) :
    0 < s.size ∧ s.size ≤ 20 ∧ nameOk s = (small (bt s 0) && !kept s.data.toList) ∧ classOk s = (big (bt s 0) && !(s.toList == [83, 116, 114, 105, 110, 103])) := by
  unfold plainInit at h
  simp only [Bool.and_eq_true, decide_eq_true_eq] at h
  obtain ⟨⟨h1, h2⟩, h3⟩ := h
  have g : ∀ f, shape f s = f (bt s 0) := by
    intro f
    have a : decide (1 ≤ s.size) = true := by rw [decide_eq_true_iff]; omega
    have b : decide (s.size ≤ 20) = true := by rw [decide_eq_true_iff]; omega
    rw [shape, a, b, h3]; simp
  exact ⟨by omega, by omega, by rw [nameOk, g], by rw [classOk, g, Lib.toList_data]; rfl⟩
theorem small_big (r : Int) (h : small r = true) : big r = false := by
  simp only [small, Bool.and_eq_true, decide_eq_true_eq] at h
  simp only [big, Bool.and_eq_false_iff, decide_eq_false_iff_not]; omega
theorem small_big3 (r : Int) : (small r = true ∧ big r = false) ∨ (small r = false ∧ big r = true) ∨ (small r = false ∧ big r = false) := by
  cases h : small r
  · cases h2 : big r
    · exact .inr (.inr ⟨rfl, rfl⟩)
    · exact .inr (.inl ⟨rfl, rfl⟩)
  · exact .inl ⟨rfl, small_big r h⟩
theorem kept_q (l : List UInt8) : kept (113 :: l) = false := by
  simp [kept, keptWords, List.contains_cons]
theorem q_name (s : ByteArray) (h : (plainInit s && allAl s 0) = true) : nameOk (⟨#[113]⟩ ++ s) = decide ((s.size : Int) < 20) := by
  simp only [Bool.and_eq_true] at h
  have hl : ((⟨#[113]⟩ : ByteArray) ++ s).data.toList = 113 :: s.data.toList := by rw [app_list]; rfl
  have hz : ((⟨#[113]⟩ : ByteArray) ++ s).size = 1 + s.size := by rw [ByteArray.size_append]; rfl
  have hb : bt ((⟨#[113]⟩ : ByteArray) ++ s) 0 = 113 := by
    have : ((⟨#[113]⟩ : ByteArray) ++ s) = ⟨(113 :: s.data.toList).toArray⟩ := ba_of _ _ hl
    rw [this]; exact get_list _ 0 113 rfl
  have ha : allAl ((⟨#[113]⟩ : ByteArray) ++ s) 0 = true := by
    have := h.2
    unfold allAl at this ⊢
    rw [List.drop_zero] at this ⊢
    rw [hl, List.all_cons, this]; decide
  rw [nameOk, hl, kept_q, shape, hz, hb, ha]
  have s113 : small ((113 : Nat) : Int) = true := by decide
  rw [s113]
  simp only [Bool.and_true, Bool.not_false]
  have : decide (1 ≤ 1 + s.size) = true := by rw [decide_eq_true_iff]; omega
  rw [this, Bool.true_and, decide_eq_decide]; omega
theorem names_step (s : ByteArray) (p : Nat) (b : Bool) (h : p < s.size) (hb : (b && allAl s p) = (plainInit s && allAl s 0)) :
    ((b && alnum ((Utf8.decode s p).1 : Nat)) && allAl s (p + (Utf8.decode s p).2)) = (plainInit s && allAl s 0) := by
  rw [← hb]
  cases hal : alnum ((Utf8.decode s p).1 : Nat)
  · have := allAl_step s p h
    rw [← alnum_at, hal, Bool.false_and] at this
    rw [this]; simp
  · have := allAl_step s p h
    rw [← alnum_at, hal, Bool.true_and] at this
    rw [(alnum_wid s p hal).1, this]; simp
set_option maxRecDepth 100000 in
set_option maxHeartbeats 4000000 in
theorem lawSignNames (s : ByteArray) (hs : s.size ≤ maxLen) (w : World) : Calls Try.prog 6 #[.string s] w fun e w' => e = .returned (.bool true) ∧ Below w.heap.size w w' := by
  by_cases h2 : 30 < s.size
  · have h2' : (30 : Int) < s.size := by omega
    go_enter Try.func6, Try.ntmps6
    go_wp2_with (go_at_call 8; refine (told_any _).mono ?_; rintro e w1 ⟨rfl, hb⟩)
    go_ret
    exact ⟨rfl, hb⟩
  · have h2' : (s.size : Int) ≤ 30 := by omega
    have hinit : plainInit s = (decide ((1 : Int) ≤ s.size) && decide ((s.size : Int) ≤ 20)) := rfl
    have HI := Lib.hid hinit; clear hinit
    go_enter Try.func6, Try.ntmps6
    by_cases a1 : (1 : Int) ≤ s.size
    all_goals go_wp2
    all_goals (
      go_loopw [3] (fun v3 wr => ∃ (p : Nat) (b : Bool), v3 = .bool b ∧ wr = w.iter s p ∧ p ≤ s.size ∧ (b && allAl s p) = (plainInit s && allAl s 0)) (fun v3 wr => s.size - wr.iterPos w.heap.size)
      case atStart => exact ⟨0, _, rfl, rfl, Nat.zero_le _, by rw [HI.out]; first | (simp [a1]; done) | (simp [a1]; intro h; exfalso; omega)⟩
      case round =>
        obtain ⟨p, b, rfl, rfl, hp, hB⟩ := hrel
        by_cases hlt : p < s.size
        · have hnx := fun ty => run_next_any (P := Try.prog) w s p ty hlt
          have hw := wid_pos s p
          have hwl := wid_le s p hlt
          have HS := Lib.hid (names_step s p b hlt hB); clear hB
          cases b
          · go_wp2
            go_roundw
            case rel => exact ⟨p + (Utf8.decode s p).2, false, rfl, rfl, hwl, HS.out⟩
            case measure => simp; omega
          · cases hal : alnum ((Utf8.decode s p).1 : Nat)
            · rw [hal] at HS
              obtain ⟨b1, b2, b3⟩ := al0 hal
              clear hal
              go_wp2_with (first | (go_at_call 11; refine (small_any _ _).mono ?_; rintro e w' ⟨rfl, rfl⟩) | (go_at_call 13; refine (big_any _ _).mono ?_; rintro e w' ⟨rfl, rfl⟩) | (go_at_call 15; refine (digit_any _ _).mono ?_; rintro e w' ⟨rfl, rfl⟩))
              go_roundw
              case rel => exact ⟨p + (Utf8.decode s p).2, false, rfl, rfl, hwl, HS.out⟩
              case measure => simp; omega
            · rw [hal] at HS
              rcases al3 hal with b1 | ⟨b1, b2⟩ | ⟨b1, b2, b3⟩
              all_goals clear hal
              all_goals go_wp2_with (first | (go_at_call 11; refine (small_any _ _).mono ?_; rintro e w' ⟨rfl, rfl⟩) | (go_at_call 13; refine (big_any _ _).mono ?_; rintro e w' ⟨rfl, rfl⟩) | (go_at_call 15; refine (digit_any _ _).mono ?_; rintro e w' ⟨rfl, rfl⟩))
              all_goals go_roundw
              all_goals first | exact ⟨p + (Utf8.decode s p).2, true, rfl, rfl, hwl, HS.out⟩ | (simp; omega)
        · have hnx := fun ty => run_next_end (P := Try.prog) w s p ty hlt
          rw [allAl_end s p hlt, Bool.and_true] at hB
          have hc : Below w.heap.size w (w.iter s p) := iter_below w s p
          cases b
          · obtain ⟨n1, n2⟩ := names_no s hB.symm
            clear hB
            go_wp2_with (first
            | (go_at_call 8; refine (told_any _).mono ?_; rintro e w1 ⟨rfl, hb⟩; replace hc := hc.trans (hb.mono hc.size); clear hb)
            | (go_at_call 17; refine (name_any _ _ (by first | assumption | (unfold maxLen; omega))).mono ?_; rintro e w1 ⟨rfl, hb⟩; replace hc := hc.trans (hb.mono hc.size); clear hb)
            | (go_at_call 19; refine (class_any _ _ hs).mono ?_; rintro e w1 ⟨rfl, hb⟩; replace hc := hc.trans (hb.mono hc.size); clear hb)
            | (go_at_call 11; refine (small_any _ _).mono ?_; rintro e w' ⟨rfl, rfl⟩)
            | (go_at_call 13; refine (big_any _ _).mono ?_; rintro e w' ⟨rfl, rfl⟩))
            go_ret
            exact ⟨rfl, hc⟩
          · obtain ⟨m1, m2, n1, n2⟩ := names_yes s hB.symm
            have n3 := q_name s hB.symm
            have hbt := bt_eq s 0 m1
            have hb256 := bt_lt s 0
            have hz : ((⟨#[113]⟩ : ByteArray) ++ s).size = 1 + s.size := by rw [ByteArray.size_append]; rfl
            have hz2 : ((⟨#[113]⟩ : ByteArray) ++ s).size ≤ maxLen := by unfold maxLen; omega
            clear hB hz
            obtain ⟨k3, t3⟩ : ∃ k, kept s.data.toList = k := ⟨_, rfl⟩
            obtain ⟨k4, t4⟩ : ∃ k, (s.toList == [83, 116, 114, 105, 110, 103]) = k := ⟨_, rfl⟩
            rw [t3] at n1
            rw [t4] at n2
            clear t3
            rcases small_big3 (bt s 0) with ⟨t1, t2⟩ | ⟨t1, t2⟩ | ⟨t1, t2⟩
            all_goals cases k3
            all_goals cases k4
            all_goals simp only [t1, t2, Bool.not_true, Bool.not_false, Bool.and_true, Bool.and_false, Bool.false_and, Bool.true_and] at n1 n2
            all_goals go_wp2_with (first
            | (go_at_call 8; refine (told_any _).mono ?_; rintro e w1 ⟨rfl, hb⟩; replace hc := hc.trans (hb.mono hc.size); clear hb)
            | (go_at_call 17; refine (name_any _ _ (by first | assumption | (unfold maxLen; omega))).mono ?_; rintro e w1 ⟨rfl, hb⟩; replace hc := hc.trans (hb.mono hc.size); clear hb)
            | (go_at_call 19; refine (class_any _ _ hs).mono ?_; rintro e w1 ⟨rfl, hb⟩; replace hc := hc.trans (hb.mono hc.size); clear hb)
            | (go_at_call 11; refine (small_any _ _).mono ?_; rintro e w' ⟨rfl, rfl⟩)
            | (go_at_call 13; refine (big_any _ _).mono ?_; rintro e w' ⟨rfl, rfl⟩))
            all_goals (go_ret; exact ⟨rfl, hc⟩))
end Go.Proofs.Ythimniopmeihgaa
