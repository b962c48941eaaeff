/- Statements of layer 2 as walks: a note between two names. -/
import Derived.Test.YtolhanngkackcaaTold2
import Derived.Test.YtolhanngkackcaaWordI
import Derived.Test.YtolhanngkackcaaRefF
import Derived.WalkSmall
set_option linter.unusedSimpArgs false
set_option linter.unusedVariables false
namespace Go.Proofs.Ytolhanngkackcaa
open Go.RowKit

theorem nt_cat (a b : ByteArray) (l m : List UInt8) (h1 : a.data.toList = l) (h2 : b.data.toList = m) : a ++ b = B (l ++ m) := by
  apply ba_is; rw [app_list, h1, h2]
theorem nt_sub_len (s : ByteArray) (p k : Nat) (h : p + k ≤ s.size) : (sub s p k).length = k := by
  have : s.data.toList.length = s.size := by simp
  rw [sub, List.length_take, List.length_drop]; omega
theorem nt_fffd (s : ByteArray) (p : Nat) (h : p < s.size) (hB : badAt s p = false) (hr : (Utf8.decode s p).1 = 65533) : p + 3 ≤ s.size ∧ (s.extract p (p + 3)).toList = [239, 191, 189] := by
  have e := enc_ok s p h hB
  rw [hr] at e
  have e2 : Lib.encodeRune ((65533 : Nat) : Int) = [239, 191, 189] := by decide
  rw [e2] at e
  have hl := nt_sub_len s p _ (wid_le s p h)
  rw [← e] at hl
  have hw := wid_le s p h
  have h3 : (Utf8.decode s p).2 = 3 := by rw [← hl]; rfl
  rw [h3] at e hw
  exact ⟨hw, by rw [Lib.toList_data, extract_sub, show p + 3 - p = 3 from by omega]; exact e.symm⟩
theorem nt_bad3 (s : ByteArray) (p : Nat) (hB : badAt s p = true) : ((s.extract p (p + 3)).toList == [239, 191, 189]) = false := by
  rw [beq_eq_false_iff_ne]
  intro e
  have h := fffd_bad s p hB
  rw [drop_extract, Lib.hasPrefix, Bool.eq_false_iff] at h
  apply h
  rw [List.isPrefixOf_iff_prefix]
  rw [Lib.toList_data, extract_list, show p + 3 - p = 3 from by omega] at e
  rw [← e]; exact List.take_prefix _ _
def NotesAll (s : ByteArray) (ws : List Wd) (x a : Int) : Prop := ∀ W, Calls Try.prog 10 #[.string ((⟨#[97, 32, 47, 47]⟩ : ByteArray) ++ s ++ ⟨#[10, 98]⟩)] W fun e w' => ∃ z : Value, e = .returned (.tuple #[z, .int .i64 x, .int .i64 a]) ∧ w'.ownsRow W.heap.size 32 3 z ws.length (cellsW ws) ∧ Below W.heap.size W w'
theorem notes_all (s : ByteArray) (hs : s.size ≤ 60) (ws : List Wd) (x a : Int) (h : allW (B ([97, 32, 47, 47] ++ (s.data.toList ++ [10, 98]))) = ws ∧ allE (B ([97, 32, 47, 47] ++ (s.data.toList ++ [10, 98]))) = x ∧ allA (B ([97, 32, 47, 47] ++ (s.data.toList ++ [10, 98]))) = a) : NotesAll s ws x a := by
  intro W
  have hx : (⟨#[97, 32, 47, 47]⟩ : ByteArray) ++ s ++ ⟨#[10, 98]⟩ = B ([97, 32, 47, 47] ++ (s.data.toList ++ [10, 98])) := by
    rw [nt_cat _ _ _ [10, 98] (app_list _ _) rfl]; simp
  rw [hx]
  refine tell _ ws x a h.1 h.2.1 h.2.2 ?_ W
  rw [B_size]; unfold maxLen; simp; omega
set_option maxRecDepth 100000 in
set_option maxHeartbeats 4000000 in
theorem notes_good (s : ByteArray) (hs : s.size ≤ 60) (hbad : bad s < 0) (hn : ∀ b ∈ s.data.toList, b.toNat ≠ 10) (w : World) : Calls Try.prog 8 #[.string s] w fun e w' => e = .returned (.bool true) ∧ Below w.heap.size w w' := by
  have h2' : (s.size : Int) ≤ 60 := by omega
  have HA := Lib.hid (notes_all s hs _ _ _ (note_ok s hs hn hbad))
  have HN : Hid (∀ k, k < s.size → bt s k ≠ 10) := by
    show ∀ k, k < s.size → bt s k ≠ 10
    intro k hk
    obtain ⟨b, e, e1, _⟩ := dropc s k hk
    have : b ∈ s.data.toList := List.mem_of_mem_drop (i := k) (by rw [e]; simp)
    have := hn b this
    omega
  clear hn
  go_enter Try.func8, Try.ntmps8
  go_wp2
  go_loop [3] (fun v => ∃ k : Nat, v = .int .i64 k ∧ k ≤ s.size) (fun v => s.size - (intOf v).toNat)
  case atStart => exact ⟨0, rfl, Nat.zero_le _⟩
  case round =>
    obtain ⟨k, rfl, hk⟩ := hrel
    by_cases hlt : k < s.size
    · have hbt := bt_eq s k hlt
      have hn10 : (((bt s k : Nat) : Int) == 10) = false := by
        have := HN.out k hlt; rw [beq_eq_false_iff_ne]; omega
      have h256 := bt_lt s k
      go_wp2
      go_round
      case rel => exact ⟨k + 1, by go_num, by omega⟩
      case measure => simp [intOf]; omega
    · clear HN
      go_wp2_with (go_at_call 10; refine ((HA.out : NotesAll _ _ _ _) _).mono ?_; clear HA; rintro e w1 ⟨z, rfl, ho, hb⟩)
      change w1.ownsRow _ _ 3 z 2 _ at ho
      obtain ⟨g, cap, rfl, hB1, hg, hcap, hm, _⟩ := own_at ho (by decide)
      have hi : ∀ p, Below w.heap.size w (w1.iter s p) := fun p => hb.trans ((iter_below w1 s p).mono hb.size)
      have HI := Lib.hid hi; clear hi
      have fin : ∀ (p : Nat) (w2 : World), Below (w1.iter s p).heap.size (w1.iter s p) w2 → Below w.heap.size w w2 := fun p w2 h => (HI.out p).trans (h.mono (HI.out p).size)
      have FIN := Lib.hid fin; clear fin
      go_loopw [7] (fun v wr => ∃ p : Nat, v = .int .i64 (-1) ∧ wr = w1.iter s p ∧ p ≤ s.size ∧ badFrom s p = bad s) (fun v wr => s.size - wr.iterPos w1.heap.size)
      case atStart => exact ⟨0, rfl, rfl, Nat.zero_le _, rfl⟩
      case round =>
        obtain ⟨p, rfl, rfl, hp, hB⟩ := hrel
        by_cases hlt2 : p < s.size
        · have hnx := fun ty => run_next_any (P := Try.prog) w1 s p ty hlt2
          have hw := wid_pos s p
          have hwl := wid_le s p hlt2
          cases hbd : badAt s p
          · have HB := Lib.hid ((badFrom_step s p hlt2 hbd).symm.trans hB); clear hB
            by_cases hF : (Utf8.decode s p).1 = 65533
            · obtain ⟨f1, f2⟩ := nt_fffd s p hlt2 hbd hF
              have b1 : ((((Utf8.decode s p).1 : Nat) : Int) == 65533) = true := by rw [beq_iff_eq]; omega
              have f3 : (p : Int) + 3 ≤ s.size := by omega
              have f4 : ((p : Int) + 3).toNat = p + 3 := by omega
              have f5 : (p : Int) ≤ (p : Int) + 3 := by omega
              have f6 : 0 ≤ (p : Int) + 3 := by omega
              clear hF
              go_wp2
              go_roundw
              case rel => exact ⟨p + (Utf8.decode s p).2, rfl, rfl, hwl, HB.out⟩
              case measure => simp; omega
            · have b1 : ((((Utf8.decode s p).1 : Nat) : Int) == 65533) = false := by rw [beq_eq_false_iff_ne]; omega
              clear hF
              go_wp2
              go_roundw
              case rel => exact ⟨p + (Utf8.decode s p).2, rfl, rfl, hwl, HB.out⟩
              case measure => simp; omega
          · have := (badFrom_at s p hlt2 hbd).symm.trans hB
            omega
        · have hnx := fun ty => run_next_end (P := Try.prog) w1 s p ty hlt2
          clear hB
          replace ho := own_next ho (iter_below w1 s p)
          go_wp2_with (go_at_call 9; refine (told2_any _).mono ?_; rintro e w2 ⟨rfl, hb2⟩; replace ho := own_next ho hb2; have c3 := own_cell ho 3 _ rfl; have c4 := own_cell ho 4 _ rfl; have c5 := own_cell ho 5 _ rfl; clear ho)
          go_ret
          exact ⟨rfl, FIN.out _ _ hb2⟩
set_option maxRecDepth 100000 in
set_option maxHeartbeats 4000000 in
theorem notes_bad (s : ByteArray) (hs : s.size ≤ 60) (hbad : 0 ≤ bad s) (hn : ∀ b ∈ s.data.toList, b.toNat ≠ 10) (w : World) : Calls Try.prog 8 #[.string s] w fun e w' => e = .returned (.bool true) ∧ Below w.heap.size w w' := by
  have h2' : (s.size : Int) ≤ 60 := by omega
  have HA := Lib.hid (notes_all s hs _ _ _ (note_wrong s hs hn hbad))
  have hbr := bad_range s
  have hbr' : bad s ≤ 60 := by omega
  clear hbr
  have HN : Hid (∀ k, k < s.size → bt s k ≠ 10) := by
    show ∀ k, k < s.size → bt s k ≠ 10
    intro k hk
    obtain ⟨b, e, e1, _⟩ := dropc s k hk
    have : b ∈ s.data.toList := List.mem_of_mem_drop (i := k) (by rw [e]; simp)
    have := hn b this
    omega
  clear hn
  go_enter Try.func8, Try.ntmps8
  go_wp2
  go_loop [3] (fun v => ∃ k : Nat, v = .int .i64 k ∧ k ≤ s.size) (fun v => s.size - (intOf v).toNat)
  case atStart => exact ⟨0, rfl, Nat.zero_le _⟩
  case round =>
    obtain ⟨k, rfl, hk⟩ := hrel
    by_cases hlt : k < s.size
    · have hbt := bt_eq s k hlt
      have hn10 : (((bt s k : Nat) : Int) == 10) = false := by
        have := HN.out k hlt; rw [beq_eq_false_iff_ne]; omega
      have h256 := bt_lt s k
      go_wp2
      go_round
      case rel => exact ⟨k + 1, by go_num, by omega⟩
      case measure => simp [intOf]; omega
    · clear HN
      go_wp2_with (go_at_call 10; refine ((HA.out : NotesAll _ _ _ _) _).mono ?_; clear HA; rintro e w1 ⟨z, rfl, ho, hb⟩)
      have hi : ∀ p, Below w.heap.size w (w1.iter s p) := fun p => hb.trans ((iter_below w1 s p).mono hb.size)
      have HI := Lib.hid hi; clear hi
      have fin : ∀ (p : Nat) (w2 : World), Below (w1.iter s p).heap.size (w1.iter s p) w2 → Below w.heap.size w w2 := fun p w2 h => (HI.out p).trans (h.mono (HI.out p).size)
      have FIN := Lib.hid fin; clear fin
      go_loopw [7] (fun v wr => ∃ (p : Nat) (x : Int), v = .int .i64 x ∧ wr = w1.iter s p ∧ p ≤ s.size ∧ -1 ≤ x ∧ x ≤ 60 ∧ ((x < 0 ∧ badFrom s p = bad s) ∨ (0 ≤ x ∧ x = bad s))) (fun v wr => s.size - wr.iterPos w1.heap.size)
      case atStart => exact ⟨0, -1, rfl, rfl, Nat.zero_le _, by omega, by omega, .inl ⟨by omega, rfl⟩⟩
      case round =>
        obtain ⟨p, x, rfl, rfl, hp, hx0, hx1, hB⟩ := hrel
        by_cases hlt2 : p < s.size
        · have hnx := fun ty => run_next_any (P := Try.prog) w1 s p ty hlt2
          have hw := wid_pos s p
          have hwl := wid_le s p hlt2
          rcases hB with ⟨hx2, hB⟩ | ⟨hx2, hB⟩
          · cases hbd : badAt s p
            · have HB := Lib.hid ((badFrom_step s p hlt2 hbd).symm.trans hB); clear hB
              by_cases hF : (Utf8.decode s p).1 = 65533
              · obtain ⟨f1, f2⟩ := nt_fffd s p hlt2 hbd hF
                have b1 : ((((Utf8.decode s p).1 : Nat) : Int) == 65533) = true := by rw [beq_iff_eq]; omega
                have f3 : (p : Int) + 3 ≤ s.size := by omega
                have f4 : ((p : Int) + 3).toNat = p + 3 := by omega
                have f5 : (p : Int) ≤ (p : Int) + 3 := by omega
                have f6 : 0 ≤ (p : Int) + 3 := by omega
                clear hF
                go_wp2
                go_roundw
                case rel => exact ⟨p + (Utf8.decode s p).2, x, rfl, rfl, hwl, hx0, hx1, .inl ⟨hx2, HB.out⟩⟩
                case measure => simp; omega
              · have b1 : ((((Utf8.decode s p).1 : Nat) : Int) == 65533) = false := by rw [beq_eq_false_iff_ne]; omega
                clear hF
                go_wp2
                go_roundw
                case rel => exact ⟨p + (Utf8.decode s p).2, x, rfl, rfl, hwl, hx0, hx1, .inl ⟨hx2, HB.out⟩⟩
                case measure => simp; omega
            · have HB := Lib.hid ((badFrom_at s p hlt2 hbd).symm.trans hB); clear hB
              have b1 : ((((Utf8.decode s p).1 : Nat) : Int) == 65533) = true := by rw [badAt_eq hbd]; rfl
              have f2 := nt_bad3 s p hbd
              have f4 : ((p : Int) + 3).toNat = p + 3 := by omega
              have f5 : (p : Int) ≤ (p : Int) + 3 := by omega
              have f6 : 0 ≤ (p : Int) + 3 := by omega
              by_cases h3 : p + 3 ≤ s.size
              · have f3 : (p : Int) + 3 ≤ s.size := by omega
                go_wp2
                go_roundw
                case rel => exact ⟨p + (Utf8.decode s p).2, (p : Int), rfl, rfl, hwl, by omega, by omega, .inr ⟨by omega, HB.out⟩⟩
                case measure => simp; omega
              · have f3 : (s.size : Int) < (p : Int) + 3 := by omega
                go_wp2
                go_roundw
                case rel => exact ⟨p + (Utf8.decode s p).2, (p : Int), rfl, rfl, hwl, by omega, by omega, .inr ⟨by omega, HB.out⟩⟩
                case measure => simp; omega
          · have HB := Lib.hid hB; clear hB
            by_cases hF : (Utf8.decode s p).1 = 65533
            · have b1 : ((((Utf8.decode s p).1 : Nat) : Int) == 65533) = true := by rw [beq_iff_eq]; omega
              clear hF
              go_wp2
              go_roundw
              case rel => exact ⟨p + (Utf8.decode s p).2, x, rfl, rfl, hwl, hx0, hx1, .inr ⟨hx2, HB.out⟩⟩
              case measure => simp; omega
            · have b1 : ((((Utf8.decode s p).1 : Nat) : Int) == 65533) = false := by rw [beq_eq_false_iff_ne]; omega
              clear hF
              go_wp2
              go_roundw
              case rel => exact ⟨p + (Utf8.decode s p).2, x, rfl, rfl, hwl, hx0, hx1, .inr ⟨hx2, HB.out⟩⟩
              case measure => simp; omega
        · have hnx := fun ty => run_next_end (P := Try.prog) w1 s p ty hlt2
          have hxb : x = bad s := by
            rcases hB with ⟨_, hB⟩ | ⟨_, hB⟩
            · rw [badFrom_end s p hlt2] at hB; omega
            · exact hB
          clear hB
          subst hxb
          go_wp2_with (go_at_call 9; refine (told2_any _).mono ?_; rintro e w2 ⟨rfl, hb2⟩)
          go_ret
          exact ⟨rfl, FIN.out _ _ hb2⟩
set_option maxRecDepth 100000 in
set_option maxHeartbeats 1000000 in
theorem notes_line (s : ByteArray) (hs : s.size ≤ 60) (m : Nat) (hm : m < s.size) (h10 : bt s m = 10) (w : World) : Calls Try.prog 8 #[.string s] w fun e w' => e = .returned (.bool true) ∧ Below w.heap.size w w' := by
  have h2' : (s.size : Int) ≤ 60 := by omega
  go_enter Try.func8, Try.ntmps8
  go_wp2
  go_loop [3] (fun v => ∃ k : Nat, v = .int .i64 k ∧ k ≤ m) (fun v => s.size - (intOf v).toNat)
  case atStart => exact ⟨0, rfl, Nat.zero_le _⟩
  case round =>
    obtain ⟨k, rfl, hk⟩ := hrel
    have hlt : k < s.size := by omega
    have hbt := bt_eq s k hlt
    have h256 := bt_lt s k
    by_cases hk10 : bt s k = 10
    · have hn10 : (((bt s k : Nat) : Int) == 10) = true := by rw [beq_iff_eq]; omega
      clear hk10 h10
      go_wp2_with (go_at_call 9; refine (told2_any _).mono ?_; rintro e w1 ⟨rfl, hb⟩)
      go_ret
      exact ⟨rfl, hb⟩
    · have hn10 : (((bt s k : Nat) : Int) == 10) = false := by rw [beq_eq_false_iff_ne]; omega
      have hkm : k + 1 ≤ m := by
        rcases Nat.lt_or_ge k m with h | h
        · exact h
        · exfalso; apply hk10; rw [show k = m from by omega]; exact h10
      clear hk10 h10
      go_wp2
      go_round
      case rel => exact ⟨k + 1, by go_num, hkm⟩
      case measure => simp [intOf]; omega
theorem lawWordNotes (s : ByteArray) (hs : s.size ≤ maxLen) (w : World) : Calls Try.prog 8 #[.string s] w fun e w' => e = .returned (.bool true) ∧ Below w.heap.size w w' := by
  unfold maxLen at hs
  by_cases h2 : 60 < s.size
  · have h2' : (60 : Int) < s.size := by omega
    go_enter Try.func8, Try.ntmps8
    go_wp2_with (go_at_call 9; refine (told2_any _).mono ?_; rintro e w1 ⟨rfl, hb⟩)
    go_ret
    exact ⟨rfl, hb⟩
  · by_cases hn : ∀ b ∈ s.data.toList, b.toNat ≠ 10
    · by_cases hb : bad s < 0
      · exact notes_good s (by omega) hb hn w
      · exact notes_bad s (by omega) (by omega) hn w
    · have : ∃ m, m < s.size ∧ bt s m = 10 := by
        apply Classical.byContradiction
        intro h
        apply hn
        intro b hb e
        obtain ⟨i, hi, rfl⟩ := List.getElem_of_mem hb
        have hi' : i < s.size := by simpa using hi
        exact h ⟨i, hi', by rw [← bt_eq s i hi']; exact e⟩
      obtain ⟨m, hm, h10⟩ := this
      exact notes_line s (by omega) m hm h10 w
end Go.Proofs.Ytolhanngkackcaa
