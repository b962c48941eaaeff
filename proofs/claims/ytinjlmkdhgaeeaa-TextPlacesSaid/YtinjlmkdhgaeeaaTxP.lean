/- text: the program's own calls of layer 14. -/
import Derived.Test.YtinjlmkdhgaeeaaTxS
import Derived.Test.YtinjlmkdhgaeeaaTxE
import Derived.Test.YtinjlmkdhgaeeaaShelf
set_option linter.unusedSimpArgs false
set_option linter.unusedVariables false
namespace Go.Proofs.Ytinjlmkdhgaeeaa
open Go.RowKit

set_option maxHeartbeats 1000000 in
theorem tshown_any (k n : Int) (s : ByteArray) (hn : i32 n) (w : World) : Calls Try.prog 19 #[valV k n s] w fun e w' => e = .returned (.string (ofT k n s)) ∧ Below w.heap.size w w' := by
  unfold valV
  have hb0 : Below w.heap.size w (w.alloc (.cells #[.int .i64 k, .int .i32 n, .string s] 23)) := (Below.refl _ _).alloc (Nat.le_refl _) _
  have HD := Lib.hid (fun W => text_any n hn W)
  have HB := Lib.hid hb0
  obtain ⟨t, ht⟩ : ∃ t, ofT k n s = t := ⟨_, rfl⟩
  rw [ht]
  unfold ofT at ht
  clear hb0
  by_cases h1 : k = 1
  · subst h1
    rw [if_pos rfl] at ht
    subst ht
    go_enter Try.func19, Try.ntmps19
    go_wp2_with (go_at_call 24; refine (HD.out _).mono ?_; rintro e w1 ⟨rfl, hb⟩)
    go_ret
    exact ⟨rfl, HB.out.trans (hb.mono (by simp))⟩
  · have k1 : (k == 1) = false := by rw [beq_eq_false_iff_ne]; exact h1
    rw [if_neg h1] at ht
    clear h1
    by_cases h2 : k = 2
    · subst h2
      rw [if_pos rfl] at ht
      by_cases hn1 : n = 1
      · subst hn1
        rw [if_pos rfl] at ht
        subst ht
        go_enter Try.func19, Try.ntmps19
        go_wp2_with fail
        go_ret
        exact ⟨rfl, HB.out⟩
      · have kn : (n == 1) = false := by rw [beq_eq_false_iff_ne]; exact hn1
        rw [if_neg hn1] at ht
        subst ht
        clear hn1
        go_enter Try.func19, Try.ntmps19
        go_wp2_with fail
        go_ret
        exact ⟨rfl, HB.out⟩
    · have k2 : (k == 2) = false := by rw [beq_eq_false_iff_ne]; exact h2
      rw [if_neg h2] at ht
      clear h2
      by_cases h3 : k = 3
      · subst h3
        rw [if_pos rfl] at ht
        subst ht
        go_enter Try.func19, Try.ntmps19
        go_wp2_with fail
        go_ret
        exact ⟨rfl, HB.out⟩
      · have k3 : (k == 3) = false := by rw [beq_eq_false_iff_ne]; exact h3
        rw [if_neg h3] at ht
        subst ht
        clear h3
        go_enter Try.func19, Try.ntmps19
        go_wp2_with fail
        go_ret
        exact ⟨rfl, HB.out⟩
theorem tclone_any (s : ByteArray) (w : World) (hs : s.size ≤ 16777216) : Calls Try.prog 20 #[.string s] w fun e w' => e = .returned (.string s) ∧ Below w.heap.size w w' := by
  go_enter Try.func20, Try.ntmps20
  go_wp2_with (go_at_call 25; refine (Try.stringslite_Clone _ _ (by omega)).mono ?_; rintro e w1 ⟨rfl, hb⟩)
  go_ret
  exact ⟨rfl, hb⟩
set_option maxHeartbeats 1000000 in
theorem tof_any (k n : Int) (s : ByteArray) (hn : i32 n) (hs : s.size ≤ 1048576) (w : World) : Calls Try.prog 12 #[valV k n s] w fun e w' => e = .returned (.string (ofT k n s)) ∧ Below w.heap.size w w' := by
  have hz := ofT_size k n s
  have hz2 : (ofT k n s).size ≤ 16777216 := by omega
  clear hz
  have HD : Hid (∀ W, Calls Try.prog 19 #[.agg #[.int .i64 k, .int .i32 n, .string s]] W fun e w' => e = .returned (.string (ofT k n s)) ∧ Below W.heap.size W w') := Lib.hid fun W => tshown_any k n s hn W
  unfold valV
  have hb0 : Below w.heap.size w (w.alloc (.cells #[.int .i64 k, .int .i32 n, .string s] 23)) := (Below.refl _ _).alloc (Nat.le_refl _) _
  obtain ⟨t, ht⟩ : ∃ t, ofT k n s = t := ⟨_, rfl⟩
  rw [ht] at HD hz2 ⊢
  clear ht
  have HC := Lib.hid (fun W => tclone_any t W hz2)
  clear hz2
  go_enter Try.func12, Try.ntmps12
  go_wp2_with (first
    | (go_at_call 19; refine (HD.out _).mono ?_; rintro e w1 ⟨rfl, hb⟩; replace hb0 := hb0.trans (hb.mono hb0.size); clear hb)
    | (go_at_call 20; refine (HC.out _).mono ?_; rintro e w2 ⟨rfl, hb⟩; replace hb0 := hb0.trans (hb.mono hb0.size); clear hb))
  go_ret
  exact ⟨rfl, hb0⟩
set_option maxHeartbeats 1000000 in
theorem tsame_any (k1 n1 : Int) (s1 : ByteArray) (k2 n2 : Int) (s2 : ByteArray) (w : World) : Calls Try.prog 16 #[valV k1 n1 s1, valV k2 n2 s2] w fun e w' => e = .returned (.bool (sameT k1 n1 s1 k2 n2 s2)) ∧ Below w.heap.size w w' := by
  unfold valV
  have hb0 : Below w.heap.size w ((w.alloc (.cells #[.int .i64 k1, .int .i32 n1, .string s1] 23)).alloc (.cells #[.int .i64 k2, .int .i32 n2, .string s2] 23)) := ((Below.refl _ _).alloc (Nat.le_refl _) _).alloc (by simp) _
  have HB := Lib.hid hb0
  clear hb0
  obtain ⟨t, ht⟩ : ∃ t, sameT k1 n1 s1 k2 n2 s2 = t := ⟨_, rfl⟩
  rw [ht]
  unfold sameT at ht
  by_cases h1 : k1 = k2
  · subst h1
    rw [if_pos rfl] at ht
    by_cases h3 : k1 = 3
    · subst h3
      rw [if_pos rfl] at ht
      subst ht
      go_enter Try.func16, Try.ntmps16
      go_wp2_with fail
      all_goals (go_ret; exact ⟨rfl, HB.out⟩)
    · have k3 : (k1 == 3) = false := by rw [beq_eq_false_iff_ne]; exact h3
      rw [if_neg h3] at ht
      subst ht
      clear h3
      go_enter Try.func16, Try.ntmps16
      go_wp2_with fail
      all_goals (go_ret; exact ⟨rfl, HB.out⟩)
  · have kk : (k1 != k2) = true := by rw [bne_iff_ne]; exact h1
    rw [if_neg h1] at ht
    subst ht
    clear h1
    go_enter Try.func16, Try.ntmps16
    go_wp2_with fail
    all_goals (go_ret; exact ⟨rfl, HB.out⟩)
set_option maxHeartbeats 4000000 in
theorem tjoin_any (k1 n1 : Int) (s1 : ByteArray) (k2 n2 : Int) (s2 : ByteArray) (h1 : i32 n1) (h2 : i32 n2) (hz1 : s1.size ≤ 1048576) (hz2 : s2.size ≤ 1048576) (w : World) :
    Calls Try.prog 8 #[valV k1 n1 s1, valV k2 n2 s2] w fun e w' => e = .returned (joinT (ofT k1 n1 s1 ++ ofT k2 n2 s2)) ∧ Below w.heap.size w w' := by
  have HO : Hid (∀ (k n : Int) (s : ByteArray), i32 n → ∀ W, Calls Try.prog 19 #[.agg #[.int .i64 k, .int .i32 n, .string s]] W fun e w' => e = .returned (.string (ofT k n s)) ∧ Below W.heap.size W w') := Lib.hid fun k n s hn W => tshown_any k n s hn W
  have hza := ofT_size k1 n1 s1
  have hzb := ofT_size k2 n2 s2
  have hsum : (ofT k1 n1 s1 ++ ofT k2 n2 s2).size = (ofT k1 n1 s1).size + (ofT k2 n2 s2).size := ByteArray.size_append
  have hai : ((ofT k1 n1 s1).size : Int) ≤ 1048588 := by omega
  have hbi : ((ofT k2 n2 s2).size : Int) ≤ 1048588 := by omega
  have hno : ¬ 9223372036854775807 < (ofT k1 n1 s1).size + (ofT k2 n2 s2).size := by omega
  clear hza hzb hz1 hz2
  unfold valV
  obtain ⟨W1, hW1⟩ : ∃ W1, W1 = ((w.alloc (.cells #[.int .i64 k1, .int .i32 n1, .string s1] 23)).alloc (.cells #[.int .i64 k2, .int .i32 n2, .string s2] 23)).alloc (.cells #[.int .i64 0, .int .i32 0, .string ⟨#[]⟩] 23) := ⟨_, rfl⟩
  have hb1 : Below w.heap.size w W1 := by rw [hW1]; exact (((Below.refl _ _).alloc (Nat.le_refl _) _).alloc (by simp) _).alloc (by simp; omega) _
  have hX1 : Bx W1 w.heap.size #[.int .i64 k1, .int .i32 n1, .string s1] 23 := by
    rw [hW1]; exact (Bx.new w _ _).next (((Below.refl _ _).alloc (by simp) _).alloc (by simp) _)
  have hX2 : Bx W1 (w.heap.size + 1) #[.int .i64 k2, .int .i32 n2, .string s2] 23 := by
    rw [hW1]
    have := (Bx.new (w.alloc (.cells #[.int .i64 k1, .int .i32 n1, .string s1] 23)) #[.int .i64 k2, .int .i32 n2, .string s2] 23).next ((Below.refl _ _).alloc (Nat.le_refl _) (.cells #[.int .i64 0, .int .i32 0, .string ⟨#[]⟩] 23))
    simpa using this
  have hX3 : Bx W1 (w.heap.size + 2) #[.int .i64 0, .int .i32 0, .string ⟨#[]⟩] 23 := by
    rw [hW1]
    have := Bx.new ((w.alloc (.cells #[.int .i64 k1, .int .i32 n1, .string s1] 23)).alloc (.cells #[.int .i64 k2, .int .i32 n2, .string s2] 23)) #[.int .i64 0, .int .i32 0, .string ⟨#[]⟩] 23
    simpa using this
  have HX3 := Lib.hid hX3
  have HC : Hid (∀ w', Below W1.heap.size W1 w' → w'.cell? ⟨w.heap.size, 0, none⟩ = some (.int .i64 k1) ∧ w'.cell? ⟨w.heap.size, 1, none⟩ = some (.int .i32 n1) ∧ w'.cell? ⟨w.heap.size, 2, none⟩ = some (.string s1) ∧ w'.cell? ⟨w.heap.size + 1, 0, none⟩ = some (.int .i64 k2) ∧ w'.cell? ⟨w.heap.size + 1, 1, none⟩ = some (.int .i32 n2) ∧ w'.cell? ⟨w.heap.size + 1, 2, none⟩ = some (.string s2)) :=
    Lib.hid fun w' hb => ⟨(hX1.next hb).cell 0, (hX1.next hb).cell 1, (hX1.next hb).cell 2, (hX2.next hb).cell 0, (hX2.next hb).cell 1, (hX2.next hb).cell 2⟩
  have hb0 : Below W1.heap.size W1 W1.drew := (Below.refl _ _).drew
  obtain ⟨j, hj⟩ : ∃ j, joinT (ofT k1 n1 s1 ++ ofT k2 n2 s2) = j := ⟨_, rfl⟩
  rw [hj]
  have HJ := Lib.hid hj
  have HS := Lib.hid hsum
  clear hX1 hX2 hX3 hj hsum
  go_enter Try.func8, Try.ntmps8
  go_upto_region 1 with (fail)
  rw [← hW1]
  clear hW1
  go_region_held3 (fun w' => w'.cell? ⟨w.heap.size, 0, none⟩ = some (.int .i64 k1) ∧ w'.cell? ⟨w.heap.size, 1, none⟩ = some (.int .i32 n1) ∧ w'.cell? ⟨w.heap.size, 2, none⟩ = some (.string s1) ∧ w'.cell? ⟨w.heap.size + 1, 0, none⟩ = some (.int .i64 k2) ∧ w'.cell? ⟨w.heap.size + 1, 1, none⟩ = some (.int .i32 n2) ∧ w'.cell? ⟨w.heap.size + 1, 2, none⟩ = some (.string s2))
    (first | with_reducible exact HC.out _ hb0)
    ((go_at_call 19; refine (HO.out _ _ _ (by assumption) _).mono ?_; rintro e w2 ⟨rfl, hb⟩; replace hb0 := hb0.trans (hb.mono hb0.size); clear hb))
  all_goals
    have hX := HX3.out.next hb0
    have hsum := HS.out
    obtain ⟨p, hp⟩ : ∃ p, ofT k1 n1 s1 = p := ⟨_, rfl⟩
    obtain ⟨q, hq⟩ : ∃ q, ofT k2 n2 s2 = q := ⟨_, rfl⟩
    have HJ2 : Hid (joinT (p ++ q) = j) := Lib.hid (by rw [← hp, ← hq]; exact HJ.out)
    simp only [hp, hq] at hsum hai hbi hno ⊢
    clear hp hq
    obtain ⟨c0, c1, c2⟩ := hX.three
    have g0 := hX.fro 0
    have g1 := hX.fro 1
    have g2 := hX.fro 2
    by_cases hb : 1000 < (p ++ q).size
    · have hbi2 : (1000 : Int) < (p.size : Int) + (q.size : Int) := by omega
      have HE : Hid (j = .tuple #[valV 0 0 ⟨#[]⟩, .bool false]) := Lib.hid (by rw [← HJ2.out, joinT, if_pos hb])
      clear hb hsum
      go_wp2_with fail
      refine bodyPost_ret (v := .tuple #[.agg #[.int .i64 0, .int .i32 0, .string ⟨#[]⟩], .bool false]) (by simp [results, Try.results8, go_sem, c0, c1, c2, g0, g1, g2]) rfl ⟨by rw [HE.out]; rfl, below_set3 (hb1.trans (hb0.mono hb1.size)) (by omega) _ _ _⟩
    · have hbi2 : ¬ (1000 : Int) < (p.size : Int) + (q.size : Int) := by omega
      have HE : Hid (j = .tuple #[valV 3 0 (p ++ q), .bool true]) := Lib.hid (by rw [← HJ2.out, joinT, if_neg hb])
      have hz : (p ++ q).size ≤ 16777216 := by omega
      have HC := Lib.hid (fun W => tclone_any (p ++ q) W hz)
      clear hb hsum hz c0 c1 c2 g0 g1 g2
      go_wp2_with ((go_at_call 20; refine (HC.out _).mono ?_; rintro e w5 ⟨rfl, hb⟩; replace hb0 := hb0.trans (hb.mono hb0.size); clear hb; replace hX := HX3.out.next hb0; obtain ⟨c0, c1, c2⟩ := hX.three; have g0 := hX.fro 0; have g1 := hX.fro 1; have g2 := hX.fro 2))
      refine bodyPost_ret (v := .tuple #[.agg #[.int .i64 3, .int .i32 0, .string (p ++ q)], .bool true]) (by simp [results, Try.results8, go_sem, c0, c1, c2, g0, g1, g2]) rfl ⟨by rw [HE.out]; rfl, below_set3 (hb1.trans (hb0.mono hb1.size)) (by omega) _ _ _⟩
set_option maxHeartbeats 1000000 in
theorem tlen_any (s : ByteArray) (hs : s.size ≤ 16777216) (w : World) : Calls Try.prog 14 #[.string s] w fun e w' => e = .returned (.int .i32 (lenT s)) ∧ Below w.heap.size w w' := by
  go_enter Try.func14, Try.ntmps14
  go_wp2
  go_loopw [3] (fun v3 wr => ∃ p i : Nat, v3 = .int .i32 i ∧ wr = w.iter s p ∧ Pos s p i) (fun v3 wr => s.size - wr.iterPos w.heap.size)
  case atStart => exact ⟨0, 0, rfl, rfl, Pos.zero s⟩
  case round =>
    obtain ⟨p, i, rfl, rfl, hP⟩ := hrel
    have hp := hP.le
    have hi := hP.ile
    have hsi : (i : Int) ≤ 16777216 := by omega
    by_cases hlt : p < s.size
    · have HS := Lib.hid (hP.step hlt).2
      have hnx := fun ty => run_next_any (P := Try.prog) w s p ty hlt
      have hw := wid_pos s p
      clear hP
      go_wp2
      go_roundw
      case rel => exact ⟨p + (Utf8.decode s p).2, i + 1, by go_num, rfl, HS.out⟩
      case measure => have := HS.out.le; simp; omega
    · have hnx := fun ty => run_next_end (P := Try.prog) w s p ty hlt
      have HS := Lib.hid (hP.fin hlt)
      have hc2 : Below w.heap.size w (w.iter s p) := (Below.refl _ _).alloc (Nat.le_refl _) _
      clear hP
      go_wp2
      go_ret
      exact ⟨by rw [← HS.out]; rfl, hc2⟩
set_option maxHeartbeats 1000000 in
theorem tat_any (s : ByteArray) (hs : s.size ≤ 16777216) (k : Int) (hk : i32 k) (w : World) : Calls Try.prog 10 #[.string s, .int .i32 k] w fun e w' => e = .returned (.tuple #[.string (atT s k).1, .bool (atT s k).2]) ∧ Below w.heap.size w w' := by
  obtain ⟨r, hr⟩ : ∃ r, atT s k = r := ⟨_, rfl⟩
  rw [hr]
  have HR := Lib.hid hr; clear hr
  go_enter Try.func10, Try.ntmps10
  go_wp2
  go_loopw [6] (fun v6 wr => ∃ p i : Nat, v6 = .int .i32 i ∧ wr = w.iter s p ∧ Pos s p i ∧ (0 ≤ k → (i : Int) ≤ k)) (fun v6 wr => s.size - wr.iterPos w.heap.size)
  case atStart => exact ⟨0, 0, rfl, rfl, Pos.zero s, fun h => h⟩
  case round =>
    obtain ⟨p, i, rfl, rfl, hP, hle⟩ := hrel
    have hp := hP.le
    have hi := hP.ile
    have hsi : (i : Int) ≤ 16777216 := by omega
    have hc2 : ∀ q, Below w.heap.size w (w.iter s q) := fun q => (Below.refl _ _).alloc (Nat.le_refl _) _
    have HC2 := Lib.hid hc2
    clear hc2
    by_cases hlt : p < s.size
    · obtain ⟨hat, hst⟩ := hP.step hlt
      have HS := Lib.hid hst
      have hnx := fun ty => run_next_any (P := Try.prog) w s p ty hlt
      have hw := wid_pos s p
      by_cases hik : (i : Int) = k
      · have HE : Hid (r = (Utf8.encode (((Utf8.decode s p).1 : Nat) : Int), true)) := Lib.hid (by rw [← HR.out, ← hik, atT_nat, atN_at hat, enc_at hP hlt])
        have hb : ((i : Int) == k) = true := by rw [beq_iff_eq]; exact hik
        clear hst hP hat hle hik
        go_wp2
        have he := HE.out
        clear HE hnx
        generalize Utf8.encode (((Utf8.decode s p).1 : Nat) : Int) = u at he ⊢
        go_ret2
        exact ⟨by rw [he]; rfl, HC2.out _⟩
      · have hb : ((i : Int) == k) = false := by rw [beq_eq_false_iff_ne]; exact hik
        have hle2 : 0 ≤ k → ((i + 1 : Nat) : Int) ≤ k := fun h => by have := hle h; omega
        have HL := Lib.hid hle2
        clear hst hP hat hle hik hle2
        go_wp2
        go_roundw
        case rel => exact ⟨p + (Utf8.decode s p).2, i + 1, by go_num, rfl, HS.out, HL.out⟩
        case measure => have := HS.out.le; simp; omega
    · have hnx := fun ty => run_next_end (P := Try.prog) w s p ty hlt
      have hfin := hP.fin hlt
      have HE : Hid (r = (⟨#[]⟩, false)) := Lib.hid (by
        rw [← HR.out]
        by_cases h0 : 0 ≤ k
        · exact atT_out (by have := hle h0; omega)
        · exact atT_neg (by omega))
      clear hP hfin hle
      go_wp2
      go_ret2
      exact ⟨by rw [HE.out]; rfl, HC2.out _⟩
end Go.Proofs.Ytinjlmkdhgaeeaa
