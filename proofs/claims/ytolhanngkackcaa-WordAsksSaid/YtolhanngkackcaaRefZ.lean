/- Contract of the document's own answer for all words of a text: the loop. -/
import Derived.Test.YtolhanngkackcaaRefY
set_option linter.unusedSimpArgs false
set_option linter.unusedVariables false
namespace Go.Proofs.Ytolhanngkackcaa
open Go.RowKit

theorem rel_skip (s : ByteArray) (p n : Nat) (acc : List Wd) (h : cutL s.data.toList 0 = (acc ++ (cutL (s.data.toList.drop p) p).1, (cutL (s.data.toList.drop p) p).2)) (hs : cutL (s.data.toList.drop p) p = cutL ((s.data.toList.drop p).drop n) (p + n)) :
    cutL s.data.toList 0 = (acc ++ (cutL (s.data.toList.drop (p + n)) (p + n)).1, (cutL (s.data.toList.drop (p + n)) (p + n)).2) := by
  rw [h, hs, List.drop_drop]
theorem rel_word (s : ByteArray) (p n : Nat) (acc : List Wd) (x : Wd) (h : cutL s.data.toList 0 = (acc ++ (cutL (s.data.toList.drop p) p).1, (cutL (s.data.toList.drop p) p).2)) (hs : cutL (s.data.toList.drop p) p = (x :: (cutL ((s.data.toList.drop p).drop n) (p + n)).1, (cutL ((s.data.toList.drop p).drop n) (p + n)).2)) :
    cutL s.data.toList 0 = ((acc ++ [x]) ++ (cutL (s.data.toList.drop (p + n)) (p + n)).1, (cutL (s.data.toList.drop (p + n)) (p + n)).2) := by
  rw [h, hs, List.drop_drop]; simp
set_option maxRecDepth 100000 in
set_option maxHeartbeats 4000000 in
theorem rall_any (s : ByteArray) (w : World) (hs : s.size ≤ maxLen) : Calls Try.prog 11 #[.string s] w (RAllSaid s w) := by
  unfold maxLen at hs
  by_cases h8 : 8000 < s.size
  · have h8' : (8000 : Int) < s.size := by omega
    obtain ⟨a1, a2, a3⟩ := all_long s h8
    have A1 := Lib.hid a1; have A2 := Lib.hid a2; have A3 := Lib.hid a3; clear a1 a2 a3
    go_enter Try.func11, Try.ntmps11
    go_wp2
    refine bodyPost_ret (v := .tuple #[.slice none 0 0, .int .i64 5, .int .i64 0]) (by simp [results, Try.results11, go_sem]) rfl ?_
    exact rall_said A1.out A2.out A3.out (World.ownsRow_nil _ _ _ _) (Below.refl _ _)
  · have h8' : (s.size : Int) ≤ 8000 := by omega
    obtain ⟨b, hb⟩ : ∃ b, bad s = b := ⟨_, rfl⟩
    have hbr := bad_range s
    rw [hb] at hbr
    have HB : Hid (∀ w, Calls Try.prog 13 #[.string s] w fun e w' => e = .returned (.int .i64 b) ∧ Below w.heap.size w w') := by
      show ∀ w, _
      intro w; have := rbad_any s w (by omega); rw [hb] at this; exact this
    have HBS := Lib.hid hb; clear hb
    have H8 := Lib.hid h8; clear h8
    have hb1 : -1 ≤ b := by omega
    have hb2 : b < s.size := by omega
    clear hbr
    obtain ⟨i0, hi, hz0, hz1, hz2⟩ := info_parts Try.infoRWord
    have H0 : Hid (cutL s.data.toList 0 = ([] ++ (cutL (s.data.toList.drop 0) 0).1, (cutL (s.data.toList.drop 0) 0).2)) := by
      show cutL s.data.toList 0 = ([] ++ (cutL (s.data.toList.drop 0) 0).1, (cutL (s.data.toList.drop 0) 0).2)
      rw [List.drop_zero]; rfl
    go_enter Try.func11, Try.ntmps11
    go_wp2_with (go_at_call 13; refine (HB.out _).mono ?_; clear HB; rintro e w1 ⟨rfl, hbw1⟩)
    go_loopw [6, 7] (fun v6 v7 wr => ∃ (p : Nat) (acc : List Wd), v7 = .int .i64 p ∧ p ≤ s.size ∧ wr.ownsRow w.heap.size 41 3 v6 acc.length (cellsW acc) ∧ Below w.heap.size w wr ∧ acc.length ≤ p ∧ (b < 0 ∨ (p : Int) ≤ b) ∧ cutL s.data.toList 0 = (acc ++ (cutL (s.data.toList.drop p) p).1, (cutL (s.data.toList.drop p) p).2)) (fun v6 v7 wr => s.size - (intOf v7).toNat)
    case atStart => exact ⟨0, [], rfl, Nat.zero_le _, World.ownsRow_nil _ _ _ _, hbw1, Nat.zero_le _, by omega, H0.out⟩
    case round =>
      obtain ⟨p, acc, rfl, hp, hown, hbw, hal, hbp, hc⟩ := hrel
      clear H0 hbw1
      have hsz := hbw.size
      have hrw := rest_wrong s p
      by_cases hlt : p < s.size
      · have hpi : (p : Int) < s.size := by omega
        by_cases hpb : (p : Int) = b
        · have hw : wrongAt s = b := by
            rw [← HBS.out]
            refine wrong_bad s _ (by rw [hc]) (by rw [HBS.out]; omega) ?_
            rw [HBS.out]
            rcases hrw with h | h
            · exact .inl h
            · right; omega
          obtain ⟨a1, a2, a3⟩ := all_wrong s H8.out b hw (by omega)
          have A1 := Lib.hid a1; have A2 := Lib.hid a2; have A3 := Lib.hid a3
          have k1 : ((p : Int) == b) = true := by rw [beq_iff_eq]; exact hpb
          clear a1 a2 a3 hw hpb hrw hc
          go_wp2
          refine bodyPost_ret (v := .tuple #[.slice none 0 0, .int .i64 2, .int .i64 b]) (by simp [results, Try.results11, go_sem]) rfl ?_
          exact rall_said A1.out A2.out A3.out (World.ownsRow_nil _ _ _ _) hbw
        · have k1 : ((p : Int) == b) = false := by rw [beq_eq_false_iff_ne]; exact hpb
          have hst := one_step (s.data.toList.drop p) p (drop_ne s p hlt)
          have hln := one_len (s.data.toList.drop p) (drop_ne s p hlt)
          have HO : Hid (∀ w, OneWSaid s p w) := fun w => onew_any s p w (by omega) hlt
          obtain ⟨k, t, n, hone⟩ : ∃ k t n, oneL (s.data.toList.drop p) = (k, t, n) := ⟨_, _, _, rfl⟩
          obtain ⟨ap, hap⟩ : ∃ ap, oneA (s.data.toList.drop p) p = ap := ⟨_, rfl⟩
          have hap2 : k ≠ 0 → ap = p := fun hk => by rw [← hap]; exact oneA_pos _ p _ _ _ hone hk
          obtain ⟨tb, htb⟩ : ∃ tb : ByteArray, tb = ⟨t.toArray⟩ := ⟨_, rfl⟩
          have HOW : Hid (∀ w, Calls Try.prog 17 #[.string s, .int .i64 (p : Nat)] w fun e w' => e = .returned (.tuple #[.agg #[.int .i64 (k : Nat), .string tb, .int .i64 (ap : Nat)], .int .i64 (n : Nat)]) ∧ Below w.heap.size w w') := by
            show ∀ w, _
            intro w
            have := HO.out w
            unfold OneWSaid at this
            rw [hone, hap, ← htb] at this
            exact this
          rw [hone] at hst hln
          simp only [] at hst hln
          have hnl : p + n ≤ s.size := by rw [List.length_drop] at hln; have : s.data.toList.length = s.size := by simp
                                          omega
          clear HO hone hap hln
          rcases hst with ⟨hn0, hcut⟩ | ⟨hn0, hk0, hcut⟩ | ⟨hn0, hk0, hcut⟩
          · subst hn0
            have hw : wrongAt s = (p : Int) := by
              refine wrong_cut s _ (by rw [hc, hcut]) ?_
              rw [HBS.out]
              omega
            obtain ⟨a1, a2, a3⟩ := all_wrong s H8.out p hw (by omega)
            have A1 := Lib.hid a1; have A2 := Lib.hid a2; have A3 := Lib.hid a3
            clear a1 a2 a3 hw hpb hrw hc hcut hap2 htb
            go_wp2_with (go_at_call 17; refine (HOW.out _).mono ?_; clear HOW; rintro e w2 ⟨rfl, hbo⟩)
            refine bodyPost_ret (v := .tuple #[.slice none 0 0, .int .i64 2, .int .i64 (p : Nat)]) (by simp [results, Try.results11, go_sem]) rfl ?_
            exact rall_said A1.out A2.out A3.out (World.ownsRow_nil _ _ _ _) ((hbw.trans (hbo.mono hsz)).alloc (Nat.le_trans hsz hbo.size) _)
          · subst hk0
            have hn1 : ((n : Int) == 0) = false := by rw [beq_eq_false_iff_ne]; omega
            by_cases hbn : 0 ≤ b ∧ b < (p : Int) + n
            · have hw : wrongAt s = b := by
                have h3 := rest_wrong s (p + n)
                rw [← HBS.out]
                refine wrong_bad s _ (by rw [hc, hcut, List.drop_drop]) (by rw [HBS.out]; omega) ?_
                rw [HBS.out]
                omega
              obtain ⟨a1, a2, a3⟩ := all_wrong s H8.out b hw (by omega)
              have A1 := Lib.hid a1; have A2 := Lib.hid a2; have A3 := Lib.hid a3
              obtain ⟨g1, g2⟩ := hbn
              clear a1 a2 a3 hw hpb hrw hc hcut hap2 htb hn0
              go_wp2_with (go_at_call 17; refine (HOW.out _).mono ?_; clear HOW; rintro e w2 ⟨rfl, hbo⟩)
              refine bodyPost_ret (v := .tuple #[.slice none 0 0, .int .i64 2, .int .i64 b]) (by simp [results, Try.results11, go_sem]) rfl ?_
              exact rall_said A1.out A2.out A3.out (World.ownsRow_nil _ _ _ _) ((hbw.trans (hbo.mono hsz)).alloc (Nat.le_trans hsz hbo.size) _)
            · have HC := Lib.hid (rel_skip s p n acc hc hcut)
              have hbp2 : b < 0 ∨ ((p + n : Nat) : Int) ≤ b := by omega
              have hpos : 0 < n := by omega
              have hcs : b < 0 ∨ (0 ≤ b ∧ (p : Int) + n ≤ b) := by omega
              clear hpb hrw hc hcut hap2 htb hn0 hbn hbp
              rcases hcs with g1 | ⟨g1, g2⟩
              all_goals go_wp2_with (go_at_call 17; refine (HOW.out _).mono ?_; clear HOW; rintro e w2 ⟨rfl, hbo⟩)
              all_goals go_roundw
              all_goals first
                | exact ⟨p + n, acc, by go_num, hnl, (own_next hown hbo).alloc _, (hbw.trans (hbo.mono hsz)).alloc (Nat.le_trans hsz hbo.size) _, by omega, hbp2, HC.out⟩
                | (simp [intOf]; omega)
          · have hn1 : ((n : Int) == 0) = false := by rw [beq_eq_false_iff_ne]; omega
            obtain rfl := hap2 hk0
            by_cases hbn : 0 ≤ b ∧ b < (ap : Int) + n
            · have hw : wrongAt s = b := by
                have h3 := rest_wrong s (ap + n)
                rw [← HBS.out]
                refine wrong_bad s _ (by rw [hc, hcut, List.drop_drop]) (by rw [HBS.out]; omega) ?_
                rw [HBS.out]
                omega
              obtain ⟨a1, a2, a3⟩ := all_wrong s H8.out b hw (by omega)
              have A1 := Lib.hid a1; have A2 := Lib.hid a2; have A3 := Lib.hid a3
              obtain ⟨g1, g2⟩ := hbn
              clear a1 a2 a3 hw hpb hrw hc hcut hap2 htb hn0
              go_wp2_with (go_at_call 17; refine (HOW.out _).mono ?_; clear HOW; rintro e w2 ⟨rfl, hbo⟩)
              refine bodyPost_ret (v := .tuple #[.slice none 0 0, .int .i64 2, .int .i64 b]) (by simp [results, Try.results11, go_sem]) rfl ?_
              exact rall_said A1.out A2.out A3.out (World.ownsRow_nil _ _ _ _) ((hbw.trans (hbo.mono hsz)).alloc (Nat.le_trans hsz hbo.size) _)
            · have HC := Lib.hid (rel_word s ap n acc _ hc hcut)
              have hbp2 : b < 0 ∨ ((ap + n : Nat) : Int) ≤ b := by omega
              have hpos : 0 < n := by omega
              have hkpos : 0 < (k : Int) := by omega
              have hcs : b < 0 ∨ (0 ≤ b ∧ (ap : Int) + n ≤ b) := by omega
              have HTB := Lib.hid htb
              clear hpb hrw hc hcut hap2 htb hn0 hbn hbp hk0
              rcases hcs with g1 | ⟨g1, g2⟩
              all_goals
                go_wp2_with (first | (go_at_call 17; refine (HOW.out _).mono ?_; clear HOW; rintro e w2 ⟨rfl, hbo⟩) | (at_builtin; refine wpList_append_own _ rfl (.tmp 45) (.tmp 47) 26 rfl w.heap.size 41 i0 _ 3 32 Try.underlying26 hi hz0 hz1 hz2 rfl (by decide) _ _ _ rfl (((own_next hown hbo).alloc _).alloc _) ⟨w2.heap.size + 1, 0, none⟩ 1 1 [.int .i64 k, .string tb, .int .i64 ap] rfl rfl (new_cells w2 _ _ _ _ _) (three_one _ _ _) (by unfold maxLen; omega) (by omega) (by have := hbo.size; simp; omega) ?_; intro v' w3 hown3 hgrow _))
                have hB3 : Below w.heap.size w w3 := below_own ((((hbw.trans (hbo.mono hsz)).alloc (Nat.le_trans hsz hbo.size) _).alloc (by have := hbo.size; simp; omega) _)) (((own_next hown hbo).alloc _).alloc _) hgrow (by have := hbo.size; simp; omega) (Nat.le_refl _)
                have hO3 : w3.ownsRow w.heap.size 41 3 v' (acc ++ [(⟨k, t, ap⟩ : Wd)]).length (cellsW (acc ++ [(⟨k, t, ap⟩ : Wd)])) := by
                  rw [cellsW_snoc, List.length_append]; rw [HTB.out] at hown3; exact hown3
                have hal3 : (acc ++ [(⟨k, t, ap⟩ : Wd)]).length ≤ ap + n := by simp; omega
                clear hown3 hgrow hown hbw hbo
                go_wp2
                go_roundw
                case rel => exact ⟨ap + n, _, by go_num, hnl, hO3, hB3, hal3, hbp2, HC.out⟩
                case measure => simp [intOf]; omega
      · have hbn : b < 0 := by omega
        have hcc : cutL s.data.toList 0 = (acc, -1) := by rw [hc, dropz s p hlt]; simp [cutL, words_nil]
        have hw : wrongAt s = -1 := wrong_cut s _ (by rw [hcc]) (by rw [HBS.out]; omega)
        obtain ⟨a1, a2, a3⟩ := all_right s H8.out _ hw (by omega)
        rw [hcc] at a1
        have A1 := Lib.hid a1; have A2 := Lib.hid a2; have A3 := Lib.hid a3
        clear a1 a2 a3 hw hrw hc hcc
        go_wp2
        refine bodyPost_ret (v := .tuple #[_, .int .i64 0, .int .i64 0]) (by simp [results, Try.results11, go_sem]; rfl) rfl ?_
        exact rall_said A1.out A2.out A3.out hown hbw
end Go.Proofs.Ytolhanngkackcaa
