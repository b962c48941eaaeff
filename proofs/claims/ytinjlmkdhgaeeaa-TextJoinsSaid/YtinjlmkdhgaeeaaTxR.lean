/- Statements of layer 14: TextRunes as a walk. -/
import Derived.Test.YtinjlmkdhgaeeaaTxS
set_option linter.unusedSimpArgs false
set_option linter.unusedVariables false
namespace Go.Proofs.Ytinjlmkdhgaeeaa
open Go.RowKit

def LenS (s : ByteArray) (n : Int) : Prop := Hid (∀ W, Calls Try.prog 14 #[.string s] W fun e w' => e = .returned (.int .i32 n) ∧ Below W.heap.size W w')
theorem lenS (C : TextC) {s : ByteArray} (hs : s.size ≤ 16777216) {n : Int} (h : (lenT s : Int) = n) : LenS s n := Lib.hid fun W => by rw [← h]; exact C.len s hs W
def AtS (s : ByteArray) (k : Int) (t : ByteArray) (q : Bool) : Prop := Hid (∀ W, Calls Try.prog 10 #[.string s, .int .i32 k] W fun e w' => e = .returned (.tuple #[.string t, .bool q]) ∧ Below W.heap.size W w')
theorem atS (C : TextC) {s : ByteArray} (hs : s.size ≤ 16777216) {k : Int} (hk : i32 k) {t : ByteArray} {q : Bool} (h : atT s k = (t, q)) : AtS s k t q := Lib.hid fun W => by have := C.at_ s hs k hk W; rw [h] at this; exact this
def BadS (s : ByteArray) (n : Int) : Prop := Hid (∀ W, Calls Try.prog 18 #[.string s] W fun e w' => e = .returned (.int .i64 n) ∧ Below W.heap.size W w')
theorem badS {s : ByteArray} (hs : s.size ≤ 16777216) {n : Int} (h : bad s = n) : BadS s n := Lib.hid fun W => by rw [← h]; exact rbad_any s W hs
theorem encT_take_size (s : ByteArray) (k n : Nat) (h : lenT s ≤ n) : (encT ((rl s).take k)).size ≤ 4 * n := by
  have := encT_size ((rl s).take k)
  have h2 : ((rl s).take k).length ≤ (rl s).length := by rw [List.length_take]; omega
  unfold lenT at h; omega
set_option maxRecDepth 100000 in
set_option maxHeartbeats 4000000 in
theorem runes_any (C : TextC) (s : ByteArray) (hs : s.size ≤ maxLen) (w : World) : Calls Try.prog 4 #[.string s] w fun e w' => e = .returned (.bool true) ∧ Below w.heap.size w w' := by
  by_cases h200 : 200 < s.size
  · have h2' : (200 : Int) < s.size := by omega
    clear hs
    go_enter Try.func4, Try.ntmps4
    go_wp2_with fail
    refine (C.told _).mono ?_
    rintro e w1 ⟨rfl, hb1⟩
    go_wp2_with fail
    go_ret
    exact ⟨rfl, hb1⟩
  · have hs2 : s.size ≤ 16777216 := by omega
    have hle := lenT_le s
    have hn200 : lenT s ≤ 200 := by omega
    have hns : (lenT s : Int) ≤ s.size := by omega
    have h2' : ¬ (200 : Int) < s.size := by omega
    have HT := Lib.hid (encT_take_size s · 200 hn200)
    have l1 : LenS s (lenT s) := lenS C hs2 rfl
    have HR : Hid (∀ k, k < lenT s → ∃ r u, encT ((rl s).take (k + 1)) = encT ((rl s).take k) ++ u ∧ u.size ≤ 4 ∧ AtS s k u true ∧ LenS u 1) := Lib.hid fun k hk => by
      obtain ⟨r, hr, ho, ha⟩ := atN_in hk
      refine ⟨r, oneT r, ?_, (oneT_size r).2, atS C hs2 (by unfold i32; omega) (by rw [atT_nat]; exact ha), lenS C (by have := (oneT_size r).2; omega) (by rw [lenT_one ho]; rfl)⟩
      rw [List.take_add_one, hr]; exact encT_snoc _ r
    have a1 : AtS s (lenT s) ⟨#[]⟩ false := atS C hs2 (by unfold i32; omega) (atT_out (Int.le_refl _))
    have a2 : AtS s (-1) ⟨#[]⟩ false := atS C hs2 ⟨by decide, by decide⟩ (atT_neg (by decide))
    have hfull : encT ((rl s).take (lenT s)) = encT (rl s) := by unfold lenT; rw [List.take_length]
    have l2 : LenS (encT (rl s)) (lenT s) := lenS C (by have := HT.out (lenT s); rw [hfull] at this; omega) (by unfold lenT; rw [rl_enc (rl_ok s)])
    have b1 : BadS s (bad s) := badS hs2 rfl
    have hbs : bad s < 0 → encT (rl s) = s := encT_of
    obtain ⟨bn, hbn⟩ : ∃ b, bad s = b := ⟨_, rfl⟩
    rw [hbn] at b1 hbs
    have HBS := Lib.hid hbs
    have HF := Lib.hid hfull
    have hz : (encT (rl s)).size ≤ 800 := by have := HT.out (lenT s); rw [hfull] at this; omega
    obtain ⟨o, ho⟩ : ∃ o, encT (rl s) = o := ⟨_, rfl⟩
    rw [ho] at l2 HF HBS
    have HFin : Hid (∀ p i, Pos s p i → ¬ p < s.size → (i : Int) = lenT s) := Lib.hid fun p i h hlt => by have := h.fin hlt; omega
    obtain ⟨n, hn⟩ : ∃ n, lenT s = n := ⟨_, rfl⟩
    rw [hn] at l1 l2 a1 HF hns HR HFin hn200
    have hn0 : (n : Int) ≤ 200 := by omega
    have hns3 : ¬ s.size < n := by omega
    have hnn : ¬ (n : Int) < 0 := by omega
    have hc : Below w.heap.size w w := Below.refl _ _
    clear hs hs2 hle hn hbs hbn hfull ho hz h200 hn200
    go_enter Try.func4, Try.ntmps4
    go_wp2_with fail
    refine (l1.out _).mono ?_
    rintro e w1 ⟨rfl, hb1⟩
    replace hc := hc.trans (hb1.mono hc.size); clear hb1
    go_wp2_with fail
    go_loopw [4, 5] (fun v4 v5 wr => ∃ k : Nat, v4 = .string (encT ((rl s).take k)) ∧ v5 = .int .i32 k ∧ k ≤ n ∧ Below w.heap.size w wr) (fun v4 v5 wr => n - (intOf v5).toNat)
    case atStart => exact ⟨0, rfl, rfl, Nat.zero_le _, hc⟩
    case round =>
      obtain ⟨k, rfl, rfl, hk, hbw⟩ := hrel
      have hsz := hbw.size
      have hT := HT.out k
      obtain ⟨t, ht⟩ : ∃ t, encT ((rl s).take k) = t := ⟨_, rfl⟩
      rw [ht] at hT ⊢
      have hti : (t.size : Int) ≤ 800 := by omega
      clear hT
      by_cases hlt : k < n
      · obtain ⟨r, u, hu, huz, hat, hlu⟩ := HR.out k hlt
        rw [ht] at hu
        have HU := Lib.hid hu
        have hui : (u.size : Int) ≤ 4 := by omega
        clear hu huz ht
        go_wp2_with fail
        refine (hat.out _).mono ?_
        rintro e w2 ⟨rfl, hb1⟩
        replace hbw := hbw.trans (hb1.mono hbw.size); clear hb1
        go_wp2_with fail
        refine (hlu.out _).mono ?_
        rintro e w2 ⟨rfl, hb1⟩
        replace hbw := hbw.trans (hb1.mono hbw.size); clear hb1
        go_wp2_with fail
        go_roundw
        case rel => exact ⟨k + 1, by rw [HU.out], by go_num, by omega, hbw⟩
        case measure => simp [intOf]; omega
      · obtain rfl : k = n := by omega
        have ht2 : t = o := by rw [← ht]; exact HF.out
        subst ht2
        clear ht
        go_wp2_with fail
        refine (a1.out _).mono ?_
        rintro e w2 ⟨rfl, hb1⟩
        replace hbw := hbw.trans (hb1.mono hbw.size); clear hb1
        go_wp2_with fail
        refine (a2.out _).mono ?_
        rintro e w2 ⟨rfl, hb1⟩
        replace hbw := hbw.trans (hb1.mono hbw.size); clear hb1
        go_wp2_with fail
        go_loopw [12] (fun v12 wr => ∃ p i : Nat, v12 = .int .i32 i ∧ wr = w2.iter s p ∧ Pos s p i) (fun v12 wr => s.size - wr.iterPos w2.heap.size)
        case atStart => exact ⟨0, 0, rfl, rfl, Pos.zero s⟩
        case round =>
          obtain ⟨p, i, rfl, rfl, hP⟩ := hrel
          have hp := hP.le
          have hi := hP.ile
          by_cases hlt2 : p < s.size
          · have HS := Lib.hid (hP.step hlt2).2
            have hnx := fun ty => run_next_any (P := Try.prog) w2 s p ty hlt2
            have hw := wid_pos s p
            clear hP
            go_wp2
            go_roundw
            case rel => exact ⟨p + (Utf8.decode s p).2, i + 1, by go_num, rfl, HS.out⟩
            case measure => have := HS.out.le; simp; omega
          · have hnx := fun ty => run_next_end (P := Try.prog) w2 s p ty hlt2
            have hin := HFin.out p i hP hlt2
            rw [hin]
            have hc2 : Below w.heap.size w (w2.iter s p) := hbw.alloc hbw.size _
            clear hP hin hi
            go_wp2_with fail
            refine (C.told _).mono ?_
            rintro e w3 ⟨rfl, hb1⟩
            replace hc2 := hc2.trans (hb1.mono hc2.size); clear hb1
            go_wp2_with fail
            refine (b1.out _).mono ?_
            rintro e w3 ⟨rfl, hb1⟩
            replace hc2 := hc2.trans (hb1.mono hc2.size); clear hb1
            by_cases hb0 : (0 : Int) ≤ bn
            · go_wp2_with fail
              refine (l2.out _).mono ?_
              rintro e w3 ⟨rfl, hb1⟩
              replace hc2 := hc2.trans (hb1.mono hc2.size); clear hb1
              go_wp2_with fail
              go_ret
              exact ⟨rfl, hc2⟩
            · have hos := HBS.out (by omega)
              subst hos
              go_wp2_with fail
              refine (l2.out _).mono ?_
              rintro e w3 ⟨rfl, hb1⟩
              replace hc2 := hc2.trans (hb1.mono hc2.size); clear hb1
              go_wp2_with fail
              go_ret
              exact ⟨rfl, hc2⟩
end Go.Proofs.Ytinjlmkdhgaeeaa
