/- Contracts of the functions of package sign that build texts. -/
import Derived.Test.YtolhanngkackcaaSignE
import Derived.Test.YtolhanngkackcaaText
import Derived.Lib.Hide
import Derived.Lib.RuneBytes
import Derived.WalkKit
import Derived.BigCall
import Derived.Deep.QuietTactic
import Derived.BigQuiet
set_option linter.unusedSimpArgs false
set_option linter.unusedVariables false
namespace Go.Proofs.Ytolhanngkackcaa
open Go.RowKit



theorem ret_sb (a b : ByteArray) (x y : Bool) (h1 : a = b) (h2 : x = y) : Ending.returned (.tuple #[.string a, .bool x]) = .returned (.tuple #[.string b, .bool y]) := by rw [h1, h2]
set_option maxHeartbeats 2000000 in
theorem plain_any (s : ByteArray) (w : World) (hs : s.size ≤ 16777216) : Calls Try.prog 34 #[.string s] w fun e w' => e = .returned (.tuple #[.string ⟨(plainText s).toArray⟩, .bool (plainOk s)]) ∧ Below w.heap.size w w' := by
  by_cases hbad : 0 ≤ bad s
  · obtain ⟨r1, r2⟩ := plain_bad s hbad
    have R1 := Lib.hid r1; clear r1
    have R2 := Lib.hid r2; clear r2
    go_enter Try.func34, Try.ntmps34
    go_wp2_with (go_at_call 16; refine (bad_any _ _ (by unfold maxLen; omega)).mono ?_; rintro e w1 ⟨rfl, hb1⟩)
    go_ret2
    exact ⟨by rw [R1.out, R2.out]; rfl, hb1⟩
  · have hbad' : bad s < 0 := by omega
    go_enter Try.func34, Try.ntmps34
    go_wp2_with (go_at_call 16; refine (bad_any _ _ (by unfold maxLen; omega)).mono ?_; rintro e w1 ⟨rfl, hb1⟩)
    have hw1 := hb1.size
    have PO := Lib.hid (plain_of s hbad')
    have hI0 := bnew w1
    have bb : Below w.heap.size w (w1.alloc (.cells #[.pointer none, .slice none 0 0] 62)) := hb1.alloc (by omega) _
    go_loopw [5] (fun v5 wr => ∃ (p : Nat) (esc : Bool) (acc : List UInt8), v5 = .bool esc ∧ Bld w1.heap.size w1.heap.size acc wr ∧ wr.heap[w1.heap.size + 1]? = some (.stringIter s p) ∧ Below w.heap.size w wr ∧ Reads s p esc acc ∧ acc.length ≤ 4 * p ∧ p ≤ s.size) (fun v5 wr => s.size - wr.iterPos (w1.heap.size + 1))
    case atStart =>
      refine ⟨0, false, [], rfl, hI0.alloc _, ?_, bb.alloc (by simp; omega) _, reads_start s, by simp, Nat.zero_le _⟩
      have := World.iter_heap (w1.alloc (.cells #[.pointer none, .slice none 0 0] 62)) s 0
      simpa using this
    case round =>
      obtain ⟨p, esc, acc, rfl, hI, hit, hbw, hR, hal, hp⟩ := hrel
      have hsz : w1.heap.size + 1 < wr.heap.size := (Array.getElem?_eq_some_iff.1 hit).1
      have HR := Lib.hid hR; clear hR
      by_cases hlt : p < s.size
      · have hnx := fun ty => Lib.run_next_any_at (P := Try.prog) wr (w1.heap.size + 1) s p ty hit hlt
        have hw := wid_pos s p
        have hwl := wid_le s p hlt
        have hI2 := hI.iterAt hit (p + (Utf8.decode s p).2)
        have hit2 := Lib.iterAt_heap wr (w1.heap.size + 1) s p (p + (Utf8.decode s p).2) hit
        have hbw2 := Lib.below_iterAt hbw (k := w1.heap.size + 1) (by omega) s (p + (Utf8.decode s p).2)
        have hsz2 : w1.heap.size ≤ (wr.iterAt (w1.heap.size + 1) s (p + (Utf8.decode s p).2)).heap.size := by rw [Lib.iterAt_size]; omega
        by_cases h92 : (((Utf8.decode s p).1 : Nat) : Int) = 92 ∧ esc = false
        · obtain ⟨g, rfl⟩ := h92
          have HN := Lib.hid (reads_esc s p acc hlt g HR.out)
          have h92b : ((((Utf8.decode s p).1 : Nat) : Int) == 92) = true := by rw [beq_iff_eq]; exact g
          clear g
          go_wp2
          go_roundw
          case rel => exact ⟨p + (Utf8.decode s p).2, true, acc, rfl, hI2, hit2, hbw2, HN.out, by omega, hwl⟩
          case measure => simp only [World.iterPos, hit2, hit]; omega
        · have hreg : ((((Utf8.decode s p).1 : Nat) : Int) == 92) = false ∨ (((((Utf8.decode s p).1 : Nat) : Int) == 92) = true ∧ esc = true) := by
            by_cases g : (((Utf8.decode s p).1 : Nat) : Int) = 92
            · right; refine ⟨by rw [beq_iff_eq]; exact g, ?_⟩
              cases esc
              · exact absurd ⟨g, rfl⟩ h92
              · rfl
            · left; rw [beq_eq_false_iff_ne]; exact g
          cases hm : means ((Utf8.decode s p).1 : Nat) esc
          · have hn := PO.out _ (reads_none s p esc acc hlt hm h92 HR.out)
            have HN := Lib.hid hn; clear hn h92
            rcases hreg with hreg | ⟨hreg, rfl⟩
            all_goals go_wp2_with (go_at_call 42; refine (meantBy_any _ _ _).mono ?_; rintro e w' ⟨rfl, rfl⟩)
            all_goals go_ret2
            all_goals exact ⟨ret_sb _ _ _ _ (by rw [HN.out.1]; rfl) (by rw [HN.out.2]; rfl), hbw2⟩
          · have HN := Lib.hid (reads_next s p esc acc hlt hm HR.out)
            have hmr := meant_range s p esc
            have hle := enc_len (meant ((Utf8.decode s p).1 : Nat) esc)
            clear h92
            rcases hreg with hreg | ⟨hreg, rfl⟩
            all_goals go_wp2_with (first | (go_at_call 42; refine (meantBy_any _ _ _).mono ?_; rintro e w' ⟨rfl, rfl⟩) | (go_at_call 43; refine (wrune w1.heap.size w1.heap.size acc _ hmr.1 hmr.2 _ hI2 (by omega) hsz2).mono ?_))
            all_goals (
              rintro e W2 ⟨⟨n2, rfl⟩, h2, b2, k2⟩
              have hit3 := k2.iter hit2 (by omega)
              have hb3 := hbw2.trans (b2.mono hw1)
              go_wp2
              go_roundw
              case rel => exact ⟨p + (Utf8.decode s p).2, false, _, rfl, h2, hit3, hb3, HN.out, by simp; omega, hwl⟩
              case measure => simp only [World.iterPos, hit3, hit]; omega)
      · have hnx := fun ty => Lib.run_next_end_at (P := Try.prog) wr (w1.heap.size + 1) s p ty hit hlt
        have hn := PO.out _ (reads_end s p esc acc hlt HR.out)
        have hsz2 : w1.heap.size ≤ wr.heap.size := by omega
        cases esc
        · have HN := Lib.hid hn; clear hn
          go_wp2_with (go_at_call 44; refine (bstring w1.heap.size w1.heap.size acc _ hI hsz2).mono ?_)
          rintro e W3 ⟨rfl, h4, b4, k4⟩
          go_wp2
          go_ret2
          exact ⟨ret_sb _ _ _ _ (by rw [HN.out.1]; rfl) (by rw [HN.out.2]; rfl), hbw.trans (b4.mono hw1)⟩
        · have HN := Lib.hid hn; clear hn
          go_wp2
          go_ret2
          exact ⟨ret_sb _ _ _ _ (by rw [HN.out.1]; rfl) (by rw [HN.out.2]; rfl), hbw⟩
end Go.Proofs.Ytolhanngkackcaa
