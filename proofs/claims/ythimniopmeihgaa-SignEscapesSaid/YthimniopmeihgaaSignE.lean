/- Contracts of the functions of package sign that build texts. -/
import Derived.Test.YthimniopmeihgaaSignB
import Derived.Test.YthimniopmeihgaaText
import Derived.Lib.Hide
import Derived.Lib.RuneBytes
import Derived.WalkKit
import Derived.BigCall
import Derived.Deep.QuietTactic
import Derived.BigQuiet
set_option linter.unusedSimpArgs false
set_option linter.unusedVariables false
namespace Go.Proofs.Ythimniopmeihgaa
open Go.RowKit


/-- A builder that holds these bytes. -/
def Bld (B b : Nat) (l : List UInt8) (w : World) : Prop := Lib.IsBuilderF 33 5 B b (Lib.byteCells l) w
theorem wbyte (B b : Nat) (l : List UInt8) (c : UInt8) (ci : Int) (hc : ci = c.toNat) (w : World) (h : Bld B b l w) (hl : l.length ≤ 70368744177664) (hBw : B ≤ w.heap.size) :
    Calls Try.prog 33 #[.pointer (some ⟨b, 0, none⟩), .int .u8 ci] w fun e w' => e = .returned .nilIface ∧ Bld B b (l ++ [c]) w' ∧ Below B w w' ∧ Lib.OthersKept 5 (some b) w w' := by
  refine (Try.Builder_WriteByte_k B b _ ci w h (by rw [Lib.byteCells_length]; omega) hBw).mono ?_
  rintro e w' ⟨rfl, h1, b1, k1⟩
  refine ⟨rfl, ?_, b1, k1⟩
  unfold Bld
  rw [Lib.byteCells_append]
  subst hc
  exact Or.inr h1
theorem wrune (B b : Nat) (l : List UInt8) (r : Int) (h0 : 0 ≤ r) (h1 : r ≤ 1114111) (w : World) (h : Bld B b l w) (hl : l.length ≤ 70368744177664) (hBw : B ≤ w.heap.size) :
    Calls Try.prog 26 #[.pointer (some ⟨b, 0, none⟩), .int .i32 r] w fun e w' => (∃ n : Nat, e = .returned (.tuple #[.int .i64 n, .nilIface])) ∧ Bld B b (l ++ Lib.encodeRune r) w' ∧ Below B w w' ∧ Lib.OthersKept 5 (some b) w w' := by
  refine (Try.Builder_WriteRune_k B b _ r (by omega) (by omega) w h (by rw [Lib.byteCells_length]; omega) hBw).mono ?_
  rintro e w' ⟨rfl, h1, b1, k1⟩
  refine ⟨⟨_, rfl⟩, ?_, b1, k1⟩
  unfold Bld
  rw [Lib.byteCells_append, Lib.byteCells_encodeRune]
  exact Or.inr h1
theorem bstring (B b : Nat) (l : List UInt8) (w : World) (h : Bld B b l w) (hBw : B ≤ w.heap.size) :
    Calls Try.prog 27 #[.pointer (some ⟨b, 0, none⟩)] w fun e w' => e = .returned (.string ⟨l.toArray⟩) ∧ Bld B b l w' ∧ Below B w w' ∧ Lib.OthersKept 5 (some b) w w' :=
  Try.Builder_String_any_k B b l w h hBw
theorem bnew (w : World) : Bld w.heap.size w.heap.size [] (w.alloc (.cells #[.pointer none, .slice none 0 0] 33)) := Lib.IsBuilderF.of (Lib.fresh_isBuilder 33 5 w)
theorem Bld.iterAt {B b : Nat} {l : List UInt8} {w : World} (h : Bld B b l w) {k : Nat} {s : ByteArray} {p : Nat} (hk : w.heap[k]? = some (.stringIter s p)) (p' : Nat) : Bld B b l (w.iterAt k s p') := Lib.IsBuilderF.iterAt h hk p'
theorem Bld.alloc {B b : Nat} {l : List UInt8} {w : World} (h : Bld B b l w) (o : Obj) : Bld B b l (w.alloc o) := Lib.IsBuilderF.alloc h o

set_option maxHeartbeats 1000000 in
theorem quote_any (s : ByteArray) (w : World) (hs : s.size ≤ 1048576) : Calls Try.prog 21 #[.string s] w fun e w' => e = .returned (.string ⟨(quote s).toArray⟩) ∧ Below w.heap.size w w' := by
  have hB0 : Below w.heap.size w (w.alloc (.cells #[.pointer none, .slice none 0 0] 33)) := (Below.refl _ w).alloc (Nat.le_refl _) _
  have hI0 := bnew w
  go_enter Try.func21, Try.ntmps21
  go_wp2_with (go_at_call 33; refine (wbyte w.heap.size w.heap.size [] 34 34 rfl _ hI0 (by simp) (by simp)).mono ?_)
  rintro e W1 ⟨rfl, h1, b1, k1⟩
  have bb : Below w.heap.size w W1 := hB0.trans b1
  have hk : w.heap.size < W1.heap.size := by have := b1.size; simp at this; omega
  clear hI0 hB0 b1 k1
  go_wp2_with fail
  go_loopw [] (fun wr => ∃ (p : Nat) (acc : List UInt8), Bld w.heap.size w.heap.size acc wr ∧ wr.heap[W1.heap.size]? = some (.stringIter s p) ∧ Below w.heap.size w wr ∧ acc ++ (quoteFrom s p ++ [34]) = quote s ∧ acc.length ≤ 1 + 8 * p ∧ p ≤ s.size) (fun wr => s.size - wr.iterPos W1.heap.size)
  case atStart => exact ⟨0, [34], h1.alloc _, World.iter_heap W1 s 0, bb.alloc (by omega) _, rfl, by simp, Nat.zero_le _⟩
  case round =>
    obtain ⟨p, acc, hI, hit, hbw, hacc, hal, hp⟩ := hrel
    have hsz : W1.heap.size < wr.heap.size := (Array.getElem?_eq_some_iff.1 hit).1
    have HA := Lib.hid hacc; clear hacc
    by_cases hlt : p < s.size
    · have hnx := fun ty => Lib.run_next_any_at (P := Try.prog) wr W1.heap.size s p ty hit hlt
      have hw := wid_pos s p
      have hwl := wid_le s p hlt
      have hI2 := hI.iterAt hit (p + (Utf8.decode s p).2)
      have hit2 := Lib.iterAt_heap wr W1.heap.size s p (p + (Utf8.decode s p).2) hit
      have hbw2 := Lib.below_iterAt hbw (k := W1.heap.size) (by omega) s (p + (Utf8.decode s p).2)
      have hsz2 : w.heap.size ≤ (wr.iterAt W1.heap.size s (p + (Utf8.decode s p).2)).heap.size := by rw [Lib.iterAt_size]; omega
      have hq := Lib.hid (quote_at s p hlt acc HA.out)
      have hlr := letter_range s p
      have hle := enc_len (letter ((Utf8.decode s p).1 : Nat))
      cases hm : must ((Utf8.decode s p).1 : Nat)
      · rw [hm] at hq
        go_wp2_with (first | (go_at_call 34; refine (letterOf_any _ _).mono ?_; rintro e w' ⟨rfl, rfl⟩) | (go_at_call 26; refine (wrune w.heap.size w.heap.size acc _ hlr.1 hlr.2 _ hI2 (by omega) hsz2).mono ?_))
        rintro e W2 ⟨⟨n2, rfl⟩, h2, b2, k2⟩
        have hit3 := k2.iter hit2 (by omega)
        have hb3 := hbw2.trans b2
        go_wp2
        go_roundw
        case rel => exact ⟨p + (Utf8.decode s p).2, _, h2, hit3, hb3, by simpa using hq.out, by simp; omega, hwl⟩
        case measure => simp only [World.iterPos, hit3, hit]; omega
      · rw [hm] at hq
        go_wp2_with (first | (go_at_call 34; refine (letterOf_any _ _).mono ?_; rintro e w' ⟨rfl, rfl⟩) | (go_at_call 33; refine (wbyte w.heap.size w.heap.size acc 92 92 rfl _ hI2 (by omega) hsz2).mono ?_))
        rintro e W2 ⟨rfl, h2, b2, k2⟩
        have hit3 := k2.iter hit2 (by omega)
        have hb3 := hbw2.trans b2
        have hsz3 : w.heap.size ≤ W2.heap.size := by have := hb3.size; omega
        go_wp2_with (go_at_call 26; refine (wrune w.heap.size w.heap.size (acc ++ [92]) _ hlr.1 hlr.2 _ h2 (by simp; omega) hsz3).mono ?_)
        rintro e W3 ⟨⟨n3, rfl⟩, h4, b4, k4⟩
        have hit5 := k4.iter hit3 (by omega)
        have hb5 := hb3.trans b4
        go_wp2
        go_roundw
        case rel => exact ⟨p + (Utf8.decode s p).2, _, h4, hit5, hb5, by simpa using hq.out, by simp; omega, hwl⟩
        case measure => simp only [World.iterPos, hit5, hit]; omega
    · have hnx := fun ty => Lib.run_next_end_at (P := Try.prog) wr W1.heap.size s p ty hit hlt
      have he := quoteFrom_end s p hlt
      have hq : acc ++ [34] = quote s := by have := HA.out; rw [he] at this; exact this
      have HQ := Lib.hid hq; clear he hq
      have hsz2 : w.heap.size ≤ wr.heap.size := by omega
      go_wp2_with (go_at_call 33; refine (wbyte w.heap.size w.heap.size acc 34 34 rfl _ hI (by omega) hsz2).mono ?_)
      rintro e W2 ⟨rfl, h2, b2, k2⟩
      have hb3 := hbw.trans b2
      have hsz3 : w.heap.size ≤ W2.heap.size := by have := hb3.size; omega
      go_wp2_with (go_at_call 27; refine (bstring w.heap.size w.heap.size (acc ++ [34]) _ h2 hsz3).mono ?_)
      rintro e W3 ⟨rfl, h4, b4, k4⟩
      go_wp2
      go_ret
      exact ⟨by rw [← HQ.out]; rfl, hb3.trans b4⟩
end Go.Proofs.Ythimniopmeihgaa
