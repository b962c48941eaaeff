/- Plain facts on bytes, runes and texts: no Go program in this text. -/
import Derived.Lib.OthersKept
import Derived.Lib.RuneBytes
import Derived.Lib.DecodeNEq
import Derived.Lib.RuneCount
namespace Go.Proofs.Ytinjlmkdhgaeeaa

def small (r : Int) : Bool := decide (97 ≤ r) && decide (r ≤ 122)
def big (r : Int) : Bool := decide (65 ≤ r) && decide (r ≤ 90)
def digit (r : Int) : Bool := decide (48 ≤ r) && decide (r ≤ 57)
def alnum (r : Int) : Bool := small r || (big r || digit r)

def keptWords : List (List UInt8) :=
  [[98, 111, 111, 108, 101, 97, 110], [105, 110, 116], [118, 111, 105, 100], [99, 108, 97, 115, 115], [101, 120, 116, 101, 110, 100, 115], [115, 116, 97, 116, 105, 99], [110, 101, 119], [116, 104, 105, 115], [115, 117, 112, 101, 114], [110, 117, 108, 108], [116, 114, 117, 101], [102, 97, 108, 115, 101], [105, 102], [101, 108, 115, 101], [119, 104, 105, 108, 101], [114, 101, 116, 117, 114, 110], [112, 114, 105, 110, 116], [97, 115, 115, 101, 114, 116], [116, 104, 114, 111, 119], [116, 114, 121], [99, 97, 116, 99, 104], [102, 105, 110, 97, 108, 108, 121], [97, 115], [105, 115]]
def kept (l : List UInt8) : Bool := keptWords.contains l


/-- What is written for a rune within quotes, and whether a sign stands ahead. -/
def letter (r : Int) : Int := if r = 10 then 110 else r
def must (r : Int) : Bool := r == 34 || (r == 92 || r == 10)

/-! ### Bytes -/
def bt (s : ByteArray) (i : Nat) : Nat := (s.get! i).toNat
theorem bt_lt (s : ByteArray) (i : Nat) : bt s i < 256 := (s.get! i).toNat_lt
theorem get_eq (s : ByteArray) (i : Nat) (h : i < s.size) : s.get! i = s[i]'h := get_at s i h
theorem bt_eq (s : ByteArray) (i : Nat) (h : i < s.size) : (s[i]'h).toNat = bt s i := by rw [bt, get_eq s i h]

/-! ### The classes of a rune's bytes -/
def C2 (n b0 b1 : Nat) : Prop := 194 ≤ b0 ∧ b0 ≤ 223 ∧ 2 ≤ n ∧ 128 ≤ b1 ∧ b1 ≤ 191
def C3 (n b0 b1 b2 : Nat) : Prop := 224 ≤ b0 ∧ b0 ≤ 239 ∧ 3 ≤ n ∧ 128 ≤ b1 ∧ b1 ≤ 191 ∧ (b0 = 224 → 160 ≤ b1) ∧ (b0 = 237 → b1 ≤ 159) ∧ 128 ≤ b2 ∧ b2 ≤ 191
def C4 (n b0 b1 b2 b3 : Nat) : Prop := 240 ≤ b0 ∧ b0 ≤ 244 ∧ 4 ≤ n ∧ 128 ≤ b1 ∧ b1 ≤ 191 ∧ (b0 = 240 → 144 ≤ b1) ∧ (b0 = 244 → b1 ≤ 143) ∧ 128 ≤ b2 ∧ b2 ≤ 191 ∧ 128 ≤ b3 ∧ b3 ≤ 191

theorem dec1 (n b0 b1 b2 b3 : Nat) (h : b0 < 128) : Lib.decodeN n b0 b1 b2 b3 = (b0, 1) := by simp [Lib.decodeN, h]
theorem dec2 (n b0 b1 b2 b3 : Nat) (h : C2 n b0 b1) : Lib.decodeN n b0 b1 b2 b3 = ((b0 - 192) * 64 + (b1 - 128), 2) := by
  obtain ⟨h1, h2, h3, h4, h5⟩ := h
  have e1 : b0 % 32 = b0 - 192 := by omega
  have e2 : b1 % 64 = b1 - 128 := by omega
  have a1 : ¬ b0 < 128 := by omega
  have a2 : b0 / 32 = 6 ∧ (1 < n ∧ b1 / 64 = 2) := by omega
  have a3 : (b0 - 192) * 64 + (b1 - 128) ≥ 128 := by omega
  simp only [Lib.decodeN, if_neg a1, if_pos a2, e1, e2, if_pos a3]
theorem dec3 (n b0 b1 b2 b3 : Nat) (h : C3 n b0 b1 b2) : Lib.decodeN n b0 b1 b2 b3 = ((b0 - 224) * 4096 + (b1 - 128) * 64 + (b2 - 128), 3) := by
  obtain ⟨h1, h2, h3, h4, h5, h6, h7, h8, h9⟩ := h
  have e1 : b0 % 16 = b0 - 224 := by omega
  have e2 : b1 % 64 = b1 - 128 := by omega
  have e3 : b2 % 64 = b2 - 128 := by omega
  have a1 : ¬ b0 < 128 := by omega
  have a2 : ¬ (b0 / 32 = 6 ∧ (1 < n ∧ b1 / 64 = 2)) := by omega
  have a3 : b0 / 16 = 14 ∧ (1 < n ∧ b1 / 64 = 2) ∧ (2 < n ∧ b2 / 64 = 2) := by omega
  have a4 : (b0 - 224) * 4096 + (b1 - 128) * 64 + (b2 - 128) ≥ 2048 ∧ ((b0 - 224) * 4096 + (b1 - 128) * 64 + (b2 - 128) < 55296 ∨ (57344 ≤ (b0 - 224) * 4096 + (b1 - 128) * 64 + (b2 - 128) ∧ (b0 - 224) * 4096 + (b1 - 128) * 64 + (b2 - 128) ≤ 1114111)) := by
    by_cases g1 : b0 = 224
    · have := h6 g1; omega
    · by_cases g2 : b0 = 237
      · have := h7 g2; omega
      · omega
  simp only [Lib.decodeN, if_neg a1, if_neg a2, if_pos a3, e1, e2, e3, if_pos a4]
theorem dec4 (n b0 b1 b2 b3 : Nat) (h : C4 n b0 b1 b2 b3) : Lib.decodeN n b0 b1 b2 b3 = ((b0 - 240) * 262144 + (b1 - 128) * 4096 + (b2 - 128) * 64 + (b3 - 128), 4) := by
  obtain ⟨h1, h2, h3, h4, h5, h6, h7, h8, h9, h10, h11⟩ := h
  have e1 : b0 % 8 = b0 - 240 := by omega
  have e2 : b1 % 64 = b1 - 128 := by omega
  have e3 : b2 % 64 = b2 - 128 := by omega
  have e4 : b3 % 64 = b3 - 128 := by omega
  have a1 : ¬ b0 < 128 := by omega
  have a2 : ¬ (b0 / 32 = 6 ∧ (1 < n ∧ b1 / 64 = 2)) := by omega
  have a3 : ¬ (b0 / 16 = 14 ∧ (1 < n ∧ b1 / 64 = 2) ∧ (2 < n ∧ b2 / 64 = 2)) := by omega
  have a4 : b0 / 8 = 30 ∧ (1 < n ∧ b1 / 64 = 2) ∧ (2 < n ∧ b2 / 64 = 2) ∧ (3 < n ∧ b3 / 64 = 2) := by omega
  have a5 : (b0 - 240) * 262144 + (b1 - 128) * 4096 + (b2 - 128) * 64 + (b3 - 128) ≥ 65536 ∧ ((b0 - 240) * 262144 + (b1 - 128) * 4096 + (b2 - 128) * 64 + (b3 - 128) < 55296 ∨ (57344 ≤ (b0 - 240) * 262144 + (b1 - 128) * 4096 + (b2 - 128) * 64 + (b3 - 128) ∧ (b0 - 240) * 262144 + (b1 - 128) * 4096 + (b2 - 128) * 64 + (b3 - 128) ≤ 1114111)) := by
    by_cases g1 : b0 = 240
    · have := h6 g1; omega
    · by_cases g2 : b0 = 244
      · have := h7 g2; omega
      · omega
  simp only [Lib.decodeN, if_neg a1, if_neg a2, if_neg a3, if_pos a4, e1, e2, e3, e4, if_pos a5]
set_option maxHeartbeats 1000000 in
theorem dec0 (n b0 b1 b2 b3 : Nat) (i0 : b0 < 256) (i1 : b1 < 256) (i2 : b2 < 256) (i3 : b3 < 256) (h : 128 ≤ b0) (h2 : ¬ C2 n b0 b1) (h3 : ¬ C3 n b0 b1 b2) (h4 : ¬ C4 n b0 b1 b2 b3) : Lib.decodeN n b0 b1 b2 b3 = (65533, 1) := by
  have a1 : ¬ b0 < 128 := by omega
  unfold C2 at h2
  unfold C3 at h3
  unfold C4 at h4
  simp only [Lib.decodeN, if_neg a1]
  split
  · rw [if_neg (by omega)]
  · split
    · rw [if_neg]
      intro hh
      apply h3
      refine ⟨by omega, by omega, by omega, by omega, by omega, fun g => ?_, fun g => ?_, by omega, by omega⟩ <;> omega
    · split
      · rw [if_neg]
        intro hh
        apply h4
        refine ⟨by omega, by omega, by omega, by omega, by omega, fun g => ?_, fun g => ?_, by omega, by omega, by omega, by omega⟩ <;> omega
      · rfl

/-! ### The rune at a place -/
theorem decode_bt (s : ByteArray) (p : Nat) : Utf8.decode s p = Lib.decodeN (s.size - p) (bt s p) (bt s (p + 1)) (bt s (p + 2)) (bt s (p + 3)) := Lib.decode_at s p
def badAt (s : ByteArray) (p : Nat) : Bool := (Utf8.decode s p).1 == 65533 && (Utf8.decode s p).2 == 1
def K2 (s : ByteArray) (p : Nat) : Prop := C2 (s.size - p) (bt s p) (bt s (p + 1))
def K3 (s : ByteArray) (p : Nat) : Prop := C3 (s.size - p) (bt s p) (bt s (p + 1)) (bt s (p + 2))
def K4 (s : ByteArray) (p : Nat) : Prop := C4 (s.size - p) (bt s p) (bt s (p + 1)) (bt s (p + 2)) (bt s (p + 3))
theorem dcases (s : ByteArray) (p : Nat) :
    (bt s p < 128 ∧ Utf8.decode s p = (bt s p, 1)) ∨
    (K2 s p ∧ Utf8.decode s p = ((bt s p - 192) * 64 + (bt s (p + 1) - 128), 2)) ∨
    (K3 s p ∧ Utf8.decode s p = ((bt s p - 224) * 4096 + (bt s (p + 1) - 128) * 64 + (bt s (p + 2) - 128), 3)) ∨
    (K4 s p ∧ Utf8.decode s p = ((bt s p - 240) * 262144 + (bt s (p + 1) - 128) * 4096 + (bt s (p + 2) - 128) * 64 + (bt s (p + 3) - 128), 4)) ∨
    (128 ≤ bt s p ∧ ¬ K2 s p ∧ ¬ K3 s p ∧ ¬ K4 s p ∧ Utf8.decode s p = (65533, 1)) := by
  rw [decode_bt]
  by_cases h1 : bt s p < 128
  · exact .inl ⟨h1, dec1 _ _ _ _ _ h1⟩
  · by_cases h2 : K2 s p
    · exact .inr (.inl ⟨h2, dec2 _ _ _ _ _ h2⟩)
    · by_cases h3 : K3 s p
      · exact .inr (.inr (.inl ⟨h3, dec3 _ _ _ _ _ h3⟩))
      · by_cases h4 : K4 s p
        · exact .inr (.inr (.inr (.inl ⟨h4, dec4 _ _ _ _ _ h4⟩)))
        · exact .inr (.inr (.inr (.inr ⟨by omega, h2, h3, h4, dec0 _ _ _ _ _ (bt_lt _ _) (bt_lt _ _) (bt_lt _ _) (bt_lt _ _) (by omega) h2 h3 h4⟩)))

theorem wid_pos (s : ByteArray) (p : Nat) : 1 ≤ (Utf8.decode s p).2 := by
  rcases dcases s p with ⟨_, e⟩ | ⟨_, e⟩ | ⟨_, e⟩ | ⟨_, e⟩ | ⟨_, _, _, _, e⟩ <;> rw [e] <;> simp
theorem wid_le (s : ByteArray) (p : Nat) (h : p < s.size) : p + (Utf8.decode s p).2 ≤ s.size := by
  rcases dcases s p with ⟨_, e⟩ | ⟨k, e⟩ | ⟨k, e⟩ | ⟨k, e⟩ | ⟨_, _, _, _, e⟩ <;> rw [e]
  · simp; omega
  · obtain ⟨_, _, k, _⟩ := k; simp; omega
  · obtain ⟨_, _, k, _⟩ := k; simp; omega
  · obtain ⟨_, _, k, _⟩ := k; simp; omega
  · simp; omega
theorem badAt_eq {s : ByteArray} {p : Nat} (h : badAt s p = true) : Utf8.decode s p = (65533, 1) := by
  simp [badAt] at h; exact Prod.ext h.1 h.2
theorem badAt_of {s : ByteArray} {p : Nat} (h : Utf8.decode s p = (65533, 1)) : badAt s p = true := by simp [badAt, h]
theorem badAt_not {s : ByteArray} {p : Nat} (h : Utf8.decode s p ≠ (65533, 1)) : badAt s p = false := by
  rw [Bool.eq_false_iff]; exact fun e => h (badAt_eq e)
/-- A rune of one byte is that byte, or it is none. -/
theorem low_iff (s : ByteArray) (p : Nat) (h : (Utf8.decode s p).1 < 128) : bt s p = (Utf8.decode s p).1 ∧ (Utf8.decode s p).2 = 1 := by
  rcases dcases s p with ⟨_, e⟩ | ⟨k, e⟩ | ⟨k, e⟩ | ⟨k, e⟩ | ⟨_, _, _, _, e⟩ <;> rw [e] at h ⊢
  · exact ⟨rfl, rfl⟩
  · obtain ⟨h1, h2, h3, h4, h5⟩ := k; simp at h; omega
  · obtain ⟨h1, h2, h3, h4, h5, h6, h7, h8, h9⟩ := k; simp at h
    by_cases g : bt s p = 224
    · have := h6 g; omega
    · omega
  · obtain ⟨h1, h2, h3, h4, h5, h6, h7, h8, h9, h10, h11⟩ := k; simp at h
    by_cases g : bt s p = 240
    · have := h6 g; omega
    · omega
  · simp at h
theorem low_of (s : ByteArray) (p : Nat) (h : bt s p < 128) : Utf8.decode s p = (bt s p, 1) := by
  rcases dcases s p with ⟨_, e⟩ | ⟨k, e⟩ | ⟨k, e⟩ | ⟨k, e⟩ | ⟨g, _, _, _, e⟩
  · exact e
  · have := k.1; omega
  · have := k.1; omega
  · have := k.1; omega
  · omega
theorem high_of (s : ByteArray) (p : Nat) (h : 128 ≤ bt s p) : 128 ≤ (Utf8.decode s p).1 := by
  by_cases g : (Utf8.decode s p).1 < 128
  · have := low_iff s p g; omega
  · omega
theorem badAt_low (s : ByteArray) (p : Nat) (h : bt s p < 128) : badAt s p = false := by
  apply badAt_not; rw [low_of s p h]; intro e; injection e with e1 e2; omega
/-- A rune that can be: its number. -/
theorem rune_ok (s : ByteArray) (p : Nat) : (Utf8.decode s p).1 < 55296 ∨ (57344 ≤ (Utf8.decode s p).1 ∧ (Utf8.decode s p).1 ≤ 1114111) := by
  rcases dcases s p with ⟨_, e⟩ | ⟨k, e⟩ | ⟨k, e⟩ | ⟨k, e⟩ | ⟨_, _, _, _, e⟩ <;> rw [e]
  · left; have := bt_lt s p; simp; omega
  · obtain ⟨h1, h2, h3, h4, h5⟩ := k; left; simp; omega
  · obtain ⟨h1, h2, h3, h4, h5, h6, h7, h8, h9⟩ := k; simp
    by_cases g : bt s p = 237
    · have := h7 g; omega
    · omega
  · obtain ⟨h1, h2, h3, h4, h5, h6, h7, h8, h9, h10, h11⟩ := k; simp
    by_cases g : bt s p = 244
    · have := h7 g; omega
    · by_cases g : bt s p = 240
      · have := h6 g; omega
      · omega
  · right; simp

/-! ### A part of a text -/
def sub (s : ByteArray) (p k : Nat) : List UInt8 := (s.data.toList.drop p).take k
theorem sub_zero (s : ByteArray) (p : Nat) : sub s p 0 = [] := by simp [sub]
theorem sub_succ (s : ByteArray) (p k : Nat) (h : p + k < s.size) : sub s p (k + 1) = sub s p k ++ [s.get! (p + k)] := by
  have hl : k < (s.data.toList.drop p).length := by simp; have : s.data.size = s.size := rfl; omega
  rw [sub, List.take_succ_eq_append_getElem hl, sub]
  congr 1
  rw [get_eq s (p + k) h, List.getElem_drop]
  rfl
theorem sub_all (s : ByteArray) : sub s 0 s.size = s.data.toList := by
  rw [sub, List.drop_zero, List.take_of_length_le]; simp
theorem sub_add (s : ByteArray) (p a b : Nat) : sub s p (a + b) = sub s p a ++ sub s (p + a) b := by
  rw [sub, List.take_add, List.drop_drop]; rfl
theorem toU8 (b : UInt8) (x : Int) (h : x = b.toNat) : x.toNat.toUInt8 = b := by subst h; simp
theorem enc_ok (s : ByteArray) (p : Nat) (h : p < s.size) (hb : badAt s p = false) : Lib.encodeRune (Utf8.decode s p).1 = sub s p (Utf8.decode s p).2 := by
  rcases dcases s p with ⟨k, e⟩ | ⟨k, e⟩ | ⟨k, e⟩ | ⟨k, e⟩ | ⟨_, _, _, _, e⟩
  · rw [e, sub_succ s p 0 (by omega), sub_zero, Lib.encodeRune, Lib.encodeRuneZ_one (by omega) (by omega)]
    simp [bt]
  · obtain ⟨h1, h2, h3, h4, h5⟩ := k
    rw [e, sub_succ s p 1 (by omega), sub_succ s p 0 (by omega), sub_zero, Lib.encodeRune, Lib.encodeRuneZ_two (by simp; omega) (by simp; omega)]
    simp only [List.map_cons, List.map_nil, List.nil_append, List.cons_append, Nat.add_zero]
    rw [toU8 (s.get! p) _ (by simp only [bt] at *; omega), toU8 (s.get! (p + 1)) _ (by simp only [bt] at *; omega)]
  · obtain ⟨h1, h2, h3, h4, h5, h6, h7, h8, h9⟩ := k
    have hr := rune_ok s p
    rw [e] at hr
    have g1 : 2048 ≤ (bt s p - 224) * 4096 + (bt s (p + 1) - 128) * 64 + (bt s (p + 2) - 128) := by
      by_cases g : bt s p = 224
      · have := h6 g; omega
      · omega
    rw [e, sub_succ s p 2 (by omega), sub_succ s p 1 (by omega), sub_succ s p 0 (by omega), sub_zero, Lib.encodeRune, Lib.encodeRuneZ_three (by simp only [] at *; omega)]
    simp only [List.map_cons, List.map_nil, List.nil_append, List.cons_append, Nat.add_zero]
    rw [toU8 (s.get! p) _ (by simp only [bt] at *; omega), toU8 (s.get! (p + 1)) _ (by simp only [bt] at *; omega), toU8 (s.get! (p + 2)) _ (by simp only [bt] at *; omega)]
  · obtain ⟨h1, h2, h3, h4, h5, h6, h7, h8, h9, h10, h11⟩ := k
    have hr := rune_ok s p
    rw [e] at hr
    have g1 : 65536 ≤ (bt s p - 240) * 262144 + (bt s (p + 1) - 128) * 4096 + (bt s (p + 2) - 128) * 64 + (bt s (p + 3) - 128) := by
      by_cases g : bt s p = 240
      · have := h6 g; omega
      · omega
    rw [e, sub_succ s p 3 (by omega), sub_succ s p 2 (by omega), sub_succ s p 1 (by omega), sub_succ s p 0 (by omega), sub_zero, Lib.encodeRune, Lib.encodeRuneZ_four (by simp only [] at *; omega) (by simp only [] at *; omega)]
    simp only [List.map_cons, List.map_nil, List.nil_append, List.cons_append, Nat.add_zero]
    rw [toU8 (s.get! p) _ (by simp only [bt] at *; omega), toU8 (s.get! (p + 1)) _ (by simp only [bt] at *; omega), toU8 (s.get! (p + 2)) _ (by simp only [bt] at *; omega), toU8 (s.get! (p + 3)) _ (by simp only [bt] at *; omega)]
  · rw [badAt_of e] at hb; cases hb
theorem enc_bad (s : ByteArray) (p : Nat) (hb : badAt s p = true) : Lib.encodeRune (Utf8.decode s p).1 = [239, 191, 189] := by
  rw [badAt_eq hb]; decide

end Go.Proofs.Ytinjlmkdhgaeeaa
