/- Plain: a text as its runes: how many there are, the one at a place; texts one behind the other. No Go program in this text. -/
import Derived.Test.YtinjlmkdhgaeeaaText
set_option linter.unusedSimpArgs false
set_option linter.unusedVariables false
namespace Go.Proofs.Ytinjlmkdhgaeeaa
open Go.RowKit

def rl (s : ByteArray) : List Nat := runes s 0
def lenT (s : ByteArray) : Nat := (rl s).length
def oneT (r : Nat) : ByteArray := ⟨(Lib.encodeRune (r : Int)).toArray⟩
def atN (s : ByteArray) (k : Nat) : ByteArray × Bool := match (rl s)[k]? with
  | some r => (oneT r, true)
  | none => (⟨#[]⟩, false)
def atT (s : ByteArray) (k : Int) : ByteArray × Bool := if 0 ≤ k then atN s k.toNat else (⟨#[]⟩, false)
theorem runesF_len (s : ByteArray) : ∀ f p, (runesF s f p).length ≤ f
  | 0, p => by simp [runesF]
  | f + 1, p => by
    simp only [runesF]
    split
    · simp only [List.length_cons]; have := runesF_len s f (p + (Utf8.decode s p).2); omega
    · simp
theorem lenT_le (s : ByteArray) : lenT s ≤ s.size := by
  have := runesF_len s (s.size - 0) 0
  unfold lenT rl runes; omega
/-- The reading stands at byte p, i runes are behind it. -/
structure Pos (s : ByteArray) (p i : Nat) : Prop where
  le : p ≤ s.size
  run : runes s p = (rl s).drop i
  ile : i ≤ p
  iln : i ≤ lenT s
theorem Pos.zero (s : ByteArray) : Pos s 0 0 := ⟨Nat.zero_le _, rfl, Nat.le_refl _, Nat.zero_le _⟩
theorem Pos.step {s : ByteArray} {p i : Nat} (h : Pos s p i) (hlt : p < s.size) : (rl s)[i]? = some (Utf8.decode s p).1 ∧ Pos s (p + (Utf8.decode s p).2) (i + 1) := by
  have h1 := h.run
  rw [runes_step s p hlt] at h1
  have hi : i < (rl s).length := by
    rcases Nat.lt_or_ge i (rl s).length with g | g
    · exact g
    · rw [List.drop_of_length_le g] at h1; cases h1
  rw [List.drop_eq_getElem_cons hi] at h1
  injection h1 with e1 e2
  have := wid_pos s p
  refine ⟨by rw [List.getElem?_eq_getElem hi, e1], wid_le s p hlt, e2, by have := h.ile; omega, hi⟩
theorem Pos.fin {s : ByteArray} {p i : Nat} (h : Pos s p i) (hlt : ¬ p < s.size) : i = lenT s := by
  have h1 := h.run
  rw [runes_end s p hlt] at h1
  have h2 := congrArg List.length h1
  rw [List.length_drop, List.length_nil] at h2
  have := h.iln
  unfold lenT at *; omega
theorem Pos.lt {s : ByteArray} {p i : Nat} (h : Pos s p i) (hlt : p < s.size) : i < lenT s := by
  have := (h.step hlt).2.iln; omega
theorem atN_at {s : ByteArray} {k r : Nat} (h : (rl s)[k]? = some r) : atN s k = (oneT r, true) := by unfold atN; rw [h]
theorem atN_none {s : ByteArray} {k : Nat} (h : lenT s ≤ k) : atN s k = (⟨#[]⟩, false) := by
  unfold atN; rw [List.getElem?_eq_none (by unfold lenT at h; exact h)]
theorem atT_nat (s : ByteArray) (k : Nat) : atT s k = atN s k := by unfold atT; rw [if_pos (by omega)]; rfl
theorem atT_neg {s : ByteArray} {k : Int} (h : k < 0) : atT s k = (⟨#[]⟩, false) := by unfold atT; rw [if_neg (by omega)]
theorem atT_out {s : ByteArray} {k : Int} (h : (lenT s : Int) ≤ k) : atT s k = (⟨#[]⟩, false) := by
  unfold atT
  split
  · exact atN_none (by omega)
  · rfl
theorem atN_in {s : ByteArray} {k : Nat} (h : k < lenT s) : ∃ r, (rl s)[k]? = some r ∧ okRune r ∧ atN s k = (oneT r, true) := by
  refine ⟨(rl s)[k]'h, List.getElem?_eq_getElem h, runes_ok s 0 _ (List.getElem_mem h), atN_at (List.getElem?_eq_getElem h)⟩
/-! ### Texts that are put together -/
def encT (l : List Nat) : ByteArray := ⟨(encs l).toArray⟩
theorem encT_snoc (l : List Nat) (r : Nat) : encT (l ++ [r]) = encT l ++ oneT r := by
  apply ByteArray.ext; apply Array.ext'
  simp [encT, oneT, encs_append, encs, ByteArray.data_append]
theorem encT_app (l m : List Nat) : encT (l ++ m) = encT l ++ encT m := by
  apply ByteArray.ext; apply Array.ext'
  simp [encT, encs_append, ByteArray.data_append]
theorem encT_of {s : ByteArray} (h : bad s < 0) : encT (rl s) = s := by
  apply ByteArray.ext; apply Array.ext'
  have := back_same s h
  unfold encT rl; exact this
theorem rl_enc {l : List Nat} (h : ∀ r ∈ l, okRune r) : rl (encT l) = l := (runes_of_encs l h).1
theorem bad_enc {l : List Nat} (h : ∀ r ∈ l, okRune r) : bad (encT l) < 0 := by have := (runes_of_encs l h).2; unfold encT; omega
theorem rl_ok (s : ByteArray) : ∀ r ∈ rl s, okRune r := runes_ok s 0
theorem rl_app {a b : ByteArray} (ha : bad a < 0) (hb : bad b < 0) : rl (a ++ b) = rl a ++ rl b ∧ bad (a ++ b) < 0 := by
  have e : a ++ b = encT (rl a ++ rl b) := by rw [encT_app, encT_of ha, encT_of hb]
  have h : ∀ r ∈ rl a ++ rl b, okRune r := fun r hr => by
    rcases List.mem_append.1 hr with g | g
    · exact rl_ok a r g
    · exact rl_ok b r g
  rw [e]
  exact ⟨rl_enc h, bad_enc h⟩
theorem rl_one {r : Nat} (h : okRune r) : rl (oneT r) = [r] := by
  have e : oneT r = encT [r] := by apply ByteArray.ext; apply Array.ext'; simp [encT, oneT, encs]
  rw [e]; exact rl_enc (by intro x hx; simp at hx; subst hx; exact h)
theorem lenT_one {r : Nat} (h : okRune r) : lenT (oneT r) = 1 := by unfold lenT; rw [rl_one h]; rfl
theorem lenT_app {a b : ByteArray} (ha : bad a < 0) (hb : bad b < 0) : lenT (a ++ b) = lenT a + lenT b := by unfold lenT; rw [(rl_app ha hb).1, List.length_append]
theorem oneT_size (r : Nat) : 1 ≤ (oneT r).size ∧ (oneT r).size ≤ 4 := by have := enc_len (r : Int); unfold oneT; rw [size_list]; exact this
theorem encT_size : ∀ (l : List Nat), (encT l).size ≤ 4 * l.length := by
  intro l
  induction l with
  | nil => simp [encT, encs, ByteArray.size]
  | cons r l ih =>
    have e : encT (r :: l) = oneT r ++ encT l := by apply ByteArray.ext; apply Array.ext'; simp [encT, oneT, encs, ByteArray.data_append]
    rw [e, ByteArray.size_append]; have := (oneT_size r).2; simp; omega
theorem atN_app1 {a b : ByteArray} (ha : bad a < 0) (hb : bad b < 0) {k : Nat} (h : k < lenT a) : atN (a ++ b) k = atN a k := by
  unfold atN; rw [(rl_app ha hb).1, List.getElem?_append_left h]
theorem atN_app2 {a b : ByteArray} (ha : bad a < 0) (hb : bad b < 0) {k : Nat} (h : lenT a ≤ k) : atN (a ++ b) k = atN b (k - lenT a) := by
  unfold atN; rw [(rl_app ha hb).1, List.getElem?_append_right h]; rfl
end Go.Proofs.Ytinjlmkdhgaeeaa
