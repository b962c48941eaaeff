/- Plain facts on texts as lists of runes: quotes and what they stand for. No Go program in this text. -/
import Derived.Test.YtinjlmkdhgaeeaaPlain
import Derived.Lib.Strings
namespace Go.Proofs.Ytinjlmkdhgaeeaa

/-! ### The runes of a text, from a place on -/
def runesF (s : ByteArray) : Nat → Nat → List Nat
  | 0, _ => []
  | f + 1, p => if p < s.size then (Utf8.decode s p).1 :: runesF s f (p + (Utf8.decode s p).2) else []
def runes (s : ByteArray) (p : Nat) : List Nat := runesF s (s.size - p) p
theorem runesF_end (s : ByteArray) (f p : Nat) (h : ¬ p < s.size) : runesF s f p = [] := by
  cases f with
  | zero => rfl
  | succ f => simp [runesF, h]
theorem runesF_eq (s : ByteArray) : ∀ (f g p : Nat), s.size ≤ p + f → s.size ≤ p + g → runesF s f p = runesF s g p
  | 0, g, p, hf, hg => by rw [runesF_end s 0 p (by omega), runesF_end s g p (by omega)]
  | f + 1, 0, p, hf, hg => by rw [runesF_end s (f + 1) p (by omega), runesF_end s 0 p (by omega)]
  | f + 1, g + 1, p, hf, hg => by
    have := wid_pos s p
    simp only [runesF]
    rw [runesF_eq s f g (p + (Utf8.decode s p).2) (by omega) (by omega)]
theorem runes_end (s : ByteArray) (p : Nat) (h : ¬ p < s.size) : runes s p = [] := runesF_end s _ p h
theorem runes_step (s : ByteArray) (p : Nat) (h : p < s.size) : runes s p = (Utf8.decode s p).1 :: runes s (p + (Utf8.decode s p).2) := by
  have := wid_pos s p
  unfold runes
  obtain ⟨f, hf⟩ : ∃ f, s.size - p = f + 1 := ⟨s.size - p - 1, by omega⟩
  rw [hf]
  simp only [runesF, h, if_true]
  rw [runesF_eq s f (s.size - (p + (Utf8.decode s p).2)) _ (by omega) (by omega)]

/-! ### The first place that is no UTF-8, from a place on -/
def badF (s : ByteArray) : Nat → Nat → Int
  | 0, _ => -1
  | f + 1, p => if p < s.size then (if badAt s p then (p : Int) else badF s f (p + (Utf8.decode s p).2)) else -1
def badFrom (s : ByteArray) (p : Nat) : Int := badF s (s.size - p) p
def bad (s : ByteArray) : Int := badF s s.size 0
theorem badF_end (s : ByteArray) (f p : Nat) (h : ¬ p < s.size) : badF s f p = -1 := by
  cases f with
  | zero => rfl
  | succ f => simp [badF, h]
theorem badF_eq (s : ByteArray) : ∀ (f g p : Nat), s.size ≤ p + f → s.size ≤ p + g → badF s f p = badF s g p
  | 0, g, p, hf, hg => by rw [badF_end s 0 p (by omega), badF_end s g p (by omega)]
  | f + 1, 0, p, hf, hg => by rw [badF_end s (f + 1) p (by omega), badF_end s 0 p (by omega)]
  | f + 1, g + 1, p, hf, hg => by
    have := wid_pos s p
    simp only [badF]
    rw [badF_eq s f g (p + (Utf8.decode s p).2) (by omega) (by omega)]
theorem bad_zero (s : ByteArray) : bad s = badFrom s 0 := rfl
theorem badFrom_end (s : ByteArray) (p : Nat) (h : ¬ p < s.size) : badFrom s p = -1 := badF_end s _ p h
theorem badFrom_at (s : ByteArray) (p : Nat) (h : p < s.size) (hb : badAt s p = true) : badFrom s p = p := by
  unfold badFrom
  obtain ⟨f, hf⟩ : ∃ f, s.size - p = f + 1 := ⟨s.size - p - 1, by omega⟩
  rw [hf]; simp only [badF, h, hb, if_true]
theorem badFrom_step (s : ByteArray) (p : Nat) (h : p < s.size) (hb : badAt s p = false) : badFrom s p = badFrom s (p + (Utf8.decode s p).2) := by
  have := wid_pos s p
  unfold badFrom
  obtain ⟨f, hf⟩ : ∃ f, s.size - p = f + 1 := ⟨s.size - p - 1, by omega⟩
  rw [hf]
  simp only [badF, h, hb, if_true]
  rw [badF_eq s f (s.size - (p + (Utf8.decode s p).2)) _ (by omega) (by omega)]
  simp
theorem badF_range (s : ByteArray) : ∀ f p, badF s f p = -1 ∨ ((p : Int) ≤ badF s f p ∧ badF s f p < s.size)
  | 0, p => .inl rfl
  | f + 1, p => by
    simp only [badF]
    split
    · split
      · right; omega
      · rcases badF_range s f (p + (Utf8.decode s p).2) with h | h
        · exact .inl h
        · right; omega
    · exact .inl rfl
theorem badFrom_range (s : ByteArray) (p : Nat) : badFrom s p = -1 ∨ ((p : Int) ≤ badFrom s p ∧ badFrom s p < s.size) := badF_range s _ p

/-! ### Runes that can be, and their bytes -/
def okRune (r : Nat) : Prop := r < 55296 ∨ (57344 ≤ r ∧ r ≤ 1114111)
theorem runesF_ok (s : ByteArray) : ∀ f p, ∀ r ∈ runesF s f p, okRune r
  | 0, p, r, h => by simp [runesF] at h
  | f + 1, p, r, h => by
    simp only [runesF] at h
    split at h
    · rcases List.mem_cons.1 h with rfl | h
      · exact rune_ok s p
      · exact runesF_ok s f _ r h
    · simp at h
theorem runes_ok (s : ByteArray) (p : Nat) : ∀ r ∈ runes s p, okRune r := runesF_ok s _ p
def encs (l : List Nat) : List UInt8 := l.flatMap fun r : Nat => Lib.encodeRune (r : Int)
theorem encs_nil : encs [] = [] := rfl
theorem encs_cons (r : Nat) (l : List Nat) : encs (r :: l) = Lib.encodeRune (r : Int) ++ encs l := by simp [encs]
theorem encs_append (a b : List Nat) : encs (a ++ b) = encs a ++ encs b := by simp [encs]
theorem enc_len (r : Int) : 1 ≤ (Lib.encodeRune r).length ∧ (Lib.encodeRune r).length ≤ 4 := by
  have := Lib.encodeRuneZ_length r; simpa [Lib.encodeRune] using this
theorem get_list (l : List UInt8) (i : Nat) (b : UInt8) (h : l[i]? = some b) : bt ⟨l.toArray⟩ i = b.toNat := by
  have hl : i < l.length := (List.getElem?_eq_some_iff.1 h).1
  have hs : i < (⟨l.toArray⟩ : ByteArray).size := by simpa [ByteArray.size] using hl
  rw [bt, get_eq _ i hs]
  congr 1
  have : l[i] = b := (List.getElem?_eq_some_iff.1 h).2
  rw [← this]
  rfl
theorem size_list (l : List UInt8) : (⟨l.toArray⟩ : ByteArray).size = l.length := by simp [ByteArray.size]
theorem bt_enc (a b c : List UInt8) (i : Nat) (x : UInt8) (h : b[i]? = some x) : bt ⟨(a ++ (b ++ c)).toArray⟩ (a.length + i) = x.toNat := by
  apply get_list
  have hi : i < b.length := (List.getElem?_eq_some_iff.1 h).1
  rw [List.getElem?_append_right (by omega), List.getElem?_append_left (by omega)]
  rw [show a.length + i - a.length = i from by omega]; exact h
theorem u8v (x : Int) (h0 : 0 ≤ x) (h1 : x < 256) : ((x.toNat.toUInt8).toNat : Int) = x := by
  simp; omega
theorem dec_enc (a c : List UInt8) (r : Nat) (hr : okRune r) :
    Utf8.decode ⟨(a ++ (Lib.encodeRune (r : Int) ++ c)).toArray⟩ a.length = (r, (Lib.encodeRune (r : Int)).length) := by
  have hsz := size_list (a ++ (Lib.encodeRune (r : Int) ++ c))
  rw [decode_bt]
  unfold okRune at hr
  by_cases h1 : r < 128
  · have e : Lib.encodeRune (r : Int) = [((r : Int)).toNat.toUInt8] := by rw [Lib.encodeRune, Lib.encodeRuneZ_one (by omega) (by omega)]; rfl
    have b0 : bt ⟨(a ++ (Lib.encodeRune (r : Int) ++ c)).toArray⟩ a.length = r := by
      have := bt_enc a (Lib.encodeRune (r : Int)) c 0 _ (by rw [e]; rfl)
      have u := u8v (r : Int) (by omega) (by omega)
      rw [Nat.add_zero] at this; omega
    rw [dec1 _ _ _ _ _ (by omega), b0, e]; rfl
  · by_cases h2 : r < 2048
    · have e : Lib.encodeRune (r : Int) = [(192 + (r : Int) / 64).toNat.toUInt8, (128 + (r : Int) % 64).toNat.toUInt8] := by rw [Lib.encodeRune, Lib.encodeRuneZ_two (by omega) (by omega)]; rfl
      have b0 := bt_enc a (Lib.encodeRune (r : Int)) c 0 _ (by rw [e]; rfl)
      have b1 := bt_enc a (Lib.encodeRune (r : Int)) c 1 _ (by rw [e]; rfl)
      have u0 := u8v (192 + (r : Int) / 64) (by omega) (by omega)
      have u1 := u8v (128 + (r : Int) % 64) (by omega) (by omega)
      rw [Nat.add_zero] at b0
      have hl : (Lib.encodeRune (r : Int)).length = 2 := by rw [e]; rfl
      rw [hsz, List.length_append, List.length_append, hl, dec2 _ _ _ _ _ ⟨by omega, by omega, by omega, by omega, by omega⟩]
      exact Prod.ext (by simp only []; omega) rfl
    · by_cases h3 : r < 65536
      · have e : Lib.encodeRune (r : Int) = [(224 + (r : Int) / 4096).toNat.toUInt8, (128 + (r : Int) / 64 % 64).toNat.toUInt8, (128 + (r : Int) % 64).toNat.toUInt8] := by rw [Lib.encodeRune, Lib.encodeRuneZ_three (by omega)]; rfl
        have b0 := bt_enc a (Lib.encodeRune (r : Int)) c 0 _ (by rw [e]; rfl)
        have b1 := bt_enc a (Lib.encodeRune (r : Int)) c 1 _ (by rw [e]; rfl)
        have b2 := bt_enc a (Lib.encodeRune (r : Int)) c 2 _ (by rw [e]; rfl)
        have u0 := u8v (224 + (r : Int) / 4096) (by omega) (by omega)
        have u1 := u8v (128 + (r : Int) / 64 % 64) (by omega) (by omega)
        have u2 := u8v (128 + (r : Int) % 64) (by omega) (by omega)
        rw [Nat.add_zero] at b0
        have hl : (Lib.encodeRune (r : Int)).length = 3 := by rw [e]; rfl
        rw [hsz, List.length_append, List.length_append, hl, dec3 _ _ _ _ _ ⟨by omega, by omega, by omega, by omega, by omega, by omega, by omega, by omega, by omega⟩]
        exact Prod.ext (by simp only []; omega) rfl
      · have e : Lib.encodeRune (r : Int) = [(240 + (r : Int) / 262144).toNat.toUInt8, (128 + (r : Int) / 4096 % 64).toNat.toUInt8, (128 + (r : Int) / 64 % 64).toNat.toUInt8, (128 + (r : Int) % 64).toNat.toUInt8] := by rw [Lib.encodeRune, Lib.encodeRuneZ_four (by omega) (by omega)]; rfl
        have b0 := bt_enc a (Lib.encodeRune (r : Int)) c 0 _ (by rw [e]; rfl)
        have b1 := bt_enc a (Lib.encodeRune (r : Int)) c 1 _ (by rw [e]; rfl)
        have b2 := bt_enc a (Lib.encodeRune (r : Int)) c 2 _ (by rw [e]; rfl)
        have b3 := bt_enc a (Lib.encodeRune (r : Int)) c 3 _ (by rw [e]; rfl)
        have u0 := u8v (240 + (r : Int) / 262144) (by omega) (by omega)
        have u1 := u8v (128 + (r : Int) / 4096 % 64) (by omega) (by omega)
        have u2 := u8v (128 + (r : Int) / 64 % 64) (by omega) (by omega)
        have u3 := u8v (128 + (r : Int) % 64) (by omega) (by omega)
        rw [Nat.add_zero] at b0
        have hl : (Lib.encodeRune (r : Int)).length = 4 := by rw [e]; rfl
        rw [hsz, List.length_append, List.length_append, hl, dec4 _ _ _ _ _ ⟨by omega, by omega, by omega, by omega, by omega, by omega, by omega, by omega, by omega, by omega, by omega⟩]
        exact Prod.ext (by simp only []; omega) rfl

theorem badAt_enc (a c : List UInt8) (r : Nat) (hr : okRune r) : badAt ⟨(a ++ (Lib.encodeRune (r : Int) ++ c)).toArray⟩ a.length = false := by
  apply badAt_not
  rw [dec_enc a c r hr]
  intro e
  injection e with e1 e2
  subst e1
  revert e2; decide
/-- The runes of bytes that were made of runes; and nothing of them is bad. -/
theorem runes_encs : ∀ (l : List Nat) (a : List UInt8), (∀ r ∈ l, okRune r) → runes ⟨(a ++ encs l).toArray⟩ a.length = l ∧ badFrom ⟨(a ++ encs l).toArray⟩ a.length = -1
  | [], a, _ => by
    have hsz := size_list (a ++ encs [])
    have : ¬ a.length < (⟨(a ++ encs []).toArray⟩ : ByteArray).size := by rw [hsz]; simp [encs]
    exact ⟨runes_end _ _ this, badFrom_end _ _ this⟩
  | r :: l, a, h => by
    have hr : okRune r := h r (by simp)
    have hl : ∀ r ∈ l, okRune r := fun x hx => h x (by simp [hx])
    have e : a ++ encs (r :: l) = a ++ (Lib.encodeRune (r : Int) ++ encs l) := by rw [encs_cons]
    have e2 : a ++ encs (r :: l) = (a ++ Lib.encodeRune (r : Int)) ++ encs l := by rw [encs_cons, List.append_assoc]
    have d := dec_enc a (encs l) r hr
    have nb := badAt_enc a (encs l) r hr
    have le := enc_len (r : Int)
    have hp : a.length < (⟨(a ++ encs (r :: l)).toArray⟩ : ByteArray).size := by rw [size_list, e]; simp only [List.length_append]; omega
    have ih := runes_encs l (a ++ Lib.encodeRune (r : Int)) hl
    rw [List.length_append, ← e2] at ih
    rw [← e] at d nb
    refine ⟨?_, ?_⟩
    · rw [runes_step _ _ hp, d]; simp only []; rw [ih.1]
    · rw [badFrom_step _ _ hp nb, d]; exact ih.2

/-- What is all UTF-8 is the bytes of its runes. -/
theorem encs_runes (s : ByteArray) : ∀ (k p : Nat), s.size - p ≤ k → badFrom s p = -1 → encs (runes s p) = s.data.toList.drop p
  | 0, p, hk, hb => by
    rw [runes_end s p (by omega)]
    rw [List.drop_of_length_le]; rfl
    have : s.data.toList.length = s.size := by simp
    omega
  | k + 1, p, hk, hb => by
    have hlen : s.data.toList.length = s.size := by simp
    by_cases hp : p < s.size
    · have hw := wid_pos s p
      have nb : badAt s p = false := by
        rw [Bool.eq_false_iff]; intro h; rw [badFrom_at s p hp h] at hb; omega
      rw [badFrom_step s p hp nb] at hb
      rw [runes_step s p hp, encs_cons, encs_runes s k _ (by omega) hb, enc_ok s p hp nb, sub]
      rw [← List.drop_drop, List.take_append_drop]
    · rw [runes_end s p hp, List.drop_of_length_le (by omega)]; rfl
theorem encs_runes_all (s : ByteArray) (h : bad s = -1) : encs (runes s 0) = s.data.toList := by
  have := encs_runes s s.size 0 (by omega) (by rw [← bad_zero]; exact h); simpa using this

/-! ### Quotes -/
def letterN (r : Nat) : Nat := if r = 10 then 110 else r
def mustN (r : Nat) : Bool := r == 34 || (r == 92 || r == 10)
def qr (r : Nat) : List Nat := if mustN r then [92, letterN r] else [r]
def quoteFrom (s : ByteArray) (p : Nat) : List UInt8 := encs ((runes s p).flatMap qr)
def quote (s : ByteArray) : List UInt8 := [34] ++ (quoteFrom s 0 ++ [34])
theorem letter_cast (r : Nat) : letter (r : Int) = (letterN r : Nat) := by unfold letter letterN; split <;> split <;> omega
theorem must_cast (r : Nat) : must (r : Int) = mustN r := by
  unfold must mustN
  have a : ∀ k : Nat, ((r : Int) == (k : Int)) = (r == k) := fun k => by rw [Bool.eq_iff_iff]; simp; omega
  rw [← a 34, ← a 92, ← a 10]; rfl
theorem quoteFrom_step (s : ByteArray) (p : Nat) (h : p < s.size) : quoteFrom s p = (if mustN (Utf8.decode s p).1 then [92] else []) ++ (Lib.encodeRune (letterN (Utf8.decode s p).1 : Nat) ++ quoteFrom s (p + (Utf8.decode s p).2)) := by
  unfold quoteFrom
  rw [runes_step s p h, List.flatMap_cons, encs_append, qr]
  split
  · have e92 : Lib.encodeRune ((92 : Nat) : Int) = [92] := by decide
    rw [encs_cons, encs_cons, encs_nil, e92]; simp
  · rename_i hm
    have : letterN (Utf8.decode s p).1 = (Utf8.decode s p).1 := by
      unfold letterN; rw [if_neg]; intro e; rw [e] at hm; exact hm (by decide)
    rw [encs_cons, encs_nil, this]; simp
theorem quoteFrom_end (s : ByteArray) (p : Nat) (h : ¬ p < s.size) : quoteFrom s p = [] := by unfold quoteFrom; rw [runes_end s p h]; rfl

/-! ### What a quote stands for -/
def plainL : Bool → List Nat → Option (List Nat)
  | esc, [] => if esc then none else some []
  | false, r :: t => if r = 92 then plainL true t else if r = 34 ∨ r = 10 then none else (plainL false t).map (r :: ·)
  | true, r :: t => if r = 110 then (plainL false t).map (10 :: ·) else if r = 34 ∨ r = 92 then (plainL false t).map (r :: ·) else none
def plain (s : ByteArray) : Option (List UInt8) := if 0 ≤ bad s then none else (plainL false (runes s 0)).map encs
def plainText (s : ByteArray) : List UInt8 := (plain s).getD []
def plainOk (s : ByteArray) : Bool := (plain s).isSome

theorem qr_ok (r : Nat) (h : okRune r) : ∀ x ∈ qr r, okRune x := by
  intro x hx
  unfold qr at hx
  split at hx
  · simp at hx
    rcases hx with rfl | rfl
    · left; omega
    · unfold letterN; split
      · left; omega
      · exact h
  · simp at hx; subst hx; exact h
theorem qrs_ok (l : List Nat) (h : ∀ r ∈ l, okRune r) : ∀ x ∈ l.flatMap qr, okRune x := by
  intro x hx
  obtain ⟨r, hr, hx⟩ := List.mem_flatMap.1 hx
  exact qr_ok r (h r hr) x hx
theorem plainL_qr : ∀ l : List Nat, plainL false (l.flatMap qr) = some l
  | [] => rfl
  | r :: l => by
    rw [List.flatMap_cons, qr]
    have ih := plainL_qr l
    by_cases h34 : r = 34
    · subst h34; simp [mustN, letterN, plainL, ih]
    · by_cases h92 : r = 92
      · subst h92; simp [mustN, letterN, plainL, ih]
      · by_cases h10 : r = 10
        · subst h10; simp [mustN, letterN, plainL, ih]
        · simp [mustN, plainL, ih, h34, h92, h10]

/-- A quote's inner part: its runes; nothing is bad. -/
theorem runes_of_encs (l : List Nat) (h : ∀ r ∈ l, okRune r) : runes ⟨(encs l).toArray⟩ 0 = l ∧ bad ⟨(encs l).toArray⟩ = -1 := by
  have := runes_encs l [] h
  rw [bad_zero]
  simpa using this
theorem plain_inner (s : ByteArray) : plain ⟨(quoteFrom s 0).toArray⟩ = some (encs (runes s 0)) := by
  have h := runes_of_encs ((runes s 0).flatMap qr) (qrs_ok _ (runes_ok s 0))
  unfold plain quoteFrom
  rw [h.2, h.1, plainL_qr]
  rfl
theorem quote_again (s : ByteArray) : quote ⟨(encs (runes s 0)).toArray⟩ = quote s := by
  have h := runes_of_encs (runes s 0) (runes_ok s 0)
  unfold quote quoteFrom
  rw [h.1]
theorem bad_quote (s : ByteArray) : bad ⟨(quote s).toArray⟩ = -1 := by
  have e : quote s = encs ([34] ++ ((runes s 0).flatMap qr ++ [34])) := by
    rw [encs_append, encs_append]; rfl
  rw [e]
  refine (runes_of_encs _ ?_).2
  intro r hr
  simp only [List.mem_append, List.mem_singleton] at hr
  rcases hr with rfl | hr | rfl
  · left; omega
  · exact qrs_ok _ (runes_ok s 0) r hr
  · left; omega
theorem back_same (s : ByteArray) (h : bad s < 0) : encs (runes s 0) = s.data.toList := by
  apply encs_runes_all
  rcases badFrom_range s 0 with g | g
  · rw [bad_zero]; exact g
  · rw [bad_zero] at h; omega

/-- What a rune within quotes stands for, a sign ahead of it or not; does it stand there? -/
def means (r : Int) (esc : Bool) : Bool := if esc then r == 110 || (r == 34 || r == 92) else !(must r)
def meant (r : Int) (esc : Bool) : Int := if means r esc then (if esc && r == 110 then 10 else r) else 0

/-! ### Parts of a text, as the walk spells them -/
theorem extract_list (s : ByteArray) (a b : Nat) : (s.extract a b).data.toList = (s.data.toList.drop a).take (b - a) := by
  simp [ByteArray.data_extract, Array.toList_extract, List.extract]
theorem extract_sub (s : ByteArray) (a b : Nat) : (s.extract a b).data.toList = sub s a (b - a) := extract_list s a b
theorem drop_extract (s : ByteArray) (a : Nat) : (s.extract a s.size).data.toList = s.data.toList.drop a := by
  rw [extract_list, List.take_of_length_le]; simp
theorem fffd_good (s : ByteArray) (p : Nat) (h : p < s.size) (hr : (Utf8.decode s p).1 = 65533) (hb : badAt s p = false) : Lib.hasPrefix (s.extract p s.size).data.toList [239, 191, 189] = true := by
  have e := enc_ok s p h hb
  rw [hr] at e
  have e2 : Lib.encodeRune ((65533 : Nat) : Int) = [239, 191, 189] := by decide
  rw [e2] at e
  rw [drop_extract, Lib.hasPrefix, List.isPrefixOf_iff_prefix, e]
  exact List.take_prefix _ _
theorem drop_get (s : ByteArray) (p k : Nat) (x : UInt8) (h : (s.data.toList.drop p)[k]? = some x) : bt s (p + k) = x.toNat ∧ p + k < s.size := by
  rw [List.getElem?_drop] at h
  have hl := (List.getElem?_eq_some_iff.1 h).1
  have hs : s.data.toList.length = s.size := by simp
  refine ⟨?_, by omega⟩
  have := get_list s.data.toList (p + k) x h
  simpa using this
theorem fffd_bad (s : ByteArray) (p : Nat) (hb : badAt s p = true) : Lib.hasPrefix (s.extract p s.size).data.toList [239, 191, 189] = false := by
  rw [Bool.eq_false_iff]
  intro h
  rw [drop_extract, Lib.hasPrefix, List.isPrefixOf_iff_prefix] at h
  obtain ⟨t, ht⟩ := h
  have g0 := drop_get s p 0 239 (by rw [← ht]; rfl)
  have g1 := drop_get s p 1 191 (by rw [← ht]; rfl)
  have g2 := drop_get s p 2 189 (by rw [← ht]; rfl)
  have k : K3 s p := by
    rw [Nat.add_zero] at g0
    have a0 := g0.1; have a1 := g1.1; have a2 := g2.1
    simp at a0 a1 a2
    exact ⟨by omega, by omega, by omega, by omega, by omega, by omega, by omega, by omega, by omega⟩
  rcases dcases s p with ⟨k1, _⟩ | ⟨k1, _⟩ | ⟨_, e⟩ | ⟨k1, _⟩ | ⟨_, _, k1, _⟩
  · have := k.1; omega
  · have := k.1; have := k1.2.1; omega
  · rw [badAt_eq hb] at e; injection e with e1 e2; omega
  · have := k.2.1; have := k1.1; omega
  · exact k1 k

/-! ### Names -/
def allAl (s : ByteArray) (p : Nat) : Bool := (s.data.toList.drop p).all fun b => alnum (b.toNat : Int)
def shape (first : Int → Bool) (s : ByteArray) : Bool := decide (1 ≤ s.size) && (decide (s.size ≤ 20) && (first (bt s 0) && allAl s 0))
theorem allAl_step (s : ByteArray) (p : Nat) (h : p < s.size) : allAl s p = (alnum (bt s p) && allAl s (p + 1)) := by
  have hl : p < s.data.toList.length := by simp; exact h
  unfold allAl
  rw [List.drop_eq_getElem_cons hl, List.all_cons]
  congr 2
  rw [← bt_eq s p h]
  rfl
theorem allAl_end (s : ByteArray) (p : Nat) (h : ¬ p < s.size) : allAl s p = true := by
  have hl : s.data.toList.length ≤ p := by simp; exact Nat.le_of_not_lt h
  unfold allAl
  rw [List.drop_of_length_le hl]; rfl
theorem high_none (s : ByteArray) (p : Nat) (h : 128 ≤ bt s p) : alnum ((Utf8.decode s p).1 : Nat) = false ∧ alnum (bt s p) = false ∧ small ((Utf8.decode s p).1 : Nat) = false ∧ big ((Utf8.decode s p).1 : Nat) = false ∧ digit ((Utf8.decode s p).1 : Nat) = false := by
  have := high_of s p h
  have a : ∀ x : Nat, 128 ≤ x → small (x : Int) = false ∧ big (x : Int) = false ∧ digit (x : Int) = false := by
    intro x hx
    refine ⟨?_, ?_, ?_⟩
    · simp [small]; omega
    · simp [big]; omega
    · simp [digit]; omega
  obtain ⟨a1, a2, a3⟩ := a _ this
  obtain ⟨b1, b2, b3⟩ := a _ h
  exact ⟨by simp [alnum, a1, a2, a3], by simp [alnum, b1, b2, b3], a1, a2, a3⟩
/-- The rune at a place is a letter or a digit just if the byte is. -/
theorem alnum_at (s : ByteArray) (p : Nat) : alnum ((Utf8.decode s p).1 : Nat) = alnum (bt s p) := by
  by_cases h : bt s p < 128
  · rw [low_of s p h]
  · have := high_none s p (by omega); rw [this.1, this.2.1]
theorem alnum_wid (s : ByteArray) (p : Nat) (h : alnum ((Utf8.decode s p).1 : Nat) = true) : (Utf8.decode s p).2 = 1 ∧ (Utf8.decode s p).1 = bt s p := by
  by_cases g : bt s p < 128
  · rw [low_of s p g]; exact ⟨rfl, rfl⟩
  · have := high_none s p (by omega); rw [this.1] at h; cases h

theorem shape_no_al (first : Int → Bool) (s : ByteArray) (p : Nat) (h : p < s.size) (hb : allAl s p = allAl s 0) (ha : alnum ((Utf8.decode s p).1 : Nat) = false) : shape first s = false := by
  have := allAl_step s p h
  rw [← alnum_at, ha, Bool.false_and, hb] at this
  simp [shape, this]
theorem shape_no_first (first : Int → Bool) (s : ByteArray) (ha : alnum ((Utf8.decode s 0).1 : Nat) = true) (hf : first ((Utf8.decode s 0).1 : Nat) = false) : shape first s = false := by
  rw [(alnum_wid s 0 ha).2] at hf
  simp [shape, hf]
theorem al_next (s : ByteArray) (p : Nat) (h : p < s.size) (hb : allAl s p = allAl s 0) (ha : alnum ((Utf8.decode s p).1 : Nat) = true) : allAl s (p + (Utf8.decode s p).2) = allAl s 0 := by
  have := allAl_step s p h
  rw [← alnum_at, ha, Bool.true_and, hb] at this
  rw [(alnum_wid s p ha).1]; exact this.symm
theorem first_next (first : Int → Bool) (s : ByteArray) (ha : alnum ((Utf8.decode s 0).1 : Nat) = true) (hf : first ((Utf8.decode s 0).1 : Nat) = true) : first (bt s 0) = true := by
  rw [(alnum_wid s 0 ha).2] at hf; exact hf

theorem al3 {r : Int} (h : alnum r = true) : small r = true ∨ (small r = false ∧ big r = true) ∨ (small r = false ∧ big r = false ∧ digit r = true) := by
  unfold alnum at h
  cases hs : small r
  · cases hb : big r
    · right; right; rw [hs, hb] at h; exact ⟨rfl, rfl, by simpa using h⟩
    · right; left; exact ⟨rfl, rfl⟩
  · left; rfl
theorem al0 {r : Int} (h : alnum r = false) : small r = false ∧ big r = false ∧ digit r = false := by
  simp only [alnum, Bool.or_eq_false_iff] at h; exact ⟨h.1, h.2.1, h.2.2⟩

def stringWord : List UInt8 := [83, 116, 114, 105, 110, 103]
def nameOk (s : ByteArray) : Bool := shape small s && !(kept s.data.toList)
def classOk (s : ByteArray) : Bool := shape big s && !(s.data.toList == stringWord)

theorem letter_range (s : ByteArray) (p : Nat) : 0 ≤ letter ((Utf8.decode s p).1 : Nat) ∧ letter ((Utf8.decode s p).1 : Nat) ≤ 1114111 := by
  have := rune_ok s p
  unfold letter
  split <;> omega
theorem quote_at (s : ByteArray) (p : Nat) (h : p < s.size) (acc : List UInt8) (hacc : acc ++ (quoteFrom s p ++ [34]) = quote s) :
    (acc ++ (if must ((Utf8.decode s p).1 : Nat) then [92] else [])) ++ Lib.encodeRune (letter ((Utf8.decode s p).1 : Nat)) ++ (quoteFrom s (p + (Utf8.decode s p).2) ++ [34]) = quote s := by
  rw [← hacc, quoteFrom_step s p h, letter_cast, must_cast]
  simp [List.append_assoc]

/-! ### Reading a quote, a rune at a time: what is read so far is acc; esc: a sign stands ahead -/
def Reads (s : ByteArray) (p : Nat) (esc : Bool) (acc : List UInt8) : Prop := (plainL false (runes s 0)).map encs = (plainL esc (runes s p)).map fun t => acc ++ encs t
theorem reads_start (s : ByteArray) : Reads s 0 false [] := by unfold Reads; congr
theorem reads_esc (s : ByteArray) (p : Nat) (acc : List UInt8) (h : p < s.size) (hr : (((Utf8.decode s p).1 : Nat) : Int) = 92) (R : Reads s p false acc) : Reads s (p + (Utf8.decode s p).2) true acc := by
  unfold Reads at R ⊢
  have : (Utf8.decode s p).1 = 92 := by omega
  rw [R, runes_step s p h, this]; simp [plainL]
theorem meant_nat (r : Nat) (esc : Bool) (h : means (r : Int) esc = true) : meant (r : Int) esc = ((if esc && r == 110 then 10 else r : Nat) : Int) := by
  unfold meant
  rw [if_pos h]
  cases esc
  · simp
  · have : ((r : Int) == 110) = (r == 110) := by rw [Bool.eq_iff_iff]; simp; omega
    simp only [Bool.true_and, this]
    split <;> rfl
theorem reads_next (s : ByteArray) (p : Nat) (esc : Bool) (acc : List UInt8) (h : p < s.size) (hm : means ((Utf8.decode s p).1 : Nat) esc = true) (R : Reads s p esc acc) :
    Reads s (p + (Utf8.decode s p).2) false (acc ++ Lib.encodeRune (meant ((Utf8.decode s p).1 : Nat) esc)) := by
  have hn := meant_nat _ _ hm
  unfold Reads at R ⊢
  rw [R, runes_step s p h, hn]
  generalize (Utf8.decode s p).1 = r at *
  have a : ∀ k : Nat, ((r : Int) == (k : Int)) = (r == k) := fun k => by rw [Bool.eq_iff_iff]; simp; omega
  have a34 : ((r : Int) == 34) = (r == 34) := a 34
  have a92 : ((r : Int) == 92) = (r == 92) := a 92
  have a10 : ((r : Int) == 10) = (r == 10) := a 10
  have a110 : ((r : Int) == 110) = (r == 110) := a 110
  cases esc
  · simp only [means, must, a34, a92, a10, Bool.not_eq_true', Bool.or_eq_false_iff, beq_eq_false_iff_ne, Bool.false_eq_true, if_false] at hm
    simp only [plainL, hm.2.1, hm.1, hm.2.2, if_false, or_false, Option.map_map, Bool.false_and, Bool.false_eq_true]
    congr 1; funext t; simp [encs_cons]
  · simp only [means, if_true, a34, a92, a110, Bool.or_eq_true, beq_iff_eq] at hm
    by_cases g : r = 110
    · simp only [plainL, g, if_true, Option.map_map]
      congr 1; funext t; simp [encs_cons]
    · have g2 : r = 34 ∨ r = 92 := by rcases hm with hm | hm; exact absurd hm g; exact hm
      simp only [plainL, g, if_false, g2, if_true, Option.map_map, Bool.true_and, beq_iff_eq]
      congr 1; funext t; simp [encs_cons]
theorem reads_none (s : ByteArray) (p : Nat) (esc : Bool) (acc : List UInt8) (h : p < s.size) (hm : means ((Utf8.decode s p).1 : Nat) esc = false) (h92 : ¬ ((((Utf8.decode s p).1 : Nat) : Int) = 92 ∧ esc = false)) (R : Reads s p esc acc) :
    (plainL false (runes s 0)).map encs = none := by
  unfold Reads at R
  rw [R, runes_step s p h]
  generalize (Utf8.decode s p).1 = r at *
  have a : ∀ k : Nat, ((r : Int) == (k : Int)) = (r == k) := fun k => by rw [Bool.eq_iff_iff]; simp; omega
  have a34 : ((r : Int) == 34) = (r == 34) := a 34
  have a92 : ((r : Int) == 92) = (r == 92) := a 92
  have a10 : ((r : Int) == 10) = (r == 10) := a 10
  have a110 : ((r : Int) == 110) = (r == 110) := a 110
  cases esc
  · simp only [and_true] at h92
    have h92' : ¬ r = 92 := by omega
    simp only [means, must, a34, a92, a10, Bool.not_eq_false', Bool.or_eq_true, beq_iff_eq, Bool.false_eq_true, if_false, h92', false_or] at hm
    simp only [plainL, h92', if_false, if_pos hm]; rfl
  · simp only [means, if_true, a34, a92, a110, Bool.or_eq_false_iff, beq_eq_false_iff_ne] at hm
    simp only [plainL, hm.1, hm.2.1, hm.2.2, if_false, or_false]; rfl
theorem reads_end (s : ByteArray) (p : Nat) (esc : Bool) (acc : List UInt8) (h : ¬ p < s.size) (R : Reads s p esc acc) :
    (plainL false (runes s 0)).map encs = if esc then none else some acc := by
  unfold Reads at R
  rw [R, runes_end s p h]
  cases esc <;> simp [plainL, encs]
theorem plain_bad (s : ByteArray) (h : 0 ≤ bad s) : plainText s = [] ∧ plainOk s = false := by
  simp [plainText, plainOk, plain, h]
theorem plain_of (s : ByteArray) (h : bad s < 0) (o : Option (List UInt8)) (ho : (plainL false (runes s 0)).map encs = o) : plainText s = o.getD [] ∧ plainOk s = o.isSome := by
  have : ¬ 0 ≤ bad s := by omega
  simp only [plainText, plainOk, plain, this, if_false, ho]
  exact ⟨trivial, trivial⟩
theorem meant_range (s : ByteArray) (p : Nat) (esc : Bool) : 0 ≤ meant ((Utf8.decode s p).1 : Nat) esc ∧ meant ((Utf8.decode s p).1 : Nat) esc ≤ 1114111 := by
  have := rune_ok s p
  unfold meant
  split
  · split <;> omega
  · omega

end Go.Proofs.Ytinjlmkdhgaeeaa
