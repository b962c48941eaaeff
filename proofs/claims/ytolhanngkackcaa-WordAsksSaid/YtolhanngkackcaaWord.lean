/- Plain facts on a program's words: gaps, numbers, names, texts, signs, one behind the other. No Go program in this text. -/
import Derived.Test.YtolhanngkackcaaText
set_option linter.unusedSimpArgs false
set_option linter.unusedVariables false
namespace Go.Proofs.Ytolhanngkackcaa

/-! ### Gaps, runs, texts, signs at the head of a list of bytes -/
def blankI (r : Int) : Bool := r == 32 || (r == 9 || r == 13)
def gapL : Bool → List UInt8 → Nat
  | _, [] => 0
  | c, b :: t =>
    if b.toNat = 10 then gapL false t + 1
    else if c = true then gapL true t + 1
    else if blankI b.toNat = true then gapL false t + 1
    else if b.toNat = 47 ∧ t.head? = some 47 then gapL true t + 1
    else 0
def spanL (f : Int → Bool) (l : List UInt8) : Nat := (l.takeWhile fun b => f (b.toNat : Int)).length
def tlenL : Bool → List UInt8 → Nat → Nat
  | _, [], _ => 0
  | e, b :: t, n => if b.toNat = 10 then 0 else if e = true then tlenL false t (n + 1) else if b.toNat = 92 then tlenL true t (n + 1) else if b.toNat = 34 then n + 1 else tlenL false t (n + 1)
def textLen : List UInt8 → Nat
  | [] => 0
  | b :: t => if b.toNat = 34 then tlenL false t 1 else 0
def twos : List (List UInt8) := [[58, 58], [60, 61], [61, 61], [33, 61], [38, 38], [124, 124]]
def ones : List UInt8 := [123, 125, 40, 41, 59, 44, 46, 61, 60, 43, 45, 42, 47, 37, 33, 35, 64]
def markL (l : List UInt8) : Nat := if twos.contains (l.take 2) = true then 2 else match l with | [] => 0 | b :: _ => if ones.contains b = true then 1 else 0
def inner (l : List UInt8) (n : Nat) : ByteArray := ⟨((l.take (n - 1)).drop 1).toArray⟩
/-- The word at the head: kind, text, how many bytes; 0 bytes: it is none. -/
def firstL (l : List UInt8) : Nat × List UInt8 × Nat :=
  if 0 < spanL digit l then (2, l.take (spanL digit l), spanL digit l)
  else if 0 < spanL alnum l then (1, l.take (spanL alnum l), spanL alnum l)
  else if 0 < textLen l then (if plainOk (inner l (textLen l)) = true then (3, plainText (inner l (textLen l)), textLen l) else (0, [], 0))
  else (4, l.take (markL l), markL l)

/-! ### A list of bytes from a place on -/
theorem dropc (s : ByteArray) (p : Nat) (h : p < s.size) : ∃ b : UInt8, s.data.toList.drop p = b :: s.data.toList.drop (p + 1) ∧ b.toNat = bt s p ∧ b = s.get! p := by
  have hl : p < s.data.toList.length := by simpa using h
  refine ⟨s.data.toList[p], List.drop_eq_getElem_cons hl, ?_, ?_⟩
  · rw [← bt_eq s p h]; rfl
  · rw [get_eq s p h]; rfl
theorem dropz (s : ByteArray) (p : Nat) (h : ¬ p < s.size) : s.data.toList.drop p = [] := by
  apply List.drop_of_length_le; simp; omega
theorem get_bt (s : ByteArray) (p : Nat) (b : UInt8) : s.get! p = b ↔ bt s p = b.toNat := by
  unfold bt
  constructor
  · intro h; rw [h]
  · intro h; exact UInt8.toNat_inj.1 h
theorem head_at (s : ByteArray) (p : Nat) (b : UInt8) : (s.data.toList.drop p).head? = some b ↔ p < s.size ∧ bt s p = b.toNat := by
  by_cases h : p < s.size
  · obtain ⟨x, hx, hb, hg⟩ := dropc s p h
    rw [hx, List.head?_cons, Option.some_inj, ← hb, UInt8.toNat_inj]
    exact ⟨fun e => ⟨h, e⟩, fun e => e.2⟩
  · rw [dropz s p h]; simp [h]

/-- The bytes of one rune: it is one small byte, or all are great. -/
theorem wid_high (s : ByteArray) (p : Nat) (h : 128 ≤ bt s p) : ∀ i, i < (Utf8.decode s p).2 → 128 ≤ bt s (p + i) := by
  rcases dcases s p with ⟨k, e⟩ | ⟨k, e⟩ | ⟨k, e⟩ | ⟨k, e⟩ | ⟨_, _, _, _, e⟩
  · omega
  · obtain ⟨h1, h2, h3, h4, h5⟩ := k
    rw [e]; intro i hi
    match i, hi with
    | 0, _ => exact h
    | 1, _ => exact h4
  · obtain ⟨h1, h2, h3, h4, h5, h6, h7, h8, h9⟩ := k
    rw [e]; intro i hi
    match i, hi with
    | 0, _ => exact h
    | 1, _ => exact h4
    | 2, _ => exact h8
  · obtain ⟨h1, h2, h3, h4, h5, h6, h7, h8, h9, h10, h11⟩ := k
    rw [e]; intro i hi
    match i, hi with
    | 0, _ => exact h
    | 1, _ => exact h4
    | 2, _ => exact h8
    | 3, _ => exact h10
  · rw [e]; intro i hi
    match i, hi with
    | 0, _ => exact h

/-! ### Gaps -/
theorem gap_skip (s : ByteArray) : ∀ k p, p + k ≤ s.size → (∀ i, i < k → bt s (p + i) ≠ 10) → gapL true (s.data.toList.drop p) = gapL true (s.data.toList.drop (p + k)) + k
  | 0, p, _, _ => rfl
  | k + 1, p, h, hk => by
    obtain ⟨b, hb, hn, _⟩ := dropc s p (by omega)
    have h0 := hk 0 (by omega)
    rw [hb, gapL, if_neg (by rw [hn]; exact h0), if_pos rfl, gap_skip s k (p + 1) (by omega) (fun i hi => by have := hk (i + 1) (by omega); rwa [show p + 1 + i = p + (i + 1) from by omega]), show p + 1 + k = p + (k + 1) from by omega]
    omega
theorem gap_line (s : ByteArray) (c : Bool) (p : Nat) (h : p < s.size) (hb : bt s p = 10) : gapL c (s.data.toList.drop p) = gapL false (s.data.toList.drop (p + 1)) + 1 := by
  obtain ⟨b, e, hn, _⟩ := dropc s p h
  rw [e, gapL, if_pos (by rw [hn]; exact hb)]
theorem gap_note (s : ByteArray) (p : Nat) (h : p < s.size) (hb : bt s p ≠ 10) : gapL true (s.data.toList.drop p) = gapL true (s.data.toList.drop (p + (Utf8.decode s p).2)) + (Utf8.decode s p).2 := by
  apply gap_skip s _ p (wid_le s p h)
  by_cases g : bt s p < 128
  · rw [low_of s p g]; intro i hi
    have : i = 0 := by simp at hi; exact hi
    subst this; exact hb
  · intro i hi e
    have := wid_high s p (by omega) i hi
    omega
theorem gap_blank (s : ByteArray) (p : Nat) (h : p < s.size) (hb : bt s p ≠ 10) (hk : blankI (bt s p) = true) : gapL false (s.data.toList.drop p) = gapL false (s.data.toList.drop (p + 1)) + 1 := by
  obtain ⟨b, e, hn, _⟩ := dropc s p h
  rw [e, gapL, if_neg (by rw [hn]; exact hb), if_neg (by simp), if_pos (by rw [hn]; exact hk)]
theorem gap_slash (s : ByteArray) (p : Nat) (h : p < s.size) (hb : bt s p = 47) (hn2 : p + 1 < s.size) (hb2 : bt s (p + 1) = 47) : gapL false (s.data.toList.drop p) = gapL true (s.data.toList.drop (p + 1)) + 1 := by
  obtain ⟨b, e, hn, _⟩ := dropc s p h
  rw [e, gapL, if_neg (by rw [hn]; omega), if_neg (by simp), if_neg (by rw [hn, hb]; decide), if_pos ⟨by rw [hn]; exact hb, (head_at s (p + 1) 47).2 ⟨hn2, hb2⟩⟩]
theorem gap_stop (s : ByteArray) (p : Nat) (h : p < s.size) (hb : bt s p ≠ 10) (hk : blankI (bt s p) = false) (hn2 : ¬ (bt s p = 47 ∧ p + 1 < s.size ∧ bt s (p + 1) = 47)) : gapL false (s.data.toList.drop p) = 0 := by
  obtain ⟨b, e, hn, _⟩ := dropc s p h
  rw [e, gapL, if_neg (by rw [hn]; exact hb), if_neg (by simp), if_neg (by rw [hn, hk]; simp), if_neg]
  rintro ⟨h1, h2⟩
  exact hn2 ⟨by rw [← hn]; exact h1, (head_at s (p + 1) 47).1 h2⟩
theorem gap_end (s : ByteArray) (c : Bool) (p : Nat) (h : ¬ p < s.size) : gapL c (s.data.toList.drop p) = 0 := by rw [dropz s p h]; rfl
theorem gap_le : ∀ (l : List UInt8) (c : Bool), gapL c l ≤ l.length
  | [], c => Nat.le_refl _
  | b :: t, c => by
    have h1 := gap_le t false
    have h2 := gap_le t true
    rw [gapL]
    split
    · simp; exact h1
    · split
      · simp; exact h2
      · split
        · simp; exact h1
        · split
          · simp; exact h2
          · simp
/-- The rune's tests are the byte's. -/
theorem rune_is (s : ByteArray) (p : Nat) (k : Nat) (hk : k < 128) : (Utf8.decode s p).1 = k ↔ bt s p = k := by
  constructor
  · intro e; rw [← e]; exact (low_iff s p (by omega)).1
  · intro e; rw [low_of s p (by omega)]; exact e
theorem blank_at (s : ByteArray) (p : Nat) : blankI ((Utf8.decode s p).1 : Nat) = blankI (bt s p) := by
  by_cases g : bt s p < 128
  · rw [low_of s p g]
  · have := high_of s p (by omega)
    have e : ∀ x : Nat, 128 ≤ x → blankI (x : Int) = false := by
      intro x hx; simp only [blankI, Bool.or_eq_false_iff, beq_eq_false_iff_ne]; omega
    rw [e _ this, e _ (by omega)]
theorem blank_low (s : ByteArray) (p : Nat) (h : blankI (bt s p) = true) : bt s p < 128 := by
  simp only [blankI, Bool.or_eq_true, beq_iff_eq] at h; omega
theorem pre_slash (s : ByteArray) (p : Nat) : Lib.hasPrefix (s.extract p s.size).data.toList [47, 47] = decide (bt s p = 47 ∧ p + 1 < s.size ∧ bt s (p + 1) = 47) := by
  rw [Bool.eq_iff_iff, drop_extract, Lib.hasPrefix, List.isPrefixOf_iff_prefix, decide_eq_true_iff]
  by_cases h : p < s.size
  · obtain ⟨b, e, hn, _⟩ := dropc s p h
    rw [e, List.cons_prefix_cons]
    by_cases h2 : p + 1 < s.size
    · obtain ⟨b2, e2, hn2, _⟩ := dropc s (p + 1) h2
      rw [e2, List.cons_prefix_cons, ← hn, ← hn2]
      constructor
      · rintro ⟨rfl, rfl, _⟩; exact ⟨rfl, h2, rfl⟩
      · rintro ⟨a, _, c⟩; exact ⟨UInt8.toNat_inj.1 a.symm, UInt8.toNat_inj.1 c.symm, List.nil_prefix⟩
    · rw [dropz s (p + 1) h2]
      constructor
      · rintro ⟨_, h⟩; simp at h
      · rintro ⟨_, h, _⟩; exact absurd h h2
  · rw [dropz s p h]
    constructor
    · intro h; simp at h
    · rintro ⟨_, h2, _⟩; omega

/-! ### Runs of digits, of letters and digits -/
theorem span_step (f : Int → Bool) (s : ByteArray) (p : Nat) (h : p < s.size) : spanL f (s.data.toList.drop p) = if f (bt s p) = true then spanL f (s.data.toList.drop (p + 1)) + 1 else 0 := by
  obtain ⟨b, e, hn, _⟩ := dropc s p h
  rw [spanL, e, List.takeWhile_cons, hn]
  split
  · simp [spanL]
  · rfl
theorem span_end (f : Int → Bool) (s : ByteArray) (p : Nat) (h : ¬ p < s.size) : spanL f (s.data.toList.drop p) = 0 := by rw [dropz s p h]; rfl
theorem span_le (f : Int → Bool) (l : List UInt8) : spanL f l ≤ l.length := by
  unfold spanL; exact (List.takeWhile_prefix _).length_le
theorem digit_at (s : ByteArray) (p : Nat) : digit ((Utf8.decode s p).1 : Nat) = digit (bt s p) := by
  by_cases h : bt s p < 128
  · rw [low_of s p h]
  · have := high_none s p (by omega)
    rw [this.2.2.2.2]
    have h2 := this.2.1
    simp only [alnum, Bool.or_eq_false_iff] at h2
    exact h2.2.2.symm
theorem digit_wid (s : ByteArray) (p : Nat) (h : digit ((Utf8.decode s p).1 : Nat) = true) : (Utf8.decode s p).2 = 1 := by
  refine (alnum_wid s p ?_).1
  simp [alnum, h]

/-! ### Texts -/
theorem tlen_skip (s : ByteArray) : ∀ k p, p + k ≤ s.size → (∀ i, i < k → 128 ≤ bt s (p + i)) → tlenL false (s.data.toList.drop p) p = tlenL false (s.data.toList.drop (p + k)) (p + k)
  | 0, p, _, _ => rfl
  | k + 1, p, h, hk => by
    obtain ⟨b, hb, hn, _⟩ := dropc s p (by omega)
    have h0 := hk 0 (by omega)
    rw [Nat.add_zero] at h0
    rw [hb, tlenL, if_neg (by omega), if_neg (by simp), if_neg (by omega), if_neg (by omega), tlen_skip s k (p + 1) (by omega) (fun i hi => by have := hk (i + 1) (by omega); rwa [show p + 1 + i = p + (i + 1) from by omega]), show p + 1 + k = p + (k + 1) from by omega]
theorem tlen_line (s : ByteArray) (e : Bool) (p n : Nat) (h : p < s.size) (hb : bt s p = 10) : tlenL e (s.data.toList.drop p) n = 0 := by
  obtain ⟨b, hx, hn, _⟩ := dropc s p h
  rw [hx, tlenL, if_pos (by omega)]
theorem tlen_esc (s : ByteArray) (p : Nat) (h : p < s.size) (hb : bt s p ≠ 10) : tlenL true (s.data.toList.drop p) p = tlenL false (s.data.toList.drop (p + (Utf8.decode s p).2)) (p + (Utf8.decode s p).2) := by
  obtain ⟨b, hx, hn, _⟩ := dropc s p h
  rw [hx, tlenL, if_neg (by omega), if_pos rfl]
  by_cases g : bt s p < 128
  · rw [low_of s p g]
  · have hw := wid_pos s p
    have hl := wid_le s p h
    have hh := wid_high s p (by omega)
    have := tlen_skip s ((Utf8.decode s p).2 - 1) (p + 1) (by omega) (fun i hi => by have := hh (i + 1) (by omega); rwa [show p + 1 + i = p + (i + 1) from by omega])
    rw [show p + 1 + ((Utf8.decode s p).2 - 1) = p + (Utf8.decode s p).2 from by omega] at this
    exact this
theorem tlen_back (s : ByteArray) (p : Nat) (h : p < s.size) (hb : bt s p = 92) : tlenL false (s.data.toList.drop p) p = tlenL true (s.data.toList.drop (p + 1)) (p + 1) := by
  obtain ⟨b, hx, hn, _⟩ := dropc s p h
  rw [hx, tlenL, if_neg (by omega), if_neg (by simp), if_pos (by omega)]
theorem tlen_quote (s : ByteArray) (p : Nat) (h : p < s.size) (hb : bt s p = 34) : tlenL false (s.data.toList.drop p) p = p + 1 := by
  obtain ⟨b, hx, hn, _⟩ := dropc s p h
  rw [hx, tlenL, if_neg (by omega), if_neg (by simp), if_neg (by omega), if_pos (by omega)]
theorem tlen_other (s : ByteArray) (p : Nat) (h : p < s.size) (h1 : bt s p ≠ 10) (h2 : bt s p ≠ 92) (h3 : bt s p ≠ 34) : tlenL false (s.data.toList.drop p) p = tlenL false (s.data.toList.drop (p + (Utf8.decode s p).2)) (p + (Utf8.decode s p).2) := by
  by_cases g : bt s p < 128
  · obtain ⟨b, hx, hn, _⟩ := dropc s p h
    rw [low_of s p g, hx, tlenL, if_neg (by omega), if_neg (by simp), if_neg (by omega), if_neg (by omega)]
  · exact tlen_skip s _ p (wid_le s p h) (wid_high s p (by omega))
theorem tlen_end (s : ByteArray) (e : Bool) (p n : Nat) (h : ¬ p < s.size) : tlenL e (s.data.toList.drop p) n = 0 := by rw [dropz s p h]; rfl
theorem text_start (s : ByteArray) (h : 0 < s.size) (hb : bt s 0 = 34) : textLen s.data.toList = tlenL false (s.data.toList.drop 1) 1 := by
  obtain ⟨b, hx, hn, _⟩ := dropc s 0 h
  rw [List.drop_zero] at hx
  have e : textLen (b :: s.data.toList.drop (0 + 1)) = tlenL false (s.data.toList.drop 1) 1 := by rw [textLen, if_pos (by omega)]
  rw [← e, ← hx]
theorem text_none (s : ByteArray) (h : ¬ (0 < s.size ∧ bt s 0 = 34)) : textLen s.data.toList = 0 := by
  by_cases g : 0 < s.size
  · obtain ⟨b, hx, hn, _⟩ := dropc s 0 g
    rw [List.drop_zero] at hx
    rw [hx, textLen, if_neg (by rw [hn]; intro e; exact h ⟨g, e⟩)]
  · have := dropz s 0 g
    rw [List.drop_zero] at this
    rw [this]; rfl
theorem tlen_le : ∀ (l : List UInt8) (e : Bool) (n : Nat), tlenL e l n = 0 ∨ (n < tlenL e l n ∧ tlenL e l n ≤ n + l.length)
  | [], e, n => .inl rfl
  | b :: t, e, n => by
    rw [tlenL, List.length_cons]
    split
    · exact .inl rfl
    · split
      · rcases tlen_le t false (n + 1) with h | h
        · exact .inl h
        · right; omega
      · split
        · rcases tlen_le t true (n + 1) with h | h
          · exact .inl h
          · right; omega
        · split
          · right; omega
          · rcases tlen_le t false (n + 1) with h | h
            · exact .inl h
            · right; omega
theorem text_le (l : List UInt8) : textLen l = 0 ∨ (2 ≤ textLen l ∧ textLen l ≤ l.length) := by
  cases l with
  | nil => exact .inl rfl
  | cons b t =>
    rw [textLen]
    split
    · rcases tlen_le t false 1 with h | h
      · exact .inl h
      · right; rw [List.length_cons]; omega
    · exact .inl rfl
theorem mark_le (l : List UInt8) : markL l ≤ l.length := by
  unfold markL
  split
  · rename_i h
    rw [List.contains_iff_mem] at h
    have e : (l.take 2).length = 2 := by
      have : ∀ x ∈ twos, x.length = 2 := by decide
      exact this _ h
    rw [List.length_take] at e; omega
  · cases l with
    | nil => simp
    | cons b t => simp only []; split <;> simp
theorem first_le (l : List UInt8) : (firstL l).2.2 ≤ l.length := by
  unfold firstL
  have h1 := span_le digit l
  have h2 := span_le alnum l
  have h3 := text_le l
  have h4 := mark_le l
  split
  · exact h1
  · split
    · exact h2
    · split
      · split
        · simp only []; omega
        · simp
      · exact h4

/-! ### Words one behind the other: l begins with a word, or is empty; a: where it stands -/
structure Wd where
  k : Nat
  t : List UInt8
  a : Nat
instance : DecidableEq Wd := fun x y =>
  if h : x.k = y.k ∧ x.t = y.t ∧ x.a = y.a then isTrue (by cases x; cases y; simp_all)
  else isFalse (by rintro rfl; exact h ⟨rfl, rfl, rfl⟩)
def wF : Nat → List UInt8 → Nat → List Wd × Int
  | 0, _, _ => ([], -1)
  | f + 1, l, a =>
    if l = [] then ([], -1)
    else if (firstL l).2.2 = 0 then ([], (a : Int))
    else
      let m := l.drop (firstL l).2.2
      let r := wF f (m.drop (gapL false m)) (a + (firstL l).2.2 + gapL false m)
      (⟨(firstL l).1, (firstL l).2.1, a⟩ :: r.1, r.2)
def wordsL (l : List UInt8) (a : Nat) : List Wd × Int := wF (l.length + 1) l a
def cutL (l : List UInt8) (a : Nat) : List Wd × Int := wordsL (l.drop (gapL false l)) (a + gapL false l)
theorem wF_eq : ∀ (f g : Nat) (l : List UInt8) (a : Nat), l.length < f → l.length < g → wF f l a = wF g l a
  | f + 1, g + 1, l, a, hf, hg => by
    simp only [wF]
    split
    · rfl
    · rename_i hne
      split
      · rfl
      · rename_i hn
        have hl : 0 < l.length := List.length_pos_iff.2 hne
        rw [wF_eq f g _ _ (by simp only [List.length_drop]; omega) (by simp only [List.length_drop]; omega)]
theorem words_nil (a : Nat) : wordsL [] a = ([], -1) := rfl
theorem words_none (l : List UInt8) (a : Nat) (h : l ≠ []) (hn : (firstL l).2.2 = 0) : wordsL l a = ([], (a : Int)) := by
  simp only [wordsL, wF, if_neg h, if_pos hn]
theorem words_step (l : List UInt8) (a : Nat) (h : l ≠ []) (hn : (firstL l).2.2 ≠ 0) :
    wordsL l a = (⟨(firstL l).1, (firstL l).2.1, a⟩ :: (cutL (l.drop (firstL l).2.2) (a + (firstL l).2.2)).1, (cutL (l.drop (firstL l).2.2) (a + (firstL l).2.2)).2) := by
  have hl : 0 < l.length := List.length_pos_iff.2 h
  unfold wordsL cutL wordsL
  rw [wF, if_neg h, if_neg hn]
  simp only []
  rw [wF_eq l.length _ _ _ (by simp only [List.length_drop]; omega) (Nat.lt_succ_self _)]

/-! ### The whole -/
def wrongAt (s : ByteArray) : Int := if 0 ≤ bad s ∧ ((cutL s.data.toList 0).2 < 0 ∨ bad s < (cutL s.data.toList 0).2) then bad s else (cutL s.data.toList 0).2
def allW (s : ByteArray) : List Wd := if 8000 < s.size ∨ 0 ≤ wrongAt s then [] else (cutL s.data.toList 0).1
def allE (s : ByteArray) : Int := if 8000 < s.size then 5 else if 0 ≤ wrongAt s then 2 else 0
def allA (s : ByteArray) : Int := if 8000 < s.size then 0 else if 0 ≤ wrongAt s then wrongAt s else 0
end Go.Proofs.Ytolhanngkackcaa
