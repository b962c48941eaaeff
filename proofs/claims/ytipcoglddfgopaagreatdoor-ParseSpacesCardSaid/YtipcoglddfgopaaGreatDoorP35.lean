/- Parts of the proof: Word, WordA, WordB, WordC, WordD, WordE, WordF, WordG, WordH, WordI, WordJ. -/
import Derived.Test.YtipcoglddfgopaaGreatDoorText
import Derived.Test.YtipcoglddfgopaaGreatDoorP16
import Derived.Test.YtipcoglddfgopaaGreatDoorP0
set_option maxHeartbeats 4000000
set_option maxRecDepth 100000
namespace Go.Proofs.YtipcoglddfgopaaGreatDoor
set_option linter.unusedSimpArgs false
set_option linter.unusedVariables false
section
/-! ### Gaps, runs, texts, signs at the head of a list of bytes -/
def blankI (r : Int) : Bool := r == 32 || (r == 9 || r == 13)
def gapL : Bool → List UInt8 → Nat
 | _, [] => 0
 | c, b :: t =>
   if b.toNat = 10 then gapL false t + 1
   else if c = true then gapL true t + 1
   else if blankI b.toNat = true then gapL false t + 1
   else if b.toNat = 47 ∧ t.head? = some 47 then gapL true t + 1
   else 0
def spanL (f : Int → Bool) (l : List UInt8) : Nat := (l.takeWhile fun b => f (b.toNat : Int)).length
def tlenL : Bool → List UInt8 → Nat → Nat
 | _, [], _ => 0
 | e, b :: t, n => if b.toNat = 10 then 0 else if e = true then tlenL false t (n + 1) else if b.toNat = 92 then tlenL true t (n + 1) else if b.toNat = 34 then n + 1 else tlenL false t (n + 1)
def textLen : List UInt8 → Nat
 | [] => 0
 | b :: t => if b.toNat = 34 then tlenL false t 1 else 0
def twos : List (List UInt8) := [[58, 58], [60, 61], [61, 61], [33, 61], [38, 38], [124, 124]]
def ones : List UInt8 := [123, 125, 40, 41, 59, 44, 46, 61, 60, 43, 45, 42, 47, 37, 33, 35, 64]
def markL (l : List UInt8) : Nat := if twos.contains (l.take 2) = true then 2 else match l with | [] => 0 | b :: _ => if ones.contains b = true then 1 else 0
def inner (l : List UInt8) (n : Nat) : ByteArray := ⟨((l.take (n - 1)).drop 1).toArray⟩
def firstL (l : List UInt8) : Nat × List UInt8 × Nat :=
 if 0 < spanL digit l then (2, l.take (spanL digit l), spanL digit l)
 else if 0 < spanL alnum l then (1, l.take (spanL alnum l), spanL alnum l)
 else if 0 < textLen l then (if plainOk (inner l (textLen l)) = true then (3, plainText (inner l (textLen l)), textLen l) else (0, [], 0))
 else (4, l.take (markL l), markL l)
/-! ### A list of bytes from a place on -/
theorem dropc (s : ByteArray) (p : Nat) (h : p < s.size) : ∃ b : UInt8, s.data.toList.drop p = b :: s.data.toList.drop (p + 1) ∧ b.toNat = bt s p ∧ b = s.get! p := by
 have hl : p < s.data.toList.length := by simpa using h
 refine ⟨s.data.toList[p], List.drop_eq_getElem_cons hl, ?_, ?_⟩
 · rw [← bt_eq s p h]; rfl
 · rw [get_eq s p h]; rfl
theorem dropz (s : ByteArray) (p : Nat) (h : ¬ p < s.size) : s.data.toList.drop p = [] := by
 apply List.drop_of_length_le; simp; omega
theorem get_bt (s : ByteArray) (p : Nat) (b : UInt8) : s.get! p = b ↔ bt s p = b.toNat := by
 unfold bt
 constructor
 · intro h; rw [h]
 · intro h; exact UInt8.toNat_inj.1 h
theorem head_at (s : ByteArray) (p : Nat) (b : UInt8) : (s.data.toList.drop p).head? = some b ↔ p < s.size ∧ bt s p = b.toNat := by
 by_cases h : p < s.size
 · obtain ⟨x, hx, hb, hg⟩ := dropc s p h
   rw [hx, List.head?_cons, Option.some_inj, ← hb, UInt8.toNat_inj]
   exact ⟨fun e => ⟨h, e⟩, fun e => e.2⟩
 · rw [dropz s p h]; simp [h]
theorem wid_high (s : ByteArray) (p : Nat) (h : 128 ≤ bt s p) : ∀ i, i < (Utf8.decode s p).2 → 128 ≤ bt s (p + i) := by
 rcases dcases s p with ⟨k, e⟩ | ⟨k, e⟩ | ⟨k, e⟩ | ⟨k, e⟩ | ⟨_, _, _, _, e⟩
 · omega
 · obtain ⟨h1, h2, h3, h4, h5⟩ := k
   rw [e]; intro i hi
   match i, hi with
   | 0, _ => exact h
   | 1, _ => exact h4
 · obtain ⟨h1, h2, h3, h4, h5, h6, h7, h8, h9⟩ := k
   rw [e]; intro i hi
   match i, hi with
   | 0, _ => exact h
   | 1, _ => exact h4
   | 2, _ => exact h8
 · obtain ⟨h1, h2, h3, h4, h5, h6, h7, h8, h9, h10, h11⟩ := k
   rw [e]; intro i hi
   match i, hi with
   | 0, _ => exact h
   | 1, _ => exact h4
   | 2, _ => exact h8
   | 3, _ => exact h10
 · rw [e]; intro i hi
   match i, hi with
   | 0, _ => exact h
/-! ### Gaps -/
theorem gap_skip (s : ByteArray) : ∀ k p, p + k ≤ s.size → (∀ i, i < k → bt s (p + i) ≠ 10) → gapL true (s.data.toList.drop p) = gapL true (s.data.toList.drop (p + k)) + k
 | 0, p, _, _ => rfl
 | k + 1, p, h, hk => by
   obtain ⟨b, hb, hn, _⟩ := dropc s p (by omega)
   have h0 := hk 0 (by omega)
   rw [hb, gapL, if_neg (by rw [hn]; exact h0), if_pos rfl, gap_skip s k (p + 1) (by omega) (fun i hi => by have := hk (i + 1) (by omega); rwa [show p + 1 + i = p + (i + 1) from by omega]), show p + 1 + k = p + (k + 1) from by omega]
   omega
theorem gap_line (s : ByteArray) (c : Bool) (p : Nat) (h : p < s.size) (hb : bt s p = 10) : gapL c (s.data.toList.drop p) = gapL false (s.data.toList.drop (p + 1)) + 1 := by
 obtain ⟨b, e, hn, _⟩ := dropc s p h
 rw [e, gapL, if_pos (by rw [hn]; exact hb)]
theorem gap_note (s : ByteArray) (p : Nat) (h : p < s.size) (hb : bt s p ≠ 10) : gapL true (s.data.toList.drop p) = gapL true (s.data.toList.drop (p + (Utf8.decode s p).2)) + (Utf8.decode s p).2 := by
 apply gap_skip s _ p (wid_le s p h)
 by_cases g : bt s p < 128
 · rw [low_of s p g]; intro i hi
   have : i = 0 := by simp at hi; exact hi
   subst this; exact hb
 · intro i hi e
   have := wid_high s p (by omega) i hi
   omega
theorem gap_blank (s : ByteArray) (p : Nat) (h : p < s.size) (hb : bt s p ≠ 10) (hk : blankI (bt s p) = true) : gapL false (s.data.toList.drop p) = gapL false (s.data.toList.drop (p + 1)) + 1 := by
 obtain ⟨b, e, hn, _⟩ := dropc s p h
 rw [e, gapL, if_neg (by rw [hn]; exact hb), if_neg (by simp), if_pos (by rw [hn]; exact hk)]
theorem gap_slash (s : ByteArray) (p : Nat) (h : p < s.size) (hb : bt s p = 47) (hn2 : p + 1 < s.size) (hb2 : bt s (p + 1) = 47) : gapL false (s.data.toList.drop p) = gapL true (s.data.toList.drop (p + 1)) + 1 := by
 obtain ⟨b, e, hn, _⟩ := dropc s p h
 rw [e, gapL, if_neg (by rw [hn]; omega), if_neg (by simp), if_neg (by rw [hn, hb]; decide), if_pos ⟨by rw [hn]; exact hb, (head_at s (p + 1) 47).2 ⟨hn2, hb2⟩⟩]
theorem gap_stop (s : ByteArray) (p : Nat) (h : p < s.size) (hb : bt s p ≠ 10) (hk : blankI (bt s p) = false) (hn2 : ¬ (bt s p = 47 ∧ p + 1 < s.size ∧ bt s (p + 1) = 47)) : gapL false (s.data.toList.drop p) = 0 := by
 obtain ⟨b, e, hn, _⟩ := dropc s p h
 rw [e, gapL, if_neg (by rw [hn]; exact hb), if_neg (by simp), if_neg (by rw [hn, hk]; simp), if_neg]
 rintro ⟨h1, h2⟩
 exact hn2 ⟨by rw [← hn]; exact h1, (head_at s (p + 1) 47).1 h2⟩
theorem gap_end (s : ByteArray) (c : Bool) (p : Nat) (h : ¬ p < s.size) : gapL c (s.data.toList.drop p) = 0 := by rw [dropz s p h]; rfl
theorem gap_le : ∀ (l : List UInt8) (c : Bool), gapL c l ≤ l.length
 | [], c => Nat.le_refl _
 | b :: t, c => by
   have h1 := gap_le t false
   have h2 := gap_le t true
   rw [gapL]
   split
   · simp; exact h1
   · split
     · simp; exact h2
     · split
       · simp; exact h1
       · split
         · simp; exact h2
         · simp
theorem rune_is (s : ByteArray) (p : Nat) (k : Nat) (hk : k < 128) : (Utf8.decode s p).1 = k ↔ bt s p = k := by
 constructor
 · intro e; rw [← e]; exact (low_iff s p (by omega)).1
 · intro e; rw [low_of s p (by omega)]; exact e
theorem blank_at (s : ByteArray) (p : Nat) : blankI ((Utf8.decode s p).1 : Nat) = blankI (bt s p) := by
 by_cases g : bt s p < 128
 · rw [low_of s p g]
 · have := high_of s p (by omega)
   have e : ∀ x : Nat, 128 ≤ x → blankI (x : Int) = false := by
     intro x hx; simp only [blankI, Bool.or_eq_false_iff, beq_eq_false_iff_ne]; omega
   rw [e _ this, e _ (by omega)]
theorem blank_low (s : ByteArray) (p : Nat) (h : blankI (bt s p) = true) : bt s p < 128 := by
 simp only [blankI, Bool.or_eq_true, beq_iff_eq] at h; omega
theorem pre_slash (s : ByteArray) (p : Nat) : Lib.hasPrefix (s.extract p s.size).data.toList [47, 47] = decide (bt s p = 47 ∧ p + 1 < s.size ∧ bt s (p + 1) = 47) := by
 rw [Bool.eq_iff_iff, drop_extract, Lib.hasPrefix, List.isPrefixOf_iff_prefix, decide_eq_true_iff]
 by_cases h : p < s.size
 · obtain ⟨b, e, hn, _⟩ := dropc s p h
   rw [e, List.cons_prefix_cons]
   by_cases h2 : p + 1 < s.size
   · obtain ⟨b2, e2, hn2, _⟩ := dropc s (p + 1) h2
     rw [e2, List.cons_prefix_cons, ← hn, ← hn2]
     constructor
     · rintro ⟨rfl, rfl, _⟩; exact ⟨rfl, h2, rfl⟩
     · rintro ⟨a, _, c⟩; exact ⟨UInt8.toNat_inj.1 a.symm, UInt8.toNat_inj.1 c.symm, List.nil_prefix⟩
   · rw [dropz s (p + 1) h2]
     constructor
     · rintro ⟨_, h⟩; simp at h
     · rintro ⟨_, h, _⟩; exact absurd h h2
 · rw [dropz s p h]
   constructor
   · intro h; simp at h
   · rintro ⟨_, h2, _⟩; omega
/-! ### Runs of digits, of letters and digits -/
theorem span_step (f : Int → Bool) (s : ByteArray) (p : Nat) (h : p < s.size) : spanL f (s.data.toList.drop p) = if f (bt s p) = true then spanL f (s.data.toList.drop (p + 1)) + 1 else 0 := by
 obtain ⟨b, e, hn, _⟩ := dropc s p h
 rw [spanL, e, List.takeWhile_cons, hn]
 split
 · simp [spanL]
 · rfl
theorem span_end (f : Int → Bool) (s : ByteArray) (p : Nat) (h : ¬ p < s.size) : spanL f (s.data.toList.drop p) = 0 := by rw [dropz s p h]; rfl
theorem span_le (f : Int → Bool) (l : List UInt8) : spanL f l ≤ l.length := by
 unfold spanL; exact (List.takeWhile_prefix _).length_le
theorem digit_at (s : ByteArray) (p : Nat) : digit ((Utf8.decode s p).1 : Nat) = digit (bt s p) := by
 by_cases h : bt s p < 128
 · rw [low_of s p h]
 · have := high_none s p (by omega)
   rw [this.2.2.2.2]
   have h2 := this.2.1
   simp only [alnum, Bool.or_eq_false_iff] at h2
   exact h2.2.2.symm
theorem digit_wid (s : ByteArray) (p : Nat) (h : digit ((Utf8.decode s p).1 : Nat) = true) : (Utf8.decode s p).2 = 1 := by
 refine (alnum_wid s p ?_).1
 simp [alnum, h]
/-! ### Texts -/
theorem tlen_skip (s : ByteArray) : ∀ k p, p + k ≤ s.size → (∀ i, i < k → 128 ≤ bt s (p + i)) → tlenL false (s.data.toList.drop p) p = tlenL false (s.data.toList.drop (p + k)) (p + k)
 | 0, p, _, _ => rfl
 | k + 1, p, h, hk => by
   obtain ⟨b, hb, hn, _⟩ := dropc s p (by omega)
   have h0 := hk 0 (by omega)
   rw [Nat.add_zero] at h0
   rw [hb, tlenL, if_neg (by omega), if_neg (by simp), if_neg (by omega), if_neg (by omega), tlen_skip s k (p + 1) (by omega) (fun i hi => by have := hk (i + 1) (by omega); rwa [show p + 1 + i = p + (i + 1) from by omega]), show p + 1 + k = p + (k + 1) from by omega]
theorem tlen_line (s : ByteArray) (e : Bool) (p n : Nat) (h : p < s.size) (hb : bt s p = 10) : tlenL e (s.data.toList.drop p) n = 0 := by
 obtain ⟨b, hx, hn, _⟩ := dropc s p h
 rw [hx, tlenL, if_pos (by omega)]
theorem tlen_esc (s : ByteArray) (p : Nat) (h : p < s.size) (hb : bt s p ≠ 10) : tlenL true (s.data.toList.drop p) p = tlenL false (s.data.toList.drop (p + (Utf8.decode s p).2)) (p + (Utf8.decode s p).2) := by
 obtain ⟨b, hx, hn, _⟩ := dropc s p h
 rw [hx, tlenL, if_neg (by omega), if_pos rfl]
 by_cases g : bt s p < 128
 · rw [low_of s p g]
 · have hw := wid_pos s p
   have hl := wid_le s p h
   have hh := wid_high s p (by omega)
   have := tlen_skip s ((Utf8.decode s p).2 - 1) (p + 1) (by omega) (fun i hi => by have := hh (i + 1) (by omega); rwa [show p + 1 + i = p + (i + 1) from by omega])
   rw [show p + 1 + ((Utf8.decode s p).2 - 1) = p + (Utf8.decode s p).2 from by omega] at this
   exact this
theorem tlen_back (s : ByteArray) (p : Nat) (h : p < s.size) (hb : bt s p = 92) : tlenL false (s.data.toList.drop p) p = tlenL true (s.data.toList.drop (p + 1)) (p + 1) := by
 obtain ⟨b, hx, hn, _⟩ := dropc s p h
 rw [hx, tlenL, if_neg (by omega), if_neg (by simp), if_pos (by omega)]
theorem tlen_quote (s : ByteArray) (p : Nat) (h : p < s.size) (hb : bt s p = 34) : tlenL false (s.data.toList.drop p) p = p + 1 := by
 obtain ⟨b, hx, hn, _⟩ := dropc s p h
 rw [hx, tlenL, if_neg (by omega), if_neg (by simp), if_neg (by omega), if_pos (by omega)]
theorem tlen_other (s : ByteArray) (p : Nat) (h : p < s.size) (h1 : bt s p ≠ 10) (h2 : bt s p ≠ 92) (h3 : bt s p ≠ 34) : tlenL false (s.data.toList.drop p) p = tlenL false (s.data.toList.drop (p + (Utf8.decode s p).2)) (p + (Utf8.decode s p).2) := by
 by_cases g : bt s p < 128
 · obtain ⟨b, hx, hn, _⟩ := dropc s p h
   rw [low_of s p g, hx, tlenL, if_neg (by omega), if_neg (by simp), if_neg (by omega), if_neg (by omega)]
 · exact tlen_skip s _ p (wid_le s p h) (wid_high s p (by omega))
theorem tlen_end (s : ByteArray) (e : Bool) (p n : Nat) (h : ¬ p < s.size) : tlenL e (s.data.toList.drop p) n = 0 := by rw [dropz s p h]; rfl
theorem text_start (s : ByteArray) (h : 0 < s.size) (hb : bt s 0 = 34) : textLen s.data.toList = tlenL false (s.data.toList.drop 1) 1 := by
 obtain ⟨b, hx, hn, _⟩ := dropc s 0 h
 rw [List.drop_zero] at hx
 have e : textLen (b :: s.data.toList.drop (0 + 1)) = tlenL false (s.data.toList.drop 1) 1 := by rw [textLen, if_pos (by omega)]
 rw [← e, ← hx]
theorem text_none (s : ByteArray) (h : ¬ (0 < s.size ∧ bt s 0 = 34)) : textLen s.data.toList = 0 := by
 by_cases g : 0 < s.size
 · obtain ⟨b, hx, hn, _⟩ := dropc s 0 g
   rw [List.drop_zero] at hx
   rw [hx, textLen, if_neg (by rw [hn]; intro e; exact h ⟨g, e⟩)]
 · have := dropz s 0 g
   rw [List.drop_zero] at this
   rw [this]; rfl
theorem tlen_le : ∀ (l : List UInt8) (e : Bool) (n : Nat), tlenL e l n = 0 ∨ (n < tlenL e l n ∧ tlenL e l n ≤ n + l.length)
 | [], e, n => .inl rfl
 | b :: t, e, n => by
   rw [tlenL, List.length_cons]
   split
   · exact .inl rfl
   · split
     · rcases tlen_le t false (n + 1) with h | h
       · exact .inl h
       · right; omega
     · split
       · rcases tlen_le t true (n + 1) with h | h
         · exact .inl h
         · right; omega
       · split
         · right; omega
         · rcases tlen_le t false (n + 1) with h | h
           · exact .inl h
           · right; omega
theorem text_le (l : List UInt8) : textLen l = 0 ∨ (2 ≤ textLen l ∧ textLen l ≤ l.length) := by
 cases l with
 | nil => exact .inl rfl
 | cons b t =>
   rw [textLen]
   split
   · rcases tlen_le t false 1 with h | h
     · exact .inl h
     · right; rw [List.length_cons]; omega
   · exact .inl rfl
theorem mark_le (l : List UInt8) : markL l ≤ l.length := by
 unfold markL
 split
 · rename_i h
   rw [List.contains_iff_mem] at h
   have e : (l.take 2).length = 2 := by
     have : ∀ x ∈ twos, x.length = 2 := by decide
     exact this _ h
   rw [List.length_take] at e; omega
 · cases l with
   | nil => simp
   | cons b t => simp only []; split <;> simp
theorem first_le (l : List UInt8) : (firstL l).2.2 ≤ l.length := by
 unfold firstL
 have h1 := span_le digit l
 have h2 := span_le alnum l
 have h3 := text_le l
 have h4 := mark_le l
 split
 · exact h1
 · split
   · exact h2
   · split
     · split
       · simp only []; omega
       · simp
     · exact h4
/-! ### Words one behind the other: l begins with a word, or is empty; a: where it stands -/
structure Wd where
 k : Nat
 t : List UInt8
 a : Nat
instance : DecidableEq Wd := fun x y =>
 if h : x.k = y.k ∧ x.t = y.t ∧ x.a = y.a then isTrue (by cases x; cases y; simp_all)
 else isFalse (by rintro rfl; exact h ⟨rfl, rfl, rfl⟩)
def wF : Nat → List UInt8 → Nat → List Wd × Int
 | 0, _, _ => ([], -1)
 | f + 1, l, a =>
   if l = [] then ([], -1)
   else if (firstL l).2.2 = 0 then ([], (a : Int))
   else
     let m := l.drop (firstL l).2.2
     let r := wF f (m.drop (gapL false m)) (a + (firstL l).2.2 + gapL false m)
     (⟨(firstL l).1, (firstL l).2.1, a⟩ :: r.1, r.2)
def wordsL (l : List UInt8) (a : Nat) : List Wd × Int := wF (l.length + 1) l a
def cutL (l : List UInt8) (a : Nat) : List Wd × Int := wordsL (l.drop (gapL false l)) (a + gapL false l)
theorem wF_eq : ∀ (f g : Nat) (l : List UInt8) (a : Nat), l.length < f → l.length < g → wF f l a = wF g l a
 | f + 1, g + 1, l, a, hf, hg => by
   simp only [wF]
   split
   · rfl
   · rename_i hne
     split
     · rfl
     · rename_i hn
       have hl : 0 < l.length := List.length_pos_iff.2 hne
       rw [wF_eq f g _ _ (by simp only [List.length_drop]; omega) (by simp only [List.length_drop]; omega)]
theorem words_nil (a : Nat) : wordsL [] a = ([], -1) := rfl
theorem words_none (l : List UInt8) (a : Nat) (h : l ≠ []) (hn : (firstL l).2.2 = 0) : wordsL l a = ([], (a : Int)) := by
 simp only [wordsL, wF, if_neg h, if_pos hn]
theorem words_step (l : List UInt8) (a : Nat) (h : l ≠ []) (hn : (firstL l).2.2 ≠ 0) :
   wordsL l a = (⟨(firstL l).1, (firstL l).2.1, a⟩ :: (cutL (l.drop (firstL l).2.2) (a + (firstL l).2.2)).1, (cutL (l.drop (firstL l).2.2) (a + (firstL l).2.2)).2) := by
 have hl : 0 < l.length := List.length_pos_iff.2 h
 unfold wordsL cutL wordsL
 rw [wF, if_neg h, if_neg hn]
 simp only []
 rw [wF_eq l.length _ _ _ (by simp only [List.length_drop]; omega) (Nat.lt_succ_self _)]
/-! ### The whole -/
def wrongAt (s : ByteArray) : Int := if 0 ≤ bad s ∧ ((cutL s.data.toList 0).2 < 0 ∨ bad s < (cutL s.data.toList 0).2) then bad s else (cutL s.data.toList 0).2
def allW (s : ByteArray) : List Wd := if 8000 < s.size ∨ 0 ≤ wrongAt s then [] else (cutL s.data.toList 0).1
def allE (s : ByteArray) : Int := if 8000 < s.size then 5 else if 0 ≤ wrongAt s then 2 else 0
def allA (s : ByteArray) : Int := if 8000 < s.size then 0 else if 0 ≤ wrongAt s then wrongAt s else 0
end
section
open Go.RowKit
theorem blank_any (r : Int) (w : World) : Calls Tryz.prog 80 #[.int .i32 r] w fun e w' => e = .returned (.bool (blankI r)) ∧ w = w' := by
 go_enter Tryz.func80, Tryz.ntmps80
 go_wp2
 all_goals (go_ret; refine ⟨?_, rfl⟩)
 all_goals simp_all [blankI, Bool.or_assoc]
theorem inName_any (r : Int) (w : World) : Calls Tryz.prog 84 #[.int .i32 r] w fun e w' => e = .returned (.bool (alnum r)) ∧ w = w' := by
 have e : alnum r = (small r || (big r || digit r)) := rfl
 go_enter Tryz.func84, Tryz.ntmps84
 rw [e]; clear e
 cases h1 : small r
 · cases h2 : big r
   · go_wp2_with (first | (go_at_call 90; refine (small_any _ _).mono ?_; rintro e w' ⟨rfl, rfl⟩) | (go_at_call 92; refine (big_any _ _).mono ?_; rintro e w' ⟨rfl, rfl⟩) | (go_at_call 82; refine (digit_any _ _).mono ?_; rintro e w' ⟨rfl, rfl⟩))
     go_ret
     exact ⟨by simp, rfl⟩
   · go_wp2_with (first | (go_at_call 90; refine (small_any _ _).mono ?_; rintro e w' ⟨rfl, rfl⟩) | (go_at_call 92; refine (big_any _ _).mono ?_; rintro e w' ⟨rfl, rfl⟩) | (go_at_call 82; refine (digit_any _ _).mono ?_; rintro e w' ⟨rfl, rfl⟩))
     go_ret
     exact ⟨by simp, rfl⟩
 · go_wp2_with (first | (go_at_call 90; refine (small_any _ _).mono ?_; rintro e w' ⟨rfl, rfl⟩) | (go_at_call 92; refine (big_any _ _).mono ?_; rintro e w' ⟨rfl, rfl⟩) | (go_at_call 82; refine (digit_any _ _).mono ?_; rintro e w' ⟨rfl, rfl⟩))
   go_ret
   exact ⟨by simp, rfl⟩
theorem reach_digit (s : ByteArray) (w : World) (hs : s.size ≤ maxLen) : Calls Tryz.prog 81 #[.string s, .func (.func 82) #[] #[]] w fun e w' => e = .returned (.int .i64 (spanL digit s.data.toList : Nat)) ∧ Below w.heap.size w w' := by
 unfold maxLen at hs
 obtain ⟨n, hn⟩ : ∃ n, n = spanL digit s.data.toList := ⟨_, rfl⟩
 rw [← hn]
 have hn0 : n = 0 + spanL digit (s.data.toList.drop 0) := by rw [List.drop_zero]; omega
 clear hn
 have HN := Lib.hid hn0; clear hn0
 go_enter Tryz.func81, Tryz.ntmps81
 go_wp2
 go_loopw [] (fun wr => ∃ p : Nat, wr = w.iter s p ∧ p ≤ s.size ∧ n = p + spanL digit (s.data.toList.drop p)) (fun wr => s.size - wr.iterPos w.heap.size)
 case atStart => exact ⟨0, rfl, Nat.zero_le _, HN.out⟩
 case round =>
   obtain ⟨p, rfl, hp, hb⟩ := hrel
   by_cases hlt : p < s.size
   · have hnx := fun ty => run_next_any (P := Tryz.prog) w s p ty hlt
     have hw := wid_pos s p
     have hwl := wid_le s p hlt
     have hst := span_step digit s p hlt
     cases hd : digit ((Utf8.decode s p).1 : Nat)
     · rw [← digit_at, hd] at hst
       have HB := Lib.hid (show n = p by simp at hst; omega); clear hb hst
       go_wp2_with (go_at_call 82; refine (digit_any _ _).mono ?_; rintro e w' ⟨rfl, rfl⟩)
       go_ret
       exact ⟨by rw [HB.out]; rfl, iter_below w s _⟩
     · have h1 := digit_wid s p hd
       rw [← digit_at, hd] at hst
       have HB := Lib.hid (show n = p + (Utf8.decode s p).2 + spanL digit (s.data.toList.drop (p + (Utf8.decode s p).2)) by rw [h1]; simp at hst; omega); clear hb hst h1
       go_wp2_with (go_at_call 82; refine (digit_any _ _).mono ?_; rintro e w' ⟨rfl, rfl⟩)
       go_roundw
       case rel => exact ⟨p + (Utf8.decode s p).2, rfl, hwl, HB.out⟩
       case measure => simp; omega
   · have hnx := fun ty => run_next_end (P := Tryz.prog) w s p ty hlt
     rw [span_end digit s p hlt] at hb
     have HB := Lib.hid (show n = s.size by omega); clear hb
     go_wp2
     go_ret
     exact ⟨by rw [HB.out]; rfl, iter_below w s p⟩
theorem reach_alnum (s : ByteArray) (w : World) (hs : s.size ≤ maxLen) : Calls Tryz.prog 81 #[.string s, .func (.func 84) #[] #[]] w fun e w' => e = .returned (.int .i64 (spanL alnum s.data.toList : Nat)) ∧ Below w.heap.size w w' := by
 unfold maxLen at hs
 obtain ⟨n, hn⟩ : ∃ n, n = spanL alnum s.data.toList := ⟨_, rfl⟩
 rw [← hn]
 have hn0 : n = 0 + spanL alnum (s.data.toList.drop 0) := by rw [List.drop_zero]; omega
 clear hn
 have HN := Lib.hid hn0; clear hn0
 go_enter Tryz.func81, Tryz.ntmps81
 go_wp2
 go_loopw [] (fun wr => ∃ p : Nat, wr = w.iter s p ∧ p ≤ s.size ∧ n = p + spanL alnum (s.data.toList.drop p)) (fun wr => s.size - wr.iterPos w.heap.size)
 case atStart => exact ⟨0, rfl, Nat.zero_le _, HN.out⟩
 case round =>
   obtain ⟨p, rfl, hp, hb⟩ := hrel
   by_cases hlt : p < s.size
   · have hnx := fun ty => run_next_any (P := Tryz.prog) w s p ty hlt
     have hw := wid_pos s p
     have hwl := wid_le s p hlt
     have hst := span_step alnum s p hlt
     cases hd : alnum ((Utf8.decode s p).1 : Nat)
     · rw [← alnum_at, hd] at hst
       have HB := Lib.hid (show n = p by simp at hst; omega); clear hb hst
       go_wp2_with (go_at_call 84; refine (inName_any _ _).mono ?_; rintro e w' ⟨rfl, rfl⟩)
       go_ret
       exact ⟨by rw [HB.out]; rfl, iter_below w s _⟩
     · have h1 := (alnum_wid s p hd).1
       rw [← alnum_at, hd] at hst
       have HB := Lib.hid (show n = p + (Utf8.decode s p).2 + spanL alnum (s.data.toList.drop (p + (Utf8.decode s p).2)) by rw [h1]; simp at hst; omega); clear hb hst h1
       go_wp2_with (go_at_call 84; refine (inName_any _ _).mono ?_; rintro e w' ⟨rfl, rfl⟩)
       go_roundw
       case rel => exact ⟨p + (Utf8.decode s p).2, rfl, hwl, HB.out⟩
       case measure => simp; omega
   · have hnx := fun ty => run_next_end (P := Tryz.prog) w s p ty hlt
     rw [span_end alnum s p hlt] at hb
     have HB := Lib.hid (show n = s.size by omega); clear hb
     go_wp2
     go_ret
     exact ⟨by rw [HB.out]; rfl, iter_below w s p⟩
theorem cloneW_any (s : ByteArray) (w : World) (hs : s.size ≤ 16777216) : Calls Tryz.prog 83 #[.string s] w fun e w' => e = .returned (.string s) ∧ Below w.heap.size w w' := by
 go_enter Tryz.func83, Tryz.ntmps83
 go_wp2_with (go_at_call 111; refine (Tryz.stringslite_Clone _ _ (by omega)).mono ?_; rintro e w1 ⟨rfl, hb⟩)
 go_ret
 exact ⟨rfl, hb⟩
end
section
open Go.RowKit
theorem gap_any (s : ByteArray) (w : World) (hs : s.size ≤ maxLen) : Calls Tryz.prog 55 #[.string s] w fun e w' => e = .returned (.int .i64 (gapL false s.data.toList : Nat)) ∧ Below w.heap.size w w' := by
 unfold maxLen at hs
 obtain ⟨n, hn⟩ : ∃ n, n = gapL false s.data.toList := ⟨_, rfl⟩
 rw [← hn]
 have hn0 : n = 0 + gapL false (s.data.toList.drop 0) := by rw [List.drop_zero]; omega
 clear hn
 have HN := Lib.hid hn0; clear hn0
 go_enter Tryz.func55, Tryz.ntmps55
 go_wp2
 go_loopw [3] (fun v wr => ∃ (p : Nat) (c : Bool), v = .bool c ∧ wr = w.iter s p ∧ p ≤ s.size ∧ n = p + gapL c (s.data.toList.drop p)) (fun v wr => s.size - wr.iterPos w.heap.size)
 case atStart => exact ⟨0, false, rfl, rfl, Nat.zero_le _, HN.out⟩
 case round =>
   obtain ⟨p, c, rfl, rfl, hp, hb⟩ := hrel
   by_cases hlt : p < s.size
   · have hnx := fun ty => run_next_any (P := Tryz.prog) w s p ty hlt
     have hw := wid_pos s p
     have hwl := wid_le s p hlt
     by_cases h10 : bt s p = 10
     · have e : (Utf8.decode s p).2 = 1 := by rw [low_of s p (by omega)]
       have hF : ((((Utf8.decode s p).1 : Nat) : Int) == 10) = true := by rw [beq_iff_eq, (rune_is s p 10 (by omega)).2 h10]; rfl
       rw [gap_line s c p hlt h10] at hb
       have HB := Lib.hid (show n = p + (Utf8.decode s p).2 + gapL false (s.data.toList.drop (p + (Utf8.decode s p).2)) by rw [e]; omega); clear hb e h10
       go_wp2
       go_roundw
       case rel => exact ⟨p + (Utf8.decode s p).2, false, rfl, rfl, hwl, HB.out⟩
       case measure => simp; omega
     · have hF : ((((Utf8.decode s p).1 : Nat) : Int) == 10) = false := by
         rw [beq_eq_false_iff_ne]; intro e; exact h10 ((rune_is s p 10 (by omega)).1 (by omega))
       cases c
       · cases hk : blankI ((Utf8.decode s p).1 : Nat)
         · rw [blank_at] at hk
           have hpf := pre_slash s p
           by_cases hsl : bt s p = 47 ∧ p + 1 < s.size ∧ bt s (p + 1) = 47
           · rw [decide_eq_true hsl] at hpf
             have Hpf := Lib.hid hpf; clear hpf
             rw [gap_slash s p hlt hsl.1 hsl.2.1 hsl.2.2] at hb
             have e : (Utf8.decode s p).2 = 1 := by rw [low_of s p (by omega)]
             have HB := Lib.hid (show n = p + (Utf8.decode s p).2 + gapL true (s.data.toList.drop (p + (Utf8.decode s p).2)) by rw [e]; omega); clear hb e h10 hsl
             rw [← blank_at] at hk
             go_wp2_with (first | (go_at_call 57; refine (hasPrefix_any _ _ _ _ Hpf.out).mono ?_; rintro e w' ⟨rfl, rfl⟩) | (go_at_call 80; refine (blank_any _ _).mono ?_; rintro e w' ⟨rfl, rfl⟩))
             go_roundw
             case rel => exact ⟨p + (Utf8.decode s p).2, true, rfl, rfl, hwl, HB.out⟩
             case measure => simp; omega
           · rw [decide_eq_false hsl] at hpf
             have Hpf := Lib.hid hpf; clear hpf
             rw [gap_stop s p hlt h10 hk hsl] at hb
             have HB := Lib.hid (show n = p by omega); clear hb h10 hsl
             rw [← blank_at] at hk
             go_wp2_with (first | (go_at_call 57; refine (hasPrefix_any _ _ _ _ Hpf.out).mono ?_; rintro e w' ⟨rfl, rfl⟩) | (go_at_call 80; refine (blank_any _ _).mono ?_; rintro e w' ⟨rfl, rfl⟩))
             go_ret
             exact ⟨by rw [HB.out]; rfl, iter_below w s _⟩
         · rw [blank_at] at hk
           have e : (Utf8.decode s p).2 = 1 := by rw [low_of s p (blank_low s p hk)]
           rw [gap_blank s p hlt h10 hk] at hb
           have HB := Lib.hid (show n = p + (Utf8.decode s p).2 + gapL false (s.data.toList.drop (p + (Utf8.decode s p).2)) by rw [e]; omega); clear hb e h10
           rw [← blank_at] at hk
           go_wp2_with (first | (go_at_call 80; refine (blank_any _ _).mono ?_; rintro e w' ⟨rfl, rfl⟩))
           go_roundw
           case rel => exact ⟨p + (Utf8.decode s p).2, false, rfl, rfl, hwl, HB.out⟩
           case measure => simp; omega
       · rw [gap_note s p hlt h10] at hb
         have HB := Lib.hid (show n = p + (Utf8.decode s p).2 + gapL true (s.data.toList.drop (p + (Utf8.decode s p).2)) by omega); clear hb h10
         go_wp2
         go_roundw
         case rel => exact ⟨p + (Utf8.decode s p).2, true, rfl, rfl, hwl, HB.out⟩
         case measure => simp; omega
   · have hnx := fun ty => run_next_end (P := Tryz.prog) w s p ty hlt
     rw [gap_end s c p hlt] at hb
     have HB := Lib.hid (show n = s.size by omega); clear hb
     go_wp2
     go_ret
     exact ⟨by rw [HB.out]; rfl, iter_below w s p⟩
end
section
open Go.RowKit
theorem tlen_any (s : ByteArray) (w : World) (hs : s.size ≤ 16777216) : Calls Tryz.prog 85 #[.string s] w fun e w' => e = .returned (.int .i64 (textLen s.data.toList : Nat)) ∧ Below w.heap.size w w' := by
 obtain ⟨n, hn⟩ : ∃ n, n = textLen s.data.toList := ⟨_, rfl⟩
 rw [← hn]
 have HN := Lib.hid hn; clear hn
 go_enter Tryz.func85, Tryz.ntmps85
 go_wp2
 go_loopw [3] (fun v wr => ∃ (p : Nat) (c : Bool), v = .bool c ∧ wr = w.iter s p ∧ p ≤ s.size ∧ (p = 0 → c = false) ∧ (0 < p → n = tlenL c (s.data.toList.drop p) p)) (fun v wr => s.size - wr.iterPos w.heap.size)
 case atStart => exact ⟨0, false, rfl, rfl, Nat.zero_le _, fun _ => rfl, fun h => by omega⟩
 case round =>
   obtain ⟨p, c, rfl, rfl, hp, hc, hb⟩ := hrel
   have HB := Lib.hid hb; clear hb
   have HC := Lib.hid hc; clear hc
   by_cases hlt : p < s.size
   · have hnx := fun ty => run_next_any (P := Tryz.prog) w s p ty hlt
     have hw := wid_pos s p
     have hwl := wid_le s p hlt
     rcases Nat.eq_zero_or_pos p with rfl | hpos
     · obtain rfl : c = false := HC.out rfl
       by_cases h34 : bt s 0 = 34
       · have e : (Utf8.decode s 0).2 = 1 := by rw [low_of s 0 (by omega)]
         have hF : ((((Utf8.decode s 0).1 : Nat) : Int) != 34) = false := by rw [bne_eq_false_iff_eq, (rune_is s 0 34 (by omega)).2 h34]; rfl
         have HS := Lib.hid (show n = tlenL false (s.data.toList.drop (0 + (Utf8.decode s 0).2)) (0 + (Utf8.decode s 0).2) by rw [HN.out, e, text_start s hlt h34]); clear e h34
         go_wp2
         go_roundw
         case rel => exact ⟨0 + (Utf8.decode s 0).2, false, rfl, by simp, by omega, fun _ => rfl, fun _ => HS.out⟩
         case measure => simp; omega
       · have hF : ((((Utf8.decode s 0).1 : Nat) : Int) != 34) = true := by
           rw [bne_iff_ne]; intro e; exact h34 ((rune_is s 0 34 (by omega)).1 (by omega))
         have HS := Lib.hid (show n = 0 by rw [HN.out]; exact text_none s (fun h => h34 h.2)); clear h34
         go_wp2
         go_ret
         exact ⟨by rw [HS.out]; rfl, iter_below w s _⟩
     · have hb := HB.out hpos
       have hpb : ((p : Int) == 0) = false := by rw [beq_eq_false_iff_ne]; omega
       by_cases h10 : bt s p = 10
       · have hF : ((((Utf8.decode s p).1 : Nat) : Int) == 10) = true := by rw [beq_iff_eq, (rune_is s p 10 (by omega)).2 h10]; rfl
         have HS := Lib.hid (show n = 0 by rw [hb]; exact tlen_line s c p p hlt h10); clear h10 hb
         go_wp2
         go_ret
         exact ⟨by rw [HS.out]; rfl, iter_below w s _⟩
       · have hF : ((((Utf8.decode s p).1 : Nat) : Int) == 10) = false := by
           rw [beq_eq_false_iff_ne]; intro e; exact h10 ((rune_is s p 10 (by omega)).1 (by omega))
         cases c
         · by_cases h92 : bt s p = 92
           · have e : (Utf8.decode s p).2 = 1 := by rw [low_of s p (by omega)]
             have hF2 : ((((Utf8.decode s p).1 : Nat) : Int) == 92) = true := by rw [beq_iff_eq, (rune_is s p 92 (by omega)).2 h92]; rfl
             have HS := Lib.hid (show n = tlenL true (s.data.toList.drop (p + (Utf8.decode s p).2)) (p + (Utf8.decode s p).2) by rw [hb, e]; exact tlen_back s p hlt h92); clear h10 hb e h92
             go_wp2
             go_roundw
             case rel => exact ⟨p + (Utf8.decode s p).2, true, rfl, rfl, hwl, fun h => by omega, fun _ => HS.out⟩
             case measure => simp; omega
           · have hF2 : ((((Utf8.decode s p).1 : Nat) : Int) == 92) = false := by
               rw [beq_eq_false_iff_ne]; intro e; exact h92 ((rune_is s p 92 (by omega)).1 (by omega))
             by_cases h34 : bt s p = 34
             · have hF3 : ((((Utf8.decode s p).1 : Nat) : Int) == 34) = true := by rw [beq_iff_eq, (rune_is s p 34 (by omega)).2 h34]; rfl
               have HS := Lib.hid (show n = p + 1 by rw [hb]; exact tlen_quote s p hlt h34); clear h10 hb h92 h34
               go_wp2
               go_ret
               exact ⟨by rw [HS.out]; rfl, iter_below w s _⟩
             · have hF3 : ((((Utf8.decode s p).1 : Nat) : Int) == 34) = false := by
                 rw [beq_eq_false_iff_ne]; intro e; exact h34 ((rune_is s p 34 (by omega)).1 (by omega))
               have HS := Lib.hid (show n = tlenL false (s.data.toList.drop (p + (Utf8.decode s p).2)) (p + (Utf8.decode s p).2) by rw [hb]; exact tlen_other s p hlt h10 h92 h34); clear h10 hb h92 h34
               go_wp2
               go_roundw
               case rel => exact ⟨p + (Utf8.decode s p).2, false, rfl, rfl, hwl, fun h => by omega, fun _ => HS.out⟩
               case measure => simp; omega
         · have HS := Lib.hid (show n = tlenL false (s.data.toList.drop (p + (Utf8.decode s p).2)) (p + (Utf8.decode s p).2) by rw [hb]; exact tlen_esc s p hlt h10); clear h10 hb
           go_wp2
           go_roundw
           case rel => exact ⟨p + (Utf8.decode s p).2, false, rfl, rfl, hwl, fun h => by omega, fun _ => HS.out⟩
           case measure => simp; omega
   · have hnx := fun ty => run_next_end (P := Tryz.prog) w s p ty hlt
     have HS := Lib.hid (show n = 0 by
       rcases Nat.eq_zero_or_pos p with rfl | hpos
       · rw [HN.out]; exact text_none s (fun h => hlt h.1)
       · rw [HB.out hpos]; exact tlen_end s c p p hlt)
     go_wp2
     go_ret
     exact ⟨by rw [HS.out]; rfl, iter_below w s p⟩
end
section
open Go.RowKit
theorem take2 (s : ByteArray) : (s.extract 0 (min 2 (s.size : Int)).toNat).toList = s.data.toList.take 2 := by
 rw [Lib.toList_data, extract_list, List.drop_zero, Nat.sub_zero]
 have hl : s.data.toList.length = s.size := by simp
 by_cases h : 2 ≤ s.size
 · rw [show (min 2 (s.size : Int)).toNat = 2 from by omega]
 · rw [show (min 2 (s.size : Int)).toNat = s.size from by omega, List.take_of_length_le (by omega), List.take_of_length_le (by omega)]
theorem take2_eq (s : ByteArray) (x c : List UInt8) (b : Bool) (h : s.data.toList.take 2 = x) (hb : (x == c) = b) : ((s.extract 0 (min 2 (s.size : Int)).toNat).toList == c) = b := by
 rw [take2, h, hb]
theorem take2_ne (s : ByteArray) (c : List UInt8) (hc : c ∈ twos) (h : ¬ s.data.toList.take 2 ∈ twos) : ((s.extract 0 (min 2 (s.size : Int)).toNat).toList == c) = false := by
 rw [take2, beq_eq_false_iff_ne]; intro e; exact h (e ▸ hc)
theorem mark_two (l : List UInt8) (h : l.take 2 ∈ twos) : markL l = 2 := by
 unfold markL; rw [if_pos (by rw [List.contains_iff_mem]; exact h)]
theorem mark_one (s : ByteArray) (h : 0 < s.size) (hn : ¬ s.data.toList.take 2 ∈ twos) : markL s.data.toList = if ones.contains (s.get! 0) = true then 1 else 0 := by
 obtain ⟨b, e, h1, h2⟩ := dropc s 0 h
 rw [List.drop_zero] at e
 unfold markL
 rw [if_neg (by rw [List.contains_iff_mem]; exact hn), e, ← h2]
theorem get_one (s : ByteArray) (k : UInt8) : (s.get! 0 == k) = (((bt s 0 : Nat) : Int) == ((k.toNat : Nat) : Int)) := by
 rw [Bool.eq_iff_iff, beq_iff_eq, beq_iff_eq, get_bt]; omega
theorem ones_in (s : ByteArray) : ones.contains (s.get! 0) = ((((bt s 0 : Nat) : Int) == 123) || ((((bt s 0 : Nat) : Int) == 125) || ((((bt s 0 : Nat) : Int) == 40) || ((((bt s 0 : Nat) : Int) == 41) || ((((bt s 0 : Nat) : Int) == 59) || ((((bt s 0 : Nat) : Int) == 44) || ((((bt s 0 : Nat) : Int) == 46) || ((((bt s 0 : Nat) : Int) == 61) || ((((bt s 0 : Nat) : Int) == 60) || ((((bt s 0 : Nat) : Int) == 43) || ((((bt s 0 : Nat) : Int) == 45) || ((((bt s 0 : Nat) : Int) == 42) || ((((bt s 0 : Nat) : Int) == 47) || ((((bt s 0 : Nat) : Int) == 37) || ((((bt s 0 : Nat) : Int) == 33) || ((((bt s 0 : Nat) : Int) == 35) || ((((bt s 0 : Nat) : Int) == 64)))))))))))))))))) := by
 simp only [ones, List.contains_cons, List.contains_nil, Bool.or_false]
 rw [show (s.get! 0 == 123) = (((bt s 0 : Nat) : Int) == 123) from get_one s 123]
 rw [show (s.get! 0 == 125) = (((bt s 0 : Nat) : Int) == 125) from get_one s 125]
 rw [show (s.get! 0 == 40) = (((bt s 0 : Nat) : Int) == 40) from get_one s 40]
 rw [show (s.get! 0 == 41) = (((bt s 0 : Nat) : Int) == 41) from get_one s 41]
 rw [show (s.get! 0 == 59) = (((bt s 0 : Nat) : Int) == 59) from get_one s 59]
 rw [show (s.get! 0 == 44) = (((bt s 0 : Nat) : Int) == 44) from get_one s 44]
 rw [show (s.get! 0 == 46) = (((bt s 0 : Nat) : Int) == 46) from get_one s 46]
 rw [show (s.get! 0 == 61) = (((bt s 0 : Nat) : Int) == 61) from get_one s 61]
 rw [show (s.get! 0 == 60) = (((bt s 0 : Nat) : Int) == 60) from get_one s 60]
 rw [show (s.get! 0 == 43) = (((bt s 0 : Nat) : Int) == 43) from get_one s 43]
 rw [show (s.get! 0 == 45) = (((bt s 0 : Nat) : Int) == 45) from get_one s 45]
 rw [show (s.get! 0 == 42) = (((bt s 0 : Nat) : Int) == 42) from get_one s 42]
 rw [show (s.get! 0 == 47) = (((bt s 0 : Nat) : Int) == 47) from get_one s 47]
 rw [show (s.get! 0 == 37) = (((bt s 0 : Nat) : Int) == 37) from get_one s 37]
 rw [show (s.get! 0 == 33) = (((bt s 0 : Nat) : Int) == 33) from get_one s 33]
 rw [show (s.get! 0 == 35) = (((bt s 0 : Nat) : Int) == 35) from get_one s 35]
 rw [show (s.get! 0 == 64) = (((bt s 0 : Nat) : Int) == 64) from get_one s 64]
def MarkSaid (s : ByteArray) (w : World) : Prop := Calls Tryz.prog 87 #[.string s] w fun e w' => e = .returned (.int .i64 (markL s.data.toList : Nat)) ∧ w = w'
theorem mark_t0 (s : ByteArray) (w : World) (hs : s.size ≤ 16777216) (h : s.data.toList.take 2 = [58, 58]) : MarkSaid s w := by
 unfold MarkSaid
 have h0 : ¬ s.size = 0 := by
   intro e
   have hl : s.data.toList.length = s.size := by simp
   have := congrArg List.length h
   rw [List.length_take] at this; simp at this; omega
 have hne := ne_nil s h0
 have HM := Lib.hid (mark_two s.data.toList (by rw [h]; decide))
 have f0 := take2_eq s _ [58, 58] true h (by decide)
 have m1 : 0 ≤ min 2 (s.size : Int) := by omega
 have m2 : min 2 (s.size : Int) ≤ s.size := by omega
 clear h
 go_enter Tryz.func87, Tryz.ntmps87
 go_wp2
 go_ret
 exact ⟨by rw [HM.out]; rfl, rfl⟩
theorem mark_t1 (s : ByteArray) (w : World) (hs : s.size ≤ 16777216) (h : s.data.toList.take 2 = [60, 61]) : MarkSaid s w := by
 unfold MarkSaid
 have h0 : ¬ s.size = 0 := by
   intro e
   have hl : s.data.toList.length = s.size := by simp
   have := congrArg List.length h
   rw [List.length_take] at this; simp at this; omega
 have hne := ne_nil s h0
 have HM := Lib.hid (mark_two s.data.toList (by rw [h]; decide))
 have f0 := take2_eq s _ [58, 58] false h (by decide)
 have f1 := take2_eq s _ [60, 61] true h (by decide)
 have m1 : 0 ≤ min 2 (s.size : Int) := by omega
 have m2 : min 2 (s.size : Int) ≤ s.size := by omega
 clear h
 go_enter Tryz.func87, Tryz.ntmps87
 go_wp2
 go_ret
 exact ⟨by rw [HM.out]; rfl, rfl⟩
theorem mark_t2 (s : ByteArray) (w : World) (hs : s.size ≤ 16777216) (h : s.data.toList.take 2 = [61, 61]) : MarkSaid s w := by
 unfold MarkSaid
 have h0 : ¬ s.size = 0 := by
   intro e
   have hl : s.data.toList.length = s.size := by simp
   have := congrArg List.length h
   rw [List.length_take] at this; simp at this; omega
 have hne := ne_nil s h0
 have HM := Lib.hid (mark_two s.data.toList (by rw [h]; decide))
 have f0 := take2_eq s _ [58, 58] false h (by decide)
 have f1 := take2_eq s _ [60, 61] false h (by decide)
 have f2 := take2_eq s _ [61, 61] true h (by decide)
 have m1 : 0 ≤ min 2 (s.size : Int) := by omega
 have m2 : min 2 (s.size : Int) ≤ s.size := by omega
 clear h
 go_enter Tryz.func87, Tryz.ntmps87
 go_wp2
 go_ret
 exact ⟨by rw [HM.out]; rfl, rfl⟩
theorem mark_t3 (s : ByteArray) (w : World) (hs : s.size ≤ 16777216) (h : s.data.toList.take 2 = [33, 61]) : MarkSaid s w := by
 unfold MarkSaid
 have h0 : ¬ s.size = 0 := by
   intro e
   have hl : s.data.toList.length = s.size := by simp
   have := congrArg List.length h
   rw [List.length_take] at this; simp at this; omega
 have hne := ne_nil s h0
 have HM := Lib.hid (mark_two s.data.toList (by rw [h]; decide))
 have f0 := take2_eq s _ [58, 58] false h (by decide)
 have f1 := take2_eq s _ [60, 61] false h (by decide)
 have f2 := take2_eq s _ [61, 61] false h (by decide)
 have f3 := take2_eq s _ [33, 61] true h (by decide)
 have m1 : 0 ≤ min 2 (s.size : Int) := by omega
 have m2 : min 2 (s.size : Int) ≤ s.size := by omega
 clear h
 go_enter Tryz.func87, Tryz.ntmps87
 go_wp2
 go_ret
 exact ⟨by rw [HM.out]; rfl, rfl⟩
theorem mark_t4 (s : ByteArray) (w : World) (hs : s.size ≤ 16777216) (h : s.data.toList.take 2 = [38, 38]) : MarkSaid s w := by
 unfold MarkSaid
 have h0 : ¬ s.size = 0 := by
   intro e
   have hl : s.data.toList.length = s.size := by simp
   have := congrArg List.length h
   rw [List.length_take] at this; simp at this; omega
 have hne := ne_nil s h0
 have HM := Lib.hid (mark_two s.data.toList (by rw [h]; decide))
 have f0 := take2_eq s _ [58, 58] false h (by decide)
 have f1 := take2_eq s _ [60, 61] false h (by decide)
 have f2 := take2_eq s _ [61, 61] false h (by decide)
 have f3 := take2_eq s _ [33, 61] false h (by decide)
 have f4 := take2_eq s _ [38, 38] true h (by decide)
 have m1 : 0 ≤ min 2 (s.size : Int) := by omega
 have m2 : min 2 (s.size : Int) ≤ s.size := by omega
 clear h
 go_enter Tryz.func87, Tryz.ntmps87
 go_wp2
 go_ret
 exact ⟨by rw [HM.out]; rfl, rfl⟩
theorem mark_t5 (s : ByteArray) (w : World) (hs : s.size ≤ 16777216) (h : s.data.toList.take 2 = [124, 124]) : MarkSaid s w := by
 unfold MarkSaid
 have h0 : ¬ s.size = 0 := by
   intro e
   have hl : s.data.toList.length = s.size := by simp
   have := congrArg List.length h
   rw [List.length_take] at this; simp at this; omega
 have hne := ne_nil s h0
 have HM := Lib.hid (mark_two s.data.toList (by rw [h]; decide))
 have f0 := take2_eq s _ [58, 58] false h (by decide)
 have f1 := take2_eq s _ [60, 61] false h (by decide)
 have f2 := take2_eq s _ [61, 61] false h (by decide)
 have f3 := take2_eq s _ [33, 61] false h (by decide)
 have f4 := take2_eq s _ [38, 38] false h (by decide)
 have f5 := take2_eq s _ [124, 124] true h (by decide)
 have m1 : 0 ≤ min 2 (s.size : Int) := by omega
 have m2 : min 2 (s.size : Int) ≤ s.size := by omega
 clear h
 go_enter Tryz.func87, Tryz.ntmps87
 go_wp2
 go_ret
 exact ⟨by rw [HM.out]; rfl, rfl⟩
theorem mark_n (s : ByteArray) (w : World) (hs : s.size ≤ 16777216) (h0 : ¬ s.size = 0) (h : ¬ s.data.toList.take 2 ∈ twos) : MarkSaid s w := by
 unfold MarkSaid
 have hne := ne_nil s h0
 have hbt := bt_eq s 0 (by omega)
 have hlt := bt_lt s 0
 have HM := Lib.hid (mark_one s (by omega) h)
 have f0 := take2_ne s [58, 58] (by decide) h
 have f1 := take2_ne s [60, 61] (by decide) h
 have f2 := take2_ne s [61, 61] (by decide) h
 have f3 := take2_ne s [33, 61] (by decide) h
 have f4 := take2_ne s [38, 38] (by decide) h
 have f5 := take2_ne s [124, 124] (by decide) h
 have m1 : 0 ≤ min 2 (s.size : Int) := by omega
 have m2 : min 2 (s.size : Int) ≤ s.size := by omega
 have m3 : 0 < s.size := by omega
 clear h
 go_enter Tryz.func87, Tryz.ntmps87
 go_wp2
 all_goals (go_ret; refine ⟨?_, rfl⟩; rw [HM.out, ones_in]; clear HM f0 f1 f2 f3 f4 f5)
 all_goals first | (simp_all only [Bool.true_or, Bool.or_true, Bool.false_or, if_true, Bool.false_eq_true, if_false]; done) | (simp_all; done)
theorem mark_any (s : ByteArray) (w : World) (hs : s.size ≤ 16777216) : Calls Tryz.prog 87 #[.string s] w fun e w' => e = .returned (.int .i64 (markL s.data.toList : Nat)) ∧ w = w' := by
 by_cases h0 : s.size = 0
 · obtain rfl := size0 s h0
   go_enter Tryz.func87, Tryz.ntmps87
   go_wp2
   go_ret
   exact ⟨rfl, rfl⟩
 · by_cases h : s.data.toList.take 2 ∈ twos
   · have h' := h
     simp only [twos, List.mem_cons, List.not_mem_nil, or_false] at h'
     rcases h' with h' | h' | h' | h' | h' | h'
     · exact mark_t0 s w hs h'
     · exact mark_t1 s w hs h'
     · exact mark_t2 s w hs h'
     · exact mark_t3 s w hs h'
     · exact mark_t4 s w hs h'
     · exact mark_t5 s w hs h'
   · exact mark_n s w hs h0 h
end
section
open Go.RowKit
theorem Bx.get3 {w : World} {b : Nat} {x y z : Value} {T : TypeId} (h : Bx w b #[x, y, z] T) : w.cell? ⟨b, 0, none⟩ = some x ∧ w.cell? ⟨b, 1, none⟩ = some y ∧ w.cell? ⟨b, 2, none⟩ = some z ∧ ∀ o, w.frozen? ⟨b, o, none⟩ = false := by
 refine ⟨cell_of_row w b 0 _ T (0, 0) h, cell_of_row w b 1 _ T (0, 0) h, cell_of_row w b 2 _ T (0, 0) h, fun o => ?_⟩
 unfold Bx at h
 simp [World.frozen?, h]
theorem below3 {B : Nat} {w w2 : World} (h : Below B w w2) {b : Nat} (hb : B ≤ b) (x y z : Value) : Below B w (((w2.setCell ⟨b, 0, none⟩ x).setCell ⟨b, 1, none⟩ y).setCell ⟨b, 2, none⟩ z) :=
 ((h.setCell hb x).setCell hb y).setCell hb z
def FirstSaid (s : ByteArray) (w : World) : Prop := Calls Tryz.prog 56 #[.string s] w fun e w' => e = .returned (.tuple #[.agg #[.int .i64 ((firstL s.data.toList).1 : Nat), .string ⟨(firstL s.data.toList).2.1.toArray⟩, .int .i64 0], .int .i64 ((firstL s.data.toList).2.2 : Nat)]) ∧ Below w.heap.size w w'
theorem ba_is (s : ByteArray) (l : List UInt8) (h : s.data.toList = l) : s = ⟨l.toArray⟩ := by
 cases s with | mk d => subst h; simp
theorem take_ba (s : ByteArray) (n : Nat) : s.extract 0 n = ⟨(s.data.toList.take n).toArray⟩ := by
 apply ba_is; rw [extract_list, List.drop_zero, Nat.sub_zero]
theorem first_digits (s : ByteArray) (w : World) (hs : s.size ≤ 16777216) (h : 0 < spanL digit s.data.toList) : FirstSaid s w := by
 unfold FirstSaid
 have hle := span_le digit s.data.toList
 have hF : firstL s.data.toList = (2, s.data.toList.take (spanL digit s.data.toList), spanL digit s.data.toList) := by rw [firstL, if_pos h]
 obtain ⟨n, hn⟩ : ∃ n, n = spanL digit s.data.toList := ⟨_, rfl⟩
 have HD : Hid (∀ w, Calls Tryz.prog 81 #[.string s, .func (.func 82) #[] #[]] w fun e w' => e = .returned (.int .i64 (n : Nat)) ∧ Below w.heap.size w w') := by
   show ∀ w, _
   intro w; have := reach_digit s w (by unfold maxLen; omega); rw [← hn] at this; exact this
 rw [← hn] at hF h hle
 have hle' : n ≤ s.size := by simpa using hle
 have HF := Lib.hid hF; clear hF hn hle
 have ht := take_ba s n
 have HX := Lib.hid ht; clear ht
 go_enter Tryz.func56, Tryz.ntmps56
 go_wp2_with (first
   | (go_at_call 81; refine (HD.out _).mono ?_; clear HD; rintro e w1 ⟨rfl, hb⟩; have hx := (Bx.new w #[.int .i64 0, .string ⟨#[]⟩, .int .i64 0] 70).next hb; have hB := below_box hb; clear hb)
   | (go_at_call 83; refine (cloneW_any _ _ (by simp; omega)).mono ?_; rintro e w1 ⟨rfl, hb⟩; replace hx := hx.next hb; replace hB := hB.trans (hb.mono hB.size); clear hb; obtain ⟨c0, c1, c2, c3⟩ := hx.get3))
 refine bodyPost_ret (v := .tuple #[.agg #[.int .i64 2, .string (s.extract 0 n), .int .i64 0], .int .i64 n]) (by simp [results, Tryz.results56, go_sem, c0, c1, c2, c3]) rfl ⟨?_, below3 hB (Nat.le_refl _) _ _ _⟩
 rw [HF.out, HX.out]; rfl
theorem first_name (s : ByteArray) (w : World) (hs : s.size ≤ 16777216) (h0 : spanL digit s.data.toList = 0) (h : 0 < spanL alnum s.data.toList) : FirstSaid s w := by
 unfold FirstSaid
 have hle := span_le alnum s.data.toList
 have hF : firstL s.data.toList = (1, s.data.toList.take (spanL alnum s.data.toList), spanL alnum s.data.toList) := by rw [firstL, if_neg (by omega), if_pos h]
 obtain ⟨n, hn⟩ : ∃ n, n = spanL alnum s.data.toList := ⟨_, rfl⟩
 have HD : Hid (∀ w, Calls Tryz.prog 81 #[.string s, .func (.func 82) #[] #[]] w fun e w' => e = .returned (.int .i64 0) ∧ Below w.heap.size w w') := by
   show ∀ w, _
   intro w; have := reach_digit s w (by unfold maxLen; omega); rw [h0] at this; exact this
 have HA : Hid (∀ w, Calls Tryz.prog 81 #[.string s, .func (.func 84) #[] #[]] w fun e w' => e = .returned (.int .i64 (n : Nat)) ∧ Below w.heap.size w w') := by
   show ∀ w, _
   intro w; have := reach_alnum s w (by unfold maxLen; omega); rw [← hn] at this; exact this
 rw [← hn] at hF h hle
 have hle' : n ≤ s.size := by simpa using hle
 have HF := Lib.hid hF; clear hF hn hle h0
 have ht := take_ba s n
 have HX := Lib.hid ht; clear ht
 go_enter Tryz.func56, Tryz.ntmps56
 go_wp2_with (first
   | (go_at_call 81; refine (HD.out _).mono ?_; clear HD; rintro e w1 ⟨rfl, hb⟩; have hx := (Bx.new w #[.int .i64 0, .string ⟨#[]⟩, .int .i64 0] 70).next hb; have hB := below_box hb; clear hb)
   | (go_at_call 81; refine (HA.out _).mono ?_; clear HA; rintro e w1 ⟨rfl, hb⟩; replace hx := hx.next hb; replace hB := hB.trans (hb.mono hB.size); clear hb)
   | (go_at_call 83; refine (cloneW_any _ _ (by simp; omega)).mono ?_; rintro e w1 ⟨rfl, hb⟩; replace hx := hx.next hb; replace hB := hB.trans (hb.mono hB.size); clear hb; obtain ⟨c0, c1, c2, c3⟩ := hx.get3))
 refine bodyPost_ret (v := .tuple #[.agg #[.int .i64 1, .string (s.extract 0 n), .int .i64 0], .int .i64 n]) (by simp [results, Tryz.results56, go_sem, c0, c1, c2, c3]) rfl ⟨?_, below3 hB (Nat.le_refl _) _ _ _⟩
 rw [HF.out, HX.out]; rfl
theorem inner_is (s : ByteArray) (n : Nat) (h : n ≤ s.size) : s.extract 1 (n - 1) = inner s.data.toList n := by
 apply ba_is; rw [extract_list, List.drop_take]
theorem first_text (s : ByteArray) (w : World) (hs : s.size ≤ 16777216) (h0 : spanL digit s.data.toList = 0) (h1 : spanL alnum s.data.toList = 0) (h : 0 < textLen s.data.toList) (hp : plainOk (inner s.data.toList (textLen s.data.toList)) = true) : FirstSaid s w := by
 unfold FirstSaid
 have hle := text_le s.data.toList
 have hl : s.data.toList.length = s.size := by simp
 have hF : firstL s.data.toList = (3, plainText (inner s.data.toList (textLen s.data.toList)), textLen s.data.toList) := by rw [firstL, if_neg (by omega), if_neg (by omega), if_pos h, if_pos hp]
 obtain ⟨n, hn⟩ : ∃ n, n = textLen s.data.toList := ⟨_, rfl⟩
 have HD : Hid (∀ w, Calls Tryz.prog 81 #[.string s, .func (.func 82) #[] #[]] w fun e w' => e = .returned (.int .i64 0) ∧ Below w.heap.size w w') := by
   show ∀ w, _
   intro w; have := reach_digit s w (by unfold maxLen; omega); rw [h0] at this; exact this
 have HA : Hid (∀ w, Calls Tryz.prog 81 #[.string s, .func (.func 84) #[] #[]] w fun e w' => e = .returned (.int .i64 0) ∧ Below w.heap.size w w') := by
   show ∀ w, _
   intro w; have := reach_alnum s w (by unfold maxLen; omega); rw [h1] at this; exact this
 have HT : Hid (∀ w, Calls Tryz.prog 85 #[.string s] w fun e w' => e = .returned (.int .i64 (n : Nat)) ∧ Below w.heap.size w w') := by
   show ∀ w, _
   intro w; have := tlen_any s w hs; rw [← hn] at this; exact this
 (try rw [← hn] at hF)
 rw [← hn] at h hle hp
 have hn2 : 2 ≤ n := by omega
 have hle' : n ≤ s.size := by omega
 have hin := inner_is s n hle'
 obtain ⟨t, ht⟩ : ∃ t : ByteArray, t = ⟨(plainText (inner s.data.toList n)).toArray⟩ := ⟨_, rfl⟩
 have HP : Hid (∀ w, Calls Tryz.prog 86 #[.string (s.extract 1 (n - 1))] w fun e w' => e = .returned (.tuple #[.string t, .bool true]) ∧ Below w.heap.size w w') := by
   show ∀ w, _
   intro w
   have := plain_any (s.extract 1 (n - 1)) w (by simp; omega)
   rw [hin, hp, ← ht, ← hin] at this
   exact this
 have HF := Lib.hid hF; clear hF hn hle h0 h1 hin hp
 have HX := Lib.hid ht; clear ht
 have hsl : ∀ w : World, (Instr.slice 9 (.string s) (some (.int .i64 1)) (some (.int .i64 ((n : Int) - 1))) none).run Tryz.prog w = .ok (.string (s.extract 1 (n - 1))) w := by
   intro w
   have := run_slice_string (P := Tryz.prog) (w := w) 9 s .i64 .i64 1 ((n : Int) - 1) Tryz.underlying9 (by omega) (by omega) (by omega)
   rw [show ((n : Int) - 1).toNat = n - 1 from by omega] at this
   exact this
 go_enter Tryz.func56, Tryz.ntmps56
 go_wp2_with (first
   | (go_at_call 81; refine (HD.out _).mono ?_; clear HD; rintro e w1 ⟨rfl, hb⟩; have hx := (Bx.new w #[.int .i64 0, .string ⟨#[]⟩, .int .i64 0] 70).next hb; have hB := below_box hb; clear hb)
   | (go_at_call 81; refine (HA.out _).mono ?_; clear HA; rintro e w1 ⟨rfl, hb⟩; replace hx := hx.next hb; replace hB := hB.trans (hb.mono hB.size); clear hb)
   | (go_at_call 85; refine (HT.out _).mono ?_; clear HT; rintro e w1 ⟨rfl, hb⟩; replace hx := hx.next hb; replace hB := hB.trans (hb.mono hB.size); clear hb)
   | (go_at_call 86; refine (HP.out _).mono ?_; clear HP; rintro e w1 ⟨rfl, hb⟩; replace hx := hx.next hb; replace hB := hB.trans (hb.mono hB.size); clear hb; obtain ⟨c0, c1, c2, c3⟩ := hx.get3))
 refine bodyPost_ret (v := .tuple #[.agg #[.int .i64 3, .string t, .int .i64 0], .int .i64 n]) (by simp [results, Tryz.results56, go_sem, c0, c1, c2, c3]) rfl ⟨?_, below3 hB (Nat.le_refl _) _ _ _⟩
 rw [HF.out, HX.out]; rfl
theorem first_bad (s : ByteArray) (w : World) (hs : s.size ≤ 16777216) (h0 : spanL digit s.data.toList = 0) (h1 : spanL alnum s.data.toList = 0) (h : 0 < textLen s.data.toList) (hp : plainOk (inner s.data.toList (textLen s.data.toList)) = false) : FirstSaid s w := by
 unfold FirstSaid
 have hle := text_le s.data.toList
 have hl : s.data.toList.length = s.size := by simp
 have hF : firstL s.data.toList = (0, [], 0) := by rw [firstL, if_neg (by omega), if_neg (by omega), if_pos h, if_neg (by rw [hp]; simp)]
 obtain ⟨n, hn⟩ : ∃ n, n = textLen s.data.toList := ⟨_, rfl⟩
 have HD : Hid (∀ w, Calls Tryz.prog 81 #[.string s, .func (.func 82) #[] #[]] w fun e w' => e = .returned (.int .i64 0) ∧ Below w.heap.size w w') := by
   show ∀ w, _
   intro w; have := reach_digit s w (by unfold maxLen; omega); rw [h0] at this; exact this
 have HA : Hid (∀ w, Calls Tryz.prog 81 #[.string s, .func (.func 84) #[] #[]] w fun e w' => e = .returned (.int .i64 0) ∧ Below w.heap.size w w') := by
   show ∀ w, _
   intro w; have := reach_alnum s w (by unfold maxLen; omega); rw [h1] at this; exact this
 have HT : Hid (∀ w, Calls Tryz.prog 85 #[.string s] w fun e w' => e = .returned (.int .i64 (n : Nat)) ∧ Below w.heap.size w w') := by
   show ∀ w, _
   intro w; have := tlen_any s w hs; rw [← hn] at this; exact this
 (try rw [← hn] at hF)
 rw [← hn] at h hle hp
 have hn2 : 2 ≤ n := by omega
 have hle' : n ≤ s.size := by omega
 have hin := inner_is s n hle'
 obtain ⟨t, ht⟩ : ∃ t : ByteArray, t = ⟨(plainText (inner s.data.toList n)).toArray⟩ := ⟨_, rfl⟩
 have HP : Hid (∀ w, Calls Tryz.prog 86 #[.string (s.extract 1 (n - 1))] w fun e w' => e = .returned (.tuple #[.string t, .bool false]) ∧ Below w.heap.size w w') := by
   show ∀ w, _
   intro w
   have := plain_any (s.extract 1 (n - 1)) w (by simp; omega)
   rw [hin, hp, ← ht, ← hin] at this
   exact this
 have HF := Lib.hid hF; clear hF hn hle h0 h1 hin hp
 have HX := Lib.hid ht; clear ht
 have hsl : ∀ w : World, (Instr.slice 9 (.string s) (some (.int .i64 1)) (some (.int .i64 ((n : Int) - 1))) none).run Tryz.prog w = .ok (.string (s.extract 1 (n - 1))) w := by
   intro w
   have := run_slice_string (P := Tryz.prog) (w := w) 9 s .i64 .i64 1 ((n : Int) - 1) Tryz.underlying9 (by omega) (by omega) (by omega)
   rw [show ((n : Int) - 1).toNat = n - 1 from by omega] at this
   exact this
 go_enter Tryz.func56, Tryz.ntmps56
 go_wp2_with (first
   | (go_at_call 81; refine (HD.out _).mono ?_; clear HD; rintro e w1 ⟨rfl, hb⟩; have hx := (Bx.new w #[.int .i64 0, .string ⟨#[]⟩, .int .i64 0] 70).next hb; have hB := below_box hb; clear hb)
   | (go_at_call 81; refine (HA.out _).mono ?_; clear HA; rintro e w1 ⟨rfl, hb⟩; replace hx := hx.next hb; replace hB := hB.trans (hb.mono hB.size); clear hb)
   | (go_at_call 85; refine (HT.out _).mono ?_; clear HT; rintro e w1 ⟨rfl, hb⟩; replace hx := hx.next hb; replace hB := hB.trans (hb.mono hB.size); clear hb)
   | (go_at_call 86; refine (HP.out _).mono ?_; clear HP; rintro e w1 ⟨rfl, hb⟩; replace hx := hx.next hb; replace hB := hB.trans (hb.mono hB.size); clear hb; obtain ⟨c0, c1, c2, c3⟩ := hx.get3))
 refine bodyPost_ret (v := .tuple #[.agg #[.int .i64 0, .string ⟨#[]⟩, .int .i64 0], .int .i64 0]) (by simp [results, Tryz.results56, go_sem, c0, c1, c2, c3]) rfl ⟨?_, below3 hB (Nat.le_refl _) _ _ _⟩
 rw [HF.out]; rfl
theorem first_mark (s : ByteArray) (w : World) (hs : s.size ≤ 16777216) (h0 : spanL digit s.data.toList = 0) (h1 : spanL alnum s.data.toList = 0) (h2 : textLen s.data.toList = 0) : FirstSaid s w := by
 unfold FirstSaid
 have hle := mark_le s.data.toList
 have hF : firstL s.data.toList = (4, s.data.toList.take (markL s.data.toList), markL s.data.toList) := by rw [firstL, if_neg (by omega), if_neg (by omega), if_neg (by omega)]
 obtain ⟨n, hn⟩ : ∃ n, n = markL s.data.toList := ⟨_, rfl⟩
 have HD : Hid (∀ w, Calls Tryz.prog 81 #[.string s, .func (.func 82) #[] #[]] w fun e w' => e = .returned (.int .i64 0) ∧ Below w.heap.size w w') := by
   show ∀ w, _
   intro w; have := reach_digit s w (by unfold maxLen; omega); rw [h0] at this; exact this
 have HA : Hid (∀ w, Calls Tryz.prog 81 #[.string s, .func (.func 84) #[] #[]] w fun e w' => e = .returned (.int .i64 0) ∧ Below w.heap.size w w') := by
   show ∀ w, _
   intro w; have := reach_alnum s w (by unfold maxLen; omega); rw [h1] at this; exact this
 have HT : Hid (∀ w, Calls Tryz.prog 85 #[.string s] w fun e w' => e = .returned (.int .i64 0) ∧ Below w.heap.size w w') := by
   show ∀ w, _
   intro w; have := tlen_any s w hs; rw [h2] at this; exact this
 have HM : Hid (∀ w, Calls Tryz.prog 87 #[.string s] w fun e w' => e = .returned (.int .i64 (n : Nat)) ∧ w = w') := by
   show ∀ w, _
   intro w; have := mark_any s w hs; rw [← hn] at this; exact this
 rw [← hn] at hF hle
 have hle' : n ≤ s.size := by simpa using hle
 have HF := Lib.hid hF; clear hF hn hle h0 h1 h2
 have ht := take_ba s n
 have HX := Lib.hid ht; clear ht
 go_enter Tryz.func56, Tryz.ntmps56
 go_wp2_with (first
   | (go_at_call 81; refine (HD.out _).mono ?_; clear HD; rintro e w1 ⟨rfl, hb⟩; have hx := (Bx.new w #[.int .i64 0, .string ⟨#[]⟩, .int .i64 0] 70).next hb; have hB := below_box hb; clear hb)
   | (go_at_call 81; refine (HA.out _).mono ?_; clear HA; rintro e w1 ⟨rfl, hb⟩; replace hx := hx.next hb; replace hB := hB.trans (hb.mono hB.size); clear hb)
   | (go_at_call 85; refine (HT.out _).mono ?_; clear HT; rintro e w1 ⟨rfl, hb⟩; replace hx := hx.next hb; replace hB := hB.trans (hb.mono hB.size); clear hb)
   | (go_at_call 87; refine (HM.out _).mono ?_; clear HM; rintro e w1 ⟨rfl, rfl⟩)
   | (go_at_call 83; refine (cloneW_any _ _ (by simp; omega)).mono ?_; rintro e w1 ⟨rfl, hb⟩; replace hx := hx.next hb; replace hB := hB.trans (hb.mono hB.size); clear hb; obtain ⟨c0, c1, c2, c3⟩ := hx.get3))
 refine bodyPost_ret (v := .tuple #[.agg #[.int .i64 4, .string (s.extract 0 n), .int .i64 0], .int .i64 n]) (by simp [results, Tryz.results56, go_sem, c0, c1, c2, c3]) rfl ⟨?_, below3 hB (Nat.le_refl _) _ _ _⟩
 rw [HF.out, HX.out]; rfl
theorem first_any (s : ByteArray) (w : World) (hs : s.size ≤ 16777216) : FirstSaid s w := by
 by_cases h0 : 0 < spanL digit s.data.toList
 · exact first_digits s w hs h0
 by_cases h1 : 0 < spanL alnum s.data.toList
 · exact first_name s w hs (by omega) h1
 by_cases h2 : 0 < textLen s.data.toList
 · cases hp : plainOk (inner s.data.toList (textLen s.data.toList))
   · exact first_bad s w hs (by omega) (by omega) h2 hp
   · exact first_text s w hs (by omega) (by omega) h2 hp
 · exact first_mark s w hs (by omega) (by omega) (by omega)
end
section
open Go.RowKit
def wcells (x : Wd) : List Value := [.int .i64 x.k, .string ⟨x.t.toArray⟩, .int .i64 x.a]
def cellsW (l : List Wd) : List Value := l.flatMap wcells
theorem cellsW_snoc (l : List Wd) (x : Wd) : cellsW (l ++ [x]) = cellsW l ++ wcells x := by simp [cellsW]
theorem below_own {B : Nat} {w a b : World} {base e size n : Nat} {v : Value} {xs : List Value} (h : Below B w a) (ho : a.ownsRow base e size v n xs) (hg : a.grownBy b v.ownBlock) (hB : B ≤ a.heap.size) (hb : B ≤ base) : Below B w b :=
 h.grown hg hB fun k hk => Nat.le_trans hb (ho.lt k hk).1
theorem Tryz.infoWord : (Tryz.prog.info? 70).map (fun i => (i.zero, i.size, i.bytes)) = some (some (.agg #[.int .i64 0, .string ⟨#[]⟩, .int .i64 0]), 3, 32) := by kernel_rfl
def CutSaid (s : ByteArray) (w : World) (e : Ending) (w' : World) : Prop := ∃ v : Value, e = .returned (.tuple #[v, .int .i64 (cutL s.data.toList 0).2]) ∧ w'.ownsRow w.heap.size 70 3 v (cutL s.data.toList 0).1.length (cellsW (cutL s.data.toList 0).1) ∧ Below w.heap.size w w'
theorem drop_ne (s : ByteArray) (p : Nat) (h : p < s.size) : s.data.toList.drop p ≠ [] := by
 obtain ⟨b, e, _⟩ := dropc s p h; rw [e]; simp
theorem cut_more (s : ByteArray) (p : Nat) (acc : List Wd) (h : p < s.size) (hc : cutL s.data.toList 0 = (acc ++ (wordsL (s.data.toList.drop p) p).1, (wordsL (s.data.toList.drop p) p).2)) (k n g : Nat) (t : List UInt8)
   (hf : firstL (s.data.toList.drop p) = (k, t, n)) (hn : n ≠ 0) (hg : gapL false (s.data.toList.drop (p + n)) = g) :
   cutL s.data.toList 0 = ((acc ++ [⟨k, t, p⟩]) ++ (wordsL (s.data.toList.drop (p + n + g)) (p + n + g)).1, (wordsL (s.data.toList.drop (p + n + g)) (p + n + g)).2) := by
 rw [hc, words_step _ p (drop_ne s p h) (by rw [hf]; exact hn), hf]
 simp only [List.drop_drop, cutL]
 rw [hg]; simp
theorem cut_stop (s : ByteArray) (p : Nat) (acc : List Wd) (h : p < s.size) (hc : cutL s.data.toList 0 = (acc ++ (wordsL (s.data.toList.drop p) p).1, (wordsL (s.data.toList.drop p) p).2)) (hn : (firstL (s.data.toList.drop p)).2.2 = 0) :
   cutL s.data.toList 0 = (acc, (p : Int)) := by
 rw [hc, words_none _ p (drop_ne s p h) hn]; simp
theorem cut_end (s : ByteArray) (p : Nat) (acc : List Wd) (h : ¬ p < s.size) (hc : cutL s.data.toList 0 = (acc ++ (wordsL (s.data.toList.drop p) p).1, (wordsL (s.data.toList.drop p) p).2)) :
   cutL s.data.toList 0 = (acc, -1) := by
 rw [hc, dropz s p h, words_nil]; simp
theorem cut_start (s : ByteArray) (g : Nat) (hg : gapL false s.data.toList = g) : cutL s.data.toList 0 = ([] ++ (wordsL (s.data.toList.drop g) g).1, (wordsL (s.data.toList.drop g) g).2) := by
 rw [cutL, hg]; simp
theorem cut_said {s : ByteArray} {w W : World} {v : Value} {acc : List Wd} {r : Int} (h : cutL s.data.toList 0 = (acc, r)) (ho : W.ownsRow w.heap.size 70 3 v acc.length (cellsW acc)) (hb : Below w.heap.size w W) :
   CutSaid s w (.returned (.tuple #[v, .int .i64 r])) W := ⟨v, by rw [h], by rw [h]; exact ho, hb⟩
theorem new_cells (w : World) (T : TypeId) (o : Obj) (x y z : Value) : ∀ (j : Nat) (u : Value), [x, y, z][j]? = some u → ((w.alloc o).alloc (.cells #[x, y, z] T)).cell? ((⟨w.heap.size + 1, 0, none⟩ : Addr).add j) = some u := by
 intro j u hj
 have hx : Bx ((w.alloc o).alloc (.cells #[x, y, z] T)) (w.heap.size + 1) #[x, y, z] T := by
   have := Bx.new (w.alloc o) #[x, y, z] T; simpa using this
 obtain ⟨c0, c1, c2, _⟩ := hx.get3
 match j, hj with
 | 0, hj => simp at hj; subst hj; exact c0
 | 1, hj => simp at hj; subst hj; exact c1
 | 2, hj => simp at hj; subst hj; exact c2
theorem three_one (k : Int) (t : ByteArray) (a : Int) : ∀ u ∈ [Value.int .i64 k, .string t, .int .i64 a], u.oneCell' = true := by
 intro u hu
 simp only [List.mem_cons, List.not_mem_nil, or_false] at hu
 rcases hu with rfl | rfl | rfl <;> rfl
theorem cut_any (s : ByteArray) (w : World) (hs : s.size ≤ 16777216) : Calls Tryz.prog 33 #[.string s] w (CutSaid s w) := by
 obtain ⟨g0, hg0⟩ : ∃ g, gapL false s.data.toList = g := ⟨_, rfl⟩
 have hg1 : g0 ≤ s.size := by have := gap_le s.data.toList false; simp at this; omega
 have H0 := Lib.hid (cut_start s g0 hg0)
 have HG0 : Hid (∀ w, Calls Tryz.prog 55 #[.string s] w fun e w' => e = .returned (.int .i64 (g0 : Nat)) ∧ Below w.heap.size w w') := by
   show ∀ w, _
   intro w; have := gap_any s w (by unfold maxLen; omega); rw [hg0] at this; exact this
 clear hg0
 obtain ⟨i0, hi, hz0, hz1, hz2⟩ := info_parts Tryz.infoWord
 go_enter Tryz.func33, Tryz.ntmps33
 go_wp2_with (go_at_call 55; refine (HG0.out _).mono ?_; clear HG0; rintro e w1 ⟨rfl, hb1⟩)
 go_loopw [4, 5] (fun v4 v5 wr => ∃ (p : Nat) (acc : List Wd), v5 = .int .i64 p ∧ p ≤ s.size ∧ wr.ownsRow w.heap.size 70 3 v4 acc.length (cellsW acc) ∧ Below w.heap.size w wr ∧ acc.length ≤ p ∧ cutL s.data.toList 0 = (acc ++ (wordsL (s.data.toList.drop p) p).1, (wordsL (s.data.toList.drop p) p).2)) (fun v4 v5 wr => s.size - (intOf v5).toNat)
 case atStart => exact ⟨g0, [], rfl, hg1, World.ownsRow_nil _ _ _ _, hb1, Nat.zero_le _, H0.out⟩
 case round =>
   obtain ⟨p, acc, rfl, hp, hown, hbw, hal, hc⟩ := hrel
   clear H0 hb1
   by_cases hlt : p < s.size
   · obtain ⟨k, t, n, hf⟩ : ∃ k t n, firstL (s.data.toList.drop p) = (k, t, n) := ⟨_, _, _, rfl⟩
     have hnl : p + n ≤ s.size := by
       have := first_le (s.data.toList.drop p); rw [hf] at this; simp at this; omega
     have hdx : (s.extract p s.size).data.toList = s.data.toList.drop p := drop_extract s p
     obtain ⟨tb, htb⟩ : ∃ tb : ByteArray, tb = ⟨t.toArray⟩ := ⟨_, rfl⟩
     have HF : Hid (∀ w, Calls Tryz.prog 56 #[.string (s.extract p s.size)] w fun e w' => e = .returned (.tuple #[.agg #[.int .i64 (k : Nat), .string tb, .int .i64 0], .int .i64 (n : Nat)]) ∧ Below w.heap.size w w') := by
       show ∀ w, _
       intro w
       have := first_any (s.extract p s.size) w (by simp; omega)
       unfold FirstSaid at this
       rw [hdx, hf, ← htb] at this
       exact this
     have hsz := hbw.size
     have hps : (p : Int) ≤ s.size := by omega
     by_cases hn : n = 0
     · subst hn
       have HS := Lib.hid (cut_stop s p acc hlt hc (by rw [hf])); clear hc hf hdx htb
       go_wp2_with (go_at_call 56; refine (HF.out _).mono ?_; clear HF; rintro e w2 ⟨rfl, hb2⟩)
       go_ret2
       exact cut_said HS.out ((own_next hown hb2).alloc _) ((hbw.trans (hb2.mono hsz)).alloc (Nat.le_trans hsz hb2.size) _)
     · have hnb : ((n : Int) == 0) = false := by rw [beq_eq_false_iff_ne]; omega
       obtain ⟨g, hg⟩ : ∃ g, gapL false (s.data.toList.drop (p + n)) = g := ⟨_, rfl⟩
       have hgl : p + n + g ≤ s.size := by have := gap_le (s.data.toList.drop (p + n)) false; rw [hg] at this; simp at this; omega
       have HS := Lib.hid (cut_more s p acc hlt hc k n g t hf hn hg)
       have HG : Hid (∀ w, Calls Tryz.prog 55 #[.string (s.extract (p + n) s.size)] w fun e w' => e = .returned (.int .i64 (g : Nat)) ∧ Below w.heap.size w w') := by
         show ∀ w, _
         intro w
         have := gap_any (s.extract (p + n) s.size) w (by unfold maxLen; simp; omega)
         rw [drop_extract s (p + n), hg] at this
         exact this
       have hpos : 0 < n := by omega
       have HTB := Lib.hid htb
       clear hc hf hdx htb hg hn
       go_wp2_with (first | (go_at_call 56; refine (HF.out _).mono ?_; clear HF; rintro e w2 ⟨rfl, hb2⟩) | (at_builtin; refine wpList_append_own _ rfl (.tmp 33) (.tmp 35) 66 rfl w.heap.size 70 i0 _ 3 32 Tryz.underlying66 hi hz0 hz1 hz2 rfl (by decide) _ _ _ rfl (((own_next hown hb2).alloc _).alloc _) ⟨w2.heap.size + 1, 0, none⟩ 1 1 [.int .i64 k, .string tb, .int .i64 p] rfl rfl ?c1 ?c2 ?c3 ?c4 ?c5 ?_))
       case c1 => exact new_cells w2 _ _ _ _ _
       case c2 => exact three_one _ _ _
       case c3 => unfold maxLen; omega
       case c4 => omega
       case c5 => have := hb2.size; simp; omega
       · intro v' w3 hown3 hgrow _
         have hB3 : Below w.heap.size w w3 := below_own ((((hbw.trans (hb2.mono hsz)).alloc (Nat.le_trans hsz hb2.size) _).alloc (by have := hb2.size; simp; omega) _)) (((own_next hown hb2).alloc _).alloc _) hgrow (by have := hb2.size; simp; omega) (Nat.le_refl _)
         have hO3 : w3.ownsRow w.heap.size 70 3 v' (acc ++ [(⟨k, t, p⟩ : Wd)]).length (cellsW (acc ++ [(⟨k, t, p⟩ : Wd)])) := by
           rw [cellsW_snoc, List.length_append]; rw [HTB.out] at hown3; exact hown3
         have hal3 : (acc ++ [(⟨k, t, p⟩ : Wd)]).length ≤ p + n := by simp; omega
         clear hown3 hgrow hb2 hbw hown
         have h1 : ((p : Int) + (n : Int)).toNat = p + n := by omega
         have h2 : 0 ≤ (p : Int) + (n : Int) := by omega
         have h3 : (p : Int) + (n : Int) ≤ s.size := by omega
         go_wp2_with (go_at_call 55; refine (HG.out _).mono ?_; clear HG; rintro e w4 ⟨rfl, hb4⟩)
         have hsz3 := hB3.size
         go_roundw
         case rel => exact ⟨p + n + g, _, by go_num, hgl, own_next hO3 hb4, hB3.trans (hb4.mono hsz3), by omega, HS.out⟩
         case measure => simp [intOf]; omega
   · have HS := Lib.hid (cut_end s p acc hlt hc); clear hc
     go_wp2
     go_ret2
     exact cut_said HS.out hown hbw
def AllSaid (s : ByteArray) (w : World) (e : Ending) (w' : World) : Prop := ∃ v : Value, e = .returned (.tuple #[v, .int .i64 (allE s), .int .i64 (allA s)]) ∧ w'.ownsRow w.heap.size 70 3 v (allW s).length (cellsW (allW s)) ∧ Below w.heap.size w w'
theorem all_said {s : ByteArray} {w W : World} {v : Value} {ws : List Wd} {x a : Int} (h1 : allW s = ws) (h2 : allE s = x) (h3 : allA s = a) (ho : W.ownsRow w.heap.size 70 3 v ws.length (cellsW ws)) (hb : Below w.heap.size w W) :
   AllSaid s w (.returned (.tuple #[v, .int .i64 x, .int .i64 a])) W := ⟨v, by rw [h2, h3], by rw [h1]; exact ho, hb⟩
theorem all_long (s : ByteArray) (h : 8000 < s.size) : allW s = [] ∧ allE s = 5 ∧ allA s = 0 := by
 unfold allW allE allA; rw [if_pos (.inl h), if_pos h, if_pos h]; exact ⟨rfl, rfl, rfl⟩
theorem all_wrong (s : ByteArray) (h : ¬ 8000 < s.size) (x : Int) (hx : wrongAt s = x) (h0 : 0 ≤ x) : allW s = [] ∧ allE s = 2 ∧ allA s = x := by
 unfold allW allE allA; rw [hx, if_pos (.inr h0), if_neg h, if_neg h, if_pos h0, if_pos h0]; exact ⟨rfl, rfl, rfl⟩
theorem all_right (s : ByteArray) (h : ¬ 8000 < s.size) (x : Int) (hx : wrongAt s = x) (h0 : ¬ 0 ≤ x) : allW s = (cutL s.data.toList 0).1 ∧ allE s = 0 ∧ allA s = 0 := by
 unfold allW allE allA; rw [hx, if_neg (by rintro (g | g); exact h g; exact h0 g), if_neg h, if_neg h, if_neg h0, if_neg h0]; exact ⟨rfl, rfl, rfl⟩
theorem all_any (s : ByteArray) (w : World) (hs : s.size ≤ maxLen) : Calls Tryz.prog 24 #[.string s] w (AllSaid s w) := by
 unfold maxLen at hs
 by_cases h8 : 8000 < s.size
 · have h8' : (8000 : Int) < s.size := by omega
   obtain ⟨a1, a2, a3⟩ := all_long s h8
   have A1 := Lib.hid a1; have A2 := Lib.hid a2; have A3 := Lib.hid a3; clear a1 a2 a3
   go_enter Tryz.func24, Tryz.ntmps24
   go_wp2
   refine bodyPost_ret (v := .tuple #[.slice none 0 0, .int .i64 5, .int .i64 0]) (by simp [results, Tryz.results24, go_sem]) rfl ?_
   exact all_said A1.out A2.out A3.out (World.ownsRow_nil _ _ _ _) (Below.refl _ _)
 · have h8' : (s.size : Int) ≤ 8000 := by omega
   obtain ⟨ws, c, hcut⟩ : ∃ ws c, cutL s.data.toList 0 = (ws, c) := ⟨_, _, rfl⟩
   obtain ⟨b, hb⟩ : ∃ b, bad s = b := ⟨_, rfl⟩
   have HC : Hid (∀ w, Calls Tryz.prog 33 #[.string s] w fun e w' => ∃ v : Value, e = .returned (.tuple #[v, .int .i64 c]) ∧ w'.ownsRow w.heap.size 70 3 v ws.length (cellsW ws) ∧ Below w.heap.size w w') := by
     show ∀ w, _
     intro w; have := cut_any s w (by omega); unfold CutSaid at this; rw [hcut] at this; exact this
   have HB : Hid (∀ w, Calls Tryz.prog 34 #[.string s] w fun e w' => e = .returned (.int .i64 b) ∧ Below w.heap.size w w') := by
     show ∀ w, _
     intro w; have := bad_any s w (by unfold maxLen; omega); rw [hb] at this; exact this
   have hw : wrongAt s = if 0 ≤ b ∧ (c < 0 ∨ b < c) then b else c := by unfold wrongAt; rw [hcut, hb]
   have H8 := Lib.hid h8
   have HW : Hid ((cutL s.data.toList 0).1 = ws) := by show (cutL s.data.toList 0).1 = ws; rw [hcut]
   clear hcut hb h8
   go_enter Tryz.func24, Tryz.ntmps24
   by_cases hb0 : 0 ≤ b
   · by_cases hx : c < 0 ∨ b < c
     · rw [if_pos ⟨hb0, hx⟩] at hw
       obtain ⟨a1, a2, a3⟩ := all_wrong s H8.out b hw hb0
       have A1 := Lib.hid a1; have A2 := Lib.hid a2; have A3 := Lib.hid a3; clear a1 a2 a3 hw
       rcases Int.lt_or_le c 0 with hc | hc
       · clear hx
         go_wp2_with (first | (go_at_call 33; refine (HC.out _).mono ?_; clear HC; rintro e w1 ⟨v, rfl, ho, hb1⟩) | (go_at_call 34; refine (HB.out _).mono ?_; clear HB; rintro e w2 ⟨rfl, hb2⟩))
         refine bodyPost_ret (v := .tuple #[.slice none 0 0, .int .i64 2, .int .i64 b]) (by simp [results, Tryz.results24, go_sem]) rfl ?_
         exact all_said A1.out A2.out A3.out (World.ownsRow_nil _ _ _ _) (hb1.trans (hb2.mono hb1.size))
       · have hx' : b < c := by rcases hx with h | h; omega; exact h
         clear hx
         go_wp2_with (first | (go_at_call 33; refine (HC.out _).mono ?_; clear HC; rintro e w1 ⟨v, rfl, ho, hb1⟩) | (go_at_call 34; refine (HB.out _).mono ?_; clear HB; rintro e w2 ⟨rfl, hb2⟩))
         refine bodyPost_ret (v := .tuple #[.slice none 0 0, .int .i64 2, .int .i64 b]) (by simp [results, Tryz.results24, go_sem]) rfl ?_
         exact all_said A1.out A2.out A3.out (World.ownsRow_nil _ _ _ _) (hb1.trans (hb2.mono hb1.size))
     · have hc : 0 ≤ c := by omega
       have hbc : c ≤ b := by omega
       rw [if_neg (fun h => hx h.2)] at hw
       obtain ⟨a1, a2, a3⟩ := all_wrong s H8.out c hw hc
       have A1 := Lib.hid a1; have A2 := Lib.hid a2; have A3 := Lib.hid a3; clear a1 a2 a3 hw hx
       go_wp2_with (first | (go_at_call 33; refine (HC.out _).mono ?_; clear HC; rintro e w1 ⟨v, rfl, ho, hb1⟩) | (go_at_call 34; refine (HB.out _).mono ?_; clear HB; rintro e w2 ⟨rfl, hb2⟩))
       refine bodyPost_ret (v := .tuple #[.slice none 0 0, .int .i64 2, .int .i64 c]) (by simp [results, Tryz.results24, go_sem]) rfl ?_
       exact all_said A1.out A2.out A3.out (World.ownsRow_nil _ _ _ _) (hb1.trans (hb2.mono hb1.size))
   · rw [if_neg (fun h => hb0 h.1)] at hw
     have hb0' : b < 0 := by omega
     by_cases hc : 0 ≤ c
     · obtain ⟨a1, a2, a3⟩ := all_wrong s H8.out c hw hc
       have A1 := Lib.hid a1; have A2 := Lib.hid a2; have A3 := Lib.hid a3; clear a1 a2 a3 hw hb0
       go_wp2_with (first | (go_at_call 33; refine (HC.out _).mono ?_; clear HC; rintro e w1 ⟨v, rfl, ho, hb1⟩) | (go_at_call 34; refine (HB.out _).mono ?_; clear HB; rintro e w2 ⟨rfl, hb2⟩))
       refine bodyPost_ret (v := .tuple #[.slice none 0 0, .int .i64 2, .int .i64 c]) (by simp [results, Tryz.results24, go_sem]) rfl ?_
       exact all_said A1.out A2.out A3.out (World.ownsRow_nil _ _ _ _) (hb1.trans (hb2.mono hb1.size))
     · obtain ⟨a1, a2, a3⟩ := all_right s H8.out c hw hc
       have A1 := Lib.hid a1; have A2 := Lib.hid a2; have A3 := Lib.hid a3; clear a1 a2 a3 hw hb0
       have hc' : c < 0 := by omega
       clear hc
       go_wp2_with (first | (go_at_call 33; refine (HC.out _).mono ?_; clear HC; rintro e w1 ⟨v, rfl, ho, hb1⟩) | (go_at_call 34; refine (HB.out _).mono ?_; clear HB; rintro e w2 ⟨rfl, hb2⟩))
       refine bodyPost_ret (v := .tuple #[v, .int .i64 0, .int .i64 0]) (by simp [results, Tryz.results24, go_sem]) rfl ?_
       exact all_said (A1.out.trans HW.out) A2.out A3.out (own_next ho hb2) (hb1.trans (hb2.mono hb1.size))
end
section
theorem words_ind (Q : List UInt8 → Nat → List Wd × Int → Prop)
   (h0 : ∀ a, Q [] a ([], -1))
   (h1 : ∀ l a, l ≠ [] → (firstL l).2.2 = 0 → Q l a ([], (a : Int)))
   (h2 : ∀ l a, l ≠ [] → (firstL l).2.2 ≠ 0 → Q ((l.drop (firstL l).2.2).drop (gapL false (l.drop (firstL l).2.2))) (a + (firstL l).2.2 + gapL false (l.drop (firstL l).2.2)) (cutL (l.drop (firstL l).2.2) (a + (firstL l).2.2)) →
     Q l a (⟨(firstL l).1, (firstL l).2.1, a⟩ :: (cutL (l.drop (firstL l).2.2) (a + (firstL l).2.2)).1, (cutL (l.drop (firstL l).2.2) (a + (firstL l).2.2)).2)) :
   ∀ (n : Nat) (l : List UInt8) (a : Nat), l.length ≤ n → Q l a (wordsL l a)
 | 0, l, a, h => by
   have : l = [] := List.eq_nil_of_length_eq_zero (by omega)
   subst this
   rw [words_nil]; exact h0 a
 | n + 1, l, a, h => by
   by_cases hl : l = []
   · subst hl; rw [words_nil]; exact h0 a
   · by_cases hn : (firstL l).2.2 = 0
     · rw [words_none l a hl hn]; exact h1 l a hl hn
     · rw [words_step l a hl hn]
       have hp : 0 < l.length := List.length_pos_iff.2 hl
       exact h2 l a hl hn (words_ind Q h0 h1 h2 n _ _ (by simp only [List.length_drop]; omega))
/-! ### Words one behind the other -/
def chain (s : ByteArray) : Nat → List Wd → Prop
 | _, [] => True
 | e, x :: t => e ≤ x.a ∧ x.a < s.size ∧ 1 ≤ x.k ∧ x.k ≤ 4 ∧ ((x.k = 3 ∧ bt s x.a = 34 ∧ chain s (x.a + 1) t) ∨ (x.k ≠ 3 ∧ x.t ≠ [] ∧ x.a + x.t.length ≤ s.size ∧ sub s x.a x.t.length = x.t ∧ chain s (x.a + x.t.length) t))
theorem chain_less (s : ByteArray) (e f : Nat) (h : e ≤ f) : ∀ l, chain s f l → chain s e l
 | [], _ => trivial
 | x :: t, ⟨h1, h2⟩ => ⟨Nat.le_trans h h1, h2⟩
theorem text_quote (l : List UInt8) (h : 0 < textLen l) : l.head? = some 34 := by
 cases l with
 | nil => simp [textLen] at h
 | cons b t =>
   rw [textLen] at h
   split at h
   · rename_i hb
     rw [List.head?_cons, Option.some_inj]; exact UInt8.toNat_inj.1 hb
   · omega
theorem first_kind (l : List UInt8) (h : (firstL l).2.2 ≠ 0) :
   1 ≤ (firstL l).1 ∧ (firstL l).1 ≤ 4 ∧ (((firstL l).1 = 3 ∧ l.head? = some 34 ∧ 2 ≤ (firstL l).2.2) ∨ ((firstL l).1 ≠ 3 ∧ (firstL l).2.1 = l.take (firstL l).2.2)) := by
 unfold firstL at *
 have h3 := text_le l
 by_cases a1 : 0 < spanL digit l
 · rw [if_pos a1]; exact ⟨by simp, by simp, .inr ⟨by simp, rfl⟩⟩
 · rw [if_neg a1] at h ⊢
   by_cases a2 : 0 < spanL alnum l
   · rw [if_pos a2]; exact ⟨by simp, by simp, .inr ⟨by simp, rfl⟩⟩
   · rw [if_neg a2] at h ⊢
     by_cases a3 : 0 < textLen l
     · rw [if_pos a3] at h ⊢
       split at h
       · rename_i hp
         rw [if_pos hp]; exact ⟨by simp, by simp, .inl ⟨rfl, text_quote l a3, by simp only []; omega⟩⟩
       · simp at h
     · rw [if_neg a3]; exact ⟨by simp, by simp, .inr ⟨by simp, rfl⟩⟩
theorem words_chain (s : ByteArray) (p : Nat) : chain s p (wordsL (s.data.toList.drop p) p).1 := by
 refine words_ind (fun l a r => l = s.data.toList.drop a → chain s a r.1) (fun a _ => trivial) (fun l a _ _ _ => trivial) ?_ _ (s.data.toList.drop p) p (Nat.le_refl _) rfl
 intro l a hl hn ih hd
 have hs : s.data.toList.length = s.size := by simp
 have hle := first_le l
 have hp : 0 < l.length := List.length_pos_iff.2 hl
 have hll : l.length = s.size - a := by rw [hd, List.length_drop, hs]
 obtain ⟨k1, k2, k3⟩ := first_kind l hn
 have ih2 := ih (by rw [hd]; simp only [List.drop_drop])
 refine ⟨Nat.le_refl _, by simp only []; omega, k1, k2, ?_⟩
 rcases k3 with ⟨e, hh, hb⟩ | ⟨e, ht⟩
 · left
   refine ⟨e, ?_, chain_less s _ _ ?_ _ ih2⟩
   · rw [hd, head_at] at hh; exact hh.2
   · simp only []; omega
 · right
   have htl : (firstL l).2.1.length = (firstL l).2.2 := by rw [ht, List.length_take]; omega
   simp only []
   refine ⟨e, ?_, by omega, ?_, chain_less s _ _ (by rw [htl]; omega) _ ih2⟩
   · intro e0; rw [e0] at htl; simp at htl; omega
   · rw [htl]; rw [ht, hd]; rfl
theorem all_chain (s : ByteArray) : chain s 0 (allW s) := by
 unfold allW
 split
 · trivial
 · exact chain_less s 0 _ (Nat.zero_le _) _ (by rw [cutL, Nat.zero_add]; exact words_chain s _)
theorem all_len (s : ByteArray) : (allW s).length ≤ s.size := by
 have key : ∀ (l : List Wd) (e : Nat), e ≤ s.size → chain s e l → l.length + e ≤ s.size := by
   intro l
   induction l with
   | nil => intro e he _; simpa using he
   | cons x t ih =>
     intro e he h
     obtain ⟨h1, h2, _, _, h3⟩ := h
     rcases h3 with ⟨_, _, h4⟩ | ⟨_, h0, h5, _, h4⟩
     · have := ih _ (by omega) h4
       simp only [List.length_cons]; omega
     · have := ih _ (by omega) h4
       have : 0 < x.t.length := List.length_pos_iff.2 h0
       simp only [List.length_cons]; omega
 have := key _ 0 (Nat.zero_le _) (all_chain s)
 omega
end
section
def B (l : List UInt8) : ByteArray := ⟨l.toArray⟩
theorem B_size (l : List UInt8) : (B l).size = l.length := by simp [B, ByteArray.size]
theorem btB (l : List UInt8) (i : Nat) (h : i < l.length) : bt (B l) i = l[i].toNat := by
 have := get_list l i l[i] (List.getElem?_eq_getElem h); exact this
theorem btB_mid (P S R : List UInt8) (i : Nat) (h : i < S.length) : bt (B (P ++ (S ++ R))) (P.length + i) = bt (B S) i := by
 rw [btB _ _ (by simp; omega), btB _ _ h]
 congr 1
 rw [List.getElem_append_right (by omega)]
 simp only [Nat.add_sub_cancel_left]
 rw [List.getElem_append_left h]
theorem btB_end (P S R : List UInt8) (b : UInt8) (h : R.head? = some b) : bt (B (P ++ (S ++ R))) (P.length + S.length) = b.toNat := by
 cases R with
 | nil => simp at h
 | cons x t =>
   simp at h; subst h
   rw [btB _ _ (by simp)]
   congr 1
   rw [List.getElem_append_right (by omega)]
   simp
def low (R : List UInt8) : Prop := ∀ b, R.head? = some b → b.toNat < 128
theorem dec_mid (P S R : List UInt8) (hR : low R) (p : Nat) (h : p < S.length) : Utf8.decode (B (P ++ (S ++ R))) (P.length + p) = Utf8.decode (B S) p := by
 have hz : (B (P ++ (S ++ R))).size - (P.length + p) = S.length - p + R.length := by rw [B_size]; simp; omega
 have hzS : (B S).size = S.length := B_size S
 have b0 := btB_mid P S R p h
 have nx : ∀ i, p + i < S.length → bt (B (P ++ (S ++ R))) (P.length + p + i) = bt (B S) (p + i) := fun i hi => by
   rw [Nat.add_assoc]; exact btB_mid P S R (p + i) hi
 have ed : ∀ i, p + i = S.length → 0 < R.length → bt (B (P ++ (S ++ R))) (P.length + p + i) < 128 := by
   intro i hi hr
   cases hR' : R.head? with
   | none => rw [List.head?_eq_none_iff] at hR'; subst hR'; simp at hr
   | some b =>
     rw [show P.length + p + i = P.length + S.length from by omega, btB_end P S R b hR']
     exact hR b hR'
 rcases dcases (B S) p with ⟨k, e⟩ | ⟨k, e⟩ | ⟨k, e⟩ | ⟨k, e⟩ | ⟨k0, k2, k3, k4, e⟩
 · rw [e, low_of _ _ (by omega), b0]
 · obtain ⟨h1, h2, h3, h4, h5⟩ := k
   have n1 := nx 1 (by omega)
   rw [e, decode_bt, dec2 _ _ _ _ _ ⟨by omega, by omega, by omega, by omega, by omega⟩, b0, n1]
 · obtain ⟨h1, h2, h3, h4, h5, h6, h7, h8, h9⟩ := k
   have n1 := nx 1 (by omega)
   have n2 := nx 2 (by omega)
   rw [e, decode_bt, dec3 _ _ _ _ _ ⟨by omega, by omega, by omega, by omega, by omega, by omega, by omega, by omega, by omega⟩, b0, n1, n2]
 · obtain ⟨h1, h2, h3, h4, h5, h6, h7, h8, h9, h10, h11⟩ := k
   have n1 := nx 1 (by omega)
   have n2 := nx 2 (by omega)
   have n3 := nx 3 (by omega)
   rw [e, decode_bt, dec4 _ _ _ _ _ ⟨by omega, by omega, by omega, by omega, by omega, by omega, by omega, by omega, by omega, by omega, by omega⟩, b0, n1, n2, n3]
 · rw [e, decode_bt, dec0 _ _ _ _ _ (bt_lt _ _) (bt_lt _ _) (bt_lt _ _) (bt_lt _ _) (by omega)]
   · rintro ⟨h1, h2, h3, h4, h5⟩
     rcases Nat.lt_or_ge (p + 1) S.length with g | g
     · have n1 := nx 1 g
       exact k2 ⟨by omega, by omega, by omega, by omega, by omega⟩
     · have := ed 1 (by omega) (by omega); omega
   · rintro ⟨h1, h2, h3, h4, h5, h6, h7, h8, h9⟩
     rcases Nat.lt_or_ge (p + 1) S.length with g | g
     · have n1 := nx 1 g
       rcases Nat.lt_or_ge (p + 2) S.length with g2 | g2
       · have n2 := nx 2 g2
         exact k3 ⟨by omega, by omega, by omega, by omega, by omega, by omega, by omega, by omega, by omega⟩
       · have := ed 2 (by omega) (by omega); omega
     · have := ed 1 (by omega) (by omega); omega
   · rintro ⟨h1, h2, h3, h4, h5, h6, h7, h8, h9, h10, h11⟩
     rcases Nat.lt_or_ge (p + 1) S.length with g | g
     · have n1 := nx 1 g
       rcases Nat.lt_or_ge (p + 2) S.length with g2 | g2
       · have n2 := nx 2 g2
         rcases Nat.lt_or_ge (p + 3) S.length with g3 | g3
         · have n3 := nx 3 g3
           exact k4 ⟨by omega, by omega, by omega, by omega, by omega, by omega, by omega, by omega, by omega, by omega, by omega⟩
         · have := ed 3 (by omega) (by omega); omega
       · have := ed 2 (by omega) (by omega); omega
     · have := ed 1 (by omega) (by omega); omega
theorem bad_mid (P S R : List UInt8) (hR : low R) : ∀ (n p : Nat), S.length - p ≤ n → p ≤ S.length →
   badFrom (B (P ++ (S ++ R))) (P.length + p) = if badFrom (B S) p < 0 then badFrom (B (P ++ (S ++ R))) (P.length + S.length) else P.length + badFrom (B S) p
 | 0, p, hn, hp => by
   obtain rfl : p = S.length := by omega
   rw [badFrom_end (B S) _ (by rw [B_size]; omega), if_pos (by omega)]
 | n + 1, p, hn, hp => by
   rcases Nat.lt_or_ge p S.length with h | h
   · have hd := dec_mid P S R hR p h
     have hps : p < (B S).size := by rw [B_size]; exact h
     have hpb : P.length + p < (B (P ++ (S ++ R))).size := by rw [B_size]; simp; omega
     have hb : badAt (B (P ++ (S ++ R))) (P.length + p) = badAt (B S) p := by unfold badAt; rw [hd]
     cases hB : badAt (B S) p
     · rw [badFrom_step _ _ hpb (hb.trans hB), badFrom_step _ _ hps hB, hd]
       have hw := wid_pos (B S) p
       have hl := wid_le (B S) p hps
       rw [B_size] at hl
       rw [Nat.add_assoc]
       exact bad_mid P S R hR n _ (by omega) hl
     · rw [badFrom_at _ _ hpb (hb.trans hB), badFrom_at _ _ hps hB, if_neg (by omega)]; omega
   · obtain rfl : p = S.length := by omega
     rw [badFrom_end (B S) _ (by rw [B_size]; omega), if_pos (by omega)]
end
section
theorem span_cons (f : Int → Bool) (b : UInt8) (t : List UInt8) : spanL f (b :: t) = if f (b.toNat : Int) = true then spanL f t + 1 else 0 := by
 rw [spanL, List.takeWhile_cons]
 split <;> simp [spanL]
theorem all_of (s : ByteArray) (h : ¬ 8000 < s.size) (ws : List Wd) (c b : Int) (hc : cutL s.data.toList 0 = (ws, c)) (hb : bad s = b) :
   wrongAt s = if 0 ≤ b ∧ (c < 0 ∨ b < c) then b else c := by unfold wrongAt; rw [hc, hb]
theorem all_fine (s : ByteArray) (h : ¬ 8000 < s.size) (ws : List Wd) (hc : cutL s.data.toList 0 = (ws, -1)) (hb : bad s < 0) : allW s = ws ∧ allE s = 0 ∧ allA s = 0 := by
 have hw := all_of s h ws (-1) _ hc rfl
 rw [if_neg (by omega)] at hw
 unfold allW allE allA
 rw [hw, if_neg (by omega), if_neg h, if_neg h, if_neg (by omega), if_neg (by omega), hc]
 exact ⟨rfl, rfl, rfl⟩
/-! ### A note between two names -/
end
section
/-! ### A gap, and what stands behind it -/
/-! ### A word, and what stands behind it -/
def alike (y z : List UInt8) : Prop := z.head? = y.head? ∨ z.head? = some 32
/-! ### Words elsewhere -/
/-! ### A note put ahead of a word -/
def note : List UInt8 := [32, 47, 47, 32, 120, 32, 34, 32, 63, 10, 9]
end
end Go.Proofs.YtipcoglddfgopaaGreatDoor
