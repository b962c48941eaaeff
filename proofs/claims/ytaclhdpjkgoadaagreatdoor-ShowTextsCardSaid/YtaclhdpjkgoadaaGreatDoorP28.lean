/- Parts of the proof: Word, WordA, WordB, WordG. -/
import Derived.Test.YtaclhdpjkgoadaaGreatDoorP4
set_option maxHeartbeats 2000000
namespace Go.Proofs.YtaclhdpjkgoadaaGreatDoor
set_option linter.unusedSimpArgs false
set_option linter.unusedVariables false
section
/-! ### Gaps, runs, texts, signs at the head of a list of bytes -/
def blankI (r : Int) : Bool := r == 32 || (r == 9 || r == 13)
def gapL : Bool → List UInt8 → Nat
 | _, [] => 0
 | c, b :: t =>
   if b.toNat = 10 then gapL false t + 1
   else if c = true then gapL true t + 1
   else if blankI b.toNat = true then gapL false t + 1
   else if b.toNat = 47 ∧ t.head? = some 47 then gapL true t + 1
   else 0
def spanL (f : Int → Bool) (l : List UInt8) : Nat := (l.takeWhile fun b => f (b.toNat : Int)).length
def tlenL : Bool → List UInt8 → Nat → Nat
 | _, [], _ => 0
 | e, b :: t, n => if b.toNat = 10 then 0 else if e = true then tlenL false t (n + 1) else if b.toNat = 92 then tlenL true t (n + 1) else if b.toNat = 34 then n + 1 else tlenL false t (n + 1)
def textLen : List UInt8 → Nat
 | [] => 0
 | b :: t => if b.toNat = 34 then tlenL false t 1 else 0
def twos : List (List UInt8) := [[58, 58], [60, 61], [61, 61], [33, 61], [38, 38], [124, 124]]
def ones : List UInt8 := [123, 125, 40, 41, 59, 44, 46, 61, 60, 43, 45, 42, 47, 37, 33, 35, 64]
def markL (l : List UInt8) : Nat := if twos.contains (l.take 2) = true then 2 else match l with | [] => 0 | b :: _ => if ones.contains b = true then 1 else 0
def inner (l : List UInt8) (n : Nat) : ByteArray := ⟨((l.take (n - 1)).drop 1).toArray⟩
def firstL (l : List UInt8) : Nat × List UInt8 × Nat :=
 if 0 < spanL digit l then (2, l.take (spanL digit l), spanL digit l)
 else if 0 < spanL alnum l then (1, l.take (spanL alnum l), spanL alnum l)
 else if 0 < textLen l then (if plainOk (inner l (textLen l)) = true then (3, plainText (inner l (textLen l)), textLen l) else (0, [], 0))
 else (4, l.take (markL l), markL l)
/-! ### A list of bytes from a place on -/
theorem dropc (s : ByteArray) (p : Nat) (h : p < s.size) : ∃ b : UInt8, s.data.toList.drop p = b :: s.data.toList.drop (p + 1) ∧ b.toNat = bt s p ∧ b = s.get! p := by
 have hl : p < s.data.toList.length := by simpa using h
 refine ⟨s.data.toList[p], List.drop_eq_getElem_cons hl, ?_, ?_⟩
 · rw [← bt_eq s p h]; rfl
 · rw [get_eq s p h]; rfl
theorem dropz (s : ByteArray) (p : Nat) (h : ¬ p < s.size) : s.data.toList.drop p = [] := by
 apply List.drop_of_length_le; simp; omega
theorem get_bt (s : ByteArray) (p : Nat) (b : UInt8) : s.get! p = b ↔ bt s p = b.toNat := by
 unfold bt
 constructor
 · intro h; rw [h]
 · intro h; exact UInt8.toNat_inj.1 h
theorem head_at (s : ByteArray) (p : Nat) (b : UInt8) : (s.data.toList.drop p).head? = some b ↔ p < s.size ∧ bt s p = b.toNat := by
 by_cases h : p < s.size
 · obtain ⟨x, hx, hb, hg⟩ := dropc s p h
   rw [hx, List.head?_cons, Option.some_inj, ← hb, UInt8.toNat_inj]
   exact ⟨fun e => ⟨h, e⟩, fun e => e.2⟩
 · rw [dropz s p h]; simp [h]
theorem wid_high (s : ByteArray) (p : Nat) (h : 128 ≤ bt s p) : ∀ i, i < (Utf8.decode s p).2 → 128 ≤ bt s (p + i) := by
 rcases dcases s p with ⟨k, e⟩ | ⟨k, e⟩ | ⟨k, e⟩ | ⟨k, e⟩ | ⟨_, _, _, _, e⟩
 · omega
 · obtain ⟨h1, h2, h3, h4, h5⟩ := k
   rw [e]; intro i hi
   match i, hi with
   | 0, _ => exact h
   | 1, _ => exact h4
 · obtain ⟨h1, h2, h3, h4, h5, h6, h7, h8, h9⟩ := k
   rw [e]; intro i hi
   match i, hi with
   | 0, _ => exact h
   | 1, _ => exact h4
   | 2, _ => exact h8
 · obtain ⟨h1, h2, h3, h4, h5, h6, h7, h8, h9, h10, h11⟩ := k
   rw [e]; intro i hi
   match i, hi with
   | 0, _ => exact h
   | 1, _ => exact h4
   | 2, _ => exact h8
   | 3, _ => exact h10
 · rw [e]; intro i hi
   match i, hi with
   | 0, _ => exact h
/-! ### Gaps -/
theorem gap_skip (s : ByteArray) : ∀ k p, p + k ≤ s.size → (∀ i, i < k → bt s (p + i) ≠ 10) → gapL true (s.data.toList.drop p) = gapL true (s.data.toList.drop (p + k)) + k
 | 0, p, _, _ => rfl
 | k + 1, p, h, hk => by
   obtain ⟨b, hb, hn, _⟩ := dropc s p (by omega)
   have h0 := hk 0 (by omega)
   rw [hb, gapL, if_neg (by rw [hn]; exact h0), if_pos rfl, gap_skip s k (p + 1) (by omega) (fun i hi => by have := hk (i + 1) (by omega); rwa [show p + 1 + i = p + (i + 1) from by omega]), show p + 1 + k = p + (k + 1) from by omega]
   omega
theorem gap_line (s : ByteArray) (c : Bool) (p : Nat) (h : p < s.size) (hb : bt s p = 10) : gapL c (s.data.toList.drop p) = gapL false (s.data.toList.drop (p + 1)) + 1 := by
 obtain ⟨b, e, hn, _⟩ := dropc s p h
 rw [e, gapL, if_pos (by rw [hn]; exact hb)]
theorem gap_note (s : ByteArray) (p : Nat) (h : p < s.size) (hb : bt s p ≠ 10) : gapL true (s.data.toList.drop p) = gapL true (s.data.toList.drop (p + (Utf8.decode s p).2)) + (Utf8.decode s p).2 := by
 apply gap_skip s _ p (wid_le s p h)
 by_cases g : bt s p < 128
 · rw [low_of s p g]; intro i hi
   have : i = 0 := by simp at hi; exact hi
   subst this; exact hb
 · intro i hi e
   have := wid_high s p (by omega) i hi
   omega
theorem gap_blank (s : ByteArray) (p : Nat) (h : p < s.size) (hb : bt s p ≠ 10) (hk : blankI (bt s p) = true) : gapL false (s.data.toList.drop p) = gapL false (s.data.toList.drop (p + 1)) + 1 := by
 obtain ⟨b, e, hn, _⟩ := dropc s p h
 rw [e, gapL, if_neg (by rw [hn]; exact hb), if_neg (by simp), if_pos (by rw [hn]; exact hk)]
theorem gap_slash (s : ByteArray) (p : Nat) (h : p < s.size) (hb : bt s p = 47) (hn2 : p + 1 < s.size) (hb2 : bt s (p + 1) = 47) : gapL false (s.data.toList.drop p) = gapL true (s.data.toList.drop (p + 1)) + 1 := by
 obtain ⟨b, e, hn, _⟩ := dropc s p h
 rw [e, gapL, if_neg (by rw [hn]; omega), if_neg (by simp), if_neg (by rw [hn, hb]; decide), if_pos ⟨by rw [hn]; exact hb, (head_at s (p + 1) 47).2 ⟨hn2, hb2⟩⟩]
theorem gap_stop (s : ByteArray) (p : Nat) (h : p < s.size) (hb : bt s p ≠ 10) (hk : blankI (bt s p) = false) (hn2 : ¬ (bt s p = 47 ∧ p + 1 < s.size ∧ bt s (p + 1) = 47)) : gapL false (s.data.toList.drop p) = 0 := by
 obtain ⟨b, e, hn, _⟩ := dropc s p h
 rw [e, gapL, if_neg (by rw [hn]; exact hb), if_neg (by simp), if_neg (by rw [hn, hk]; simp), if_neg]
 rintro ⟨h1, h2⟩
 exact hn2 ⟨by rw [← hn]; exact h1, (head_at s (p + 1) 47).1 h2⟩
theorem gap_end (s : ByteArray) (c : Bool) (p : Nat) (h : ¬ p < s.size) : gapL c (s.data.toList.drop p) = 0 := by rw [dropz s p h]; rfl
theorem gap_le : ∀ (l : List UInt8) (c : Bool), gapL c l ≤ l.length
 | [], c => Nat.le_refl _
 | b :: t, c => by
   have h1 := gap_le t false
   have h2 := gap_le t true
   rw [gapL]
   split
   · simp; exact h1
   · split
     · simp; exact h2
     · split
       · simp; exact h1
       · split
         · simp; exact h2
         · simp
theorem rune_is (s : ByteArray) (p : Nat) (k : Nat) (hk : k < 128) : (Utf8.decode s p).1 = k ↔ bt s p = k := by
 constructor
 · intro e; rw [← e]; exact (low_iff s p (by omega)).1
 · intro e; rw [low_of s p (by omega)]; exact e
theorem blank_at (s : ByteArray) (p : Nat) : blankI ((Utf8.decode s p).1 : Nat) = blankI (bt s p) := by
 by_cases g : bt s p < 128
 · rw [low_of s p g]
 · have := high_of s p (by omega)
   have e : ∀ x : Nat, 128 ≤ x → blankI (x : Int) = false := by
     intro x hx; simp only [blankI, Bool.or_eq_false_iff, beq_eq_false_iff_ne]; omega
   rw [e _ this, e _ (by omega)]
theorem blank_low (s : ByteArray) (p : Nat) (h : blankI (bt s p) = true) : bt s p < 128 := by
 simp only [blankI, Bool.or_eq_true, beq_iff_eq] at h; omega
theorem pre_slash (s : ByteArray) (p : Nat) : Lib.hasPrefix (s.extract p s.size).data.toList [47, 47] = decide (bt s p = 47 ∧ p + 1 < s.size ∧ bt s (p + 1) = 47) := by
 rw [Bool.eq_iff_iff, drop_extract, Lib.hasPrefix, List.isPrefixOf_iff_prefix, decide_eq_true_iff]
 by_cases h : p < s.size
 · obtain ⟨b, e, hn, _⟩ := dropc s p h
   rw [e, List.cons_prefix_cons]
   by_cases h2 : p + 1 < s.size
   · obtain ⟨b2, e2, hn2, _⟩ := dropc s (p + 1) h2
     rw [e2, List.cons_prefix_cons, ← hn, ← hn2]
     constructor
     · rintro ⟨rfl, rfl, _⟩; exact ⟨rfl, h2, rfl⟩
     · rintro ⟨a, _, c⟩; exact ⟨UInt8.toNat_inj.1 a.symm, UInt8.toNat_inj.1 c.symm, List.nil_prefix⟩
   · rw [dropz s (p + 1) h2]
     constructor
     · rintro ⟨_, h⟩; simp at h
     · rintro ⟨_, h, _⟩; exact absurd h h2
 · rw [dropz s p h]
   constructor
   · intro h; simp at h
   · rintro ⟨_, h2, _⟩; omega
/-! ### Runs of digits, of letters and digits -/
theorem span_step (f : Int → Bool) (s : ByteArray) (p : Nat) (h : p < s.size) : spanL f (s.data.toList.drop p) = if f (bt s p) = true then spanL f (s.data.toList.drop (p + 1)) + 1 else 0 := by
 obtain ⟨b, e, hn, _⟩ := dropc s p h
 rw [spanL, e, List.takeWhile_cons, hn]
 split
 · simp [spanL]
 · rfl
theorem span_end (f : Int → Bool) (s : ByteArray) (p : Nat) (h : ¬ p < s.size) : spanL f (s.data.toList.drop p) = 0 := by rw [dropz s p h]; rfl
theorem span_le (f : Int → Bool) (l : List UInt8) : spanL f l ≤ l.length := by
 unfold spanL; exact (List.takeWhile_prefix _).length_le
theorem digit_at (s : ByteArray) (p : Nat) : digit ((Utf8.decode s p).1 : Nat) = digit (bt s p) := by
 by_cases h : bt s p < 128
 · rw [low_of s p h]
 · have := high_none s p (by omega)
   rw [this.2.2.2.2]
   have h2 := this.2.1
   simp only [alnum, Bool.or_eq_false_iff] at h2
   exact h2.2.2.symm
theorem digit_wid (s : ByteArray) (p : Nat) (h : digit ((Utf8.decode s p).1 : Nat) = true) : (Utf8.decode s p).2 = 1 := by
 refine (alnum_wid s p ?_).1
 simp [alnum, h]
/-! ### Texts -/
theorem tlen_skip (s : ByteArray) : ∀ k p, p + k ≤ s.size → (∀ i, i < k → 128 ≤ bt s (p + i)) → tlenL false (s.data.toList.drop p) p = tlenL false (s.data.toList.drop (p + k)) (p + k)
 | 0, p, _, _ => rfl
 | k + 1, p, h, hk => by
   obtain ⟨b, hb, hn, _⟩ := dropc s p (by omega)
   have h0 := hk 0 (by omega)
   rw [Nat.add_zero] at h0
   rw [hb, tlenL, if_neg (by omega), if_neg (by simp), if_neg (by omega), if_neg (by omega), tlen_skip s k (p + 1) (by omega) (fun i hi => by have := hk (i + 1) (by omega); rwa [show p + 1 + i = p + (i + 1) from by omega]), show p + 1 + k = p + (k + 1) from by omega]
theorem tlen_line (s : ByteArray) (e : Bool) (p n : Nat) (h : p < s.size) (hb : bt s p = 10) : tlenL e (s.data.toList.drop p) n = 0 := by
 obtain ⟨b, hx, hn, _⟩ := dropc s p h
 rw [hx, tlenL, if_pos (by omega)]
theorem tlen_esc (s : ByteArray) (p : Nat) (h : p < s.size) (hb : bt s p ≠ 10) : tlenL true (s.data.toList.drop p) p = tlenL false (s.data.toList.drop (p + (Utf8.decode s p).2)) (p + (Utf8.decode s p).2) := by
 obtain ⟨b, hx, hn, _⟩ := dropc s p h
 rw [hx, tlenL, if_neg (by omega), if_pos rfl]
 by_cases g : bt s p < 128
 · rw [low_of s p g]
 · have hw := wid_pos s p
   have hl := wid_le s p h
   have hh := wid_high s p (by omega)
   have := tlen_skip s ((Utf8.decode s p).2 - 1) (p + 1) (by omega) (fun i hi => by have := hh (i + 1) (by omega); rwa [show p + 1 + i = p + (i + 1) from by omega])
   rw [show p + 1 + ((Utf8.decode s p).2 - 1) = p + (Utf8.decode s p).2 from by omega] at this
   exact this
theorem tlen_back (s : ByteArray) (p : Nat) (h : p < s.size) (hb : bt s p = 92) : tlenL false (s.data.toList.drop p) p = tlenL true (s.data.toList.drop (p + 1)) (p + 1) := by
 obtain ⟨b, hx, hn, _⟩ := dropc s p h
 rw [hx, tlenL, if_neg (by omega), if_neg (by simp), if_pos (by omega)]
theorem tlen_quote (s : ByteArray) (p : Nat) (h : p < s.size) (hb : bt s p = 34) : tlenL false (s.data.toList.drop p) p = p + 1 := by
 obtain ⟨b, hx, hn, _⟩ := dropc s p h
 rw [hx, tlenL, if_neg (by omega), if_neg (by simp), if_neg (by omega), if_pos (by omega)]
theorem tlen_other (s : ByteArray) (p : Nat) (h : p < s.size) (h1 : bt s p ≠ 10) (h2 : bt s p ≠ 92) (h3 : bt s p ≠ 34) : tlenL false (s.data.toList.drop p) p = tlenL false (s.data.toList.drop (p + (Utf8.decode s p).2)) (p + (Utf8.decode s p).2) := by
 by_cases g : bt s p < 128
 · obtain ⟨b, hx, hn, _⟩ := dropc s p h
   rw [low_of s p g, hx, tlenL, if_neg (by omega), if_neg (by simp), if_neg (by omega), if_neg (by omega)]
 · exact tlen_skip s _ p (wid_le s p h) (wid_high s p (by omega))
theorem tlen_end (s : ByteArray) (e : Bool) (p n : Nat) (h : ¬ p < s.size) : tlenL e (s.data.toList.drop p) n = 0 := by rw [dropz s p h]; rfl
theorem text_start (s : ByteArray) (h : 0 < s.size) (hb : bt s 0 = 34) : textLen s.data.toList = tlenL false (s.data.toList.drop 1) 1 := by
 obtain ⟨b, hx, hn, _⟩ := dropc s 0 h
 rw [List.drop_zero] at hx
 have e : textLen (b :: s.data.toList.drop (0 + 1)) = tlenL false (s.data.toList.drop 1) 1 := by rw [textLen, if_pos (by omega)]
 rw [← e, ← hx]
theorem text_none (s : ByteArray) (h : ¬ (0 < s.size ∧ bt s 0 = 34)) : textLen s.data.toList = 0 := by
 by_cases g : 0 < s.size
 · obtain ⟨b, hx, hn, _⟩ := dropc s 0 g
   rw [List.drop_zero] at hx
   rw [hx, textLen, if_neg (by rw [hn]; intro e; exact h ⟨g, e⟩)]
 · have := dropz s 0 g
   rw [List.drop_zero] at this
   rw [this]; rfl
theorem tlen_le : ∀ (l : List UInt8) (e : Bool) (n : Nat), tlenL e l n = 0 ∨ (n < tlenL e l n ∧ tlenL e l n ≤ n + l.length)
 | [], e, n => .inl rfl
 | b :: t, e, n => by
   rw [tlenL, List.length_cons]
   split
   · exact .inl rfl
   · split
     · rcases tlen_le t false (n + 1) with h | h
       · exact .inl h
       · right; omega
     · split
       · rcases tlen_le t true (n + 1) with h | h
         · exact .inl h
         · right; omega
       · split
         · right; omega
         · rcases tlen_le t false (n + 1) with h | h
           · exact .inl h
           · right; omega
theorem text_le (l : List UInt8) : textLen l = 0 ∨ (2 ≤ textLen l ∧ textLen l ≤ l.length) := by
 cases l with
 | nil => exact .inl rfl
 | cons b t =>
   rw [textLen]
   split
   · rcases tlen_le t false 1 with h | h
     · exact .inl h
     · right; rw [List.length_cons]; omega
   · exact .inl rfl
theorem mark_le (l : List UInt8) : markL l ≤ l.length := by
 unfold markL
 split
 · rename_i h
   rw [List.contains_iff_mem] at h
   have e : (l.take 2).length = 2 := by
     have : ∀ x ∈ twos, x.length = 2 := by decide
     exact this _ h
   rw [List.length_take] at e; omega
 · cases l with
   | nil => simp
   | cons b t => simp only []; split <;> simp
theorem first_le (l : List UInt8) : (firstL l).2.2 ≤ l.length := by
 unfold firstL
 have h1 := span_le digit l
 have h2 := span_le alnum l
 have h3 := text_le l
 have h4 := mark_le l
 split
 · exact h1
 · split
   · exact h2
   · split
     · split
       · simp only []; omega
       · simp
     · exact h4
/-! ### Words one behind the other: l begins with a word, or is empty; a: where it stands -/
structure Wd where
 k : Nat
 t : List UInt8
 a : Nat
instance : DecidableEq Wd := fun x y =>
 if h : x.k = y.k ∧ x.t = y.t ∧ x.a = y.a then isTrue (by cases x; cases y; simp_all)
 else isFalse (by rintro rfl; exact h ⟨rfl, rfl, rfl⟩)
def wF : Nat → List UInt8 → Nat → List Wd × Int
 | 0, _, _ => ([], -1)
 | f + 1, l, a =>
   if l = [] then ([], -1)
   else if (firstL l).2.2 = 0 then ([], (a : Int))
   else
     let m := l.drop (firstL l).2.2
     let r := wF f (m.drop (gapL false m)) (a + (firstL l).2.2 + gapL false m)
     (⟨(firstL l).1, (firstL l).2.1, a⟩ :: r.1, r.2)
def wordsL (l : List UInt8) (a : Nat) : List Wd × Int := wF (l.length + 1) l a
def cutL (l : List UInt8) (a : Nat) : List Wd × Int := wordsL (l.drop (gapL false l)) (a + gapL false l)
theorem wF_eq : ∀ (f g : Nat) (l : List UInt8) (a : Nat), l.length < f → l.length < g → wF f l a = wF g l a
 | f + 1, g + 1, l, a, hf, hg => by
   simp only [wF]
   split
   · rfl
   · rename_i hne
     split
     · rfl
     · rename_i hn
       have hl : 0 < l.length := List.length_pos_iff.2 hne
       rw [wF_eq f g _ _ (by simp only [List.length_drop]; omega) (by simp only [List.length_drop]; omega)]
theorem words_nil (a : Nat) : wordsL [] a = ([], -1) := rfl
theorem words_none (l : List UInt8) (a : Nat) (h : l ≠ []) (hn : (firstL l).2.2 = 0) : wordsL l a = ([], (a : Int)) := by
 simp only [wordsL, wF, if_neg h, if_pos hn]
theorem words_step (l : List UInt8) (a : Nat) (h : l ≠ []) (hn : (firstL l).2.2 ≠ 0) :
   wordsL l a = (⟨(firstL l).1, (firstL l).2.1, a⟩ :: (cutL (l.drop (firstL l).2.2) (a + (firstL l).2.2)).1, (cutL (l.drop (firstL l).2.2) (a + (firstL l).2.2)).2) := by
 have hl : 0 < l.length := List.length_pos_iff.2 h
 unfold wordsL cutL wordsL
 rw [wF, if_neg h, if_neg hn]
 simp only []
 rw [wF_eq l.length _ _ _ (by simp only [List.length_drop]; omega) (Nat.lt_succ_self _)]
/-! ### The whole -/
def wrongAt (s : ByteArray) : Int := if 0 ≤ bad s ∧ ((cutL s.data.toList 0).2 < 0 ∨ bad s < (cutL s.data.toList 0).2) then bad s else (cutL s.data.toList 0).2
def allW (s : ByteArray) : List Wd := if 8000 < s.size ∨ 0 ≤ wrongAt s then [] else (cutL s.data.toList 0).1
def allE (s : ByteArray) : Int := if 8000 < s.size then 5 else if 0 ≤ wrongAt s then 2 else 0
def allA (s : ByteArray) : Int := if 8000 < s.size then 0 else if 0 ≤ wrongAt s then wrongAt s else 0
end
section
open Go.RowKit
theorem blank_any (r : Int) (w : World) : Calls Tryz.prog 104 #[.int .i32 r] w fun e w' => e = .returned (.bool (blankI r)) ∧ w = w' := by
 go_enter Tryz.func104, Tryz.ntmps104
 go_wp2
 all_goals (go_ret; refine ⟨?_, rfl⟩)
 all_goals simp_all [blankI, Bool.or_assoc]
theorem inName_any (r : Int) (w : World) : Calls Tryz.prog 108 #[.int .i32 r] w fun e w' => e = .returned (.bool (alnum r)) ∧ w = w' := by
 have e : alnum r = (small r || (big r || digit r)) := rfl
 go_enter Tryz.func108, Tryz.ntmps108
 rw [e]; clear e
 cases h1 : small r
 · cases h2 : big r
   · go_wp2_with (first | (go_at_call 114; refine (small_any _ _).mono ?_; rintro e w' ⟨rfl, rfl⟩) | (go_at_call 116; refine (big_any _ _).mono ?_; rintro e w' ⟨rfl, rfl⟩) | (go_at_call 106; refine (digit_any _ _).mono ?_; rintro e w' ⟨rfl, rfl⟩))
     go_ret
     exact ⟨by simp, rfl⟩
   · go_wp2_with (first | (go_at_call 114; refine (small_any _ _).mono ?_; rintro e w' ⟨rfl, rfl⟩) | (go_at_call 116; refine (big_any _ _).mono ?_; rintro e w' ⟨rfl, rfl⟩) | (go_at_call 106; refine (digit_any _ _).mono ?_; rintro e w' ⟨rfl, rfl⟩))
     go_ret
     exact ⟨by simp, rfl⟩
 · go_wp2_with (first | (go_at_call 114; refine (small_any _ _).mono ?_; rintro e w' ⟨rfl, rfl⟩) | (go_at_call 116; refine (big_any _ _).mono ?_; rintro e w' ⟨rfl, rfl⟩) | (go_at_call 106; refine (digit_any _ _).mono ?_; rintro e w' ⟨rfl, rfl⟩))
   go_ret
   exact ⟨by simp, rfl⟩
theorem reach_digit (s : ByteArray) (w : World) (hs : s.size ≤ maxLen) : Calls Tryz.prog 105 #[.string s, .func (.func 106) #[] #[]] w fun e w' => e = .returned (.int .i64 (spanL digit s.data.toList : Nat)) ∧ Below w.heap.size w w' := by
 unfold maxLen at hs
 obtain ⟨n, hn⟩ : ∃ n, n = spanL digit s.data.toList := ⟨_, rfl⟩
 rw [← hn]
 have hn0 : n = 0 + spanL digit (s.data.toList.drop 0) := by rw [List.drop_zero]; omega
 clear hn
 have HN := Lib.hid hn0; clear hn0
 go_enter Tryz.func105, Tryz.ntmps105
 go_wp2
 go_loopw [] (fun wr => ∃ p : Nat, wr = w.iter s p ∧ p ≤ s.size ∧ n = p + spanL digit (s.data.toList.drop p)) (fun wr => s.size - wr.iterPos w.heap.size)
 case atStart => exact ⟨0, rfl, Nat.zero_le _, HN.out⟩
 case round =>
   obtain ⟨p, rfl, hp, hb⟩ := hrel
   by_cases hlt : p < s.size
   · have hnx := fun ty => run_next_any (P := Tryz.prog) w s p ty hlt
     have hw := wid_pos s p
     have hwl := wid_le s p hlt
     have hst := span_step digit s p hlt
     cases hd : digit ((Utf8.decode s p).1 : Nat)
     · rw [← digit_at, hd] at hst
       have HB := Lib.hid (show n = p by simp at hst; omega); clear hb hst
       go_wp2_with (go_at_call 106; refine (digit_any _ _).mono ?_; rintro e w' ⟨rfl, rfl⟩)
       go_ret
       exact ⟨by rw [HB.out]; rfl, iter_below w s _⟩
     · have h1 := digit_wid s p hd
       rw [← digit_at, hd] at hst
       have HB := Lib.hid (show n = p + (Utf8.decode s p).2 + spanL digit (s.data.toList.drop (p + (Utf8.decode s p).2)) by rw [h1]; simp at hst; omega); clear hb hst h1
       go_wp2_with (go_at_call 106; refine (digit_any _ _).mono ?_; rintro e w' ⟨rfl, rfl⟩)
       go_roundw
       case rel => exact ⟨p + (Utf8.decode s p).2, rfl, hwl, HB.out⟩
       case measure => simp; omega
   · have hnx := fun ty => run_next_end (P := Tryz.prog) w s p ty hlt
     rw [span_end digit s p hlt] at hb
     have HB := Lib.hid (show n = s.size by omega); clear hb
     go_wp2
     go_ret
     exact ⟨by rw [HB.out]; rfl, iter_below w s p⟩
theorem reach_alnum (s : ByteArray) (w : World) (hs : s.size ≤ maxLen) : Calls Tryz.prog 105 #[.string s, .func (.func 108) #[] #[]] w fun e w' => e = .returned (.int .i64 (spanL alnum s.data.toList : Nat)) ∧ Below w.heap.size w w' := by
 unfold maxLen at hs
 obtain ⟨n, hn⟩ : ∃ n, n = spanL alnum s.data.toList := ⟨_, rfl⟩
 rw [← hn]
 have hn0 : n = 0 + spanL alnum (s.data.toList.drop 0) := by rw [List.drop_zero]; omega
 clear hn
 have HN := Lib.hid hn0; clear hn0
 go_enter Tryz.func105, Tryz.ntmps105
 go_wp2
 go_loopw [] (fun wr => ∃ p : Nat, wr = w.iter s p ∧ p ≤ s.size ∧ n = p + spanL alnum (s.data.toList.drop p)) (fun wr => s.size - wr.iterPos w.heap.size)
 case atStart => exact ⟨0, rfl, Nat.zero_le _, HN.out⟩
 case round =>
   obtain ⟨p, rfl, hp, hb⟩ := hrel
   by_cases hlt : p < s.size
   · have hnx := fun ty => run_next_any (P := Tryz.prog) w s p ty hlt
     have hw := wid_pos s p
     have hwl := wid_le s p hlt
     have hst := span_step alnum s p hlt
     cases hd : alnum ((Utf8.decode s p).1 : Nat)
     · rw [← alnum_at, hd] at hst
       have HB := Lib.hid (show n = p by simp at hst; omega); clear hb hst
       go_wp2_with (go_at_call 108; refine (inName_any _ _).mono ?_; rintro e w' ⟨rfl, rfl⟩)
       go_ret
       exact ⟨by rw [HB.out]; rfl, iter_below w s _⟩
     · have h1 := (alnum_wid s p hd).1
       rw [← alnum_at, hd] at hst
       have HB := Lib.hid (show n = p + (Utf8.decode s p).2 + spanL alnum (s.data.toList.drop (p + (Utf8.decode s p).2)) by rw [h1]; simp at hst; omega); clear hb hst h1
       go_wp2_with (go_at_call 108; refine (inName_any _ _).mono ?_; rintro e w' ⟨rfl, rfl⟩)
       go_roundw
       case rel => exact ⟨p + (Utf8.decode s p).2, rfl, hwl, HB.out⟩
       case measure => simp; omega
   · have hnx := fun ty => run_next_end (P := Tryz.prog) w s p ty hlt
     rw [span_end alnum s p hlt] at hb
     have HB := Lib.hid (show n = s.size by omega); clear hb
     go_wp2
     go_ret
     exact ⟨by rw [HB.out]; rfl, iter_below w s p⟩
theorem cloneW_any (s : ByteArray) (w : World) (hs : s.size ≤ 16777216) : Calls Tryz.prog 107 #[.string s] w fun e w' => e = .returned (.string s) ∧ Below w.heap.size w w' := by
 go_enter Tryz.func107, Tryz.ntmps107
 go_wp2_with (go_at_call 145; refine (Tryz.stringslite_Clone _ _ (by omega)).mono ?_; rintro e w1 ⟨rfl, hb⟩)
 go_ret
 exact ⟨rfl, hb⟩
end
section
open Go.RowKit
theorem gap_any (s : ByteArray) (w : World) (hs : s.size ≤ maxLen) : Calls Tryz.prog 65 #[.string s] w fun e w' => e = .returned (.int .i64 (gapL false s.data.toList : Nat)) ∧ Below w.heap.size w w' := by
 unfold maxLen at hs
 obtain ⟨n, hn⟩ : ∃ n, n = gapL false s.data.toList := ⟨_, rfl⟩
 rw [← hn]
 have hn0 : n = 0 + gapL false (s.data.toList.drop 0) := by rw [List.drop_zero]; omega
 clear hn
 have HN := Lib.hid hn0; clear hn0
 go_enter Tryz.func65, Tryz.ntmps65
 go_wp2
 go_loopw [3] (fun v wr => ∃ (p : Nat) (c : Bool), v = .bool c ∧ wr = w.iter s p ∧ p ≤ s.size ∧ n = p + gapL c (s.data.toList.drop p)) (fun v wr => s.size - wr.iterPos w.heap.size)
 case atStart => exact ⟨0, false, rfl, rfl, Nat.zero_le _, HN.out⟩
 case round =>
   obtain ⟨p, c, rfl, rfl, hp, hb⟩ := hrel
   by_cases hlt : p < s.size
   · have hnx := fun ty => run_next_any (P := Tryz.prog) w s p ty hlt
     have hw := wid_pos s p
     have hwl := wid_le s p hlt
     by_cases h10 : bt s p = 10
     · have e : (Utf8.decode s p).2 = 1 := by rw [low_of s p (by omega)]
       have hF : ((((Utf8.decode s p).1 : Nat) : Int) == 10) = true := by rw [beq_iff_eq, (rune_is s p 10 (by omega)).2 h10]; rfl
       rw [gap_line s c p hlt h10] at hb
       have HB := Lib.hid (show n = p + (Utf8.decode s p).2 + gapL false (s.data.toList.drop (p + (Utf8.decode s p).2)) by rw [e]; omega); clear hb e h10
       go_wp2
       go_roundw
       case rel => exact ⟨p + (Utf8.decode s p).2, false, rfl, rfl, hwl, HB.out⟩
       case measure => simp; omega
     · have hF : ((((Utf8.decode s p).1 : Nat) : Int) == 10) = false := by
         rw [beq_eq_false_iff_ne]; intro e; exact h10 ((rune_is s p 10 (by omega)).1 (by omega))
       cases c
       · cases hk : blankI ((Utf8.decode s p).1 : Nat)
         · rw [blank_at] at hk
           have hpf := pre_slash s p
           by_cases hsl : bt s p = 47 ∧ p + 1 < s.size ∧ bt s (p + 1) = 47
           · rw [decide_eq_true hsl] at hpf
             have Hpf := Lib.hid hpf; clear hpf
             rw [gap_slash s p hlt hsl.1 hsl.2.1 hsl.2.2] at hb
             have e : (Utf8.decode s p).2 = 1 := by rw [low_of s p (by omega)]
             have HB := Lib.hid (show n = p + (Utf8.decode s p).2 + gapL true (s.data.toList.drop (p + (Utf8.decode s p).2)) by rw [e]; omega); clear hb e h10 hsl
             rw [← blank_at] at hk
             go_wp2_with (first | (go_at_call 67; refine (hasPrefix_any _ _ _ _ Hpf.out).mono ?_; rintro e w' ⟨rfl, rfl⟩) | (go_at_call 104; refine (blank_any _ _).mono ?_; rintro e w' ⟨rfl, rfl⟩))
             go_roundw
             case rel => exact ⟨p + (Utf8.decode s p).2, true, rfl, rfl, hwl, HB.out⟩
             case measure => simp; omega
           · rw [decide_eq_false hsl] at hpf
             have Hpf := Lib.hid hpf; clear hpf
             rw [gap_stop s p hlt h10 hk hsl] at hb
             have HB := Lib.hid (show n = p by omega); clear hb h10 hsl
             rw [← blank_at] at hk
             go_wp2_with (first | (go_at_call 67; refine (hasPrefix_any _ _ _ _ Hpf.out).mono ?_; rintro e w' ⟨rfl, rfl⟩) | (go_at_call 104; refine (blank_any _ _).mono ?_; rintro e w' ⟨rfl, rfl⟩))
             go_ret
             exact ⟨by rw [HB.out]; rfl, iter_below w s _⟩
         · rw [blank_at] at hk
           have e : (Utf8.decode s p).2 = 1 := by rw [low_of s p (blank_low s p hk)]
           rw [gap_blank s p hlt h10 hk] at hb
           have HB := Lib.hid (show n = p + (Utf8.decode s p).2 + gapL false (s.data.toList.drop (p + (Utf8.decode s p).2)) by rw [e]; omega); clear hb e h10
           rw [← blank_at] at hk
           go_wp2_with (first | (go_at_call 104; refine (blank_any _ _).mono ?_; rintro e w' ⟨rfl, rfl⟩))
           go_roundw
           case rel => exact ⟨p + (Utf8.decode s p).2, false, rfl, rfl, hwl, HB.out⟩
           case measure => simp; omega
       · rw [gap_note s p hlt h10] at hb
         have HB := Lib.hid (show n = p + (Utf8.decode s p).2 + gapL true (s.data.toList.drop (p + (Utf8.decode s p).2)) by omega); clear hb h10
         go_wp2
         go_roundw
         case rel => exact ⟨p + (Utf8.decode s p).2, true, rfl, rfl, hwl, HB.out⟩
         case measure => simp; omega
   · have hnx := fun ty => run_next_end (P := Tryz.prog) w s p ty hlt
     rw [gap_end s c p hlt] at hb
     have HB := Lib.hid (show n = s.size by omega); clear hb
     go_wp2
     go_ret
     exact ⟨by rw [HB.out]; rfl, iter_below w s p⟩
end
section
theorem words_ind (Q : List UInt8 → Nat → List Wd × Int → Prop)
   (h0 : ∀ a, Q [] a ([], -1))
   (h1 : ∀ l a, l ≠ [] → (firstL l).2.2 = 0 → Q l a ([], (a : Int)))
   (h2 : ∀ l a, l ≠ [] → (firstL l).2.2 ≠ 0 → Q ((l.drop (firstL l).2.2).drop (gapL false (l.drop (firstL l).2.2))) (a + (firstL l).2.2 + gapL false (l.drop (firstL l).2.2)) (cutL (l.drop (firstL l).2.2) (a + (firstL l).2.2)) →
     Q l a (⟨(firstL l).1, (firstL l).2.1, a⟩ :: (cutL (l.drop (firstL l).2.2) (a + (firstL l).2.2)).1, (cutL (l.drop (firstL l).2.2) (a + (firstL l).2.2)).2)) :
   ∀ (n : Nat) (l : List UInt8) (a : Nat), l.length ≤ n → Q l a (wordsL l a)
 | 0, l, a, h => by
   have : l = [] := List.eq_nil_of_length_eq_zero (by omega)
   subst this
   rw [words_nil]; exact h0 a
 | n + 1, l, a, h => by
   by_cases hl : l = []
   · subst hl; rw [words_nil]; exact h0 a
   · by_cases hn : (firstL l).2.2 = 0
     · rw [words_none l a hl hn]; exact h1 l a hl hn
     · rw [words_step l a hl hn]
       have hp : 0 < l.length := List.length_pos_iff.2 hl
       exact h2 l a hl hn (words_ind Q h0 h1 h2 n _ _ (by simp only [List.length_drop]; omega))
/-! ### Words one behind the other -/
def chain (s : ByteArray) : Nat → List Wd → Prop
 | _, [] => True
 | e, x :: t => e ≤ x.a ∧ x.a < s.size ∧ 1 ≤ x.k ∧ x.k ≤ 4 ∧ ((x.k = 3 ∧ bt s x.a = 34 ∧ chain s (x.a + 1) t) ∨ (x.k ≠ 3 ∧ x.t ≠ [] ∧ x.a + x.t.length ≤ s.size ∧ sub s x.a x.t.length = x.t ∧ chain s (x.a + x.t.length) t))
theorem chain_less (s : ByteArray) (e f : Nat) (h : e ≤ f) : ∀ l, chain s f l → chain s e l
 | [], _ => trivial
 | x :: t, ⟨h1, h2⟩ => ⟨Nat.le_trans h h1, h2⟩
theorem text_quote (l : List UInt8) (h : 0 < textLen l) : l.head? = some 34 := by
 cases l with
 | nil => simp [textLen] at h
 | cons b t =>
   rw [textLen] at h
   split at h
   · rename_i hb
     rw [List.head?_cons, Option.some_inj]; exact UInt8.toNat_inj.1 hb
   · omega
theorem first_kind (l : List UInt8) (h : (firstL l).2.2 ≠ 0) :
   1 ≤ (firstL l).1 ∧ (firstL l).1 ≤ 4 ∧ (((firstL l).1 = 3 ∧ l.head? = some 34 ∧ 2 ≤ (firstL l).2.2) ∨ ((firstL l).1 ≠ 3 ∧ (firstL l).2.1 = l.take (firstL l).2.2)) := by
 unfold firstL at *
 have h3 := text_le l
 by_cases a1 : 0 < spanL digit l
 · rw [if_pos a1]; exact ⟨by simp, by simp, .inr ⟨by simp, rfl⟩⟩
 · rw [if_neg a1] at h ⊢
   by_cases a2 : 0 < spanL alnum l
   · rw [if_pos a2]; exact ⟨by simp, by simp, .inr ⟨by simp, rfl⟩⟩
   · rw [if_neg a2] at h ⊢
     by_cases a3 : 0 < textLen l
     · rw [if_pos a3] at h ⊢
       split at h
       · rename_i hp
         rw [if_pos hp]; exact ⟨by simp, by simp, .inl ⟨rfl, text_quote l a3, by simp only []; omega⟩⟩
       · simp at h
     · rw [if_neg a3]; exact ⟨by simp, by simp, .inr ⟨by simp, rfl⟩⟩
theorem words_chain (s : ByteArray) (p : Nat) : chain s p (wordsL (s.data.toList.drop p) p).1 := by
 refine words_ind (fun l a r => l = s.data.toList.drop a → chain s a r.1) (fun a _ => trivial) (fun l a _ _ _ => trivial) ?_ _ (s.data.toList.drop p) p (Nat.le_refl _) rfl
 intro l a hl hn ih hd
 have hs : s.data.toList.length = s.size := by simp
 have hle := first_le l
 have hp : 0 < l.length := List.length_pos_iff.2 hl
 have hll : l.length = s.size - a := by rw [hd, List.length_drop, hs]
 obtain ⟨k1, k2, k3⟩ := first_kind l hn
 have ih2 := ih (by rw [hd]; simp only [List.drop_drop])
 refine ⟨Nat.le_refl _, by simp only []; omega, k1, k2, ?_⟩
 rcases k3 with ⟨e, hh, hb⟩ | ⟨e, ht⟩
 · left
   refine ⟨e, ?_, chain_less s _ _ ?_ _ ih2⟩
   · rw [hd, head_at] at hh; exact hh.2
   · simp only []; omega
 · right
   have htl : (firstL l).2.1.length = (firstL l).2.2 := by rw [ht, List.length_take]; omega
   simp only []
   refine ⟨e, ?_, by omega, ?_, chain_less s _ _ (by rw [htl]; omega) _ ih2⟩
   · intro e0; rw [e0] at htl; simp at htl; omega
   · rw [htl]; rw [ht, hd]; rfl
theorem all_chain (s : ByteArray) : chain s 0 (allW s) := by
 unfold allW
 split
 · trivial
 · exact chain_less s 0 _ (Nat.zero_le _) _ (by rw [cutL, Nat.zero_add]; exact words_chain s _)
theorem all_len (s : ByteArray) : (allW s).length ≤ s.size := by
 have key : ∀ (l : List Wd) (e : Nat), e ≤ s.size → chain s e l → l.length + e ≤ s.size := by
   intro l
   induction l with
   | nil => intro e he _; simpa using he
   | cons x t ih =>
     intro e he h
     obtain ⟨h1, h2, _, _, h3⟩ := h
     rcases h3 with ⟨_, _, h4⟩ | ⟨_, h0, h5, _, h4⟩
     · have := ih _ (by omega) h4
       simp only [List.length_cons]; omega
     · have := ih _ (by omega) h4
       have : 0 < x.t.length := List.length_pos_iff.2 h0
       simp only [List.length_cons]; omega
 have := key _ 0 (Nat.zero_le _) (all_chain s)
 omega
end
end Go.Proofs.YtaclhdpjkgoadaaGreatDoor
