/- Parts of the proof: Word, WordG, TreeB, TreeC, TreeD, Fit. -/
import Derived.Test.YtnbfajmdfkgebaaGreatDoorP0
import Derived.Deep.RegionWith
import Derived.Deep.LoopGhost
import Derived.Deep.AppendLies
import Derived.Deep.QuietTactic
import Derived.BigQuiet
import Derived.Laws.StructEq
import Derived.Test.YtnbfajmdfkgebaaGreatDoorP5
set_option maxHeartbeats 2000000
set_option maxRecDepth 100000
namespace Go.Proofs.YtnbfajmdfkgebaaGreatDoor
set_option linter.unusedSimpArgs false
set_option linter.unusedVariables false
section
/-! ### Gaps, runs, texts, signs at the head of a list of bytes -/
def blankI (r : Int) : Bool := r == 32 || (r == 9 || r == 13)
def gapL : Bool → List UInt8 → Nat
 | _, [] => 0
 | c, b :: t =>
   if b.toNat = 10 then gapL false t + 1
   else if c = true then gapL true t + 1
   else if blankI b.toNat = true then gapL false t + 1
   else if b.toNat = 47 ∧ t.head? = some 47 then gapL true t + 1
   else 0
def spanL (f : Int → Bool) (l : List UInt8) : Nat := (l.takeWhile fun b => f (b.toNat : Int)).length
def tlenL : Bool → List UInt8 → Nat → Nat
 | _, [], _ => 0
 | e, b :: t, n => if b.toNat = 10 then 0 else if e = true then tlenL false t (n + 1) else if b.toNat = 92 then tlenL true t (n + 1) else if b.toNat = 34 then n + 1 else tlenL false t (n + 1)
def textLen : List UInt8 → Nat
 | [] => 0
 | b :: t => if b.toNat = 34 then tlenL false t 1 else 0
def twos : List (List UInt8) := [[58, 58], [60, 61], [61, 61], [33, 61], [38, 38], [124, 124]]
def ones : List UInt8 := [123, 125, 40, 41, 59, 44, 46, 61, 60, 43, 45, 42, 47, 37, 33, 35, 64]
def markL (l : List UInt8) : Nat := if twos.contains (l.take 2) = true then 2 else match l with | [] => 0 | b :: _ => if ones.contains b = true then 1 else 0
def inner (l : List UInt8) (n : Nat) : ByteArray := ⟨((l.take (n - 1)).drop 1).toArray⟩
def firstL (l : List UInt8) : Nat × List UInt8 × Nat :=
 if 0 < spanL digit l then (2, l.take (spanL digit l), spanL digit l)
 else if 0 < spanL alnum l then (1, l.take (spanL alnum l), spanL alnum l)
 else if 0 < textLen l then (if plainOk (inner l (textLen l)) = true then (3, plainText (inner l (textLen l)), textLen l) else (0, [], 0))
 else (4, l.take (markL l), markL l)
/-! ### A list of bytes from a place on -/
theorem dropc (s : ByteArray) (p : Nat) (h : p < s.size) : ∃ b : UInt8, s.data.toList.drop p = b :: s.data.toList.drop (p + 1) ∧ b.toNat = bt s p ∧ b = s.get! p := by
 have hl : p < s.data.toList.length := by simpa using h
 refine ⟨s.data.toList[p], List.drop_eq_getElem_cons hl, ?_, ?_⟩
 · rw [← bt_eq s p h]; rfl
 · rw [get_eq s p h]; rfl
theorem dropz (s : ByteArray) (p : Nat) (h : ¬ p < s.size) : s.data.toList.drop p = [] := by
 apply List.drop_of_length_le; simp; omega
theorem get_bt (s : ByteArray) (p : Nat) (b : UInt8) : s.get! p = b ↔ bt s p = b.toNat := by
 unfold bt
 constructor
 · intro h; rw [h]
 · intro h; exact UInt8.toNat_inj.1 h
theorem head_at (s : ByteArray) (p : Nat) (b : UInt8) : (s.data.toList.drop p).head? = some b ↔ p < s.size ∧ bt s p = b.toNat := by
 by_cases h : p < s.size
 · obtain ⟨x, hx, hb, hg⟩ := dropc s p h
   rw [hx, List.head?_cons, Option.some_inj, ← hb, UInt8.toNat_inj]
   exact ⟨fun e => ⟨h, e⟩, fun e => e.2⟩
 · rw [dropz s p h]; simp [h]
theorem wid_high (s : ByteArray) (p : Nat) (h : 128 ≤ bt s p) : ∀ i, i < (Utf8.decode s p).2 → 128 ≤ bt s (p + i) := by
 rcases dcases s p with ⟨k, e⟩ | ⟨k, e⟩ | ⟨k, e⟩ | ⟨k, e⟩ | ⟨_, _, _, _, e⟩
 · omega
 · obtain ⟨h1, h2, h3, h4, h5⟩ := k
   rw [e]; intro i hi
   match i, hi with
   | 0, _ => exact h
   | 1, _ => exact h4
 · obtain ⟨h1, h2, h3, h4, h5, h6, h7, h8, h9⟩ := k
   rw [e]; intro i hi
   match i, hi with
   | 0, _ => exact h
   | 1, _ => exact h4
   | 2, _ => exact h8
 · obtain ⟨h1, h2, h3, h4, h5, h6, h7, h8, h9, h10, h11⟩ := k
   rw [e]; intro i hi
   match i, hi with
   | 0, _ => exact h
   | 1, _ => exact h4
   | 2, _ => exact h8
   | 3, _ => exact h10
 · rw [e]; intro i hi
   match i, hi with
   | 0, _ => exact h
/-! ### Gaps -/
theorem gap_skip (s : ByteArray) : ∀ k p, p + k ≤ s.size → (∀ i, i < k → bt s (p + i) ≠ 10) → gapL true (s.data.toList.drop p) = gapL true (s.data.toList.drop (p + k)) + k
 | 0, p, _, _ => rfl
 | k + 1, p, h, hk => by
   obtain ⟨b, hb, hn, _⟩ := dropc s p (by omega)
   have h0 := hk 0 (by omega)
   rw [hb, gapL, if_neg (by rw [hn]; exact h0), if_pos rfl, gap_skip s k (p + 1) (by omega) (fun i hi => by have := hk (i + 1) (by omega); rwa [show p + 1 + i = p + (i + 1) from by omega]), show p + 1 + k = p + (k + 1) from by omega]
   omega
theorem gap_line (s : ByteArray) (c : Bool) (p : Nat) (h : p < s.size) (hb : bt s p = 10) : gapL c (s.data.toList.drop p) = gapL false (s.data.toList.drop (p + 1)) + 1 := by
 obtain ⟨b, e, hn, _⟩ := dropc s p h
 rw [e, gapL, if_pos (by rw [hn]; exact hb)]
theorem gap_note (s : ByteArray) (p : Nat) (h : p < s.size) (hb : bt s p ≠ 10) : gapL true (s.data.toList.drop p) = gapL true (s.data.toList.drop (p + (Utf8.decode s p).2)) + (Utf8.decode s p).2 := by
 apply gap_skip s _ p (wid_le s p h)
 by_cases g : bt s p < 128
 · rw [low_of s p g]; intro i hi
   have : i = 0 := by simp at hi; exact hi
   subst this; exact hb
 · intro i hi e
   have := wid_high s p (by omega) i hi
   omega
theorem gap_blank (s : ByteArray) (p : Nat) (h : p < s.size) (hb : bt s p ≠ 10) (hk : blankI (bt s p) = true) : gapL false (s.data.toList.drop p) = gapL false (s.data.toList.drop (p + 1)) + 1 := by
 obtain ⟨b, e, hn, _⟩ := dropc s p h
 rw [e, gapL, if_neg (by rw [hn]; exact hb), if_neg (by simp), if_pos (by rw [hn]; exact hk)]
theorem gap_slash (s : ByteArray) (p : Nat) (h : p < s.size) (hb : bt s p = 47) (hn2 : p + 1 < s.size) (hb2 : bt s (p + 1) = 47) : gapL false (s.data.toList.drop p) = gapL true (s.data.toList.drop (p + 1)) + 1 := by
 obtain ⟨b, e, hn, _⟩ := dropc s p h
 rw [e, gapL, if_neg (by rw [hn]; omega), if_neg (by simp), if_neg (by rw [hn, hb]; decide), if_pos ⟨by rw [hn]; exact hb, (head_at s (p + 1) 47).2 ⟨hn2, hb2⟩⟩]
theorem gap_stop (s : ByteArray) (p : Nat) (h : p < s.size) (hb : bt s p ≠ 10) (hk : blankI (bt s p) = false) (hn2 : ¬ (bt s p = 47 ∧ p + 1 < s.size ∧ bt s (p + 1) = 47)) : gapL false (s.data.toList.drop p) = 0 := by
 obtain ⟨b, e, hn, _⟩ := dropc s p h
 rw [e, gapL, if_neg (by rw [hn]; exact hb), if_neg (by simp), if_neg (by rw [hn, hk]; simp), if_neg]
 rintro ⟨h1, h2⟩
 exact hn2 ⟨by rw [← hn]; exact h1, (head_at s (p + 1) 47).1 h2⟩
theorem gap_end (s : ByteArray) (c : Bool) (p : Nat) (h : ¬ p < s.size) : gapL c (s.data.toList.drop p) = 0 := by rw [dropz s p h]; rfl
theorem gap_le : ∀ (l : List UInt8) (c : Bool), gapL c l ≤ l.length
 | [], c => Nat.le_refl _
 | b :: t, c => by
   have h1 := gap_le t false
   have h2 := gap_le t true
   rw [gapL]
   split
   · simp; exact h1
   · split
     · simp; exact h2
     · split
       · simp; exact h1
       · split
         · simp; exact h2
         · simp
theorem rune_is (s : ByteArray) (p : Nat) (k : Nat) (hk : k < 128) : (Utf8.decode s p).1 = k ↔ bt s p = k := by
 constructor
 · intro e; rw [← e]; exact (low_iff s p (by omega)).1
 · intro e; rw [low_of s p (by omega)]; exact e
theorem blank_at (s : ByteArray) (p : Nat) : blankI ((Utf8.decode s p).1 : Nat) = blankI (bt s p) := by
 by_cases g : bt s p < 128
 · rw [low_of s p g]
 · have := high_of s p (by omega)
   have e : ∀ x : Nat, 128 ≤ x → blankI (x : Int) = false := by
     intro x hx; simp only [blankI, Bool.or_eq_false_iff, beq_eq_false_iff_ne]; omega
   rw [e _ this, e _ (by omega)]
theorem blank_low (s : ByteArray) (p : Nat) (h : blankI (bt s p) = true) : bt s p < 128 := by
 simp only [blankI, Bool.or_eq_true, beq_iff_eq] at h; omega
theorem pre_slash (s : ByteArray) (p : Nat) : Lib.hasPrefix (s.extract p s.size).data.toList [47, 47] = decide (bt s p = 47 ∧ p + 1 < s.size ∧ bt s (p + 1) = 47) := by
 rw [Bool.eq_iff_iff, drop_extract, Lib.hasPrefix, List.isPrefixOf_iff_prefix, decide_eq_true_iff]
 by_cases h : p < s.size
 · obtain ⟨b, e, hn, _⟩ := dropc s p h
   rw [e, List.cons_prefix_cons]
   by_cases h2 : p + 1 < s.size
   · obtain ⟨b2, e2, hn2, _⟩ := dropc s (p + 1) h2
     rw [e2, List.cons_prefix_cons, ← hn, ← hn2]
     constructor
     · rintro ⟨rfl, rfl, _⟩; exact ⟨rfl, h2, rfl⟩
     · rintro ⟨a, _, c⟩; exact ⟨UInt8.toNat_inj.1 a.symm, UInt8.toNat_inj.1 c.symm, List.nil_prefix⟩
   · rw [dropz s (p + 1) h2]
     constructor
     · rintro ⟨_, h⟩; simp at h
     · rintro ⟨_, h, _⟩; exact absurd h h2
 · rw [dropz s p h]
   constructor
   · intro h; simp at h
   · rintro ⟨_, h2, _⟩; omega
/-! ### Runs of digits, of letters and digits -/
theorem span_step (f : Int → Bool) (s : ByteArray) (p : Nat) (h : p < s.size) : spanL f (s.data.toList.drop p) = if f (bt s p) = true then spanL f (s.data.toList.drop (p + 1)) + 1 else 0 := by
 obtain ⟨b, e, hn, _⟩ := dropc s p h
 rw [spanL, e, List.takeWhile_cons, hn]
 split
 · simp [spanL]
 · rfl
theorem span_end (f : Int → Bool) (s : ByteArray) (p : Nat) (h : ¬ p < s.size) : spanL f (s.data.toList.drop p) = 0 := by rw [dropz s p h]; rfl
theorem span_le (f : Int → Bool) (l : List UInt8) : spanL f l ≤ l.length := by
 unfold spanL; exact (List.takeWhile_prefix _).length_le
theorem digit_at (s : ByteArray) (p : Nat) : digit ((Utf8.decode s p).1 : Nat) = digit (bt s p) := by
 by_cases h : bt s p < 128
 · rw [low_of s p h]
 · have := high_none s p (by omega)
   rw [this.2.2.2.2]
   have h2 := this.2.1
   simp only [alnum, Bool.or_eq_false_iff] at h2
   exact h2.2.2.symm
theorem digit_wid (s : ByteArray) (p : Nat) (h : digit ((Utf8.decode s p).1 : Nat) = true) : (Utf8.decode s p).2 = 1 := by
 refine (alnum_wid s p ?_).1
 simp [alnum, h]
/-! ### Texts -/
theorem tlen_skip (s : ByteArray) : ∀ k p, p + k ≤ s.size → (∀ i, i < k → 128 ≤ bt s (p + i)) → tlenL false (s.data.toList.drop p) p = tlenL false (s.data.toList.drop (p + k)) (p + k)
 | 0, p, _, _ => rfl
 | k + 1, p, h, hk => by
   obtain ⟨b, hb, hn, _⟩ := dropc s p (by omega)
   have h0 := hk 0 (by omega)
   rw [Nat.add_zero] at h0
   rw [hb, tlenL, if_neg (by omega), if_neg (by simp), if_neg (by omega), if_neg (by omega), tlen_skip s k (p + 1) (by omega) (fun i hi => by have := hk (i + 1) (by omega); rwa [show p + 1 + i = p + (i + 1) from by omega]), show p + 1 + k = p + (k + 1) from by omega]
theorem tlen_line (s : ByteArray) (e : Bool) (p n : Nat) (h : p < s.size) (hb : bt s p = 10) : tlenL e (s.data.toList.drop p) n = 0 := by
 obtain ⟨b, hx, hn, _⟩ := dropc s p h
 rw [hx, tlenL, if_pos (by omega)]
theorem tlen_esc (s : ByteArray) (p : Nat) (h : p < s.size) (hb : bt s p ≠ 10) : tlenL true (s.data.toList.drop p) p = tlenL false (s.data.toList.drop (p + (Utf8.decode s p).2)) (p + (Utf8.decode s p).2) := by
 obtain ⟨b, hx, hn, _⟩ := dropc s p h
 rw [hx, tlenL, if_neg (by omega), if_pos rfl]
 by_cases g : bt s p < 128
 · rw [low_of s p g]
 · have hw := wid_pos s p
   have hl := wid_le s p h
   have hh := wid_high s p (by omega)
   have := tlen_skip s ((Utf8.decode s p).2 - 1) (p + 1) (by omega) (fun i hi => by have := hh (i + 1) (by omega); rwa [show p + 1 + i = p + (i + 1) from by omega])
   rw [show p + 1 + ((Utf8.decode s p).2 - 1) = p + (Utf8.decode s p).2 from by omega] at this
   exact this
theorem tlen_back (s : ByteArray) (p : Nat) (h : p < s.size) (hb : bt s p = 92) : tlenL false (s.data.toList.drop p) p = tlenL true (s.data.toList.drop (p + 1)) (p + 1) := by
 obtain ⟨b, hx, hn, _⟩ := dropc s p h
 rw [hx, tlenL, if_neg (by omega), if_neg (by simp), if_pos (by omega)]
theorem tlen_quote (s : ByteArray) (p : Nat) (h : p < s.size) (hb : bt s p = 34) : tlenL false (s.data.toList.drop p) p = p + 1 := by
 obtain ⟨b, hx, hn, _⟩ := dropc s p h
 rw [hx, tlenL, if_neg (by omega), if_neg (by simp), if_neg (by omega), if_pos (by omega)]
theorem tlen_other (s : ByteArray) (p : Nat) (h : p < s.size) (h1 : bt s p ≠ 10) (h2 : bt s p ≠ 92) (h3 : bt s p ≠ 34) : tlenL false (s.data.toList.drop p) p = tlenL false (s.data.toList.drop (p + (Utf8.decode s p).2)) (p + (Utf8.decode s p).2) := by
 by_cases g : bt s p < 128
 · obtain ⟨b, hx, hn, _⟩ := dropc s p h
   rw [low_of s p g, hx, tlenL, if_neg (by omega), if_neg (by simp), if_neg (by omega), if_neg (by omega)]
 · exact tlen_skip s _ p (wid_le s p h) (wid_high s p (by omega))
theorem tlen_end (s : ByteArray) (e : Bool) (p n : Nat) (h : ¬ p < s.size) : tlenL e (s.data.toList.drop p) n = 0 := by rw [dropz s p h]; rfl
theorem text_start (s : ByteArray) (h : 0 < s.size) (hb : bt s 0 = 34) : textLen s.data.toList = tlenL false (s.data.toList.drop 1) 1 := by
 obtain ⟨b, hx, hn, _⟩ := dropc s 0 h
 rw [List.drop_zero] at hx
 have e : textLen (b :: s.data.toList.drop (0 + 1)) = tlenL false (s.data.toList.drop 1) 1 := by rw [textLen, if_pos (by omega)]
 rw [← e, ← hx]
theorem text_none (s : ByteArray) (h : ¬ (0 < s.size ∧ bt s 0 = 34)) : textLen s.data.toList = 0 := by
 by_cases g : 0 < s.size
 · obtain ⟨b, hx, hn, _⟩ := dropc s 0 g
   rw [List.drop_zero] at hx
   rw [hx, textLen, if_neg (by rw [hn]; intro e; exact h ⟨g, e⟩)]
 · have := dropz s 0 g
   rw [List.drop_zero] at this
   rw [this]; rfl
theorem tlen_le : ∀ (l : List UInt8) (e : Bool) (n : Nat), tlenL e l n = 0 ∨ (n < tlenL e l n ∧ tlenL e l n ≤ n + l.length)
 | [], e, n => .inl rfl
 | b :: t, e, n => by
   rw [tlenL, List.length_cons]
   split
   · exact .inl rfl
   · split
     · rcases tlen_le t false (n + 1) with h | h
       · exact .inl h
       · right; omega
     · split
       · rcases tlen_le t true (n + 1) with h | h
         · exact .inl h
         · right; omega
       · split
         · right; omega
         · rcases tlen_le t false (n + 1) with h | h
           · exact .inl h
           · right; omega
theorem text_le (l : List UInt8) : textLen l = 0 ∨ (2 ≤ textLen l ∧ textLen l ≤ l.length) := by
 cases l with
 | nil => exact .inl rfl
 | cons b t =>
   rw [textLen]
   split
   · rcases tlen_le t false 1 with h | h
     · exact .inl h
     · right; rw [List.length_cons]; omega
   · exact .inl rfl
theorem mark_le (l : List UInt8) : markL l ≤ l.length := by
 unfold markL
 split
 · rename_i h
   rw [List.contains_iff_mem] at h
   have e : (l.take 2).length = 2 := by
     have : ∀ x ∈ twos, x.length = 2 := by decide
     exact this _ h
   rw [List.length_take] at e; omega
 · cases l with
   | nil => simp
   | cons b t => simp only []; split <;> simp
theorem first_le (l : List UInt8) : (firstL l).2.2 ≤ l.length := by
 unfold firstL
 have h1 := span_le digit l
 have h2 := span_le alnum l
 have h3 := text_le l
 have h4 := mark_le l
 split
 · exact h1
 · split
   · exact h2
   · split
     · split
       · simp only []; omega
       · simp
     · exact h4
/-! ### Words one behind the other: l begins with a word, or is empty; a: where it stands -/
structure Wd where
 k : Nat
 t : List UInt8
 a : Nat
instance : DecidableEq Wd := fun x y =>
 if h : x.k = y.k ∧ x.t = y.t ∧ x.a = y.a then isTrue (by cases x; cases y; simp_all)
 else isFalse (by rintro rfl; exact h ⟨rfl, rfl, rfl⟩)
def wF : Nat → List UInt8 → Nat → List Wd × Int
 | 0, _, _ => ([], -1)
 | f + 1, l, a =>
   if l = [] then ([], -1)
   else if (firstL l).2.2 = 0 then ([], (a : Int))
   else
     let m := l.drop (firstL l).2.2
     let r := wF f (m.drop (gapL false m)) (a + (firstL l).2.2 + gapL false m)
     (⟨(firstL l).1, (firstL l).2.1, a⟩ :: r.1, r.2)
def wordsL (l : List UInt8) (a : Nat) : List Wd × Int := wF (l.length + 1) l a
def cutL (l : List UInt8) (a : Nat) : List Wd × Int := wordsL (l.drop (gapL false l)) (a + gapL false l)
theorem wF_eq : ∀ (f g : Nat) (l : List UInt8) (a : Nat), l.length < f → l.length < g → wF f l a = wF g l a
 | f + 1, g + 1, l, a, hf, hg => by
   simp only [wF]
   split
   · rfl
   · rename_i hne
     split
     · rfl
     · rename_i hn
       have hl : 0 < l.length := List.length_pos_iff.2 hne
       rw [wF_eq f g _ _ (by simp only [List.length_drop]; omega) (by simp only [List.length_drop]; omega)]
theorem words_nil (a : Nat) : wordsL [] a = ([], -1) := rfl
theorem words_none (l : List UInt8) (a : Nat) (h : l ≠ []) (hn : (firstL l).2.2 = 0) : wordsL l a = ([], (a : Int)) := by
 simp only [wordsL, wF, if_neg h, if_pos hn]
theorem words_step (l : List UInt8) (a : Nat) (h : l ≠ []) (hn : (firstL l).2.2 ≠ 0) :
   wordsL l a = (⟨(firstL l).1, (firstL l).2.1, a⟩ :: (cutL (l.drop (firstL l).2.2) (a + (firstL l).2.2)).1, (cutL (l.drop (firstL l).2.2) (a + (firstL l).2.2)).2) := by
 have hl : 0 < l.length := List.length_pos_iff.2 h
 unfold wordsL cutL wordsL
 rw [wF, if_neg h, if_neg hn]
 simp only []
 rw [wF_eq l.length _ _ _ (by simp only [List.length_drop]; omega) (Nat.lt_succ_self _)]
/-! ### The whole -/
def wrongAt (s : ByteArray) : Int := if 0 ≤ bad s ∧ ((cutL s.data.toList 0).2 < 0 ∨ bad s < (cutL s.data.toList 0).2) then bad s else (cutL s.data.toList 0).2
def allW (s : ByteArray) : List Wd := if 8000 < s.size ∨ 0 ≤ wrongAt s then [] else (cutL s.data.toList 0).1
def allE (s : ByteArray) : Int := if 8000 < s.size then 5 else if 0 ≤ wrongAt s then 2 else 0
def allA (s : ByteArray) : Int := if 8000 < s.size then 0 else if 0 ≤ wrongAt s then wrongAt s else 0
end
section
theorem words_ind (Q : List UInt8 → Nat → List Wd × Int → Prop)
   (h0 : ∀ a, Q [] a ([], -1))
   (h1 : ∀ l a, l ≠ [] → (firstL l).2.2 = 0 → Q l a ([], (a : Int)))
   (h2 : ∀ l a, l ≠ [] → (firstL l).2.2 ≠ 0 → Q ((l.drop (firstL l).2.2).drop (gapL false (l.drop (firstL l).2.2))) (a + (firstL l).2.2 + gapL false (l.drop (firstL l).2.2)) (cutL (l.drop (firstL l).2.2) (a + (firstL l).2.2)) →
     Q l a (⟨(firstL l).1, (firstL l).2.1, a⟩ :: (cutL (l.drop (firstL l).2.2) (a + (firstL l).2.2)).1, (cutL (l.drop (firstL l).2.2) (a + (firstL l).2.2)).2)) :
   ∀ (n : Nat) (l : List UInt8) (a : Nat), l.length ≤ n → Q l a (wordsL l a)
 | 0, l, a, h => by
   have : l = [] := List.eq_nil_of_length_eq_zero (by omega)
   subst this
   rw [words_nil]; exact h0 a
 | n + 1, l, a, h => by
   by_cases hl : l = []
   · subst hl; rw [words_nil]; exact h0 a
   · by_cases hn : (firstL l).2.2 = 0
     · rw [words_none l a hl hn]; exact h1 l a hl hn
     · rw [words_step l a hl hn]
       have hp : 0 < l.length := List.length_pos_iff.2 hl
       exact h2 l a hl hn (words_ind Q h0 h1 h2 n _ _ (by simp only [List.length_drop]; omega))
theorem words_wrong (l : List UInt8) (a : Nat) : (wordsL l a).2 = -1 ∨ ((a : Int) ≤ (wordsL l a).2 ∧ (wordsL l a).2 < (a + l.length : Nat)) := by
 refine words_ind (fun l a r => r.2 = -1 ∨ ((a : Int) ≤ r.2 ∧ r.2 < (a + l.length : Nat))) (fun a => .inl rfl) ?_ ?_ l.length l a (Nat.le_refl _)
 · intro l a hl _
   have hp : 0 < l.length := List.length_pos_iff.2 hl
   right; constructor
   · exact Int.le_refl _
   · show (a : Int) < _; omega
 · intro l a hl hn h
   have h1 := first_le l
   have h2 := gap_le (l.drop (firstL l).2.2) false
   simp only [List.length_drop] at h h2
   simp only []
   rcases h with h | h
   · exact .inl h
   · right; omega
theorem cut_wrong (l : List UInt8) (a : Nat) : (cutL l a).2 = -1 ∨ ((a + gapL false l : Nat) ≤ (cutL l a).2 ∧ (cutL l a).2 < (a + l.length : Nat)) := by
 have := words_wrong (l.drop (gapL false l)) (a + gapL false l)
 have h := gap_le l false
 simp only [List.length_drop] at this
 unfold cutL
 rcases this with e | e
 · exact .inl e
 · right; omega
theorem bad_range (s : ByteArray) : bad s = -1 ∨ (0 ≤ bad s ∧ bad s < s.size) := badFrom_range s 0
theorem wrong_range (s : ByteArray) : wrongAt s = -1 ∨ (0 ≤ wrongAt s ∧ wrongAt s < s.size) := by
 have h1 := cut_wrong s.data.toList 0
 have h2 := bad_range s
 have hl : s.data.toList.length = s.size := by simp
 unfold wrongAt
 split <;> omega
/-! ### Words one behind the other -/
def chain (s : ByteArray) : Nat → List Wd → Prop
 | _, [] => True
 | e, x :: t => e ≤ x.a ∧ x.a < s.size ∧ 1 ≤ x.k ∧ x.k ≤ 4 ∧ ((x.k = 3 ∧ bt s x.a = 34 ∧ chain s (x.a + 1) t) ∨ (x.k ≠ 3 ∧ x.t ≠ [] ∧ x.a + x.t.length ≤ s.size ∧ sub s x.a x.t.length = x.t ∧ chain s (x.a + x.t.length) t))
theorem chain_less (s : ByteArray) (e f : Nat) (h : e ≤ f) : ∀ l, chain s f l → chain s e l
 | [], _ => trivial
 | x :: t, ⟨h1, h2⟩ => ⟨Nat.le_trans h h1, h2⟩
theorem text_quote (l : List UInt8) (h : 0 < textLen l) : l.head? = some 34 := by
 cases l with
 | nil => simp [textLen] at h
 | cons b t =>
   rw [textLen] at h
   split at h
   · rename_i hb
     rw [List.head?_cons, Option.some_inj]; exact UInt8.toNat_inj.1 hb
   · omega
theorem first_kind (l : List UInt8) (h : (firstL l).2.2 ≠ 0) :
   1 ≤ (firstL l).1 ∧ (firstL l).1 ≤ 4 ∧ (((firstL l).1 = 3 ∧ l.head? = some 34 ∧ 2 ≤ (firstL l).2.2) ∨ ((firstL l).1 ≠ 3 ∧ (firstL l).2.1 = l.take (firstL l).2.2)) := by
 unfold firstL at *
 have h3 := text_le l
 by_cases a1 : 0 < spanL digit l
 · rw [if_pos a1]; exact ⟨by simp, by simp, .inr ⟨by simp, rfl⟩⟩
 · rw [if_neg a1] at h ⊢
   by_cases a2 : 0 < spanL alnum l
   · rw [if_pos a2]; exact ⟨by simp, by simp, .inr ⟨by simp, rfl⟩⟩
   · rw [if_neg a2] at h ⊢
     by_cases a3 : 0 < textLen l
     · rw [if_pos a3] at h ⊢
       split at h
       · rename_i hp
         rw [if_pos hp]; exact ⟨by simp, by simp, .inl ⟨rfl, text_quote l a3, by simp only []; omega⟩⟩
       · simp at h
     · rw [if_neg a3]; exact ⟨by simp, by simp, .inr ⟨by simp, rfl⟩⟩
theorem words_chain (s : ByteArray) (p : Nat) : chain s p (wordsL (s.data.toList.drop p) p).1 := by
 refine words_ind (fun l a r => l = s.data.toList.drop a → chain s a r.1) (fun a _ => trivial) (fun l a _ _ _ => trivial) ?_ _ (s.data.toList.drop p) p (Nat.le_refl _) rfl
 intro l a hl hn ih hd
 have hs : s.data.toList.length = s.size := by simp
 have hle := first_le l
 have hp : 0 < l.length := List.length_pos_iff.2 hl
 have hll : l.length = s.size - a := by rw [hd, List.length_drop, hs]
 obtain ⟨k1, k2, k3⟩ := first_kind l hn
 have ih2 := ih (by rw [hd]; simp only [List.drop_drop])
 refine ⟨Nat.le_refl _, by simp only []; omega, k1, k2, ?_⟩
 rcases k3 with ⟨e, hh, hb⟩ | ⟨e, ht⟩
 · left
   refine ⟨e, ?_, chain_less s _ _ ?_ _ ih2⟩
   · rw [hd, head_at] at hh; exact hh.2
   · simp only []; omega
 · right
   have htl : (firstL l).2.1.length = (firstL l).2.2 := by rw [ht, List.length_take]; omega
   simp only []
   refine ⟨e, ?_, by omega, ?_, chain_less s _ _ (by rw [htl]; omega) _ ih2⟩
   · intro e0; rw [e0] at htl; simp at htl; omega
   · rw [htl]; rw [ht, hd]; rfl
theorem all_chain (s : ByteArray) : chain s 0 (allW s) := by
 unfold allW
 split
 · trivial
 · exact chain_less s 0 _ (Nat.zero_le _) _ (by rw [cutL, Nat.zero_add]; exact words_chain s _)
theorem all_len (s : ByteArray) : (allW s).length ≤ s.size := by
 have key : ∀ (l : List Wd) (e : Nat), e ≤ s.size → chain s e l → l.length + e ≤ s.size := by
   intro l
   induction l with
   | nil => intro e he _; simpa using he
   | cons x t ih =>
     intro e he h
     obtain ⟨h1, h2, _, _, h3⟩ := h
     rcases h3 with ⟨_, _, h4⟩ | ⟨_, h0, h5, _, h4⟩
     · have := ih _ (by omega) h4
       simp only [List.length_cons]; omega
     · have := ih _ (by omega) h4
       have : 0 < x.t.length := List.length_pos_iff.2 h0
       simp only [List.length_cons]; omega
 have := key _ 0 (Nat.zero_le _) (all_chain s)
 omega
end
section
open Go.RowKit
@[go_sem] theorem is_expr_expr (v : Value) (w : World) : (Instr.typeAssert (.iface 100 v) 113 100 true).run Tryz.prog w = .ok (.tuple #[v, .bool true]) w := by kernel_rfl
@[go_sem] theorem is_expr_stmt (v : Value) (w : World) : (Instr.typeAssert (.iface 100 v) 113 145 true).run Tryz.prog w = .ok (.tuple #[.pointer none, .bool false]) w := by kernel_rfl
@[go_sem] theorem is_expr_field (v : Value) (w : World) : (Instr.typeAssert (.iface 100 v) 113 151 true).run Tryz.prog w = .ok (.tuple #[.pointer none, .bool false]) w := by kernel_rfl
@[go_sem] theorem is_expr_method (v : Value) (w : World) : (Instr.typeAssert (.iface 100 v) 113 148 true).run Tryz.prog w = .ok (.tuple #[.pointer none, .bool false]) w := by kernel_rfl
@[go_sem] theorem is_expr_class (v : Value) (w : World) : (Instr.typeAssert (.iface 100 v) 113 88 true).run Tryz.prog w = .ok (.tuple #[.pointer none, .bool false]) w := by kernel_rfl
@[go_sem] theorem is_stmt_expr (v : Value) (w : World) : (Instr.typeAssert (.iface 145 v) 113 100 true).run Tryz.prog w = .ok (.tuple #[.pointer none, .bool false]) w := by kernel_rfl
@[go_sem] theorem is_stmt_stmt (v : Value) (w : World) : (Instr.typeAssert (.iface 145 v) 113 145 true).run Tryz.prog w = .ok (.tuple #[v, .bool true]) w := by kernel_rfl
@[go_sem] theorem is_stmt_field (v : Value) (w : World) : (Instr.typeAssert (.iface 145 v) 113 151 true).run Tryz.prog w = .ok (.tuple #[.pointer none, .bool false]) w := by kernel_rfl
@[go_sem] theorem is_stmt_method (v : Value) (w : World) : (Instr.typeAssert (.iface 145 v) 113 148 true).run Tryz.prog w = .ok (.tuple #[.pointer none, .bool false]) w := by kernel_rfl
@[go_sem] theorem is_stmt_class (v : Value) (w : World) : (Instr.typeAssert (.iface 145 v) 113 88 true).run Tryz.prog w = .ok (.tuple #[.pointer none, .bool false]) w := by kernel_rfl
@[go_sem] theorem is_field_expr (v : Value) (w : World) : (Instr.typeAssert (.iface 151 v) 113 100 true).run Tryz.prog w = .ok (.tuple #[.pointer none, .bool false]) w := by kernel_rfl
@[go_sem] theorem is_field_stmt (v : Value) (w : World) : (Instr.typeAssert (.iface 151 v) 113 145 true).run Tryz.prog w = .ok (.tuple #[.pointer none, .bool false]) w := by kernel_rfl
@[go_sem] theorem is_field_field (v : Value) (w : World) : (Instr.typeAssert (.iface 151 v) 113 151 true).run Tryz.prog w = .ok (.tuple #[v, .bool true]) w := by kernel_rfl
@[go_sem] theorem is_field_method (v : Value) (w : World) : (Instr.typeAssert (.iface 151 v) 113 148 true).run Tryz.prog w = .ok (.tuple #[.pointer none, .bool false]) w := by kernel_rfl
@[go_sem] theorem is_field_class (v : Value) (w : World) : (Instr.typeAssert (.iface 151 v) 113 88 true).run Tryz.prog w = .ok (.tuple #[.pointer none, .bool false]) w := by kernel_rfl
@[go_sem] theorem is_method_expr (v : Value) (w : World) : (Instr.typeAssert (.iface 148 v) 113 100 true).run Tryz.prog w = .ok (.tuple #[.pointer none, .bool false]) w := by kernel_rfl
@[go_sem] theorem is_method_stmt (v : Value) (w : World) : (Instr.typeAssert (.iface 148 v) 113 145 true).run Tryz.prog w = .ok (.tuple #[.pointer none, .bool false]) w := by kernel_rfl
@[go_sem] theorem is_method_field (v : Value) (w : World) : (Instr.typeAssert (.iface 148 v) 113 151 true).run Tryz.prog w = .ok (.tuple #[.pointer none, .bool false]) w := by kernel_rfl
@[go_sem] theorem is_method_method (v : Value) (w : World) : (Instr.typeAssert (.iface 148 v) 113 148 true).run Tryz.prog w = .ok (.tuple #[v, .bool true]) w := by kernel_rfl
@[go_sem] theorem is_method_class (v : Value) (w : World) : (Instr.typeAssert (.iface 148 v) 113 88 true).run Tryz.prog w = .ok (.tuple #[.pointer none, .bool false]) w := by kernel_rfl
@[go_sem] theorem is_class_expr (v : Value) (w : World) : (Instr.typeAssert (.iface 88 v) 113 100 true).run Tryz.prog w = .ok (.tuple #[.pointer none, .bool false]) w := by kernel_rfl
@[go_sem] theorem is_class_stmt (v : Value) (w : World) : (Instr.typeAssert (.iface 88 v) 113 145 true).run Tryz.prog w = .ok (.tuple #[.pointer none, .bool false]) w := by kernel_rfl
@[go_sem] theorem is_class_field (v : Value) (w : World) : (Instr.typeAssert (.iface 88 v) 113 151 true).run Tryz.prog w = .ok (.tuple #[.pointer none, .bool false]) w := by kernel_rfl
@[go_sem] theorem is_class_method (v : Value) (w : World) : (Instr.typeAssert (.iface 88 v) 113 148 true).run Tryz.prog w = .ok (.tuple #[.pointer none, .bool false]) w := by kernel_rfl
@[go_sem] theorem is_class_class (v : Value) (w : World) : (Instr.typeAssert (.iface 88 v) 113 88 true).run Tryz.prog w = .ok (.tuple #[v, .bool true]) w := by kernel_rfl
theorem Grew.of_drew {w w' : World} {v v' : Value} (h : Grew w.drew w' v v') : Grew w w' v v' := ⟨⟨h.1.os, h.1.tape, h.1.output, h.1.size, h.1.block⟩, h.2⟩
theorem grew_below {W0 w w' : World} {v v' : Value} {e : TypeId} {n : Nat} {xs : List Value} (hb : Below W0.heap.size W0 w) (ho : w.ownsRow W0.heap.size e 1 v n xs) (hg : Grew w w' v v') : Below W0.heap.size W0 w' :=
 hb.trans (hg.below hb.size fun k hk => (ho.lt k hk).1)
theorem Pt.at_.below {W0 w : World} {p : Pt} (h : p.at_ W0) (hb : Below W0.heap.size W0 w) : p.at_ w := h.keep (Keep.below hb)
theorem Pt.at_.cell {w : World} {p : Pt} (h : p.at_ w) (j : Nat) {u : Value} (hu : (cellsN p.x)[j]? = some u) : w.cell? ⟨p.b, p.o + j, none⟩ = some u := h.1 j u hu
theorem said_mk {a c : World} {B : Nat} {v v1 : Value} {qs qs' : List Pt} (ho : c.ownsRow B 113 1 v1 qs.length (qs.map ptV)) (hg : Grew a c v v1) (hq : qs = qs') : AddSaid a B v qs' (.returned v1) c := by subst hq; exact ⟨v1, rfl, ho, hg⟩
theorem within_ex (W0 w : World) (v : Value) (ps : List Pt) (b o : Nat) (k n : Int) (tx nm ty : ByteArray) (nv : Value) (l : List Nd) (own : ByteArray) (nth : Int) (hb : Below W0.heap.size W0 w)
   (hown : w.ownsRow W0.heap.size 113 1 v ps.length (ps.map ptV)) (hp : Pt.at_ W0 ⟨b, o, .ex k n tx nm ty nv l own nth⟩) (hs : ps.length + (l.length) ≤ 1000000) :
   Calls Tryz.prog 62 #[v, .iface 100 (.pointer (some ⟨b, o, none⟩))] w (AddSaid w W0.heap.size v (ps ++ kidsP (.ex k n tx nm ty nv l own nth))) := by
 have hk := hp.2; rw [Kd] at hk
 have hl0 := ptsV_len (hk.2.1)
 have R0 := Lib.hid (hk.2.1)
 clear hk
 go_enter Tryz.func62, Tryz.ntmps62
 have c0 : w.cell? ⟨b, o + 5, none⟩ = some nv := (hp.below hb).cell 5 rfl
 have H0 := Lib.hid (add_ex w W0.heap.size v (ps) nv l hb.size hown (R0.out.keep (Keep.below hb)) (by omega))
 go_wp2_with fail
 refine (H0.out).mono ?_
 clear H0
 rintro e0 w1 ⟨v1, rfl, ho1, hg1⟩
 have hb1 := grew_below hb hown hg1
 clear c0
 go_wp2_with fail
 go_ret
 exact said_mk ho1 (hg1) (by simp [kidsP])
theorem within_st (W0 w : World) (v : Value) (ps : List Pt) (b o : Nat) (k n : Int) (ty nm : ByteArray) (ve va vb vc : Value) (e a b' c : List Nd) (nth : Int) (hb : Below W0.heap.size W0 w)
   (hown : w.ownsRow W0.heap.size 113 1 v ps.length (ps.map ptV)) (hp : Pt.at_ W0 ⟨b, o, .st k n ty nm ve va vb vc e a b' c nth⟩) (hs : ps.length + (e.length + a.length + b'.length + c.length) ≤ 1000000) :
   Calls Tryz.prog 62 #[v, .iface 145 (.pointer (some ⟨b, o, none⟩))] w (AddSaid w W0.heap.size v (ps ++ kidsP (.st k n ty nm ve va vb vc e a b' c nth))) := by
 have hk := hp.2; rw [Kd] at hk
 have hl0 := ptsV_len (hk.2.1.1)
 have R0 := Lib.hid (hk.2.1.1)
 have hl1 := ptsV_len (hk.2.2.1.1)
 have R1 := Lib.hid (hk.2.2.1.1)
 have hl2 := ptsV_len (hk.2.2.2.1.1)
 have R2 := Lib.hid (hk.2.2.2.1.1)
 have hl3 := ptsV_len (hk.2.2.2.2.1)
 have R3 := Lib.hid (hk.2.2.2.2.1)
 clear hk
 go_enter Tryz.func62, Tryz.ntmps62
 have c0 : w.cell? ⟨b, o + 4, none⟩ = some ve := (hp.below hb).cell 4 rfl
 have H0 := Lib.hid (add_ex w W0.heap.size v (ps) ve e hb.size hown (R0.out.keep (Keep.below hb)) (by omega))
 go_wp2_with fail
 refine (H0.out).mono ?_
 clear H0
 rintro e0 w1 ⟨v1, rfl, ho1, hg1⟩
 have hb1 := grew_below hb hown hg1
 clear c0
 have c1 : w1.cell? ⟨b, o + 5, none⟩ = some va := (hp.below hb1).cell 5 rfl
 have H1 := Lib.hid (add_st w1 W0.heap.size v1 (ps ++ ptsV .ex ve e) va a hb1.size ho1 (R1.out.keep (Keep.below hb1)) (by simp only [List.length_append]; omega))
 go_wp2_with fail
 refine (H1.out).mono ?_
 clear H1
 rintro e1 w2 ⟨v2, rfl, ho2, hg2⟩
 have hb2 := grew_below hb1 ho1 hg2
 clear c1
 have c2 : w2.cell? ⟨b, o + 6, none⟩ = some vb := (hp.below hb2).cell 6 rfl
 have H2 := Lib.hid (add_st w2 W0.heap.size v2 (ps ++ ptsV .ex ve e ++ ptsV .st va a) vb b' hb2.size ho2 (R2.out.keep (Keep.below hb2)) (by simp only [List.length_append]; omega))
 go_wp2_with fail
 refine (H2.out).mono ?_
 clear H2
 rintro e2 w3 ⟨v3, rfl, ho3, hg3⟩
 have hb3 := grew_below hb2 ho2 hg3
 clear c2
 have c3 : w3.cell? ⟨b, o + 7, none⟩ = some vc := (hp.below hb3).cell 7 rfl
 have H3 := Lib.hid (add_st w3 W0.heap.size v3 (ps ++ ptsV .ex ve e ++ ptsV .st va a ++ ptsV .st vb b') vc c hb3.size ho3 (R3.out.keep (Keep.below hb3)) (by simp only [List.length_append]; omega))
 go_wp2_with fail
 refine (H3.out).mono ?_
 clear H3
 rintro e3 w4 ⟨v4, rfl, ho4, hg4⟩
 have hb4 := grew_below hb3 ho3 hg4
 clear c3
 go_wp2_with fail
 go_ret
 exact said_mk ho4 ((((hg1).trans hg2).trans hg3).trans hg4) (by simp [kidsP])
theorem within_mt (W0 w : World) (v : Value) (ps : List Pt) (b o : Nat) (s c : Bool) (ty nm : ByteArray) (vp : Value) (qs : List (ByteArray × ByteArray)) (nv : Value) (l : List Nd) (hb : Below W0.heap.size W0 w)
   (hown : w.ownsRow W0.heap.size 113 1 v ps.length (ps.map ptV)) (hp : Pt.at_ W0 ⟨b, o, .mt s c ty nm vp qs nv l⟩) (hs : ps.length + (l.length) ≤ 1000000) :
   Calls Tryz.prog 62 #[v, .iface 148 (.pointer (some ⟨b, o, none⟩))] w (AddSaid w W0.heap.size v (ps ++ kidsP (.mt s c ty nm vp qs nv l))) := by
 have hk := hp.2; rw [Kd] at hk
 have hl0 := ptsV_len (hk.2.2.1)
 have R0 := Lib.hid (hk.2.2.1)
 clear hk
 go_enter Tryz.func62, Tryz.ntmps62
 have c0 : w.cell? ⟨b, o + 5, none⟩ = some nv := (hp.below hb).cell 5 rfl
 have H0 := Lib.hid (add_st w W0.heap.size v (ps) nv l hb.size hown (R0.out.keep (Keep.below hb)) (by omega))
 go_wp2_with fail
 refine (H0.out).mono ?_
 clear H0
 rintro e0 w1 ⟨v1, rfl, ho1, hg1⟩
 have hb1 := grew_below hb hown hg1
 clear c0
 go_wp2_with fail
 go_ret
 exact said_mk ho1 (hg1) (by simp [kidsP])
theorem within_fd (W0 w : World) (v : Value) (ps : List Pt) (b o : Nat) (s : Bool) (ty nm : ByteArray) (nv : Value) (l : List Nd) (hb : Below W0.heap.size W0 w)
   (hown : w.ownsRow W0.heap.size 113 1 v ps.length (ps.map ptV)) (hp : Pt.at_ W0 ⟨b, o, .fd s ty nm nv l⟩) (hs : ps.length + (l.length) ≤ 1000000) :
   Calls Tryz.prog 62 #[v, .iface 151 (.pointer (some ⟨b, o, none⟩))] w (AddSaid w W0.heap.size v (ps ++ kidsP (.fd s ty nm nv l))) := by
 have hk := hp.2; rw [Kd] at hk
 have hl0 := ptsV_len (hk.2.1)
 have R0 := Lib.hid (hk.2.1)
 clear hk
 go_enter Tryz.func62, Tryz.ntmps62
 have c0 : w.cell? ⟨b, o + 3, none⟩ = some nv := (hp.below hb).cell 3 rfl
 have H0 := Lib.hid (add_ex w W0.heap.size v (ps) nv l hb.size hown (R0.out.keep (Keep.below hb)) (by omega))
 go_wp2_with fail
 refine (H0.out).mono ?_
 clear H0
 rintro e0 w1 ⟨v1, rfl, ho1, hg1⟩
 have hb1 := grew_below hb hown hg1
 clear c0
 go_wp2_with fail
 go_ret
 exact said_mk ho1 (hg1) (by simp [kidsP])
theorem within_cl (W0 w : World) (v : Value) (ps : List Pt) (b o : Nat) (nm sp : ByteArray) (vf vm : Value) (f m : List Nd) (hb : Below W0.heap.size W0 w)
   (hown : w.ownsRow W0.heap.size 113 1 v ps.length (ps.map ptV)) (hp : Pt.at_ W0 ⟨b, o, .cl nm sp vf vm f m⟩) (hs : ps.length + (f.length + m.length) ≤ 1000000) :
   Calls Tryz.prog 62 #[v, .iface 88 (.pointer (some ⟨b, o, none⟩))] w (AddSaid w W0.heap.size v (ps ++ kidsP (.cl nm sp vf vm f m))) := by
 have hk := hp.2; rw [Kd] at hk
 have hl0 := ptsV_len hk.2.1.1
 have R0 := Lib.hid hk.2.1.1
 have R1 := Lib.hid hk.2.2.1
 clear hk
 have c2 : w.cell? ⟨b, o + 2, none⟩ = some vf := (hp.below hb).cell 2 rfl
 have c3 : w.cell? ⟨b, o + 3, none⟩ = some vm := (hp.below hb).cell 3 rfl
 have H1 : Hid (∀ w1 v1, Below W0.heap.size W0 w1 → w1.ownsRow W0.heap.size 113 1 v1 (ps ++ ptsV .fd vf f).length ((ps ++ ptsV .fd vf f).map ptV) → Calls Tryz.prog 97 #[v1, vm] w1 (AddSaid w1 W0.heap.size v1 (ps ++ ptsV .fd vf f ++ ptsV .mt vm m))) := by
   show ∀ w1 v1, _
   intro w1 v1 h1 h2
   exact add_mt w1 W0.heap.size v1 _ vm m h1.size h2 (R1.out.keep (Keep.below h1)) (by simp only [List.length_append]; omega)
 go_enter Tryz.func62, Tryz.ntmps62
 go_wp2_with fail
 go_region_with (first | (go_at_call 98; refine (add_fd _ W0.heap.size v ps vf f hb.drew.size hown.drew (R0.out.keep (Keep.below hb.drew)) (by omega)).mono ?_; rintro e1 w1 ⟨v1, rfl, ho1, hg1⟩; have hb1 := grew_below hb.drew hown.drew hg1; have c3b : w1.cell? ⟨b, o + 3, none⟩ = some vm := (hp.below hb1).cell 3 rfl) | (go_at_call 97; refine (H1.out _ _ hb1 ho1).mono ?_; clear H1; rintro e2 w2 ⟨v2, rfl, ho2, hg2⟩))
 all_goals go_wp2_with fail
 all_goals go_ret
 all_goals exact said_mk ho2 (hg1.of_drew.trans hg2) (by simp [kidsP])
theorem within_any (W0 w : World) (v : Value) (ps : List Pt) (p : Pt) (hb : Below W0.heap.size W0 w) (hown : w.ownsRow W0.heap.size 113 1 v ps.length (ps.map ptV)) (hp : p.at_ W0) (hs : ps.length + (kidsP p.x).length ≤ 1000000) :
   Calls Tryz.prog 62 #[v, ptV p] w (AddSaid w W0.heap.size v (ps ++ kidsP p.x)) := by
 obtain ⟨b, o, x⟩ := p
 have hk := hp.2
 cases x <;> rw [Kd] at hk <;> simp only [kidsP, List.length_append] at hs
 · exact within_ex W0 w v ps b o _ _ _ _ _ _ _ _ _ hb hown hp (by rw [← ptsV_len hk.2.1]; omega)
 · exact within_st W0 w v ps b o _ _ _ _ _ _ _ _ _ _ _ _ _ hb hown hp (by rw [← ptsV_len hk.2.1.1, ← ptsV_len hk.2.2.1.1, ← ptsV_len hk.2.2.2.1.1, ← ptsV_len hk.2.2.2.2.1]; omega)
 · exact within_fd W0 w v ps b o _ _ _ _ _ hb hown hp (by rw [← ptsV_len hk.2.1]; omega)
 · exact within_mt W0 w v ps b o _ _ _ _ _ _ _ _ hb hown hp (by rw [← ptsV_len hk.2.2.1]; omega)
 · exact within_cl W0 w v ps b o _ _ _ _ _ _ hb hown hp (by rw [← ptsV_len hk.2.1.1, ← ptsV_len hk.2.2.1]; omega)
end
section
open Go.RowKit
theorem Bx.grew {w w1 : World} {b : Nat} {cs : Array Value} {T : TypeId} {v v' : Value} (h : Bx w b cs T) (hg : Grew w w1 v v') (hne : v.ownBlock ≠ some b) : Bx w1 b cs T := (hg.1.block b h.lt (fun e => hne e.symm)).trans h
theorem step_any (x : Value) (c : Nat) (m : Int) (w : World) (h : Bx w c #[.int .i64 m] 3) (h0 : 0 ≤ m) (h1 : m ≤ 1000000) :
   Calls Tryz.prog 76 #[x, .pointer (some ⟨c, 0, none⟩)] w fun e w' => e = .returned (.tuple #[]) ∧ w' = w.setCell ⟨c, 0, none⟩ (.int .i64 (m + 1)) := by
 have c0 : w.cell? ⟨c, 0, none⟩ = some (.int .i64 m) := h.cell 0
 have f0 := h.fro 0
 clear h
 go_enter Tryz.func76, Tryz.ntmps76
 go_wp2_with fail
 exact bodyPost_end (v := .tuple #[]) (by simp [results, Tryz.results76, go_sem]) rfl ⟨rfl, rfl⟩
theorem own_last {w : World} {B : Nat} {e : TypeId} {v : Value} {ps : List Pt} {x : Pt} (h : w.ownsRow B e 1 v (ps ++ [x]).length ((ps ++ [x]).map ptV)) :
   ∃ g cap, v = .slice (some ⟨g, 0, none⟩) (ps.length + 1) cap ∧ ps.length + 1 ≤ cap ∧ w.cell? ⟨g, ps.length, none⟩ = some (ptV x) ∧ w.ownsRow B e 1 (.slice (some ⟨g, 0, none⟩) ps.length cap) ps.length (ps.map ptV) := by
 rw [List.length_append, List.map_append] at h
 obtain ⟨g, cap, rfl, _, _⟩ := h.form (by simp)
 have hc := h.cells (g := g) rfl ps.length (ptV x) (by simp)
 have hadd : (⟨g, 0, none⟩ : Addr).add ps.length = ⟨g, ps.length, none⟩ := by unfold Addr.add; split <;> simp_all
 rw [hadd] at hc
 refine ⟨g, cap, rfl, ?_, hc, ownsRow_pop (last := [x].map ptV) (by simp) h⟩
 obtain ⟨A, cap', hv, hle⟩ := own_form h
 injection hv with _ _ h3
 subst h3; exact hle
structure EC (W0 : World) (c : Nat) (m : Int) (N : Nat) (ps : List Pt) (v : Value) (w : World) : Prop where
 own : w.ownsRow W0.heap.size 113 1 v ps.length (ps.map ptV)
 bel : Below W0.heap.size W0 w
 ne : v.ownBlock ≠ some c
 hc : W0.heap.size ≤ c
 bx : Bx w c #[.int .i64 (m + (N - sizeP ps : Nat))] 3
 at_ : ∀ p ∈ ps, p.at_ W0
 le : sizeP ps ≤ N
theorem sizeP_one (x : Pt) : sizeP [x] = x.x.size := by simp [sizeP, sizeL]
theorem EC.set {W0 w : World} {c N : Nat} {m k : Int} {ps : List Pt} {x : Pt} {g cap : Nat} (h : EC W0 c m N (ps ++ [x]) (.slice (some ⟨g, 0, none⟩) (ps.length + 1) cap) w) (hk : k = m + (N - sizeP (ps ++ [x]) : Nat) + 1) :
   Below W0.heap.size W0 (w.setCell ⟨c, 0, none⟩ (.int .i64 k)) ∧ (w.setCell ⟨c, 0, none⟩ (.int .i64 k)).ownsRow W0.heap.size 113 1 (.slice (some ⟨g, 0, none⟩) ps.length cap) ps.length (ps.map ptV) ∧ x.at_ W0 ∧ ps.length + (kidsP x.x).length ≤ N := by
 have ho := h.own
 obtain ⟨g', cap', hv, _, _, ho'⟩ := own_last ho
 injection hv with h1 h2 h3
 injection h1 with h1
 injection h1 with h1
 subst h1; subst h3
 have hx := h.at_ x (by simp)
 refine ⟨h.bel.setCell h.hc _, ownsRow_setCell_other ho' (by have := h.ne; simpa [Value.ownBlock] using this) _, hx, ?_⟩
 have := h.le
 rw [sizeP_append, sizeP_one, sizeP_kids hx.2] at this
 have := len_sizeP ps
 have := len_sizeP (kidsP x.x)
 omega
theorem EC.step {W0 w w2 : World} {c N : Nat} {m k : Int} {ps : List Pt} {x : Pt} {g cap : Nat} {v2 : Value} (h : EC W0 c m N (ps ++ [x]) (.slice (some ⟨g, 0, none⟩) (ps.length + 1) cap) w) (hk : k = m + (N - sizeP (ps ++ [x]) : Nat) + 1)
   (ho : w2.ownsRow W0.heap.size 113 1 v2 (ps ++ kidsP x.x).length ((ps ++ kidsP x.x).map ptV)) (hg : Grew (w.setCell ⟨c, 0, none⟩ (.int .i64 k)) w2 (.slice (some ⟨g, 0, none⟩) ps.length cap) v2) :
   EC W0 c m N (ps ++ kidsP x.x) v2 w2 ∧ sizeP (ps ++ kidsP x.x) < sizeP (ps ++ [x]) := by
 obtain ⟨hb, ho1, hx, hl⟩ := h.set hk
 have hb2 := grew_below hb ho1 hg
 have hbx := (h.bx.set 0 (.int .i64 k)).grew hg (by have := h.ne; simpa [Value.ownBlock] using this)
 have hlt : c < w.heap.size := h.bx.lt
 have hsz := h.le
 rw [sizeP_append, sizeP_one, sizeP_kids hx.2] at hsz
 refine ⟨⟨ho, hb2, ?_, h.hc, ?_, ?_, by rw [sizeP_append]; omega⟩, by rw [sizeP_append, sizeP_append, sizeP_one, sizeP_kids hx.2]; omega⟩
 · rcases hg.2 with e | e
   · rw [e]; have := h.ne; simpa [Value.ownBlock] using this
   · intro e'; have := e c e'; simp at this; omega
 · have : (#[Value.int .i64 (m + (N - sizeP (ps ++ [x]) : Nat))].setIfInBounds 0 (.int .i64 k)) = #[.int .i64 (m + (N - sizeP (ps ++ kidsP x.x) : Nat))] := by
     rw [hk, sizeP_append, sizeP_append, sizeP_one, sizeP_kids hx.2]
     simp only [List.setIfInBounds_toArray, List.set_cons_zero]
     congr 3; omega
   rw [← this]; exact hbx
 · intro p hp
   rcases List.mem_append.1 hp with hp | hp
   · exact h.at_ p (by simp [hp])
   · exact kidsP_at hx.2 p hp
theorem list_end {α : Type} (l : List α) : l = [] ∨ ∃ a x, l = a ++ [x] := by
 rcases List.eq_nil_or_concat l with h | ⟨a, x, h⟩
 · exact .inl h
 · exact .inr ⟨a, x, by simpa using h⟩
theorem each_count (W0 w : World) (c : Nat) (m : Int) (ps : List Pt) (v : Value) (h : EC W0 c m (sizeP ps) ps v w) (h0 : 0 ≤ m) (h1 : m + sizeP ps ≤ 1000000) :
   Calls Tryz.prog 75 #[v, .func (.func 76) #[] #[.pointer (some ⟨c, 0, none⟩)]] w fun e w' => e = .returned (.tuple #[]) ∧ Below W0.heap.size W0 w' ∧ Bx w' c #[.int .i64 (m + sizeP ps)] 3 := by
 obtain ⟨N, hN⟩ : ∃ N, sizeP ps = N := ⟨_, rfl⟩
 rw [hN] at h h1 ⊢
 have HN := Lib.hid hN; clear hN
 go_enter Tryz.func75, Tryz.ntmps75
 go_wp2_with fail
 go_loopg [0] N (fun q v0 wr => ∃ ps1, q = sizeP ps1 ∧ EC W0 c m N ps1 v0 wr)
 case atStart => exact ⟨ps, HN.out.symm, h⟩
 case round =>
   obtain ⟨ps1, rfl, hE⟩ := hrel
   clear h
   rcases list_end ps1 with rfl | ⟨a, x, rfl⟩
   · obtain ⟨A, cap, rfl, _⟩ := own_form hE.own
     have hbx := hE.bx
     have hbl := hE.bel
     clear hE
     go_wp2_with fail
     exact bodyPost_end (v := .tuple #[]) (by simp [results, Tryz.results75, go_sem]) rfl ⟨rfl, hbl, hbx⟩
   · obtain ⟨g, cap, rfl, hcap, hcell, _⟩ := own_last hE.own
     have hle := hE.le
     have hal := len_sizeP (a ++ [x])
     rw [List.length_append, List.length_singleton] at hal
     obtain ⟨k, hk⟩ : ∃ k, k = m + (N - sizeP (a ++ [x]) : Nat) + 1 := ⟨_, rfl⟩
     have hbx := hE.bx
     have hb1 : m + (N - sizeP (a ++ [x]) : Nat) = k - 1 := by omega
     rw [hb1] at hbx
     have HE := Lib.hid hE
     have HK := Lib.hid hk
     have hk0 : 0 ≤ k - 1 := by omega
     have hk1 : k - 1 ≤ 1000000 := by omega
     obtain ⟨hB, hO, hX, hL⟩ := hE.set hk
     have HS := Lib.hid (within_any W0 (wr.setCell ⟨c, 0, none⟩ (.int .i64 k)) (.slice (some ⟨g, 0, none⟩) a.length cap) a x hB hO hX (by omega))
     clear hE hk hb1 hB hO hX
     have hnn : (a.length : Int) + 1 ≤ 1000000 := by omega
     go_wp2_with (go_at_call 76; refine (step_any _ c (k - 1) _ hbx hk0 hk1).mono ?_; rintro e w1 ⟨rfl, rfl⟩)
     refine HS.out.mono ?_
     clear HS
     rintro e w2 ⟨v2, rfl, ho2, hg2⟩
     obtain ⟨hE2, hlt⟩ := HE.out.step HK.out ho2 hg2
     have HE2 := Lib.hid hE2
     have HLT := Lib.hid hlt
     clear hE2 hlt ho2 hg2 hbx hcell
     go_wp2_with fail
     go_roundg (sizeP (a ++ kidsP x.x))
     case rel => exact ⟨_, rfl, HE2.out⟩
     case measure => exact HLT.out
theorem count_any (W0 w : World) (ps : List Pt) (v : Value) (hb : Below W0.heap.size W0 w) (ho : w.ownsRow W0.heap.size 113 1 v ps.length (ps.map ptV)) (hp : ∀ p ∈ ps, p.at_ W0) (hs : sizeP ps ≤ 1000000) :
   Calls Tryz.prog 51 #[v] w fun e w' => e = .returned (.int .i64 (sizeP ps : Nat)) ∧ Below W0.heap.size W0 w' := by
 have hsz := hb.size
 have hE : EC W0 w.heap.size 0 (sizeP ps) ps v (w.alloc (.cells #[.int .i64 0] 3)) :=
   ⟨ho.alloc _, hb.alloc hsz _, fun e => by have := (ho.lt _ e).2; omega, hsz, by simpa using Bx.new w #[.int .i64 0] 3, hp, Nat.le_refl _⟩
 obtain ⟨N, hN⟩ : ∃ N, sizeP ps = N := ⟨_, rfl⟩
 have HC := Lib.hid (each_count W0 (w.alloc (.cells #[.int .i64 0] 3)) w.heap.size 0 ps v hE (by omega) (by omega))
 rw [hN] at HC ⊢
 clear hE ho hp hb hN
 go_enter Tryz.func51, Tryz.ntmps51
 go_wp2_with (go_at_call 75; refine HC.out.mono ?_; clear HC; rintro e w1 ⟨rfl, hb1, hbx⟩; have c0 : w1.cell? ⟨w.heap.size, 0, none⟩ = some (.int .i64 N) := by rw [hbx.cell 0]; simp)
 go_ret
 exact ⟨rfl, hb1⟩
end
section
open Go.RowKit
abbrev Prm := ByteArray × ByteArray
theorem Pw.form {w : World} {v : Value} {l : List Prm} (h : Pw w v l) : ∃ A cap, v = .slice A l.length cap ∧ l.length ≤ maxLen := by
 obtain ⟨A, cap, hv, hm, _⟩ := h; exact ⟨A, cap, hv, hm⟩
theorem drop_at {α : Type} (l : List α) (k : Nat) {x : α} (h : l[k]? = some x) : l.drop k = x :: l.drop (k + 1) := by
 obtain ⟨hk, he⟩ := List.getElem?_eq_some_iff.1 h
 rw [List.drop_eq_getElem_cons hk, he]
theorem Pw.at {w : World} {A : Option Addr} {n cap : Nat} {l : List Prm} (h : Pw w (.slice A n cap) l) : l.length = n ∧ ∀ k, k < n → ∃ b o x, A = some ⟨b, o, none⟩ ∧ l[k]? = some x ∧ w.cell? ⟨b, o + k * 2, none⟩ = some (.string x.1) ∧ w.cell? ⟨b, o + k * 2 + 1, none⟩ = some (.string x.2) := by
 obtain ⟨A', cap', hv, _, _, hc⟩ := h
 injection hv with h1 h2 h3
 refine ⟨h2.symm, fun k hk => ?_⟩
 obtain ⟨b, o, hA, hcell⟩ := hc (by omega)
 have hl : k < l.length := by omega
 exact ⟨b, o, l[k], h1.trans hA, List.getElem?_eq_getElem hl, hcell k _ (List.getElem?_eq_getElem hl)⟩
theorem keep_alloc (w : World) (o : Obj) : Keep w (w.alloc o) := Keep.below ((Below.refl _ _).alloc (Nat.le_refl _) _)
theorem at_new {w : World} {x : Nd} {T : TypeId} {cs : Array Value} (hk : Kd w x) (hc : cs.toList = cellsN x) : Pt.at_ (w.alloc (.cells cs T)) ⟨w.heap.size, 0, x⟩ := by
 refine ⟨fun j u hu => ?_, Kd.keep (Keep.below ((Below.refl _ w).alloc (Nat.le_refl _) _)) _ hk⟩
 have := (Bx.new w cs T).cell j
 simp only [Nat.zero_add]
 rw [this, ← hu, ← hc]; simp
theorem own_one (w : World) (b : Nat) (p : Pt) (u : Value) (hb : b = w.heap.size) (hu : u = ptV p) : (w.alloc (.cells #[u] 113)).ownsRow w.heap.size 113 1 (.slice (some ⟨b, 0, none⟩) 1 1) [p].length ([p].map ptV) := by
 have := World.ownsRow_lit (base := w.heap.size) (e := 113) (size := 1) w #[u] 1 (Nat.le_refl _) (by unfold maxLen; omega) (by simp)
 rw [hb, hu] at *; simpa using this
theorem count_one (w : World) (T : TypeId) (cs : Array Value) (x : Nd) (s : Nat) (hk : Kd w x) (hc : cs.toList = cellsN x) (hs : x.size = s) (hs2 : s ≤ 1000000) (u : Value) (hu : u = .iface x.tag.ptr (.pointer (some ⟨w.heap.size, 0, none⟩))) :
   Calls Tryz.prog 51 #[.slice (some ⟨w.heap.size + 1, 0, none⟩) 1 1] ((w.alloc (.cells cs T)).alloc (.cells #[u] 113)) fun e w' => e = .returned (.int .i64 (s : Nat)) ∧ Below w.heap.size w w' := by
 have hp := at_new (T := T) hk hc
 have ho := own_one (w.alloc (.cells cs T)) (w.heap.size + 1) ⟨w.heap.size, 0, x⟩ u (by simp) hu
 have := count_any (w.alloc (.cells cs T)) _ _ _ ((Below.refl _ _).alloc (Nat.le_refl _) (.cells #[u] 113)) ho (by intro p hp'; simp at hp'; subst hp'; exact hp) (by rw [sizeP_one, hs]; exact hs2)
 refine this.mono ?_
 rintro e w' ⟨rfl, hb⟩
 rw [sizeP_one]
 refine ⟨by rw [← hs], below_box hb⟩
theorem expr_any (w : World) (k n : Int) (tx nm ty : ByteArray) (nv : Value) (l : List Nd) (own : ByteArray) (nth : Int) (hk : Kd w (.ex k n tx nm ty nv l own nth)) (s : Nat) (hs : (Nd.ex k n tx nm ty nv l own nth).size = s) (hs2 : s ≤ 1000000) :
   Calls Tryz.prog 30 #[.agg #[.int .i64 k, .int .i32 n, .string tx, .string nm, .string ty, nv, .string own, .int .i64 nth]] w fun e w' => e = .returned (.int .i64 s) ∧ Below w.heap.size w w' := by
 have HS := Lib.hid (count_one w 36 #[.int .i64 k, .int .i32 n, .string tx, .string nm, .string ty, nv, .string own, .int .i64 nth] _ s hk rfl hs hs2 _ rfl)
 clear hk hs
 go_enter Tryz.func30, Tryz.ntmps30
 go_wp2_with (go_at_call 51; refine HS.out.mono ?_; clear HS; rintro e w1 ⟨rfl, hb⟩)
 go_ret
 exact ⟨rfl, hb⟩
end
section
open Go.RowKit
def emp (s : ByteArray) : Bool := s.toList.isEmpty
def Nd.kind : Nd → Int
 | .ex k .. => k
 | .st k .. => k
 | _ => 0
def numE (k n : Int) : Bool := if k = 1 then decide (0 ≤ n) else if k = 2 then (decide (n = 0) || decide (n = 1)) else decide (n = 0)
def textE (k : Int) (tx : ByteArray) : Bool := if k = 3 then (decide (tx.size ≤ 1000) && decide (bad tx < 0)) else emp tx
def binB (s : ByteArray) : Bool := s.toList == [43] || (s.toList == [45] || (s.toList == [42] || (s.toList == [47] || (s.toList == [37] || (s.toList == [64] || (s.toList == [60] || (s.toList == [60, 61] || (s.toList == [61, 61] || (s.toList == [33, 61] || (s.toList == [38, 38] || s.toList == [124, 124]))))))))))
def unB (s : ByteArray) : Bool := s.toList == [45] || (s.toList == [33] || s.toList == [35])
def nameE (k : Int) (nm : ByteArray) : Bool := if 6 ≤ k ∧ k ≤ 13 then nameOk nm else if k = 17 then binB nm else if k = 18 then unB nm else emp nm
def typeE (k : Int) (ty : ByteArray) : Bool := if k = 9 ∨ k = 13 ∨ k = 14 ∨ k = 15 ∨ k = 16 then classOk ty else emp ty
def listE (k : Int) (n : Nat) : Bool :=
 if (1 ≤ k ∧ k ≤ 6) ∨ k = 8 ∨ k = 9 then decide (n = 0) else if k = 7 ∨ k = 15 ∨ k = 16 ∨ k = 18 then decide (n = 1) else if k = 17 then decide (n = 2) else if k = 10 then decide (1 ≤ n) else decide (11 ≤ k ∧ k ≤ 14)
def fitE (k n : Int) (tx nm ty : ByteArray) (c : Nat) : Bool := numE k n && (textE k tx && (nameE k nm && (typeE k ty && listE k c)))
def valT (ty : ByteArray) : Bool := ty.toList == [105, 110, 116] || (ty.toList == [98, 111, 111, 108, 101, 97, 110] || (ty.toList == [83, 116, 114, 105, 110, 103] || classOk ty))
def hasSup (l : List Nd) : Bool := l.any fun x => x.kind == 11
def numS (k n : Int) : Bool := if k = 8 then (decide (0 ≤ n) && decide (n ≤ 9999)) else decide (n = 0)
def typeS (k : Int) (ty : ByteArray) : Bool := if k = 1 then valT ty else if k = 10 then classOk ty else emp ty
def nameS (k : Int) (nm : ByteArray) : Bool := if k = 1 ∨ k = 10 then nameOk nm else emp nm
def setB (k : Int) : Bool := decide (6 ≤ k ∧ k ≤ 9)
def calB (k : Int) : Bool := decide (10 ≤ k ∧ k ≤ 14)
def headK (l : List Nd) : Int := match l with | [] => 0 | x :: _ => x.kind
def exprsS (k : Int) (e : List Nd) : Bool :=
 if k = 1 ∨ k = 4 ∨ k = 5 ∨ k = 7 ∨ k = 8 ∨ k = 9 then decide (e.length = 1) else if k = 2 then (decide (e.length = 2) && setB (headK e)) else if k = 3 then (decide (e.length = 1) && calB (headK e))
 else if k = 6 then decide (e.length ≤ 1) else if k = 10 then decide (e.length = 0) else decide (k = 11)
def blocksS (k : Int) (a b c : List Nd) : Bool :=
 !(hasSup a || (hasSup b || hasSup c)) && (if k = 10 then true else if k = 4 then decide (c.length = 0) else if k = 5 then (decide (b.length = 0) && decide (c.length = 0)) else (decide (a.length = 0) && (decide (b.length = 0) && decide (c.length = 0))))
def fitS (k n : Int) (ty nm : ByteArray) (e a b c : List Nd) : Bool := numS k n && (typeS k ty && (nameS k nm && (exprsS k e && blocksS k a b c)))
def fitP (ps : List Prm) : Bool := ps.all fun p => valT p.1 && nameOk p.2
def fitM (s c : Bool) (ty nm : ByteArray) (ps : List Prm) (l : List Nd) : Bool :=
 decide (ps.length ≤ 6) && (fitP ps && (if c then (!s && (emp ty && (emp nm && !hasSup (l.drop 1)))) else ((ty.toList == [118, 111, 105, 100] || valT ty) && (nameOk nm && !hasSup l))))
def fitsB : Nd → Bool
 | .ex k n tx nm ty _ l _ _ => fitE k n tx nm ty l.length
 | .st k n ty nm _ _ _ _ e a b c _ => fitS k n ty nm e a b c
 | .mt s c ty nm _ ps _ l => fitM s c ty nm ps l
 | .fd _ ty nm _ l => valT ty && (nameOk nm && decide (l.length ≤ 1))
 | .cl nm sp _ _ f m => classOk nm && ((emp sp || classOk sp) && (decide (f.length ≤ 30) && decide (m.length ≤ 30)))
end
end Go.Proofs.YtnbfajmdfkgebaaGreatDoor
