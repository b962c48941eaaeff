/- Plain facts on words: what is put ahead of a word, between words. No Go program in this text. -/
import Derived.Test.YtolhanngkackcaaWordI
set_option linter.unusedSimpArgs false
set_option linter.unusedVariables false
namespace Go.Proofs.Ytolhanngkackcaa

/-! ### A gap, and what stands behind it -/
theorem gap_split : ∀ (l : List UInt8) (c : Bool), gapL c l < l.length → ∀ z, gapL c (l.take (gapL c l) ++ z) = gapL c l + gapL false z
  | [], c, h, z => by simp at h
  | b :: t, c, h, z => by
    rw [gapL] at h ⊢
    by_cases h1 : b.toNat = 10
    · rw [if_pos h1] at h ⊢
      rw [List.take_succ_cons, List.cons_append, gapL, if_pos h1, gap_split t false (by simpa using h)]; omega
    · rw [if_neg h1] at h ⊢
      by_cases h2 : c = true
      · rw [if_pos h2] at h ⊢
        rw [List.take_succ_cons, List.cons_append, gapL, if_neg h1, if_pos h2, gap_split t true (by simpa using h)]; omega
      · rw [if_neg h2] at h ⊢
        by_cases h3 : blankI b.toNat = true
        · rw [if_pos h3] at h ⊢
          rw [List.take_succ_cons, List.cons_append, gapL, if_neg h1, if_neg h2, if_pos h3, gap_split t false (by simpa using h)]; omega
        · rw [if_neg h3] at h ⊢
          by_cases h4 : b.toNat = 47 ∧ t.head? = some 47
          · rw [if_pos h4] at h ⊢
            have hh : (t.take (gapL true t) ++ z).head? = some 47 := by
              cases t with
              | nil => simp at h4
              | cons x u =>
                have hx : x = 47 := by simpa using h4.2
                subst hx
                rw [gapL, if_neg (by decide), if_pos rfl, List.take_succ_cons]; rfl
            rw [List.take_succ_cons, List.cons_append, gapL, if_neg h1, if_neg h2, if_neg h3, if_pos ⟨h4.1, hh⟩, gap_split t true (by simpa using h)]; omega
          · rw [if_neg h4]
            have : c = false := by cases c <;> simp_all
            subst this
            simp
theorem gap_once (l : List UInt8) : gapL false (l.drop (gapL false l)) = 0 := by
  rcases Nat.lt_or_ge (gapL false l) l.length with h | h
  · have := gap_split l false h (l.drop (gapL false l))
    rw [List.take_append_drop] at this; omega
  · rw [List.drop_of_length_le h]; rfl

/-! ### A word, and what stands behind it -/
theorem head_app (x y z : List UInt8) (h : x ≠ []) : (x ++ y).head? = (x ++ z).head? := by
  cases x with
  | nil => exact absurd rfl h
  | cons a t => rfl
theorem span_zero (f : Int → Bool) (l : List UInt8) : spanL f l = 0 ↔ ∀ b, l.head? = some b → f (b.toNat : Int) = false := by
  constructor
  · intro h b hb
    cases l with
    | nil => simp at hb
    | cons c t =>
      simp at hb; subst hb
      rw [span_cons] at h
      cases hf : f (c.toNat : Int)
      · rfl
      · rw [if_pos hf] at h; omega
  · exact span_head f l
theorem span_app (f : Int → Bool) : ∀ (x y : List UInt8), spanL f (x ++ y) = x.length ↔ (∀ b ∈ x, f (b.toNat : Int) = true) ∧ spanL f y = 0
  | [], y => by simp
  | b :: t, y => by
    rw [List.cons_append, span_cons]
    cases hf : f (b.toNat : Int)
    · simp [hf]
    · rw [if_pos rfl, List.length_cons, Nat.add_right_cancel_iff, span_app f t y]; simp [hf]
theorem tlen_app (y z : List UInt8) : ∀ (x : List UInt8) (e : Bool) (n : Nat), 0 < n → tlenL e (x ++ y) n = n + x.length → tlenL e (x ++ z) n = n + x.length
  | [], e, n, hn, h => by
    exfalso
    have := tlen_le y e n
    simp at h
    omega
  | b :: t, e, n, hn, h => by
    rw [List.cons_append, tlenL] at h ⊢
    rw [List.length_cons] at h ⊢
    by_cases h1 : b.toNat = 10
    · rw [if_pos h1] at h; omega
    · rw [if_neg h1] at h ⊢
      by_cases h2 : e = true
      · rw [if_pos h2] at h ⊢
        rw [tlen_app y z t false (n + 1) (by omega) (by omega)]; omega
      · rw [if_neg h2] at h ⊢
        by_cases h3 : b.toNat = 92
        · rw [if_pos h3] at h ⊢
          rw [tlen_app y z t true (n + 1) (by omega) (by omega)]; omega
        · rw [if_neg h3] at h ⊢
          by_cases h4 : b.toNat = 34
          · rw [if_pos h4] at h ⊢; exact h
          · rw [if_neg h4] at h ⊢
            rw [tlen_app y z t false (n + 1) (by omega) (by omega)]; omega
theorem take_app (x y : List UInt8) (m : Nat) (h : m ≤ x.length) : (x ++ y).take m = x.take m := List.take_append_of_le_length h
theorem inner_app (x y z : List UInt8) : inner (x ++ y) x.length = inner (x ++ z) x.length := by
  unfold inner; rw [take_app x y _ (by omega), take_app x z _ (by omega)]
def alike (y z : List UInt8) : Prop := z.head? = y.head? ∨ z.head? = some 32
theorem alike_f (f : Int → Bool) (h32 : f 32 = false) (y z : List UInt8) (h : alike y z) (hy : spanL f y = 0) : spanL f z = 0 := by
  rw [span_zero] at hy ⊢
  intro b hb
  rcases h with h | h
  · exact hy b (by rw [← h]; exact hb)
  · rw [h] at hb; simp at hb; subst hb; exact h32
theorem ones_no (b : UInt8) (h : b.toNat = 34) : ones.contains b = false := by
  have : b = 34 := UInt8.toNat_inj.1 h
  subst this; decide
theorem twos_no (b : UInt8) (t : List UInt8) (h : b.toNat = 34) : ¬ (twos.contains ((b :: t).take 2) = true) := by
  have : b = 34 := UInt8.toNat_inj.1 h
  subst this
  rw [List.contains_iff_mem, List.take_succ_cons]
  intro h
  have : ∀ x ∈ twos, x.head? ≠ some 34 := by decide
  exact this _ h rfl
theorem mark_app (x y z : List UInt8) (ha : alike y z) (hx : x ≠ []) (h : markL (x ++ y) = x.length) : markL (x ++ z) = x.length := by
  unfold markL at h ⊢
  cases x with
  | nil => exact absurd rfl hx
  | cons a t =>
    cases t with
    | nil =>
      simp only [List.cons_append, List.nil_append, List.length_cons, List.length_nil, Nat.zero_add] at h ⊢
      by_cases h1 : twos.contains ((a :: y).take 2) = true
      · rw [if_pos h1] at h; omega
      · rw [if_neg h1] at h
        have h2 : ones.contains a = true := by
          cases hc : ones.contains a
          · rw [hc] at h; simp at h
          · rfl
        rw [if_neg, if_pos h2]
        rcases ha with e | e
        · have : (a :: z).take 2 = (a :: y).take 2 := by
            cases y <;> cases z <;> simp_all
          rw [this]; exact h1
        · cases z with
          | nil => simp at e
          | cons c u =>
            simp at e; subst e
            intro hm
            rw [List.contains_iff_mem] at hm
            have key : ∀ x ∈ twos, x.getLast? ≠ some 32 := by decide
            exact key _ hm rfl
    | cons b t =>
      have e1 : ((a :: b :: t) ++ y).take 2 = [a, b] := rfl
      have e2 : ((a :: b :: t) ++ z).take 2 = [a, b] := rfl
      rw [e1] at h; rw [e2]
      by_cases h1 : twos.contains [a, b] = true
      · rw [if_pos h1] at h ⊢; exact h
      · rw [if_neg h1] at h
        exfalso
        simp only [List.cons_append, List.length_cons] at h
        split at h <;> omega
theorem text_head (l m : List UInt8) (h : textLen l = 0) (hh : ∀ b, m.head? = some b → b.toNat ≠ 34) : textLen m = 0 := by
  cases m with
  | nil => rfl
  | cons b t => rw [textLen, if_neg (hh b rfl)]
theorem first_app (x y z : List UInt8) (hx : x ≠ []) (ha : alike y z) (k : Nat) (t : List UInt8) (h : firstL (x ++ y) = (k, t, x.length)) : firstL (x ++ z) = (k, t, x.length) := by
  have hpos : 0 < x.length := List.length_pos_iff.2 hx
  have hh := head_app x y z hx
  have ht : (x ++ z).take x.length = (x ++ y).take x.length := by rw [List.take_left, List.take_left]
  have sz : ∀ f, spanL f (x ++ y) = 0 → spanL f (x ++ z) = 0 := by
    intro f h
    rw [span_zero] at h ⊢
    rw [← hh]; exact h
  unfold firstL at h ⊢
  by_cases h1 : 0 < spanL digit (x ++ y)
  · rw [if_pos h1] at h
    simp only [Prod.mk.injEq] at h
    obtain ⟨e1, e2, e3⟩ := h
    have s := (span_app digit x y).1 e3
    have s2 := (span_app digit x z).2 ⟨s.1, alike_f digit (by decide) y z ha s.2⟩
    rw [if_pos (by omega), s2, e1, ht]
    rw [e3] at e2; rw [e2]
  · rw [if_neg h1] at h
    rw [if_neg (by rw [sz digit (by omega)]; omega)]
    by_cases h2 : 0 < spanL alnum (x ++ y)
    · rw [if_pos h2] at h
      simp only [Prod.mk.injEq] at h
      obtain ⟨e1, e2, e3⟩ := h
      have s := (span_app alnum x y).1 e3
      have s2 := (span_app alnum x z).2 ⟨s.1, alike_f alnum (by decide) y z ha s.2⟩
      rw [if_pos (by omega), s2, e1, ht]
      rw [e3] at e2; rw [e2]
    · rw [if_neg h2] at h
      rw [if_neg (by rw [sz alnum (by omega)]; omega)]
      by_cases h3 : 0 < textLen (x ++ y)
      · rw [if_pos h3] at h
        by_cases hp : plainOk (inner (x ++ y) (textLen (x ++ y))) = true
        · rw [if_pos hp] at h
          simp only [Prod.mk.injEq] at h
          obtain ⟨e1, e2, e3⟩ := h
          have hz : textLen (x ++ z) = x.length := by
            cases x with
            | nil => exact absurd rfl hx
            | cons b u =>
              rw [List.cons_append, textLen] at e3 ⊢
              split at e3
              · rename_i h34
                rw [if_pos h34]
                rw [List.length_cons] at e3 ⊢
                rw [tlen_app y z u false 1 (by omega) (by omega)]; omega
              · simp at e3
          rw [if_pos (by omega), hz]
          rw [e3] at hp e2
          rw [← inner_app x y z, if_pos hp, e1, e2]
        · rw [if_neg hp] at h
          simp only [Prod.mk.injEq] at h
          omega
      · rw [if_neg h3] at h
        simp only [Prod.mk.injEq] at h
        obtain ⟨e1, e2, e3⟩ := h
        have h34 : ∀ b, (x ++ z).head? = some b → b.toNat ≠ 34 := by
          intro b hb e
          rw [← hh] at hb
          cases hxy : x ++ y with
          | nil => rw [hxy] at hb; simp at hb
          | cons c u =>
            rw [hxy] at hb e3
            simp at hb; subst hb
            unfold markL at e3
            rw [if_neg (twos_no c u e)] at e3
            simp only [] at e3
            rw [ones_no c e] at e3
            simp at e3; omega
        rw [if_neg (by rw [text_head (x ++ y) (x ++ z) (by omega) h34]; omega)]
        rw [mark_app x y z ha hx e3, ht, e1]
        rw [e3] at e2; rw [e2]
theorem gap_app (x y z : List UInt8) (hx : x ≠ []) (ha : alike y z) (h : gapL false (x ++ y) = 0) : gapL false (x ++ z) = 0 := by
  cases x with
  | nil => exact absurd rfl hx
  | cons a t =>
    rw [List.cons_append, gapL] at h ⊢
    by_cases h1 : a.toNat = 10
    · rw [if_pos h1] at h; omega
    · rw [if_neg h1] at h ⊢
      rw [if_neg (by simp)] at h ⊢
      by_cases h3 : blankI a.toNat = true
      · rw [if_pos h3] at h; omega
      · rw [if_neg h3] at h ⊢
        by_cases h4 : a.toNat = 47 ∧ (t ++ y).head? = some 47
        · rw [if_pos h4] at h; omega
        · rw [if_neg]
          rintro ⟨e1, e2⟩
          apply h4
          refine ⟨e1, ?_⟩
          cases t with
          | nil =>
            rw [List.nil_append] at e2 ⊢
            rcases ha with e | e
            · rw [← e]; exact e2
            · rw [e] at e2; simp at e2
          | cons c u => exact e2

/-! ### Words elsewhere -/
def moved (d : Nat) (x : Wd) : Wd := ⟨x.k, x.t, x.a + d⟩
def pushed (p d : Nat) (x : Wd) : Wd := if p ≤ x.a then moved d x else x
theorem words_moved (d : Nat) : ∀ (n : Nat) (l : List UInt8) (a : Nat), l.length ≤ n → wordsL l (a + d) = ((wordsL l a).1.map (moved d), if (wordsL l a).2 < 0 then -1 else (wordsL l a).2 + d)
  | 0, l, a, h => by
    have : l = [] := List.eq_nil_of_length_eq_zero (by omega)
    subst this; rfl
  | n + 1, l, a, h => by
    by_cases hl : l = []
    · subst hl; rfl
    · by_cases hn : (firstL l).2.2 = 0
      · rw [words_none l _ hl hn, words_none l _ hl hn]
        simp only [List.map_nil]
        rw [if_neg (by omega), Int.natCast_add]
      · have hp : 0 < l.length := List.length_pos_iff.2 hl
        rw [words_step l _ hl hn, words_step l a hl hn]
        have ih := words_moved d n ((l.drop (firstL l).2.2).drop (gapL false (l.drop (firstL l).2.2))) (a + (firstL l).2.2 + gapL false (l.drop (firstL l).2.2)) (by simp only [List.length_drop]; omega)
        unfold cutL
        rw [show a + d + (firstL l).2.2 + gapL false (l.drop (firstL l).2.2) = a + (firstL l).2.2 + gapL false (l.drop (firstL l).2.2) + d from by omega, ih]
        rfl
theorem words_from (l : List UInt8) (a : Nat) : ∀ x ∈ (wordsL l a).1, a ≤ x.a := by
  refine words_ind (fun l a r => ∀ x ∈ r.1, a ≤ x.a) (fun a x hx => by simp at hx) (fun l a _ _ x hx => by simp at hx) ?_ l.length l a (Nat.le_refl _)
  intro l a hl hn ih x hx
  rcases List.mem_cons.1 hx with rfl | hx
  · exact Nat.le_refl _
  · have := ih x hx; omega
theorem cut_from (l : List UInt8) (a : Nat) : ∀ x ∈ (cutL l a).1, a + gapL false l ≤ x.a := words_from _ _
/-- What stands ahead of a word begins with a small byte. -/
theorem first_low (l : List UInt8) (h : (firstL l).2.2 ≠ 0) : low l := by
  intro b hb
  cases l with
  | nil => simp at hb
  | cons c t =>
    simp at hb; subst hb
    apply Classical.byContradiction
    intro hge
    have hd : digit (c.toNat : Int) = false := by simp [digit]; omega
    have ha : alnum (c.toNat : Int) = false := by simp [alnum, small, big, digit]; omega
    apply h
    have e1 : spanL digit (c :: t) = 0 := by rw [span_cons, if_neg (by rw [hd]; simp)]
    have e2 : spanL alnum (c :: t) = 0 := by rw [span_cons, if_neg (by rw [ha]; simp)]
    have e3 : textLen (c :: t) = 0 := by rw [textLen, if_neg (by omega)]
    unfold firstL
    rw [e1, e2, e3, if_neg (by omega), if_neg (by omega), if_neg (by omega)]
    show markL (c :: t) = 0
    unfold markL
    rw [if_neg]
    · simp only []
      rw [if_neg]
      intro hm
      rw [List.contains_iff_mem] at hm
      have key : ∀ x ∈ ones, x.toNat < 128 := by decide
      have := key c hm; omega
    · intro hm
      rw [List.contains_iff_mem] at hm
      have key : ∀ x ∈ twos, ∀ y, x.head? = some y → y.toNat < 128 := by decide
      have := key _ hm c rfl; omega
theorem words_low (l : List UInt8) (a : Nat) : ∀ x ∈ (wordsL l a).1, low (l.drop (x.a - a)) := by
  refine words_ind (fun l a r => ∀ x ∈ r.1, a ≤ x.a ∧ low (l.drop (x.a - a))) (fun a x hx => by simp at hx) (fun l a _ _ x hx => by simp at hx) ?_ l.length l a (Nat.le_refl _) |> fun h x hx => (h x hx).2
  intro l a hl hn ih x hx
  rcases List.mem_cons.1 hx with rfl | hx
  · exact ⟨Nat.le_refl _, by simp only [Nat.sub_self, List.drop_zero]; exact first_low l hn⟩
  · obtain ⟨h1, h2⟩ := ih x hx
    refine ⟨by omega, ?_⟩
    rw [List.drop_drop, List.drop_drop] at h2
    rwa [show (firstL l).2.2 + (gapL false (l.drop (firstL l).2.2) + (x.a - (a + (firstL l).2.2 + gapL false (l.drop (firstL l).2.2)))) = x.a - a from by omega] at h2

/-! ### A note put ahead of a word -/
def note : List UInt8 := [32, 47, 47, 32, 120, 32, 34, 32, 63, 10, 9]
theorem gap_note11 (z : List UInt8) : gapL false (note ++ z) = gapL false z + 11 := rfl
theorem cut_put : ∀ (n : Nat) (l : List UInt8) (a : Nat), l.length ≤ n → ∀ (ws : List Wd), cutL l a = (ws, -1) → ∀ x ∈ ws, cutL (l.take (x.a - a) ++ (note ++ l.drop (x.a - a))) a = (ws.map (pushed x.a 11), -1)
  | 0, l, a, h, ws, hc, x, hx => by
    have : l = [] := List.eq_nil_of_length_eq_zero (by omega)
    subst this
    have : ws = [] := by injection hc with e _; exact e.symm
    subst this; simp at hx
  | n + 1, l, a, h, ws, hc, x, hx => by
    obtain ⟨g, hg⟩ : ∃ g, gapL false l = g := ⟨_, rfl⟩
    obtain ⟨l1, hl1⟩ : ∃ l1, l.drop g = l1 := ⟨_, rfl⟩
    have hgl := gap_le l false
    have hcw : wordsL l1 (a + g) = (ws, -1) := by rw [← hc, cutL, hg, hl1]
    have hne : l1 ≠ [] := by
      rintro rfl
      rw [words_nil] at hcw
      have : ws = [] := by injection hcw with e _; exact e.symm
      subst this; simp at hx
    have hglt : gapL false l < l.length := by
      rcases Nat.lt_or_ge (gapL false l) l.length with h | h
      · exact h
      · exfalso; apply hne; rw [← hl1, ← hg]; exact List.drop_of_length_le h
    have hn1 : (firstL l1).2.2 ≠ 0 := by
      intro e
      rw [words_none l1 _ hne e] at hcw
      injection hcw with _ e2; omega
    obtain ⟨k1, t1, n1, hf⟩ : ∃ k t n, firstL l1 = (k, t, n) := ⟨_, _, _, rfl⟩
    have hg1 : gapL false l1 = 0 := by rw [← hl1, ← hg]; exact gap_once l
    have hst := words_step l1 (a + g) hne hn1
    rw [hcw, hf] at hst
    simp only [] at hst
    obtain ⟨l2, hl2⟩ : ∃ l2, l1.drop n1 = l2 := ⟨_, rfl⟩
    rw [hl2] at hst
    have hfl := first_le l1
    rw [hf] at hfl hn1
    simp only [] at hfl hn1
    have hl1len : l1.length = l.length - g := by rw [← hl1, List.length_drop]
    injection hst with hws hw2
    have hsplit := gap_split l false hglt
    rw [hg] at hsplit
    rw [hws] at hx
    rcases List.mem_cons.1 hx with rfl | hx
    · simp only []
      have ek : a + g - a = g := by omega
      rw [ek, cutL, hl1, hsplit, gap_note11, hg1]
      have ed : (l.take g ++ (note ++ l1)).drop (g + (0 + 11)) = l1 := by
        rw [← List.drop_drop, List.drop_left' (by rw [List.length_take]; omega)]; rfl
      rw [ed, show a + (g + (0 + 11)) = a + g + 11 from by omega, words_moved 11 l1.length l1 (a + g) (Nat.le_refl _), hcw]
      simp only []
      refine Prod.ext ?_ rfl
      rw [hws]
      apply List.map_congr_left
      intro y hy
      have : a + g ≤ y.a := by
        rw [← hws] at hy
        have := words_from l1 (a + g) y (by rw [hcw]; exact hy)
        exact this
      rw [pushed, if_pos this]
    · have hxa := cut_from l2 (a + g + n1) x hx
      have hcl2 : cutL l2 (a + g + n1) = ((cutL l2 (a + g + n1)).1, -1) := Prod.ext rfl hw2.symm
      have ih := cut_put n l2 (a + g + n1) (by rw [← hl2, List.length_drop]; omega) _ hcl2 x hx
      obtain ⟨q, hq⟩ : ∃ q, x.a - (a + g + n1) = q := ⟨_, rfl⟩
      have hk : x.a - a = g + (n1 + q) := by omega
      rw [hq] at ih
      obtain ⟨z, hz⟩ : ∃ z, l2.take q ++ (note ++ l2.drop q) = z := ⟨_, rfl⟩
      rw [hz] at ih
      have hl2ne : l2 ≠ [] := by rintro rfl; simp [cutL, words_nil, gapL] at hx
      have hal : alike l2 z := by
        rw [← hz]
        rcases Nat.eq_zero_or_pos q with rfl | hq0
        · right; rfl
        · left
          cases l2 with
          | nil => exact absurd rfl hl2ne
          | cons c u => obtain ⟨q', rfl⟩ : ∃ q', q = q' + 1 := ⟨q - 1, by omega⟩; rfl
      obtain ⟨x1, hx1⟩ : ∃ x1, l1.take n1 = x1 := ⟨_, rfl⟩
      have hx1l : x1.length = n1 := by rw [← hx1, List.length_take]; omega
      have hx1ne : x1 ≠ [] := by rintro rfl; simp at hx1l; omega
      have h12 : l1 = x1 ++ l2 := by rw [← hx1, ← hl2, List.take_append_drop]
      have hnew : l.take (x.a - a) ++ (note ++ l.drop (x.a - a)) = l.take g ++ (x1 ++ z) := by
        have e1 : l = l.take g ++ (x1 ++ l2) := by rw [← h12, ← hl1, List.take_append_drop]
        have e2 : l.take (x.a - a) = l.take g ++ (x1 ++ l2.take q) := by
          rw [hk, List.take_add, hl1, h12, List.take_add, List.take_left' hx1l, List.drop_left' hx1l]
        have e3 : l.drop (x.a - a) = l2.drop q := by
          rw [hk, ← List.drop_drop, hl1, ← List.drop_drop, hl2]
        rw [e2, e3, ← hz]; simp only [List.append_assoc]
      have hf2 := first_app x1 l2 z hx1ne hal k1 t1 (by rw [← h12, hf, hx1l])
      have hg2 := gap_app x1 l2 z hx1ne hal (by rw [← h12]; exact hg1)
      rw [hnew, cutL, hsplit, hg2]
      have ed : (l.take g ++ (x1 ++ z)).drop (g + 0) = x1 ++ z := by
        rw [Nat.add_zero, List.drop_left' (by rw [List.length_take]; omega)]
      rw [ed, Nat.add_zero, words_step (x1 ++ z) (a + g) (by simp [hx1ne]) (by rw [hf2]; simp only []; omega), hf2]
      simp only []
      rw [List.drop_left, hx1l, ih]
      simp only []
      rw [hws, List.map_cons]
      refine Prod.ext ?_ rfl
      simp only []
      congr 1
      rw [pushed, if_neg (by simp only []; omega)]
theorem put_ok (s : ByteArray) (hs : s.size ≤ 150) (h0 : allE s = 0) (j : Nat) (hj : j < (allW s).length) :
    allW (B (s.data.toList.take (allW s)[j].a ++ (note ++ s.data.toList.drop (allW s)[j].a))) = (allW s).map (pushed (allW s)[j].a 11) ∧
    allE (B (s.data.toList.take (allW s)[j].a ++ (note ++ s.data.toList.drop (allW s)[j].a))) = 0 ∧ allA (B (s.data.toList.take (allW s)[j].a ++ (note ++ s.data.toList.drop (allW s)[j].a))) = 0 := by
  have hl : s.data.toList.length = s.size := by simp
  have h8 : ¬ 8000 < s.size := by omega
  have hw : ¬ 0 ≤ wrongAt s := by
    intro h
    unfold allE at h0
    rw [if_neg h8, if_pos h] at h0
    omega
  have hws : allW s = (cutL s.data.toList 0).1 := by unfold allW; rw [if_neg (by rintro (g | g); exact h8 g; exact hw g)]
  have hcr := cut_wrong s.data.toList 0
  have hbr := bad_range s
  have hcb : (cutL s.data.toList 0).2 = -1 ∧ bad s < 0 := by
    unfold wrongAt at hw
    split at hw
    · rename_i h; omega
    · rename_i h
      constructor
      · omega
      · apply Classical.byContradiction; intro g; apply h; exact ⟨by omega, .inl (by omega)⟩
  have hx : (allW s)[j] ∈ allW s := List.getElem_mem hj
  have hcut : cutL s.data.toList 0 = (allW s, -1) := Prod.ext hws.symm hcb.1
  have hlow : low (s.data.toList.drop (allW s)[j].a) := by
    have hm : (allW s)[j] ∈ (wordsL (s.data.toList.drop (gapL false s.data.toList)) (0 + gapL false s.data.toList)).1 := by
      have : (cutL s.data.toList 0).1 = allW s := hws.symm
      unfold cutL at this
      rw [this]; exact hx
    have h1 := words_low _ _ _ hm
    have h2 := words_from _ _ _ hm
    rw [List.drop_drop] at h1
    rwa [show gapL false s.data.toList + ((allW s)[j].a - (0 + gapL false s.data.toList)) = (allW s)[j].a from by omega] at h1
  have hp := cut_put _ _ 0 (Nat.le_refl _) _ hcut _ hx
  rw [Nat.sub_zero] at hp
  apply all_fine
  · rw [B_size]; simp only [List.length_append, List.length_take, List.length_drop, note, List.length_cons, List.length_nil]; omega
  · rw [B_list]; exact hp
  · refine bad_put _ note _ (by decide) (by decide) hlow ?_
    rw [List.take_append_drop, B_of]; exact hcb.2
end Go.Proofs.Ytolhanngkackcaa
