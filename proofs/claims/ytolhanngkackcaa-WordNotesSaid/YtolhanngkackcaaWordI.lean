/- Plain facts on words: a quote between two names; a note between two names. No Go program in this text. -/
import Derived.Test.YtolhanngkackcaaWordH
set_option linter.unusedSimpArgs false
set_option linter.unusedVariables false
namespace Go.Proofs.Ytolhanngkackcaa

theorem span_cons (f : Int → Bool) (b : UInt8) (t : List UInt8) : spanL f (b :: t) = if f (b.toNat : Int) = true then spanL f t + 1 else 0 := by
  rw [spanL, List.takeWhile_cons]
  split <;> simp [spanL]
theorem span_head (f : Int → Bool) (t : List UInt8) (h : ∀ b, t.head? = some b → f (b.toNat : Int) = false) : spanL f t = 0 := by
  cases t with
  | nil => rfl
  | cons b t => rw [span_cons, if_neg (by rw [h b rfl]; simp)]
/-- A name of one letter. -/
theorem first_letter (c : UInt8) (t : List UInt8) (hd : digit (c.toNat : Int) = false) (ha : alnum (c.toNat : Int) = true) (h : ∀ b, t.head? = some b → alnum (b.toNat : Int) = false) : firstL (c :: t) = (1, [c], 1) := by
  have e1 : spanL digit (c :: t) = 0 := by rw [span_cons, if_neg (by rw [hd]; simp)]
  have e2 : spanL alnum (c :: t) = 1 := by rw [span_cons, if_pos ha, span_head alnum t h]
  unfold firstL
  rw [e1, e2]; simp

theorem enc_high (r : Nat) (h : 128 ≤ r) (hr : okRune r) : ∀ b ∈ Lib.encodeRune (r : Int), 128 ≤ b.toNat := by
  intro b hb
  unfold okRune at hr
  by_cases h2 : r < 2048
  · rw [Lib.encodeRune, Lib.encodeRuneZ_two (by omega) (by omega)] at hb
    simp only [List.map_cons, List.map_nil, List.mem_cons, List.not_mem_nil, or_false] at hb
    rcases hb with rfl | rfl
    · have := u8v (192 + (r : Int) / 64) (by omega) (by omega); omega
    · have := u8v (128 + (r : Int) % 64) (by omega) (by omega); omega
  · by_cases h3 : r < 65536
    · rw [Lib.encodeRune, Lib.encodeRuneZ_three (by omega)] at hb
      simp only [List.map_cons, List.map_nil, List.mem_cons, List.not_mem_nil, or_false] at hb
      rcases hb with rfl | rfl | rfl
      · have := u8v (224 + (r : Int) / 4096) (by omega) (by omega); omega
      · have := u8v (128 + (r : Int) / 64 % 64) (by omega) (by omega); omega
      · have := u8v (128 + (r : Int) % 64) (by omega) (by omega); omega
    · rw [Lib.encodeRune, Lib.encodeRuneZ_four (by omega) (by omega)] at hb
      simp only [List.map_cons, List.map_nil, List.mem_cons, List.not_mem_nil, or_false] at hb
      rcases hb with rfl | rfl | rfl | rfl
      · have := u8v (240 + (r : Int) / 262144) (by omega) (by omega); omega
      · have := u8v (128 + (r : Int) / 4096 % 64) (by omega) (by omega); omega
      · have := u8v (128 + (r : Int) / 64 % 64) (by omega) (by omega); omega
      · have := u8v (128 + (r : Int) % 64) (by omega) (by omega); omega
theorem tlen_bytes : ∀ (bs rest : List UInt8) (n : Nat), (∀ b ∈ bs, b.toNat ≠ 10 ∧ b.toNat ≠ 92 ∧ b.toNat ≠ 34) → tlenL false (bs ++ rest) n = tlenL false rest (n + bs.length)
  | [], rest, n, _ => rfl
  | b :: t, rest, n, h => by
    obtain ⟨h1, h2, h3⟩ := h b (by simp)
    rw [List.cons_append, tlenL, if_neg h1, if_neg (by simp), if_neg h2, if_neg h3, tlen_bytes t rest (n + 1) (fun x hx => h x (by simp [hx])), List.length_cons, show n + 1 + t.length = n + (t.length + 1) from by omega]
theorem enc_one (r : Nat) (h : r < 128) : Lib.encodeRune (r : Int) = [r.toUInt8] := by
  rw [Lib.encodeRune, Lib.encodeRuneZ_one (by omega) (by omega)]; simp
/-- Over what stands in a quote. -/
theorem tlen_quoted : ∀ (l : List Nat) (rest : List UInt8) (n : Nat), (∀ r ∈ l, okRune r) → tlenL false (encs (l.flatMap qr) ++ rest) n = tlenL false rest (n + (encs (l.flatMap qr)).length)
  | [], rest, n, _ => by simp [encs]
  | r :: l, rest, n, h => by
    have hr := h r (by simp)
    rw [List.flatMap_cons, encs_append, List.append_assoc]
    have ih := tlen_quoted l rest (n + (encs (qr r)).length) (fun x hx => h x (by simp [hx]))
    rw [List.length_append, show n + ((encs (qr r)).length + (encs (l.flatMap qr)).length) = n + (encs (qr r)).length + (encs (l.flatMap qr)).length from by omega, ← ih]
    unfold qr
    cases hm : mustN r
    · simp only [if_neg (show ¬ (false = true) by simp), encs_cons, encs_nil, List.append_nil, Bool.false_eq_true, if_false]
      apply tlen_bytes
      intro b hb
      simp only [mustN, Bool.or_eq_false_iff, beq_eq_false_iff_ne] at hm
      by_cases h1 : r < 128
      · rw [enc_one r h1, List.mem_singleton] at hb
        subst hb
        have : (r.toUInt8).toNat = r := by simp; omega
        rw [this]; omega
      · have := enc_high r (by omega) hr b hb; omega
    · simp only [if_true, encs_cons, encs_nil, List.append_nil]
      have e92 : Lib.encodeRune ((92 : Nat) : Int) = [92] := by decide
      simp only [mustN, Bool.or_eq_true, beq_iff_eq] at hm
      have hl : Lib.encodeRune ((letterN r : Nat) : Int) = [(letterN r).toUInt8] ∧ (letterN r).toUInt8.toNat ≠ 10 := by
        rcases hm with rfl | rfl | rfl <;> exact ⟨by decide, by decide⟩
      rw [e92, hl.1]
      simp only [List.cons_append, List.nil_append, List.length_cons, List.length_nil]
      rw [tlenL, if_neg (by decide), if_neg (by simp), if_pos (by decide), tlenL, if_neg hl.2, if_pos rfl]

theorem quote_is (s : ByteArray) : quote s = 34 :: (quoteFrom s 0 ++ [34]) := rfl
theorem quoteFrom_is (s : ByteArray) : quoteFrom s 0 = encs ((runes s 0).flatMap qr) := rfl
theorem textLen_quote (s : ByteArray) (t : List UInt8) : textLen (34 :: (quoteFrom s 0 ++ (34 :: t))) = (quoteFrom s 0).length + 2 := by
  rw [textLen, if_pos (by decide), quoteFrom_is, tlen_quoted _ _ _ (runes_ok s 0), tlenL, if_neg (by decide), if_neg (by simp), if_neg (by decide), if_pos (by decide)]
  omega
theorem textLen_open (s : ByteArray) : textLen (34 :: quoteFrom s 0) = 0 := by
  have := tlen_quoted (runes s 0) [] 1 (runes_ok s 0)
  rw [List.append_nil] at this
  rw [textLen, if_pos (by decide), quoteFrom_is, this, tlenL]
theorem wd_plain (s : ByteArray) : plainText ⟨(quoteFrom s 0).toArray⟩ = encs (runes s 0) ∧ plainOk ⟨(quoteFrom s 0).toArray⟩ = true := by
  simp [plainText, plainOk, plain_inner]
theorem first_quote (s : ByteArray) (t : List UInt8) (hb : bad s < 0) : firstL (34 :: (quoteFrom s 0 ++ (34 :: t))) = (3, s.data.toList, (quoteFrom s 0).length + 2) := by
  have e1 : spanL digit (34 :: (quoteFrom s 0 ++ (34 :: t))) = 0 := by rw [span_cons]; rfl
  have e2 : spanL alnum (34 :: (quoteFrom s 0 ++ (34 :: t))) = 0 := by rw [span_cons]; rfl
  have e3 := textLen_quote s t
  have e4 : inner (34 :: (quoteFrom s 0 ++ (34 :: t))) ((quoteFrom s 0).length + 2) = ⟨(quoteFrom s 0).toArray⟩ := by
    unfold inner
    rw [show (quoteFrom s 0).length + 2 - 1 = (quoteFrom s 0).length + 1 from by omega, List.take_succ_cons, List.drop_succ_cons, List.drop_zero, List.take_left]
  unfold firstL
  rw [e1, e2, e3, if_neg (by omega), if_neg (by omega), if_pos (by omega), e4, (wd_plain s).2, if_pos rfl, (wd_plain s).1, back_same s hb]
theorem first_open (s : ByteArray) : (firstL (34 :: quoteFrom s 0)).2.2 = 0 := by
  have e1 : spanL digit (34 :: quoteFrom s 0) = 0 := by rw [span_cons]; rfl
  have e2 : spanL alnum (34 :: quoteFrom s 0) = 0 := by rw [span_cons]; rfl
  have e3 := textLen_open s
  unfold firstL
  rw [e1, e2, e3, if_neg (by omega), if_neg (by omega), if_neg (by omega)]
  show markL (34 :: quoteFrom s 0) = 0
  unfold markL
  rw [if_neg]
  · rfl
  · rw [List.contains_iff_mem, List.take_succ_cons]
    intro h
    have : ∀ x ∈ twos, x.head? ≠ some 34 := by decide
    exact this _ h rfl
theorem gap_at (b : UInt8) (t : List UInt8) (h : b.toNat ≠ 10 ∧ blankI (b.toNat : Int) = false ∧ b.toNat ≠ 47) : gapL false (b :: t) = 0 := by
  rw [gapL, if_neg h.1, if_neg (by simp), if_neg (by rw [h.2.1]; simp), if_neg (fun e => h.2.2 e.1)]
theorem cut_at (b : UInt8) (t : List UInt8) (a : Nat) (h : b.toNat ≠ 10 ∧ blankI (b.toNat : Int) = false ∧ b.toNat ≠ 47) : cutL (b :: t) a = wordsL (b :: t) a := by
  unfold cutL; rw [gap_at b t h]; rfl
theorem words_last (a : Nat) : wordsL [98] a = ([⟨1, [98], a⟩], -1) := by
  have hf : firstL [98] = (1, [98], 1) := first_letter 98 [] (by decide) (by decide) (fun b hb => by simp at hb)
  rw [words_step _ _ (by simp) (by rw [hf]; decide), hf]
  rfl
theorem all_of (s : ByteArray) (h : ¬ 8000 < s.size) (ws : List Wd) (c b : Int) (hc : cutL s.data.toList 0 = (ws, c)) (hb : bad s = b) :
    wrongAt s = if 0 ≤ b ∧ (c < 0 ∨ b < c) then b else c := by unfold wrongAt; rw [hc, hb]
theorem all_fine (s : ByteArray) (h : ¬ 8000 < s.size) (ws : List Wd) (hc : cutL s.data.toList 0 = (ws, -1)) (hb : bad s < 0) : allW s = ws ∧ allE s = 0 ∧ allA s = 0 := by
  have hw := all_of s h ws (-1) _ hc rfl
  rw [if_neg (by omega)] at hw
  unfold allW allE allA
  rw [hw, if_neg (by omega), if_neg h, if_neg h, if_neg (by omega), if_neg (by omega), hc]
  exact ⟨rfl, rfl, rfl⟩
theorem all_fault (s : ByteArray) (h : ¬ 8000 < s.size) (x : Int) (hx : wrongAt s = x) (h0 : 0 ≤ x) : allW s = [] ∧ allE s = 2 ∧ allA s = x := by
  unfold allW allE allA; rw [hx, if_pos (.inr h0), if_neg h, if_neg h, if_pos h0, if_pos h0]; exact ⟨rfl, rfl, rfl⟩
theorem ok_quoted (s : ByteArray) : ∀ r ∈ (runes s 0).flatMap qr, okRune r := qrs_ok _ (runes_ok s 0)
theorem enc_small (k : Nat) (h : k < 128) : encs [k] = [k.toUInt8] := by rw [encs_cons, encs_nil, enc_one k h]; rfl
theorem texts_ok (s : ByteArray) (hb : bad s < 0) (hs : s.size ≤ 100) (hq : (quoteFrom s 0).length ≤ 8 * s.size) :
    allW (B ([97] ++ (quote s ++ [98]))) = [⟨1, [97], 0⟩, ⟨3, s.data.toList, 1⟩, ⟨1, [98], 1 + (quote s).length⟩] ∧ allE (B ([97] ++ (quote s ++ [98]))) = 0 ∧ allA (B ([97] ++ (quote s ++ [98]))) = 0 := by
  have hql : (quote s).length = (quoteFrom s 0).length + 2 := by rw [quote_is]; simp
  have el : [97] ++ (quote s ++ [98]) = 97 :: (34 :: (quoteFrom s 0 ++ (34 :: [98]))) := by rw [quote_is]; simp
  apply all_fine
  · rw [B_size]; simp only [List.length_append, List.length_cons, List.length_nil]; omega
  · rw [B_list, el, cut_at _ _ _ ⟨by decide, by decide, by decide⟩]
    have h1 : firstL (97 :: (34 :: (quoteFrom s 0 ++ (34 :: [98])))) = (1, [97], 1) := first_letter 97 _ (by decide) (by decide) (fun b hb => by simp at hb; subst hb; decide)
    have h2 := first_quote s [98] hb
    rw [words_step _ _ (by simp) (by rw [h1]; decide), h1]
    simp only [List.drop_succ_cons, List.drop_zero, Nat.zero_add]
    rw [cut_at _ _ _ ⟨by decide, by decide, by decide⟩, words_step _ _ (by simp) (by rw [h2]; simp), h2]
    simp only []
    have hd : (34 :: (quoteFrom s 0 ++ (34 :: [98]))).drop ((quoteFrom s 0).length + 2) = [98] := by
      rw [show (quoteFrom s 0).length + 2 = ((quoteFrom s 0).length + 1) + 1 from rfl, List.drop_succ_cons, List.drop_length_add_append]; rfl
    rw [hd, cut_at _ _ _ ⟨by decide, by decide, by decide⟩, words_last, hql]
  · have e : [97] ++ (quote s ++ [98]) = encs ([97] ++ ([34] ++ ((runes s 0).flatMap qr ++ ([34] ++ [98])))) := by
      rw [el, encs_append, encs_append, encs_append, encs_append, enc_small 97 (by decide), enc_small 34 (by decide), enc_small 98 (by decide)]; rfl
    have := (runes_of_encs ([97] ++ ([34] ++ ((runes s 0).flatMap qr ++ ([34] ++ [98])))) (by
      intro r hr
      simp only [List.mem_append, List.mem_singleton] at hr
      rcases hr with rfl | rfl | hr | rfl | rfl
      · left; omega
      · left; omega
      · exact ok_quoted s r hr
      · left; omega
      · left; omega)).2
    rw [e]
    show bad ⟨_⟩ < 0
    rw [this]; decide
theorem texts_open (s : ByteArray) (hs : s.size ≤ 100) (hq : (quoteFrom s 0).length ≤ 8 * s.size) :
    allW (B ([97] ++ (34 :: quoteFrom s 0))) = [] ∧ allE (B ([97] ++ (34 :: quoteFrom s 0))) = 2 ∧ allA (B ([97] ++ (34 :: quoteFrom s 0))) = 1 := by
  have hz : ¬ 8000 < (B ([97] ++ (34 :: quoteFrom s 0))).size := by rw [B_size]; simp only [List.length_append, List.length_cons, List.length_nil]; omega
  have hc : cutL (B ([97] ++ (34 :: quoteFrom s 0))).data.toList 0 = ([⟨1, [97], 0⟩], 1) := by
    rw [B_list]
    show cutL (97 :: (34 :: quoteFrom s 0)) 0 = _
    rw [cut_at _ _ _ ⟨by decide, by decide, by decide⟩]
    have h1 : firstL (97 :: (34 :: quoteFrom s 0)) = (1, [97], 1) := first_letter 97 _ (by decide) (by decide) (fun b hb => by simp at hb; subst hb; decide)
    rw [words_step _ _ (by simp) (by rw [h1]; decide), h1]
    simp only [List.drop_succ_cons, List.drop_zero, Nat.zero_add]
    rw [cut_at _ _ _ ⟨by decide, by decide, by decide⟩, words_none _ _ (by simp) (first_open s)]
    rfl
  have hb : bad (B ([97] ++ (34 :: quoteFrom s 0))) = -1 := by
    have e : [97] ++ (34 :: quoteFrom s 0) = encs ([97] ++ ([34] ++ (runes s 0).flatMap qr)) := by
      rw [encs_append, encs_append, enc_small 97 (by decide), enc_small 34 (by decide)]; rfl
    have := (runes_of_encs ([97] ++ ([34] ++ (runes s 0).flatMap qr)) (by
      intro r hr
      simp only [List.mem_append, List.mem_singleton] at hr
      rcases hr with rfl | rfl | hr
      · left; omega
      · left; omega
      · exact ok_quoted s r hr)).2
    rw [e]
    exact this
  have hw := all_of _ hz _ _ _ hc hb
  rw [if_neg (by omega)] at hw
  exact all_fault _ hz 1 hw (by decide)

/-! ### A note between two names -/
theorem gap_over : ∀ (S R : List UInt8), (∀ b ∈ S, b.toNat ≠ 10) → gapL true (S ++ R) = S.length + gapL true R
  | [], R, _ => by simp
  | b :: t, R, h => by
    rw [List.cons_append, gapL, if_neg (h b (by simp)), if_pos rfl, gap_over t R (fun x hx => h x (by simp [hx])), List.length_cons]; omega
theorem note_cut (S : List UInt8) (h : ∀ b ∈ S, b.toNat ≠ 10) : cutL ([97, 32, 47, 47] ++ (S ++ [10, 98])) 0 = ([⟨1, [97], 0⟩, ⟨1, [98], 5 + S.length⟩], -1) := by
  show cutL (97 :: (32 :: 47 :: 47 :: (S ++ [10, 98]))) 0 = _
  have h1 : firstL (97 :: (32 :: 47 :: 47 :: (S ++ [10, 98]))) = (1, [97], 1) := first_letter 97 _ (by decide) (by decide) (fun b hb => by simp at hb; subst hb; decide)
  rw [cut_at _ _ _ ⟨by decide, by decide, by decide⟩, words_step _ _ (by simp) (by rw [h1]; decide), h1]
  simp only [List.drop_succ_cons, List.drop_zero, Nat.zero_add]
  have hg : gapL false (32 :: 47 :: 47 :: (S ++ [10, 98])) = S.length + 4 := by
    rw [gapL, if_neg (by decide), if_neg (by simp), if_pos (by decide), gapL, if_neg (by decide), if_neg (by simp), if_neg (by decide), if_pos ⟨by decide, rfl⟩, gapL, if_neg (by decide), if_pos rfl, gap_over S _ h, gapL, if_pos (by decide), gap_at 98 [] ⟨by decide, by decide, by decide⟩]
  have hd : (32 :: 47 :: 47 :: (S ++ [10, 98])).drop (S.length + 4) = [98] := by
    show (S ++ [10, 98]).drop (S.length + 1) = [98]
    rw [List.drop_length_add_append]; rfl
  rw [cutL, hg, hd, words_last, show 1 + (S.length + 4) = 5 + S.length from by omega]
theorem note_bad (s : ByteArray) : bad (B ([97, 32, 47, 47] ++ (s.data.toList ++ [10, 98]))) = if bad s < 0 then -1 else 4 + bad s := by
  have lw : low [10, 98] := fun b hb => by simp at hb; subst hb; decide
  have e0 := low_all [97, 32, 47, 47] (s.data.toList ++ [10, 98]) (by decide)
  have e1 := bad_mid [97, 32, 47, 47] s.data.toList [10, 98] lw s.data.toList.length 0 (by omega) (Nat.zero_le _)
  have e2 := low_run ([97, 32, 47, 47] ++ s.data.toList) [10, 98] [] (by decide)
  rw [List.append_nil, List.append_assoc, List.length_append] at e2
  rw [Nat.add_zero, B_of] at e1
  rw [bad_zero, e0, e1, bad_zero]
  split
  · rw [e2, badFrom_end _ _ (by rw [B_size]; simp; omega)]
  · rfl
theorem note_ok (s : ByteArray) (hs : s.size ≤ 60) (h : ∀ b ∈ s.data.toList, b.toNat ≠ 10) (hb : bad s < 0) :
    allW (B ([97, 32, 47, 47] ++ (s.data.toList ++ [10, 98]))) = [⟨1, [97], 0⟩, ⟨1, [98], 5 + s.size⟩] ∧ allE (B ([97, 32, 47, 47] ++ (s.data.toList ++ [10, 98]))) = 0 ∧ allA (B ([97, 32, 47, 47] ++ (s.data.toList ++ [10, 98]))) = 0 := by
  have hl : s.data.toList.length = s.size := by simp
  apply all_fine
  · rw [B_size]; simp only [List.length_append, List.length_cons, List.length_nil]; omega
  · rw [B_list, note_cut _ h, hl]
  · rw [note_bad, if_pos hb]; decide
theorem note_wrong (s : ByteArray) (hs : s.size ≤ 60) (h : ∀ b ∈ s.data.toList, b.toNat ≠ 10) (hb : 0 ≤ bad s) :
    allW (B ([97, 32, 47, 47] ++ (s.data.toList ++ [10, 98]))) = [] ∧ allE (B ([97, 32, 47, 47] ++ (s.data.toList ++ [10, 98]))) = 2 ∧ allA (B ([97, 32, 47, 47] ++ (s.data.toList ++ [10, 98]))) = 4 + bad s := by
  have hl : s.data.toList.length = s.size := by simp
  have hz : ¬ 8000 < (B ([97, 32, 47, 47] ++ (s.data.toList ++ [10, 98]))).size := by rw [B_size]; simp only [List.length_append, List.length_cons, List.length_nil]; omega
  have hc := note_cut _ h
  have hnb := note_bad s
  rw [if_neg (by omega)] at hnb
  have hw := all_of _ hz _ _ _ hc hnb
  rw [if_pos ⟨by omega, .inl (by decide)⟩] at hw
  exact all_fault _ hz _ hw (by omega)
end Go.Proofs.Ytolhanngkackcaa
