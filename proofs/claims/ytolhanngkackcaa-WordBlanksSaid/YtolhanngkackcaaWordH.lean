/- Plain facts on texts that are parts of others: where they are no UTF-8. No Go program in this text. -/
import Derived.Test.YtolhanngkackcaaWordG
set_option linter.unusedSimpArgs false
set_option linter.unusedVariables false
namespace Go.Proofs.Ytolhanngkackcaa

def B (l : List UInt8) : ByteArray := ⟨l.toArray⟩
theorem B_list (l : List UInt8) : (B l).data.toList = l := rfl
theorem B_size (l : List UInt8) : (B l).size = l.length := by simp [B, ByteArray.size]
theorem B_of (s : ByteArray) : B s.data.toList = s := by cases s; simp [B]
theorem btB (l : List UInt8) (i : Nat) (h : i < l.length) : bt (B l) i = l[i].toNat := by
  have := get_list l i l[i] (List.getElem?_eq_getElem h); exact this
theorem btB_mid (P S R : List UInt8) (i : Nat) (h : i < S.length) : bt (B (P ++ (S ++ R))) (P.length + i) = bt (B S) i := by
  rw [btB _ _ (by simp; omega), btB _ _ h]
  congr 1
  rw [List.getElem_append_right (by omega)]
  simp only [Nat.add_sub_cancel_left]
  rw [List.getElem_append_left h]
theorem btB_end (P S R : List UInt8) (b : UInt8) (h : R.head? = some b) : bt (B (P ++ (S ++ R))) (P.length + S.length) = b.toNat := by
  cases R with
  | nil => simp at h
  | cons x t =>
    simp at h; subst h
    rw [btB _ _ (by simp)]
    congr 1
    rw [List.getElem_append_right (by omega)]
    simp
def low (R : List UInt8) : Prop := ∀ b, R.head? = some b → b.toNat < 128
theorem dec_mid (P S R : List UInt8) (hR : low R) (p : Nat) (h : p < S.length) : Utf8.decode (B (P ++ (S ++ R))) (P.length + p) = Utf8.decode (B S) p := by
  have hz : (B (P ++ (S ++ R))).size - (P.length + p) = S.length - p + R.length := by rw [B_size]; simp; omega
  have hzS : (B S).size = S.length := B_size S
  have b0 := btB_mid P S R p h
  have nx : ∀ i, p + i < S.length → bt (B (P ++ (S ++ R))) (P.length + p + i) = bt (B S) (p + i) := fun i hi => by
    rw [Nat.add_assoc]; exact btB_mid P S R (p + i) hi
  have ed : ∀ i, p + i = S.length → 0 < R.length → bt (B (P ++ (S ++ R))) (P.length + p + i) < 128 := by
    intro i hi hr
    cases hR' : R.head? with
    | none => rw [List.head?_eq_none_iff] at hR'; subst hR'; simp at hr
    | some b =>
      rw [show P.length + p + i = P.length + S.length from by omega, btB_end P S R b hR']
      exact hR b hR'
  rcases dcases (B S) p with ⟨k, e⟩ | ⟨k, e⟩ | ⟨k, e⟩ | ⟨k, e⟩ | ⟨k0, k2, k3, k4, e⟩
  · rw [e, low_of _ _ (by omega), b0]
  · obtain ⟨h1, h2, h3, h4, h5⟩ := k
    have n1 := nx 1 (by omega)
    rw [e, decode_bt, dec2 _ _ _ _ _ ⟨by omega, by omega, by omega, by omega, by omega⟩, b0, n1]
  · obtain ⟨h1, h2, h3, h4, h5, h6, h7, h8, h9⟩ := k
    have n1 := nx 1 (by omega)
    have n2 := nx 2 (by omega)
    rw [e, decode_bt, dec3 _ _ _ _ _ ⟨by omega, by omega, by omega, by omega, by omega, by omega, by omega, by omega, by omega⟩, b0, n1, n2]
  · obtain ⟨h1, h2, h3, h4, h5, h6, h7, h8, h9, h10, h11⟩ := k
    have n1 := nx 1 (by omega)
    have n2 := nx 2 (by omega)
    have n3 := nx 3 (by omega)
    rw [e, decode_bt, dec4 _ _ _ _ _ ⟨by omega, by omega, by omega, by omega, by omega, by omega, by omega, by omega, by omega, by omega, by omega⟩, b0, n1, n2, n3]
  · rw [e, decode_bt, dec0 _ _ _ _ _ (bt_lt _ _) (bt_lt _ _) (bt_lt _ _) (bt_lt _ _) (by omega)]
    · rintro ⟨h1, h2, h3, h4, h5⟩
      rcases Nat.lt_or_ge (p + 1) S.length with g | g
      · have n1 := nx 1 g
        exact k2 ⟨by omega, by omega, by omega, by omega, by omega⟩
      · have := ed 1 (by omega) (by omega); omega
    · rintro ⟨h1, h2, h3, h4, h5, h6, h7, h8, h9⟩
      rcases Nat.lt_or_ge (p + 1) S.length with g | g
      · have n1 := nx 1 g
        rcases Nat.lt_or_ge (p + 2) S.length with g2 | g2
        · have n2 := nx 2 g2
          exact k3 ⟨by omega, by omega, by omega, by omega, by omega, by omega, by omega, by omega, by omega⟩
        · have := ed 2 (by omega) (by omega); omega
      · have := ed 1 (by omega) (by omega); omega
    · rintro ⟨h1, h2, h3, h4, h5, h6, h7, h8, h9, h10, h11⟩
      rcases Nat.lt_or_ge (p + 1) S.length with g | g
      · have n1 := nx 1 g
        rcases Nat.lt_or_ge (p + 2) S.length with g2 | g2
        · have n2 := nx 2 g2
          rcases Nat.lt_or_ge (p + 3) S.length with g3 | g3
          · have n3 := nx 3 g3
            exact k4 ⟨by omega, by omega, by omega, by omega, by omega, by omega, by omega, by omega, by omega, by omega, by omega⟩
          · have := ed 3 (by omega) (by omega); omega
        · have := ed 2 (by omega) (by omega); omega
      · have := ed 1 (by omega) (by omega); omega
theorem bad_mid (P S R : List UInt8) (hR : low R) : ∀ (n p : Nat), S.length - p ≤ n → p ≤ S.length →
    badFrom (B (P ++ (S ++ R))) (P.length + p) = if badFrom (B S) p < 0 then badFrom (B (P ++ (S ++ R))) (P.length + S.length) else P.length + badFrom (B S) p
  | 0, p, hn, hp => by
    obtain rfl : p = S.length := by omega
    rw [badFrom_end (B S) _ (by rw [B_size]; omega), if_pos (by omega)]
  | n + 1, p, hn, hp => by
    rcases Nat.lt_or_ge p S.length with h | h
    · have hd := dec_mid P S R hR p h
      have hps : p < (B S).size := by rw [B_size]; exact h
      have hpb : P.length + p < (B (P ++ (S ++ R))).size := by rw [B_size]; simp; omega
      have hb : badAt (B (P ++ (S ++ R))) (P.length + p) = badAt (B S) p := by unfold badAt; rw [hd]
      cases hB : badAt (B S) p
      · rw [badFrom_step _ _ hpb (hb.trans hB), badFrom_step _ _ hps hB, hd]
        have hw := wid_pos (B S) p
        have hl := wid_le (B S) p hps
        rw [B_size] at hl
        rw [Nat.add_assoc]
        exact bad_mid P S R hR n _ (by omega) hl
      · rw [badFrom_at _ _ hpb (hb.trans hB), badFrom_at _ _ hps hB, if_neg (by omega)]; omega
    · obtain rfl : p = S.length := by omega
      rw [badFrom_end (B S) _ (by rw [B_size]; omega), if_pos (by omega)]
/-- Small bytes are UTF-8. -/
theorem bad_low (s : ByteArray) : ∀ (n p : Nat), p + n ≤ s.size → (∀ i, i < n → bt s (p + i) < 128) → badFrom s p = badFrom s (p + n)
  | 0, p, _, _ => rfl
  | n + 1, p, h, hb => by
    have h0 := hb 0 (by omega)
    rw [Nat.add_zero] at h0
    rw [badFrom_step s p (by omega) (badAt_low s p h0), low_of s p h0, bad_low s n (p + 1) (by omega) (fun i hi => by have := hb (i + 1) (by omega); rwa [show p + (i + 1) = p + 1 + i from by omega] at this), show p + 1 + n = p + (n + 1) from by omega]
theorem low_all (P Q : List UInt8) (h : ∀ b ∈ P, b.toNat < 128) : badFrom (B (P ++ Q)) 0 = badFrom (B (P ++ Q)) P.length := by
  have := bad_low (B (P ++ Q)) P.length 0 (by rw [B_size]; simp) (fun i hi => by
    rw [Nat.zero_add, btB _ _ (by simp; omega), List.getElem_append_left hi]
    exact h _ (List.getElem_mem hi))
  rwa [Nat.zero_add] at this
theorem low_run (P S Q : List UInt8) (h : ∀ b ∈ S, b.toNat < 128) : badFrom (B (P ++ (S ++ Q))) P.length = badFrom (B (P ++ (S ++ Q))) (P.length + S.length) := by
  refine bad_low (B (P ++ (S ++ Q))) S.length P.length (by rw [B_size]; simp) (fun i hi => ?_)
  rw [btB_mid P S Q i hi, btB _ _ hi]
  exact h _ (List.getElem_mem hi)

/-- A part put into a text, of small bytes, ahead of a small byte: no fault comes of it. -/
theorem bad_put (P S Q : List UInt8) (hS : ∀ b ∈ S, b.toNat < 128) (hS0 : S ≠ []) (hQ : low Q) (h : bad (B (P ++ Q)) < 0) : bad (B (P ++ (S ++ Q))) < 0 := by
  have e1 := bad_mid [] P Q hQ P.length 0 (by omega) (Nat.zero_le _)
  simp only [List.nil_append, List.length_nil, Nat.add_zero, Nat.zero_add] at e1
  have lowS : low (S ++ Q) := by
    intro b hb
    cases S with
    | nil => exact absurd rfl hS0
    | cons x t => simp at hb; subst hb; exact hS x (by simp)
  have e2 := bad_mid [] P (S ++ Q) lowS P.length 0 (by omega) (Nat.zero_le _)
  simp only [List.nil_append, List.length_nil, Nat.add_zero, Nat.zero_add] at e2
  have ln : low [] := fun b hb => by simp at hb
  have e3 := bad_mid P Q [] ln Q.length 0 (by omega) (Nat.zero_le _)
  have e4 := bad_mid (P ++ S) Q [] ln Q.length 0 (by omega) (Nat.zero_le _)
  simp only [List.append_nil, Nat.add_zero, List.append_assoc] at e3 e4
  have e5 := low_run P S Q hS
  rw [bad_zero] at h ⊢
  rw [e1] at h
  have r0 := badFrom_range (B P) 0
  have r1 := badFrom_range (B Q) 0
  split at h
  · rename_i hp
    rw [e2, if_pos hp, e5]
    rw [List.length_append] at e4
    rw [e4]
    rw [e3] at h
    split at h
    · rename_i hq
      rw [if_pos hq, badFrom_end _ _ (by rw [B_size]; simp; omega)]; omega
    · omega
  · omega
end Go.Proofs.Ytolhanngkackcaa
