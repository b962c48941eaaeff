/- Plain: a number's text, byte by byte; unlike numbers have unlike texts. No Go program's step in this text. -/
import Derived.Test.YtggabclclghmbaaNwF
import Derived.Laws.RangeString
set_option linter.unusedSimpArgs false
set_option linter.unusedVariables false
namespace Go.Proofs.Ytggabclclghmbaa
open Go.RowKit

theorem valL_snoc (l : List Nat) (d : Nat) : valL 0 (l ++ [d]) = valL 0 l * 10 + d := by simp [valL, List.foldl_append]
theorem valL_take (l : List Nat) (i d : Nat) (h : l[i]? = some d) : valL 0 (l.take (i + 1)) = valL 0 (l.take i) * 10 + d := by
  rw [List.take_add_one, h]; exact valL_snoc _ d
theorem valL_more : ∀ (l : List Nat) (a : Nat), a ≤ valL a l := by
  intro l
  induction l with
  | nil => intro a; exact Nat.le_refl _
  | cons d l ih => intro a; have := ih (a * 10 + d); simp only [valL, List.foldl_cons] at this ⊢; omega
theorem valL_pre (l : List Nat) (i : Nat) : valL 0 (l.take i) ≤ valL 0 l := by
  have h : valL 0 l = valL (valL 0 (l.take i)) (l.drop i) := by
    conv => lhs; rw [← List.take_append_drop i l]
    simp only [valL, List.foldl_append]
  rw [h]; exact valL_more _ _
structure DecF (a : Int) (s : ByteArray) (k : Nat) (ds : List Nat) : Prop where
  size : s.size = k + ds.length
  len1 : 1 ≤ ds.length
  len2 : ds.length ≤ 11
  dig : ∀ i d, ds[i]? = some d → d < 10 ∧ ∀ h : k + i < s.size, (s[k + i]'h).toNat = 48 + d
  val : (k = 0 ∧ a = (valL 0 ds : Nat)) ∨ (k = 1 ∧ a = -(valL 0 ds : Nat) ∧ a < 0 ∧ ∀ h : 0 < s.size, (s[0]'h).toNat = 45)
theorem u8_of (d : Nat) (h : d < 10) : (UInt8.ofNat (48 + d)).toNat = 48 + d := by
  rw [UInt8.toNat_ofNat']; omega
theorem decF (a : Int) (ha : i32 a) : ∃ k ds, DecF a (decT a) k ds := by
  unfold i32 at ha
  by_cases hn : a < 0
  · refine ⟨1, dg (-a).toNat, ?_⟩
    have hs : decT a = ⟨(45 :: byteL (dg (-a).toNat)).toArray⟩ := by rw [decT, if_pos hn]
    have hl := dgF_len 10 (-a).toNat
    have hlt := dgF_lt 10 (-a).toNat (dg_ok (by omega))
    have hv := dgF_val 10 (-a).toNat
    rw [hs]
    refine ⟨by simp [ByteArray.size, byteL]; omega, hl.1, hl.2, ?_, .inr ⟨rfl, by show a = -((valL 0 (dgF 10 (-a).toNat) : Nat) : Int); rw [hv]; omega, hn, fun _ => rfl⟩⟩
    intro i d hd
    refine ⟨hlt d (List.mem_of_getElem? hd), fun h => ?_⟩
    have e : (45 :: byteL (dg (-a).toNat))[1 + i]? = some (UInt8.ofNat (48 + d)) := by
      rw [Nat.add_comm, List.getElem?_cons_succ, byteL, List.getElem?_map, hd]; rfl
    have e2 : ((⟨(45 :: byteL (dg (-a).toNat)).toArray⟩ : ByteArray)[1 + i]'h) = UInt8.ofNat (48 + d) := by
      obtain ⟨h3, e3⟩ := List.getElem?_eq_some_iff.1 e
      rw [← e3]; rfl
    rw [e2, u8_of d (hlt d (List.mem_of_getElem? hd))]
  · refine ⟨0, dg a.toNat, ?_⟩
    have hs : decT a = ⟨(byteL (dg a.toNat)).toArray⟩ := by rw [decT, if_neg hn]; rfl
    have hl := dgF_len 10 a.toNat
    have hlt := dgF_lt 10 a.toNat (dg_ok (by omega))
    have hv := dgF_val 10 a.toNat
    rw [hs]
    refine ⟨by simp [ByteArray.size, byteL], hl.1, hl.2, ?_, .inl ⟨rfl, by show a = ((valL 0 (dgF 10 a.toNat) : Nat) : Int); rw [hv]; omega⟩⟩
    intro i d hd
    refine ⟨hlt d (List.mem_of_getElem? hd), fun h => ?_⟩
    have e : (byteL (dg a.toNat))[0 + i]? = some (UInt8.ofNat (48 + d)) := by
      rw [Nat.zero_add, byteL, List.getElem?_map, hd]; rfl
    have e2 : ((⟨(byteL (dg a.toNat)).toArray⟩ : ByteArray)[0 + i]'h) = UInt8.ofNat (48 + d) := by
      obtain ⟨h3, e3⟩ := List.getElem?_eq_some_iff.1 e
      rw [← e3]; rfl
    rw [e2, u8_of d (hlt d (List.mem_of_getElem? hd))]
/-- A text has one number. -/
theorem DecF.one {a b : Int} {s : ByteArray} {k1 k2 : Nat} {l1 l2 : List Nat} (h1 : DecF a s k1 l1) (h2 : DecF b s k2 l2) : a = b := by
  have hk : k1 = k2 := by
    have z := h1.size
    have z1 := h1.len1
    obtain ⟨d1, e1⟩ : ∃ d, l1[0]? = some d := ⟨l1[0]'(by omega), List.getElem?_eq_getElem _⟩
    obtain ⟨d2, e2⟩ : ∃ d, l2[0]? = some d := ⟨l2[0]'(by have := h2.len1; omega), List.getElem?_eq_getElem _⟩
    rcases h1.val with ⟨r1, _⟩ | ⟨r1, _, _, c1⟩ <;> rcases h2.val with ⟨r2, _⟩ | ⟨r2, _, _, c2⟩
    · rw [r1, r2]
    · subst r1; have := (h1.dig 0 d1 e1).2 (by omega); have := c2 (by omega); simp at *; omega
    · subst r2; have := (h2.dig 0 d2 e2).2 (by omega); have := c1 (by omega); simp at *; omega
    · rw [r1, r2]
  subst hk
  have hl : l1 = l2 := by
    have z1 := h1.size
    have z2 := h2.size
    apply List.ext_getElem?
    intro i
    by_cases hi : i < l1.length
    · have e1 : l1[i]? = some l1[i] := List.getElem?_eq_getElem hi
      have e2 : l2[i]? = some (l2[i]'(by omega)) := List.getElem?_eq_getElem _
      have d1 := (h1.dig i _ e1).2 (by omega)
      have d2 := (h2.dig i _ e2).2 (by omega)
      rw [e1, e2]; congr 1; omega
    · rw [List.getElem?_eq_none (by omega), List.getElem?_eq_none (by omega)]
  subst hl
  rcases h1.val with ⟨r1, v1⟩ | ⟨r1, v1, _⟩ <;> rcases h2.val with ⟨r2, v2⟩ | ⟨r2, v2, _⟩ <;> omega
theorem decT_one {a b : Int} (ha : i32 a) (hb : i32 b) (h : decT a = decT b) : a = b := by
  obtain ⟨k1, l1, h1⟩ := decF a ha
  obtain ⟨k2, l2, h2⟩ := decF b hb
  rw [h] at h1
  exact h1.one h2
theorem texts_eq {a b : Int} (ha : i32 a) (hb : i32 b) : ((decT a).toList == (decT b).toList) = (a == b) := by
  by_cases h : a = b
  · subst h; simp
  · have h1 : (a == b) = false := by rw [beq_eq_false_iff_ne]; exact h
    rw [h1, beq_eq_false_iff_ne, ByteArray.toList_eq, ByteArray.toList_eq]
    intro e
    apply h
    apply decT_one ha hb
    apply ByteArray.ext; exact Array.ext' e
end Go.Proofs.Ytggabclclghmbaa
