/- Trees of classes without a fault: who stands for whom. No program but kin's plain answers. -/
import Derived.Test.YtiibneldabfokaaKinR
set_option linter.unusedSimpArgs false
set_option linter.unusedVariables false
namespace Go.Proofs.Ytiibneldabfokaa
open Go.RowKit
theorem plc_noneK : ∀ {l : List Hdr} {s : ByteArray}, (∀ h ∈ l, h.1 ≠ s) → plc l s = l.length
  | [], s, _ => rfl
  | x :: l, s, h => by
    unfold plc; rw [if_neg (h x (by simp)), plc_noneK (fun y hy => h y (by simp [hy]))]; simp; omega
theorem names_five {i : Nat} (hi : i < 5) {x : ByteArray} (h : namesT[i]? = some x) : x ≠ nNull ∧ x ≠ ⟨#[]⟩ ∧ nullB x = false ∧ (∀ b ∈ basesL, b.1 ≠ x) := by
  have key : ∀ i, i < 5 → ∀ x, namesT[i]? = some x → x ≠ nNull ∧ x ≠ ⟨#[]⟩ ∧ nullB x = false ∧ (∀ b ∈ basesL, b.1 ≠ x) := by
    intro i hi x hx
    match i, hi with
    | 0, _ => injection hx with hx; subst hx; decide +kernel
    | 1, _ => injection hx with hx; subst hx; decide +kernel
    | 2, _ => injection hx with hx; subst hx; decide +kernel
    | 3, _ => injection hx with hx; subst hx; decide +kernel
    | 4, _ => injection hx with hx; subst hx; decide +kernel
  exact key i hi x h
theorem bases_not : (∀ b ∈ basesL, b.1 ≠ nNull) ∧ (∀ b ∈ basesL, b.1 ≠ (⟨#[]⟩ : ByteArray)) := by decide +kernel
structure GoodT (cs : List Hdr) : Prop where
  good : GoodH cs
  ok : TreeOk cs
section
variable {cs : List Hdr}
theorem TreeOk.null (h : TreeOk cs) : plc (famL cs) nNull = (famL cs).length := by
  refine plc_noneK fun x hx => ?_
  rcases List.mem_append.1 hx with hx | hx
  · exact bases_not.1 x hx
  · obtain ⟨⟨i, hi, e⟩, _⟩ := h.2 x hx; exact (names_five hi e).1
theorem TreeOk.empty (h : TreeOk cs) : plc (famL cs) ⟨#[]⟩ = (famL cs).length := by
  refine plc_noneK fun x hx => ?_
  rcases List.mem_append.1 hx with hx | hx
  · exact bases_not.2 x hx
  · obtain ⟨⟨i, hi, e⟩, _⟩ := h.2 x hx; exact (names_five hi e).2.1
theorem TreeOk.notNull (h : TreeOk cs) {j : Nat} {c : Hdr} (hc : cs[j]? = some c) : c.1 ≠ nNull ∧ nullB c.1 = false := by
  obtain ⟨⟨i, hi, e⟩, _⟩ := h.2 c (List.mem_of_getElem? hc)
  exact ⟨(names_five hi e).1, (names_five hi e).2.2.1⟩
theorem GoodT.lt (h : GoodT cs) {j : Nat} {c : Hdr} (hc : cs[j]? = some c) : plc (famL cs) c.1 = 5 + j ∧ 5 + j < (famL cs).length := by
  have := (List.getElem?_eq_some_iff.1 hc).1
  exact ⟨h.good.own j c hc, by rw [famL_len]; omega⟩
theorem GoodT.isC (h : GoodT cs) {j : Nat} {c : Hdr} (hc : cs[j]? = some c) : isC cs c.1 = true := by
  unfold Go.Proofs.Ytiibneldabfokaa.isC; rw [(h.lt hc).1]; exact decide_eq_true (h.lt hc).2
theorem GoodT.ends (h : GoodT cs) {j : Nat} {c : Hdr} (hc : cs[j]? = some c) : Leads (famL cs) (famL cs).length (5 + j) := by
  rcases h.good.up j c hc with e | e
  · refine Leads.up ?_
    have hx : (famL cs)[5 + j]? = some c := by rw [famL_own]; exact hc
    rw [upp_at hx, e, h.ok.empty]; exact Leads.refl _ _
  · exact e.2
theorem GoodT.sub_ne (h : GoodT cs) {j k : Nat} {c d : Hdr} (hc : cs[j]? = some c) (hd : cs[k]? = some d) (hne : c.1 ≠ d.1) : subS cs c.1 d.1 = true ↔ Leads (famL cs) (5 + k) (5 + j) := by
  unfold subS
  rw [if_neg hne, (h.ok.notNull hc).2, Bool.false_and, Bool.false_or, upS, (h.lt hc).1, (h.lt hd).1, decide_eq_true (h.lt hd).2, Bool.true_and, leadsB_iff (Nat.le_of_lt (h.lt hc).2) (Nat.le_of_lt (h.lt hd).2)]
theorem GoodT.sub_self (h : GoodT cs) {j : Nat} {c : Hdr} (hc : cs[j]? = some c) : subS cs c.1 c.1 = true := by
  unfold subS typeS; rw [if_pos rfl, h.isC hc]; simp
theorem GoodT.null_sub (h : GoodT cs) {j : Nat} {c : Hdr} (hc : cs[j]? = some c) : subS cs nNull c.1 = true := by
  unfold subS
  rw [if_neg (fun e => (h.ok.notNull hc).1 e.symm), h.isC hc, show nullB nNull = true from by decide +kernel]; rfl
theorem GoodT.sub_null (h : GoodT cs) {j : Nat} {c : Hdr} (hc : cs[j]? = some c) : subS cs c.1 nNull = false := by
  unfold subS upS
  rw [if_neg (h.ok.notNull hc).1, (h.ok.notNull hc).2, h.ok.null]; simp
theorem GoodT.not_both (h : GoodT cs) {j k : Nat} {c d : Hdr} (hc : cs[j]? = some c) (hd : cs[k]? = some d) (hne : c.1 ≠ d.1) (h1 : subS cs c.1 d.1 = true) : subS cs d.1 c.1 = false := by
  cases h2 : subS cs d.1 c.1
  · rfl
  · exfalso
    have e := no_ring (h.lt hc).2 (h.ends hc) ((h.sub_ne hc hd hne).1 h1) ((h.sub_ne hd hc (fun e => hne e.symm)).1 h2)
    exact hne (plc_inj (by rw [(h.lt hc).1, (h.lt hd).1]; exact e) (by rw [(h.lt hc).1]; exact (h.lt hc).2))
theorem GoodT.trans (h : GoodT cs) {i j k : Nat} {c d f : Hdr} (hc : cs[i]? = some c) (hd : cs[j]? = some d) (hf : cs[k]? = some f) (h1 : subS cs c.1 d.1 = true) (h2 : subS cs d.1 f.1 = true) : subS cs c.1 f.1 = true := by
  by_cases e1 : c.1 = d.1
  · rw [e1]; exact h2
  · by_cases e2 : d.1 = f.1
    · rw [← e2]; exact h1
    · by_cases e3 : c.1 = f.1
      · rw [← e3]; exact h.sub_self hc
      · exact (h.sub_ne hc hf e3).2 (((h.sub_ne hc hd e1).1 h1).trans ((h.sub_ne hd hf e2).1 h2))
end
theorem sub_any {w : World} {v : Value} {cs : List Hdr} (h : Cl w v cs) (a b : ByteArray) : Calls Try.prog 9 #[.agg #[v], .string a, .string b] w fun e w' => e = .returned (.bool (subS cs a b)) ∧ Below w.heap.size w w' := by
  by_cases e : a = b
  · subst e; exact sub_same h a
  · exact sub_not h a b e
end Go.Proofs.Ytiibneldabfokaa
