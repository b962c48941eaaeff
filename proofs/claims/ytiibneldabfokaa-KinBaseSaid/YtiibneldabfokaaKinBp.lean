/- Base classes: who stands for whom. No program but kin's plain answers. -/
import Derived.Test.YtiibneldabfokaaKinZ
set_option linter.unusedSimpArgs false
set_option linter.unusedVariables false
namespace Go.Proofs.Ytiibneldabfokaa
open Go.RowKit
section
variable {cs : List Hdr}
theorem plc_exc : plc (famL cs) kExc = 0 := by show (if kExc = kExc then 0 else _) = 0; rw [if_pos rfl]
theorem fam_lt (cs : List Hdr) : 5 ≤ (famL cs).length := by rw [famL_len]; omega
theorem base_up (h : TreeOk cs) {k : Nat} (hk : k < 5) : upp (famL cs) k = if k = 0 then (famL cs).length else 0 := by
  have e3 : (famL cs)[k]? = basesL[k]? := by unfold famL; rw [List.getElem?_append_left (by show _ < 5; omega)]
  match k, hk with
  | 0, _ => rw [if_pos rfl, upp_at (h := (kExc, ⟨#[]⟩)) (by rw [e3]; rfl)]; exact h.empty
  | 1, _ => rw [if_neg (by decide), upp_at (h := (kNul, kExc)) (by rw [e3]; rfl)]; exact plc_exc
  | 2, _ => rw [if_neg (by decide), upp_at (h := (kCas, kExc)) (by rw [e3]; rfl)]; exact plc_exc
  | 3, _ => rw [if_neg (by decide), upp_at (h := (kZer, kExc)) (by rw [e3]; rfl)]; exact plc_exc
  | 4, _ => rw [if_neg (by decide), upp_at (h := (kRan, kExc)) (by rw [e3]; rfl)]; exact plc_exc
theorem lead_zero (h : TreeOk cs) {k : Nat} (hk : k < 5) : Leads (famL cs) 0 k := by
  by_cases h0 : k = 0
  · rw [h0]; exact Leads.refl _ _
  · refine Leads.up ?_; rw [base_up h hk, if_neg h0]; exact Leads.refl _ _
theorem lead_base (h : TreeOk cs) {k g : Nat} (hk : k < 5) (hg : g < (famL cs).length) (hl : Leads (famL cs) g k) : g = k ∨ g = 0 := by
  by_cases h1 : k = g
  · exact .inl h1.symm
  · have h2 := hl.of_up h1
    rw [base_up h hk] at h2
    split at h2
    · exact absurd h2 (leads_none_not hg)
    · by_cases h3 : (0 : Nat) = g
      · exact .inr h3.symm
      · have h4 := h2.of_up h3
        rw [base_up h (by decide), if_pos rfl] at h4
        exact absurd h4 (leads_none_not hg)
theorem base_names {x : ByteArray} (hx : isC [] x = true) : x ∈ baseNames := inB_iff.1 (by rw [base_isC]; exact hx)
theorem base_notNull {x : ByteArray} (hx : isC [] x = true) : nullB x = false := by
  have key : ∀ s ∈ baseNames, nullB s = false := by decide +kernel
  exact key x (base_names hx)
theorem TreeOk.notBase (h : TreeOk cs) {j : Nat} {c : Hdr} (hc : cs[j]? = some c) {x : ByteArray} (hx : isC [] x = true) : x ≠ c.1 := by
  obtain ⟨⟨i, hi, e⟩, _⟩ := h.2 c (List.mem_of_getElem? hc)
  have h4 := (names_five hi e).2.2.2
  rintro rfl
  have hm := base_names hx
  have : ∃ b ∈ basesL, b.1 = c.1 := by
    have e2 : baseNames = basesL.map (·.1) := rfl
    rw [e2] at hm
    obtain ⟨b, hb, e3⟩ := List.mem_map.1 hm
    exact ⟨b, hb, e3⟩
  obtain ⟨b, hb, e3⟩ := this
  exact h4 b hb e3
theorem good_base_not (h : GoodT cs) {j : Nat} {c : Hdr} (hc : cs[j]? = some c) {x : ByteArray} (hx : isC [] x = true) : subS cs x c.1 = false := by
  obtain ⟨e1, e2⟩ := isC_base (cs := cs) hx
  unfold subS upS
  rw [if_neg (h.ok.notBase hc hx), base_notNull hx, Bool.false_and, Bool.false_or, (h.lt hc).1]
  have hl : leadsB (famL cs) (5 + j) (plc (famL cs) x) = false := by
    rw [leadsB_false (plc_le _ _) (Nat.le_of_lt (h.lt hc).2), e1]
    intro hl
    rcases lead_base h.ok e2 (h.lt hc).2 hl with e | e <;> omega
  rw [hl, Bool.and_false]
theorem good_to_base (h : GoodT cs) {j : Nat} {c : Hdr} (hc : cs[j]? = some c) (hx : isC [] c.2 = true) : subS cs c.1 c.2 = true ∧ subS cs c.1 kExc = true := by
  obtain ⟨e1, e2⟩ := isC_base (cs := cs) hx
  have h5 := fam_lt cs
  have hu : upp (famL cs) (5 + j) = plc basesL c.2 := by rw [upp_at (h := c) (by rw [famL_own]; exact hc), e1]
  have hle := Nat.le_of_lt (h.lt hc).2
  have hE : isC [] kExc = true := by decide +kernel
  constructor
  · unfold subS upS
    rw [if_neg (fun e => h.ok.notBase hc hx e.symm), (h.ok.notNull hc).2, Bool.false_and, Bool.false_or, (h.lt hc).1, e1, decide_eq_true (show plc basesL c.2 < (famL cs).length by omega), Bool.true_and, leadsB_iff hle (by omega)]
    refine Leads.up ?_; rw [hu]; exact Leads.refl _ _
  · unfold subS upS
    rw [if_neg (fun e => h.ok.notBase hc hE e.symm), (h.ok.notNull hc).2, Bool.false_and, Bool.false_or, (h.lt hc).1, plc_exc, decide_eq_true (show 0 < (famL cs).length by omega), Bool.true_and, leadsB_iff hle (by omega)]
    refine Leads.up ?_; rw [hu]; exact lead_zero h.ok e2
theorem base_is {x : ByteArray} (hx : isC [] x = true) : isC cs x = true := by
  rw [isC_split, hx]; rfl
theorem base_type {x : ByteArray} (hx : isC [] x = true) : typeS cs x = true := by unfold typeS; rw [base_is hx]; simp
theorem base_sub (h : TreeOk cs) {x y : ByteArray} (hx : isC [] x = true) (hy : isC [] y = true) : subS cs x y = (decide (x = y) || decide (y = kExc)) := by
  unfold subS
  by_cases e : x = y
  · rw [if_pos e, base_type hx, decide_eq_true e]; simp
  · rw [if_neg e, base_notNull hx, Bool.false_and, Bool.false_or, decide_eq_false e, Bool.false_or]
    obtain ⟨a1, a2⟩ := isC_base (cs := cs) hx
    obtain ⟨b1, b2⟩ := isC_base (cs := cs) hy
    have h5 := fam_lt cs
    unfold upS
    rw [a1, b1, decide_eq_true (show plc basesL y < (famL cs).length by omega), Bool.true_and, Bool.eq_iff_iff, leadsB_iff (by omega) (by omega), decide_eq_true_eq]
    constructor
    · intro hl
      rcases lead_base h a2 (by omega) hl with e2 | e2
      · exact absurd (plc_inj e2.symm (by show _ < 5; exact a2)) e
      · have e3 : plc basesL y = plc basesL kExc := by rw [e2]; decide +kernel
        exact plc_inj e3 (by show _ < 5; exact b2)
    · rintro rfl
      have e3 : plc basesL kExc = 0 := by decide +kernel
      rw [e3]; exact lead_zero h a2
end
end Go.Proofs.Ytiibneldabfokaa
