/- Trees of classes without a fault: kids one by one, chains. No program but kin's plain answers. -/
import Derived.Test.YtiibneldabfokaaKinS
set_option linter.unusedSimpArgs false
set_option linter.unusedVariables false
namespace Go.Proofs.Ytiibneldabfokaa
open Go.RowKit
section
variable {cs : List Hdr}
theorem names_small {i : Nat} (hi : i < 9) {x : ByteArray} (h : namesT[i]? = some x) : x.size ≤ 1000 := by
  have key : ∀ y ∈ namesT, y.size ≤ 1000 := by decide +kernel
  exact key x (List.mem_of_getElem? h)
theorem TreeOk.sm (h : TreeOk cs) : Sm cs := fun c hc => by
  obtain ⟨⟨i, hi, e⟩, ⟨j, hj, f⟩⟩ := h.2 c hc
  exact ⟨names_small (by omega) e, names_small hj f⟩
theorem kidsF_append (s : ByteArray) (a b : List Hdr) : kidsF cs s (a ++ b) = kidsF cs s a ++ kidsF cs s b := by simp [kidsF]
theorem kidsF_cut (s : ByteArray) {i : Nat} {c : Hdr} (h : cs[i]? = some c) : kidsF cs s cs = kidsF cs s (cs.take i) ++ ((if kidB cs s c then [c.1] else []) ++ kidsF cs s (cs.drop (i + 1))) := by
  have e : kidsF cs s cs = kidsF cs s (cs.take i ++ cs.drop i) := congrArg (kidsF cs s) (List.take_append_drop i cs).symm
  rw [e, kidsF_append, drop_at h, show c :: cs.drop (i + 1) = [c] ++ cs.drop (i + 1) from rfl, kidsF_append]
  have e2 : kidsF cs s [c] = if kidB cs s c = true then [c.1] else [] := by
    unfold kidsF
    cases hb : kidB cs s c <;> simp [hb]
  rw [e2]
/-- What stands next among the kids. -/
theorem kids_yes (s : ByteArray) {i : Nat} {c : Hdr} (h : cs[i]? = some c) (hb : kidB cs s c = true) : (kidsF cs s cs)[(kidsF cs s (cs.take i)).length]? = some c.1 ∧ (kidsF cs s (cs.take (i + 1))).length = (kidsF cs s (cs.take i)).length + 1 := by
  refine ⟨?_, by rw [kidsF_step h, hb]; simp⟩
  rw [kidsF_cut s h, hb, List.getElem?_append_right (Nat.le_refl _)]; simp
theorem kids_no (hG : GoodH cs) (s : ByteArray) {i : Nat} {c : Hdr} (h : cs[i]? = some c) (hb : kidB cs s c = false) : (∀ t, (kidsF cs s cs)[(kidsF cs s (cs.take i)).length]? = some t → t ≠ c.1) ∧ (kidsF cs s (cs.take (i + 1))).length = (kidsF cs s (cs.take i)).length := by
  refine ⟨fun t ht => ?_, by rw [kidsF_step h, hb]; simp⟩
  rw [kidsF_cut s h, hb, List.getElem?_append_right (Nat.le_refl _)] at ht
  simp only [Nat.sub_self, Bool.false_eq_true, if_false, List.nil_append] at ht
  have hm := List.mem_of_getElem? ht
  unfold kidsF at hm
  obtain ⟨d, hd, e⟩ := List.mem_map.1 hm
  have hd2 := (List.mem_filter.1 hd).1
  obtain ⟨k, hk⟩ := List.getElem?_of_mem hd2
  rw [List.getElem?_drop] at hk
  rintro rfl
  have h1 := hG.own _ _ h
  have h2 := hG.own _ _ hk
  have e2 : d.1 = c.1 := e
  rw [e2] at h2; omega
theorem GoodT.kid (h : GoodT cs) {j k : Nat} {c d : Hdr} (hc : cs[j]? = some c) (hd : cs[k]? = some d) (hne : c.1 ≠ d.1) : kidB cs d.1 c = subS cs c.1 d.1 := by
  rw [Bool.eq_iff_iff, h.sub_ne hc hd hne]
  unfold kidB
  rw [decide_eq_true hne, Bool.true_and, (h.lt hc).1, (h.lt hd).1, leadsB_iff (Nat.le_of_lt (h.lt hc).2) (Nat.le_of_lt (h.lt hd).2)]
theorem kid_self (c : Hdr) : kidB cs c.1 c = false := by unfold kidB; simp
theorem GoodT.super (h : GoodT cs) {j : Nat} {c : Hdr} (hc : cs[j]? = some c) : superS cs c.1 = c.2 := by
  unfold superS; rw [(h.lt hc).1, famL_own, hc]
/-- A chain's first, and whether there is a second one. -/
theorem GoodT.chain (h : GoodT cs) {j : Nat} {c : Hdr} (hc : cs[j]? = some c) {l : List Nat} (hl : Ch (famL cs) (plc (famL cs) c.1) l) : (namesL (famL cs) l)[0]? = some c.1 ∧ ((l.length = 1 ∧ c.2 = ⟨#[]⟩) ∨ (1 < l.length ∧ c.2 ≠ ⟨#[]⟩)) := by
  rw [(h.lt hc).1] at hl
  have hx : (famL cs)[5 + j]? = some c := by rw [famL_own]; exact hc
  have hlt := (h.lt hc).2
  obtain ⟨i, hw, he⟩ := hl
  cases l with
  | nil =>
    exfalso
    have e : i = 5 + j := hw.at_
    rcases he with he | he
    · omega
    · simp at he
  | cons a l =>
    have e0 := hw.all 0 (by simp)
    simp only [it, List.getElem?_cons_zero, Option.some.injEq] at e0
    subst e0
    refine ⟨by simp [namesL, nameOf_at hx], ?_⟩
    have hu : upp (famL cs) (5 + j) = plc (famL cs) c.2 := upp_at hx
    cases l with
    | nil =>
      left
      refine ⟨rfl, ?_⟩
      have e : i = upp (famL cs) (5 + j) := hw.at_
      rcases h.good.up j c hc with e2 | ⟨e2, e3⟩
      · exact e2
      · exfalso
        rw [hu] at e
        rcases he with he | he
        · omega
        · have hi : i = 5 + j := by simpa using he
          obtain ⟨m, hm⟩ := e3
          have hall : ∀ m, it (upp (famL cs)) m (5 + j) = 5 + j := by
            intro m
            induction m with
            | zero => rfl
            | succ m ih => rw [it_succ, ih, hu, ← e, hi]
          rw [hall] at hm; omega
    | cons b l =>
      right
      refine ⟨by simp, fun e2 => ?_⟩
      have e1 := hw.all 1 (by simp)
      simp only [it, List.getElem?_cons_succ, List.getElem?_cons_zero, Option.some.injEq] at e1
      have := hw.lt b (by simp)
      rw [e1, hu, e2, h.ok.empty] at this
      omega
end
end Go.Proofs.Ytiibneldabfokaa
