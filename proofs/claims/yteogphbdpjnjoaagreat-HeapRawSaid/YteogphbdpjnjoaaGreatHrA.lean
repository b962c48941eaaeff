/- Fields of classes, as plain lists of types and names; when a program's fields may be; a set of texts. No Go program's step in this text. -/
import Derived.Test.YteogphbdpjnjoaaGreatKinZ
import Derived.Maps.OwnSet
set_option linter.unusedSimpArgs false
set_option linter.unusedVariables false
namespace Go.Proofs.YteogphbdpjnjoaaGreat
open Go.RowKit Go.Maps Go.WideMaps
abbrev Fld := ByteArray × ByteArray
/-- A class's fields may be: no two of one name, each of a type that there is. -/
def FOk (cs : List Hdr) (fs : List Fld) : Prop := (fs.map (·.2)).Nodup ∧ ∀ x ∈ fs, typeS cs x.1 = true
theorem chk1_good {ps : List Hdr} : ∀ {l : List Hdr} {i : Nat}, (∀ j c, l[j]? = some c → plc ps c.1 = 5 + i + j) → chk1 ps l i = none
  | [], i, _ => by simp [chk1]
  | c :: l, i, h => by
    have h0 := h 0 c (by simp)
    unfold chk1
    rw [if_pos (by omega)]
    exact chk1_good fun j d hj => by have := h (j + 1) d (by simpa using hj); omega
theorem chk2_good {ps : List Hdr} : ∀ {l : List Hdr} {i : Nat}, (∀ j c, l[j]? = some c → c.2 = ⟨#[]⟩ ∨ (plc ps c.2 < ps.length ∧ leadsB ps ps.length (5 + i + j) = true)) → chk2 ps l i = none
  | [], i, _ => by simp [chk2]
  | c :: l, i, h => by
    have hr : chk2 ps l (i + 1) = none := chk2_good fun j d hj => by
      have := h (j + 1) d (by simpa using hj)
      rwa [show 5 + i + (j + 1) = 5 + (i + 1) + j by omega] at this
    unfold chk2
    rcases h 0 c (by simp) with h0 | ⟨h0, h1⟩
    · rw [if_pos h0]; exact hr
    · split
      · exact hr
      · first | (rw [if_pos h0, if_pos h1]; exact hr) | (rw [if_pos (by simpa using h1)]; exact hr)
theorem chk_good {cs : List Hdr} : (chkL cs).1 = 0 ↔ GoodH cs := by
  constructor
  · exact good_of
  · intro g
    have h1 : chk1 (famL cs) cs 0 = none := chk1_good fun j c hj => by have := g.own j c hj; omega
    have h2 : chk2 (famL cs) cs 0 = none := chk2_good fun j c hj => by
      rcases g.up j c hj with h | ⟨h, h'⟩
      · exact .inl h
      · have hj5 : 5 + j ≤ (famL cs).length := by rw [famL_len]; have := (List.getElem?_eq_some_iff.1 hj).1; omega
        refine .inr ⟨h, ?_⟩
        rw [show 5 + 0 + j = 5 + j by omega]
        exact (leadsB_iff hj5 (Nat.le_refl _)).2 h'
    unfold chkL; rw [h1, h2]
/-- A set of texts. -/
def keyB (s : ByteArray) : Lit := .string s.data.toList
def setS (l : List ByteArray) : DataW Unit := setOf (.agg []) (l.map keyB)
theorem setB_nil : setS [] = .map [] := by simp [setS, setOf]
theorem setB_snoc (l : List ByteArray) (s : ByteArray) : setS (l ++ [s]) = (setS l).put (keyB s) (.agg []) := by unfold setS; rw [List.map_append, List.map_cons, List.map_nil, setOf_snoc]
theorem keyB_is (s : ByteArray) : WideAt.IsKeyLit (keyB s) := by simp [keyB, WideAt.IsKeyLit]
theorem keyB_same (s t : ByteArray) : (keyB s).sameKey (keyB t) = decide (s = t) := by
  have e : (keyB s).sameKey (keyB t) = (s.data.toList == t.data.toList) := rfl
  rw [e, Bool.eq_iff_iff, beq_iff_eq, decide_eq_true_eq]
  constructor
  · intro h
    cases s; cases t
    simp only [ByteArray.mk.injEq]
    exact Array.toList_inj.1 h
  · rintro rfl; rfl
theorem setB_keys (l : List ByteArray) : ∀ x ∈ l.map keyB, WideAt.IsKeyLit x := by
  intro x hx
  obtain ⟨s, _, rfl⟩ := List.mem_map.1 hx
  exact keyB_is s
theorem has_setB (l : List ByteArray) (s : ByteArray) : Maps.has (setS l) (keyB s) = inB s l := by
  unfold setS
  rw [has_setOf _ _ _ (setB_keys l), Bool.eq_iff_iff, List.any_eq_true, inB_iff]
  constructor
  · rintro ⟨x, hx, e⟩
    obtain ⟨t, ht, rfl⟩ := List.mem_map.1 hx
    rw [keyB_same] at e
    rw [← of_decide_eq_true e]; exact ht
  · intro h
    exact ⟨keyB s, List.mem_map.2 ⟨s, h, rfl⟩, by rw [keyB_same]; exact decide_eq_true rfl⟩
theorem add_len : ∀ (l : List ByteArray) (acc : List ByteArray), acc.Nodup → ((l.map keyB).foldl addKey (acc.map keyB)).length ≤ acc.length + l.length ∧ (((l.map keyB).foldl addKey (acc.map keyB)).length = acc.length + l.length ↔ (acc ++ l).Nodup)
  | [], acc, h => by simp [h]
  | s :: l, acc, h => by
    rw [List.map_cons, List.foldl_cons]
    have ha : (acc.map keyB).any (fun y => y.sameKey (keyB s)) = inB s acc := by
      rw [Bool.eq_iff_iff, List.any_eq_true, inB_iff]
      constructor
      · rintro ⟨x, hx, e⟩
        obtain ⟨t, ht, rfl⟩ := List.mem_map.1 hx
        rw [keyB_same] at e
        rw [← of_decide_eq_true e]; exact ht
      · intro hm
        exact ⟨keyB s, List.mem_map.2 ⟨s, hm, rfl⟩, by rw [keyB_same]; exact decide_eq_true rfl⟩
    by_cases hm : s ∈ acc
    · have e : addKey (acc.map keyB) (keyB s) = acc.map keyB := by unfold addKey; rw [ha, inB_iff.2 hm]; rfl
      rw [e]
      obtain ⟨h1, h2⟩ := add_len l acc h
      simp only [List.length_cons]
      refine ⟨by omega, ⟨fun h3 => absurd h3 (by omega), fun h3 => ?_⟩⟩
      exact absurd rfl ((List.nodup_append.1 h3).2.2 s hm s (by simp))
    · have e : addKey (acc.map keyB) (keyB s) = (acc ++ [s]).map keyB := by unfold addKey; rw [ha, Bool.eq_false_iff.2 (fun h => hm (inB_iff.1 h))]; simp
      rw [e]
      have h' : (acc ++ [s]).Nodup := by
        rw [List.nodup_append]
        refine ⟨h, by simp, fun a hma b hb => ?_⟩
        simp at hb; subst hb
        rintro rfl; exact hm hma
      obtain ⟨h1, h2⟩ := add_len l (acc ++ [s]) h'
      simp only [List.length_append, List.length_cons, List.length_nil, List.append_assoc, List.cons_append, List.nil_append] at h1 h2 ⊢
      refine ⟨by omega, ?_⟩
      rw [← h2]
      omega
theorem size_setB (l : List ByteArray) : Maps.size (setS l) ≤ l.length ∧ (Maps.size (setS l) = l.length ↔ l.Nodup) := by
  unfold setS
  rw [size_setOf _ _ (setB_keys l)]
  have := add_len l [] List.nodup_nil
  simpa using this
end Go.Proofs.YteogphbdpjnjoaaGreat
