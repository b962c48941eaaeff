/- A closed check, of one pass over the pairs, that a region that draws its order may be walked in the order of its text. -/
import Derived.Test.YtlpddmncgmhkeaaProg
import Derived.WalkKit
import Derived.Deep.QuietTactic
import Derived.BigQuiet
set_option linter.unusedSimpArgs false
set_option linter.unusedVariables false
namespace Go.Proofs.Ytlpddmncgmhkeaa

def lexOk (md : Region.Mode) (ops : Array Oper) : List Oper → Nat → Bool
  | [], _ => true
  | o :: rest, k => o.after.toList.all (fun e => !Region.binds md e || Nat.blt e.on k) && rest.all (fun y => o.apart ops y || y.after.toList.any (fun e => Region.binds md e && Nat.beq e.on k)) && lexOk md ops rest (k + 1)
theorem getD_repl {n : Nat} (listed : Array Bool) (k : Nat) (hs : listed.size = n) (h : ∀ j, j < n → listed.getD j true = decide (j < k)) (hk : k < n) : ∀ j, j < n → (listed.setIfInBounds k true).getD j true = decide (j < k + 1) := by
  intro j hj
  by_cases e : j = k
  · subst e
    simp [Array.getD, hs, hj]
  · rw [getD_set_ne true (Ne.symm e), h j hj]
    simp only [decide_eq_decide]; omega
theorem lexFrom_of {md : Region.Mode} {ops : Array Oper} : ∀ (rest : List Oper) (k : Nat) (listed : Array Bool), (∀ j, rest[j]? = ops[k + j]?) → k + rest.length = ops.size → listed.size = ops.size → (∀ j, j < ops.size → listed.getD j true = decide (j < k)) →
    lexOk md ops rest k = true → Region.lexFrom md ops rest.length k listed = true
  | [], k, listed, _, hk, hs, hl, _ => by
    simp only [List.length_nil, Region.lexFrom]
    rw [List.isEmpty_iff, List.eq_nil_iff_forall_not_mem]
    intro j hj
    obtain ⟨h0, o, ho, _⟩ := mem_ready.1 hj
    have hlt : j < ops.size := (Array.getElem?_eq_some_iff.1 ho).1
    rw [hl j hlt] at h0
    simp at h0 hk; omega
  | o :: rest, k, listed, hr, hk, hs, hl, h => by
    simp only [lexOk, Bool.and_eq_true] at h
    obtain ⟨⟨h1, h2⟩, h3⟩ := h
    have h0 : ops[k]? = some o := by simpa using (hr 0).symm
    simp only [List.length_cons] at hk
    have hkl : k < ops.size := by omega
    have hr' : ∀ j, rest[j]? = ops[k + 1 + j]? := fun j => by have := hr (j + 1); simpa [Nat.add_assoc, Nat.add_comm 1 j] using this
    have ih := lexFrom_of rest (k + 1) (listed.setIfInBounds k true) hr' (by omega) (by simpa using hs) (getD_repl listed k hs hl hkl) h3
    simp only [List.length_cons, Region.lexFrom, Bool.and_eq_true]
    refine ⟨⟨?_, ?_⟩, ih⟩
    · rw [List.contains_iff_mem, mem_ready]
      refine ⟨by rw [hl k hkl]; simp, o, h0, fun e he hb => ?_⟩
      have := List.all_eq_true.1 h1 e (by simpa using he)
      simp only [hb, Bool.not_true, Bool.false_or] at this
      have hlt : e.on < k := by rw [Nat.blt_eq] at this; exact this
      have hlt2 : e.on < ops.size := by omega
      have := hl e.on hlt2
      simp only [hlt, decide_true] at this
      simpa [Array.getD, hs, hlt2] using this
    · simp only [Region.free, h0, List.all_eq_true, List.mem_range]
      intro j hj
      by_cases hlk : j < k
      · rw [hl j hj]; simp [hlk]
      · by_cases e : j = k
        · simp [e]
        · have hj' : rest[j - k - 1]? = ops[j]? := by rw [hr']; congr 1; omega
          cases ho : ops[j]? with
          | none => simp
          | some y =>
            have hm : y ∈ rest := List.mem_of_getElem? (hj'.trans ho)
            have := List.all_eq_true.1 h2 y hm
            simp only [Bool.or_eq_true] at this ⊢
            refine .inr ?_
            rcases this with h | h
            · exact .inr h
            · refine .inl ?_
              obtain ⟨e, he, hb⟩ := List.any_eq_true.1 h
              rw [Array.any_eq_true']
              refine ⟨e, by simpa using he, ?_⟩
              simpa [Nat.beq_eq] using hb
theorem lexB_of {l : List Oper} (hn : Region.noSelect l.toArray = true) (h : lexOk .any l.toArray l 0 = true) : Region.lexB .any l.toArray = true := by
  simp only [Region.lexB, Bool.and_eq_true]
  refine ⟨hn, ?_⟩
  have := lexFrom_of (ops := l.toArray) l 0 (Array.replicate l.length false) (by simp) (by simp) (by simp) (fun j hj => by simp at hj; simp [Array.getD, hj]) h
  simpa using this
end Go.Proofs.Ytlpddmncgmhkeaa
