/- What stands ahead of an operation, as one number. No Go program in this text. -/
import Derived.Test.YtmhnnfponloihaaDoorEvR
set_option linter.unusedSimpArgs false
set_option linter.unusedVariables false
namespace Go.Proofs.YtmhnnfponloihaaDoor
open Go.RowKit

def tb (m n : Nat) : Bool := Nat.beq (Nat.land (Nat.shiftRight m n) 1) 1
theorem tb_eq (m n : Nat) : tb m n = m.testBit n := by
  rw [Bool.eq_iff_iff]
  unfold tb
  rw [Nat.beq_eq]
  have : Nat.land (Nat.shiftRight m n) 1 = (m >>> n) % 2 := Nat.and_one_is_mod (m >>> n)
  rw [this, Nat.testBit_eq_decide_div_mod_eq, decide_eq_true_iff, Nat.shiftRight_eq_div_pow]
theorem land_is {a b : Nat} (h : Nat.beq (Nat.land a b) a = true) {j : Nat} (hj : a.testBit j = true) : b.testBit j = true := by
  rw [Nat.beq_eq] at h
  have h2 : (a &&& b).testBit j = true := by rw [show a &&& b = a from h]; exact hj
  rw [Nat.testBit_and, Bool.and_eq_true] at h2
  exact h2.2
def stepB (acc : Array Nat) (o : Oper) : Nat := o.after.foldl (fun s e => if Region.binds .any e then s ||| 2 ^ e.on ||| acc.getD e.on 0 else s) 0
theorem before_is (ops : Array Oper) : Region.before ops = ops.toList.foldl (fun acc o => acc.push (stepB acc o)) #[] := by
  unfold Region.before
  rw [← Array.foldl_toList]; rfl
theorem fold_bit {acc : Array Nat} {j : Nat} : ∀ (l : List Edge) (s : Nat), (l.foldl (fun s e => if Region.binds .any e then s ||| 2 ^ e.on ||| acc.getD e.on 0 else s) s).testBit j = true ↔ s.testBit j = true ∨ ∃ e ∈ l, Region.binds .any e = true ∧ (e.on = j ∨ (acc.getD e.on 0).testBit j = true)
  | [], s => by simp
  | e :: l, s => by
    rw [List.foldl_cons, fold_bit l]
    cases hb : Region.binds .any e with
    | false => simp [hb]
    | true =>
      simp only [if_true, Nat.testBit_or, Bool.or_eq_true, Nat.testBit_two_pow, decide_eq_true_iff, List.mem_cons, exists_eq_or_imp, hb, true_and]
      constructor
      · rintro (((h | h) | h) | h)
        · exact .inl h
        · exact .inr (.inl (.inl h))
        · exact .inr (.inl (.inr h))
        · exact .inr (.inr h)
      · rintro (h | (h | h) | h)
        · exact .inl (.inl (.inl h))
        · exact .inl (.inl (.inr h))
        · exact .inl (.inr h)
        · exact .inr h
theorem stepB_bit {acc : Array Nat} {o : Oper} {j : Nat} : (stepB acc o).testBit j = true ↔ ∃ e ∈ o.after, Region.binds .any e = true ∧ (e.on = j ∨ (acc.getD e.on 0).testBit j = true) := by
  unfold stepB
  rw [← Array.foldl_toList, fold_bit]
  simp
theorem fold_spec : ∀ (l : List Oper) (acc : Array Nat), (l.foldl (fun acc o => acc.push (stepB acc o)) acc).size = acc.size + l.length ∧ (∀ i, i < acc.size → (l.foldl (fun acc o => acc.push (stepB acc o)) acc)[i]? = acc[i]?) ∧
    ∀ k o, l[k]? = some o → ∃ acc', acc'.size = acc.size + k ∧ (∀ i, i < acc'.size → acc'[i]? = (l.foldl (fun acc o => acc.push (stepB acc o)) acc)[i]?) ∧ (l.foldl (fun acc o => acc.push (stepB acc o)) acc)[acc.size + k]? = some (stepB acc' o)
  | [], acc => ⟨rfl, fun _ _ => rfl, fun k o h => by simp at h⟩
  | x :: l, acc => by
    obtain ⟨h1, h2, h3⟩ := fold_spec l (acc.push (stepB acc x))
    simp only [List.foldl_cons]
    refine ⟨by rw [h1]; simp; omega, fun i hi => ?_, fun k o h => ?_⟩
    · rw [h2 i (by simp; omega), Array.getElem?_push, if_neg (by omega)]
    · cases k with
      | zero =>
        simp at h; subst h
        refine ⟨acc, rfl, fun i hi => ?_, ?_⟩
        · rw [h2 i (by simp; omega), Array.getElem?_push, if_neg (by omega)]
        · rw [h2 _ (by simp), Nat.add_zero, Array.getElem?_push, if_pos rfl]
      | succ k =>
        obtain ⟨acc', g1, g2, g3⟩ := h3 k o (by simpa using h)
        refine ⟨acc', by rw [g1]; simp; omega, g2, ?_⟩
        have : (acc.push (stepB acc x)).size + k = acc.size + (k + 1) := by simp; omega
        rw [← this]; exact g3
/-- j stands ahead of i. -/
def bitB (ops : Array Oper) (j i : Nat) : Prop := ((Region.before ops).getD i 0).testBit j = true
def BackOk (ops : Array Oper) : Prop := ∀ i o, ops[i]? = some o → ∀ e ∈ o.after, Region.binds .any e = true → e.on < i
theorem bit_is {ops : Array Oper} (hb : BackOk ops) {i : Nat} {o : Oper} (ho : ops[i]? = some o) {j : Nat} : bitB ops j i ↔ ∃ e ∈ o.after, Region.binds .any e = true ∧ (e.on = j ∨ bitB ops j e.on) := by
  obtain ⟨acc', h1, h2, h3⟩ := (fold_spec ops.toList #[]).2.2 i o (by simpa using ho)
  rw [← before_is] at h2 h3
  have e1 : (Region.before ops).getD i 0 = stepB acc' o := by
    simp only [List.size_toArray, List.length_nil, Nat.zero_add] at h3
    rw [Array.getD_eq_getD_getElem?, h3]; rfl
  unfold bitB
  rw [e1, stepB_bit]
  have hs : acc'.size = i := by rw [h1]; simp
  have eq : ∀ e ∈ o.after, Region.binds .any e = true → acc'.getD e.on 0 = (Region.before ops).getD e.on 0 := fun e he hbe => by
    have := hb i o ho e he hbe
    rw [Array.getD_eq_getD_getElem?, Array.getD_eq_getD_getElem?, h2 e.on (by omega)]
  constructor
  · rintro ⟨e, he, hbe, h⟩
    exact ⟨e, he, hbe, by rw [← eq e he hbe]; exact h⟩
  · rintro ⟨e, he, hbe, h⟩
    exact ⟨e, he, hbe, by rw [eq e he hbe]; exact h⟩
theorem bit_size {ops : Array Oper} {i j : Nat} (h : bitB ops j i) : i < ops.size := by
  refine Nat.lt_of_not_le fun hle => ?_
  unfold bitB at h
  have hs := (fold_spec ops.toList #[]).1
  rw [← before_is] at hs
  have : (Region.before ops).getD i 0 = 0 := by
    rw [Array.getD_eq_getD_getElem?, Array.getElem?_eq_none (by rw [hs]; simpa using hle)]; rfl
  rw [this, Nat.zero_testBit] at h; cases h
theorem bit_lt {ops : Array Oper} (hb : BackOk ops) : ∀ {i j : Nat}, bitB ops j i → j < i := by
  intro i
  induction i using Nat.strongRecOn with
  | _ i ih =>
    intro j h
    have ho := Array.getElem?_eq_getElem (bit_size h)
    obtain ⟨e, he, hbe, h1⟩ := (bit_is hb ho).1 h
    have h2 := hb i _ ho e he hbe
    rcases h1 with h1 | h1
    · omega
    · have := ih e.on h2 h1; omega
theorem bit_trans {ops : Array Oper} (hb : BackOk ops) : ∀ {i j k : Nat}, bitB ops j i → bitB ops k j → bitB ops k i := by
  intro i
  induction i using Nat.strongRecOn with
  | _ i ih =>
    intro j k h hk
    have ho := Array.getElem?_eq_getElem (bit_size h)
    obtain ⟨e, he, hbe, h1⟩ := (bit_is hb ho).1 h
    have h2 := hb i _ ho e he hbe
    rw [bit_is hb ho]
    rcases h1 with rfl | h1
    · exact ⟨e, he, hbe, .inr hk⟩
    · exact ⟨e, he, hbe, .inr (ih e.on h2 h1 hk)⟩
/-- A test of each operation, with its number. -/
def allI (f : Nat → Oper → Bool) : Nat → List Oper → Bool
  | _, [] => true
  | k, o :: l => f k o && allI f (Nat.succ k) l
theorem allI_is {f : Nat → Oper → Bool} : ∀ {l : List Oper} {k : Nat}, allI f k l = true → ∀ j o, l[j]? = some o → f (k + j) o = true
  | [], k, h, j, o, e => by simp at e
  | x :: l, k, h, j, o, e => by
    simp only [allI, Bool.and_eq_true] at h
    cases j with
    | zero => simp at e; subst e; exact h.1
    | succ j =>
      have := allI_is h.2 j o (by simpa using e)
      rw [show k + (j + 1) = Nat.succ k + j by omega]; exact this
end Go.Proofs.YtmhnnfponloihaaDoor
