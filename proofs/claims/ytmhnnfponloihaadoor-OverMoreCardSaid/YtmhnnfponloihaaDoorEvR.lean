/- The orders that the model may draw. No Go program in this text. -/
import Derived.Test.YtmhnnfponloihaaDoorEvQ
import Derived.Orders
set_option linter.unusedSimpArgs false
set_option linter.unusedVariables false
namespace Go.Proofs.YtmhnnfponloihaaDoor
open Go.RowKit

/-- What an operation waits for. -/
def Dir (ops : Array Oper) (j i : Nat) : Prop := ∃ o, ops[i]? = some o ∧ ∃ e ∈ o.after, Region.binds .any e = true ∧ e.on = j
theorem ready_is {ops : Array Oper} {listed : Array Bool} (hs : listed.size = ops.size) {i : Nat} : i ∈ Region.ready .any ops listed ↔ i < ops.size ∧ listed.getD i true = false ∧ ∀ j, Dir ops j i → listed.getD j false = true := by
  unfold Region.ready
  rw [List.mem_filter, List.mem_range, Bool.and_eq_true, Bool.not_eq_true']
  constructor
  · rintro ⟨h1, h2, h3⟩
    refine ⟨h1, h2, ?_⟩
    rintro j ⟨o, ho, e, he, hb, rfl⟩
    rw [ho] at h3
    simp only [Option.map_some, Option.getD_some, Array.all_eq_true'] at h3
    have := h3 e he
    simpa [hb] using this
  · rintro ⟨h1, h2, h3⟩
    refine ⟨h1, h2, ?_⟩
    have ho : ops[i]? = some ops[i] := Array.getElem?_eq_getElem h1
    rw [ho]
    simp only [Option.map_some, Option.getD_some, Array.all_eq_true']
    intro e he
    cases hb : Region.binds .any e with
    | false => simp
    | true => simpa using h3 e.on ⟨_, ho, e, he, hb, rfl⟩
theorem filter_less {l : List Nat} {p q : Nat → Bool} (h : ∀ x ∈ l, q x = true → p x = true) {i : Nat} (hi : i ∈ l) (hp : p i = true) (hq : q i = false) : (l.filter q).length < (l.filter p).length := by
  have e : l.filter q = (l.filter p).filter q := by
    rw [List.filter_filter]
    apply List.filter_congr
    intro x hx
    cases hqx : q x with
    | false => simp
    | true => simp [h x hx hqx]
  rw [e]
  have : ∃ x ∈ l.filter p, ¬ q x = true := ⟨i, List.mem_filter.2 ⟨hi, hp⟩, by simp [hq]⟩
  exact List.length_filter_lt_length_iff_exists.2 this
/-- The plain facts of what waits for what: back alone; the closure. -/
structure Waits (ops : Array Oper) (pre : Nat → Nat → Prop) : Prop where
  back : ∀ j i, Dir ops j i → j < i
  clo : ∀ j i, pre j i → i < ops.size → ∃ k, Dir ops k i ∧ (j = k ∨ pre j k)
theorem go_sched {ops : Array Oper} {pre : Nat → Nat → Prop} (W : Waits ops pre) : ∀ (fuel t : Nat) (listed : Array Bool) (S : Nat → Prop), listed.size = ops.size → (∀ i, i < ops.size → (listed.getD i true = true ↔ S i)) → (∀ i, S i → i < ops.size) → (∀ i j, S j → pre i j → S i) →
    ((List.range ops.size).filter fun i => !listed.getD i true).length ≤ fuel → Sched ops.size pre (Region.linearise.go .any ops fuel t listed []) S := by
  intro fuel
  induction fuel with
  | zero =>
    intro t listed S hs hl hb hd hc i hi
    have : (List.range ops.size).filter (fun i => !listed.getD i true) = [] := List.eq_nil_of_length_eq_zero (by omega)
    rw [List.filter_eq_nil_iff] at this
    have := this i (List.mem_range.2 hi)
    rw [← hl i hi]
    simpa using this
  | succ fuel ih =>
    intro t listed S hs hl hb hd hc
    simp only [Region.linearise.go]
    change Sched ops.size pre (match (Region.ready .any ops listed)[t % (Region.ready .any ops listed).length]? with
      | some i => Region.linearise.go .any ops fuel (t / (Region.ready .any ops listed).length) (listed.setIfInBounds i true) [i]
      | none => [].reverse) S
    cases hi : (Region.ready .any ops listed)[t % (Region.ready .any ops listed).length]? with
    | none =>
      have hnil : Region.ready .any ops listed = [] := by
        cases hr : Region.ready .any ops listed with
        | nil => rfl
        | cons x xs =>
          rw [hr] at hi
          have hlt : t % (x :: xs).length < (x :: xs).length := Nat.mod_lt _ (by simp)
          rw [List.getElem?_eq_getElem hlt] at hi; cases hi
      have all : ∀ i, i < ops.size → S i := by
        intro i
        induction i using Nat.strongRecOn with
        | _ i ihi =>
          intro hin
          rw [← hl i hin]
          cases hli : listed.getD i true with
          | true => rfl
          | false =>
            exfalso
            have : i ∈ Region.ready .any ops listed := by
              rw [ready_is hs]
              refine ⟨hin, hli, fun j hj => ?_⟩
              have hji := W.back j i hj
              have hjn : j < ops.size := by omega
              have h1 := (hl j hjn).2 (ihi j hji hjn)
              have hjs : j < listed.size := by omega
              simpa [Array.getD, hjs] using h1
            rw [hnil] at this; cases this
      simpa [Sched] using all
    | some i =>
      simp only []
      rw [linearise_go_acc, List.reverse_singleton, List.singleton_append]
      have hm := List.mem_of_getElem? hi
      rw [ready_is hs] at hm
      obtain ⟨h1, h2, h3⟩ := hm
      have hnS : ¬ S i := fun h => by
        have := (hl i h1).2 h
        rw [this] at h2; cases h2
      have hdir : ∀ j, Dir ops j i → S j := fun j hj => by
        have hji := W.back j i hj
        have hjn : j < ops.size := by omega
        have hjs : j < listed.size := by omega
        refine (hl j hjn).1 ?_
        have := h3 j hj
        simpa [Array.getD, hjs] using this
      have hpre : ∀ j, pre j i → S j := fun j hj => by
        obtain ⟨k, hk, hjk⟩ := W.clo j i hj h1
        rcases hjk with rfl | hjk
        · exact hdir j hk
        · exact hd j k (hdir k hk) hjk
      refine ⟨h1, hnS, hpre, ih _ _ _ (by simpa using hs) (fun j hj => ?_) ?_ ?_ ?_⟩
      · have hjs : j < listed.size := by omega
        by_cases e : j = i
        · subst e
          simp [Array.getD, hjs]
        · have : (listed.setIfInBounds i true).getD j true = listed.getD j true := by
            simp only [Array.getD_eq_getD_getElem?, Array.getElem?_setIfInBounds]
            rw [if_neg (fun h => e h.symm)]
          rw [this, hl j hj]
          exact ⟨.inr, fun h => h.resolve_left e⟩
      · rintro j (rfl | h)
        · exact h1
        · exact hb j h
      · rintro j k (rfl | h) hp
        · exact .inr (hpre j hp)
        · exact .inr (hd j k h hp)
      · have : ((List.range ops.size).filter fun j => !(listed.setIfInBounds i true).getD j true).length < ((List.range ops.size).filter fun j => !listed.getD j true).length := by
          refine filter_less (fun x _ hx => ?_) (List.mem_range.2 h1) (by simp only [h2]; rfl) ?_
          · by_cases e : x = i
            · subst e
              have : x < listed.size := by omega
              simp [Array.getD, this] at hx
            · have : (listed.setIfInBounds i true).getD x true = listed.getD x true := by
                simp only [Array.getD_eq_getD_getElem?, Array.getElem?_setIfInBounds]
                rw [if_neg (fun h => e h.symm)]
              rw [this] at hx; exact hx
          · have : i < listed.size := by omega
            simp [Array.getD, this]
        omega
theorem schedule_sched {P : Program} (hm : P.follows .mixedOrders = true) {ops : Array Oper} {pre : Nat → Nat → Prop} (W : Waits ops pre) (t : Nat) : Sched ops.size pre (Region.schedule (P.follows .mixedOrders) ops t) (fun _ => False) := by
  simp only [Region.schedule, hm, Bool.true_or, if_true, Region.linearise]
  refine go_sched W _ _ _ _ (by simp) (fun i hi => by simp [Array.getD, hi]) (fun i h => h.elim) (fun i j h => h.elim) ?_
  have := List.length_filter_le (fun i => !(Array.replicate ops.size false).getD i true) (List.range ops.size)
  simpa using this
end Go.Proofs.YtmhnnfponloihaaDoor
