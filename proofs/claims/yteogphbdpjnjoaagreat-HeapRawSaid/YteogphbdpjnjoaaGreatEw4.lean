/- A closed run, run by the kernel: part 4 of 6. No Go program in this text. -/
import Derived.Test.YteogphbdpjnjoaaGreatEw3
import Derived.Orders
set_option linter.unusedSimpArgs false
set_option linter.unusedVariables false
namespace Go.Proofs.YteogphbdpjnjoaaGreat
open Go.RowKit

/-- What an operation waits for. -/
def Dir (ops : Array Oper) (j i : Nat) : Prop := ∃ o, ops[i]? = some o ∧ ∃ e ∈ o.after, Region.binds .any e = true ∧ e.on = j
theorem ready_is {ops : Array Oper} {listed : Array Bool} (hs : listed.size = ops.size) {i : Nat} : i ∈ Region.ready .any ops listed ↔ i < ops.size ∧ listed.getD i true = false ∧ ∀ j, Dir ops j i → listed.getD j false = true := by
  unfold Region.ready
  rw [List.mem_filter, List.mem_range, Bool.and_eq_true, Bool.not_eq_true']
  constructor
  · rintro ⟨h1, h2, h3⟩
    refine ⟨h1, h2, ?_⟩
    rintro j ⟨o, ho, e, he, hb, rfl⟩
    rw [ho] at h3
    simp only [Option.map_some, Option.getD_some, Array.all_eq_true'] at h3
    have := h3 e he
    simpa [hb] using this
  · rintro ⟨h1, h2, h3⟩
    refine ⟨h1, h2, ?_⟩
    have ho : ops[i]? = some ops[i] := Array.getElem?_eq_getElem h1
    rw [ho]
    simp only [Option.map_some, Option.getD_some, Array.all_eq_true']
    intro e he
    cases hb : Region.binds .any e with
    | false => simp
    | true => simpa using h3 e.on ⟨_, ho, e, he, hb, rfl⟩
theorem filter_less {l : List Nat} {p q : Nat → Bool} (h : ∀ x ∈ l, q x = true → p x = true) {i : Nat} (hi : i ∈ l) (hp : p i = true) (hq : q i = false) : (l.filter q).length < (l.filter p).length := by
  have e : l.filter q = (l.filter p).filter q := by
    rw [List.filter_filter]
    apply List.filter_congr
    intro x hx
    cases hqx : q x with
    | false => simp
    | true => simp [h x hx hqx]
  rw [e]
  have : ∃ x ∈ l.filter p, ¬ q x = true := ⟨i, List.mem_filter.2 ⟨hi, hp⟩, by simp [hq]⟩
  exact List.length_filter_lt_length_iff_exists.2 this
/-- The plain facts of what waits for what: back alone; the closure. -/
structure Waits (ops : Array Oper) (pre : Nat → Nat → Prop) : Prop where
  back : ∀ j i, Dir ops j i → j < i
  clo : ∀ j i, pre j i → i < ops.size → ∃ k, Dir ops k i ∧ (j = k ∨ pre j k)
theorem go_sched {ops : Array Oper} {pre : Nat → Nat → Prop} (W : Waits ops pre) : ∀ (fuel t : Nat) (listed : Array Bool) (S : Nat → Prop), listed.size = ops.size → (∀ i, i < ops.size → (listed.getD i true = true ↔ S i)) → (∀ i, S i → i < ops.size) → (∀ i j, S j → pre i j → S i) →
    ((List.range ops.size).filter fun i => !listed.getD i true).length ≤ fuel → Sched ops.size pre (Region.linearise.go .any ops fuel t listed []) S := by
  intro fuel
  induction fuel with
  | zero =>
    intro t listed S hs hl hb hd hc i hi
    have : (List.range ops.size).filter (fun i => !listed.getD i true) = [] := List.eq_nil_of_length_eq_zero (by omega)
    rw [List.filter_eq_nil_iff] at this
    have := this i (List.mem_range.2 hi)
    rw [← hl i hi]
    simpa using this
  | succ fuel ih =>
    intro t listed S hs hl hb hd hc
    simp only [Region.linearise.go]
    change Sched ops.size pre (match (Region.ready .any ops listed)[t % (Region.ready .any ops listed).length]? with
      | some i => Region.linearise.go .any ops fuel (t / (Region.ready .any ops listed).length) (listed.setIfInBounds i true) [i]
      | none => [].reverse) S
    cases hi : (Region.ready .any ops listed)[t % (Region.ready .any ops listed).length]? with
    | none =>
      have hnil : Region.ready .any ops listed = [] := by
        cases hr : Region.ready .any ops listed with
        | nil => rfl
        | cons x xs =>
          rw [hr] at hi
          have hlt : t % (x :: xs).length < (x :: xs).length := Nat.mod_lt _ (by simp)
          rw [List.getElem?_eq_getElem hlt] at hi; cases hi
      have all : ∀ i, i < ops.size → S i := by
        intro i
        induction i using Nat.strongRecOn with
        | _ i ihi =>
          intro hin
          rw [← hl i hin]
          cases hli : listed.getD i true with
          | true => rfl
          | false =>
            exfalso
            have : i ∈ Region.ready .any ops listed := by
              rw [ready_is hs]
              refine ⟨hin, hli, fun j hj => ?_⟩
              have hji := W.back j i hj
              have hjn : j < ops.size := by omega
              have h1 := (hl j hjn).2 (ihi j hji hjn)
              have hjs : j < listed.size := by omega
              simpa [Array.getD, hjs] using h1
            rw [hnil] at this; cases this
      simpa [Sched] using all
    | some i =>
      simp only []
      rw [linearise_go_acc, List.reverse_singleton, List.singleton_append]
      have hm := List.mem_of_getElem? hi
      rw [ready_is hs] at hm
      obtain ⟨h1, h2, h3⟩ := hm
      have hnS : ¬ S i := fun h => by
        have := (hl i h1).2 h
        rw [this] at h2; cases h2
      have hdir : ∀ j, Dir ops j i → S j := fun j hj => by
        have hji := W.back j i hj
        have hjn : j < ops.size := by omega
        have hjs : j < listed.size := by omega
        refine (hl j hjn).1 ?_
        have := h3 j hj
        simpa [Array.getD, hjs] using this
      have hpre : ∀ j, pre j i → S j := fun j hj => by
        obtain ⟨k, hk, hjk⟩ := W.clo j i hj h1
        rcases hjk with rfl | hjk
        · exact hdir j hk
        · exact hd j k (hdir k hk) hjk
      refine ⟨h1, hnS, hpre, ih _ _ _ (by simpa using hs) (fun j hj => ?_) ?_ ?_ ?_⟩
      · have hjs : j < listed.size := by omega
        by_cases e : j = i
        · subst e
          simp [Array.getD, hjs]
        · have : (listed.setIfInBounds i true).getD j true = listed.getD j true := by
            simp only [Array.getD_eq_getD_getElem?, Array.getElem?_setIfInBounds]
            rw [if_neg (fun h => e h.symm)]
          rw [this, hl j hj]
          exact ⟨.inr, fun h => h.resolve_left e⟩
      · rintro j (rfl | h)
        · exact h1
        · exact hb j h
      · rintro j k (rfl | h) hp
        · exact .inr (hpre j hp)
        · exact .inr (hd j k h hp)
      · have : ((List.range ops.size).filter fun j => !(listed.setIfInBounds i true).getD j true).length < ((List.range ops.size).filter fun j => !listed.getD j true).length := by
          refine filter_less (fun x _ hx => ?_) (List.mem_range.2 h1) (by simp only [h2]; rfl) ?_
          · by_cases e : x = i
            · subst e
              have : x < listed.size := by omega
              simp [Array.getD, this] at hx
            · have : (listed.setIfInBounds i true).getD x true = listed.getD x true := by
                simp only [Array.getD_eq_getD_getElem?, Array.getElem?_setIfInBounds]
                rw [if_neg (fun h => e h.symm)]
              rw [this] at hx; exact hx
          · have : i < listed.size := by omega
            simp [Array.getD, this]
        omega
theorem schedule_sched {P : Program} (hm : P.follows .mixedOrders = true) {ops : Array Oper} {pre : Nat → Nat → Prop} (W : Waits ops pre) (t : Nat) : Sched ops.size pre (Region.schedule (P.follows .mixedOrders) ops t) (fun _ => False) := by
  simp only [Region.schedule, hm, Bool.true_or, if_true, Region.linearise]
  refine go_sched W _ _ _ _ (by simp) (fun i hi => by simp [Array.getD, hi]) (fun i h => h.elim) (fun i j h => h.elim) ?_
  have := List.length_filter_le (fun i => !(Array.replicate ops.size false).getD i true) (List.range ops.size)
  simpa using this
end Go.Proofs.YteogphbdpjnjoaaGreat
namespace Go.Proofs.YteogphbdpjnjoaaGreat
open Go.RowKit

def tb (m n : Nat) : Bool := Nat.beq (Nat.land (Nat.shiftRight m n) 1) 1
theorem tb_eq (m n : Nat) : tb m n = m.testBit n := by
  rw [Bool.eq_iff_iff]
  unfold tb
  rw [Nat.beq_eq]
  have : Nat.land (Nat.shiftRight m n) 1 = (m >>> n) % 2 := Nat.and_one_is_mod (m >>> n)
  rw [this, Nat.testBit_eq_decide_div_mod_eq, decide_eq_true_iff, Nat.shiftRight_eq_div_pow]
theorem land_is {a b : Nat} (h : Nat.beq (Nat.land a b) a = true) {j : Nat} (hj : a.testBit j = true) : b.testBit j = true := by
  rw [Nat.beq_eq] at h
  have h2 : (a &&& b).testBit j = true := by rw [show a &&& b = a from h]; exact hj
  rw [Nat.testBit_and, Bool.and_eq_true] at h2
  exact h2.2
def stepB (acc : Array Nat) (o : Oper) : Nat := o.after.foldl (fun s e => if Region.binds .any e then s ||| 2 ^ e.on ||| acc.getD e.on 0 else s) 0
theorem before_is (ops : Array Oper) : Region.before ops = ops.toList.foldl (fun acc o => acc.push (stepB acc o)) #[] := by
  unfold Region.before
  rw [← Array.foldl_toList]; rfl
theorem fold_bit {acc : Array Nat} {j : Nat} : ∀ (l : List Edge) (s : Nat), (l.foldl (fun s e => if Region.binds .any e then s ||| 2 ^ e.on ||| acc.getD e.on 0 else s) s).testBit j = true ↔ s.testBit j = true ∨ ∃ e ∈ l, Region.binds .any e = true ∧ (e.on = j ∨ (acc.getD e.on 0).testBit j = true)
  | [], s => by simp
  | e :: l, s => by
    rw [List.foldl_cons, fold_bit l]
    cases hb : Region.binds .any e with
    | false => simp [hb]
    | true =>
      simp only [if_true, Nat.testBit_or, Bool.or_eq_true, Nat.testBit_two_pow, decide_eq_true_iff, List.mem_cons, exists_eq_or_imp, hb, true_and]
      constructor
      · rintro (((h | h) | h) | h)
        · exact .inl h
        · exact .inr (.inl (.inl h))
        · exact .inr (.inl (.inr h))
        · exact .inr (.inr h)
      · rintro (h | (h | h) | h)
        · exact .inl (.inl (.inl h))
        · exact .inl (.inl (.inr h))
        · exact .inl (.inr h)
        · exact .inr h
theorem stepB_bit {acc : Array Nat} {o : Oper} {j : Nat} : (stepB acc o).testBit j = true ↔ ∃ e ∈ o.after, Region.binds .any e = true ∧ (e.on = j ∨ (acc.getD e.on 0).testBit j = true) := by
  unfold stepB
  rw [← Array.foldl_toList, fold_bit]
  simp
theorem fold_spec : ∀ (l : List Oper) (acc : Array Nat), (l.foldl (fun acc o => acc.push (stepB acc o)) acc).size = acc.size + l.length ∧ (∀ i, i < acc.size → (l.foldl (fun acc o => acc.push (stepB acc o)) acc)[i]? = acc[i]?) ∧
    ∀ k o, l[k]? = some o → ∃ acc', acc'.size = acc.size + k ∧ (∀ i, i < acc'.size → acc'[i]? = (l.foldl (fun acc o => acc.push (stepB acc o)) acc)[i]?) ∧ (l.foldl (fun acc o => acc.push (stepB acc o)) acc)[acc.size + k]? = some (stepB acc' o)
  | [], acc => ⟨rfl, fun _ _ => rfl, fun k o h => by simp at h⟩
  | x :: l, acc => by
    obtain ⟨h1, h2, h3⟩ := fold_spec l (acc.push (stepB acc x))
    simp only [List.foldl_cons]
    refine ⟨by rw [h1]; simp; omega, fun i hi => ?_, fun k o h => ?_⟩
    · rw [h2 i (by simp; omega), Array.getElem?_push, if_neg (by omega)]
    · cases k with
      | zero =>
        simp at h; subst h
        refine ⟨acc, rfl, fun i hi => ?_, ?_⟩
        · rw [h2 i (by simp; omega), Array.getElem?_push, if_neg (by omega)]
        · rw [h2 _ (by simp), Nat.add_zero, Array.getElem?_push, if_pos rfl]
      | succ k =>
        obtain ⟨acc', g1, g2, g3⟩ := h3 k o (by simpa using h)
        refine ⟨acc', by rw [g1]; simp; omega, g2, ?_⟩
        have : (acc.push (stepB acc x)).size + k = acc.size + (k + 1) := by simp; omega
        rw [← this]; exact g3
/-- j stands ahead of i. -/
def bitB (ops : Array Oper) (j i : Nat) : Prop := ((Region.before ops).getD i 0).testBit j = true
def BackOk (ops : Array Oper) : Prop := ∀ i o, ops[i]? = some o → ∀ e ∈ o.after, Region.binds .any e = true → e.on < i
theorem bit_is {ops : Array Oper} (hb : BackOk ops) {i : Nat} {o : Oper} (ho : ops[i]? = some o) {j : Nat} : bitB ops j i ↔ ∃ e ∈ o.after, Region.binds .any e = true ∧ (e.on = j ∨ bitB ops j e.on) := by
  obtain ⟨acc', h1, h2, h3⟩ := (fold_spec ops.toList #[]).2.2 i o (by simpa using ho)
  rw [← before_is] at h2 h3
  have e1 : (Region.before ops).getD i 0 = stepB acc' o := by
    simp only [List.size_toArray, List.length_nil, Nat.zero_add] at h3
    rw [Array.getD_eq_getD_getElem?, h3]; rfl
  unfold bitB
  rw [e1, stepB_bit]
  have hs : acc'.size = i := by rw [h1]; simp
  have eq : ∀ e ∈ o.after, Region.binds .any e = true → acc'.getD e.on 0 = (Region.before ops).getD e.on 0 := fun e he hbe => by
    have := hb i o ho e he hbe
    rw [Array.getD_eq_getD_getElem?, Array.getD_eq_getD_getElem?, h2 e.on (by omega)]
  constructor
  · rintro ⟨e, he, hbe, h⟩
    exact ⟨e, he, hbe, by rw [← eq e he hbe]; exact h⟩
  · rintro ⟨e, he, hbe, h⟩
    exact ⟨e, he, hbe, by rw [eq e he hbe]; exact h⟩
theorem bit_size {ops : Array Oper} {i j : Nat} (h : bitB ops j i) : i < ops.size := by
  refine Nat.lt_of_not_le fun hle => ?_
  unfold bitB at h
  have hs := (fold_spec ops.toList #[]).1
  rw [← before_is] at hs
  have : (Region.before ops).getD i 0 = 0 := by
    rw [Array.getD_eq_getD_getElem?, Array.getElem?_eq_none (by rw [hs]; simpa using hle)]; rfl
  rw [this, Nat.zero_testBit] at h; cases h
theorem bit_lt {ops : Array Oper} (hb : BackOk ops) : ∀ {i j : Nat}, bitB ops j i → j < i := by
  intro i
  induction i using Nat.strongRecOn with
  | _ i ih =>
    intro j h
    have ho := Array.getElem?_eq_getElem (bit_size h)
    obtain ⟨e, he, hbe, h1⟩ := (bit_is hb ho).1 h
    have h2 := hb i _ ho e he hbe
    rcases h1 with h1 | h1
    · omega
    · have := ih e.on h2 h1; omega
theorem bit_trans {ops : Array Oper} (hb : BackOk ops) : ∀ {i j k : Nat}, bitB ops j i → bitB ops k j → bitB ops k i := by
  intro i
  induction i using Nat.strongRecOn with
  | _ i ih =>
    intro j k h hk
    have ho := Array.getElem?_eq_getElem (bit_size h)
    obtain ⟨e, he, hbe, h1⟩ := (bit_is hb ho).1 h
    have h2 := hb i _ ho e he hbe
    rw [bit_is hb ho]
    rcases h1 with rfl | h1
    · exact ⟨e, he, hbe, .inr hk⟩
    · exact ⟨e, he, hbe, .inr (ih e.on h2 h1 hk)⟩
/-- A test of each operation, with its number. -/
def allI (f : Nat → Oper → Bool) : Nat → List Oper → Bool
  | _, [] => true
  | k, o :: l => f k o && allI f (Nat.succ k) l
theorem allI_is {f : Nat → Oper → Bool} : ∀ {l : List Oper} {k : Nat}, allI f k l = true → ∀ j o, l[j]? = some o → f (k + j) o = true
  | [], k, h, j, o, e => by simp at e
  | x :: l, k, h, j, o, e => by
    simp only [allI, Bool.and_eq_true] at h
    cases j with
    | zero => simp at e; subst e; exact h.1
    | succ j =>
      have := allI_is h.2 j o (by simpa using e)
      rw [show k + (j + 1) = Nat.succ k + j by omega]; exact this
end Go.Proofs.YteogphbdpjnjoaaGreat
namespace Go.Proofs.YteogphbdpjnjoaaGreat
open Go.RowKit
variable {P : Program} {N : Nat}

noncomputable def eqY : Sy → Sy → Bool
  | .i j a, .i k b => eqK j k && Nat.beq a b
  | .t a m, .t b n => Nat.beq a b && Nat.beq m n
  | .g a b, .g c d => eqI a c && eqI b d
  | .any, .any => true
  | _, _ => false
theorem eqY_eq : ∀ (x y : Sy), eqY x y = true → x = y
  | .i j a, y, h => by cases y <;> simp only [eqY, Bool.and_eq_true, Nat.beq_eq] at h <;> first | (cases h; done) | (obtain ⟨h1, h2⟩ := h; rw [eqK_eq h1, h2])
  | .t a m, y, h => by cases y <;> simp only [eqY, Bool.and_eq_true, Nat.beq_eq] at h <;> first | (cases h; done) | (obtain ⟨h1, h2⟩ := h; rw [h1, h2])
  | .g a b, y, h => by cases y <;> simp only [eqY, Bool.and_eq_true, eqI_eq, decide_eq_true_iff] at h <;> first | (cases h; done) | (obtain ⟨h1, h2⟩ := h; rw [h1, h2])
  | .any, y, h => by cases y <;> first | rfl | simp [eqY] at h
mutual
noncomputable def eqV : AV → AV → Bool
  | .b x, .b y => x == y
  | .i j x, .i k y => eqK j k && eqI x y
  | .s n d, .s m e => Nat.beq n m && Nat.beq d e
  | .p i o, .p j q => Nat.beq i j && Nat.beq o q
  | .np, .np => true
  | .sl a b c d, .sl e f g h => Nat.beq a e && (Nat.beq b f && (Nat.beq c g && Nat.beq d h))
  | .su a b c, .su e f g => Nat.beq a e && (Nat.beq b f && Nat.beq c g)
  | .gs a b, .gs e f => Nat.beq a e && Nat.beq b f
  | .ns, .ns => true
  | .fn f l, .fn g m => Nat.beq f g && eqVs l m
  | .nf, .nf => true
  | .ifc t x, .ifc u y => Nat.beq t u && eqV x y
  | .ni, .ni => true
  | .mp i, .mp j => Nat.beq i j
  | .nm, .nm => true
  | .agg l, .agg m => eqVs l m
  | .tup l, .tup m => eqVs l m
  | .y p, .y q => eqY p q
  | _, _ => false
noncomputable def eqVs : AVs → AVs → Bool
  | .nil, .nil => true
  | .cons a l, .cons b m => eqV a b && eqVs l m
  | _, _ => false
end
mutual
theorem eqV_eq : ∀ (x y : AV), eqV x y = true → x = y
  | .b x, y, h => by cases y <;> simp [eqV] at h; rw [h]
  | .i j x, y, h => by
    cases y <;> simp only [eqV, Bool.and_eq_true] at h <;> first
      | (cases h; done)
      | (obtain ⟨h1, h2⟩ := h; rw [eqI_eq, decide_eq_true_iff] at h2; rw [eqK_eq h1, h2])
  | .s n d, y, h => by cases y <;> simp only [eqV, Bool.and_eq_true, Nat.beq_eq] at h <;> first | (cases h; done) | (obtain ⟨h1, h2⟩ := h; rw [h1, h2])
  | .p i o, y, h => by cases y <;> simp only [eqV, Bool.and_eq_true, Nat.beq_eq] at h <;> first | (cases h; done) | (obtain ⟨h1, h2⟩ := h; rw [h1, h2])
  | .np, y, h => by cases y <;> first | rfl | simp [eqV] at h
  | .sl a b c d, y, h => by cases y <;> simp only [eqV, Bool.and_eq_true, Nat.beq_eq] at h <;> first | (cases h; done) | (obtain ⟨h1, h2⟩ := h; rw [h1, h2.1, h2.2.1, h2.2.2])
  | .su a b c, y, h => by cases y <;> simp only [eqV, Bool.and_eq_true, Nat.beq_eq] at h <;> first | (cases h; done) | (obtain ⟨h1, h2⟩ := h; rw [h1, h2.1, h2.2])
  | .gs a b, y, h => by cases y <;> simp only [eqV, Bool.and_eq_true, Nat.beq_eq] at h <;> first | (cases h; done) | (obtain ⟨h1, h2⟩ := h; rw [h1, h2])
  | .ns, y, h => by cases y <;> first | rfl | simp [eqV] at h
  | .fn f l, y, h => by cases y <;> simp only [eqV, Bool.and_eq_true, Nat.beq_eq] at h <;> first | (cases h; done) | (obtain ⟨h1, h2⟩ := h; rw [h1, eqVs_eq _ _ h2])
  | .nf, y, h => by cases y <;> first | rfl | simp [eqV] at h
  | .yl _, y, h => by cases y <;> simp [eqV] at h
  | .r _ _ _, y, h => by cases y <;> simp [eqV] at h
  | .ifc t x, y, h => by cases y <;> simp only [eqV, Bool.and_eq_true, Nat.beq_eq] at h <;> first | (cases h; done) | (obtain ⟨h1, h2⟩ := h; rw [h1, eqV_eq _ _ h2])
  | .ni, y, h => by cases y <;> first | rfl | simp [eqV] at h
  | .mp _, y, h => by cases y <;> simp [eqV] at h; rw [h]
  | .nm, y, h => by cases y <;> first | rfl | simp [eqV] at h
  | .agg l, y, h => by cases y <;> simp only [eqV] at h <;> first | (cases h; done) | rw [eqVs_eq _ _ h]
  | .tup l, y, h => by cases y <;> simp only [eqV] at h <;> first | (cases h; done) | rw [eqVs_eq _ _ h]
  | .y q, y, h => by cases y <;> simp only [eqV] at h <;> first | (cases h; done) | rw [eqY_eq _ _ h]
theorem eqVs_eq : ∀ (x y : AVs), eqVs x y = true → x = y
  | .nil, y, h => by cases y <;> first | rfl | simp [eqVs] at h
  | .cons a l, y, h => by cases y <;> simp only [eqVs, Bool.and_eq_true] at h <;> first | (cases h; done) | (obtain ⟨h1, h2⟩ := h; rw [eqV_eq _ _ h1, eqVs_eq _ _ h2])
end
/-- Does j stand ahead of i, in whatever order? -/
def preB (ops : Array Oper) (j i : Nat) : Bool := Nat.ble (Nat.succ i) ops.size && Nat.testBit ((Region.before ops).getD i 0) j
def chB (ops : Array Oper) (i : Nat) : Bool := Nat.beq (knd ops i) 2
def opTmps (op : Op) : List Nat := op.operands.toList.filterMap fun | .tmp t => some t | _ => none
/-- Those of the third kind, as one number. -/
def chMask : Nat → List Oper → Nat
  | _, [] => 0
  | k, o :: l => bif Nat.beq (kindOf o.op) 2 then Nat.lor (Nat.pow 2 k) (chMask (Nat.succ k) l) else chMask (Nat.succ k) l
theorem chMask_is : ∀ {l : List Oper} {k j : Nat} {o : Oper}, l[j]? = some o → kindOf o.op = 2 → (chMask k l).testBit (k + j) = true
  | [], k, j, o, e, h => by simp at e
  | x :: l, k, j, o, e, h => by
    simp only [chMask]
    cases j with
    | zero =>
      simp at e; subst e
      rw [h]
      show (bif Nat.beq 2 2 then Nat.lor (Nat.pow 2 k) (chMask (Nat.succ k) l) else chMask (Nat.succ k) l).testBit (k + 0) = true
      have : Nat.lor (Nat.pow 2 k) (chMask (Nat.succ k) l) = 2 ^ k ||| chMask (Nat.succ k) l := rfl
      rw [show Nat.beq 2 2 = true from rfl, cond_true, this, Nat.testBit_or, Nat.testBit_two_pow]; simp
    | succ j =>
      have ih := chMask_is (k := Nat.succ k) (show l[j]? = some o by simpa using e) h
      rw [show Nat.succ k + j = k + (j + 1) by omega] at ih
      cases Nat.beq (kindOf x.op) 2 with
      | false => rw [cond_false]; exact ih
      | true =>
        have : Nat.lor (Nat.pow 2 k) (chMask (Nat.succ k) l) = 2 ^ k ||| chMask (Nat.succ k) l := rfl
        rw [cond_true, this, Nat.testBit_or, ih]; simp
/-- A test that it hangs on stands ahead. -/
def gdB (ops : Array Oper) (b : Nat) (o : Oper) : Bool :=
  match o.guard with
  | none => true
  | some (j, _) => tb b j && ((ops[j]?).bind (·.dst)).isSome
/-- What the plan needs of one operation: b is what stands ahead of it. -/
def stat1 (ops : Array Oper) (N chm b i : Nat) (o : Oper) : Bool :=
  gdB ops b o && ((o.after.toList.all fun e => !Region.binds .any e || Nat.ble (Nat.succ e.on) i) &&
    ((match o.dst with | some d => Nat.ble (Nat.succ d) N && allI (fun j q => match q.dst with | some e => !Nat.beq e d || Nat.beq i j | none => true) 0 ops.toList | none => true) &&
    (((opTmps o.op).all fun t => allI (fun k q => match q.dst with | some e => !Nat.beq e t || (tb b k || (preB ops i k || Nat.beq k i)) | none => true) 0 ops.toList) &&
    ((!Nat.beq (kindOf o.op) 2 || Nat.beq (Nat.land (chm % Nat.pow 2 i) b) (chm % Nat.pow 2 i)) && Nat.ble (kindOf o.op) 2))))
/-- What the plan needs of a region's text. -/
def statB (ops : Array Oper) (N : Nat) : Bool := allI (fun i o => stat1 ops N (chMask 0 ops.toList) ((Region.before ops).getD i 0) i o) 0 ops.toList
/-- The plan. -/
def planL (ops : Array Oper) : List Nat :=
  let r := List.range ops.size
  let acc := (r.filter (chB ops)).foldl (fun (acc : List Nat × Nat) j => (acc.1 ++ (r.filter fun i => tb ((Region.before ops).getD j 0) i && !tb acc.2 i) ++ [j], Nat.lor (Nat.lor acc.2 ((Region.before ops).getD j 0)) (Nat.pow 2 j))) ([], 0)
  acc.1 ++ r.filter fun i => !tb acc.2 i
/-- dm: what is done. -/
def planB (ops : Array Oper) : Nat → List Nat → Bool
  | dm, [] => Nat.beq dm (Nat.sub (Nat.pow 2 ops.size) 1)
  | dm, i :: l => Nat.ble (Nat.succ i) ops.size && (!tb dm i && (Nat.beq (Nat.land ((Region.before ops).getD i 0) dm) ((Region.before ops).getD i 0) &&
      ((!chB ops i || Nat.beq (Nat.land dm ((Region.before ops).getD i 0)) dm) && planB ops (Nat.lor dm (Nat.pow 2 i)) l)))
/-- What is told of one. -/
structure Rec where
  i : Nat
  v : AV
  c : Nat
  c' : Nat
  blk : Option AO
  st : T AO
  st' : T AO
  slr : T AV
  w : Bool
structure PS where
  sl : T AV
  st : T AO
  nx : Nat
  Ks : List (Nat × T AO)
  pend : List Rec
noncomputable def rst (sl : T AV) : List Nat → T AV
  | [] => .nil
  | t :: l => match sl.get t with
    | some v => (rst sl l).put t v
    | none => rst sl l
theorem rst_get {sl : T AV} (l : List Nat) : ∀ {t : Nat} {x : AV}, (rst sl l).get t = some x → t ∈ l ∧ sl.get t = some x := by
  induction l with
  | nil =>
    intro t x e
    have e1 : (T.nil : T AV).get t = some x := e
    exact absurd ((T.get_nil t).symm.trans e1) (fun h => nomatch h)
  | cons u l ih =>
    intro t x e
    simp only [rst] at e
    split at e
    · rename_i v hv
      rw [T.get_put] at e
      split at e
      · rename_i h; subst h; cases e; exact ⟨List.mem_cons_self .., hv⟩
      · obtain ⟨h1, h2⟩ := ih e
        exact ⟨List.mem_cons_of_mem _ h1, h2⟩
    · obtain ⟨h1, h2⟩ := ih e
      exact ⟨List.mem_cons_of_mem _ h1, h2⟩
/-- A reading that may be done now, or ahead of some that need not be done. -/
noncomputable def ldAll (P : Program) (ops : Array Oper) (i : Nat) (sl : T AV) (op : Op) : List (Nat × T AO) → Option AV
  | [] => none
  | (j, K) :: rest => match evRd P sl K op with
    | none => none
    | some v => match rest with
      | [] => some v
      | _ :: _ => bif preB ops j i then some v else match ldAll P ops i sl op rest with
        | some v' => bif eqV v v' then some v else none
        | none => none
theorem ldAll_is {ops : Array Oper} {i : Nat} {sl : T AV} {op : Op} {v : AV} : ∀ {l : List (Nat × T AO)}, ldAll P ops i sl op l = some v → ∀ (k j : Nat) (K : T AO), l[k]? = some (j, K) → (∀ (m jm : Nat) (Km : T AO), m < k → l[m]? = some (jm, Km) → preB ops jm i = false) → evRd P sl K op = some v
  | [], e, _, _, _, _, _ => by simp [ldAll] at e
  | (j0, K0) :: rest, e, k, j, K, hk, hn => by
    simp only [ldAll] at e
    cases h0 : evRd P sl K0 op with
    | none => simp [h0] at e
    | some v0 =>
      simp only [h0] at e
      cases k with
      | zero =>
        simp at hk
        obtain ⟨rfl, rfl⟩ := hk
        split at e
        · cases e; exact h0
        · cases hb : preB ops j0 i with
          | true => rw [hb, cond_true] at e; cases e; exact h0
          | false =>
            rw [hb, cond_false] at e
            split at e
            · obtain ⟨_, e⟩ := bif_some e
              cases e; exact h0
            · cases e
      | succ k =>
        have hb := hn 0 j0 K0 (by omega) rfl
        split at e
        · simp at hk
        · rw [hb, cond_false] at e
          split at e
          · rename_i v' hv'
            obtain ⟨he, e⟩ := bif_some e
            cases e
            have := eqV_eq _ _ he
            subst this
            exact ldAll_is hv' k j K (by simpa using hk) fun m jm Km hm hl => hn (m + 1) jm Km (by omega) (by simpa using hl)
          · cases e
/-- The block that a load reads. -/
noncomputable def ldId (sl : T AV) (op : Op) : Option Nat :=
  match op with
  | .load _ x => match evX sl x with | some (.p id _) => some id | _ => none
  | _ => none
/-- Whatever of the third kind stands behind j stands behind i. -/
def standB (ops : Array Oper) (j i : Nat) : Bool := allI (fun l o => !Nat.beq (kindOf o.op) 2 || (!preB ops j l || preB ops i l)) 0 ops.toList
/-- A load of what this region has made: block id. -/
noncomputable def ldPend (P : Program) (ops : Array Oper) (i : Nat) (sl : T AV) (op : Op) (id : Nat) : List Rec → Option AV
  | [] => none
  | q :: rest => bif Nat.beq q.c id then (match q.blk with
        | some b => bif preB ops q.i i && standB ops q.i i then evRd P sl (nilH.put q.c b) op else none
        | none => none) else ldPend P ops i sl op id rest
theorem ldPend_is {ops : Array Oper} {i : Nat} {sl : T AV} {op : Op} {id : Nat} {v : AV} : ∀ {l : List Rec}, ldPend P ops i sl op id l = some v → ∃ q ∈ l, ∃ b, q.blk = some b ∧ preB ops q.i i = true ∧ standB ops q.i i = true ∧ evRd P sl (nilH.put q.c b) op = some v
  | [], e => by simp [ldPend] at e
  | q :: rest, e => by
    simp only [ldPend] at e
    cases hc : Nat.beq q.c id with
    | true =>
      rw [hc, cond_true] at e
      split at e
      · rename_i b hb
        obtain ⟨h1, h2⟩ := bif_some' e
        rw [Bool.and_eq_true] at h1
        exact ⟨q, List.mem_cons_self .., b, hb, h1.1, h1.2, h2⟩
      · cases e
    | false =>
      rw [hc, cond_false] at e
      obtain ⟨q', hq, h⟩ := ldPend_is e
      exact ⟨q', List.mem_cons_of_mem _ hq, h⟩
noncomputable def ldAny (P : Program) (ops : Array Oper) (i : Nat) (sl : T AV) (op : Op) (Ks : List (Nat × T AO)) (pend : List Rec) : Option AV :=
  match ldAll P ops i sl op Ks with
  | some v => some v
  | none => match ldId sl op with
    | some id => ldPend P ops i sl op id pend
    | none => none
theorem ldAny_is {ops : Array Oper} {i : Nat} {sl : T AV} {op : Op} {Ks : List (Nat × T AO)} {pend : List Rec} {v : AV} (e : ldAny P ops i sl op Ks pend = some v) :
    ldAll P ops i sl op Ks = some v ∨ ∃ q ∈ pend, ∃ b, q.blk = some b ∧ preB ops q.i i = true ∧ standB ops q.i i = true ∧ evRd P sl (nilH.put q.c b) op = some v := by
  unfold ldAny at e
  split at e
  · rename_i v' hv'; cases e; exact .inl hv'
  · split at e
    · exact .inr (ldPend_is e)
    · cases e
noncomputable def evStep1 (P : Program) (X call : Caller) (N : Nat) (ops : Array Oper) (i : Nat) (s : PS) : Option (Rec × PS) :=
  match kindOf (opO ops i) with
  | 0 => match evM P (rst s.sl (opTmps (opO ops i))) .nil s.nx (opO ops i) with
    | .ok v h1 nx1 => match putD N (opD ops i) v s.sl with
      | some sl1 => bif Nat.ble s.nx nx1 then match (bif Nat.beq nx1 (Nat.succ s.nx) then h1.get s.nx else none) with
        | some b => bif s.Ks.all (fun K => (K.2.get s.nx).isNone) then
            some (⟨i, v, s.nx, nx1, some b, s.st, s.st, rst s.sl (opTmps (opO ops i)), true⟩, ⟨sl1, s.st.put s.nx b, nx1, s.Ks, ⟨i, v, s.nx, nx1, some b, s.st, s.st, rst s.sl (opTmps (opO ops i)), true⟩ :: s.pend⟩) else none
        | none => some (⟨i, v, s.nx, nx1, none, s.st, s.st, rst s.sl (opTmps (opO ops i)), true⟩, ⟨sl1, s.st, nx1, s.Ks, s.pend⟩)
        else none
      | none => none
    | .bad => none
  | 1 => match ldAny P ops i (rst s.sl (opTmps (opO ops i))) (opO ops i) s.Ks s.pend with
    | some v => match putD N (opD ops i) v s.sl with
      | some sl1 => some (⟨i, v, s.nx, s.nx, none, s.st, s.st, rst s.sl (opTmps (opO ops i)), true⟩, ⟨sl1, s.st, s.nx, s.Ks, s.pend⟩)
      | none => none
    | none => none
  | _ => match evOper P X call (rst s.sl (opTmps (opO ops i))) s.st s.nx (opO ops i) with
    | .ok v h1 nx1 => match putD N (opD ops i) v s.sl with
      | some sl1 => bif Nat.ble s.nx nx1 then some (⟨i, v, s.nx, nx1, none, s.st, h1, rst s.sl (opTmps (opO ops i)), true⟩, ⟨sl1, h1, nx1, (i, h1) :: s.Ks, []⟩) else none
      | none => none
    | .bad => none
/-- One that is not done. -/
noncomputable def evSkip (N : Nat) (ops : Array Oper) (i : Nat) (s : PS) : Option (Rec × PS) :=
  match putD N (opD ops i) (.tup .nil) s.sl with
  | some sl1 => some (⟨i, .tup .nil, s.nx, s.nx, none, s.st, s.st, rst s.sl (opTmps (opO ops i)), false⟩, bif Nat.beq (knd ops i) 2 then ⟨sl1, s.st, s.nx, (i, s.st) :: s.Ks, []⟩ else ⟨sl1, s.st, s.nx, s.Ks, s.pend⟩)
  | none => none
noncomputable def evStep (P : Program) (X call : Caller) (N : Nat) (ops : Array Oper) (i : Nat) (s : PS) : Option (Rec × PS) :=
  match evWanted ops (ops.getD i default) s.sl with
  | some true => evStep1 P X call N ops i s
  | some false => evSkip N ops i s
  | none => none
noncomputable def evPlan (P : Program) (X call : Caller) (N : Nat) (ops : Array Oper) : List Nat → PS → Option (List Rec × PS)
  | [], s => some ([], s)
  | i :: l, s => match evStep P X call N ops i s with
    | some (r, s1) => match evPlan P X call N ops l s1 with
      | some (rs, s2) => some (r :: rs, s2)
      | none => none
    | none => none
/-- L: a plan, chk: what is asked of it. -/
noncomputable def evDrawG (chk : Array Oper → Bool) (L : Array Oper → List Nat) (P : Program) (X call : Caller) (N : Nat) : Drawer := fun ops sl h nx =>
  bif chk ops then match evPlan P X call N ops (L ops) ⟨sl, h, nx, [(ops.size, h)], []⟩ with
    | some (_, s) => .ok s.sl s.st s.nx
    | none => .bad
  else .bad
noncomputable def evDraw (P : Program) (X call : Caller) (N : Nat) : Drawer := fun ops sl h nx =>
  bif statB ops N && planB ops 0 (planL ops) then match evPlan P X call N ops (planL ops) ⟨sl, h, nx, [(ops.size, h)], []⟩ with
    | some (_, s) => .ok s.sl s.st s.nx
    | none => .bad
  else .bad
end Go.Proofs.YteogphbdpjnjoaaGreat
namespace Go.Proofs.YteogphbdpjnjoaaGreat
open Go.RowKit
variable {P : Program} {N : Nat} {X call : Caller} {ops : Array Oper}

/-- What statB says. -/
structure Stat (ops : Array Oper) (N : Nat) : Prop where
  grd : ∀ i, i < ops.size → (ops.getD i default).guard = none ∨ ∃ j want t, (ops.getD i default).guard = some (j, want) ∧ j < ops.size ∧ preB ops j i = true ∧ opD ops j = some t ∧ (ops[j]?).bind (·.dst) = some t
  back : ∀ i, i < ops.size → ∀ e ∈ (ops.getD i default).after, Region.binds .any e = true → e.on < i
  clo : ∀ i, i < ops.size → ∀ j, j < ops.size → preB ops j i = true → ∃ e ∈ (ops.getD i default).after, Region.binds .any e = true ∧ (e.on = j ∨ preB ops j e.on = true)
  sub : ∀ i, i < ops.size → ∀ j, j < ops.size → preB ops j i = true → Nat.lor ((Region.before ops).getD j 0) ((Region.before ops).getD i 0) = (Region.before ops).getD i 0
  acy : ∀ i, i < ops.size → preB ops i i = false
  dst : ∀ i, i < ops.size → ∀ d, opD ops i = some d → d < N ∧ ∀ j, j < ops.size → opD ops j = some d → i = j
  opr : ∀ i, i < ops.size → ∀ t ∈ opTmps (opO ops i), ∀ k, k < ops.size → opD ops k = some t → preB ops k i = true ∨ preB ops i k = true ∨ k = i
  chn : ∀ i, i < ops.size → chB ops i = true → ∀ j, j < ops.size → chB ops j = true → i = j ∨ preB ops i j = true ∨ preB ops j i = true
  knd : ∀ i, i < ops.size → knd ops i ≤ 2
theorem pre_bit {i j : Nat} : preB ops j i = true ↔ i < ops.size ∧ bitB ops j i := by
  unfold preB bitB
  rw [Bool.and_eq_true, Nat.ble_eq]; rfl
theorem stat_is (h : statB ops N = true) : Stat ops N := by
  have hat : ∀ i (hi : i < ops.size), ops.toList[i]? = some (ops.getD i default) := fun i hi => by simp [Array.getD, hi]
  have hat' : ∀ i (hi : i < ops.size), ops[i]? = some (ops.getD i default) := fun i hi => by simp [Array.getD, hi]
  have h0 : ∀ i, i < ops.size → stat1 ops N (chMask 0 ops.toList) ((Region.before ops).getD i 0) i (ops.getD i default) = true := fun i hi => by
    have := allI_is (k := 0) h i _ (hat i hi)
    rw [Nat.zero_add] at this; exact this
  have hB : BackOk ops := by
    intro i o ho e he hb
    have hi : i < ops.size := (Array.getElem?_eq_some_iff.1 ho).1
    have q := h0 i hi
    rw [hat' i hi] at ho; cases ho
    unfold stat1 at q
    simp only [Bool.and_eq_true] at q
    have := List.all_eq_true.1 q.2.1 e (by simpa using he)
    rw [hb, Bool.not_true, Bool.false_or, Nat.ble_eq] at this
    exact this
  refine ⟨fun i hi => ?_, fun i hi e he hb => hB i _ (hat' i hi) e he hb, fun i hi j hj hp => ?_, fun i hi j hj hp => ?_, fun i hi => ?_, fun i hi d hd => ?_, fun i hi t ht k hk hd => ?_, fun i hi hc j hj hcj => ?_, fun i hi => ?_⟩
  · have q := h0 i hi; unfold stat1 at q; simp only [Bool.and_eq_true] at q
    have q1 := q.1
    unfold gdB at q1
    cases hg : (ops.getD i default).guard with
    | none => exact .inl rfl
    | some jw =>
      obtain ⟨j, want⟩ := jw
      rw [hg] at q1
      simp only [Bool.and_eq_true] at q1
      obtain ⟨q2, q3⟩ := q1
      cases hb : (ops[j]?).bind (·.dst) with
      | none => rw [hb] at q3; cases q3
      | some t =>
        have hj : j < ops.size := by
          cases hh : ops[j]? with
          | none => rw [hh] at hb; cases hb
          | some o => exact (Array.getElem?_eq_some_iff.1 hh).1
        refine .inr ⟨j, want, t, rfl, hj, pre_bit.2 ⟨hi, ?_⟩, ?_, hb⟩
        · rw [tb_eq] at q2; exact q2
        · unfold opD
          rw [Array.getElem?_eq_getElem hj] at hb
          simpa [Array.getD, hj] using hb
  · obtain ⟨e, he, hb, h1⟩ := (bit_is hB (hat' i hi)).1 (pre_bit.1 hp).2
    have hlt := hB i _ (hat' i hi) e he hb
    exact ⟨e, he, hb, h1.imp id fun h2 => pre_bit.2 ⟨by omega, h2⟩⟩
  · apply Nat.eq_of_testBit_eq
    intro k
    have e : Nat.lor ((Region.before ops).getD j 0) ((Region.before ops).getD i 0) = ((Region.before ops).getD j 0) ||| ((Region.before ops).getD i 0) := rfl
    rw [e, Nat.testBit_or]
    cases hk : ((Region.before ops).getD j 0).testBit k with
    | false => simp
    | true =>
      have := bit_trans hB (pre_bit.1 hp).2 (k := k) hk
      unfold bitB at this
      rw [this]; rfl
  · cases hp : preB ops i i with
    | false => rfl
    | true => exact absurd (bit_lt hB (pre_bit.1 hp).2) (Nat.lt_irrefl _)
  · have q := h0 i hi; unfold stat1 at q; simp only [Bool.and_eq_true] at q
    have q6 := q.2.2.1
    have hd' : (ops.getD i default).dst = some d := hd
    rw [hd'] at q6
    simp only [Bool.and_eq_true, Nat.ble_eq] at q6
    refine ⟨q6.1, fun j hj hdj => ?_⟩
    have := allI_is (k := 0) q6.2 j _ (hat j hj)
    have hdj' : (ops.getD j default).dst = some d := hdj
    rw [hdj'] at this
    simp only [Nat.zero_add, Bool.or_eq_true, Nat.beq_eq, Bool.not_eq_true'] at this
    rcases this with h1 | h1
    · rw [beq_t rfl] at h1; cases h1
    · exact h1
  · have q := h0 i hi; unfold stat1 at q; simp only [Bool.and_eq_true] at q
    have := allI_is (k := 0) (List.all_eq_true.1 q.2.2.2.1 t ht) k _ (hat k hk)
    have hd' : (ops.getD k default).dst = some t := hd
    rw [hd'] at this
    simp only [Nat.zero_add, Bool.or_eq_true, Nat.beq_eq, Bool.not_eq_true'] at this
    rcases this with h1 | h1 | h1 | h1
    · rw [beq_t rfl] at h1; cases h1
    · rw [tb_eq] at h1; exact .inl (pre_bit.2 ⟨hi, h1⟩)
    · exact .inr (.inl h1)
    · exact .inr (.inr h1)
  · have key : ∀ i j, i < ops.size → j < ops.size → chB ops i = true → chB ops j = true → j < i → preB ops j i = true := by
      intro i j hi hj hc hcj hlt
      have q := h0 i hi; unfold stat1 at q; simp only [Bool.and_eq_true] at q
      have q8 := q.2.2.2.2.1
      have hc' : Nat.beq (kindOf (ops.getD i default).op) 2 = true := hc
      rw [hc', Bool.not_true, Bool.false_or] at q8
      have hcj' : kindOf (ops.getD j default).op = 2 := by have : Nat.beq (kindOf (ops.getD j default).op) 2 = true := hcj; rwa [Nat.beq_eq] at this
      have hbit := chMask_is (k := 0) (hat j hj) hcj'
      rw [Nat.zero_add] at hbit
      refine pre_bit.2 ⟨hi, land_is q8 (j := j) ?_⟩
      have e : chMask 0 ops.toList % Nat.pow 2 i = chMask 0 ops.toList % 2 ^ i := rfl
      rw [e, Nat.testBit_mod_two_pow, hbit]; simp [hlt]
    rcases Nat.lt_trichotomy i j with h1 | h1 | h1
    · exact .inr (.inl (key j i hj hi hcj hc h1))
    · exact .inl h1
    · exact .inr (.inr (key i j hi hj hc hcj h1))
  · have q := h0 i hi; unfold stat1 at q; simp only [Bool.and_eq_true] at q
    have := q.2.2.2.2.2
    rw [Nat.ble_eq] at this; exact this
/-- Ahead of. -/
def Pre (ops : Array Oper) (j i : Nat) : Prop := j < ops.size ∧ preB ops j i = true
theorem preB_lt {i j : Nat} (h : preB ops j i = true) : i < ops.size := by
  unfold preB at h
  rw [Bool.and_eq_true, Nat.ble_eq] at h; exact h.1
theorem dir_is {i j : Nat} : Dir ops j i ↔ i < ops.size ∧ ∃ e ∈ (ops.getD i default).after, Region.binds .any e = true ∧ e.on = j := by
  unfold Dir
  constructor
  · rintro ⟨o, ho, e, he, hb, hj⟩
    have hi : i < ops.size := (Array.getElem?_eq_some_iff.1 ho).1
    have : ops.getD i default = o := by
      have := (Array.getElem?_eq_some_iff.1 ho).2
      simp [Array.getD, hi, this]
    exact ⟨hi, e, by rw [this]; exact he, hb, hj⟩
  · rintro ⟨hi, e, he, hb, hj⟩
    refine ⟨ops[i], Array.getElem?_eq_getElem hi, e, ?_, hb, hj⟩
    simpa [Array.getD, hi] using he
theorem waits_is (S : Stat ops N) : Waits ops (Pre ops) := by
  refine ⟨fun j i h => ?_, fun j i h hi => ?_⟩
  · obtain ⟨hi, e, he, hb, rfl⟩ := dir_is.1 h
    exact S.back i hi e he hb
  · obtain ⟨e, he, hb, h1⟩ := S.clo i hi j h.1 h.2
    refine ⟨e.on, dir_is.2 ⟨hi, e, he, hb, rfl⟩, ?_⟩
    rcases h1 with h1 | h1
    · exact .inl h1.symm
    · exact .inr ⟨h.1, h1⟩
theorem pre_trans (S : Stat ops N) {i j k : Nat} (h1 : Pre ops i j) (h2 : Pre ops j k) : Pre ops i k := by
  refine ⟨h1.1, ?_⟩
  have hk := preB_lt h2.2
  have hs := S.sub k hk j h2.1 h2.2
  have a := h1.2
  unfold preB at a ⊢
  rw [Bool.and_eq_true] at a ⊢
  refine ⟨by rw [Nat.ble_eq]; exact hk, ?_⟩
  rw [← hs]
  have : Nat.lor ((Region.before ops).getD j 0) ((Region.before ops).getD k 0) = (Region.before ops).getD j 0 ||| (Region.before ops).getD k 0 := rfl
  rw [this, Nat.testBit_or, a.2]; rfl
/-- One step of the plan. -/
structure StepIs (P : Program) (X call : Caller) (N : Nat) (ops : Array Oper) (i : Nat) (s : PS) (r : Rec) (s1 : PS) : Prop where
  ri : r.i = i
  rc : r.c = s.nx
  rc' : r.c' = s1.nx
  le : s.nx ≤ s1.nx
  rst_ : r.st = s.st
  slr : r.slr = rst s.sl (opTmps (opO ops i))
  put : putD N (opD ops i) r.v s.sl = some s1.sl
  gd : evWanted ops (ops.getD i default) s.sl = some r.w
  uw : r.w = false → r.v = .tup .nil ∧ r.blk = none ∧ (knd ops i = 2 → r.st' = r.st)
  z0 : knd ops i = 0 → (r.w = true → ∃ h1, evM P r.slr .nil r.c (opO ops i) = .ok r.v h1 r.c' ∧ ∀ x, r.blk = some x → r.c < r.c' ∧ h1.get r.c = some x) ∧ s1.Ks = s.Ks ∧
    ((∃ b, r.blk = some b ∧ s1.st = s.st.put r.c b ∧ s1.pend = r :: s.pend ∧ ∀ K ∈ s.Ks, K.2.get r.c = none) ∨ (r.blk = none ∧ s1.st = s.st ∧ s1.pend = s.pend))
  z1 : knd ops i = 1 → r.blk = none ∧ s1.Ks = s.Ks ∧ s1.st = s.st ∧ s1.pend = s.pend ∧ (r.w = true → (ldAll P ops i r.slr (opO ops i) s.Ks = some r.v ∨ ∃ q ∈ s.pend, ∃ b, q.blk = some b ∧ preB ops q.i i = true ∧ standB ops q.i i = true ∧ evRd P r.slr (nilH.put q.c b) (opO ops i) = some r.v))
  z2 : knd ops i = 2 → r.blk = none ∧ (r.w = true → evOper P X call r.slr r.st r.c (opO ops i) = .ok r.v r.st' r.c') ∧ s1.st = r.st' ∧ s1.Ks = (i, r.st') :: s.Ks ∧ s1.pend = []
theorem step1_is {i : Nat} {s s1 : PS} {r : Rec} (hk : knd ops i ≤ 2) (hg : evWanted ops (ops.getD i default) s.sl = some true) (e : evStep1 P X call N ops i s = some (r, s1)) : StepIs P X call N ops i s r s1 := by
  unfold evStep1 at e
  split at e
  · rename_i hk0
    have hk0' : knd ops i = 0 := hk0
    split at e
    · rename_i v h1 nx1 he
      split at e
      · rename_i sl1 hput
        obtain ⟨hle, e2⟩ := bif_some' e
        clear e; have e := e2; clear e2
        rw [Nat.ble_eq] at hle
        split at e
        · rename_i b hb
          obtain ⟨hall, e⟩ := bif_some e
          cases e
          obtain ⟨hq, hb⟩ := bif_some' hb
          rw [Nat.beq_eq] at hq
          refine ⟨rfl, rfl, rfl, hle, rfl, rfl, hput, hg, (fun h => nomatch h), fun _ => ⟨fun _ => ⟨h1, he, fun x hx => ?_⟩, rfl, .inl ⟨b, rfl, rfl, rfl, fun K hK => ?_⟩⟩, fun h => ?_, fun h => ?_⟩
          · cases hx; exact ⟨by rw [hq]; exact Nat.lt_succ_self _, hb⟩
          · have := List.all_eq_true.1 hall K hK
            simpa using this
          · rw [hk0'] at h; cases h
          · rw [hk0'] at h; cases h
        · cases e
          refine ⟨rfl, rfl, rfl, hle, rfl, rfl, hput, hg, (fun h => nomatch h), fun _ => ⟨fun _ => ⟨h1, he, fun x hx => by cases hx⟩, rfl, .inr ⟨rfl, rfl, rfl⟩⟩, fun h => ?_, fun h => ?_⟩
          · rw [hk0'] at h; cases h
          · rw [hk0'] at h; cases h
      · cases e
    · cases e
  · rename_i hk0
    have hk0' : knd ops i = 1 := hk0
    split at e
    · rename_i v hv
      split at e
      · rename_i sl1 hput
        cases e
        refine ⟨rfl, rfl, rfl, Nat.le_refl _, rfl, rfl, hput, hg, (fun h => nomatch h), fun h => ?_, fun _ => ⟨rfl, rfl, rfl, rfl, fun _ => ldAny_is hv⟩, fun h => ?_⟩
        · rw [hk0'] at h; cases h
        · rw [hk0'] at h; cases h
      · cases e
    · cases e
  · rename_i n0 n1
    have hk2 : knd ops i = 2 := by
      have h0 : knd ops i ≠ 0 := n0
      have h1 : knd ops i ≠ 1 := n1
      omega
    split at e
    · rename_i v h1 nx1 he
      split at e
      · rename_i sl1 hput
        obtain ⟨hle, e⟩ := bif_some e
        cases e
        rw [Nat.ble_eq] at hle
        refine ⟨rfl, rfl, rfl, hle, rfl, rfl, hput, hg, (fun h => nomatch h), fun h => ?_, fun h => ?_, fun _ => ⟨rfl, fun _ => he, rfl, rfl, rfl⟩⟩
        · rw [hk2] at h; cases h
        · rw [hk2] at h; cases h
      · cases e
    · cases e
theorem step_is {i : Nat} {s s1 : PS} {r : Rec} (hk : knd ops i ≤ 2) (e : evStep P X call N ops i s = some (r, s1)) : StepIs P X call N ops i s r s1 := by
  unfold evStep at e
  split at e
  · rename_i hg; exact step1_is hk hg e
  · rename_i hg
    unfold evSkip at e
    split at e
    · rename_i sl1 hput
      cases hb : Nat.beq (knd ops i) 2 with
      | true =>
        rw [hb, cond_true] at e; cases e
        rw [Nat.beq_eq] at hb
        exact ⟨rfl, rfl, rfl, Nat.le_refl _, rfl, rfl, hput, hg, fun _ => ⟨rfl, rfl, fun _ => rfl⟩, (fun h => by rw [hb] at h; cases h), (fun h => by rw [hb] at h; cases h), fun _ => ⟨rfl, (fun h => nomatch h), rfl, rfl, rfl⟩⟩
      | false =>
        rw [hb, cond_false] at e; cases e
        exact ⟨rfl, rfl, rfl, Nat.le_refl _, rfl, rfl, hput, hg, fun _ => ⟨rfl, rfl, fun _ => rfl⟩, fun _ => ⟨(fun h => nomatch h), rfl, .inr ⟨rfl, rfl, rfl⟩⟩, fun _ => ⟨rfl, rfl, rfl, rfl, fun h => nomatch h⟩, (fun h => by rw [h] at hb; cases hb)⟩
    · cases e
  · cases e
/-- The memories of those of the third kind, the newest first. -/
def KL (ops : Array Oper) (H0 : T AO) : List Rec → List (Nat × T AO)
  | [] => [(ops.size, H0)]
  | r :: rs => bif chB ops r.i then (r.i, r.st') :: KL ops H0 rs else KL ops H0 rs
/-- How many of the third kind. -/
def cntL (ops : Array Oper) : List Rec → Nat
  | [] => 0
  | r :: rs => bif chB ops r.i then cntL ops rs + 1 else cntL ops rs
theorem KL_len {H0 : T AO} : ∀ (rs : List Rec), (KL ops H0 rs).length = cntL ops rs + 1
  | [] => rfl
  | r :: rs => by
    simp only [KL, cntL]
    cases chB ops r.i
    · simpa using KL_len rs
    · simpa using KL_len rs
/-- What holds when those of rs are done (the newest first). -/
structure Good (ops : Array Oper) (N : Nat) (sl0 : T AV) (H0 : T AO) (nx0 : Nat) (rs : List Rec) (s : PS) : Prop where
  ids : ∀ r ∈ rs, r.i < ops.size
  dif : rs.Pairwise fun a b => a.i ≠ b.i
  rng : ∀ r ∈ rs, nx0 ≤ r.c ∧ r.c ≤ r.c' ∧ r.c' ≤ s.nx
  nx : nx0 ≤ s.nx
  apt : rs.Pairwise fun a b => b.c' ≤ a.c
  sl1 : ∀ r ∈ rs, ∀ t, opD ops r.i = some t → s.sl.get t = some r.v
  sl2 : ∀ t, (∀ r ∈ rs, opD ops r.i ≠ some t) → s.sl.get t = sl0.get t
  Ks : s.Ks = KL ops H0 rs
  mem : ∀ id x, s.st.get id = some x → (∃ j K tl, s.Ks = (j, K) :: tl ∧ K.get id = some x) ∨ ∃ r ∈ s.pend, r.c = id ∧ r.blk = some x
  pnd : ∀ r ∈ s.pend, r ∈ rs ∧ ∀ q ∈ rs, chB ops q.i = true → preB ops r.i q.i = false
/-- What is known of one, those ahead of it being rs. -/
structure RecOk (P : Program) (X call : Caller) (N : Nat) (ops : Array Oper) (sl0 : T AV) (H0 : T AO) (rs : List Rec) (r : Rec) : Prop where
  sl : ∀ t x, r.slr.get t = some x → (∃ q ∈ rs, preB ops q.i r.i = true ∧ opD ops q.i = some t ∧ q.v = x) ∨ ((∀ k, k < ops.size → opD ops k = some t → k = r.i ∨ preB ops r.i k = true) ∧ sl0.get t = some x)
  gd : ((ops.getD r.i default).guard = none ∧ r.w = true) ∨ ∃ j want t, (ops.getD r.i default).guard = some (j, want) ∧ j < ops.size ∧ preB ops j r.i = true ∧ opD ops j = some t ∧ ∃ q ∈ rs, q.i = j ∧ ((∃ x, q.v = .b x ∧ r.w = (x == want)) ∨ ∃ l, q.v = .tup l ∧ r.w = false)
  uw : r.w = false → r.v = .tup .nil ∧ r.blk = none ∧ (knd ops r.i = 2 → r.st' = r.st)
  z0 : knd ops r.i = 0 → r.w = true → ∃ h1, evM P r.slr .nil r.c (opO ops r.i) = .ok r.v h1 r.c' ∧ ∀ x, r.blk = some x → r.c < r.c' ∧ h1.get r.c = some x
  frs : ∀ x, r.blk = some x → knd ops r.i = 0 ∧ ∀ K ∈ KL ops H0 rs, K.2.get r.c = none
  z1 : knd ops r.i = 1 → r.w = true → (ldAll P ops r.i r.slr (opO ops r.i) (KL ops H0 rs) = some r.v ∨ ∃ q ∈ rs, ∃ b, q.blk = some b ∧ preB ops q.i r.i = true ∧ standB ops q.i r.i = true ∧ evRd P r.slr (nilH.put q.c b) (opO ops r.i) = some r.v)
  z2 : knd ops r.i = 2 → r.w = true → evOper P X call r.slr r.st r.c (opO ops r.i) = .ok r.v r.st' r.c'
  mem : knd ops r.i = 2 → ∀ id x, r.st.get id = some x → (∃ j K tl, KL ops H0 rs = (j, K) :: tl ∧ K.get id = some x) ∨ ∃ q ∈ rs, q.c = id ∧ q.blk = some x ∧ preB ops q.i r.i = true ∧ ∀ p ∈ rs, chB ops p.i = true → preB ops q.i p.i = false
  prf : ∀ j, j < ops.size → preB ops j r.i = true → ∃ q ∈ rs, q.i = j
  chp : chB ops r.i = true → ∀ q ∈ rs, preB ops q.i r.i = true
theorem putD_get {dst : Option Nat} {v : AV} {sl sl' : T AV} (e : putD N dst v sl = some sl') : ∀ t, sl'.get t = if dst = some t then some v else sl.get t := by
  intro t
  unfold putD at e
  split at e
  · cases e; simp
  · rename_i d
    obtain ⟨_, e⟩ := bif_some' e
    rw [T.seq_eq] at e; cases e
    rw [T.get_put]
    by_cases h : t = d
    · subst h; simp
    · rw [if_neg h, if_neg (fun q => h (by cases q; rfl))]
theorem good_step (S : Stat ops N) {sl0 : T AV} {H0 : T AO} {nx0 : Nat} {rs : List Rec} {s s1 : PS} {i : Nat} {r : Rec} (G : Good ops N sl0 H0 nx0 rs s) (hi : i < ops.size) (hnew : ∀ q ∈ rs, q.i ≠ i)
    (hpre : ∀ j, j < ops.size → preB ops j i = true → ∃ q ∈ rs, q.i = j) (hch : chB ops i = true → ∀ q ∈ rs, preB ops q.i i = true) (hord : ∀ q ∈ rs, preB ops i q.i = false)
    (T : StepIs P X call N ops i s r s1) : Good ops N sl0 H0 nx0 (r :: rs) s1 ∧ RecOk P X call N ops sl0 H0 rs r := by
  have hri := T.ri
  have hk := S.knd i hi
  have hput := putD_get T.put
  have hkk : knd ops i = 0 ∨ knd ops i = 1 ∨ knd ops i = 2 := by omega
  have hcb : chB ops i = true ↔ knd ops i = 2 := by unfold chB; rw [Nat.beq_eq]
  constructor
  · refine ⟨?_, ?_, ?_, Nat.le_trans G.nx T.le, ?_, ?_, ?_, ?_, ?_, ?_⟩
    · intro q hq
      rcases List.mem_cons.1 hq with rfl | hq
      · rw [hri]; exact hi
      · exact G.ids q hq
    · rw [List.pairwise_cons]
      exact ⟨fun q hq e => hnew q hq (by rw [← hri, e]), G.dif⟩
    · intro q hq
      rcases List.mem_cons.1 hq with rfl | hq
      · rw [T.rc, T.rc']; exact ⟨G.nx, T.le, Nat.le_refl _⟩
      · obtain ⟨h1, h2, h3⟩ := G.rng q hq
        exact ⟨h1, h2, Nat.le_trans h3 T.le⟩
    · rw [List.pairwise_cons]
      exact ⟨fun q hq => by rw [T.rc]; exact (G.rng q hq).2.2, G.apt⟩
    · intro q hq t ht
      rw [hput t]
      rcases List.mem_cons.1 hq with rfl | hq
      · rw [hri] at ht; rw [if_pos ht]
      · rw [if_neg]
        · exact G.sl1 q hq t ht
        · intro h
          exact hnew q hq ((S.dst i hi t h).2 q.i (G.ids q hq) ht).symm
    · intro t ht
      rw [hput t, if_neg (by rw [← hri]; exact ht r (List.mem_cons_self ..))]
      exact G.sl2 t fun q hq => ht q (List.mem_cons_of_mem _ hq)
    · simp only [KL, hri]
      rcases hkk with h | h | h
      · have : chB ops i = false := by cases hc : chB ops i <;> simp_all
        rw [this, cond_false, (T.z0 h).2.1, G.Ks]
      · have : chB ops i = false := by cases hc : chB ops i <;> simp_all
        rw [this, cond_false, (T.z1 h).2.1, G.Ks]
      · rw [hcb.2 h, cond_true, (T.z2 h).2.2.2.1, G.Ks]
    · intro id x e
      rcases hkk with h | h | h
      · obtain ⟨_, hKs, h1⟩ := T.z0 h
        rcases h1 with ⟨b, hb, hst, hpd, _⟩ | ⟨_, hst, hpd⟩
        · rw [hst, Go.Proofs.YteogphbdpjnjoaaGreat.T.get_put] at e
          split at e
          · rename_i hid
            cases e
            exact .inr ⟨r, by rw [hpd]; exact List.mem_cons_self .., hid.symm, hb⟩
          · rcases G.mem id x e with ⟨j, K, tl, h2, h3⟩ | ⟨q, hq, h2⟩
            · exact .inl ⟨j, K, tl, by rw [hKs]; exact h2, h3⟩
            · exact .inr ⟨q, by rw [hpd]; exact List.mem_cons_of_mem _ hq, h2⟩
        · rw [hst] at e
          rcases G.mem id x e with ⟨j, K, tl, h2, h3⟩ | ⟨q, hq, h2⟩
          · exact .inl ⟨j, K, tl, by rw [hKs]; exact h2, h3⟩
          · exact .inr ⟨q, by rw [hpd]; exact hq, h2⟩
      · obtain ⟨_, hKs, hst, hpd, _⟩ := T.z1 h
        rw [hst] at e
        rcases G.mem id x e with ⟨j, K, tl, h2, h3⟩ | ⟨q, hq, h2⟩
        · exact .inl ⟨j, K, tl, by rw [hKs]; exact h2, h3⟩
        · exact .inr ⟨q, by rw [hpd]; exact hq, h2⟩
      · obtain ⟨_, _, hst, hKs, hpd⟩ := T.z2 h
        rw [hst] at e
        exact .inl ⟨i, r.st', s.Ks, hKs, e⟩
    · intro q hq
      have old : q ∈ s.pend → knd ops i ≠ 2 → q ∈ r :: rs ∧ ∀ p ∈ r :: rs, chB ops p.i = true → preB ops q.i p.i = false := by
        intro hq hne
        obtain ⟨h1, h2⟩ := G.pnd q hq
        refine ⟨List.mem_cons_of_mem _ h1, fun p hp hc => ?_⟩
        rcases List.mem_cons.1 hp with rfl | hp
        · rw [hri] at hc; exact absurd (hcb.1 hc) hne
        · exact h2 p hp hc
      rcases hkk with h | h | h
      · obtain ⟨_, _, h1⟩ := T.z0 h
        rcases h1 with ⟨b, _, _, hpd, _⟩ | ⟨_, _, hpd⟩
        · rw [hpd] at hq
          rcases List.mem_cons.1 hq with rfl | hq
          · refine ⟨List.mem_cons_self .., fun p hp hc => ?_⟩
            rcases List.mem_cons.1 hp with rfl | hp
            · rw [hri] at hc; rw [hcb.1 hc] at h; cases h
            · rw [hri]; exact hord p hp
          · exact old hq (by omega)
        · rw [hpd] at hq; exact old hq (by omega)
      · obtain ⟨_, _, _, hpd, _⟩ := T.z1 h
        rw [hpd] at hq; exact old hq (by omega)
      · obtain ⟨_, _, _, _, hpd⟩ := T.z2 h
        rw [hpd] at hq; cases hq
  · refine ⟨?_, ?_, ?_, ?_, ?_, ?_, ?_, ?_, ?_, ?_⟩ <;> rw [hri]
    · intro t x e
      rw [T.slr] at e
      obtain ⟨h1, h2⟩ := rst_get _ e
      by_cases hex : ∃ q ∈ rs, opD ops q.i = some t
      · obtain ⟨q, hq, hd⟩ := hex
        have hqi := G.ids q hq
        have := G.sl1 q hq t hd
        rw [h2] at this; cases this
        rcases S.opr i hi t h1 q.i hqi hd with hp | hp | hp
        · exact .inl ⟨q, hq, hp, hd, rfl⟩
        · rw [hord q hq] at hp; cases hp
        · exact absurd hp (hnew q hq)
      · rw [G.sl2 t fun q hq hd => hex ⟨q, hq, hd⟩] at h2
        by_cases hw : ∃ k, k < ops.size ∧ opD ops k = some t
        · obtain ⟨k, hk, hd⟩ := hw
          refine .inr ⟨fun k' hk' hd' => ?_, h2⟩
          rcases S.opr i hi t h1 k' hk' hd' with hp | hp | hp
          · obtain ⟨q, hq, rfl⟩ := hpre k' hk' hp
            exact absurd ⟨q, hq, hd'⟩ hex
          · exact .inr hp
          · exact .inl hp
        · exact .inr ⟨fun k' hk' hd' => absurd ⟨k', hk', hd'⟩ hw, h2⟩
    · rcases S.grd i hi with hg | ⟨j, want, t, hg, hj, hp, hd, hb⟩
      · refine .inl ⟨hg, ?_⟩
        have := T.gd
        unfold evWanted at this
        rw [hg] at this
        exact (Option.some.inj this).symm
      · obtain ⟨q, hq, hqi⟩ := hpre j hj hp
        have hs := G.sl1 q hq t (by rw [hqi]; exact hd)
        refine .inr ⟨j, want, t, hg, hj, hp, hd, q, hq, hqi, ?_⟩
        have := T.gd
        unfold evWanted at this
        rw [hg] at this
        simp only [hb, hs] at this
        split at this
        · rename_i x hx
          refine .inl ⟨x, Option.some.inj hx, ?_⟩
          exact (Option.some.inj this).symm
        · rename_i l hx
          refine .inr ⟨l, Option.some.inj hx, ?_⟩
          exact (Option.some.inj this).symm
        · cases this
    · exact T.uw
    · exact fun h => (T.z0 h).1
    · intro x hx
      rcases hkk with h | h | h
      · refine ⟨h, fun K hK => ?_⟩
        rcases (T.z0 h).2.2 with ⟨b, _, _, _, h2⟩ | ⟨hb, _⟩
        · exact h2 K (by rw [G.Ks]; exact hK)
        · rw [hb] at hx; cases hx
      · rw [(T.z1 h).1] at hx; cases hx
      · rw [(T.z2 h).1] at hx; cases hx
    · intro h
      intro hw
      obtain ⟨_, _, _, _, hz⟩ := T.z1 h
      have h3 := hz hw
      rcases h3 with h3 | ⟨q, hq, h3⟩
      · exact .inl (by rw [← G.Ks]; exact h3)
      · exact .inr ⟨q, (G.pnd q hq).1, h3⟩
    · exact fun h => (T.z2 h).2.1
    · intro h id x e
      rw [T.rst_] at e
      rcases G.mem id x e with ⟨j, K, tl, h2, h3⟩ | ⟨q, hq, h2, h3⟩
      · exact .inl ⟨j, K, tl, by rw [← G.Ks]; exact h2, h3⟩
      · obtain ⟨h4, h5⟩ := G.pnd q hq
        exact .inr ⟨q, h4, h2, h3, hch (hcb.2 h) q h4, h5⟩
    · exact hpre
    · exact hch
end Go.Proofs.YteogphbdpjnjoaaGreat
namespace Go.Proofs.YteogphbdpjnjoaaGreat
open Go.RowKit
variable {P : Program} {N : Nat} {X call : Caller} {ops : Array Oper}

instance : Inhabited AV := ⟨.ni⟩
instance {α : Type} : Inhabited (T α) := ⟨.nil⟩
instance : Inhabited Rec := ⟨⟨0, default, 0, 0, none, .nil, .nil, .nil, true⟩⟩
/-- All that is known, each of those ahead of it. -/
def RecsOk (P : Program) (X call : Caller) (N : Nat) (ops : Array Oper) (sl0 : T AV) (H0 : T AO) : List Rec → Prop
  | [] => True
  | r :: rs => RecOk P X call N ops sl0 H0 rs r ∧ RecsOk P X call N ops sl0 H0 rs
theorem recs_at {sl0 : T AV} {H0 : T AO} : ∀ {R : List Rec}, RecsOk P X call N ops sl0 H0 R → ∀ {a : List Rec} {r : Rec} {b : List Rec}, R = a ++ r :: b → RecOk P X call N ops sl0 H0 b r
  | _, h, [], r, b, e => by subst e; exact h.1
  | [], h, x :: a, r, b, e => by cases e
  | y :: R, h, x :: a, r, b, e => by
    simp only [List.cons_append, List.cons.injEq] at e
    exact recs_at h.2 e.2
theorem plan_good (S : Stat ops N) {sl0 : T AV} {H0 : T AO} {nx0 : Nat} : ∀ (l : List Nat) (dm : Nat) (rs rs2 : List Rec) (s sF : PS), evPlan P X call N ops l s = some (rs2, sF) → planB ops dm l = true → (∀ j, dm.testBit j = true ↔ ∃ q ∈ rs, q.i = j) →
    Good ops N sl0 H0 nx0 rs s → RecsOk P X call N ops sl0 H0 rs → ∃ R, Good ops N sl0 H0 nx0 R sF ∧ RecsOk P X call N ops sl0 H0 R ∧ ∀ j, j < ops.size → ∃ q ∈ R, q.i = j
  | [], dm, rs, rs2, s, sF, e, hp, hd, G, hR => by
    simp only [evPlan] at e; cases e
    refine ⟨rs, G, hR, fun j hj => ?_⟩
    simp only [planB, Nat.beq_eq] at hp
    have e : Nat.sub (Nat.pow 2 ops.size) 1 = 2 ^ ops.size - 1 := rfl
    exact (hd j).1 (by rw [hp, e, Nat.testBit_two_pow_sub_one]; simpa using hj)
  | i :: l, dm, rs, rs2, s, sF, e, hp, hd, G, hR => by
    simp only [evPlan] at e
    split at e
    · rename_i r s1 hstep
      split at e
      · rename_i rs3 s2 hrest
        cases e
        simp only [planB, Bool.and_eq_true] at hp
        obtain ⟨p1, p2, p3, p4, p6⟩ := hp
        rw [tb_eq] at p2
        rw [Nat.ble_eq] at p1
        have hi : i < ops.size := p1
        have hT := step_is (S.knd i hi) hstep
        have hnew : ∀ q ∈ rs, q.i ≠ i := fun q hq hqi => by
          have := (hd i).2 ⟨q, hq, hqi⟩
          rw [this] at p2; cases p2
        have hpre : ∀ j, j < ops.size → preB ops j i = true → ∃ q ∈ rs, q.i = j := fun j hj hb => by
          exact (hd j).1 (land_is p3 (pre_bit.1 hb).2)
        have hch : chB ops i = true → ∀ q ∈ rs, preB ops q.i i = true := fun hc q hq => by
          rw [hc, Bool.not_true, Bool.false_or] at p4
          exact pre_bit.2 ⟨hi, land_is p4 ((hd q.i).2 ⟨q, hq, rfl⟩)⟩
        have hord : ∀ q ∈ rs, preB ops i q.i = false := fun q hq => by
          cases hb : preB ops i q.i with
          | false => rfl
          | true =>
            exfalso
            obtain ⟨a, b, rfl⟩ := List.append_of_mem hq
            obtain ⟨q', hq', he⟩ := (recs_at hR rfl).prf i hi hb
            exact hnew q' (List.mem_append_right _ (List.mem_cons_of_mem _ hq')) he
        obtain ⟨G1, hr⟩ := good_step (X := X) (call := call) (P := P) S G hi hnew hpre hch hord hT
        refine plan_good S l (Nat.lor dm (Nat.pow 2 i)) (r :: rs) rs3 s1 sF hrest p6 (fun j => ?_) G1 ⟨hr, hR⟩
        have e : Nat.lor dm (Nat.pow 2 i) = dm ||| 2 ^ i := rfl
        rw [e, Nat.testBit_or, Bool.or_eq_true, Nat.testBit_two_pow, decide_eq_true_iff, hd j]
        constructor
        · rintro (⟨q, hq, e⟩ | rfl)
          · exact ⟨q, List.mem_cons_of_mem _ hq, e⟩
          · exact ⟨r, List.mem_cons_self .., hT.ri⟩
        · rintro ⟨q, hq, e⟩
          rcases List.mem_cons.1 hq with rfl | hq
          · exact .inr (by rw [← e, hT.ri])
          · exact .inl ⟨q, hq, e⟩
      · cases e
    · cases e
/-- Memory when so many of the third kind are done. -/
def Kf (ops : Array Oper) (H0 : T AO) : List Rec → Nat → T AO
  | [], _ => H0
  | r :: rs, k => if chB ops r.i = true ∧ k = cntL ops rs + 1 then r.st' else Kf ops H0 rs k
theorem cnt_append (a b : List Rec) : cntL ops b ≤ cntL ops (a ++ b) := by
  induction a with
  | nil => exact Nat.le_refl _
  | cons r a ih =>
    simp only [List.cons_append, cntL]
    cases chB ops r.i <;> simp <;> omega
theorem Kf_append {H0 : T AO} {b : List Rec} {k : Nat} (hk : k ≤ cntL ops b) : ∀ (a : List Rec), Kf ops H0 (a ++ b) k = Kf ops H0 b k
  | [] => rfl
  | r :: a => by
    have := cnt_append (ops := ops) a b
    simp only [List.cons_append, Kf]
    rw [if_neg (fun h => by omega)]
    exact Kf_append hk a
/-- The number of one of the third kind. -/
def numL (ops : Array Oper) : List Rec → Nat → Nat
  | [], _ => 0
  | r :: rs, i => if r.i = i then cntL ops rs else numL ops rs i
theorem KL_get {H0 : T AO} : ∀ (rs : List Rec) (p j : Nat) (K : T AO), (KL ops H0 rs)[p]? = some (j, K) → p ≤ cntL ops rs ∧ K = Kf ops H0 rs (cntL ops rs - p) ∧
    (p < cntL ops rs → ∃ a q b, rs = a ++ q :: b ∧ q.i = j ∧ chB ops j = true ∧ cntL ops b = cntL ops rs - p - 1)
  | [], p, j, K, h => by
    simp only [KL] at h
    cases p with
    | zero => simp at h; obtain ⟨rfl, rfl⟩ := h; exact ⟨Nat.le_refl _, rfl, fun h => by simp [cntL] at h⟩
    | succ p => simp at h
  | r :: rs, p, j, K, h => by
    simp only [KL] at h
    cases hc : chB ops r.i with
    | false =>
      rw [hc, cond_false] at h
      obtain ⟨h1, h2, h3⟩ := KL_get rs p j K h
      have e : cntL ops (r :: rs) = cntL ops rs := by simp [cntL, hc]
      rw [e]
      refine ⟨h1, ?_, fun hp => ?_⟩
      · rw [h2]; simp only [Kf, hc]; simp
      · obtain ⟨a, q, b, rfl, h4⟩ := h3 hp
        exact ⟨r :: a, q, b, rfl, h4⟩
    | true =>
      rw [hc, cond_true] at h
      have e : cntL ops (r :: rs) = cntL ops rs + 1 := by simp [cntL, hc]
      rw [e]
      cases p with
      | zero =>
        simp at h
        obtain ⟨rfl, rfl⟩ := h
        refine ⟨by omega, ?_, fun _ => ⟨[], r, rs, rfl, rfl, hc, by omega⟩⟩
        simp only [Kf, Nat.sub_zero]
        rw [if_pos ⟨hc, trivial⟩]
      | succ p =>
        simp only [List.getElem?_cons_succ] at h
        obtain ⟨h1, h2, h3⟩ := KL_get rs p j K h
        refine ⟨by omega, ?_, fun hp => ?_⟩
        · rw [h2]; simp only [Kf]
          rw [if_neg (fun h => by omega)]
          congr 1; omega
        · obtain ⟨a, q, b, rfl, h4, h5, h6⟩ := h3 (by omega)
          exact ⟨r :: a, q, b, rfl, h4, h5, by omega⟩
theorem KL_at {H0 : T AO} (rs : List Rec) {k : Nat} (hk : k ≤ cntL ops rs) : ∃ j, (KL ops H0 rs)[cntL ops rs - k]? = some (j, Kf ops H0 rs k) := by
  have hl := KL_len (ops := ops) (H0 := H0) rs
  have hlt : cntL ops rs - k < (KL ops H0 rs).length := by omega
  obtain ⟨⟨j, K⟩, h1⟩ : ∃ x, (KL ops H0 rs)[cntL ops rs - k]? = some x := ⟨_, List.getElem?_eq_getElem hlt⟩
  have h2 := (KL_get rs _ j K h1).2.1
  have : cntL ops rs - (cntL ops rs - k) = k := by omega
  rw [this] at h2
  exact ⟨j, by rw [h1, h2]⟩
theorem cnt_full : ∀ (rs : List Rec) (k : Nat), k < cntL ops rs → ∃ a q b, rs = a ++ q :: b ∧ chB ops q.i = true ∧ cntL ops b = k
  | [], k, h => by simp [cntL] at h
  | r :: rs, k, h => by
    simp only [cntL] at h
    cases hc : chB ops r.i with
    | false =>
      rw [hc, cond_false] at h
      obtain ⟨a, q, b, rfl, h1⟩ := cnt_full rs k h
      exact ⟨r :: a, q, b, rfl, h1⟩
    | true =>
      rw [hc, cond_true] at h
      by_cases hk : k = cntL ops rs
      · exact ⟨[], r, rs, rfl, hc, hk.symm⟩
      · obtain ⟨a, q, b, rfl, h1⟩ := cnt_full rs k (by omega)
        exact ⟨r :: a, q, b, rfl, h1⟩
/-- Two of one list: one stands behind the other. -/
theorem two_at {R : List Rec} (hd : R.Pairwise fun a b => a.i ≠ b.i) {a b c d : List Rec} {r q : Rec} (h1 : R = a ++ r :: b) (h2 : R = c ++ q :: d) : r = q ∧ b = d ∨ (∃ e, b = e ++ q :: d) ∨ (∃ e, d = e ++ r :: b) := by
  induction a generalizing R c with
  | nil =>
    cases c with
    | nil => subst h1; simp at h2; exact .inl h2
    | cons x c =>
      subst h1
      simp only [List.nil_append, List.cons_append, List.cons.injEq] at h2
      exact .inr (.inl ⟨c, h2.2⟩)
  | cons x a ih =>
    cases c with
    | nil =>
      subst h1
      simp only [List.nil_append, List.cons_append, List.cons.injEq] at h2
      exact .inr (.inr ⟨a, h2.2.symm⟩)
    | cons y c =>
      subst h1
      simp only [List.cons_append, List.cons.injEq] at h2
      rw [List.cons_append, List.pairwise_cons] at hd
      exact ih hd.2 rfl h2.2
theorem num_at {R a b : List Rec} {r : Rec} (hd : R.Pairwise fun a b => a.i ≠ b.i) (h : R = a ++ r :: b) : numL ops R r.i = cntL ops b := by
  induction a generalizing R with
  | nil => subst h; simp [numL]
  | cons x a ih =>
    subst h
    rw [List.cons_append, List.pairwise_cons] at hd
    have hne : x.i ≠ r.i := hd.1 r (by simp)
    simp only [List.cons_append, numL, if_neg hne]
    exact ih hd.2 rfl
def recOf (R : List Rec) (i : Nat) : Rec := (R.find? fun r => r.i == i).getD default
theorem rec_at {R a b : List Rec} {r : Rec} (hd : R.Pairwise fun a b => a.i ≠ b.i) (h : R = a ++ r :: b) : recOf R r.i = r := by
  induction a generalizing R with
  | nil => subst h; simp [recOf]
  | cons x a ih =>
    subst h
    rw [List.cons_append, List.pairwise_cons] at hd
    have hne : x.i ≠ r.i := hd.1 r (by simp)
    have := ih hd.2 rfl
    unfold recOf at this ⊢
    rw [List.cons_append, List.find?_cons_of_neg (by simpa using hne)]
    exact this
theorem chB_is {i : Nat} : chB ops i = true ↔ knd ops i = 2 := by unfold chB; rw [Nat.beq_eq]
theorem cnt_lt {a b : List Rec} {q : Rec} (hc : chB ops q.i = true) : cntL ops b < cntL ops (a ++ q :: b) := by
  have := cnt_append (ops := ops) a (q :: b)
  have e : cntL ops (q :: b) = cntL ops b + 1 := by simp [cntL, hc]
  omega
noncomputable def tells (S : Stat ops N) {sl0 : T AV} {H0 : T AO} {nx0 : Nat} {R : List Rec} {sF : PS} (G : Good ops N sl0 H0 nx0 R sF) (hR : RecsOk P X call N ops sl0 H0 R) (hall : ∀ j, j < ops.size → ∃ q ∈ R, q.i = j) :
    Tells P X call N ops (Pre ops) sl0 H0 nx0 sF.nx :=
  have at_ : ∀ i, i < ops.size → ∃ a r b, R = a ++ r :: b ∧ r.i = i ∧ recOf R i = r ∧ numL ops R i = cntL ops b ∧ RecOk P X call N ops sl0 H0 b r := fun i hi => by
    obtain ⟨r, hr, rfl⟩ := hall i hi
    obtain ⟨a, b, h⟩ := List.append_of_mem hr
    exact ⟨a, r, b, h, rfl, rec_at G.dif h, num_at G.dif h, recs_at hR h⟩
  have memR : ∀ {a b : List Rec} {r : Rec}, R = a ++ r :: b → r ∈ R := fun h => by rw [h]; simp
  -- of two, the newer one of the third kind
  have newer : ∀ {a r b : _} {c q d : _}, R = a ++ r :: b → R = c ++ q :: d → chB ops q.i = true → cntL ops b ≤ cntL ops d → r.i ≠ q.i → Pre ops r.i q.i := fun {a r b c q d} h1 h2 hc hle hne => by
    rcases two_at G.dif h1 h2 with ⟨rfl, _⟩ | ⟨e, he⟩ | ⟨e, he⟩
    · exact absurd rfl hne
    · exfalso
      have := cnt_lt (ops := ops) (a := e) (b := d) hc
      rw [← he] at this; omega
    · exact ⟨G.ids r (memR h1), (recs_at hR h2).chp hc r (by rw [he]; simp)⟩
  -- what is not ahead of those of the third kind that are done stands with them in the plan
  have bound : ∀ {a r b : _} {k : Nat}, R = a ++ r :: b → (∀ l, l < ops.size → knd ops l = 2 → numL ops R l < k → ¬ Pre ops r.i l) → (∀ m, m < k → ∃ l, l < ops.size ∧ knd ops l = 2 ∧ numL ops R l = m) → knd ops r.i ≠ 2 → k ≤ cntL ops b := fun {a r b k} h1 hn hf hk => by
    refine Nat.le_of_not_lt fun hlt => ?_
    obtain ⟨l, hl, hl2, hm⟩ := hf (cntL ops b) hlt
    obtain ⟨c, q, d, h2, rfl, _, hnum, _⟩ := at_ l hl
    rw [hnum] at hm
    exact hn q.i hl hl2 (by rw [hnum]; omega) (newer h1 h2 (chB_is.2 hl2) (by omega) (fun e => hk (by rw [e]; exact hl2)))
  { v := fun i => (recOf R i).v
    c := fun i => (recOf R i).c
    c' := fun i => (recOf R i).c'
    blk := fun i => (recOf R i).blk
    st := fun i => (recOf R i).st
    st' := fun i => (recOf R i).st'
    slr := fun i => (recOf R i).slr
    K := Kf ops H0 R
    num := numL ops R
    rng := fun i hi => by
      obtain ⟨a, r, b, h, _, hrec, _⟩ := at_ i hi
      rw [hrec]; exact G.rng r (memR h)
    dis := fun i j hi hj hij => by
      obtain ⟨a, r, b, h1, e1, hr1, _⟩ := at_ i hi
      obtain ⟨c, q, d, h2, e2, hr2, _⟩ := at_ j hj
      rw [hr1, hr2]
      have hap := G.apt
      rcases two_at G.dif h1 h2 with ⟨rfl, _⟩ | ⟨e, he⟩ | ⟨e, he⟩
      · exact absurd (e1.symm.trans e2) hij
      · rw [h1, List.pairwise_append] at hap
        have := (List.pairwise_cons.1 hap.2.1).1 q (by rw [he]; simp)
        exact .inr this
      · rw [h2, List.pairwise_append] at hap
        have := (List.pairwise_cons.1 hap.2.1).1 r (by rw [he]; simp)
        exact .inl this
    sl := fun i hi t x e => by
      obtain ⟨a, r, b, h, e1, hrec, _, hok⟩ := at_ i hi
      rw [hrec] at e
      rcases hok.sl t x e with ⟨q, hq, hp, hd, hv⟩ | h2
      · obtain ⟨c, d, hb⟩ := List.append_of_mem hq
        have hR2 : R = (a ++ r :: c) ++ q :: d := by rw [h, hb]; simp
        refine .inl ⟨q.i, G.ids q (memR hR2), ⟨G.ids q (memR hR2), by rw [← e1]; exact hp⟩, hd, ?_⟩
        rw [rec_at G.dif hR2]; exact hv
      · refine .inr ⟨fun k hk hd => ?_, h2.2⟩
        rcases h2.1 k hk hd with h3 | h3
        · exact .inl (h3.trans e1)
        · exact .inr ⟨hi, by rw [← e1]; exact h3⟩
    dst := S.dst
    wnt := fun i => (recOf R i).w
    grd := fun i hi => by
      obtain ⟨a, r, b, h, e1, hrec, _, hok⟩ := at_ i hi
      rw [hrec]
      subst e1
      rcases hok.gd with h1 | ⟨j, want, t, hg, hj, hp, hd, q, hq, rfl, hv⟩
      · exact .inl h1
      · obtain ⟨c, d, hb⟩ := List.append_of_mem hq
        have hR2 : R = (a ++ r :: c) ++ q :: d := by rw [h, hb]; simp
        refine .inr ⟨q.i, want, t, hg, hj, ⟨hj, hp⟩, hd, ?_⟩
        rw [rec_at G.dif hR2]; exact hv
    uw := fun i hi hw => by
      obtain ⟨a, r, b, h, e1, hrec, _, hok⟩ := at_ i hi
      rw [hrec] at hw ⊢
      subst e1
      exact hok.uw hw
    k0 := fun i hi hk hw => by
      obtain ⟨a, r, b, h, e1, hrec, _, hok⟩ := at_ i hi
      rw [hrec] at hw ⊢
      have := hok.z0 (by rw [e1]; exact hk) hw
      rw [e1] at this; exact this
    k1 := fun i hi hk hw k hk1 hk2 hk3 => by
      obtain ⟨a, r, b, h, e1, hrec, hnum, hok⟩ := at_ i hi
      rw [hrec] at hw ⊢
      subst e1
      have h3 := hok.z1 hk hw
      rcases h3 with h3 | ⟨q, hq, bb, hqb, hqp, hqs, h3⟩
      rotate_left
      · obtain ⟨c, d, hb2⟩ := List.append_of_mem hq
        have hR2 : R = (a ++ r :: c) ++ q :: d := by rw [h, hb2]; simp
        have hqi := G.ids q (memR hR2)
        refine .inr ⟨q.i, bb, hqi, ⟨hqi, hqp⟩, by rw [rec_at G.dif hR2]; exact hqb, fun l hl hl2 hpl => ⟨hi, ?_⟩, by rw [rec_at G.dif hR2]; exact h3⟩
        have := allI_is (k := 0) hqs l (ops.getD l default) (by simp [Array.getD, hl])
        rw [Nat.zero_add] at this
        have hl2' : Nat.beq (kindOf (ops.getD l default).op) 2 = true := beq_t hl2
        rw [hl2', hpl.2] at this
        simpa using this
      refine .inl ?_
      have hkb : k ≤ cntL ops b := bound h hk2 hk3 (by rw [hk]; decide)
      obtain ⟨j, hj⟩ := KL_at (ops := ops) (H0 := H0) b hkb
      have hb' : k ≤ cntL ops (r :: b) := by
        have := cnt_append (ops := ops) [r] b
        exact Nat.le_trans hkb this
      have hKf : Kf ops H0 R k = Kf ops H0 b k := by
        rw [h, show a ++ r :: b = (a ++ [r]) ++ b by simp]
        exact Kf_append hkb _
      rw [hKf]
      refine ldAll_is h3 (cntL ops b - k) j (Kf ops H0 b k) hj fun m jm Km hm hl => ?_
      obtain ⟨c, q, d, hb2, rfl, hc, hcnt⟩ := (KL_get b m jm Km hl).2.2 (by omega)
      cases hp : preB ops q.i r.i with
      | false => rfl
      | true =>
        exfalso
        have hR2 : R = (a ++ r :: c) ++ q :: d := by rw [h, hb2]; simp
        have := hk1 q.i (G.ids q (memR hR2)) (chB_is.1 hc) ⟨G.ids q (memR hR2), hp⟩
        rw [num_at G.dif hR2] at this
        omega
    k2 := fun i hi hk hw => by
      obtain ⟨a, r, b, h, e1, hrec, _, hok⟩ := at_ i hi
      rw [hrec] at hw ⊢
      have := hok.z2 (by rw [e1]; exact hk) hw
      rw [e1] at this; exact this
    kz := fun i hi => by have := S.knd i hi; omega
    blk0 := fun i hi hk => by
      obtain ⟨a, r, b, h, e1, hrec, _, hok⟩ := at_ i hi
      rw [hrec]
      cases e : r.blk with
      | none => rfl
      | some x => exact absurd (by rw [← e1]; exact (hok.frs x e).1) hk
    kst := by
      have : ∀ rs : List Rec, Kf ops H0 rs 0 = H0 := fun rs => by
        induction rs with
        | nil => rfl
        | cons r rs ih => simp only [Kf]; rw [if_neg (fun h => by omega)]; exact ih
      exact this R
    kst' := fun i hi hk => by
      obtain ⟨a, r, b, h, e1, hrec, hnum, hok⟩ := at_ i hi
      rw [hrec, hnum]
      have hc : chB ops r.i = true := by rw [e1]; exact chB_is.2 hk
      have e : cntL ops (r :: b) = cntL ops b + 1 := by simp [cntL, hc]
      have : Kf ops H0 R (cntL ops b + 1) = Kf ops H0 (r :: b) (cntL ops b + 1) := by rw [h]; exact Kf_append (by omega) a
      rw [this]
      simp only [Kf]; rw [if_pos ⟨hc, trivial⟩]
    ord := fun i j hi hj hk1 hk2 hlt => by
      obtain ⟨a, r, b, h1, rfl, _, n1, _⟩ := at_ i hi
      obtain ⟨c, q, d, h2, rfl, _, n2, _⟩ := at_ j hj
      rw [n1, n2] at hlt
      exact newer h1 h2 (chB_is.2 hk2) (by omega) (fun e => by rw [e, n2] at n1; omega)
    inj := fun i j hi hj hk1 hk2 he => by
      obtain ⟨a, r, b, h1, rfl, _, n1, _⟩ := at_ i hi
      obtain ⟨c, q, d, h2, rfl, _, n2, _⟩ := at_ j hj
      rw [n1, n2] at he
      rcases two_at G.dif h1 h2 with ⟨rfl, _⟩ | ⟨e, hh⟩ | ⟨e, hh⟩
      · rfl
      · have := cnt_lt (ops := ops) (a := e) (b := d) (chB_is.2 hk2)
        rw [← hh] at this; omega
      · have := cnt_lt (ops := ops) (a := e) (b := b) (chB_is.2 hk1)
        rw [← hh] at this; omega
    full := fun i hi hk k hlt => by
      obtain ⟨a, r, b, h1, rfl, _, n1, _⟩ := at_ i hi
      rw [n1] at hlt
      obtain ⟨c, q, d, hb, hc, hcnt⟩ := cnt_full b k hlt
      have hR2 : R = (a ++ r :: c) ++ q :: d := by rw [h1, hb]; simp
      exact ⟨q.i, G.ids q (memR hR2), chB_is.1 hc, by rw [num_at G.dif hR2]; exact hcnt⟩
    mem := fun i hi hk id x e => by
      obtain ⟨a, r, b, h1, rfl, hrec, n1, hok⟩ := at_ i hi
      rw [hrec] at e
      rw [n1]
      rcases hok.mem hk id x e with ⟨j, K, tl, h2, h3⟩ | ⟨q, hq, hc, hx, hp, hn⟩
      · left
        have h4 : (KL ops H0 b)[0]? = some (j, K) := by rw [h2]; rfl
        have h5 := (KL_get b 0 j K h4).2.1
        have : Kf ops H0 R (cntL ops b) = Kf ops H0 b (cntL ops b) := by
          rw [h1, show a ++ r :: b = (a ++ [r]) ++ b by simp]
          exact Kf_append (Nat.le_refl _) _
        rw [this, ← Nat.sub_zero (cntL ops b), ← h5]; exact h3
      · right
        obtain ⟨c, d, hb⟩ := List.append_of_mem hq
        have hR2 : R = (a ++ r :: c) ++ q :: d := by rw [h1, hb]; simp
        refine ⟨q.i, G.ids q (memR hR2), ⟨G.ids q (memR hR2), hp⟩, fun l hl hl2 hlt hpl => ?_, ?_, ?_⟩
        · obtain ⟨e2, p, f, h6, rfl, _, n2, _⟩ := at_ l hl
          rw [n2] at hlt
          have hpb : p ∈ b := by
            rcases two_at G.dif h1 h6 with ⟨rfl, _⟩ | ⟨e, he⟩ | ⟨e, he⟩
            · rw [n1] at n2; omega
            · rw [he]; simp
            · have := cnt_lt (ops := ops) (a := e) (b := b) (chB_is.2 hk)
              rw [← he] at this; omega
          have h7 := hpl.2
          rw [hn p hpb (chB_is.2 hl2)] at h7
          cases h7
        · rw [rec_at G.dif hR2]; exact hc.symm
        · rw [rec_at G.dif hR2]; exact hx
    fresh := fun j hj x hx k hn hf => by
      obtain ⟨a, r, b, h1, rfl, hrec, n1, hok⟩ := at_ j hj
      rw [hrec] at hx ⊢
      obtain ⟨hk0, hfr⟩ := hok.frs x hx
      have hkb : k ≤ cntL ops b := bound h1 hn hf (by rw [hk0]; decide)
      obtain ⟨j', hj'⟩ := KL_at (ops := ops) (H0 := H0) b hkb
      have hKf : Kf ops H0 R k = Kf ops H0 b k := by
        rw [h1, show a ++ r :: b = (a ++ [r]) ++ b by simp]
        exact Kf_append hkb _
      rw [hKf]
      exact hfr _ (List.mem_of_getElem? hj')
    acy := fun i hi hp => by have h7 := hp.2; rw [S.acy i hi] at h7; cases h7
    trn := fun i j k => pre_trans S
    lt := fun i j hj hp => hp.1 }
end Go.Proofs.YteogphbdpjnjoaaGreat
namespace Go.Proofs.YteogphbdpjnjoaaGreat
open Go.RowKit
variable {P : Program} {N : Nat} {X call : Caller} {ops : Array Oper}

theorem good_nil {sl : T AV} {h : T AO} {nx : Nat} : Good ops N sl h nx [] ⟨sl, h, nx, [(ops.size, h)], []⟩ where
  ids := fun r hr => nomatch hr
  dif := .nil
  rng := fun r hr => nomatch hr
  nx := Nat.le_refl _
  apt := .nil
  sl1 := fun r hr => nomatch hr
  sl2 := fun t _ => rfl
  Ks := rfl
  mem := fun id x e => .inl ⟨_, _, _, rfl, e⟩
  pnd := fun r hr => nomatch hr
theorem stp_le {ρ ρ' : Map} {H H' : Heap} {w w' : World} {c c' d : Nat} (h : Stp ρ ρ' H H' w w' c c') (k : c' ≤ d) : Stp ρ ρ' H H' w w' c d :=
  { h with out := fun id hid => h.out id (by omega), nxle := Nat.le_trans h.nxle k }
theorem tells_v (S : Stat ops N) {sl0 : T AV} {H0 : T AO} {nx0 : Nat} {R : List Rec} {sF : PS} (G : Good ops N sl0 H0 nx0 R sF) (hR : RecsOk P X call N ops sl0 H0 R) (hall : ∀ j, j < ops.size → ∃ q ∈ R, q.i = j) {r : Rec} (hr : r ∈ R) :
    (tells S G hR hall).v r.i = r.v ∧ (tells S G hR hall).c r.i = r.c ∧ (tells S G hR hall).blk r.i = r.blk := by
  obtain ⟨a, b, h⟩ := List.append_of_mem hr
  have e := rec_at G.dif h
  exact ⟨by show (recOf R r.i).v = _; rw [e], by show (recOf R r.i).c = _; rw [e], by show (recOf R r.i).blk = _; rw [e]⟩
theorem drawG_ok {chk : Array Oper → Bool} {L : Array Oper → List Nat} (hk : ∀ ops, chk ops = true → statB ops N = true ∧ planB ops 0 (L ops) = true) (hm : P.follows .mixedOrders = true) (hX : ExtOk P X) (hC : CallOk P call) : DrawOk P N (evDrawG chk L P X call N) := by
  intro ops sl h nx sl' h' nx' e
  unfold evDrawG at e
  cases hb : chk ops with
  | false => rw [hb, cond_false] at e; cases e
  | true =>
    rw [hb, cond_true] at e
    obtain ⟨hb1, hb2⟩ := hk ops hb
    have S := stat_is hb1
    split at e
    · rename_i rs2 sF he
      cases e
      obtain ⟨R, G, hR, hall⟩ := plan_good (P := P) (X := X) (call := call) S (L ops) 0 [] rs2 _ sF he hb2 (fun j => by simp) good_nil trivial
      have hnx := G.nx
      refine ⟨hnx, fun F n id ρ a w Q hF hD hR0 hS hf hQ => wpIn_region_draw fun t => ?_⟩
      have hsch := schedule_sched hm (waits_is S) t
      refine drawn_run hF hD hX hC (tells S G hR hall) (ρ0 := ρ) (a0 := a) (w0 := w) ?_ _ (fun _ => False) ρ h.get a _ hsch ?_
      · intro S' ρ1 G1 a1 w1 hall' I
        obtain ⟨k, c1, c2, c3, c4⟩ := I.cnt
        -- all of the third kind are done
        have at_ : ∀ i, i < ops.size → ∃ a r b, R = a ++ r :: b ∧ r.i = i ∧ numL ops R i = cntL ops b := fun i hi => by
          obtain ⟨r, hr, rfl⟩ := hall i hi
          obtain ⟨a, b, h⟩ := List.append_of_mem hr
          exact ⟨a, r, b, h, rfl, num_at G.dif h⟩
        have hk : k = cntL ops R := by
          rcases Nat.lt_trichotomy k (cntL ops R) with hlt | heq | hgt
          · exfalso
            obtain ⟨c, q, d, h1, h2, h3⟩ := cnt_full R k hlt
            have hq : q ∈ R := by rw [h1]; simp
            have h4 := (c1 q.i (G.ids q hq) (chB_is.1 h2)).1 (hall' _ (G.ids q hq))
            have h5 : numL ops R q.i < k := h4
            rw [num_at G.dif h1] at h5; omega
          · exact heq
          · exfalso
            obtain ⟨l, hl, hl2, hln⟩ := c2 (cntL ops R) hgt
            obtain ⟨c, q, d, h1, rfl, h3⟩ := at_ l hl
            have h4 : numL ops R q.i = cntL ops R := hln
            have h5 := cnt_lt (ops := ops) (a := c) (b := d) (chB_is.2 hl2)
            rw [← h1] at h5; omega
        subst hk
        have hle : Heap.le sF.st.get G1 := by
          intro id x e
          rcases G.mem id x e with ⟨j, K, tl, h1, h2⟩ | ⟨r, hr, h1, h2⟩
          · have h3 : (KL ops h R)[0]? = some (j, K) := by rw [← G.Ks, h1]; rfl
            have h4 := (KL_get R 0 j K h3).2.1
            rw [Nat.sub_zero] at h4
            refine c3 id x ?_
            show (Kf ops h R (cntL ops R)).get id = some x
            rw [← h4]; exact h2
          · obtain ⟨h3, h4⟩ := G.pnd r hr
            obtain ⟨_, t2, t3⟩ := tells_v S G hR hall h3
            have := c4 r.i (G.ids r h3) (hall' _ (G.ids r h3)) (fun l hl hl2 _ hp => by
              obtain ⟨q, hq, rfl⟩ := hall l hl
              have h5 := h4 q hq (chB_is.2 hl2)
              rw [hp.2] at h5; cases h5) x (by rw [t3]; exact h2)
            rw [t2, h1] at this
            exact this
        refine hQ ρ1 a1 w1 (I.stp.sub hle) ⟨I.size, fun t v e => ?_⟩ I.defs
        by_cases hex : ∃ r ∈ R, opD ops r.i = some t
        · obtain ⟨r, hr, ht⟩ := hex
          have h1 := G.sl1 r hr t ht
          rw [h1] at e; cases e
          have h2 := I.out r.i (hall' _ (G.ids r hr)) (G.ids r hr) t ht
          rw [(tells_v S G hR hall hr).1] at h2
          exact ⟨(S.dst r.i (G.ids r hr) t ht).1, h2⟩
        · have hno : ∀ r ∈ R, opD ops r.i ≠ some t := fun r hr ht => hex ⟨r, hr, ht⟩
          rw [G.sl2 t hno] at e
          exact I.own t v (fun k hk _ hd => by obtain ⟨q, hq, rfl⟩ := hall k hk; exact hno q hq hd) e
      · have hw : Stp ρ ρ h.get h.get w { w with drawn := w.drawn + 1 } nx nx := Stp.same hR0 rfl rfl rfl rfl
        exact {
          stp := stp_le hw hnx
          size := hS.size
          defs := rfl
          own := fun t v _ e => hS.get t v e
          out := fun i hi => hi.elim
          fr := fun i hi _ => ⟨fun id h1 h2 => by
            obtain ⟨g1, g2, g3⟩ := (tells S G hR hall).rng i hi
            exact hf id (Nat.le_trans g1 h1) (Nat.lt_of_lt_of_le h2 g3), hf.gd⟩
          cnt := ⟨0, fun i _ _ => ⟨fun h => h.elim, fun h => absurd h (Nat.not_lt_zero _)⟩, fun j hj => absurd hj (Nat.not_lt_zero _), fun id x e => by rw [(tells S G hR hall).kst] at e; exact e, fun i _ h => h.elim⟩
          dwn := fun i j h => h.elim }
    · cases e
theorem draw_ok (hm : P.follows .mixedOrders = true) (hX : ExtOk P X) (hC : CallOk P call) : DrawOk P N (evDraw P X call N) :=
  drawG_ok (chk := fun ops => statB ops N && planB ops 0 (planL ops)) (L := planL) (fun ops h => by rw [Bool.and_eq_true] at h; exact h) hm hX hC
/-- The calls of a closed run. -/
noncomputable def evC (P : Program) (X K : Caller) (n : Nat) : Caller := evCall P X K (fun call N => evDraw P X call N) n
theorem evC_ok {K : Caller} (hm : P.follows .mixedOrders = true) (hX : ExtOk P X) (hK : CallOk P K) (n : Nat) : CallOk P (evC P X K n) :=
  evCall_run hX hK _ (fun call N hC => draw_ok hm hX hC) n
def none_ : Map := fun _ => none
/-- What is known of at the beginning. -/
noncomputable def heapF : Option Nat → T AO | none => .nil | some _ => T.put .nil 0 .gl
noncomputable abbrev heap0 : T AO := heapF glob
def nxF : Option Nat → Nat | none => 0 | some _ => 1
abbrev nx0 : Nat := nxF glob
def mapF (C : Nat) : Option Nat → Map | none => none_ | some g => none_.set 0 (g, C)
abbrev map0 (C : Nat) : Map := mapF C glob
/-- Its cell holds the number that C stands for. -/
def GlW (C : Nat) (w : World) : Prop := ∀ g, glob = some g → w.heap[g]? = some (glO C)
theorem none_le (ρ : Map) : none_.le ρ := fun id x e => by cases e
theorem heap0_get {id : Nat} {o : AO} (e : heap0.get id = some o) : ∃ g, glob = some g ∧ id = 0 ∧ o = .gl := by
  revert e
  show (heapF glob).get id = some o → _
  generalize glob = q
  intro e
  cases q with
  | none => exact (nilH_get e).elim
  | some g =>
    refine ⟨g, rfl, ?_⟩
    have e : (T.put .nil 0 AO.gl).get id = some o := e
    rw [T.get_put] at e
    split at e
    · rename_i h; cases e; exact ⟨h, rfl⟩
    · rw [T.get_nil] at e; cases e
theorem map0_get {C g : Nat} (h : glob = some g) : map0 C 0 = some (g, C) := by
  show mapF C glob 0 = _
  rw [h]; simp [mapF, Map.set]
theorem map0_is {C id : Nat} {x : Nat × Nat} (e : map0 C id = some x) : ∃ g, glob = some g ∧ id = 0 ∧ x = (g, C) := by
  revert e
  show mapF C glob id = some x → _
  generalize glob = q
  intro e
  cases q with
  | none => cases e
  | some g =>
    refine ⟨g, rfl, ?_⟩
    have e : (none_.set 0 (g, C)) id = some x := e
    unfold Map.set at e
    split at e
    · rename_i h; cases e; exact ⟨h, rfl⟩
    · cases e
theorem rel0 {C : Nat} {w : World} (hw : GlW C w) : Rel (map0 C) heap0.get w :=
  ⟨fun id o e => by
    obtain ⟨g, hg, rfl, rfl⟩ := heap0_get e
    exact ⟨g, C, _, map0_get hg, hw g hg, rfl⟩,
   fun i j o o' b C D e1 e2 _ _ => by
    obtain ⟨_, _, rfl, _⟩ := heap0_get e1
    obtain ⟨_, _, rfl, _⟩ := heap0_get e2
    rfl⟩
theorem fr0 (C n : Nat) : Fr (map0 C) nx0 n :=
  ⟨fun id h _ => by
    cases e : map0 C id with
    | none => rfl
    | some x =>
      obtain ⟨g, hg, rfl, _⟩ := map0_is e
      have : nxF glob ≤ 0 := h
      rw [hg] at this
      exact absurd this (by simp [nxF]),
   fun g hg => ⟨C, map0_get hg⟩⟩
/-- Is the variable known of? -/
noncomputable def isGF (q : Option Nat) (h : T AO) : Bool := match q with
  | none => true
  | some _ => match h.get 0 with | some .gl => true | _ => false
noncomputable abbrev isG0 (h : T AO) : Bool := isGF glob h
theorem isG0_is {h : T AO} (e : isG0 h = true) {g : Nat} (hg : glob = some g) : h.get 0 = some .gl := by
  have e : isGF glob h = true := e
  rw [hg] at e
  unfold isGF at e
  split at e
  · rename_i k; cases k
  · split at e
    · assumption
    · cases e
theorem GlW.of {ρ : Map} {h : T AO} {w : World} (hR : Rel ρ h.get w) (hG : Gd ρ) (e : isG0 h = true) : ∃ C, GlW C w := by
  cases hq : glob with
  | none => exact ⟨0, fun g hg => by rw [hq] at hg; cases hg⟩
  | some g0 =>
    obtain ⟨C, h0⟩ := hG g0 hq
    refine ⟨C, fun g hg => ?_⟩
    rw [hq] at hg; cases hg
    obtain ⟨b, C', ob, h1, h2, rfl⟩ := hR.has 0 _ (isG0_is e hq)
    rw [h0] at h1; cases h1
    exact h2
/-- A run out of the first memory leaves all that was there. -/
theorem stays {C : Nat} {ρ' : Map} {h' : T AO} {w w' : World} {n n' : Nat} (hw : GlW C w) (s : Stp (map0 C) ρ' heap0.get h'.get w w' n n') (e' : isG0 h' = true) {b : Nat} (hb : b < w.heap.size) : w'.heap[b]? = w.heap[b]? := by
  by_cases hq : ∃ g, glob = some g ∧ b = g
  · obtain ⟨g, hg, rfl⟩ := hq
    obtain ⟨b', C', ob', k1, k2, rfl⟩ := s.rel.has 0 _ (isG0_is e' hg)
    rw [s.le _ _ (map0_get hg)] at k1; cases k1
    rw [k2, hw _ hg]
  · refine s.keep b hb fun id o D e1 e2 => ?_
    obtain ⟨g, hg, _, hx⟩ := map0_is e2
    cases hx
    exact hq ⟨_, hg, rfl⟩
/-- A call of a function without parameters whose answer is a bool: known. -/
noncomputable def knownB (f : FuncId) (b : Bool) : Caller := fun t l h nx => match t, l with
  | .fn g, .nil => bif Nat.beq g f && isG0 h then .ok (.b b) h nx else .bad
  | _, _ => .bad
def isT : R → Bool | .ok (.b true) _ _ => true | _ => false
theorem isT_is {r : R} (h : isT r = true) : ∃ h' nx', r = .ok (.b true) h' nx' := by
  unfold isT at h
  split at h
  · exact ⟨_, _, rfl⟩
  · cases h
end Go.Proofs.YteogphbdpjnjoaaGreat
