/- Values of a closed run, what they stand for; memory of a closed run; steps from one memory to another. No Go program in this text. -/
import Derived.Test.YtmhnnfponloihaaDoorEvA
set_option linter.unusedSimpArgs false
set_option linter.unusedVariables false
namespace Go.Proofs.YtmhnnfponloihaaDoor
open Go.RowKit

mutual
/-- A value. p: a pointer into block id; sl: a slice whose capacity is known; su: one whose is not; gs: a slice that was appended to (its block's capacity is its own). -/
inductive AV where
  | b (x : Bool) | i (k : IntKind) (n : Int) | s (n d : Nat)
  | p (id off : Nat) | np
  | sl (id off len cap : Nat) | su (id off len : Nat) | gs (id len : Nat) | ns
  | fn (f : FuncId) (caps : AVs) | nf | yl (id : Nat)
  | r (u : Bool) (m n : Nat)
  | ifc (t : TypeId) (v : AV) | ni
  | mp (id : Nat) | nm
  | agg (l : AVs) | tup (l : AVs)
inductive AVs where | nil | cons (a : AV) (l : AVs)
end
/-- Where the blocks lie: a block's number, and the capacity that it has as a slice. -/
abbrev Map := Nat → Option (Nat × Nat)
mutual
def VRel (ρ : Map) : AV → Value → Prop
  | .b x, v => v = .bool x
  | .i k n, v => v = .int k n
  | .s n d, v => ∃ s, v = .string s ∧ SR n d s
  | .p id off, v => ∃ b C, ρ id = some (b, C) ∧ v = .pointer (some ⟨b, off, none⟩)
  | .np, v => v = .pointer none
  | .sl id off len cap, v => ∃ b C, ρ id = some (b, C) ∧ v = .slice (some ⟨b, off, none⟩) len cap
  | .su id off len, v => ∃ b C o c, ρ id = some (b, C) ∧ v = .slice (some ⟨b, o, none⟩) len c ∧ len ≤ c ∧ (0 < len → o = off)
  | .gs id len, v => ∃ b C, ρ id = some (b, C) ∧ v = .slice (some ⟨b, 0, none⟩) len C ∧ len ≤ C
  | .ns, v => v = .slice none 0 0
  | .fn f caps, v => ∃ c, v = .func (.func f) #[] c ∧ VsRel ρ caps c.toList
  | .nf, v => v = .nilFunc
  | .r u m n, v => ∃ z : Int, v = .int (if u then .u64 else .i64) z ∧ (u = true → 0 ≤ z ∧ z < 18446744073709551616) ∧ (z % 18446744073709551616) % (m : Int) = n
  | .yl id, v => ∃ b C, ρ id = some (b, C) ∧ v = .func (.yield b) #[] #[]
  | .ifc t x, v => ∃ y, v = .iface t y ∧ VRel ρ x y
  | .ni, v => v = .nilIface
  | .mp id, v => ∃ b C, ρ id = some (b, C) ∧ v = .map (some b)
  | .nm, v => v = .map none
  | .agg l, v => ∃ c, v = .agg c ∧ VsRel ρ l c.toList
  | .tup l, v => ∃ c, v = .tuple c ∧ VsRel ρ l c.toList
def VsRel (ρ : Map) : AVs → List Value → Prop
  | .nil, m => m = []
  | .cons a l, m => ∃ v r, m = v :: r ∧ VRel ρ a v ∧ VsRel ρ l r
end
def Map.le (ρ ρ' : Map) : Prop := ∀ id x, ρ id = some x → ρ' id = some x
mutual
theorem VRel.mono {ρ ρ' : Map} (h : ρ.le ρ') : ∀ (a : AV) (v : Value), VRel ρ a v → VRel ρ' a v
  | .b _, _, k => k
  | .i _ _, _, k => k
  | .s _ _, _, k => k
  | .p _ _, _, ⟨b, C, e, r⟩ => ⟨b, C, h _ _ e, r⟩
  | .np, _, k => k
  | .sl _ _ _ _, _, ⟨b, C, e, r⟩ => ⟨b, C, h _ _ e, r⟩
  | .su _ _ _, _, ⟨b, C, o, c, e, r⟩ => ⟨b, C, o, c, h _ _ e, r⟩
  | .gs _ _, _, ⟨b, C, e, r⟩ => ⟨b, C, h _ _ e, r⟩
  | .ns, _, k => k
  | .fn _ l, _, ⟨c, e, r⟩ => ⟨c, e, VsRel.mono h l _ r⟩
  | .nf, _, k => k
  | .yl _, _, ⟨b, C, e, r⟩ => ⟨b, C, h _ _ e, r⟩
  | .r _ _ _, _, k => k
  | .ifc _ x, _, ⟨y, e, r⟩ => ⟨y, e, VRel.mono h x _ r⟩
  | .ni, _, k => k
  | .mp _, _, ⟨b, C, e, r⟩ => ⟨b, C, h _ _ e, r⟩
  | .nm, _, k => k
  | .agg l, _, ⟨c, e, r⟩ => ⟨c, e, VsRel.mono h l _ r⟩
  | .tup l, _, ⟨c, e, r⟩ => ⟨c, e, VsRel.mono h l _ r⟩
theorem VsRel.mono {ρ ρ' : Map} (h : ρ.le ρ') : ∀ (a : AVs) (v : List Value), VsRel ρ a v → VsRel ρ' a v
  | .nil, _, k => k
  | .cons a l, _, ⟨v, r, e, k, m⟩ => ⟨v, r, e, VRel.mono h a _ k, VsRel.mono h l _ m⟩
end
/-- A block. grow: one that append made: its first n cells are known, a part has z cells. iter: the place within a text. -/
inductive AO where
  | cells (t : T AV) (n : Nat) (e : TypeId)
  | grow (t : T AV) (n z : Nat) (e : TypeId)
  | iter (n d pos : Nat)
  | ro (t : T AV)
  | lp (ps : Array Tmp) (asg bd : Code) (sl : T AV) (N : Nat) (pend : Option (Option Nat))
  | mps (l : List (AV × AV))
/-- What a map holds. -/
def MRel (ρ : Map) : List (AV × AV) → List MapEntry → Prop
  | [], m => m = []
  | x :: l, m => ∃ e r, m = e :: r ∧ VRel ρ x.1 e.key ∧ VRel ρ x.2 e.val ∧ MRel ρ l r
theorem MRel.mono {ρ ρ' : Map} (h : ρ.le ρ') : ∀ (l : List (AV × AV)) (m : List MapEntry), MRel ρ l m → MRel ρ' l m
  | [], _, k => k
  | x :: l, _, ⟨e, r, k1, k2, k3, k4⟩ => ⟨e, r, k1, VRel.mono h _ _ k2, VRel.mono h _ _ k3, MRel.mono h l r k4⟩
def CRel (ρ : Map) (t : T AV) (c : Array Value) : Prop := ∀ k v, t.get k = some v → ∃ u, c[k]? = some u ∧ VRel ρ v u
/-- The jump that a round has left. -/
def jmp : Option Nat → Code
  | none => .ret
  | some id => .exit id
def ORel (ρ : Map) (C : Nat) : AO → Obj → Prop
  | .cells t n e, o => ∃ c, o = .cells c e (0, 0) ∧ c.size = n ∧ CRel ρ t c
  | .grow t n z e, o => ∃ c, o = .cells c e (0, 0) ∧ 0 < z ∧ c.size = C * z ∧ n ≤ C * z ∧ (∀ k, (t.get k).isSome = true ↔ k < n) ∧ CRel ρ t c
  | .iter n d pos, o => ∃ s, o = .stringIter s pos ∧ SR n d s
  | .ro t, o => ∃ c e f, o = .cells c e f ∧ CRel ρ t c
  | .lp ps asg bd sl N pend, o => ∃ r, o = .loop r ∧ r.params = ps ∧ r.assign = asg ∧ r.body = bd ∧ r.state = (if pend.isNone then .ready else .done) ∧ r.pending = pend.map jmp ∧ r.tmps.size = N ∧
      ∀ t v, sl.get t = some v → t < N ∧ VRel ρ v (r.tmps.getD t undef)
  | .mps l, o => ∃ es clock, o = .map es clock ∧ MRel ρ l es.toList
theorem CRel.mono {ρ ρ' : Map} (h : ρ.le ρ') {t : T AV} {c : Array Value} (k : CRel ρ t c) : CRel ρ' t c := fun i v e => let ⟨u, x, y⟩ := k i v e; ⟨u, x, VRel.mono h _ _ y⟩
theorem ORel.mono {ρ ρ' : Map} (h : ρ.le ρ') {C : Nat} : ∀ {a : AO} {o : Obj}, ORel ρ C a o → ORel ρ' C a o
  | .cells _ _ _, _, ⟨c, x, z, y⟩ => ⟨c, x, z, y.mono h⟩
  | .grow _ _ _ _, _, ⟨c, x, y, z, u, s, t⟩ => ⟨c, x, y, z, u, s, t.mono h⟩
  | .iter _ _ _, _, k => k
  | .ro _, _, ⟨c, e, f, x, y⟩ => ⟨c, e, f, x, y.mono h⟩
  | .lp _ _ _ _ _ _, _, ⟨r, h1, h2, h3, h4, h5, h6, h7, h8⟩ => ⟨r, h1, h2, h3, h4, h5, h6, h7, fun t v e => ⟨(h8 t v e).1, VRel.mono h _ _ (h8 t v e).2⟩⟩
  | .mps l, _, ⟨es, c, e, k⟩ => ⟨es, c, e, MRel.mono h l _ k⟩
abbrev Heap := Nat → Option AO
structure Rel (ρ : Map) (H : Heap) (w : World) : Prop where
  has : ∀ id o, H id = some o → ∃ b C ob, ρ id = some (b, C) ∧ w.heap[b]? = some ob ∧ ORel ρ C o ob
  inj : ∀ i j o o' b C D, H i = some o → H j = some o' → ρ i = some (b, C) → ρ j = some (b, D) → i = j
/-- From a memory to one behind it: what the call does not know of stays. -/
structure Stp (ρ ρ' : Map) (H H' : Heap) (w w' : World) (nx nx' : Nat) : Prop where
  rel : Rel ρ' H' w'
  le : ρ.le ρ'
  out : ∀ id, ¬ (nx ≤ id ∧ id < nx') → ρ' id = ρ id
  nxle : nx ≤ nx'
  os : w'.os = w.os
  tape : w'.tape = w.tape
  output : w'.output = w.output
  size : w.heap.size ≤ w'.heap.size
  keep : ∀ b, b < w.heap.size → (∀ id o C, H id = some o → ρ id ≠ some (b, C)) → w'.heap[b]? = w.heap[b]?
  new : ∀ id o b C, H' id = some o → ρ' id = some (b, C) → w.heap.size ≤ b ∨ ∃ j o' D, H j = some o' ∧ ρ j = some (b, D)
def Fr (ρ : Map) (nx nx' : Nat) : Prop := ∀ id, nx ≤ id → id < nx' → ρ id = none
theorem Map.le.refl (ρ : Map) : ρ.le ρ := fun _ _ h => h
theorem Map.le.trans {a b c : Map} (h : a.le b) (k : b.le c) : a.le c := fun _ _ e => k _ _ (h _ _ e)
theorem Stp.refl {ρ : Map} {H : Heap} {w : World} {nx : Nat} (h : Rel ρ H w) : Stp ρ ρ H H w w nx nx :=
  ⟨h, .refl _, fun _ _ => rfl, Nat.le_refl _, rfl, rfl, rfl, Nat.le_refl _, fun _ _ _ => rfl, fun id o b C h1 h2 => .inr ⟨id, o, C, h1, h2⟩⟩
theorem Stp.trans {ρ ρ1 ρ2 : Map} {H H1 H2 : Heap} {w w1 w2 : World} {n n1 n2 : Nat} (h : Stp ρ ρ1 H H1 w w1 n n1) (k : Stp ρ1 ρ2 H1 H2 w1 w2 n1 n2) : Stp ρ ρ2 H H2 w w2 n n2 where
  rel := k.rel
  le := h.le.trans k.le
  out := fun id hid => by
    have h1 := h.nxle; have h2 := k.nxle
    rw [k.out id (by omega), h.out id (by omega)]
  nxle := Nat.le_trans h.nxle k.nxle
  os := k.os.trans h.os
  tape := k.tape.trans h.tape
  output := k.output.trans h.output
  size := Nat.le_trans h.size k.size
  keep := fun b hb hn => by
    rw [k.keep b (Nat.lt_of_lt_of_le hb h.size) ?_, h.keep b hb hn]
    intro id o C e1 e2
    rcases h.new id o b C e1 e2 with h1 | ⟨j, o', D, h1, h2⟩
    · omega
    · exact hn j o' D h1 h2
  new := fun id o b C e1 e2 => by
    rcases k.new id o b C e1 e2 with h1 | ⟨j, o', D, h1, h2⟩
    · exact .inl (Nat.le_trans h.size h1)
    · exact h.new j o' b D h1 h2
theorem Fr.left {ρ : Map} {n n1 n2 : Nat} (h : Fr ρ n n2) (k : n1 ≤ n2) : Fr ρ n n1 := fun id a b => h id a (Nat.lt_of_lt_of_le b k)
theorem Stp.fr {ρ ρ1 : Map} {H H1 : Heap} {w w1 : World} {n n1 n2 : Nat} (h : Stp ρ ρ1 H H1 w w1 n n1) (k : Fr ρ n n2) : Fr ρ1 n1 n2 := fun id a b => by
  rw [h.out id (by omega)]; exact k id (Nat.le_trans h.nxle a) b
/-- A new block. -/
def Map.set (ρ : Map) (id : Nat) (x : Nat × Nat) : Map := fun j => if j = id then some x else ρ j
theorem Map.set_le {ρ : Map} {id : Nat} {x : Nat × Nat} (h : ρ id = none) : ρ.le (ρ.set id x) := fun j y e => by
  unfold Map.set
  split
  · rename_i he; subst he; rw [h] at e; cases e
  · exact e
theorem Stp.new_ {ρ : Map} {h : T AO} {w : World} {nx : Nat} (hR : Rel ρ h.get w) (hf : ρ nx = none) (o : Obj) (ao : AO) (C : Nat) (ho : ORel (ρ.set nx (w.heap.size, C)) C ao o) (w' : World)
    (hos : w'.os = w.os) (ht : w'.tape = w.tape) (hout : w'.output = w.output) (hh : w'.heap = w.heap.push o) :
    Stp ρ (ρ.set nx (w.heap.size, C)) h.get (h.put nx ao).get w w' nx (nx + 1) := by
  have hlt : ∀ id o b C, h.get id = some o → ρ id = some (b, C) → b < w.heap.size := fun id o b C e1 e2 => by
    obtain ⟨b', C', ob, h1, h2, _⟩ := hR.has id o e1
    rw [h1] at e2; cases e2
    exact (Array.getElem?_eq_some_iff.1 h2).1
  have hnx : h.get nx = none := by
    cases e : h.get nx with
    | none => rfl
    | some o => obtain ⟨b', C', ob, h1, h2, _⟩ := hR.has nx o e; rw [hf] at h1; cases h1
  have hle := Map.set_le (x := (w.heap.size, C)) hf
  refine ⟨⟨?_, ?_⟩, hle, ?_, Nat.le_succ _, hos, ht, hout, by rw [hh]; simp, ?_, ?_⟩
  · intro id o' e
    rw [T.get_put] at e
    by_cases hid : id = nx
    · subst hid
      rw [if_pos rfl] at e; cases e
      exact ⟨w.heap.size, C, o, by simp [Map.set], by rw [hh]; simp, ho⟩
    · rw [if_neg hid] at e
      obtain ⟨b, C', ob, h1, h2, h3⟩ := hR.has id o' e
      refine ⟨b, C', ob, hle _ _ h1, ?_, h3.mono hle⟩
      have := hlt id o' b C' e h1
      rw [hh, Array.getElem?_push, if_neg (by omega)]; exact h2
  · intro i j o1 o2 b C1 D e1 e2 k1 k2
    rw [T.get_put] at e1 e2
    unfold Map.set at k1 k2
    by_cases hi : i = nx <;> by_cases hj : j = nx
    · exact hi.trans hj.symm
    · rw [if_pos hi] at k1; rw [if_neg hj] at e2 k2
      cases k1
      have := hlt j o2 _ _ e2 k2; omega
    · rw [if_neg hi] at e1 k1; rw [if_pos hj] at k2
      cases k2
      have := hlt i o1 _ _ e1 k1; omega
    · rw [if_neg hi] at e1 k1; rw [if_neg hj] at e2 k2
      exact hR.inj i j o1 o2 b C1 D e1 e2 k1 k2
  · intro id hid
    unfold Map.set
    rw [if_neg (by omega)]
  · intro b hb _
    rw [hh, Array.getElem?_push, if_neg (by omega)]
  · intro id o1 b C1 e1 k1
    rw [T.get_put] at e1
    unfold Map.set at k1
    by_cases hid : id = nx
    · rw [if_pos hid] at k1; cases k1
      exact .inl (Nat.le_refl _)
    · rw [if_neg hid] at e1 k1
      exact .inr ⟨id, o1, C1, e1, k1⟩
/-- A block is turned. -/
theorem Stp.upd {ρ : Map} {h : T AO} {w : World} {nx : Nat} (hR : Rel ρ h.get w) {id : Nat} {a0 a1 : AO} {b C : Nat} {o : Obj} (hid : h.get id = some a0) (hr : ρ id = some (b, C)) (ho : ORel ρ C a1 o) (w' : World)
    (hos : w'.os = w.os) (ht : w'.tape = w.tape) (hout : w'.output = w.output) (hs : w'.heap.size = w.heap.size) (hb : w'.heap[b]? = some o) (hk : ∀ k, k ≠ b → w'.heap[k]? = w.heap[k]?) :
    Stp ρ ρ h.get (h.put id a1).get w w' nx nx := by
  refine ⟨⟨?_, ?_⟩, .refl _, fun _ _ => rfl, Nat.le_refl _, hos, ht, hout, by omega, ?_, ?_⟩
  · intro j o' e
    rw [T.get_put] at e
    by_cases hj : j = id
    · subst hj
      rw [if_pos rfl] at e; cases e
      exact ⟨b, C, o, hr, hb, ho⟩
    · rw [if_neg hj] at e
      obtain ⟨b', C', ob, h1, h2, h3⟩ := hR.has j o' e
      refine ⟨b', C', ob, h1, ?_, h3⟩
      rw [hk b' ?_]; exact h2
      intro hbb; subst hbb
      exact hj (hR.inj j id o' a0 b' C' C e hid h1 hr)
  · intro i j o1 o2 b1 C1 D e1 e2 k1 k2
    rw [T.get_put] at e1 e2
    by_cases hi : i = id <;> by_cases hj : j = id
    · exact hi.trans hj.symm
    · rw [if_neg hj] at e2; subst hi
      exact hR.inj i j a0 o2 b1 C1 D hid e2 k1 k2
    · rw [if_neg hi] at e1; subst hj
      exact hR.inj i j o1 a0 b1 C1 D e1 hid k1 k2
    · rw [if_neg hi] at e1; rw [if_neg hj] at e2
      exact hR.inj i j o1 o2 b1 C1 D e1 e2 k1 k2
  · intro k hkl hn
    exact hk k fun e => hn id a0 C hid (e ▸ hr)
  · intro j o1 b1 C1 e1 k1
    rw [T.get_put] at e1
    by_cases hj : j = id
    · subst hj
      exact .inr ⟨j, a0, C1, hid, k1⟩
    · rw [if_neg hj] at e1
      exact .inr ⟨j, o1, C1, e1, k1⟩
/-- A world that differs in nothing that memory knows. -/
theorem Stp.same {ρ : Map} {H : Heap} {w w' : World} {nx : Nat} (h : Rel ρ H w) (hos : w'.os = w.os) (ht : w'.tape = w.tape) (hout : w'.output = w.output) (hh : w'.heap = w.heap) : Stp ρ ρ H H w w' nx nx :=
  ⟨⟨fun id o e => by rw [hh]; exact h.has id o e, h.inj⟩, .refl _, fun _ _ => rfl, Nat.le_refl _, hos, ht, hout, by rw [hh]; exact Nat.le_refl _, fun _ _ _ => by rw [hh], fun id o b C h1 h2 => .inr ⟨id, o, C, h1, h2⟩⟩
/-- A block is forgotten. -/
theorem Stp.del {ρ : Map} {h : T AO} {w : World} {nx : Nat} (hR : Rel ρ h.get w) {id : Nat} {a0 : AO} {b C : Nat} (hid : h.get id = some a0) (hr : ρ id = some (b, C)) (w' : World)
    (hos : w'.os = w.os) (ht : w'.tape = w.tape) (hout : w'.output = w.output) (hs : w'.heap.size = w.heap.size) (hk : ∀ k, k ≠ b → w'.heap[k]? = w.heap[k]?) :
    Stp ρ ρ h.get (h.del id).get w w' nx nx := by
  refine ⟨⟨?_, ?_⟩, .refl _, fun _ _ => rfl, Nat.le_refl _, hos, ht, hout, by omega, ?_, ?_⟩
  · intro j o' e
    rw [T.get_del] at e
    by_cases hj : j = id
    · rw [if_pos hj] at e; cases e
    · rw [if_neg hj] at e
      obtain ⟨b', C', ob, h1, h2, h3⟩ := hR.has j o' e
      refine ⟨b', C', ob, h1, ?_, h3⟩
      rw [hk b' ?_]; exact h2
      intro hbb; subst hbb
      exact hj (hR.inj j id o' a0 b' C' C e hid h1 hr)
  · intro i j o1 o2 b1 C1 D e1 e2 k1 k2
    rw [T.get_del] at e1 e2
    split at e1 <;> split at e2 <;> try cases e1
    · cases e2
    · exact hR.inj i j o1 o2 b1 C1 D e1 e2 k1 k2
  · intro k hkl hn
    exact hk k fun e => hn id a0 C hid (e ▸ hr)
  · intro j o1 b1 C1 e1 k1
    rw [T.get_del] at e1
    split at e1
    · cases e1
    · exact .inr ⟨j, o1, C1, e1, k1⟩
/-- What the memory does not reach stays so. -/
theorem Stp.away {ρ ρ' : Map} {H H' : Heap} {w w' : World} {n n' b : Nat} (h : Stp ρ ρ' H H' w w' n n') (hb : b < w.heap.size) (hn : ∀ id o C, H id = some o → ρ id ≠ some (b, C)) : ∀ id o C, H' id = some o → ρ' id ≠ some (b, C) := fun id o C e1 e2 => by
  rcases h.new id o b C e1 e2 with h1 | ⟨j, o', D, h1, h2⟩
  · omega
  · exact hn j o' D h1 h2
/-- A block that was known, and is not now, is changed. -/
theorem Stp.poke {ρ ρ' : Map} {H H' : Heap} {w w' w2 : World} {n n' b : Nat} (h : Stp ρ ρ' H H' w w' n n') (hb : w.heap.size ≤ b ∨ ∃ id o C, H id = some o ∧ ρ id = some (b, C)) (hn : ∀ id o C, H' id = some o → ρ' id ≠ some (b, C))
    (hos : w2.os = w'.os) (ht : w2.tape = w'.tape) (hout : w2.output = w'.output) (hs : w2.heap.size = w'.heap.size) (hk : ∀ k, k ≠ b → w2.heap[k]? = w'.heap[k]?) : Stp ρ ρ' H H' w w2 n n' where
  rel := ⟨fun id o e => by
    obtain ⟨b', C', ob, h1, h2, h3⟩ := h.rel.has id o e
    exact ⟨b', C', ob, h1, by rw [hk b' (fun e' => hn id o C' e (e' ▸ h1))]; exact h2, h3⟩, h.rel.inj⟩
  le := h.le
  out := h.out
  nxle := h.nxle
  os := hos.trans h.os
  tape := ht.trans h.tape
  output := hout.trans h.output
  size := by rw [hs]; exact h.size
  keep := fun k hkl hkn => by
    rcases hb with hb | ⟨id, o, C, e1, e2⟩
    · rw [hk k (by omega)]; exact h.keep k hkl hkn
    · rw [hk k (fun e => hkn id o C e1 (e ▸ e2))]; exact h.keep k hkl hkn
  new := h.new
/-- A block that was known is known again. -/
theorem Stp.back {ρ ρ' : Map} {H : Heap} {h2 : T AO} {w w' w2 : World} {n n' b C id : Nat} {a0 a1 : AO} {o : Obj} (h : Stp ρ ρ' H h2.get w w' n n') (h0 : H id = some a0) (hr : ρ id = some (b, C)) (hn : ∀ id o C, h2.get id = some o → ρ' id ≠ some (b, C))
    (ho : ORel ρ' C a1 o) (hos : w2.os = w'.os) (ht : w2.tape = w'.tape) (hout : w2.output = w'.output) (hs : w2.heap.size = w'.heap.size) (hb : w2.heap[b]? = some o) (hk : ∀ k, k ≠ b → w2.heap[k]? = w'.heap[k]?) : Stp ρ ρ' H (h2.put id a1).get w w2 n n' where
  rel := ⟨fun j o' e => by
    rw [T.get_put] at e
    split at e
    · rename_i hj; subst hj; cases e; exact ⟨b, C, o, h.le _ _ hr, hb, ho⟩
    · obtain ⟨b', C', ob, h1, h2', h3⟩ := h.rel.has j o' e
      exact ⟨b', C', ob, h1, by rw [hk b' (fun e' => hn j o' C' e (e' ▸ h1))]; exact h2', h3⟩, fun i j o1 o2 b1 C1 D e1 e2 k1 k2 => by
    rw [T.get_put] at e1 e2
    split at e1 <;> split at e2
    · rename_i x y; rw [x, y]
    · rename_i x y; subst x
      rw [h.le _ _ hr] at k1; cases k1
      exact absurd k2 (hn j o2 D e2)
    · rename_i x y; subst y
      rw [h.le _ _ hr] at k2; cases k2
      exact absurd k1 (hn i o1 C1 e1)
    · exact h.rel.inj i j o1 o2 b1 C1 D e1 e2 k1 k2⟩
  le := h.le
  out := h.out
  nxle := h.nxle
  os := hos.trans h.os
  tape := ht.trans h.tape
  output := hout.trans h.output
  size := by rw [hs]; exact h.size
  keep := fun k hkl hkn => by
    rw [hk k (fun e => hkn id a0 C h0 (e ▸ hr))]; exact h.keep k hkl hkn
  new := fun j o' b' C' e1 e2 => by
    rw [T.get_put] at e1
    split at e1
    · rename_i hj; subst hj
      rw [h.le _ _ hr] at e2; cases e2
      exact .inr ⟨j, a0, C, h0, hr⟩
    · exact h.new j o' b' C' e1 e2
/-- A block that nobody knows of is laid. -/
theorem Stp.push {ρ : Map} {H : Heap} {w w' : World} {n : Nat} (hR : Rel ρ H w) (o : Obj) (hos : w'.os = w.os) (ht : w'.tape = w.tape) (hout : w'.output = w.output) (hh : w'.heap = w.heap.push o) : Stp ρ ρ H H w w' n n := by
  have hk : ∀ b, b < w.heap.size → w'.heap[b]? = w.heap[b]? := fun b hb => by
    rw [hh, Array.getElem?_push, if_neg (by omega)]
  refine ⟨⟨fun id x e => ?_, hR.inj⟩, .refl _, fun _ _ => rfl, Nat.le_refl _, hos, ht, hout, by rw [hh]; simp, fun b hb _ => hk b hb, fun id x b C e1 e2 => .inr ⟨id, x, C, e1, e2⟩⟩
  obtain ⟨b, C, ob, h1, h2, h3⟩ := hR.has id x e
  exact ⟨b, C, ob, h1, by rw [hk b (Array.getElem?_eq_some_iff.1 h2).1]; exact h2, h3⟩
theorem Stp.below {ρ ρ' : Map} {H H' : Heap} {w w' : World} {nx nx' B : Nat} (h : Stp ρ ρ' H H' w w' nx nx') (hB : B ≤ w.heap.size) (hn : ∀ id o b C, H id = some o → ρ id = some (b, C) → B ≤ b) : Below B w w' :=
  ⟨h.os, h.tape, h.output, h.size, fun k hk => h.keep k (by omega) fun id o C e1 e2 => by have := hn id o k C e1 e2; omega⟩
end Go.Proofs.YtmhnnfponloihaaDoor
