/- A row of cells, a heap, a frame as tries; values of a closed run; what it is that they stand for. No Go program in this text. -/
import Derived.WalkKit
import Derived.Below
set_option linter.unusedSimpArgs false
set_option linter.unusedVariables false
namespace Go.Proofs.YtmhnnfponloihaaDoor

/-- A trie. -/
inductive Tr (α : Type) where
  | nil
  | node (v : Option α) (l r : Tr α)
theorem beq_t {n m : Nat} (h : n = m) : Nat.beq n m = true := by subst h; exact Nat.beq_refl n
theorem beq_f {n m : Nat} (h : n ≠ m) : Nat.beq n m = false := by
  cases e : Nat.beq n m with
  | false => rfl
  | true => exact absurd (Nat.eq_of_beq_eq_true e) h
namespace Tr
variable {α β : Type}
noncomputable def get (t : Tr α) : Nat → Option α :=
  Tr.rec (motive := fun _ => Nat → Option α) (fun _ => none)
    (fun v _ _ gl gr n => bif Nat.beq n 0 then v else bif Nat.beq (Nat.land n 1) 1 then gl (Nat.shiftRight n 1) else gr (Nat.pred (Nat.shiftRight n 1))) t
noncomputable def seq (t : Tr α) (k : Tr α → β) : β := Tr.rec (motive := fun _ => β) (k .nil) (fun v l r _ _ => k (.node v l r)) t
theorem seq_eq (t : Tr α) (k : Tr α → β) : t.seq k = k t := by cases t <;> rfl
/-- What stands at the root, left, right. -/
noncomputable def top (t : Tr α) : Option α := Tr.rec (motive := fun _ => Option α) none (fun v _ _ _ _ => v) t
noncomputable def lf (t : Tr α) : Tr α := Tr.rec (motive := fun _ => Tr α) .nil (fun _ l _ _ _ => l) t
noncomputable def rg (t : Tr α) : Tr α := Tr.rec (motive := fun _ => Tr α) .nil (fun _ _ r _ _ => r) t
noncomputable def putF (f : Nat) : Tr α → Nat → Option α → Tr α :=
  Nat.rec (motive := fun _ => Tr α → Nat → Option α → Tr α) (fun t _ _ => t)
    (fun _ p t n x => bif Nat.beq n 0 then .node x t.lf t.rg
      else bif Nat.beq (Nat.land n 1) 1 then (p t.lf (Nat.shiftRight n 1) x).seq fun l => .node t.top l t.rg
      else (p t.rg (Nat.pred (Nat.shiftRight n 1)) x).seq fun r => .node t.top t.lf r) f
noncomputable def putO (t : Tr α) (n : Nat) (x : Option α) : Tr α := putF (Nat.succ n) t n x
theorem get_nil (n : Nat) : (Tr.nil : Tr α).get n = none := rfl
theorem get_node (v : Option α) (l r : Tr α) (n : Nat) : (Tr.node v l r).get n = bif Nat.beq n 0 then v else bif Nat.beq (Nat.land n 1) 1 then l.get (Nat.shiftRight n 1) else r.get (Nat.pred (Nat.shiftRight n 1)) := rfl
theorem get_split (t : Tr α) (n : Nat) : t.get n = bif Nat.beq n 0 then t.top else bif Nat.beq (Nat.land n 1) 1 then t.lf.get (Nat.shiftRight n 1) else t.rg.get (Nat.pred (Nat.shiftRight n 1)) := by
  cases t with
  | nil => simp only [get_nil]; unfold top lf rg; simp only [get_nil]; cases Nat.beq n 0 <;> cases Nat.beq (Nat.land n 1) 1 <;> rfl
  | node v l r => rw [get_node]; rfl
theorem land_one (n : Nat) : Nat.land n 1 = n % 2 := Nat.and_one_is_mod n
theorem shr_one (n : Nat) : Nat.shiftRight n 1 = n / 2 := by show n >>> 1 = _; simp [Nat.shiftRight_eq_div_pow]
theorem get_putF (f : Nat) : ∀ (t : Tr α) (n : Nat) (x : Option α), n < f → ∀ m, (putF f t n x).get m = if m = n then x else t.get m := by
  induction f with
  | zero => intro t n x h; omega
  | succ f ih =>
    intro t n x h m
    have e : putF (f + 1) t n x = (bif Nat.beq n 0 then .node x t.lf t.rg
      else bif Nat.beq (Nat.land n 1) 1 then (putF f t.lf (Nat.shiftRight n 1) x).seq fun l => .node t.top l t.rg
      else (putF f t.rg (Nat.pred (Nat.shiftRight n 1)) x).seq fun r => .node t.top t.lf r) := rfl
    rw [e]; clear e
    rw [get_split t m]
    simp only [seq_eq, land_one, shr_one]
    by_cases h0 : n = 0
    · subst h0
      simp only [beq_t (rfl : (0:Nat) = 0), cond_true, get_node]
      by_cases hm : m = 0
      · subst hm; simp
      · simp only [beq_f hm, cond_false, if_neg hm, land_one, shr_one]
    · have e0 : Nat.beq n 0 = false := beq_f h0
      simp only [e0, cond_false]
      by_cases h1 : n % 2 = 1
      · have e1 : Nat.beq (n % 2) 1 = true := beq_t h1
        simp only [e1, cond_true, get_node, land_one, shr_one]
        by_cases hm : m = 0
        · subst hm; simp [Ne.symm h0]
        · have em : Nat.beq m 0 = false := beq_f hm
          simp only [em, cond_false]
          by_cases hm1 : m % 2 = 1
          · have : Nat.beq (m % 2) 1 = true := beq_t hm1
            simp only [this, cond_true]
            rw [ih _ _ _ (by omega)]
            by_cases hh : m = n
            · subst hh; simp
            · have : ¬ m / 2 = n / 2 := by omega
              simp [this, hh]
          · have : Nat.beq (m % 2) 1 = false := beq_f hm1
            simp only [this, cond_false]
            rw [if_neg (by omega)]
      · have e1 : Nat.beq (n % 2) 1 = false := beq_f h1
        simp only [e1, cond_false, get_node, land_one, shr_one]
        by_cases hm : m = 0
        · subst hm; simp [Ne.symm h0]
        · have em : Nat.beq m 0 = false := beq_f hm
          simp only [em, cond_false]
          by_cases hm1 : m % 2 = 1
          · have : Nat.beq (m % 2) 1 = true := beq_t hm1
            simp only [this, cond_true]
            rw [if_neg (by omega)]
          · have : Nat.beq (m % 2) 1 = false := beq_f hm1
            simp only [this, cond_false]
            rw [ih _ _ _ (by simp only [Nat.pred_eq_sub_one]; omega)]
            simp only [Nat.pred_eq_sub_one]
            by_cases hh : m = n
            · subst hh; simp
            · have : ¬ m / 2 - 1 = n / 2 - 1 := by omega
              simp [this, hh]
theorem get_putO (t : Tr α) (n : Nat) (x : Option α) (m : Nat) : (t.putO n x).get m = if m = n then x else t.get m := get_putF _ _ _ _ (Nat.lt_succ_self _) _
end Tr
/-- Something that is found once (the kernel keeps what a closed term came to). -/
inductive Hd (α : Type) where
  | mk (a : α)
noncomputable def Hd.un {α : Type} (b : Hd α) : α := Hd.rec (motive := fun _ => α) (fun a => a) b
noncomputable def Hd.bind {α β : Type} (b : Hd α) (k : α → β) : β := Hd.rec (motive := fun _ => β) k b
theorem Hd.bind_eq {α β : Type} (b : Hd α) (k : α → β) : b.bind k = k b.un := by cases b; rfl
theorem Hd.un_mk {α : Type} (a : α) : (Hd.mk a).un = a := rfl
/-- Eight in a row. -/
structure Q8 (α : Type) where
  mk ::
  f0 : α
  f1 : α
  f2 : α
  f3 : α
  f4 : α
  f5 : α
  f6 : α
  f7 : α
namespace Q8
variable {α β : Type}
noncomputable def sel (k : Nat) : Hd (Q8 α → α) :=
  (Bool.rec (motive := fun _ => Hd (Q8 α → α)) (Bool.rec (motive := fun _ => Hd (Q8 α → α)) (Bool.rec (motive := fun _ => Hd (Q8 α → α)) (.mk fun q => q.f0) (.mk fun q => q.f1) (Nat.beq (Nat.land (Nat.shiftRight k 0) 1) 1)) (Bool.rec (motive := fun _ => Hd (Q8 α → α)) (.mk fun q => q.f2) (.mk fun q => q.f3) (Nat.beq (Nat.land (Nat.shiftRight k 0) 1) 1)) (Nat.beq (Nat.land (Nat.shiftRight k 1) 1) 1)) (Bool.rec (motive := fun _ => Hd (Q8 α → α)) (Bool.rec (motive := fun _ => Hd (Q8 α → α)) (.mk fun q => q.f4) (.mk fun q => q.f5) (Nat.beq (Nat.land (Nat.shiftRight k 0) 1) 1)) (Bool.rec (motive := fun _ => Hd (Q8 α → α)) (.mk fun q => q.f6) (.mk fun q => q.f7) (Nat.beq (Nat.land (Nat.shiftRight k 0) 1) 1)) (Nat.beq (Nat.land (Nat.shiftRight k 1) 1) 1)) (Nat.beq (Nat.land (Nat.shiftRight k 2) 1) 1))
noncomputable def zoom (k : Nat) : Hd (Q8 α → (α → (α → Q8 α) → β) → β) :=
  (Bool.rec (motive := fun _ => Hd (Q8 α → (α → (α → Q8 α) → β) → β)) (Bool.rec (motive := fun _ => Hd (Q8 α → (α → (α → Q8 α) → β) → β)) (Bool.rec (motive := fun _ => Hd (Q8 α → (α → (α → Q8 α) → β) → β)) (.mk fun q z => Q8.rec (motive := fun _ => β) (fun f0 f1 f2 f3 f4 f5 f6 f7 => z f0 fun x => .mk x f1 f2 f3 f4 f5 f6 f7) q) (.mk fun q z => Q8.rec (motive := fun _ => β) (fun f0 f1 f2 f3 f4 f5 f6 f7 => z f1 fun x => .mk f0 x f2 f3 f4 f5 f6 f7) q) (Nat.beq (Nat.land (Nat.shiftRight k 0) 1) 1)) (Bool.rec (motive := fun _ => Hd (Q8 α → (α → (α → Q8 α) → β) → β)) (.mk fun q z => Q8.rec (motive := fun _ => β) (fun f0 f1 f2 f3 f4 f5 f6 f7 => z f2 fun x => .mk f0 f1 x f3 f4 f5 f6 f7) q) (.mk fun q z => Q8.rec (motive := fun _ => β) (fun f0 f1 f2 f3 f4 f5 f6 f7 => z f3 fun x => .mk f0 f1 f2 x f4 f5 f6 f7) q) (Nat.beq (Nat.land (Nat.shiftRight k 0) 1) 1)) (Nat.beq (Nat.land (Nat.shiftRight k 1) 1) 1)) (Bool.rec (motive := fun _ => Hd (Q8 α → (α → (α → Q8 α) → β) → β)) (Bool.rec (motive := fun _ => Hd (Q8 α → (α → (α → Q8 α) → β) → β)) (.mk fun q z => Q8.rec (motive := fun _ => β) (fun f0 f1 f2 f3 f4 f5 f6 f7 => z f4 fun x => .mk f0 f1 f2 f3 x f5 f6 f7) q) (.mk fun q z => Q8.rec (motive := fun _ => β) (fun f0 f1 f2 f3 f4 f5 f6 f7 => z f5 fun x => .mk f0 f1 f2 f3 f4 x f6 f7) q) (Nat.beq (Nat.land (Nat.shiftRight k 0) 1) 1)) (Bool.rec (motive := fun _ => Hd (Q8 α → (α → (α → Q8 α) → β) → β)) (.mk fun q z => Q8.rec (motive := fun _ => β) (fun f0 f1 f2 f3 f4 f5 f6 f7 => z f6 fun x => .mk f0 f1 f2 f3 f4 f5 x f7) q) (.mk fun q z => Q8.rec (motive := fun _ => β) (fun f0 f1 f2 f3 f4 f5 f6 f7 => z f7 fun x => .mk f0 f1 f2 f3 f4 f5 f6 x) q) (Nat.beq (Nat.land (Nat.shiftRight k 0) 1) 1)) (Nat.beq (Nat.land (Nat.shiftRight k 1) 1) 1)) (Nat.beq (Nat.land (Nat.shiftRight k 2) 1) 1))
noncomputable def at_ (q : Q8 α) (k : Nat) : α := (sel k).un q
noncomputable def set (q : Q8 α) (k : Nat) (x : α) : Q8 α := (zoom k).un q fun _ r => r x
theorem eight {k : Nat} (h : k < 8) : k = 0 ∨ k = 1 ∨ k = 2 ∨ k = 3 ∨ k = 4 ∨ k = 5 ∨ k = 6 ∨ k = 7 := by omega
theorem zoom_eq {k : Nat} (h : k < 8) (q : Q8 α) (z : α → (α → Q8 α) → β) : (zoom k).un q z = z (q.at_ k) (q.set k) := by
  rcases eight h with rfl | rfl | rfl | rfl | rfl | rfl | rfl | rfl <;> rfl
theorem at_set {k j : Nat} (h : k < 8) (h' : j < 8) (q : Q8 α) (x : α) : (q.set k x).at_ j = if j = k then x else q.at_ j := by
  rcases eight h with rfl | rfl | rfl | rfl | rfl | rfl | rfl | rfl <;> rcases eight h' with rfl | rfl | rfl | rfl | rfl | rfl | rfl | rfl <;> rfl
def all (x : α) : Q8 α := .mk x x x x x x x x
theorem at_all {k : Nat} (h : k < 8) (x : α) : (all x).at_ k = x := by
  rcases eight h with rfl | rfl | rfl | rfl | rfl | rfl | rfl | rfl <;> rfl
end Q8
/-- A row of cells, a heap, a frame. -/
structure T (α : Type) where
  mk ::
  a : Q8 (Option α)
  b : Q8 (Q8 (Option α))
  c : Q8 (Q8 (Q8 (Option α)))
  d : Q8 (Q8 (Q8 (Q8 (Option α))))
  e : Tr α
namespace T
variable {α β : Type}
def nil : T α := .mk (.all none) (.all (.all none)) (.all (.all (.all none))) (.all (.all (.all (.all none)))) .nil
noncomputable def pute (n : Nat) (x : Option α) (t : T α) : T α := T.rec (motive := fun _ => T α) (fun a b c d e => (e.putO n x).seq fun e => .mk a b c d e) t
theorem pute_eq (n : Nat) (x : Option α) (t : T α) : pute n x t = { t with e := t.e.putO n x } := by
  cases t; exact Tr.seq_eq ..
noncomputable def getB (n : Nat) : Hd (T α → Option α) :=
  Bool.rec (motive := fun _ => Hd (T α → Option α))
    (Bool.rec (motive := fun _ => Hd (T α → Option α))
      (Bool.rec (motive := fun _ => Hd (T α → Option α))
        (Bool.rec (motive := fun _ => Hd (T α → Option α)) (.mk fun t => t.e.get (n - 4680))
          ((Q8.sel (Nat.div (Nat.sub n 584) 512)).bind fun g3 => (Q8.sel (Nat.mod (Nat.div (Nat.sub n 584) 64) 8)).bind fun g2 => (Q8.sel (Nat.mod (Nat.div (Nat.sub n 584) 8) 8)).bind fun g1 => (Q8.sel (Nat.mod (Nat.sub n 584) 8)).bind fun g0 => .mk fun t => g0 (g1 (g2 (g3 t.d)))) (Nat.ble (Nat.succ n) 4680))
        ((Q8.sel (Nat.div (Nat.sub n 72) 64)).bind fun g2 => (Q8.sel (Nat.mod (Nat.div (Nat.sub n 72) 8) 8)).bind fun g1 => (Q8.sel (Nat.mod (Nat.sub n 72) 8)).bind fun g0 => .mk fun t => g0 (g1 (g2 t.c))) (Nat.ble (Nat.succ n) 584))
      ((Q8.sel (Nat.div (Nat.sub n 8) 8)).bind fun g1 => (Q8.sel (Nat.mod (Nat.sub n 8) 8)).bind fun g0 => .mk fun t => g0 (g1 t.b)) (Nat.ble (Nat.succ n) 72))
    ((Q8.sel n).bind fun g0 => .mk fun t => g0 t.a) (Nat.ble (Nat.succ n) 8)
noncomputable def putB (n : Nat) : Hd (T α → Option α → T α) :=
  Bool.rec (motive := fun _ => Hd (T α → Option α → T α))
    (Bool.rec (motive := fun _ => Hd (T α → Option α → T α))
      (Bool.rec (motive := fun _ => Hd (T α → Option α → T α))
        (Bool.rec (motive := fun _ => Hd (T α → Option α → T α)) (.mk fun t x => pute (n - 4680) x t)
          ((Q8.zoom (Nat.div (Nat.sub n 584) 512)).bind fun z3 => (Q8.zoom (Nat.mod (Nat.div (Nat.sub n 584) 64) 8)).bind fun z2 => (Q8.zoom (Nat.mod (Nat.div (Nat.sub n 584) 8) 8)).bind fun z1 => (Q8.zoom (Nat.mod (Nat.sub n 584) 8)).bind fun z0 => .mk fun t x => T.rec (motive := fun _ => T α) (fun a b c d e => z3 d fun q r3 => z2 q fun q r2 => z1 q fun q r1 => z0 q fun _ r0 => .mk a b c (r3 (r2 (r1 (r0 x)))) e) t) (Nat.ble (Nat.succ n) 4680))
        ((Q8.zoom (Nat.div (Nat.sub n 72) 64)).bind fun z2 => (Q8.zoom (Nat.mod (Nat.div (Nat.sub n 72) 8) 8)).bind fun z1 => (Q8.zoom (Nat.mod (Nat.sub n 72) 8)).bind fun z0 => .mk fun t x => T.rec (motive := fun _ => T α) (fun a b c d e => z2 c fun q r2 => z1 q fun q r1 => z0 q fun _ r0 => .mk a b (r2 (r1 (r0 x))) d e) t) (Nat.ble (Nat.succ n) 584))
      ((Q8.zoom (Nat.div (Nat.sub n 8) 8)).bind fun z1 => (Q8.zoom (Nat.mod (Nat.sub n 8) 8)).bind fun z0 => .mk fun t x => T.rec (motive := fun _ => T α) (fun a b c d e => z1 b fun q r1 => z0 q fun _ r0 => .mk a (r1 (r0 x)) c d e) t) (Nat.ble (Nat.succ n) 72))
    ((Q8.zoom n).bind fun z0 => .mk fun t x => T.rec (motive := fun _ => T α) (fun a b c d e => z0 a fun _ r0 => .mk (r0 x) b c d e) t) (Nat.ble (Nat.succ n) 8)
noncomputable def get (t : T α) (n : Nat) : Option α := Nat.rec (motive := fun _ => Option α) ((getB 0).bind fun g => g t) (fun p _ => (getB (Nat.succ p)).bind fun g => g t) n
noncomputable def putO (t : T α) (n : Nat) (x : Option α) : T α := Nat.rec (motive := fun _ => T α) ((putB 0).bind fun g => g t x) (fun p _ => (putB (Nat.succ p)).bind fun g => g t x) n
theorem get_def (t : T α) (n : Nat) : t.get n = (getB n).bind fun g => g t := by cases n <;> rfl
theorem put_def (t : T α) (n : Nat) (x : Option α) : t.putO n x = (putB n).bind fun p => p t x := by cases n <;> rfl
noncomputable def put (t : T α) (n : Nat) (x : α) : T α := t.putO n (some x)
noncomputable def del (t : T α) (n : Nat) : T α := t.putO n none
noncomputable def seq (t : T α) (k : T α → β) : β := T.rec (motive := fun _ => β) (fun a b c d e => k (.mk a b c d e)) t
theorem seq_eq (t : T α) (k : T α → β) : t.seq k = k t := by cases t; rfl
theorem ble_t {n m : Nat} (h : n < m) : Nat.ble (Nat.succ n) m = true := by rw [Nat.ble_eq]; exact h
theorem ble_f {n m : Nat} (h : ¬ n < m) : Nat.ble (Nat.succ n) m = false := by
  cases e : Nat.ble (Nat.succ n) m with
  | false => rfl
  | true => rw [Nat.ble_eq] at e; exact absurd e h
theorem rec_t {β : Type} {x y : β} {b : Bool} (h : b = true) : Bool.rec (motive := fun _ => β) x y b = y := by subst h; rfl
theorem rec_f {β : Type} {x y : β} {b : Bool} (h : b = false) : Bool.rec (motive := fun _ => β) x y b = x := by subst h; rfl
theorem get_a (t : T α) {n : Nat} (h : n < 8) : t.get n = t.a.at_ n := by
  rw [get_def]; unfold getB; rw [rec_t (ble_t h)]; simp only [Hd.bind_eq, Hd.un_mk]; rfl
theorem get_b (t : T α) {n : Nat} (h : ¬ n < 8) (h2 : n < 72) : t.get n = (t.b.at_ ((n - 8) / 8)).at_ ((n - 8) % 8) := by
  rw [get_def]; unfold getB; rw [rec_f (ble_f h), rec_t (ble_t h2)]; simp only [Hd.bind_eq, Hd.un_mk]; rfl
theorem get_c (t : T α) {n : Nat} (h : ¬ n < 8) (h2 : ¬ n < 72) (h3 : n < 584) : t.get n = ((t.c.at_ ((n - 72) / 64)).at_ ((n - 72) / 8 % 8)).at_ ((n - 72) % 8) := by
  rw [get_def]; unfold getB; rw [rec_f (ble_f h), rec_f (ble_f h2), rec_t (ble_t h3)]; simp only [Hd.bind_eq, Hd.un_mk]; rfl
theorem get_d (t : T α) {n : Nat} (h : ¬ n < 8) (h2 : ¬ n < 72) (h3 : ¬ n < 584) (h4 : n < 4680) : t.get n = (((t.d.at_ ((n - 584) / 512)).at_ ((n - 584) / 64 % 8)).at_ ((n - 584) / 8 % 8)).at_ ((n - 584) % 8) := by
  rw [get_def]; unfold getB; rw [rec_f (ble_f h), rec_f (ble_f h2), rec_f (ble_f h3), rec_t (ble_t h4)]; simp only [Hd.bind_eq, Hd.un_mk]; rfl
theorem get_e (t : T α) {n : Nat} (h : ¬ n < 8) (h2 : ¬ n < 72) (h3 : ¬ n < 584) (h4 : ¬ n < 4680) : t.get n = t.e.get (n - 4680) := by
  rw [get_def]; unfold getB; rw [rec_f (ble_f h), rec_f (ble_f h2), rec_f (ble_f h3), rec_f (ble_f h4)]; rfl
theorem put_a (t : T α) {n : Nat} (x : Option α) (h : n < 8) : t.putO n x = { t with a := t.a.set n x } := by
  rw [put_def]; unfold putB; rw [rec_t (ble_t h)]; simp only [Hd.bind_eq, Hd.un_mk]
  cases t; simp only [Q8.zoom_eq h]
theorem put_b (t : T α) {n : Nat} (x : Option α) (h : ¬ n < 8) (h2 : n < 72) : t.putO n x = { t with b := t.b.set ((n - 8) / 8) ((t.b.at_ ((n - 8) / 8)).set ((n - 8) % 8) x) } := by
  rw [put_def]; unfold putB; rw [rec_f (ble_f h), rec_t (ble_t h2)]; simp only [Hd.bind_eq, Hd.un_mk]
  have e1 : Nat.div (Nat.sub n 8) 8 = (n - 8) / 8 := rfl
  have e0 : Nat.mod (Nat.sub n 8) 8 = (n - 8) % 8 := rfl
  cases t; simp only [e1, e0]
  rw [Q8.zoom_eq (by omega), Q8.zoom_eq (by omega)]
theorem put_c (t : T α) {n : Nat} (x : Option α) (h : ¬ n < 8) (h2 : ¬ n < 72) (h3 : n < 584) : t.putO n x = { t with c := t.c.set ((n - 72) / 64) ((t.c.at_ ((n - 72) / 64)).set ((n - 72) / 8 % 8) (((t.c.at_ ((n - 72) / 64)).at_ ((n - 72) / 8 % 8)).set ((n - 72) % 8) x)) } := by
  rw [put_def]; unfold putB; rw [rec_f (ble_f h), rec_f (ble_f h2), rec_t (ble_t h3)]; simp only [Hd.bind_eq, Hd.un_mk]
  have e2 : Nat.div (Nat.sub n 72) 64 = (n - 72) / 64 := rfl
  have e1 : Nat.mod (Nat.div (Nat.sub n 72) 8) 8 = (n - 72) / 8 % 8 := rfl
  have e0 : Nat.mod (Nat.sub n 72) 8 = (n - 72) % 8 := rfl
  cases t; simp only [e2, e1, e0]
  rw [Q8.zoom_eq (by omega), Q8.zoom_eq (by omega), Q8.zoom_eq (by omega)]
theorem put_d (t : T α) {n : Nat} (x : Option α) (h : ¬ n < 8) (h2 : ¬ n < 72) (h3 : ¬ n < 584) (h4 : n < 4680) : t.putO n x = { t with d := t.d.set ((n - 584) / 512) ((t.d.at_ ((n - 584) / 512)).set ((n - 584) / 64 % 8) (((t.d.at_ ((n - 584) / 512)).at_ ((n - 584) / 64 % 8)).set ((n - 584) / 8 % 8) ((((t.d.at_ ((n - 584) / 512)).at_ ((n - 584) / 64 % 8)).at_ ((n - 584) / 8 % 8)).set ((n - 584) % 8) x))) } := by
  rw [put_def]; unfold putB; rw [rec_f (ble_f h), rec_f (ble_f h2), rec_f (ble_f h3), rec_t (ble_t h4)]; simp only [Hd.bind_eq, Hd.un_mk]
  have e3 : Nat.div (Nat.sub n 584) 512 = (n - 584) / 512 := rfl
  have e2 : Nat.mod (Nat.div (Nat.sub n 584) 64) 8 = (n - 584) / 64 % 8 := rfl
  have e1 : Nat.mod (Nat.div (Nat.sub n 584) 8) 8 = (n - 584) / 8 % 8 := rfl
  have e0 : Nat.mod (Nat.sub n 584) 8 = (n - 584) % 8 := rfl
  cases t; simp only [e3, e2, e1, e0]
  rw [Q8.zoom_eq (by omega), Q8.zoom_eq (by omega), Q8.zoom_eq (by omega), Q8.zoom_eq (by omega)]
theorem put_e (t : T α) {n : Nat} (x : Option α) (h : ¬ n < 8) (h2 : ¬ n < 72) (h3 : ¬ n < 584) (h4 : ¬ n < 4680) : t.putO n x = { t with e := t.e.putO (n - 4680) x } := by
  rw [put_def]; unfold putB; rw [rec_f (ble_f h), rec_f (ble_f h2), rec_f (ble_f h3), rec_f (ble_f h4)]
  rw [Hd.bind_eq, Hd.un_mk, pute_eq]
theorem get_putO (t : T α) (n : Nat) (x : Option α) (m : Nat) : (t.putO n x).get m = if m = n then x else t.get m := by
  by_cases h : n < 8
  · rw [put_a t x h]
    by_cases k : m < 8
    · rw [get_a _ k, get_a _ k, Q8.at_set h k]
    · rw [if_neg (by omega)]
      by_cases k2 : m < 72
      · rw [get_b _ k k2, get_b _ k k2]
      · by_cases k3 : m < 584
        · rw [get_c _ k k2 k3, get_c _ k k2 k3]
        · by_cases k4 : m < 4680
          · rw [get_d _ k k2 k3 k4, get_d _ k k2 k3 k4]
          · rw [get_e _ k k2 k3 k4, get_e _ k k2 k3 k4]
  · by_cases h2 : n < 72
    · rw [put_b t x h h2]
      by_cases k : m < 8
      · rw [if_neg (by omega), get_a _ k, get_a _ k]
      · by_cases k2 : m < 72
        · rw [get_b _ k k2, get_b _ k k2, Q8.at_set (by omega) (by omega)]
          by_cases e1 : (m - 8) / 8 = (n - 8) / 8
          · rw [if_pos e1, Q8.at_set (by omega) (by omega), e1]
            by_cases e : m = n
            · rw [if_pos e, if_pos (by omega)]
            · rw [if_neg e, if_neg (by omega)]
          · rw [if_neg e1, if_neg (by omega)]
        · rw [if_neg (by omega)]
          by_cases k3 : m < 584
          · rw [get_c _ k k2 k3, get_c _ k k2 k3]
          · by_cases k4 : m < 4680
            · rw [get_d _ k k2 k3 k4, get_d _ k k2 k3 k4]
            · rw [get_e _ k k2 k3 k4, get_e _ k k2 k3 k4]
    · by_cases h3 : n < 584
      · rw [put_c t x h h2 h3]
        by_cases k : m < 8
        · rw [if_neg (by omega), get_a _ k, get_a _ k]
        · by_cases k2 : m < 72
          · rw [if_neg (by omega), get_b _ k k2, get_b _ k k2]
          · by_cases k3 : m < 584
            · rw [get_c _ k k2 k3, get_c _ k k2 k3, Q8.at_set (by omega) (by omega)]
              by_cases e2 : (m - 72) / 64 = (n - 72) / 64
              · rw [if_pos e2, Q8.at_set (by omega) (by omega), e2]
                by_cases e1 : (m - 72) / 8 % 8 = (n - 72) / 8 % 8
                · rw [if_pos e1, Q8.at_set (by omega) (by omega), e1]
                  by_cases e : m = n
                  · rw [if_pos e, if_pos (by omega)]
                  · rw [if_neg e, if_neg (by omega)]
                · rw [if_neg e1, if_neg (by omega)]
              · rw [if_neg e2, if_neg (by omega)]
            · rw [if_neg (by omega)]
              by_cases k4 : m < 4680
              · rw [get_d _ k k2 k3 k4, get_d _ k k2 k3 k4]
              · rw [get_e _ k k2 k3 k4, get_e _ k k2 k3 k4]
      · by_cases h4 : n < 4680
        · rw [put_d t x h h2 h3 h4]
          by_cases k : m < 8
          · rw [if_neg (by omega), get_a _ k, get_a _ k]
          · by_cases k2 : m < 72
            · rw [if_neg (by omega), get_b _ k k2, get_b _ k k2]
            · by_cases k3 : m < 584
              · rw [if_neg (by omega), get_c _ k k2 k3, get_c _ k k2 k3]
              · by_cases k4 : m < 4680
                · rw [get_d _ k k2 k3 k4, get_d _ k k2 k3 k4, Q8.at_set (by omega) (by omega)]
                  by_cases e3 : (m - 584) / 512 = (n - 584) / 512
                  · rw [if_pos e3, Q8.at_set (by omega) (by omega), e3]
                    by_cases e2 : (m - 584) / 64 % 8 = (n - 584) / 64 % 8
                    · rw [if_pos e2, Q8.at_set (by omega) (by omega), e2]
                      by_cases e1 : (m - 584) / 8 % 8 = (n - 584) / 8 % 8
                      · rw [if_pos e1, Q8.at_set (by omega) (by omega), e1]
                        by_cases e : m = n
                        · rw [if_pos e, if_pos (by omega)]
                        · rw [if_neg e, if_neg (by omega)]
                      · rw [if_neg e1, if_neg (by omega)]
                    · rw [if_neg e2, if_neg (by omega)]
                  · rw [if_neg e3, if_neg (by omega)]
                · rw [if_neg (by omega), get_e _ k k2 k3 k4, get_e _ k k2 k3 k4]
        · rw [put_e t x h h2 h3 h4]
          by_cases k : m < 8
          · rw [if_neg (by omega), get_a _ k, get_a _ k]
          · by_cases k2 : m < 72
            · rw [if_neg (by omega), get_b _ k k2, get_b _ k k2]
            · by_cases k3 : m < 584
              · rw [if_neg (by omega), get_c _ k k2 k3, get_c _ k k2 k3]
              · by_cases k4 : m < 4680
                · rw [if_neg (by omega), get_d _ k k2 k3 k4, get_d _ k k2 k3 k4]
                · rw [get_e _ k k2 k3 k4, get_e _ k k2 k3 k4, Tr.get_putO]
                  by_cases e : m = n
                  · rw [if_pos e, if_pos (by omega)]
                  · rw [if_neg e, if_neg (by omega)]
theorem get_put (t : T α) (n : Nat) (x : α) (m : Nat) : (t.put n x).get m = if m = n then some x else t.get m := get_putO ..
theorem get_del (t : T α) (n : Nat) (m : Nat) : (t.del n).get m = if m = n then none else t.get m := get_putO ..
theorem get_nil (n : Nat) : (nil : T α).get n = none := by
  by_cases k : n < 8
  · rw [get_a _ k]; exact Q8.at_all k _
  · by_cases k2 : n < 72
    · rw [get_b _ k k2]; simp only [nil]
      rw [Q8.at_all (by omega), Q8.at_all (by omega)]
    · by_cases k3 : n < 584
      · rw [get_c _ k k2 k3]; simp only [nil]
        rw [Q8.at_all (by omega), Q8.at_all (by omega), Q8.at_all (by omega)]
      · by_cases k4 : n < 4680
        · rw [get_d _ k k2 k3 k4]; simp only [nil]
          rw [Q8.at_all (by omega), Q8.at_all (by omega), Q8.at_all (by omega), Q8.at_all (by omega)]
        · rw [get_e _ k k2 k3 k4]; rfl
end T

/-- The bytes of a text that is a number. -/
def bytesOf : Nat → Nat → List UInt8
  | 0, _ => []
  | n + 1, d => UInt8.ofNat (d % 256) :: bytesOf n (d / 256)
structure SR (n d : Nat) (s : ByteArray) : Prop where
  by_ : s.data.toList = bytesOf n d
  lt : d < 256 ^ n
theorem bytesOf_length : ∀ n d, (bytesOf n d).length = n
  | 0, _ => rfl
  | n + 1, d => by simp [bytesOf, bytesOf_length n]
theorem SR.size {n d : Nat} {s : ByteArray} (h : SR n d s) : s.size = n := by
  have := congrArg List.length h.by_
  rw [bytesOf_length, Array.length_toList] at this
  exact this
/-- A byte of a text that is a number. -/
def byteAt (d i : Nat) : Nat := Nat.shiftRight d (Nat.mul 8 i) % 256
theorem byteAt_eq (d i : Nat) : byteAt d i = d / 256 ^ i % 256 := by
  show d >>> (8 * i) % 256 = _
  rw [Nat.shiftRight_eq_div_pow, Nat.pow_mul]
theorem bytesOf_get : ∀ n d i, i < n → (bytesOf n d)[i]? = some (UInt8.ofNat (d / 256 ^ i % 256))
  | 0, _, _, h => by omega
  | n + 1, d, 0, _ => by simp [bytesOf]
  | n + 1, d, i + 1, h => by
    simp only [bytesOf, List.getElem?_cons_succ]
    rw [bytesOf_get n (d / 256) i (by omega), Nat.div_div_eq_div_mul, Nat.pow_succ, Nat.mul_comm]
theorem SR.at {n d : Nat} {s : ByteArray} (h : SR n d s) (i : Nat) (hi : i < n) : s[i]? = some (UInt8.ofNat (byteAt d i)) := by
  have h1 := bytesOf_get n d i hi
  rw [← h.by_, ← byteAt_eq] at h1
  have hs := h.size
  have : s[i]? = s.data[i]? := by
    simp only [getElem?_def, ByteArray.getElem_eq_getElem_data]
    rfl
  rw [this]
  simpa using h1
theorem ofNat_toNat {k : Nat} (h : k < 256) : (UInt8.ofNat k).toNat = k := by simp; omega
theorem byteAt_lt (d i : Nat) : byteAt d i < 256 := Nat.mod_lt _ (by omega)
/-- Bytes as a number. -/
def numOf : List UInt8 → Nat
  | [] => 0
  | b :: l => b.toNat + 256 * numOf l
theorem numOf_lt : ∀ l, numOf l < 256 ^ l.length
  | [] => by simp [numOf]
  | b :: l => by
    have := numOf_lt l
    have hb : b.toNat < 256 := b.toNat_lt
    simp only [numOf, List.length_cons, Nat.pow_succ]
    omega
theorem bytesOf_numOf : ∀ l, bytesOf l.length (numOf l) = l
  | [] => rfl
  | b :: l => by
    have hb : b.toNat < 256 := b.toNat_lt
    have e1 : (b.toNat + 256 * numOf l) % 256 = b.toNat := by omega
    have e2 : (b.toNat + 256 * numOf l) / 256 = numOf l := by omega
    simp only [List.length_cons, numOf, bytesOf, e1, e2, bytesOf_numOf l]
    simp
theorem SR.of (s : ByteArray) : SR s.size (numOf s.data.toList) s :=
  ⟨by have := bytesOf_numOf s.data.toList; rw [Array.length_toList] at this; exact this.symm, by have := numOf_lt s.data.toList; rw [Array.length_toList] at this; exact this⟩
theorem numOf_bytesOf : ∀ n d, d < 256 ^ n → numOf (bytesOf n d) = d
  | 0, d, h => by simp at h; simp [bytesOf, numOf, h]
  | n + 1, d, h => by
    simp only [bytesOf, numOf]
    rw [numOf_bytesOf n (d / 256) (by rw [Nat.pow_succ] at h; omega), ofNat_toNat (by omega)]
    omega
theorem SR.num {n d : Nat} {s : ByteArray} (h : SR n d s) : d = numOf s.data.toList := by rw [h.by_, numOf_bytesOf n d h.lt]
theorem SR.eq_iff {n d m e : Nat} {s t : ByteArray} (h : SR n d s) (k : SR m e t) : s = t ↔ (n = m ∧ d = e) := by
  constructor
  · rintro rfl
    exact ⟨h.size.symm.trans k.size, h.num.trans k.num.symm⟩
  · rintro ⟨rfl, rfl⟩
    have : s.data.toList = t.data.toList := h.by_.trans k.by_.symm
    cases s; cases t
    simp only [ByteArray.mk.injEq]
    exact Array.toList_inj.1 this
theorem bytesOf_append : ∀ n d m e, d < 256 ^ n → bytesOf n d ++ bytesOf m e = bytesOf (n + m) (d + 256 ^ n * e)
  | 0, d, m, e, h => by simp at h; simp [bytesOf, h]
  | n + 1, d, m, e, h => by
    have e0 : n + 1 + m = (n + m) + 1 := by omega
    rw [e0]
    simp only [bytesOf, List.cons_append]
    rw [Nat.pow_succ] at h
    have e1 : (d + 256 ^ (n + 1) * e) % 256 = d % 256 := by
      have : 256 ^ (n + 1) * e = 256 * (256 ^ n * e) := by rw [Nat.pow_succ, Nat.mul_comm (256 ^ n) 256, Nat.mul_assoc]
      omega
    have e2 : (d + 256 ^ (n + 1) * e) / 256 = d / 256 + 256 ^ n * e := by
      have : 256 ^ (n + 1) * e = 256 * (256 ^ n * e) := by rw [Nat.pow_succ, Nat.mul_comm (256 ^ n) 256, Nat.mul_assoc]
      omega
    rw [e1, e2, bytesOf_append n (d / 256) m e (by omega)]
theorem SR.append {n d m e : Nat} {s t : ByteArray} (h : SR n d s) (k : SR m e t) : SR (n + m) (Nat.add d (Nat.shiftLeft e (Nat.mul 8 n))) (s ++ t) := by
  have e1 : Nat.add d (Nat.shiftLeft e (Nat.mul 8 n)) = d + 256 ^ n * e := by
    show d + e <<< (8 * n) = _
    rw [Nat.shiftLeft_eq, Nat.pow_mul, Nat.mul_comm]
  rw [e1]
  refine ⟨?_, ?_⟩
  · rw [← bytesOf_append n d m e h.lt, ← h.by_, ← k.by_]
    simp
  · have h1 := h.lt; have h2 := k.lt
    rw [Nat.pow_add]
    have : 256 ^ n * e + 256 ^ n ≤ 256 ^ n * 256 ^ m := by
      have : 256 ^ n * (e + 1) ≤ 256 ^ n * 256 ^ m := Nat.mul_le_mul_left _ h2
      rwa [Nat.mul_add, Nat.mul_one] at this
    omega
theorem bytesOf_drop : ∀ n d k, (bytesOf n d).drop k = bytesOf (n - k) (d / 256 ^ k)
  | n, d, 0 => by simp
  | 0, d, k + 1 => by simp [bytesOf]
  | n + 1, d, k + 1 => by
    simp only [bytesOf, List.drop_succ_cons]
    rw [bytesOf_drop n (d / 256) k, Nat.div_div_eq_div_mul, Nat.pow_succ, Nat.mul_comm (256 ^ k)]
    congr 1; omega
theorem bytesOf_take : ∀ n d k, k ≤ n → (bytesOf n d).take k = bytesOf k (d % 256 ^ k)
  | n, d, 0, _ => by simp [bytesOf]
  | 0, d, k + 1, h => by omega
  | n + 1, d, k + 1, h => by
    simp only [bytesOf, List.take_succ_cons]
    rw [bytesOf_take n (d / 256) k (by omega)]
    have e1 : d % 256 ^ (k + 1) % 256 = d % 256 := Nat.mod_mod_of_dvd _ ⟨256 ^ k, by rw [Nat.pow_succ, Nat.mul_comm]⟩
    have e2 : d % 256 ^ (k + 1) / 256 = d / 256 % 256 ^ k := by
      rw [Nat.pow_succ, Nat.mul_comm, Nat.mod_mul_right_div_self]
    rw [e1, e2]
theorem SR.extract {n d : Nat} {s : ByteArray} (h : SR n d s) (l k : Nat) (hl : l ≤ k) (hk : k ≤ n) :
    SR (k - l) (Nat.shiftRight d (Nat.mul 8 l) % Nat.pow 2 (Nat.mul 8 (k - l))) (s.extract l k) := by
  have e1 : Nat.shiftRight d (Nat.mul 8 l) % Nat.pow 2 (Nat.mul 8 (k - l)) = d / 256 ^ l % 256 ^ (k - l) := by
    show d >>> (8 * l) % 2 ^ (8 * (k - l)) = _
    rw [Nat.shiftRight_eq_div_pow, Nat.pow_mul, Nat.pow_mul]
  rw [e1]
  refine ⟨?_, Nat.mod_lt _ (Nat.pow_pos (by omega))⟩
  rw [← bytesOf_take (n - l) (d / 256 ^ l) (k - l) (by omega), ← bytesOf_drop n d l, ← h.by_]
  rw [ByteArray.data_extract, Array.toList_extract]
end Go.Proofs.YtmhnnfponloihaaDoor
