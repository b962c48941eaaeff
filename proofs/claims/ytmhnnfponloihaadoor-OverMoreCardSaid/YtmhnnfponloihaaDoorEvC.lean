/- Rows of values; constants; slots; operands of a closed run. No Go program in this text. -/
import Derived.Test.YtmhnnfponloihaaDoorEvB
set_option linter.unusedSimpArgs false
set_option linter.unusedVariables false
namespace Go.Proofs.YtmhnnfponloihaaDoor
open Go.RowKit

namespace AVs
def get : AVs → Nat → Option AV
  | .nil, _ => none
  | .cons a l, n => match n with | 0 => some a | n + 1 => l.get n
def len : AVs → Nat
  | .nil => 0
  | .cons _ l => Nat.succ l.len
def app : AVs → AVs → AVs
  | .nil, m => m
  | .cons a l, m => .cons a (l.app m)
def drop : Nat → AVs → AVs
  | 0, l => l
  | n + 1, .nil => .nil
  | n + 1, .cons _ l => drop n l
def take : Nat → AVs → AVs
  | 0, _ => .nil
  | n + 1, .nil => .nil
  | n + 1, .cons a l => .cons a (take n l)
/-- The first ones of l, those of m in place of what is there, and the rest. -/
def over : Nat → AVs → AVs → AVs
  | 0, m, l => m.app (drop m.len l)
  | n + 1, m, .nil => .nil
  | n + 1, m, .cons a l => .cons a (over n m l)
end AVs
def AV.cells : AV → AVs
  | .agg l => l
  | a => .cons a .nil
variable {ρ : Map}
theorem VsRel.len : ∀ {l : AVs} {m : List Value}, VsRel ρ l m → l.len = m.length
  | .nil, _, h => by simp only [VsRel] at h; subst h; rfl
  | .cons a l, _, ⟨v, r, e, _, h⟩ => by subst e; simp [AVs.len, VsRel.len h]
theorem VsRel.at : ∀ {l : AVs} {m : List Value} {k : Nat} {a : AV}, VsRel ρ l m → l.get k = some a → ∃ v, m[k]? = some v ∧ VRel ρ a v
  | .nil, _, k, _, _, e => by simp [AVs.get] at e
  | .cons a l, _, 0, _, ⟨v, r, e, h, _⟩, k => by subst e; simp [AVs.get] at k; subst k; exact ⟨v, rfl, h⟩
  | .cons a l, _, n + 1, _, ⟨v, r, e, _, h⟩, k => by subst e; simp only [AVs.get] at k; obtain ⟨u, x, y⟩ := VsRel.at h k; exact ⟨u, by simpa using x, y⟩
theorem VsRel.app : ∀ {l l' : AVs} {m m' : List Value}, VsRel ρ l m → VsRel ρ l' m' → VsRel ρ (l.app l') (m ++ m')
  | .nil, _, _, _, h, k => by simp only [VsRel] at h; subst h; exact k
  | .cons a l, _, _, _, ⟨v, r, e, h, t⟩, k => by subst e; exact ⟨v, r ++ _, rfl, h, VsRel.app t k⟩
theorem VsRel.drop : ∀ {n : Nat} {l : AVs} {m : List Value}, VsRel ρ l m → VsRel ρ (AVs.drop n l) (m.drop n)
  | 0, _, _, h => by simpa [AVs.drop] using h
  | n + 1, .nil, _, h => by simp only [VsRel] at h; subst h; simp [AVs.drop, VsRel]
  | n + 1, .cons a l, _, ⟨v, r, e, h, t⟩ => by subst e; simpa [AVs.drop] using VsRel.drop t
theorem VsRel.take : ∀ {n : Nat} {l : AVs} {m : List Value}, VsRel ρ l m → VsRel ρ (AVs.take n l) (m.take n)
  | 0, _, _, h => by simp [AVs.take, VsRel]
  | n + 1, .nil, _, h => by simp only [VsRel] at h; subst h; simp [AVs.take, VsRel]
  | n + 1, .cons a l, _, ⟨v, r, e, h, t⟩ => by subst e; exact ⟨v, r.take n, by simp, h, VsRel.take t⟩
theorem VsRel.over : ∀ {n : Nat} {c l : AVs} {d m : List Value}, VsRel ρ c d → VsRel ρ l m → n + c.len ≤ l.len → VsRel ρ (AVs.over n c l) (m.take n ++ d ++ m.drop (n + d.length))
  | 0, c, l, d, m, hc, hl, hn => by
    simp only [AVs.over, List.take_zero, List.nil_append, Nat.zero_add]
    rw [← hc.len]; exact hc.app hl.drop
  | n + 1, c, .nil, d, m, hc, hl, hn => by simp [AVs.len] at hn
  | n + 1, c, .cons a l, d, m, hc, ⟨v, r, e, h, t⟩, hn => by
    subst e
    refine ⟨v, _, ?_, h, VsRel.over (n := n) hc t (by simp [AVs.len] at hn; omega)⟩
    simp [List.take_succ_cons, Nat.add_right_comm n 1 d.length]
theorem VRel.cells : ∀ {a : AV} {v : Value}, VRel ρ a v → VsRel ρ a.cells v.cells.toList
  | .agg l, _, ⟨c, e, h⟩ => by subst e; exact h
  | .b x, v, h => by cases h; exact ⟨_, [], rfl, rfl, rfl⟩
  | .i k n, v, h => by cases h; exact ⟨_, [], rfl, rfl, rfl⟩
  | .s n d, _, ⟨s, e, h⟩ => by subst e; exact ⟨_, [], rfl, ⟨s, rfl, h⟩, rfl⟩
  | .p id off, _, ⟨b, C, e, h⟩ => by subst h; exact ⟨_, [], rfl, ⟨b, C, e, rfl⟩, rfl⟩
  | .np, v, h => by cases h; exact ⟨_, [], rfl, rfl, rfl⟩
  | .sl _ _ _ _, _, ⟨b, C, e, h⟩ => by subst h; exact ⟨_, [], rfl, ⟨b, C, e, rfl⟩, rfl⟩
  | .su _ _ _, _, ⟨b, C, o, c, e, h, k⟩ => by subst h; exact ⟨_, [], rfl, ⟨b, C, o, c, e, rfl, k⟩, rfl⟩
  | .gs _ _, _, ⟨b, C, e, h, k⟩ => by subst h; exact ⟨_, [], rfl, ⟨b, C, e, rfl, k⟩, rfl⟩
  | .ns, v, h => by cases h; exact ⟨_, [], rfl, rfl, rfl⟩
  | .fn _ _, _, ⟨c, e, h⟩ => by subst e; exact ⟨_, [], rfl, ⟨c, rfl, h⟩, rfl⟩
  | .nf, v, h => by cases h; exact ⟨_, [], rfl, rfl, rfl⟩
  | .yl _, _, ⟨b, C, e, h⟩ => by subst h; exact ⟨_, [], rfl, ⟨b, C, e, rfl⟩, rfl⟩
  | .r _ _ _, _, ⟨z, e, h⟩ => by subst e; exact ⟨_, [], rfl, ⟨z, rfl, h⟩, rfl⟩
  | .ifc _ _, _, ⟨c, e, h⟩ => by subst e; exact ⟨_, [], rfl, ⟨c, rfl, h⟩, rfl⟩
  | .ni, v, h => by cases h; exact ⟨_, [], rfl, rfl, rfl⟩
  | .mp _, _, ⟨b, C, e, h⟩ => by subst h; exact ⟨_, [], rfl, ⟨b, C, e, rfl⟩, rfl⟩
  | .nm, v, h => by cases h; exact ⟨_, [], rfl, rfl, rfl⟩
  | .tup _, _, ⟨c, e, h⟩ => by subst e; exact ⟨_, [], rfl, ⟨c, rfl, h⟩, rfl⟩
/-- One cell alone. -/
def AV.one : AV → Bool
  | .agg _ => false
  | .tup _ => false
  | _ => true
def AVs.ones : AVs → Bool
  | .nil => true
  | .cons a l => a.one && l.ones
theorem VRel.one : ∀ {a : AV} {v : Value}, VRel ρ a v → a.one = true → v.oneCell' = true
  | .agg l, _, _, h => by simp [AV.one] at h
  | .tup l, _, _, h => by simp [AV.one] at h
  | .b x, v, h, _ => by cases h; rfl
  | .i k n, v, h, _ => by cases h; rfl
  | .s n d, _, ⟨s, e, h⟩, _ => by subst e; rfl
  | .p id off, _, ⟨b, C, e, h⟩, _ => by subst h; rfl
  | .np, v, h, _ => by cases h; rfl
  | .sl _ _ _ _, _, ⟨b, C, e, h⟩, _ => by subst h; rfl
  | .su _ _ _, _, ⟨b, C, o, c, e, h, k⟩, _ => by subst h; rfl
  | .gs _ _, _, ⟨b, C, e, h, k⟩, _ => by subst h; rfl
  | .ns, v, h, _ => by cases h; rfl
  | .fn _ _, _, ⟨c, e, h⟩, _ => by subst e; rfl
  | .nf, v, h, _ => by cases h; rfl
  | .yl _, _, ⟨b, C, e, h⟩, _ => by subst h; rfl
  | .r _ _ _, _, ⟨z, e, h⟩, _ => by subst e; rfl
  | .ifc _ _, _, ⟨c, e, h⟩, _ => by subst e; rfl
  | .ni, v, h, _ => by cases h; rfl
  | .mp _, _, ⟨b, C, e, h⟩, _ => by subst h; rfl
  | .nm, v, h, _ => by cases h; rfl
theorem VsRel.ones : ∀ {l : AVs} {m : List Value}, VsRel ρ l m → l.ones = true → ∀ v ∈ m, v.oneCell' = true
  | .nil, _, h, _ => by simp only [VsRel] at h; subst h; simp
  | .cons a l, _, ⟨v, r, e, h, t⟩, k => by
    subst e
    simp only [AVs.ones, Bool.and_eq_true] at k
    intro u hu
    rcases List.mem_cons.1 hu with rfl | hu
    · exact h.one k.1
    · exact VsRel.ones t k.2 u hu

/-- A constant of one cell. -/
def ofC : Value → Option AV
  | .bool b => some (.b b)
  | .int k n => some (.i k n)
  | .string s => some (.s s.size (numOf s.data.toList))
  | .pointer none => some .np
  | .slice none 0 0 => some .ns
  | .nilFunc => some .nf
  | .nilIface => some .ni
  | .map none => some .nm
  | .func (.func f) fs cs => match fs.toList, cs.toList with | [], [] => some (.fn f .nil) | _, _ => none
  | _ => none
theorem ofC_rel {v : Value} {a : AV} (h : ofC v = some a) : VRel ρ a v := by
  unfold ofC at h
  split at h <;> try cases h
  all_goals try rfl
  · exact ⟨_, rfl, .of _⟩
  · rename_i f fs cs
    split at h <;> cases h
    rename_i h1 h2
    have e1 : fs = #[] := Array.toList_inj.1 h1
    subst e1
    exact ⟨cs, rfl, by rw [h2]; rfl⟩
def ofL : List Value → Option AVs
  | [] => some .nil
  | v :: l => match ofC v with
    | some a => match ofL l with | some m => some (.cons a m) | none => none
    | none => none
theorem ofL_rel : ∀ {l : List Value} {m : AVs}, ofL l = some m → VsRel ρ m l
  | [], m, h => by simp only [ofL] at h; cases h; rfl
  | v :: l, m, h => by
    simp only [ofL] at h
    cases e : ofC v with
    | none => simp [e] at h
    | some a =>
      cases f : ofL l with
      | none => simp [e, f] at h
      | some k =>
        simp [e, f] at h; subst h
        exact ⟨v, l, rfl, ofC_rel e, ofL_rel f⟩
/-- A constant. -/
def ofV : Value → Option AV
  | .agg cs => match ofL cs.toList with | some l => some (.agg l) | none => none
  | .tuple cs => match ofL cs.toList with | some l => some (.tup l) | none => none
  | .iface t v => match ofC v with | some a => some (.ifc t a) | none => none
  | v => ofC v
theorem ofV_rel {v : Value} {a : AV} (h : ofV v = some a) : VRel ρ a v := by
  unfold ofV at h
  split at h
  · split at h <;> cases h
    rename_i e; exact ⟨_, rfl, ofL_rel e⟩
  · split at h <;> cases h
    rename_i e; exact ⟨_, rfl, ofL_rel e⟩
  · split at h <;> cases h
    rename_i e; exact ⟨_, rfl, ofC_rel e⟩
  · exact ofC_rel h
/-- A frame. -/
structure SRel (N : Nat) (ρ : Map) (sl : T AV) (a : Act) : Prop where
  size : a.tmps.size = N
  get : ∀ t v, sl.get t = some v → t < N ∧ VRel ρ v (a.tmps.getD t undef)
theorem SRel.mono {N : Nat} {ρ ρ' : Map} (h : ρ.le ρ') {sl : T AV} {a : Act} (k : SRel N ρ sl a) : SRel N ρ' sl a := ⟨k.size, fun t v e => ⟨(k.get t v e).1, (k.get t v e).2.mono h⟩⟩
noncomputable def evX (sl : T AV) : Operand → Option AV
  | .tmp t => sl.get t
  | .const v => ofV v
  | .func f => some (.fn f .nil)
  | .global _ => none
theorem evX_rel {N : Nat} {sl : T AV} {a : Act} (hS : SRel N ρ sl a) {x : Operand} {v : AV} (h : evX sl x = some v) : VRel ρ v (a.eval x) := by
  cases x with
  | tmp t => exact (hS.get t v h).2
  | const c => exact ofV_rel h
  | func f => simp only [evX] at h; cases h; exact ⟨#[], rfl, rfl⟩
  | global g => simp [evX] at h
noncomputable def evXs (sl : T AV) : List Operand → Option AVs
  | [] => some .nil
  | x :: l => match evX sl x with
    | some a => match evXs sl l with | some m => some (.cons a m) | none => none
    | none => none
theorem evXs_rel {N : Nat} {sl : T AV} {a : Act} (hS : SRel N ρ sl a) : ∀ {l : List Operand} {m : AVs}, evXs sl l = some m → VsRel ρ m (l.map a.eval)
  | [], m, h => by simp only [evXs] at h; cases h; rfl
  | v :: l, m, h => by
    simp only [evXs] at h
    cases e : evX sl v with
    | none => simp [e] at h
    | some x =>
      cases f : evXs sl l with
      | none => simp [e, f] at h
      | some k =>
        simp [e, f] at h; subst h
        exact ⟨_, _, rfl, evX_rel hS e, evXs_rel hS f⟩
theorem SRel.put {N : Nat} {sl : T AV} {a : Act} (hS : SRel N ρ sl a) {d : Nat} (hd : d < N) {v : AV} {u : Value} (hv : VRel ρ v u) : SRel N ρ (sl.put d v) (a.put (some d) u) := by
  refine ⟨by simp [Act.put, hS.size], fun t x e => ?_⟩
  rw [T.get_put] at e
  by_cases ht : t = d
  · subst ht
    rw [if_pos rfl] at e; cases e
    refine ⟨hd, ?_⟩
    have : t < a.tmps.size := by rw [hS.size]; exact hd
    simpa [Act.put, Array.getD, this] using hv
  · rw [if_neg ht] at e
    obtain ⟨h1, h2⟩ := hS.get t x e
    refine ⟨h1, ?_⟩
    have : (a.put (some d) u).tmps.getD t undef = a.tmps.getD t undef := by
      simp only [Act.put, Array.getD_eq_getD_getElem?, Array.getElem?_setIfInBounds]
      rw [if_neg (fun e => ht e.symm)]
    rw [this]; exact h2
end Go.Proofs.YtmhnnfponloihaaDoor
