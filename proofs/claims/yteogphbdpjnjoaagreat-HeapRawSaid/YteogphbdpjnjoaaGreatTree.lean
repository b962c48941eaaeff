/- Programs as trees: nodes that bear the slice values which they hold, and how they lie in memory. -/
import Derived.Test.YteogphbdpjnjoaaGreatBxA
import Derived.WalkKit
import Derived.Below
import Derived.Laws.OwnMore
import Derived.Maps.AppendAt
import Derived.WalkSmall
import Derived.Lib.Hide
set_option linter.unusedSimpArgs false
set_option linter.unusedVariables false
namespace Go.Proofs.YteogphbdpjnjoaaGreat
open Go.RowKit

/-- A node. A slice that it holds stands beside the list of what lies in it. -/
inductive Nd where
  | ex (k n : Int) (tx nm ty : ByteArray) (v : Value) (l : List Nd) (own : ByteArray) (nth : Int)
  | st (k n : Int) (ty nm : ByteArray) (ve va vb vc : Value) (e a b c : List Nd) (nth : Int)
  | fd (s : Bool) (ty nm : ByteArray) (v : Value) (l : List Nd)
  | mt (s c : Bool) (ty nm : ByteArray) (vp : Value) (ps : List (ByteArray × ByteArray)) (v : Value) (l : List Nd)
  | cl (nm sp : ByteArray) (vf vm : Value) (f m : List Nd)

inductive Tg where
  | ex | st | fd | mt | cl
  deriving DecidableEq
def Tg.sz : Tg → Nat
  | .ex => 8 | .st => 9 | .fd => 4 | .mt => 6 | .cl => 4
def Tg.ptr : Tg → TypeId
  | _ => 0
def Nd.tag : Nd → Tg
  | .ex .. => .ex | .st .. => .st | .fd .. => .fd | .mt .. => .mt | .cl .. => .cl
def Nd.kids : Nd → List Nd
  | .ex _ _ _ _ _ _ l _ _ => l
  | .st _ _ _ _ _ _ _ _ e a b c _ => e ++ a ++ b ++ c
  | .fd _ _ _ _ l => l
  | .mt _ _ _ _ _ _ _ l => l
  | .cl _ _ _ _ f m => f ++ m
mutual
def Nd.size : Nd → Nat
  | .ex _ _ _ _ _ _ l _ _ => 1 + sizeL l
  | .st _ _ _ _ _ _ _ _ e a b c _ => 1 + (sizeL e + sizeL a + sizeL b + sizeL c)
  | .fd _ _ _ _ l => 1 + sizeL l
  | .mt _ _ _ _ _ _ _ l => 1 + sizeL l
  | .cl _ _ _ _ f m => 1 + (sizeL f + sizeL m)
def sizeL : List Nd → Nat
  | [] => 0
  | x :: l => x.size + sizeL l
end
theorem sizeL_append (a b : List Nd) : sizeL (a ++ b) = sizeL a + sizeL b := by
  induction a with
  | nil => simp [sizeL]
  | cons x a ih => simp [sizeL, ih]; omega
theorem size_kids (x : Nd) : x.size = 1 + sizeL x.kids := by
  cases x <;> simp [Nd.size, Nd.kids, sizeL_append] <;> omega
theorem size_pos (x : Nd) : 0 < x.size := by rw [size_kids]; omega
theorem len_sizeL : ∀ l : List Nd, l.length ≤ sizeL l
  | [] => by simp
  | x :: l => by have := len_sizeL l; have := size_pos x; simp [sizeL]; omega
theorem size_mem {x : Nd} : ∀ {l : List Nd}, x ∈ l → x.size ≤ sizeL l
  | [], h => by simp at h
  | y :: l, h => by
    rcases List.mem_cons.1 h with rfl | h
    · simp [sizeL]
    · have := size_mem h; simp [sizeL]; omega

def cellsN : Nd → List Value
  | .ex k n tx nm ty v _ own nth => [.int .i64 k, .int .i32 n, .string tx, .string nm, .string ty, v, .string own, .int .i64 nth]
  | .st k n ty nm ve va vb vc _ _ _ _ nth => [.int .i64 k, .int .i32 n, .string ty, .string nm, ve, va, vb, vc, .int .i64 nth]
  | .fd s ty nm v _ => [.bool s, .string ty, .string nm, v]
  | .mt s c ty nm vp _ v _ => [.bool s, .bool c, .string ty, .string nm, vp, v]
  | .cl nm sp vf vm _ _ => [.string nm, .string sp, vf, vm]
theorem cells_len (x : Nd) : (cellsN x).length = x.tag.sz := by cases x <;> rfl

/-- All that was told of old cells is told still. -/
def Keep (w w' : World) : Prop := ∀ p u, w.cell? p = some u → w'.cell? p = some u
theorem Keep.below {w w' : World} (h : Below w.heap.size w w') : Keep w w' := fun p u hu => (h.cell (World.block_lt_of_cell? w p hu)).trans hu
theorem Keep.trans {a b c : World} (h : Keep a b) (k : Keep b c) : Keep a c := fun p u hu => k p u (h p u hu)

/-- The row of cells of a list of nodes. -/
def Rw (w : World) (t : Tg) (v : Value) (l : List Nd) : Prop :=
  ∃ A cap, v = .slice A l.length cap ∧ (l.length ≤ maxLen ∧ l.length ≤ cap) ∧ (∀ x ∈ l, x.tag = t) ∧ (0 < l.length → ∃ b o, A = some ⟨b, o, none⟩ ∧ ∀ i x, l[i]? = some x → ∀ j u, (cellsN x)[j]? = some u → w.cell? ⟨b, o + i * t.sz + j, none⟩ = some u)
/-- The row of cells of a list of parameters. -/
def Pw (w : World) (v : Value) (l : List (ByteArray × ByteArray)) : Prop :=
  ∃ A cap, v = .slice A l.length cap ∧ l.length ≤ maxLen ∧ (∀ x ∈ l, x.1.size ≤ maxLen ∧ x.2.size ≤ maxLen) ∧ (0 < l.length → ∃ b o, A = some ⟨b, o, none⟩ ∧ ∀ i x, l[i]? = some x → w.cell? ⟨b, o + i * 2, none⟩ = some (.string x.1) ∧ w.cell? ⟨b, o + i * 2 + 1, none⟩ = some (.string x.2))
mutual
def Kd (w : World) : Nd → Prop
  | .ex _ _ tx nm ty v l _ _ => (tx.size ≤ maxLen ∧ nm.size ≤ maxLen ∧ ty.size ≤ maxLen) ∧ Rw w .ex v l ∧ KdL w l
  | .st _ _ ty nm ve va vb vc e a b c _ => (ty.size ≤ maxLen ∧ nm.size ≤ maxLen) ∧ (Rw w .ex ve e ∧ KdL w e) ∧ (Rw w .st va a ∧ KdL w a) ∧ (Rw w .st vb b ∧ KdL w b) ∧ (Rw w .st vc c ∧ KdL w c)
  | .fd _ ty nm v l => (ty.size ≤ maxLen ∧ nm.size ≤ maxLen) ∧ Rw w .ex v l ∧ KdL w l
  | .mt _ _ ty nm vp ps v l => (ty.size ≤ maxLen ∧ nm.size ≤ maxLen) ∧ Pw w vp ps ∧ Rw w .st v l ∧ KdL w l
  | .cl nm sp vf vm f m => (nm.size ≤ maxLen ∧ sp.size ≤ maxLen) ∧ (Rw w .fd vf f ∧ KdL w f) ∧ (Rw w .mt vm m ∧ KdL w m)
def KdL (w : World) : List Nd → Prop
  | [] => True
  | x :: l => Kd w x ∧ KdL w l
end
theorem KdL_mem {w : World} : ∀ {l : List Nd}, KdL w l → ∀ x ∈ l, Kd w x
  | [], _, x, h => by simp at h
  | y :: l, hk, x, h => by
    rcases List.mem_cons.1 h with rfl | h
    · exact hk.1
    · exact KdL_mem hk.2 x h
theorem KdL_of {w : World} : ∀ {l : List Nd}, (∀ x ∈ l, Kd w x) → KdL w l
  | [], _ => trivial
  | y :: l, h => ⟨h y (by simp), KdL_of fun x hx => h x (by simp [hx])⟩
theorem KdL_append {w : World} {a b : List Nd} (h : KdL w a) (k : KdL w b) : KdL w (a ++ b) := KdL_of fun x hx => by
  rcases List.mem_append.1 hx with hx | hx
  · exact KdL_mem h x hx
  · exact KdL_mem k x hx
theorem Rw.keep {w w' : World} (K : Keep w w') {t : Tg} {v : Value} {l : List Nd} (h : Rw w t v l) : Rw w' t v l := by
  obtain ⟨A, cap, hv, hm, ht, hc⟩ := h
  refine ⟨A, cap, hv, hm, ht, fun hn => ?_⟩
  obtain ⟨b, o, hA, hcell⟩ := hc hn
  exact ⟨b, o, hA, fun i x hx j u hu => K _ _ (hcell i x hx j u hu)⟩
theorem Pw.keep {w w' : World} (K : Keep w w') {v : Value} {l : List (ByteArray × ByteArray)} (h : Pw w v l) : Pw w' v l := by
  obtain ⟨A, cap, hv, hm, ht, hc⟩ := h
  refine ⟨A, cap, hv, hm, ht, fun hn => ?_⟩
  obtain ⟨b, o, hA, hcell⟩ := hc hn
  exact ⟨b, o, hA, fun i x hx => ⟨K _ _ (hcell i x hx).1, K _ _ (hcell i x hx).2⟩⟩
mutual
theorem Kd.keep {w w' : World} (K : Keep w w') : ∀ x, Kd w x → Kd w' x
  | .ex _ _ tx nm ty v l _ _, h => by
    rw [Kd] at h ⊢; exact ⟨h.1, h.2.1.keep K, KdL.keep K l h.2.2⟩
  | .st _ _ ty nm ve va vb vc e a b c _, h => by
    rw [Kd] at h ⊢; exact ⟨h.1, ⟨h.2.1.1.keep K, KdL.keep K e h.2.1.2⟩, ⟨h.2.2.1.1.keep K, KdL.keep K a h.2.2.1.2⟩, ⟨h.2.2.2.1.1.keep K, KdL.keep K b h.2.2.2.1.2⟩, ⟨h.2.2.2.2.1.keep K, KdL.keep K c h.2.2.2.2.2⟩⟩
  | .fd _ ty nm v l, h => by
    rw [Kd] at h ⊢; exact ⟨h.1, h.2.1.keep K, KdL.keep K l h.2.2⟩
  | .mt _ _ ty nm vp ps v l, h => by
    rw [Kd] at h ⊢; exact ⟨h.1, h.2.1.keep K, h.2.2.1.keep K, KdL.keep K l h.2.2.2⟩
  | .cl nm sp vf vm f m, h => by
    rw [Kd] at h ⊢; exact ⟨h.1, ⟨h.2.1.1.keep K, KdL.keep K f h.2.1.2⟩, ⟨h.2.2.1.keep K, KdL.keep K m h.2.2.2⟩⟩
theorem KdL.keep {w w' : World} (K : Keep w w') : ∀ l, KdL w l → KdL w' l
  | [], _ => trivial
  | x :: l, h => ⟨Kd.keep K x h.1, KdL.keep K l h.2⟩
end

/-- A part: a node and where it lies. -/
structure Pt where
  b : Nat
  o : Nat
  x : Nd
def Pt.at_ (w : World) (p : Pt) : Prop := (∀ j u, (cellsN p.x)[j]? = some u → w.cell? ⟨p.b, p.o + j, none⟩ = some u) ∧ Kd w p.x
theorem Pt.at_.keep {w w' : World} (K : Keep w w') {p : Pt} (h : p.at_ w) : p.at_ w' := ⟨fun j u hu => K _ _ (h.1 j u hu), Kd.keep K _ h.2⟩
def ptV (p : Pt) : Value := .iface p.x.tag.ptr (.pointer (some ⟨p.b, p.o, none⟩))
def pts (b o sz : Nat) : List Nd → List Pt
  | [] => []
  | x :: l => ⟨b, o, x⟩ :: pts b (o + sz) sz l
def ptsV (t : Tg) (v : Value) (l : List Nd) : List Pt :=
  match v with
  | .slice (some a) _ _ => pts a.block a.off t.sz l
  | _ => []
theorem pts_x (b sz : Nat) : ∀ (l : List Nd) (o : Nat), (pts b o sz l).map Pt.x = l
  | [], _ => rfl
  | x :: l, o => by simp [pts, pts_x b sz l]
theorem pts_get (b sz : Nat) : ∀ (l : List Nd) (o i : Nat), (pts b o sz l)[i]? = (l[i]?).map fun x => ⟨b, o + i * sz, x⟩
  | [], _, _ => by simp [pts]
  | x :: l, o, 0 => by simp [pts]
  | x :: l, o, i + 1 => by
    simp only [pts, List.getElem?_cons_succ, pts_get b sz l (o + sz) i]
    congr 1; funext y; rw [Nat.add_mul]; congr 1; omega
theorem ptsV_none (t : Tg) {v : Value} (h : v.ownBlock = none) (l : List Nd) : ptsV t v l = [] := by
  unfold ptsV; split
  · simp [Value.ownBlock] at h
  · rfl
theorem ptsV_x {w : World} {t : Tg} {v : Value} {l : List Nd} (h : Rw w t v l) : (ptsV t v l).map Pt.x = l := by
  obtain ⟨A, cap, rfl, _, _, hc⟩ := h
  cases A with
  | none =>
    rcases Nat.eq_zero_or_pos l.length with h0 | h0
    · have : l = [] := List.eq_nil_of_length_eq_zero h0
      subst this; rfl
    · obtain ⟨b, o, h, _⟩ := hc h0; cases h
  | some a => exact pts_x _ _ _ _
theorem ptsV_len {w : World} {t : Tg} {v : Value} {l : List Nd} (h : Rw w t v l) : (ptsV t v l).length = l.length := by
  have := congrArg List.length (ptsV_x h); simpa using this
theorem ptsV_at {w : World} {t : Tg} {v : Value} {l : List Nd} (h : Rw w t v l) (hk : KdL w l) : ∀ p ∈ ptsV t v l, p.at_ w := by
  intro p hp
  obtain ⟨A, cap, rfl, _, _, hc⟩ := h
  cases A with
  | none => simp [ptsV] at hp
  | some a =>
    simp only [ptsV] at hp
    obtain ⟨i, hi⟩ := List.getElem?_of_mem hp
    rw [pts_get] at hi
    cases hx : l[i]? with
    | none => simp [hx] at hi
    | some x =>
      simp only [hx, Option.map_some, Option.some.injEq] at hi
      have hil : i < l.length := (List.getElem?_eq_some_iff.1 hx).1
      obtain ⟨b, o, hA, hcell⟩ := hc (by omega)
      injection hA with hA
      subst hA
      subst hi
      exact ⟨hcell i x hx, KdL_mem hk x (List.mem_of_getElem? hx)⟩
def kidsP : Nd → List Pt
  | .ex _ _ _ _ _ v l _ _ => ptsV .ex v l
  | .st _ _ _ _ ve va vb vc e a b c _ => ptsV .ex ve e ++ ptsV .st va a ++ ptsV .st vb b ++ ptsV .st vc c
  | .fd _ _ _ v l => ptsV .ex v l
  | .mt _ _ _ _ _ _ v l => ptsV .st v l
  | .cl _ _ vf vm f m => ptsV .fd vf f ++ ptsV .mt vm m
theorem kidsP_x {w : World} {x : Nd} (h : Kd w x) : (kidsP x).map Pt.x = x.kids := by
  cases x <;> rw [Kd] at h
  · exact ptsV_x h.2.1
  · simp only [kidsP, Nd.kids, List.map_append]
    rw [ptsV_x h.2.1.1, ptsV_x h.2.2.1.1, ptsV_x h.2.2.2.1.1, ptsV_x h.2.2.2.2.1]
  · exact ptsV_x h.2.1
  · exact ptsV_x h.2.2.1
  · simp only [kidsP, Nd.kids, List.map_append]
    rw [ptsV_x h.2.1.1, ptsV_x h.2.2.1]
theorem kidsP_at {w : World} {x : Nd} (h : Kd w x) : ∀ p ∈ kidsP x, p.at_ w := by
  intro p hp
  cases x <;> rw [Kd] at h <;> simp only [kidsP, List.mem_append] at hp
  · exact ptsV_at h.2.1 h.2.2 p hp
  · rcases hp with ((hp | hp) | hp) | hp
    · exact ptsV_at h.2.1.1 h.2.1.2 p hp
    · exact ptsV_at h.2.2.1.1 h.2.2.1.2 p hp
    · exact ptsV_at h.2.2.2.1.1 h.2.2.2.1.2 p hp
    · exact ptsV_at h.2.2.2.2.1 h.2.2.2.2.2 p hp
  · exact ptsV_at h.2.1 h.2.2 p hp
  · exact ptsV_at h.2.2.1 h.2.2.2 p hp
  · rcases hp with hp | hp
    · exact ptsV_at h.2.1.1 h.2.1.2 p hp
    · exact ptsV_at h.2.2.1 h.2.2.2 p hp
def sizeP (l : List Pt) : Nat := sizeL (l.map Pt.x)
theorem sizeP_append (a b : List Pt) : sizeP (a ++ b) = sizeP a + sizeP b := by simp [sizeP, sizeL_append]
theorem len_sizeP (l : List Pt) : l.length ≤ sizeP l := by have := len_sizeL (l.map Pt.x); simpa [sizeP] using this
theorem sizeP_kids {w : World} {x : Nd} (h : Kd w x) : x.size = 1 + sizeP (kidsP x) := by rw [sizeP, kidsP_x h, size_kids]
/-- A row that the call owns has grown: nothing else of the old blocks has turned. -/
def Grew (w w' : World) (v v' : Value) : Prop := w.grownBy w' v.ownBlock ∧ (v'.ownBlock = v.ownBlock ∨ ∀ k, v'.ownBlock = some k → w.heap.size ≤ k)
theorem grown_refl (w : World) (r : Option Nat) : w.grownBy w r := ⟨rfl, rfl, rfl, Nat.le_refl _, fun _ _ _ => rfl⟩
theorem Grew.refl (w : World) (v : Value) : Grew w w v v := ⟨grown_refl w _, .inl rfl⟩
theorem Grew.size {w w' : World} {v v' : Value} (h : Grew w w' v v') : w.heap.size ≤ w'.heap.size := h.1.size
theorem Grew.trans {a b c : World} {u v x : Value} (h : Grew a b u v) (k : Grew b c v x) : Grew a c u x := by
  refine ⟨⟨k.1.os.trans h.1.os, k.1.tape.trans h.1.tape, k.1.output.trans h.1.output, Nat.le_trans h.1.size k.1.size, fun i hi hne => ?_⟩, ?_⟩
  · refine (k.1.block i (Nat.lt_of_lt_of_le hi h.1.size) ?_).trans (h.1.block i hi hne)
    rcases h.2 with e | e
    · rw [e]; exact hne
    · intro e'; have := e i e'.symm; omega
  · rcases k.2 with e | e
    · rw [e]; exact h.2
    · exact .inr fun i hi => Nat.le_trans h.1.size (e i hi)
theorem Grew.alloc (w : World) (v : Value) (o : Obj) : Grew w (w.alloc o) v v := ⟨World.grownBy_alloc w o _, .inl rfl⟩
theorem Grew.of_below {w w' : World} (v : Value) (h : Below w.heap.size w w') : Grew w w' v v := ⟨⟨h.os, h.tape, h.output, h.size, fun k hk _ => h.block k hk⟩, .inl rfl⟩
theorem Grew.of_append {w w' : World} {v v' : Value} (h : w.grownBy w' v.ownBlock) (hat : v'.ownBlock = v.ownBlock ∨ v'.ownBlock = some w.heap.size) : Grew w w' v v' :=
  ⟨h, hat.imp id fun e k hk => by rw [e] at hk; injection hk with hk; omega⟩
theorem Grew.below {B : Nat} {w w' : World} {v v' : Value} (h : Grew w w' v v') (hB : B ≤ w.heap.size) (hv : ∀ k, v.ownBlock = some k → B ≤ k) : Below B w w' :=
  (Below.refl B w).grown h.1 hB hv
theorem Grew.of_nil {w w' : World} {v v' : Value} (h : Grew w w' v v') (hv : v.ownBlock = none) : Below w.heap.size w w' := h.below (Nat.le_refl _) (by simp [hv])
/-- The row of another slice stands as it stood. -/
theorem Grew.other {B : Nat} {e : TypeId} {sz n : Nat} {xs : List Value} {w w' : World} {u v v' : Value} (h : Grew w w' v v') (ho : w.ownsRow B e sz u n xs) (hne : u.ownBlock = none ∨ u.ownBlock ≠ v.ownBlock) : w'.ownsRow B e sz u n xs :=
  ho.kept h.1 hne
theorem Rw.form {w : World} {t : Tg} {v : Value} {l : List Nd} (h : Rw w t v l) : ∃ A cap, v = .slice A l.length cap := by
  obtain ⟨A, cap, hv, _⟩ := h; exact ⟨A, cap, hv⟩
end Go.Proofs.YteogphbdpjnjoaaGreat
