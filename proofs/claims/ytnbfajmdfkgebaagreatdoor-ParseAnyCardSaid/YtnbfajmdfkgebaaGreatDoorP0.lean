/- Parts of the proof: BxA, Tree, Par, ParB, Plain, Text, Lex, TreeA. -/
import Derived.Test.YtnbfajmdfkgebaaGreatDoorProg
import Derived.WalkKit
import Derived.Below
import Derived.Laws.OwnMore
import Derived.Maps.AppendAt
import Derived.WalkSmall
import Derived.Lib.Hide
import Derived.BigCall
import Derived.Deep.RegionWith
import Derived.Lib.OthersKept
import Derived.Lib.RuneBytes
import Derived.Lib.DecodeNEq
import Derived.Lib.RuneCount
import Derived.Lib.Strings
import Derived.Deep.QuietTactic
import Derived.BigQuiet
set_option maxHeartbeats 1000000
set_option maxRecDepth 100000
namespace Go.Proofs.YtnbfajmdfkgebaaGreatDoor
set_option linter.unusedSimpArgs false
set_option linter.unusedVariables false
section
open Go.RowKit
def Bx (w : World) (b : Nat) (cs : Array Value) (T : TypeId) : Prop := w.heap[b]? = some (.cells cs T (0, 0))
theorem Bx.new (w : World) (cs : Array Value) (T : TypeId) : Bx (w.alloc (.cells cs T)) w.heap.size cs T := heap_alloc_new w _
theorem Bx.lt {w : World} {b : Nat} {cs : Array Value} {T : TypeId} (h : Bx w b cs T) : b < w.heap.size := (Array.getElem?_eq_some_iff.1 h).1
theorem Bx.below {w w1 : World} {b B : Nat} {cs : Array Value} {T : TypeId} (h : Bx w b cs T) (hb : Below B w w1) (hB : b < B) : Bx w1 b cs T := (hb.block b hB).trans h
theorem Bx.next {w w1 : World} {b : Nat} {cs : Array Value} {T : TypeId} (h : Bx w b cs T) (hb : Below w.heap.size w w1) : Bx w1 b cs T := h.below hb h.lt
theorem Bx.cell {w : World} {b : Nat} {cs : Array Value} {T : TypeId} (h : Bx w b cs T) (o : Nat) : w.cell? ⟨b, o, none⟩ = cs[o]? := cell_of_row w b o _ T (0, 0) h
theorem Bx.fro {w : World} {b : Nat} {cs : Array Value} {T : TypeId} (h : Bx w b cs T) (o : Nat) : w.frozen? ⟨b, o, none⟩ = false := by
 unfold Bx at h; simp [World.frozen?, h]
theorem Bx.set {w : World} {b : Nat} {cs : Array Value} {T : TypeId} (h : Bx w b cs T) (o : Nat) (u : Value) : Bx (w.setCell ⟨b, o, none⟩ u) b (cs.setIfInBounds o u) T := by
 unfold Bx at h ⊢
 simp [World.setCell, Array.getElem?_modify, h]
theorem below_box {w w1 : World} {o : Obj} (hb : Below (w.alloc o).heap.size (w.alloc o) w1) : Below w.heap.size w w1 :=
 ((Below.refl _ w).alloc (Nat.le_refl _) o).trans (hb.mono (by simp))
theorem own_next {w w' : World} {base e size n : Nat} {v : Value} {xs : List Value} (h : w.ownsRow base e size v n xs) (hb : Below w.heap.size w w') : w'.ownsRow base e size v n xs :=
 h.kept (row := none) ⟨hb.os, hb.tape, hb.output, hb.size, fun k hk _ => hb.block k hk⟩ (by cases v.ownBlock <;> simp)
theorem own_form {w : World} {B sz n : Nat} {e : TypeId} {v : Value} {xs : List Value} (h : w.ownsRow B e sz v n xs) : ∃ A cap, v = .slice A n cap ∧ n ≤ cap := by
 rcases h.2 with ⟨rfl, rfl⟩ | ⟨g, cap, cur, rfl, _, _, hc, _⟩
 · exact ⟨none, 0, rfl, Nat.le_refl _⟩
 · exact ⟨_, cap, rfl, hc⟩
end
section
open Go.RowKit
inductive Nd where
 | ex (k n : Int) (tx nm ty : ByteArray) (v : Value) (l : List Nd) (own : ByteArray) (nth : Int)
 | st (k n : Int) (ty nm : ByteArray) (ve va vb vc : Value) (e a b c : List Nd) (nth : Int)
 | fd (s : Bool) (ty nm : ByteArray) (v : Value) (l : List Nd)
 | mt (s c : Bool) (ty nm : ByteArray) (vp : Value) (ps : List (ByteArray × ByteArray)) (v : Value) (l : List Nd)
 | cl (nm sp : ByteArray) (vf vm : Value) (f m : List Nd)
inductive Tg where
 | ex | st | fd | mt | cl
 deriving DecidableEq
def Tg.sz : Tg → Nat
 | .ex => 8 | .st => 9 | .fd => 4 | .mt => 6 | .cl => 4
def Tg.ptr : Tg → TypeId
 | .ex => 100 | .st => 145 | .fd => 151 | .mt => 148 | .cl => 88
def Nd.tag : Nd → Tg
 | .ex .. => .ex | .st .. => .st | .fd .. => .fd | .mt .. => .mt | .cl .. => .cl
def Nd.kids : Nd → List Nd
 | .ex _ _ _ _ _ _ l _ _ => l
 | .st _ _ _ _ _ _ _ _ e a b c _ => e ++ a ++ b ++ c
 | .fd _ _ _ _ l => l
 | .mt _ _ _ _ _ _ _ l => l
 | .cl _ _ _ _ f m => f ++ m
mutual
def Nd.size : Nd → Nat
 | .ex _ _ _ _ _ _ l _ _ => 1 + sizeL l
 | .st _ _ _ _ _ _ _ _ e a b c _ => 1 + (sizeL e + sizeL a + sizeL b + sizeL c)
 | .fd _ _ _ _ l => 1 + sizeL l
 | .mt _ _ _ _ _ _ _ l => 1 + sizeL l
 | .cl _ _ _ _ f m => 1 + (sizeL f + sizeL m)
def sizeL : List Nd → Nat
 | [] => 0
 | x :: l => x.size + sizeL l
end
theorem sizeL_append (a b : List Nd) : sizeL (a ++ b) = sizeL a + sizeL b := by
 induction a with
 | nil => simp [sizeL]
 | cons x a ih => simp [sizeL, ih]; omega
theorem size_kids (x : Nd) : x.size = 1 + sizeL x.kids := by
 cases x <;> simp [Nd.size, Nd.kids, sizeL_append] <;> omega
theorem size_pos (x : Nd) : 0 < x.size := by rw [size_kids]; omega
theorem len_sizeL : ∀ l : List Nd, l.length ≤ sizeL l
 | [] => by simp
 | x :: l => by have := len_sizeL l; have := size_pos x; simp [sizeL]; omega
theorem size_mem {x : Nd} : ∀ {l : List Nd}, x ∈ l → x.size ≤ sizeL l
 | [], h => by simp at h
 | y :: l, h => by
   rcases List.mem_cons.1 h with rfl | h
   · simp [sizeL]
   · have := size_mem h; simp [sizeL]; omega
def cellsN : Nd → List Value
 | .ex k n tx nm ty v _ own nth => [.int .i64 k, .int .i32 n, .string tx, .string nm, .string ty, v, .string own, .int .i64 nth]
 | .st k n ty nm ve va vb vc _ _ _ _ nth => [.int .i64 k, .int .i32 n, .string ty, .string nm, ve, va, vb, vc, .int .i64 nth]
 | .fd s ty nm v _ => [.bool s, .string ty, .string nm, v]
 | .mt s c ty nm vp _ v _ => [.bool s, .bool c, .string ty, .string nm, vp, v]
 | .cl nm sp vf vm _ _ => [.string nm, .string sp, vf, vm]
theorem cells_len (x : Nd) : (cellsN x).length = x.tag.sz := by cases x <;> rfl
def Keep (w w' : World) : Prop := ∀ p u, w.cell? p = some u → w'.cell? p = some u
theorem Keep.below {w w' : World} (h : Below w.heap.size w w') : Keep w w' := fun p u hu => (h.cell (World.block_lt_of_cell? w p hu)).trans hu
theorem Keep.trans {a b c : World} (h : Keep a b) (k : Keep b c) : Keep a c := fun p u hu => k p u (h p u hu)
def Rw (w : World) (t : Tg) (v : Value) (l : List Nd) : Prop :=
 ∃ A cap, v = .slice A l.length cap ∧ (l.length ≤ maxLen ∧ l.length ≤ cap) ∧ (∀ x ∈ l, x.tag = t) ∧ (0 < l.length → ∃ b o, A = some ⟨b, o, none⟩ ∧ ∀ i x, l[i]? = some x → ∀ j u, (cellsN x)[j]? = some u → w.cell? ⟨b, o + i * t.sz + j, none⟩ = some u)
def Pw (w : World) (v : Value) (l : List (ByteArray × ByteArray)) : Prop :=
 ∃ A cap, v = .slice A l.length cap ∧ l.length ≤ maxLen ∧ (∀ x ∈ l, x.1.size ≤ maxLen ∧ x.2.size ≤ maxLen) ∧ (0 < l.length → ∃ b o, A = some ⟨b, o, none⟩ ∧ ∀ i x, l[i]? = some x → w.cell? ⟨b, o + i * 2, none⟩ = some (.string x.1) ∧ w.cell? ⟨b, o + i * 2 + 1, none⟩ = some (.string x.2))
mutual
def Kd (w : World) : Nd → Prop
 | .ex _ _ tx nm ty v l _ _ => (tx.size ≤ maxLen ∧ nm.size ≤ maxLen ∧ ty.size ≤ maxLen) ∧ Rw w .ex v l ∧ KdL w l
 | .st _ _ ty nm ve va vb vc e a b c _ => (ty.size ≤ maxLen ∧ nm.size ≤ maxLen) ∧ (Rw w .ex ve e ∧ KdL w e) ∧ (Rw w .st va a ∧ KdL w a) ∧ (Rw w .st vb b ∧ KdL w b) ∧ (Rw w .st vc c ∧ KdL w c)
 | .fd _ ty nm v l => (ty.size ≤ maxLen ∧ nm.size ≤ maxLen) ∧ Rw w .ex v l ∧ KdL w l
 | .mt _ _ ty nm vp ps v l => (ty.size ≤ maxLen ∧ nm.size ≤ maxLen) ∧ Pw w vp ps ∧ Rw w .st v l ∧ KdL w l
 | .cl nm sp vf vm f m => (nm.size ≤ maxLen ∧ sp.size ≤ maxLen) ∧ (Rw w .fd vf f ∧ KdL w f) ∧ (Rw w .mt vm m ∧ KdL w m)
def KdL (w : World) : List Nd → Prop
 | [] => True
 | x :: l => Kd w x ∧ KdL w l
end
theorem KdL_mem {w : World} : ∀ {l : List Nd}, KdL w l → ∀ x ∈ l, Kd w x
 | [], _, x, h => by simp at h
 | y :: l, hk, x, h => by
   rcases List.mem_cons.1 h with rfl | h
   · exact hk.1
   · exact KdL_mem hk.2 x h
theorem KdL_of {w : World} : ∀ {l : List Nd}, (∀ x ∈ l, Kd w x) → KdL w l
 | [], _ => trivial
 | y :: l, h => ⟨h y (by simp), KdL_of fun x hx => h x (by simp [hx])⟩
theorem KdL_append {w : World} {a b : List Nd} (h : KdL w a) (k : KdL w b) : KdL w (a ++ b) := KdL_of fun x hx => by
 rcases List.mem_append.1 hx with hx | hx
 · exact KdL_mem h x hx
 · exact KdL_mem k x hx
theorem Rw.keep {w w' : World} (K : Keep w w') {t : Tg} {v : Value} {l : List Nd} (h : Rw w t v l) : Rw w' t v l := by
 obtain ⟨A, cap, hv, hm, ht, hc⟩ := h
 refine ⟨A, cap, hv, hm, ht, fun hn => ?_⟩
 obtain ⟨b, o, hA, hcell⟩ := hc hn
 exact ⟨b, o, hA, fun i x hx j u hu => K _ _ (hcell i x hx j u hu)⟩
theorem Pw.keep {w w' : World} (K : Keep w w') {v : Value} {l : List (ByteArray × ByteArray)} (h : Pw w v l) : Pw w' v l := by
 obtain ⟨A, cap, hv, hm, ht, hc⟩ := h
 refine ⟨A, cap, hv, hm, ht, fun hn => ?_⟩
 obtain ⟨b, o, hA, hcell⟩ := hc hn
 exact ⟨b, o, hA, fun i x hx => ⟨K _ _ (hcell i x hx).1, K _ _ (hcell i x hx).2⟩⟩
mutual
theorem Kd.keep {w w' : World} (K : Keep w w') : ∀ x, Kd w x → Kd w' x
 | .ex _ _ tx nm ty v l _ _, h => by
   rw [Kd] at h ⊢; exact ⟨h.1, h.2.1.keep K, KdL.keep K l h.2.2⟩
 | .st _ _ ty nm ve va vb vc e a b c _, h => by
   rw [Kd] at h ⊢; exact ⟨h.1, ⟨h.2.1.1.keep K, KdL.keep K e h.2.1.2⟩, ⟨h.2.2.1.1.keep K, KdL.keep K a h.2.2.1.2⟩, ⟨h.2.2.2.1.1.keep K, KdL.keep K b h.2.2.2.1.2⟩, ⟨h.2.2.2.2.1.keep K, KdL.keep K c h.2.2.2.2.2⟩⟩
 | .fd _ ty nm v l, h => by
   rw [Kd] at h ⊢; exact ⟨h.1, h.2.1.keep K, KdL.keep K l h.2.2⟩
 | .mt _ _ ty nm vp ps v l, h => by
   rw [Kd] at h ⊢; exact ⟨h.1, h.2.1.keep K, h.2.2.1.keep K, KdL.keep K l h.2.2.2⟩
 | .cl nm sp vf vm f m, h => by
   rw [Kd] at h ⊢; exact ⟨h.1, ⟨h.2.1.1.keep K, KdL.keep K f h.2.1.2⟩, ⟨h.2.2.1.keep K, KdL.keep K m h.2.2.2⟩⟩
theorem KdL.keep {w w' : World} (K : Keep w w') : ∀ l, KdL w l → KdL w' l
 | [], _ => trivial
 | x :: l, h => ⟨Kd.keep K x h.1, KdL.keep K l h.2⟩
end
structure Pt where
 b : Nat
 o : Nat
 x : Nd
def Pt.at_ (w : World) (p : Pt) : Prop := (∀ j u, (cellsN p.x)[j]? = some u → w.cell? ⟨p.b, p.o + j, none⟩ = some u) ∧ Kd w p.x
theorem Pt.at_.keep {w w' : World} (K : Keep w w') {p : Pt} (h : p.at_ w) : p.at_ w' := ⟨fun j u hu => K _ _ (h.1 j u hu), Kd.keep K _ h.2⟩
def ptV (p : Pt) : Value := .iface p.x.tag.ptr (.pointer (some ⟨p.b, p.o, none⟩))
def pts (b o sz : Nat) : List Nd → List Pt
 | [] => []
 | x :: l => ⟨b, o, x⟩ :: pts b (o + sz) sz l
def ptsV (t : Tg) (v : Value) (l : List Nd) : List Pt :=
 match v with
 | .slice (some a) _ _ => pts a.block a.off t.sz l
 | _ => []
theorem pts_x (b sz : Nat) : ∀ (l : List Nd) (o : Nat), (pts b o sz l).map Pt.x = l
 | [], _ => rfl
 | x :: l, o => by simp [pts, pts_x b sz l]
theorem pts_get (b sz : Nat) : ∀ (l : List Nd) (o i : Nat), (pts b o sz l)[i]? = (l[i]?).map fun x => ⟨b, o + i * sz, x⟩
 | [], _, _ => by simp [pts]
 | x :: l, o, 0 => by simp [pts]
 | x :: l, o, i + 1 => by
   simp only [pts, List.getElem?_cons_succ, pts_get b sz l (o + sz) i]
   congr 1; funext y; rw [Nat.add_mul]; congr 1; omega
theorem ptsV_x {w : World} {t : Tg} {v : Value} {l : List Nd} (h : Rw w t v l) : (ptsV t v l).map Pt.x = l := by
 obtain ⟨A, cap, rfl, _, _, hc⟩ := h
 cases A with
 | none =>
   rcases Nat.eq_zero_or_pos l.length with h0 | h0
   · have : l = [] := List.eq_nil_of_length_eq_zero h0
     subst this; rfl
   · obtain ⟨b, o, h, _⟩ := hc h0; cases h
 | some a => exact pts_x _ _ _ _
theorem ptsV_len {w : World} {t : Tg} {v : Value} {l : List Nd} (h : Rw w t v l) : (ptsV t v l).length = l.length := by
 have := congrArg List.length (ptsV_x h); simpa using this
theorem ptsV_at {w : World} {t : Tg} {v : Value} {l : List Nd} (h : Rw w t v l) (hk : KdL w l) : ∀ p ∈ ptsV t v l, p.at_ w := by
 intro p hp
 obtain ⟨A, cap, rfl, _, _, hc⟩ := h
 cases A with
 | none => simp [ptsV] at hp
 | some a =>
   simp only [ptsV] at hp
   obtain ⟨i, hi⟩ := List.getElem?_of_mem hp
   rw [pts_get] at hi
   cases hx : l[i]? with
   | none => simp [hx] at hi
   | some x =>
     simp only [hx, Option.map_some, Option.some.injEq] at hi
     have hil : i < l.length := (List.getElem?_eq_some_iff.1 hx).1
     obtain ⟨b, o, hA, hcell⟩ := hc (by omega)
     injection hA with hA
     subst hA
     subst hi
     exact ⟨hcell i x hx, KdL_mem hk x (List.mem_of_getElem? hx)⟩
def kidsP : Nd → List Pt
 | .ex _ _ _ _ _ v l _ _ => ptsV .ex v l
 | .st _ _ _ _ ve va vb vc e a b c _ => ptsV .ex ve e ++ ptsV .st va a ++ ptsV .st vb b ++ ptsV .st vc c
 | .fd _ _ _ v l => ptsV .ex v l
 | .mt _ _ _ _ _ _ v l => ptsV .st v l
 | .cl _ _ vf vm f m => ptsV .fd vf f ++ ptsV .mt vm m
theorem kidsP_x {w : World} {x : Nd} (h : Kd w x) : (kidsP x).map Pt.x = x.kids := by
 cases x <;> rw [Kd] at h
 · exact ptsV_x h.2.1
 · simp only [kidsP, Nd.kids, List.map_append]
   rw [ptsV_x h.2.1.1, ptsV_x h.2.2.1.1, ptsV_x h.2.2.2.1.1, ptsV_x h.2.2.2.2.1]
 · exact ptsV_x h.2.1
 · exact ptsV_x h.2.2.1
 · simp only [kidsP, Nd.kids, List.map_append]
   rw [ptsV_x h.2.1.1, ptsV_x h.2.2.1]
theorem kidsP_at {w : World} {x : Nd} (h : Kd w x) : ∀ p ∈ kidsP x, p.at_ w := by
 intro p hp
 cases x <;> rw [Kd] at h <;> simp only [kidsP, List.mem_append] at hp
 · exact ptsV_at h.2.1 h.2.2 p hp
 · rcases hp with ((hp | hp) | hp) | hp
   · exact ptsV_at h.2.1.1 h.2.1.2 p hp
   · exact ptsV_at h.2.2.1.1 h.2.2.1.2 p hp
   · exact ptsV_at h.2.2.2.1.1 h.2.2.2.1.2 p hp
   · exact ptsV_at h.2.2.2.2.1 h.2.2.2.2.2 p hp
 · exact ptsV_at h.2.1 h.2.2 p hp
 · exact ptsV_at h.2.2.1 h.2.2.2 p hp
 · rcases hp with hp | hp
   · exact ptsV_at h.2.1.1 h.2.1.2 p hp
   · exact ptsV_at h.2.2.1 h.2.2.2 p hp
def sizeP (l : List Pt) : Nat := sizeL (l.map Pt.x)
theorem sizeP_append (a b : List Pt) : sizeP (a ++ b) = sizeP a + sizeP b := by simp [sizeP, sizeL_append]
theorem len_sizeP (l : List Pt) : l.length ≤ sizeP l := by have := len_sizeL (l.map Pt.x); simpa [sizeP] using this
theorem sizeP_kids {w : World} {x : Nd} (h : Kd w x) : x.size = 1 + sizeP (kidsP x) := by rw [sizeP, kidsP_x h, size_kids]
def Grew (w w' : World) (v v' : Value) : Prop := w.grownBy w' v.ownBlock ∧ (v'.ownBlock = v.ownBlock ∨ ∀ k, v'.ownBlock = some k → w.heap.size ≤ k)
theorem grown_refl (w : World) (r : Option Nat) : w.grownBy w r := ⟨rfl, rfl, rfl, Nat.le_refl _, fun _ _ _ => rfl⟩
theorem Grew.refl (w : World) (v : Value) : Grew w w v v := ⟨grown_refl w _, .inl rfl⟩
theorem Grew.size {w w' : World} {v v' : Value} (h : Grew w w' v v') : w.heap.size ≤ w'.heap.size := h.1.size
theorem Grew.trans {a b c : World} {u v x : Value} (h : Grew a b u v) (k : Grew b c v x) : Grew a c u x := by
 refine ⟨⟨k.1.os.trans h.1.os, k.1.tape.trans h.1.tape, k.1.output.trans h.1.output, Nat.le_trans h.1.size k.1.size, fun i hi hne => ?_⟩, ?_⟩
 · refine (k.1.block i (Nat.lt_of_lt_of_le hi h.1.size) ?_).trans (h.1.block i hi hne)
   rcases h.2 with e | e
   · rw [e]; exact hne
   · intro e'; have := e i e'.symm; omega
 · rcases k.2 with e | e
   · rw [e]; exact h.2
   · exact .inr fun i hi => Nat.le_trans h.1.size (e i hi)
theorem Grew.alloc (w : World) (v : Value) (o : Obj) : Grew w (w.alloc o) v v := ⟨World.grownBy_alloc w o _, .inl rfl⟩
theorem Grew.of_append {w w' : World} {v v' : Value} (h : w.grownBy w' v.ownBlock) (hat : v'.ownBlock = v.ownBlock ∨ v'.ownBlock = some w.heap.size) : Grew w w' v v' :=
 ⟨h, hat.imp id fun e k hk => by rw [e] at hk; injection hk with hk; omega⟩
theorem Grew.below {B : Nat} {w w' : World} {v v' : Value} (h : Grew w w' v v') (hB : B ≤ w.heap.size) (hv : ∀ k, v.ownBlock = some k → B ≤ k) : Below B w w' :=
 (Below.refl B w).grown h.1 hB hv
theorem Grew.of_nil {w w' : World} {v v' : Value} (h : Grew w w' v v') (hv : v.ownBlock = none) : Below w.heap.size w w' := h.below (Nat.le_refl _) (by simp [hv])
theorem Rw.form {w : World} {t : Tg} {v : Value} {l : List Nd} (h : Rw w t v l) : ∃ A cap, v = .slice A l.length cap := by
 obtain ⟨A, cap, hv, _⟩ := h; exact ⟨A, cap, hv⟩
end
section
open Go.RowKit
inductive Pr where
 | fx (t : ByteArray) | nm (t : ByteArray) | cl (t : ByteArray) | nu (t : ByteArray) | qu (t : ByteArray)
def Pr.V : Pr → Value
 | .fx t => .iface 107 (.string t)
 | .nm t => .iface 134 (.string t)
 | .cl t => .iface 135 (.string t)
 | .nu t => .iface 105 (.string t)
 | .qu t => .iface 106 (.string t)
def Pr.text : Pr → ByteArray
 | .fx t | .nm t | .cl t | .nu t | .qu t => t
abbrev Pl := Pr × Int
structure RS where
 ws : List Pl
 sz : Int
 op : Int
 wc : Int
 wa : Int
 lc : Int
 la : Int
def atW (sz : Int) : List Pl → Int
 | [] => sz
 | x :: _ => x.2
def RS.at (r : RS) : Int := atW r.sz r.ws
def aheadV (l : List Pl) (n : Nat) : Value := match l[n]? with | some x => x.1.V | none => .nilIface
def seesP (s : ByteArray) : Option Pl → Bool
 | some (.fx t, _) => t.toList == s.toList
 | _ => false
def RS.sees (r : RS) (n : Nat) (s : ByteArray) : Bool := seesP s r.ws[n]?
def RS.skip (r : RS) : RS := { r with ws := r.ws.drop 1 }
def RS.fail (r : RS) (c : Int) : RS := if r.wc = 0 then { r with ws := [], wc := c, wa := r.at } else { r with ws := [] }
def RS.take (r : RS) (s : ByteArray) : RS := if r.sees 0 s then r.skip else r
def RS.need (r : RS) (s : ByteArray) : RS := if r.sees 0 s then r.skip else r.fail 3
def RS.fin (r : RS) : RS := if r.ws.isEmpty then r else r.fail 3
def RS.until (r : RS) (s : ByteArray) : Bool := !r.ws.isEmpty && !r.sees 0 s
def Ww (w : World) (v : Value) (l : List Pl) : Prop :=
 ∃ A cap, v = .slice A l.length cap ∧ (l.length ≤ 1000000 ∧ l.length ≤ cap ∧ cap ≤ maxLen) ∧ (∀ x ∈ l, x.1.text.size ≤ 1000000) ∧ (0 < l.length → ∃ b o, A = some ⟨b, o, none⟩ ∧ ∀ i x, l[i]? = some x → w.cell? ⟨b, o + i * 2, none⟩ = some x.1.V ∧ w.cell? ⟨b, o + i * 2 + 1, none⟩ = some (.int .i64 x.2))
theorem Ww.nil (w : World) : Ww w (.slice none 0 0) [] := ⟨none, 0, rfl, by unfold maxLen; simp, by simp, fun h => by simp at h⟩
theorem Ww.empt (w : World) (A : Option Addr) (c : Nat) (hc : c ≤ maxLen) : Ww w (.slice A 0 c) [] := ⟨A, c, rfl, by simp; omega, by simp, fun h => by simp at h⟩
theorem Ww.form {w : World} {v : Value} {l : List Pl} (h : Ww w v l) : ∃ A cap, v = .slice A l.length cap ∧ l.length ≤ cap ∧ cap ≤ maxLen ∧ l.length ≤ 1000000 := by
 obtain ⟨A, cap, hv, hm, _⟩ := h; exact ⟨A, cap, hv, hm.2.1, hm.2.2, hm.1⟩
theorem Ww.get {w : World} {A : Option Addr} {n cap : Nat} {l : List Pl} (h : Ww w (.slice A n cap) l) {k : Nat} (hk : k < n) : ∃ b o x, A = some ⟨b, o, none⟩ ∧ l[k]? = some x ∧ w.cell? ⟨b, o + k * 2, none⟩ = some x.1.V ∧ w.cell? ⟨b, o + k * 2 + 1, none⟩ = some (.int .i64 x.2) := by
 obtain ⟨A', cap', hv, _, _, hc⟩ := h
 injection hv with h1 h2 h3
 obtain ⟨b, o, hA, hcell⟩ := hc (by omega)
 have hl : k < l.length := by omega
 exact ⟨b, o, l[k], h1.trans hA, List.getElem?_eq_getElem hl, hcell k _ (List.getElem?_eq_getElem hl)⟩
theorem Ww.tail {w : World} {b o n cap : Nat} {x : Pl} {l : List Pl} (h : Ww w (.slice (some ⟨b, o, none⟩) n cap) (x :: l)) : Ww w (.slice (some ⟨b, o + 2, none⟩) (n - 1) (cap - 1)) l := by
 obtain ⟨A', cap', hv, hm, ht, hc⟩ := h
 injection hv with h1 h2 h3
 obtain ⟨b', o', hA, hcell⟩ := hc (by simp)
 rw [← h1] at hA
 injection hA with hA
 injection hA with hb ho
 subst hb ho
 simp only [List.length_cons] at h2 hm
 refine ⟨some ⟨b, o + 2, none⟩, cap - 1, by rw [h2]; simp, by omega, fun y hy => ht y (by simp [hy]), fun hn => ⟨b, o + 2, rfl, fun i y hy => ?_⟩⟩
 have := hcell (i + 1) y (by simpa using hy)
 have e1 : o + (i + 1) * 2 = o + 2 + i * 2 := by omega
 rw [e1] at this
 exact this
def KB (c : Nat) (W0 w : World) : Prop := W0.grownBy w (some c)
theorem KB.size {c : Nat} {W0 w : World} (h : KB c W0 w) : W0.heap.size ≤ w.heap.size := World.grownBy.size h
theorem KB.drew {c : Nat} {W0 w : World} (h : KB c W0 w) : KB c W0 w.drew := ⟨h.os, h.tape, h.output, h.size, h.block⟩
theorem KB.trans {c : Nat} {W0 w w' : World} (h : KB c W0 w) (hb : Below W0.heap.size w w') : KB c W0 w' :=
 ⟨hb.os.trans (World.grownBy.os h), hb.tape.trans (World.grownBy.tape h), hb.output.trans (World.grownBy.output h), Nat.le_trans h.size hb.size, fun k hk hne => (hb.block k hk).trans (World.grownBy.block h k hk hne)⟩
theorem KB.grown {c : Nat} {W0 w w' : World} {o : Option Nat} (h : KB c W0 w) (hg : w.grownBy w' o) (hs : W0.heap.size ≤ w.heap.size) (ho : ∀ k, o = some k → W0.heap.size ≤ k) : KB c W0 w' :=
 ⟨hg.os.trans (World.grownBy.os h), hg.tape.trans (World.grownBy.tape h), hg.output.trans (World.grownBy.output h), Nat.le_trans h.size hg.size, fun k hk hne => (hg.block k (Nat.lt_of_lt_of_le hk hs) (fun e => by have := ho k e.symm; omega)).trans (World.grownBy.block h k hk hne)⟩
def NB (W0 : World) (c : Nat) : Prop := ∃ (A : Option Addr) (n cp : Nat) (x1 x2 x3 x4 x5 x6 : Int), Bx W0 c #[.slice A n cp, .int .i64 x1, .int .i64 x2, .int .i64 x3, .int .i64 x4, .int .i64 x5, .int .i64 x6] 57
theorem NB.no {W0 : World} {c : Nat} (h : NB W0 c) {j : Nat} {T : TypeId} {u : Value} : W0.cell? ⟨c, j, none⟩ ≠ some (.iface T u) := by
 obtain ⟨A, n, cp, x1, x2, x3, x4, x5, x6, hx⟩ := h
 intro e
 rw [hx.cell] at e
 rcases j with _ | _ | _ | _ | _ | _ | _ | j <;> simp at e
theorem NB.nonil {W0 : World} {c : Nat} (h : NB W0 c) {j : Nat} : W0.cell? ⟨c, j, none⟩ ≠ some .nilIface := by
 obtain ⟨A, n, cp, x1, x2, x3, x4, x5, x6, hx⟩ := h
 intro e
 rw [hx.cell] at e
 rcases j with _ | _ | _ | _ | _ | _ | _ | j <;> simp at e
def Rd (W0 : World) (c : Nat) (s : RS) (w : World) : Prop :=
 KB c W0 w ∧ NB W0 c ∧ ∃ v, Ww W0 v s.ws ∧ Bx w c #[v, .int .i64 s.sz, .int .i64 s.op, .int .i64 s.wc, .int .i64 s.wa, .int .i64 s.lc, .int .i64 s.la] 57
def Mv (W0 : World) (c : Nat) (s : RS) (w w' : World) : Prop := w.grownBy w' (some c) ∧ Rd W0 c s w'
theorem Rd.drew {W0 w : World} {c : Nat} {s : RS} (h : Rd W0 c s w) : Rd W0 c s w.drew := ⟨h.1.drew, h.2.1, h.2.2⟩
theorem Mv.refl {W0 w : World} {c : Nat} {s : RS} (h : Rd W0 c s w) : Mv W0 c s w w := ⟨⟨rfl, rfl, rfl, Nat.le_refl _, fun _ _ _ => rfl⟩, h⟩
theorem Mv.trans {W0 a b d : World} {c : Nat} {s t : RS} (h : Mv W0 c s a b) (k : Mv W0 c t b d) : Mv W0 c t a d := ⟨h.1.trans k.1, k.2⟩
theorem KB.setCell {c o : Nat} {W0 w : World} (h : KB c W0 w) (_ : NB W0 c) (u : Value) : KB c W0 (w.setCell ⟨c, o, none⟩ u) :=
 World.grownBy.trans h ⟨rfl, rfl, rfl, by simp, fun k hk hne => Below.heap_setCell w _ u k (fun e => hne (by rw [e]))⟩
theorem Rd.le {W0 w : World} {c : Nat} {s : RS} (h : Rd W0 c s w) : W0.heap.size ≤ w.heap.size := h.1.size
theorem Rd.lies {W0 w : World} {c : Nat} {s : RS} (h : Rd W0 c s w) {v : Value} {l : List Pl} (hw : Ww W0 v l) : Ww w v l := by
 obtain ⟨A, cap, hv, hm, ht, hc⟩ := hw
 refine ⟨A, cap, hv, hm, ht, fun hn => ?_⟩
 obtain ⟨b, o, hA, hcell⟩ := hc hn
 obtain ⟨x, l', rfl⟩ := List.exists_cons_of_ne_nil (List.ne_nil_of_length_pos hn)
 have hbc : b ≠ c := by
   rintro rfl
   have h0 := (hcell 0 x rfl).1
   cases hx : x.1 <;> rw [hx] at h0 <;> exact h.2.1.no h0
 have key : ∀ j u, W0.cell? ⟨b, j, none⟩ = some u → w.cell? ⟨b, j, none⟩ = some u := fun j u hu =>
   (World.cell?_of_block (a := ⟨b, j, none⟩) (World.grownBy.block h.1 b (World.block_lt_of_cell? W0 (a := ⟨b, j, none⟩) hu) (by simpa using hbc))).trans hu
 exact ⟨b, o, hA, fun i y hy => ⟨key _ _ (hcell i y hy).1, key _ _ (hcell i y hy).2⟩⟩
theorem grown_setc (w : World) (c o : Nat) (u : Value) : w.grownBy (w.setCell ⟨c, o, none⟩ u) (some c) :=
 ⟨rfl, rfl, rfl, by simp, fun k hk hne => Below.heap_setCell w _ u k (fun e => hne (by rw [e]))⟩
theorem fault_is (w : World) (x y : Int) : Calls Tryz.prog 15 #[.agg #[.int .i64 x, .int .i64 y]] w fun e w' => e = .returned (.bool (x != 0)) ∧ w' = w.alloc (.cells #[.int .i64 x, .int .i64 y] 53) := by
 go_enter Tryz.func15, Tryz.ntmps15
 go_wp2
 go_ret
 exact ⟨rfl, rfl⟩
end
section
open Go.RowKit
@[go_sem] theorem is_fx_fx (v : Value) (w : World) : (Instr.typeAssert (.iface 107 v) 79 107 true).run Tryz.prog w = .ok (.tuple #[v, .bool true]) w := by kernel_rfl
@[go_sem] theorem is_fx_nm (v : Value) (w : World) : (Instr.typeAssert (.iface 107 v) 79 134 true).run Tryz.prog w = .ok (.tuple #[.string ⟨#[]⟩, .bool false]) w := by kernel_rfl
@[go_sem] theorem is_fx_cl (v : Value) (w : World) : (Instr.typeAssert (.iface 107 v) 79 135 true).run Tryz.prog w = .ok (.tuple #[.string ⟨#[]⟩, .bool false]) w := by kernel_rfl
@[go_sem] theorem is_fx_nu (v : Value) (w : World) : (Instr.typeAssert (.iface 107 v) 79 105 true).run Tryz.prog w = .ok (.tuple #[.string ⟨#[]⟩, .bool false]) w := by kernel_rfl
@[go_sem] theorem is_fx_qu (v : Value) (w : World) : (Instr.typeAssert (.iface 107 v) 79 106 true).run Tryz.prog w = .ok (.tuple #[.string ⟨#[]⟩, .bool false]) w := by kernel_rfl
@[go_sem] theorem is_nm_fx (v : Value) (w : World) : (Instr.typeAssert (.iface 134 v) 79 107 true).run Tryz.prog w = .ok (.tuple #[.string ⟨#[]⟩, .bool false]) w := by kernel_rfl
@[go_sem] theorem is_nm_nm (v : Value) (w : World) : (Instr.typeAssert (.iface 134 v) 79 134 true).run Tryz.prog w = .ok (.tuple #[v, .bool true]) w := by kernel_rfl
@[go_sem] theorem is_nm_cl (v : Value) (w : World) : (Instr.typeAssert (.iface 134 v) 79 135 true).run Tryz.prog w = .ok (.tuple #[.string ⟨#[]⟩, .bool false]) w := by kernel_rfl
@[go_sem] theorem is_nm_nu (v : Value) (w : World) : (Instr.typeAssert (.iface 134 v) 79 105 true).run Tryz.prog w = .ok (.tuple #[.string ⟨#[]⟩, .bool false]) w := by kernel_rfl
@[go_sem] theorem is_nm_qu (v : Value) (w : World) : (Instr.typeAssert (.iface 134 v) 79 106 true).run Tryz.prog w = .ok (.tuple #[.string ⟨#[]⟩, .bool false]) w := by kernel_rfl
@[go_sem] theorem is_cl_fx (v : Value) (w : World) : (Instr.typeAssert (.iface 135 v) 79 107 true).run Tryz.prog w = .ok (.tuple #[.string ⟨#[]⟩, .bool false]) w := by kernel_rfl
@[go_sem] theorem is_cl_nm (v : Value) (w : World) : (Instr.typeAssert (.iface 135 v) 79 134 true).run Tryz.prog w = .ok (.tuple #[.string ⟨#[]⟩, .bool false]) w := by kernel_rfl
@[go_sem] theorem is_cl_cl (v : Value) (w : World) : (Instr.typeAssert (.iface 135 v) 79 135 true).run Tryz.prog w = .ok (.tuple #[v, .bool true]) w := by kernel_rfl
@[go_sem] theorem is_cl_nu (v : Value) (w : World) : (Instr.typeAssert (.iface 135 v) 79 105 true).run Tryz.prog w = .ok (.tuple #[.string ⟨#[]⟩, .bool false]) w := by kernel_rfl
@[go_sem] theorem is_cl_qu (v : Value) (w : World) : (Instr.typeAssert (.iface 135 v) 79 106 true).run Tryz.prog w = .ok (.tuple #[.string ⟨#[]⟩, .bool false]) w := by kernel_rfl
@[go_sem] theorem is_nu_fx (v : Value) (w : World) : (Instr.typeAssert (.iface 105 v) 79 107 true).run Tryz.prog w = .ok (.tuple #[.string ⟨#[]⟩, .bool false]) w := by kernel_rfl
@[go_sem] theorem is_nu_nm (v : Value) (w : World) : (Instr.typeAssert (.iface 105 v) 79 134 true).run Tryz.prog w = .ok (.tuple #[.string ⟨#[]⟩, .bool false]) w := by kernel_rfl
@[go_sem] theorem is_nu_cl (v : Value) (w : World) : (Instr.typeAssert (.iface 105 v) 79 135 true).run Tryz.prog w = .ok (.tuple #[.string ⟨#[]⟩, .bool false]) w := by kernel_rfl
@[go_sem] theorem is_nu_nu (v : Value) (w : World) : (Instr.typeAssert (.iface 105 v) 79 105 true).run Tryz.prog w = .ok (.tuple #[v, .bool true]) w := by kernel_rfl
@[go_sem] theorem is_nu_qu (v : Value) (w : World) : (Instr.typeAssert (.iface 105 v) 79 106 true).run Tryz.prog w = .ok (.tuple #[.string ⟨#[]⟩, .bool false]) w := by kernel_rfl
@[go_sem] theorem is_qu_fx (v : Value) (w : World) : (Instr.typeAssert (.iface 106 v) 79 107 true).run Tryz.prog w = .ok (.tuple #[.string ⟨#[]⟩, .bool false]) w := by kernel_rfl
@[go_sem] theorem is_qu_nm (v : Value) (w : World) : (Instr.typeAssert (.iface 106 v) 79 134 true).run Tryz.prog w = .ok (.tuple #[.string ⟨#[]⟩, .bool false]) w := by kernel_rfl
@[go_sem] theorem is_qu_cl (v : Value) (w : World) : (Instr.typeAssert (.iface 106 v) 79 135 true).run Tryz.prog w = .ok (.tuple #[.string ⟨#[]⟩, .bool false]) w := by kernel_rfl
@[go_sem] theorem is_qu_nu (v : Value) (w : World) : (Instr.typeAssert (.iface 106 v) 79 105 true).run Tryz.prog w = .ok (.tuple #[.string ⟨#[]⟩, .bool false]) w := by kernel_rfl
@[go_sem] theorem is_qu_qu (v : Value) (w : World) : (Instr.typeAssert (.iface 106 v) 79 106 true).run Tryz.prog w = .ok (.tuple #[v, .bool true]) w := by kernel_rfl
@[go_sem] theorem is_no_fx (w : World) : (Instr.typeAssert .nilIface 79 107 true).run Tryz.prog w = .ok (.tuple #[.string ⟨#[]⟩, .bool false]) w := by kernel_rfl
@[go_sem] theorem is_no_nm (w : World) : (Instr.typeAssert .nilIface 79 134 true).run Tryz.prog w = .ok (.tuple #[.string ⟨#[]⟩, .bool false]) w := by kernel_rfl
@[go_sem] theorem is_no_cl (w : World) : (Instr.typeAssert .nilIface 79 135 true).run Tryz.prog w = .ok (.tuple #[.string ⟨#[]⟩, .bool false]) w := by kernel_rfl
@[go_sem] theorem is_no_nu (w : World) : (Instr.typeAssert .nilIface 79 105 true).run Tryz.prog w = .ok (.tuple #[.string ⟨#[]⟩, .bool false]) w := by kernel_rfl
@[go_sem] theorem is_no_qu (w : World) : (Instr.typeAssert .nilIface 79 106 true).run Tryz.prog w = .ok (.tuple #[.string ⟨#[]⟩, .bool false]) w := by kernel_rfl
end
section
def small (r : Int) : Bool := decide (97 ≤ r) && decide (r ≤ 122)
def big (r : Int) : Bool := decide (65 ≤ r) && decide (r ≤ 90)
def digit (r : Int) : Bool := decide (48 ≤ r) && decide (r ≤ 57)
def alnum (r : Int) : Bool := small r || (big r || digit r)
def keptWords : List (List UInt8) :=
 [[98, 111, 111, 108, 101, 97, 110], [105, 110, 116], [118, 111, 105, 100], [99, 108, 97, 115, 115], [101, 120, 116, 101, 110, 100, 115], [115, 116, 97, 116, 105, 99], [110, 101, 119], [116, 104, 105, 115], [115, 117, 112, 101, 114], [110, 117, 108, 108], [116, 114, 117, 101], [102, 97, 108, 115, 101], [105, 102], [101, 108, 115, 101], [119, 104, 105, 108, 101], [114, 101, 116, 117, 114, 110], [112, 114, 105, 110, 116], [97, 115, 115, 101, 114, 116], [116, 104, 114, 111, 119], [116, 114, 121], [99, 97, 116, 99, 104], [102, 105, 110, 97, 108, 108, 121], [97, 115], [105, 115]]
def kept (l : List UInt8) : Bool := keptWords.contains l
def letter (r : Int) : Int := if r = 10 then 110 else r
def must (r : Int) : Bool := r == 34 || (r == 92 || r == 10)
/-! ### Bytes -/
def bt (s : ByteArray) (i : Nat) : Nat := (s.get! i).toNat
theorem bt_lt (s : ByteArray) (i : Nat) : bt s i < 256 := (s.get! i).toNat_lt
theorem get_eq (s : ByteArray) (i : Nat) (h : i < s.size) : s.get! i = s[i]'h := get_at s i h
theorem bt_eq (s : ByteArray) (i : Nat) (h : i < s.size) : (s[i]'h).toNat = bt s i := by rw [bt, get_eq s i h]
/-! ### The classes of a rune's bytes -/
def C2 (n b0 b1 : Nat) : Prop := 194 ≤ b0 ∧ b0 ≤ 223 ∧ 2 ≤ n ∧ 128 ≤ b1 ∧ b1 ≤ 191
def C3 (n b0 b1 b2 : Nat) : Prop := 224 ≤ b0 ∧ b0 ≤ 239 ∧ 3 ≤ n ∧ 128 ≤ b1 ∧ b1 ≤ 191 ∧ (b0 = 224 → 160 ≤ b1) ∧ (b0 = 237 → b1 ≤ 159) ∧ 128 ≤ b2 ∧ b2 ≤ 191
def C4 (n b0 b1 b2 b3 : Nat) : Prop := 240 ≤ b0 ∧ b0 ≤ 244 ∧ 4 ≤ n ∧ 128 ≤ b1 ∧ b1 ≤ 191 ∧ (b0 = 240 → 144 ≤ b1) ∧ (b0 = 244 → b1 ≤ 143) ∧ 128 ≤ b2 ∧ b2 ≤ 191 ∧ 128 ≤ b3 ∧ b3 ≤ 191
theorem dec1 (n b0 b1 b2 b3 : Nat) (h : b0 < 128) : Lib.decodeN n b0 b1 b2 b3 = (b0, 1) := by simp [Lib.decodeN, h]
theorem dec2 (n b0 b1 b2 b3 : Nat) (h : C2 n b0 b1) : Lib.decodeN n b0 b1 b2 b3 = ((b0 - 192) * 64 + (b1 - 128), 2) := by
 obtain ⟨h1, h2, h3, h4, h5⟩ := h
 have e1 : b0 % 32 = b0 - 192 := by omega
 have e2 : b1 % 64 = b1 - 128 := by omega
 have a1 : ¬ b0 < 128 := by omega
 have a2 : b0 / 32 = 6 ∧ (1 < n ∧ b1 / 64 = 2) := by omega
 have a3 : (b0 - 192) * 64 + (b1 - 128) ≥ 128 := by omega
 simp only [Lib.decodeN, if_neg a1, if_pos a2, e1, e2, if_pos a3]
theorem dec3 (n b0 b1 b2 b3 : Nat) (h : C3 n b0 b1 b2) : Lib.decodeN n b0 b1 b2 b3 = ((b0 - 224) * 4096 + (b1 - 128) * 64 + (b2 - 128), 3) := by
 obtain ⟨h1, h2, h3, h4, h5, h6, h7, h8, h9⟩ := h
 have e1 : b0 % 16 = b0 - 224 := by omega
 have e2 : b1 % 64 = b1 - 128 := by omega
 have e3 : b2 % 64 = b2 - 128 := by omega
 have a1 : ¬ b0 < 128 := by omega
 have a2 : ¬ (b0 / 32 = 6 ∧ (1 < n ∧ b1 / 64 = 2)) := by omega
 have a3 : b0 / 16 = 14 ∧ (1 < n ∧ b1 / 64 = 2) ∧ (2 < n ∧ b2 / 64 = 2) := by omega
 have a4 : (b0 - 224) * 4096 + (b1 - 128) * 64 + (b2 - 128) ≥ 2048 ∧ ((b0 - 224) * 4096 + (b1 - 128) * 64 + (b2 - 128) < 55296 ∨ (57344 ≤ (b0 - 224) * 4096 + (b1 - 128) * 64 + (b2 - 128) ∧ (b0 - 224) * 4096 + (b1 - 128) * 64 + (b2 - 128) ≤ 1114111)) := by
   by_cases g1 : b0 = 224
   · have := h6 g1; omega
   · by_cases g2 : b0 = 237
     · have := h7 g2; omega
     · omega
 simp only [Lib.decodeN, if_neg a1, if_neg a2, if_pos a3, e1, e2, e3, if_pos a4]
theorem dec4 (n b0 b1 b2 b3 : Nat) (h : C4 n b0 b1 b2 b3) : Lib.decodeN n b0 b1 b2 b3 = ((b0 - 240) * 262144 + (b1 - 128) * 4096 + (b2 - 128) * 64 + (b3 - 128), 4) := by
 obtain ⟨h1, h2, h3, h4, h5, h6, h7, h8, h9, h10, h11⟩ := h
 have e1 : b0 % 8 = b0 - 240 := by omega
 have e2 : b1 % 64 = b1 - 128 := by omega
 have e3 : b2 % 64 = b2 - 128 := by omega
 have e4 : b3 % 64 = b3 - 128 := by omega
 have a1 : ¬ b0 < 128 := by omega
 have a2 : ¬ (b0 / 32 = 6 ∧ (1 < n ∧ b1 / 64 = 2)) := by omega
 have a3 : ¬ (b0 / 16 = 14 ∧ (1 < n ∧ b1 / 64 = 2) ∧ (2 < n ∧ b2 / 64 = 2)) := by omega
 have a4 : b0 / 8 = 30 ∧ (1 < n ∧ b1 / 64 = 2) ∧ (2 < n ∧ b2 / 64 = 2) ∧ (3 < n ∧ b3 / 64 = 2) := by omega
 have a5 : (b0 - 240) * 262144 + (b1 - 128) * 4096 + (b2 - 128) * 64 + (b3 - 128) ≥ 65536 ∧ ((b0 - 240) * 262144 + (b1 - 128) * 4096 + (b2 - 128) * 64 + (b3 - 128) < 55296 ∨ (57344 ≤ (b0 - 240) * 262144 + (b1 - 128) * 4096 + (b2 - 128) * 64 + (b3 - 128) ∧ (b0 - 240) * 262144 + (b1 - 128) * 4096 + (b2 - 128) * 64 + (b3 - 128) ≤ 1114111)) := by
   by_cases g1 : b0 = 240
   · have := h6 g1; omega
   · by_cases g2 : b0 = 244
     · have := h7 g2; omega
     · omega
 simp only [Lib.decodeN, if_neg a1, if_neg a2, if_neg a3, if_pos a4, e1, e2, e3, e4, if_pos a5]
theorem dec0 (n b0 b1 b2 b3 : Nat) (i0 : b0 < 256) (i1 : b1 < 256) (i2 : b2 < 256) (i3 : b3 < 256) (h : 128 ≤ b0) (h2 : ¬ C2 n b0 b1) (h3 : ¬ C3 n b0 b1 b2) (h4 : ¬ C4 n b0 b1 b2 b3) : Lib.decodeN n b0 b1 b2 b3 = (65533, 1) := by
 have a1 : ¬ b0 < 128 := by omega
 unfold C2 at h2
 unfold C3 at h3
 unfold C4 at h4
 simp only [Lib.decodeN, if_neg a1]
 split
 · rw [if_neg (by omega)]
 · split
   · rw [if_neg]
     intro hh
     apply h3
     refine ⟨by omega, by omega, by omega, by omega, by omega, fun g => ?_, fun g => ?_, by omega, by omega⟩ <;> omega
   · split
     · rw [if_neg]
       intro hh
       apply h4
       refine ⟨by omega, by omega, by omega, by omega, by omega, fun g => ?_, fun g => ?_, by omega, by omega, by omega, by omega⟩ <;> omega
     · rfl
/-! ### The rune at a place -/
theorem decode_bt (s : ByteArray) (p : Nat) : Utf8.decode s p = Lib.decodeN (s.size - p) (bt s p) (bt s (p + 1)) (bt s (p + 2)) (bt s (p + 3)) := Lib.decode_at s p
def badAt (s : ByteArray) (p : Nat) : Bool := (Utf8.decode s p).1 == 65533 && (Utf8.decode s p).2 == 1
def K2 (s : ByteArray) (p : Nat) : Prop := C2 (s.size - p) (bt s p) (bt s (p + 1))
def K3 (s : ByteArray) (p : Nat) : Prop := C3 (s.size - p) (bt s p) (bt s (p + 1)) (bt s (p + 2))
def K4 (s : ByteArray) (p : Nat) : Prop := C4 (s.size - p) (bt s p) (bt s (p + 1)) (bt s (p + 2)) (bt s (p + 3))
theorem dcases (s : ByteArray) (p : Nat) :
   (bt s p < 128 ∧ Utf8.decode s p = (bt s p, 1)) ∨
   (K2 s p ∧ Utf8.decode s p = ((bt s p - 192) * 64 + (bt s (p + 1) - 128), 2)) ∨
   (K3 s p ∧ Utf8.decode s p = ((bt s p - 224) * 4096 + (bt s (p + 1) - 128) * 64 + (bt s (p + 2) - 128), 3)) ∨
   (K4 s p ∧ Utf8.decode s p = ((bt s p - 240) * 262144 + (bt s (p + 1) - 128) * 4096 + (bt s (p + 2) - 128) * 64 + (bt s (p + 3) - 128), 4)) ∨
   (128 ≤ bt s p ∧ ¬ K2 s p ∧ ¬ K3 s p ∧ ¬ K4 s p ∧ Utf8.decode s p = (65533, 1)) := by
 rw [decode_bt]
 by_cases h1 : bt s p < 128
 · exact .inl ⟨h1, dec1 _ _ _ _ _ h1⟩
 · by_cases h2 : K2 s p
   · exact .inr (.inl ⟨h2, dec2 _ _ _ _ _ h2⟩)
   · by_cases h3 : K3 s p
     · exact .inr (.inr (.inl ⟨h3, dec3 _ _ _ _ _ h3⟩))
     · by_cases h4 : K4 s p
       · exact .inr (.inr (.inr (.inl ⟨h4, dec4 _ _ _ _ _ h4⟩)))
       · exact .inr (.inr (.inr (.inr ⟨by omega, h2, h3, h4, dec0 _ _ _ _ _ (bt_lt _ _) (bt_lt _ _) (bt_lt _ _) (bt_lt _ _) (by omega) h2 h3 h4⟩)))
theorem wid_pos (s : ByteArray) (p : Nat) : 1 ≤ (Utf8.decode s p).2 := by
 rcases dcases s p with ⟨_, e⟩ | ⟨_, e⟩ | ⟨_, e⟩ | ⟨_, e⟩ | ⟨_, _, _, _, e⟩ <;> rw [e] <;> simp
theorem wid_le (s : ByteArray) (p : Nat) (h : p < s.size) : p + (Utf8.decode s p).2 ≤ s.size := by
 rcases dcases s p with ⟨_, e⟩ | ⟨k, e⟩ | ⟨k, e⟩ | ⟨k, e⟩ | ⟨_, _, _, _, e⟩ <;> rw [e]
 · simp; omega
 · obtain ⟨_, _, k, _⟩ := k; simp; omega
 · obtain ⟨_, _, k, _⟩ := k; simp; omega
 · obtain ⟨_, _, k, _⟩ := k; simp; omega
 · simp; omega
theorem badAt_eq {s : ByteArray} {p : Nat} (h : badAt s p = true) : Utf8.decode s p = (65533, 1) := by
 simp [badAt] at h; exact Prod.ext h.1 h.2
theorem badAt_of {s : ByteArray} {p : Nat} (h : Utf8.decode s p = (65533, 1)) : badAt s p = true := by simp [badAt, h]
theorem badAt_not {s : ByteArray} {p : Nat} (h : Utf8.decode s p ≠ (65533, 1)) : badAt s p = false := by
 rw [Bool.eq_false_iff]; exact fun e => h (badAt_eq e)
theorem low_iff (s : ByteArray) (p : Nat) (h : (Utf8.decode s p).1 < 128) : bt s p = (Utf8.decode s p).1 ∧ (Utf8.decode s p).2 = 1 := by
 rcases dcases s p with ⟨_, e⟩ | ⟨k, e⟩ | ⟨k, e⟩ | ⟨k, e⟩ | ⟨_, _, _, _, e⟩ <;> rw [e] at h ⊢
 · exact ⟨rfl, rfl⟩
 · obtain ⟨h1, h2, h3, h4, h5⟩ := k; simp at h; omega
 · obtain ⟨h1, h2, h3, h4, h5, h6, h7, h8, h9⟩ := k; simp at h
   by_cases g : bt s p = 224
   · have := h6 g; omega
   · omega
 · obtain ⟨h1, h2, h3, h4, h5, h6, h7, h8, h9, h10, h11⟩ := k; simp at h
   by_cases g : bt s p = 240
   · have := h6 g; omega
   · omega
 · simp at h
theorem low_of (s : ByteArray) (p : Nat) (h : bt s p < 128) : Utf8.decode s p = (bt s p, 1) := by
 rcases dcases s p with ⟨_, e⟩ | ⟨k, e⟩ | ⟨k, e⟩ | ⟨k, e⟩ | ⟨g, _, _, _, e⟩
 · exact e
 · have := k.1; omega
 · have := k.1; omega
 · have := k.1; omega
 · omega
theorem high_of (s : ByteArray) (p : Nat) (h : 128 ≤ bt s p) : 128 ≤ (Utf8.decode s p).1 := by
 by_cases g : (Utf8.decode s p).1 < 128
 · have := low_iff s p g; omega
 · omega
theorem badAt_low (s : ByteArray) (p : Nat) (h : bt s p < 128) : badAt s p = false := by
 apply badAt_not; rw [low_of s p h]; intro e; injection e with e1 e2; omega
theorem rune_ok (s : ByteArray) (p : Nat) : (Utf8.decode s p).1 < 55296 ∨ (57344 ≤ (Utf8.decode s p).1 ∧ (Utf8.decode s p).1 ≤ 1114111) := by
 rcases dcases s p with ⟨_, e⟩ | ⟨k, e⟩ | ⟨k, e⟩ | ⟨k, e⟩ | ⟨_, _, _, _, e⟩ <;> rw [e]
 · left; have := bt_lt s p; simp; omega
 · obtain ⟨h1, h2, h3, h4, h5⟩ := k; left; simp; omega
 · obtain ⟨h1, h2, h3, h4, h5, h6, h7, h8, h9⟩ := k; simp
   by_cases g : bt s p = 237
   · have := h7 g; omega
   · omega
 · obtain ⟨h1, h2, h3, h4, h5, h6, h7, h8, h9, h10, h11⟩ := k; simp
   by_cases g : bt s p = 244
   · have := h7 g; omega
   · by_cases g : bt s p = 240
     · have := h6 g; omega
     · omega
 · right; simp
/-! ### A part of a text -/
def sub (s : ByteArray) (p k : Nat) : List UInt8 := (s.data.toList.drop p).take k
theorem sub_zero (s : ByteArray) (p : Nat) : sub s p 0 = [] := by simp [sub]
theorem sub_succ (s : ByteArray) (p k : Nat) (h : p + k < s.size) : sub s p (k + 1) = sub s p k ++ [s.get! (p + k)] := by
 have hl : k < (s.data.toList.drop p).length := by simp; have : s.data.size = s.size := rfl; omega
 rw [sub, List.take_succ_eq_append_getElem hl, sub]
 congr 1
 rw [get_eq s (p + k) h, List.getElem_drop]
 rfl
theorem toU8 (b : UInt8) (x : Int) (h : x = b.toNat) : x.toNat.toUInt8 = b := by subst h; simp
theorem enc_ok (s : ByteArray) (p : Nat) (h : p < s.size) (hb : badAt s p = false) : Lib.encodeRune (Utf8.decode s p).1 = sub s p (Utf8.decode s p).2 := by
 rcases dcases s p with ⟨k, e⟩ | ⟨k, e⟩ | ⟨k, e⟩ | ⟨k, e⟩ | ⟨_, _, _, _, e⟩
 · rw [e, sub_succ s p 0 (by omega), sub_zero, Lib.encodeRune, Lib.encodeRuneZ_one (by omega) (by omega)]
   simp [bt]
 · obtain ⟨h1, h2, h3, h4, h5⟩ := k
   rw [e, sub_succ s p 1 (by omega), sub_succ s p 0 (by omega), sub_zero, Lib.encodeRune, Lib.encodeRuneZ_two (by simp; omega) (by simp; omega)]
   simp only [List.map_cons, List.map_nil, List.nil_append, List.cons_append, Nat.add_zero]
   rw [toU8 (s.get! p) _ (by simp only [bt] at *; omega), toU8 (s.get! (p + 1)) _ (by simp only [bt] at *; omega)]
 · obtain ⟨h1, h2, h3, h4, h5, h6, h7, h8, h9⟩ := k
   have hr := rune_ok s p
   rw [e] at hr
   have g1 : 2048 ≤ (bt s p - 224) * 4096 + (bt s (p + 1) - 128) * 64 + (bt s (p + 2) - 128) := by
     by_cases g : bt s p = 224
     · have := h6 g; omega
     · omega
   rw [e, sub_succ s p 2 (by omega), sub_succ s p 1 (by omega), sub_succ s p 0 (by omega), sub_zero, Lib.encodeRune, Lib.encodeRuneZ_three (by simp only [] at *; omega)]
   simp only [List.map_cons, List.map_nil, List.nil_append, List.cons_append, Nat.add_zero]
   rw [toU8 (s.get! p) _ (by simp only [bt] at *; omega), toU8 (s.get! (p + 1)) _ (by simp only [bt] at *; omega), toU8 (s.get! (p + 2)) _ (by simp only [bt] at *; omega)]
 · obtain ⟨h1, h2, h3, h4, h5, h6, h7, h8, h9, h10, h11⟩ := k
   have hr := rune_ok s p
   rw [e] at hr
   have g1 : 65536 ≤ (bt s p - 240) * 262144 + (bt s (p + 1) - 128) * 4096 + (bt s (p + 2) - 128) * 64 + (bt s (p + 3) - 128) := by
     by_cases g : bt s p = 240
     · have := h6 g; omega
     · omega
   rw [e, sub_succ s p 3 (by omega), sub_succ s p 2 (by omega), sub_succ s p 1 (by omega), sub_succ s p 0 (by omega), sub_zero, Lib.encodeRune, Lib.encodeRuneZ_four (by simp only [] at *; omega) (by simp only [] at *; omega)]
   simp only [List.map_cons, List.map_nil, List.nil_append, List.cons_append, Nat.add_zero]
   rw [toU8 (s.get! p) _ (by simp only [bt] at *; omega), toU8 (s.get! (p + 1)) _ (by simp only [bt] at *; omega), toU8 (s.get! (p + 2)) _ (by simp only [bt] at *; omega), toU8 (s.get! (p + 3)) _ (by simp only [bt] at *; omega)]
 · rw [badAt_of e] at hb; cases hb
end
section
/-! ### The runes of a text, from a place on -/
def runesF (s : ByteArray) : Nat → Nat → List Nat
 | 0, _ => []
 | f + 1, p => if p < s.size then (Utf8.decode s p).1 :: runesF s f (p + (Utf8.decode s p).2) else []
def runes (s : ByteArray) (p : Nat) : List Nat := runesF s (s.size - p) p
theorem runesF_end (s : ByteArray) (f p : Nat) (h : ¬ p < s.size) : runesF s f p = [] := by
 cases f with
 | zero => rfl
 | succ f => simp [runesF, h]
theorem runesF_eq (s : ByteArray) : ∀ (f g p : Nat), s.size ≤ p + f → s.size ≤ p + g → runesF s f p = runesF s g p
 | 0, g, p, hf, hg => by rw [runesF_end s 0 p (by omega), runesF_end s g p (by omega)]
 | f + 1, 0, p, hf, hg => by rw [runesF_end s (f + 1) p (by omega), runesF_end s 0 p (by omega)]
 | f + 1, g + 1, p, hf, hg => by
   have := wid_pos s p
   simp only [runesF]
   rw [runesF_eq s f g (p + (Utf8.decode s p).2) (by omega) (by omega)]
theorem runes_end (s : ByteArray) (p : Nat) (h : ¬ p < s.size) : runes s p = [] := runesF_end s _ p h
theorem runes_step (s : ByteArray) (p : Nat) (h : p < s.size) : runes s p = (Utf8.decode s p).1 :: runes s (p + (Utf8.decode s p).2) := by
 have := wid_pos s p
 unfold runes
 obtain ⟨f, hf⟩ : ∃ f, s.size - p = f + 1 := ⟨s.size - p - 1, by omega⟩
 rw [hf]
 simp only [runesF, h, if_true]
 rw [runesF_eq s f (s.size - (p + (Utf8.decode s p).2)) _ (by omega) (by omega)]
/-! ### The first place that is no UTF-8, from a place on -/
def badF (s : ByteArray) : Nat → Nat → Int
 | 0, _ => -1
 | f + 1, p => if p < s.size then (if badAt s p then (p : Int) else badF s f (p + (Utf8.decode s p).2)) else -1
def badFrom (s : ByteArray) (p : Nat) : Int := badF s (s.size - p) p
def bad (s : ByteArray) : Int := badF s s.size 0
theorem badF_end (s : ByteArray) (f p : Nat) (h : ¬ p < s.size) : badF s f p = -1 := by
 cases f with
 | zero => rfl
 | succ f => simp [badF, h]
theorem badF_eq (s : ByteArray) : ∀ (f g p : Nat), s.size ≤ p + f → s.size ≤ p + g → badF s f p = badF s g p
 | 0, g, p, hf, hg => by rw [badF_end s 0 p (by omega), badF_end s g p (by omega)]
 | f + 1, 0, p, hf, hg => by rw [badF_end s (f + 1) p (by omega), badF_end s 0 p (by omega)]
 | f + 1, g + 1, p, hf, hg => by
   have := wid_pos s p
   simp only [badF]
   rw [badF_eq s f g (p + (Utf8.decode s p).2) (by omega) (by omega)]
theorem badFrom_end (s : ByteArray) (p : Nat) (h : ¬ p < s.size) : badFrom s p = -1 := badF_end s _ p h
theorem badFrom_at (s : ByteArray) (p : Nat) (h : p < s.size) (hb : badAt s p = true) : badFrom s p = p := by
 unfold badFrom
 obtain ⟨f, hf⟩ : ∃ f, s.size - p = f + 1 := ⟨s.size - p - 1, by omega⟩
 rw [hf]; simp only [badF, h, hb, if_true]
theorem badFrom_step (s : ByteArray) (p : Nat) (h : p < s.size) (hb : badAt s p = false) : badFrom s p = badFrom s (p + (Utf8.decode s p).2) := by
 have := wid_pos s p
 unfold badFrom
 obtain ⟨f, hf⟩ : ∃ f, s.size - p = f + 1 := ⟨s.size - p - 1, by omega⟩
 rw [hf]
 simp only [badF, h, hb, if_true]
 rw [badF_eq s f (s.size - (p + (Utf8.decode s p).2)) _ (by omega) (by omega)]
 simp
theorem badF_range (s : ByteArray) : ∀ f p, badF s f p = -1 ∨ ((p : Int) ≤ badF s f p ∧ badF s f p < s.size)
 | 0, p => .inl rfl
 | f + 1, p => by
   simp only [badF]
   split
   · split
     · right; omega
     · rcases badF_range s f (p + (Utf8.decode s p).2) with h | h
       · exact .inl h
       · right; omega
   · exact .inl rfl
theorem badFrom_range (s : ByteArray) (p : Nat) : badFrom s p = -1 ∨ ((p : Int) ≤ badFrom s p ∧ badFrom s p < s.size) := badF_range s _ p
/-! ### Runes that can be, and their bytes -/
def encs (l : List Nat) : List UInt8 := l.flatMap fun r : Nat => Lib.encodeRune (r : Int)
theorem encs_cons (r : Nat) (l : List Nat) : encs (r :: l) = Lib.encodeRune (r : Int) ++ encs l := by simp [encs]
theorem enc_len (r : Int) : 1 ≤ (Lib.encodeRune r).length ∧ (Lib.encodeRune r).length ≤ 4 := by
 have := Lib.encodeRuneZ_length r; simpa [Lib.encodeRune] using this
theorem get_list (l : List UInt8) (i : Nat) (b : UInt8) (h : l[i]? = some b) : bt ⟨l.toArray⟩ i = b.toNat := by
 have hl : i < l.length := (List.getElem?_eq_some_iff.1 h).1
 have hs : i < (⟨l.toArray⟩ : ByteArray).size := by simpa [ByteArray.size] using hl
 rw [bt, get_eq _ i hs]
 congr 1
 have : l[i] = b := (List.getElem?_eq_some_iff.1 h).2
 rw [← this]
 rfl
/-! ### Quotes -/
def letterN (r : Nat) : Nat := if r = 10 then 110 else r
def mustN (r : Nat) : Bool := r == 34 || (r == 92 || r == 10)
def qr (r : Nat) : List Nat := if mustN r then [92, letterN r] else [r]
def quoteFrom (s : ByteArray) (p : Nat) : List UInt8 := encs ((runes s p).flatMap qr)
def quote (s : ByteArray) : List UInt8 := [34] ++ (quoteFrom s 0 ++ [34])
/-! ### What a quote stands for -/
def plainL : Bool → List Nat → Option (List Nat)
 | esc, [] => if esc then none else some []
 | false, r :: t => if r = 92 then plainL true t else if r = 34 ∨ r = 10 then none else (plainL false t).map (r :: ·)
 | true, r :: t => if r = 110 then (plainL false t).map (10 :: ·) else if r = 34 ∨ r = 92 then (plainL false t).map (r :: ·) else none
def plain (s : ByteArray) : Option (List UInt8) := if 0 ≤ bad s then none else (plainL false (runes s 0)).map encs
def plainText (s : ByteArray) : List UInt8 := (plain s).getD []
def plainOk (s : ByteArray) : Bool := (plain s).isSome
def means (r : Int) (esc : Bool) : Bool := if esc then r == 110 || (r == 34 || r == 92) else !(must r)
def meant (r : Int) (esc : Bool) : Int := if means r esc then (if esc && r == 110 then 10 else r) else 0
/-! ### Parts of a text, as the walk spells them -/
theorem extract_list (s : ByteArray) (a b : Nat) : (s.extract a b).data.toList = (s.data.toList.drop a).take (b - a) := by
 simp [ByteArray.data_extract, Array.toList_extract, List.extract]
theorem drop_extract (s : ByteArray) (a : Nat) : (s.extract a s.size).data.toList = s.data.toList.drop a := by
 rw [extract_list, List.take_of_length_le]; simp
theorem fffd_good (s : ByteArray) (p : Nat) (h : p < s.size) (hr : (Utf8.decode s p).1 = 65533) (hb : badAt s p = false) : Lib.hasPrefix (s.extract p s.size).data.toList [239, 191, 189] = true := by
 have e := enc_ok s p h hb
 rw [hr] at e
 have e2 : Lib.encodeRune ((65533 : Nat) : Int) = [239, 191, 189] := by decide
 rw [e2] at e
 rw [drop_extract, Lib.hasPrefix, List.isPrefixOf_iff_prefix, e]
 exact List.take_prefix _ _
theorem drop_get (s : ByteArray) (p k : Nat) (x : UInt8) (h : (s.data.toList.drop p)[k]? = some x) : bt s (p + k) = x.toNat ∧ p + k < s.size := by
 rw [List.getElem?_drop] at h
 have hl := (List.getElem?_eq_some_iff.1 h).1
 have hs : s.data.toList.length = s.size := by simp
 refine ⟨?_, by omega⟩
 have := get_list s.data.toList (p + k) x h
 simpa using this
theorem fffd_bad (s : ByteArray) (p : Nat) (hb : badAt s p = true) : Lib.hasPrefix (s.extract p s.size).data.toList [239, 191, 189] = false := by
 rw [Bool.eq_false_iff]
 intro h
 rw [drop_extract, Lib.hasPrefix, List.isPrefixOf_iff_prefix] at h
 obtain ⟨t, ht⟩ := h
 have g0 := drop_get s p 0 239 (by rw [← ht]; rfl)
 have g1 := drop_get s p 1 191 (by rw [← ht]; rfl)
 have g2 := drop_get s p 2 189 (by rw [← ht]; rfl)
 have k : K3 s p := by
   rw [Nat.add_zero] at g0
   have a0 := g0.1; have a1 := g1.1; have a2 := g2.1
   simp at a0 a1 a2
   exact ⟨by omega, by omega, by omega, by omega, by omega, by omega, by omega, by omega, by omega⟩
 rcases dcases s p with ⟨k1, _⟩ | ⟨k1, _⟩ | ⟨_, e⟩ | ⟨k1, _⟩ | ⟨_, _, k1, _⟩
 · have := k.1; omega
 · have := k.1; have := k1.2.1; omega
 · rw [badAt_eq hb] at e; injection e with e1 e2; omega
 · have := k.2.1; have := k1.1; omega
 · exact k1 k
/-! ### Names -/
def allAl (s : ByteArray) (p : Nat) : Bool := (s.data.toList.drop p).all fun b => alnum (b.toNat : Int)
def shape (first : Int → Bool) (s : ByteArray) : Bool := decide (1 ≤ s.size) && (decide (s.size ≤ 20) && (first (bt s 0) && allAl s 0))
theorem allAl_step (s : ByteArray) (p : Nat) (h : p < s.size) : allAl s p = (alnum (bt s p) && allAl s (p + 1)) := by
 have hl : p < s.data.toList.length := by simp; exact h
 unfold allAl
 rw [List.drop_eq_getElem_cons hl, List.all_cons]
 congr 2
 rw [← bt_eq s p h]
 rfl
theorem allAl_end (s : ByteArray) (p : Nat) (h : ¬ p < s.size) : allAl s p = true := by
 have hl : s.data.toList.length ≤ p := by simp; exact Nat.le_of_not_lt h
 unfold allAl
 rw [List.drop_of_length_le hl]; rfl
theorem high_none (s : ByteArray) (p : Nat) (h : 128 ≤ bt s p) : alnum ((Utf8.decode s p).1 : Nat) = false ∧ alnum (bt s p) = false ∧ small ((Utf8.decode s p).1 : Nat) = false ∧ big ((Utf8.decode s p).1 : Nat) = false ∧ digit ((Utf8.decode s p).1 : Nat) = false := by
 have := high_of s p h
 have a : ∀ x : Nat, 128 ≤ x → small (x : Int) = false ∧ big (x : Int) = false ∧ digit (x : Int) = false := by
   intro x hx
   refine ⟨?_, ?_, ?_⟩
   · simp [small]; omega
   · simp [big]; omega
   · simp [digit]; omega
 obtain ⟨a1, a2, a3⟩ := a _ this
 obtain ⟨b1, b2, b3⟩ := a _ h
 exact ⟨by simp [alnum, a1, a2, a3], by simp [alnum, b1, b2, b3], a1, a2, a3⟩
theorem alnum_at (s : ByteArray) (p : Nat) : alnum ((Utf8.decode s p).1 : Nat) = alnum (bt s p) := by
 by_cases h : bt s p < 128
 · rw [low_of s p h]
 · have := high_none s p (by omega); rw [this.1, this.2.1]
theorem alnum_wid (s : ByteArray) (p : Nat) (h : alnum ((Utf8.decode s p).1 : Nat) = true) : (Utf8.decode s p).2 = 1 ∧ (Utf8.decode s p).1 = bt s p := by
 by_cases g : bt s p < 128
 · rw [low_of s p g]; exact ⟨rfl, rfl⟩
 · have := high_none s p (by omega); rw [this.1] at h; cases h
theorem shape_no_al (first : Int → Bool) (s : ByteArray) (p : Nat) (h : p < s.size) (hb : allAl s p = allAl s 0) (ha : alnum ((Utf8.decode s p).1 : Nat) = false) : shape first s = false := by
 have := allAl_step s p h
 rw [← alnum_at, ha, Bool.false_and, hb] at this
 simp [shape, this]
theorem shape_no_first (first : Int → Bool) (s : ByteArray) (ha : alnum ((Utf8.decode s 0).1 : Nat) = true) (hf : first ((Utf8.decode s 0).1 : Nat) = false) : shape first s = false := by
 rw [(alnum_wid s 0 ha).2] at hf
 simp [shape, hf]
theorem al_next (s : ByteArray) (p : Nat) (h : p < s.size) (hb : allAl s p = allAl s 0) (ha : alnum ((Utf8.decode s p).1 : Nat) = true) : allAl s (p + (Utf8.decode s p).2) = allAl s 0 := by
 have := allAl_step s p h
 rw [← alnum_at, ha, Bool.true_and, hb] at this
 rw [(alnum_wid s p ha).1]; exact this.symm
theorem first_next (first : Int → Bool) (s : ByteArray) (ha : alnum ((Utf8.decode s 0).1 : Nat) = true) (hf : first ((Utf8.decode s 0).1 : Nat) = true) : first (bt s 0) = true := by
 rw [(alnum_wid s 0 ha).2] at hf; exact hf
theorem al3 {r : Int} (h : alnum r = true) : small r = true ∨ (small r = false ∧ big r = true) ∨ (small r = false ∧ big r = false ∧ digit r = true) := by
 unfold alnum at h
 cases hs : small r
 · cases hb : big r
   · right; right; rw [hs, hb] at h; exact ⟨rfl, rfl, by simpa using h⟩
   · right; left; exact ⟨rfl, rfl⟩
 · left; rfl
theorem al0 {r : Int} (h : alnum r = false) : small r = false ∧ big r = false ∧ digit r = false := by
 simp only [alnum, Bool.or_eq_false_iff] at h; exact ⟨h.1, h.2.1, h.2.2⟩
def stringWord : List UInt8 := [83, 116, 114, 105, 110, 103]
def nameOk (s : ByteArray) : Bool := shape small s && !(kept s.data.toList)
def classOk (s : ByteArray) : Bool := shape big s && !(s.data.toList == stringWord)
/-! ### Reading a quote, a rune at a time: what is read so far is acc; esc: a sign stands ahead -/
def Reads (s : ByteArray) (p : Nat) (esc : Bool) (acc : List UInt8) : Prop := (plainL false (runes s 0)).map encs = (plainL esc (runes s p)).map fun t => acc ++ encs t
theorem reads_start (s : ByteArray) : Reads s 0 false [] := by unfold Reads; congr
theorem reads_esc (s : ByteArray) (p : Nat) (acc : List UInt8) (h : p < s.size) (hr : (((Utf8.decode s p).1 : Nat) : Int) = 92) (R : Reads s p false acc) : Reads s (p + (Utf8.decode s p).2) true acc := by
 unfold Reads at R ⊢
 have : (Utf8.decode s p).1 = 92 := by omega
 rw [R, runes_step s p h, this]; simp [plainL]
theorem meant_nat (r : Nat) (esc : Bool) (h : means (r : Int) esc = true) : meant (r : Int) esc = ((if esc && r == 110 then 10 else r : Nat) : Int) := by
 unfold meant
 rw [if_pos h]
 cases esc
 · simp
 · have : ((r : Int) == 110) = (r == 110) := by rw [Bool.eq_iff_iff]; simp; omega
   simp only [Bool.true_and, this]
   split <;> rfl
theorem reads_next (s : ByteArray) (p : Nat) (esc : Bool) (acc : List UInt8) (h : p < s.size) (hm : means ((Utf8.decode s p).1 : Nat) esc = true) (R : Reads s p esc acc) :
   Reads s (p + (Utf8.decode s p).2) false (acc ++ Lib.encodeRune (meant ((Utf8.decode s p).1 : Nat) esc)) := by
 have hn := meant_nat _ _ hm
 unfold Reads at R ⊢
 rw [R, runes_step s p h, hn]
 generalize (Utf8.decode s p).1 = r at *
 have a : ∀ k : Nat, ((r : Int) == (k : Int)) = (r == k) := fun k => by rw [Bool.eq_iff_iff]; simp; omega
 have a34 : ((r : Int) == 34) = (r == 34) := a 34
 have a92 : ((r : Int) == 92) = (r == 92) := a 92
 have a10 : ((r : Int) == 10) = (r == 10) := a 10
 have a110 : ((r : Int) == 110) = (r == 110) := a 110
 cases esc
 · simp only [means, must, a34, a92, a10, Bool.not_eq_true', Bool.or_eq_false_iff, beq_eq_false_iff_ne, Bool.false_eq_true, if_false] at hm
   simp only [plainL, hm.2.1, hm.1, hm.2.2, if_false, or_false, Option.map_map, Bool.false_and, Bool.false_eq_true]
   congr 1; funext t; simp [encs_cons]
 · simp only [means, if_true, a34, a92, a110, Bool.or_eq_true, beq_iff_eq] at hm
   by_cases g : r = 110
   · simp only [plainL, g, if_true, Option.map_map]
     congr 1; funext t; simp [encs_cons]
   · have g2 : r = 34 ∨ r = 92 := by rcases hm with hm | hm; exact absurd hm g; exact hm
     simp only [plainL, g, if_false, g2, if_true, Option.map_map, Bool.true_and, beq_iff_eq]
     congr 1; funext t; simp [encs_cons]
theorem reads_none (s : ByteArray) (p : Nat) (esc : Bool) (acc : List UInt8) (h : p < s.size) (hm : means ((Utf8.decode s p).1 : Nat) esc = false) (h92 : ¬ ((((Utf8.decode s p).1 : Nat) : Int) = 92 ∧ esc = false)) (R : Reads s p esc acc) :
   (plainL false (runes s 0)).map encs = none := by
 unfold Reads at R
 rw [R, runes_step s p h]
 generalize (Utf8.decode s p).1 = r at *
 have a : ∀ k : Nat, ((r : Int) == (k : Int)) = (r == k) := fun k => by rw [Bool.eq_iff_iff]; simp; omega
 have a34 : ((r : Int) == 34) = (r == 34) := a 34
 have a92 : ((r : Int) == 92) = (r == 92) := a 92
 have a10 : ((r : Int) == 10) = (r == 10) := a 10
 have a110 : ((r : Int) == 110) = (r == 110) := a 110
 cases esc
 · simp only [and_true] at h92
   have h92' : ¬ r = 92 := by omega
   simp only [means, must, a34, a92, a10, Bool.not_eq_false', Bool.or_eq_true, beq_iff_eq, Bool.false_eq_true, if_false, h92', false_or] at hm
   simp only [plainL, h92', if_false, if_pos hm]; rfl
 · simp only [means, if_true, a34, a92, a110, Bool.or_eq_false_iff, beq_eq_false_iff_ne] at hm
   simp only [plainL, hm.1, hm.2.1, hm.2.2, if_false, or_false]; rfl
theorem reads_end (s : ByteArray) (p : Nat) (esc : Bool) (acc : List UInt8) (h : ¬ p < s.size) (R : Reads s p esc acc) :
   (plainL false (runes s 0)).map encs = if esc then none else some acc := by
 unfold Reads at R
 rw [R, runes_end s p h]
 cases esc <;> simp [plainL, encs]
theorem plain_bad (s : ByteArray) (h : 0 ≤ bad s) : plainText s = [] ∧ plainOk s = false := by
 simp [plainText, plainOk, plain, h]
theorem plain_of (s : ByteArray) (h : bad s < 0) (o : Option (List UInt8)) (ho : (plainL false (runes s 0)).map encs = o) : plainText s = o.getD [] ∧ plainOk s = o.isSome := by
 have : ¬ 0 ≤ bad s := by omega
 simp only [plainText, plainOk, plain, this, if_false, ho]
 exact ⟨trivial, trivial⟩
theorem meant_range (s : ByteArray) (p : Nat) (esc : Bool) : 0 ≤ meant ((Utf8.decode s p).1 : Nat) esc ∧ meant ((Utf8.decode s p).1 : Nat) esc ≤ 1114111 := by
 have := rune_ok s p
 unfold meant
 split
 · split <;> omega
 · omega
end
section
end
section
open Go.RowKit
theorem Tryz.infoPart : (Tryz.prog.info? 113).map (fun i => (i.zero, i.size, i.bytes)) = some (some .nilIface, 1, 16) := by kernel_rfl
def AddSaid (w : World) (B : Nat) (v : Value) (qs : List Pt) (e : Ending) (w' : World) : Prop :=
 ∃ v', e = .returned v' ∧ w'.ownsRow B 113 1 v' qs.length (qs.map ptV) ∧ Grew w w' v v'
def Half (w : World) (B : Nat) (v : Value) (m : Nat) (xs ys : List Value) (k : Nat) (v1 : Value) (wr : World) : Prop :=
 wr.ownsRow B 113 1 v1 (m + k) (xs ++ ys.take k) ∧ Grew w wr v v1
theorem Half.start {w : World} {B m : Nat} {v : Value} {xs ys : List Value} (h : w.ownsRow B 113 1 v m xs) : Half w B v m xs ys 0 v w := ⟨by simpa using h, Grew.refl _ _⟩
theorem Half.more {w wr w' : World} {B m : Nat} {v v1 v' : Value} {xs ys : List Value} {k : Nat} {o : Obj} {u : Value} (h : Half w B v m xs ys k v1 wr) (hq : ys[k]? = some u)
   (ho : w'.ownsRow B 113 1 v' (m + k + 1) (xs ++ (ys.take k ++ [u]))) (hg : (wr.alloc o).grownBy w' v1.ownBlock) (hat : v'.ownBlock = v1.ownBlock ∨ v'.ownBlock = some (wr.heap.size + 1)) : Half w B v m xs ys (k + 1) v' w' := by
 have hat : v'.ownBlock = v1.ownBlock ∨ v'.ownBlock = some (wr.alloc o).heap.size := by simpa using hat
 refine ⟨?_, (h.2.trans (Grew.alloc wr v1 o)).trans (Grew.of_append hg hat)⟩
 have : ys.take (k + 1) = ys.take k ++ [u] := by
   rw [List.take_add_one, hq]; simp
 rw [this, ← Nat.add_assoc]; exact ho
theorem Half.done {w wr : World} {B m : Nat} {v v1 : Value} {xs ys : List Value} {ps qs : List Pt} {k n : Nat} (h : Half w B v m xs ys k v1 wr) (hk : ¬ k < n) (hkn : k ≤ n) (hn : qs.length = n) (hx : xs = ps.map ptV) (hm : m = ps.length) (hy : ys = qs.map ptV) : AddSaid w B v (ps ++ qs) (.returned v1) wr := by
 have : k = qs.length := by omega
 subst this
 refine ⟨v1, rfl, ?_, h.2⟩
 have h1 := h.1
 have h2 : ys.take qs.length = ys := List.take_of_length_le (by rw [hy]; simp)
 rw [h2, hx, hy, hm] at h1
 rw [List.length_append, List.map_append]; exact h1
theorem Rw.at {w : World} {t : Tg} {A : Option Addr} {n cap : Nat} {l : List Nd} (h : Rw w t (.slice A n cap) l) : l.length = n ∧ ∀ k, k < n → ∃ b o x, A = some ⟨b, o, none⟩ ∧ l[k]? = some x ∧ x.tag = t ∧ (ptsV t (.slice A n cap) l)[k]? = some ⟨b, o + k * t.sz, x⟩ := by
 obtain ⟨A', cap', hv, _, ht, hc⟩ := h
 injection hv with h1 h2 h3
 refine ⟨h2.symm, fun k hk => ?_⟩
 obtain ⟨b, o, hA, hcell⟩ := hc (by omega)
 have hl : k < l.length := by omega
 refine ⟨b, o, l[k], h1.trans hA, List.getElem?_eq_getElem hl, ht _ (List.getElem_mem hl), ?_⟩
 rw [h1, hA]
 simp only [ptsV]
 rw [pts_get, List.getElem?_eq_getElem hl]; rfl
theorem add_ex (w : World) (B : Nat) (v : Value) (ps : List Pt) (nv : Value) (l : List Nd) (hB : B ≤ w.heap.size) (hown : w.ownsRow B 113 1 v ps.length (ps.map ptV)) (hr : Rw w .ex nv l) (hs : ps.length + l.length ≤ 1000000) :
   Calls Tryz.prog 95 #[v, nv] w (AddSaid w B v (ps ++ ptsV .ex nv l)) := by
 obtain ⟨A, cap, hv⟩ := hr.form
 have hlen := ptsV_len hr
 subst hv
 obtain ⟨n, hn⟩ : ∃ n, l.length = n := ⟨_, rfl⟩
 rw [hn] at hr hlen hs ⊢
 obtain ⟨qs, hqs⟩ : ∃ qs, ptsV .ex (.slice A n cap) l = qs := ⟨_, rfl⟩
 rw [hqs] at hlen ⊢
 have HAT := Lib.hid hr.at
 obtain ⟨xs, hxs⟩ : ∃ xs, xs = ps.map ptV := ⟨_, rfl⟩
 obtain ⟨ys, hys⟩ : ∃ ys, ys = qs.map ptV := ⟨_, rfl⟩
 obtain ⟨m, hm⟩ : ∃ m, m = ps.length := ⟨_, rfl⟩
 rw [← hxs, ← hm] at hown
 rw [← hm] at hs
 have H0 : Half w B v m xs ys 0 v w := Half.start hown
 have HXS := Lib.hid hxs
 have HYS := Lib.hid hys
 have HM0 := Lib.hid hm
 have HLEN := Lib.hid hlen
 have HQS := Lib.hid hqs
 clear hlen hqs hn hr hown hxs hys hm
 obtain ⟨i0, hi, hz0, hz1, hz2⟩ := info_parts Tryz.infoPart
 go_enter Tryz.func95, Tryz.ntmps95
 go_wp2
 go_loopw [0, 8] (fun v0 v8 wr => ∃ (k : Nat) (v1 : Value), v0 = v1 ∧ v8 = .int .i64 k ∧ k ≤ n ∧ Half w B v m xs ys k v1 wr) (fun v0 v8 wr => n - (intOf v8).toNat)
 case atStart => exact ⟨0, v, rfl, rfl, Nat.zero_le _, H0⟩
 case round =>
   obtain ⟨k, v1, rfl, rfl, hk, hh⟩ := hrel
   clear H0
   by_cases hlt : k < n
   · obtain ⟨_, hat⟩ := HAT.out
     obtain ⟨b, o, x, rfl, hx, hxt, hp⟩ := hat k hlt
     clear hat
     rw [HQS.out] at hp
     have hpv : ys[k]? = some (.iface 100 (.pointer (some ⟨b, o + k * 8, none⟩))) := by rw [HYS.out, List.getElem?_map, hp]; simp only [Option.map_some, ptV]; rw [hxt]; rfl
     have HP := Lib.hid hpv
     clear hp hx hxt hpv
     go_wp2_with (at_builtin; refine wpList_append_own_at _ rfl (.tmp 11) (.tmp 16) 101 rfl B 113 i0 _ 1 16 Tryz.underlying101 hi hz0 hz1 hz2 rfl (by decide) _ _ _ rfl (hh.1.alloc _) ⟨wr.heap.size, 0, none⟩ 1 1 [.iface 100 (.pointer (some ⟨b, o + k * 8, none⟩))] rfl rfl ?c1 ?c2 ?c3 ?c4 ?c5 ?_)
     case c1 => exact cell_one_new _ _ _
     case c2 => intro u hu; simp at hu; subst hu; rfl
     case c3 => unfold maxLen; omega
     case c4 => omega
     case c5 => have := hh.2.size; simp; omega
     · intro v' w3 hown3 hgrow _ hat3
       have HM := Half.more hh HP.out hown3 hgrow hat3
       clear hown3 hgrow hat3 hh
       go_wp2
       go_roundw
       case rel => exact ⟨k + 1, v', rfl, by go_num, by omega, HM⟩
       case measure => simp [intOf]; omega
   · go_wp2
     go_ret
     exact hh.done hlt hk HLEN.out HXS.out HM0.out HYS.out
theorem add_st (w : World) (B : Nat) (v : Value) (ps : List Pt) (nv : Value) (l : List Nd) (hB : B ≤ w.heap.size) (hown : w.ownsRow B 113 1 v ps.length (ps.map ptV)) (hr : Rw w .st nv l) (hs : ps.length + l.length ≤ 1000000) :
   Calls Tryz.prog 96 #[v, nv] w (AddSaid w B v (ps ++ ptsV .st nv l)) := by
 obtain ⟨A, cap, hv⟩ := hr.form
 have hlen := ptsV_len hr
 subst hv
 obtain ⟨n, hn⟩ : ∃ n, l.length = n := ⟨_, rfl⟩
 rw [hn] at hr hlen hs ⊢
 obtain ⟨qs, hqs⟩ : ∃ qs, ptsV .st (.slice A n cap) l = qs := ⟨_, rfl⟩
 rw [hqs] at hlen ⊢
 have HAT := Lib.hid hr.at
 obtain ⟨xs, hxs⟩ : ∃ xs, xs = ps.map ptV := ⟨_, rfl⟩
 obtain ⟨ys, hys⟩ : ∃ ys, ys = qs.map ptV := ⟨_, rfl⟩
 obtain ⟨m, hm⟩ : ∃ m, m = ps.length := ⟨_, rfl⟩
 rw [← hxs, ← hm] at hown
 rw [← hm] at hs
 have H0 : Half w B v m xs ys 0 v w := Half.start hown
 have HXS := Lib.hid hxs
 have HYS := Lib.hid hys
 have HM0 := Lib.hid hm
 have HLEN := Lib.hid hlen
 have HQS := Lib.hid hqs
 clear hlen hqs hn hr hown hxs hys hm
 obtain ⟨i0, hi, hz0, hz1, hz2⟩ := info_parts Tryz.infoPart
 go_enter Tryz.func96, Tryz.ntmps96
 go_wp2
 go_loopw [0, 8] (fun v0 v8 wr => ∃ (k : Nat) (v1 : Value), v0 = v1 ∧ v8 = .int .i64 k ∧ k ≤ n ∧ Half w B v m xs ys k v1 wr) (fun v0 v8 wr => n - (intOf v8).toNat)
 case atStart => exact ⟨0, v, rfl, rfl, Nat.zero_le _, H0⟩
 case round =>
   obtain ⟨k, v1, rfl, rfl, hk, hh⟩ := hrel
   clear H0
   by_cases hlt : k < n
   · obtain ⟨_, hat⟩ := HAT.out
     obtain ⟨b, o, x, rfl, hx, hxt, hp⟩ := hat k hlt
     clear hat
     rw [HQS.out] at hp
     have hpv : ys[k]? = some (.iface 145 (.pointer (some ⟨b, o + k * 9, none⟩))) := by rw [HYS.out, List.getElem?_map, hp]; simp only [Option.map_some, ptV]; rw [hxt]; rfl
     have HP := Lib.hid hpv
     clear hp hx hxt hpv
     go_wp2_with (at_builtin; refine wpList_append_own_at _ rfl (.tmp 11) (.tmp 16) 101 rfl B 113 i0 _ 1 16 Tryz.underlying101 hi hz0 hz1 hz2 rfl (by decide) _ _ _ rfl (hh.1.alloc _) ⟨wr.heap.size, 0, none⟩ 1 1 [.iface 145 (.pointer (some ⟨b, o + k * 9, none⟩))] rfl rfl ?c1 ?c2 ?c3 ?c4 ?c5 ?_)
     case c1 => exact cell_one_new _ _ _
     case c2 => intro u hu; simp at hu; subst hu; rfl
     case c3 => unfold maxLen; omega
     case c4 => omega
     case c5 => have := hh.2.size; simp; omega
     · intro v' w3 hown3 hgrow _ hat3
       have HM := Half.more hh HP.out hown3 hgrow hat3
       clear hown3 hgrow hat3 hh
       go_wp2
       go_roundw
       case rel => exact ⟨k + 1, v', rfl, by go_num, by omega, HM⟩
       case measure => simp [intOf]; omega
   · go_wp2
     go_ret
     exact hh.done hlt hk HLEN.out HXS.out HM0.out HYS.out
theorem add_fd (w : World) (B : Nat) (v : Value) (ps : List Pt) (nv : Value) (l : List Nd) (hB : B ≤ w.heap.size) (hown : w.ownsRow B 113 1 v ps.length (ps.map ptV)) (hr : Rw w .fd nv l) (hs : ps.length + l.length ≤ 1000000) :
   Calls Tryz.prog 98 #[v, nv] w (AddSaid w B v (ps ++ ptsV .fd nv l)) := by
 obtain ⟨A, cap, hv⟩ := hr.form
 have hlen := ptsV_len hr
 subst hv
 obtain ⟨n, hn⟩ : ∃ n, l.length = n := ⟨_, rfl⟩
 rw [hn] at hr hlen hs ⊢
 obtain ⟨qs, hqs⟩ : ∃ qs, ptsV .fd (.slice A n cap) l = qs := ⟨_, rfl⟩
 rw [hqs] at hlen ⊢
 have HAT := Lib.hid hr.at
 obtain ⟨xs, hxs⟩ : ∃ xs, xs = ps.map ptV := ⟨_, rfl⟩
 obtain ⟨ys, hys⟩ : ∃ ys, ys = qs.map ptV := ⟨_, rfl⟩
 obtain ⟨m, hm⟩ : ∃ m, m = ps.length := ⟨_, rfl⟩
 rw [← hxs, ← hm] at hown
 rw [← hm] at hs
 have H0 : Half w B v m xs ys 0 v w := Half.start hown
 have HXS := Lib.hid hxs
 have HYS := Lib.hid hys
 have HM0 := Lib.hid hm
 have HLEN := Lib.hid hlen
 have HQS := Lib.hid hqs
 clear hlen hqs hn hr hown hxs hys hm
 obtain ⟨i0, hi, hz0, hz1, hz2⟩ := info_parts Tryz.infoPart
 go_enter Tryz.func98, Tryz.ntmps98
 go_wp2
 go_loopw [0, 8] (fun v0 v8 wr => ∃ (k : Nat) (v1 : Value), v0 = v1 ∧ v8 = .int .i64 k ∧ k ≤ n ∧ Half w B v m xs ys k v1 wr) (fun v0 v8 wr => n - (intOf v8).toNat)
 case atStart => exact ⟨0, v, rfl, rfl, Nat.zero_le _, H0⟩
 case round =>
   obtain ⟨k, v1, rfl, rfl, hk, hh⟩ := hrel
   clear H0
   by_cases hlt : k < n
   · obtain ⟨_, hat⟩ := HAT.out
     obtain ⟨b, o, x, rfl, hx, hxt, hp⟩ := hat k hlt
     clear hat
     rw [HQS.out] at hp
     have hpv : ys[k]? = some (.iface 151 (.pointer (some ⟨b, o + k * 4, none⟩))) := by rw [HYS.out, List.getElem?_map, hp]; simp only [Option.map_some, ptV]; rw [hxt]; rfl
     have HP := Lib.hid hpv
     clear hp hx hxt hpv
     go_wp2_with (at_builtin; refine wpList_append_own_at _ rfl (.tmp 11) (.tmp 16) 101 rfl B 113 i0 _ 1 16 Tryz.underlying101 hi hz0 hz1 hz2 rfl (by decide) _ _ _ rfl (hh.1.alloc _) ⟨wr.heap.size, 0, none⟩ 1 1 [.iface 151 (.pointer (some ⟨b, o + k * 4, none⟩))] rfl rfl ?c1 ?c2 ?c3 ?c4 ?c5 ?_)
     case c1 => exact cell_one_new _ _ _
     case c2 => intro u hu; simp at hu; subst hu; rfl
     case c3 => unfold maxLen; omega
     case c4 => omega
     case c5 => have := hh.2.size; simp; omega
     · intro v' w3 hown3 hgrow _ hat3
       have HM := Half.more hh HP.out hown3 hgrow hat3
       clear hown3 hgrow hat3 hh
       go_wp2
       go_roundw
       case rel => exact ⟨k + 1, v', rfl, by go_num, by omega, HM⟩
       case measure => simp [intOf]; omega
   · go_wp2
     go_ret
     exact hh.done hlt hk HLEN.out HXS.out HM0.out HYS.out
theorem add_mt (w : World) (B : Nat) (v : Value) (ps : List Pt) (nv : Value) (l : List Nd) (hB : B ≤ w.heap.size) (hown : w.ownsRow B 113 1 v ps.length (ps.map ptV)) (hr : Rw w .mt nv l) (hs : ps.length + l.length ≤ 1000000) :
   Calls Tryz.prog 97 #[v, nv] w (AddSaid w B v (ps ++ ptsV .mt nv l)) := by
 obtain ⟨A, cap, hv⟩ := hr.form
 have hlen := ptsV_len hr
 subst hv
 obtain ⟨n, hn⟩ : ∃ n, l.length = n := ⟨_, rfl⟩
 rw [hn] at hr hlen hs ⊢
 obtain ⟨qs, hqs⟩ : ∃ qs, ptsV .mt (.slice A n cap) l = qs := ⟨_, rfl⟩
 rw [hqs] at hlen ⊢
 have HAT := Lib.hid hr.at
 obtain ⟨xs, hxs⟩ : ∃ xs, xs = ps.map ptV := ⟨_, rfl⟩
 obtain ⟨ys, hys⟩ : ∃ ys, ys = qs.map ptV := ⟨_, rfl⟩
 obtain ⟨m, hm⟩ : ∃ m, m = ps.length := ⟨_, rfl⟩
 rw [← hxs, ← hm] at hown
 rw [← hm] at hs
 have H0 : Half w B v m xs ys 0 v w := Half.start hown
 have HXS := Lib.hid hxs
 have HYS := Lib.hid hys
 have HM0 := Lib.hid hm
 have HLEN := Lib.hid hlen
 have HQS := Lib.hid hqs
 clear hlen hqs hn hr hown hxs hys hm
 obtain ⟨i0, hi, hz0, hz1, hz2⟩ := info_parts Tryz.infoPart
 go_enter Tryz.func97, Tryz.ntmps97
 go_wp2
 go_loopw [0, 8] (fun v0 v8 wr => ∃ (k : Nat) (v1 : Value), v0 = v1 ∧ v8 = .int .i64 k ∧ k ≤ n ∧ Half w B v m xs ys k v1 wr) (fun v0 v8 wr => n - (intOf v8).toNat)
 case atStart => exact ⟨0, v, rfl, rfl, Nat.zero_le _, H0⟩
 case round =>
   obtain ⟨k, v1, rfl, rfl, hk, hh⟩ := hrel
   clear H0
   by_cases hlt : k < n
   · obtain ⟨_, hat⟩ := HAT.out
     obtain ⟨b, o, x, rfl, hx, hxt, hp⟩ := hat k hlt
     clear hat
     rw [HQS.out] at hp
     have hpv : ys[k]? = some (.iface 148 (.pointer (some ⟨b, o + k * 6, none⟩))) := by rw [HYS.out, List.getElem?_map, hp]; simp only [Option.map_some, ptV]; rw [hxt]; rfl
     have HP := Lib.hid hpv
     clear hp hx hxt hpv
     go_wp2_with (at_builtin; refine wpList_append_own_at _ rfl (.tmp 11) (.tmp 16) 101 rfl B 113 i0 _ 1 16 Tryz.underlying101 hi hz0 hz1 hz2 rfl (by decide) _ _ _ rfl (hh.1.alloc _) ⟨wr.heap.size, 0, none⟩ 1 1 [.iface 148 (.pointer (some ⟨b, o + k * 6, none⟩))] rfl rfl ?c1 ?c2 ?c3 ?c4 ?c5 ?_)
     case c1 => exact cell_one_new _ _ _
     case c2 => intro u hu; simp at hu; subst hu; rfl
     case c3 => unfold maxLen; omega
     case c4 => omega
     case c5 => have := hh.2.size; simp; omega
     · intro v' w3 hown3 hgrow _ hat3
       have HM := Half.more hh HP.out hown3 hgrow hat3
       clear hown3 hgrow hat3 hh
       go_wp2
       go_roundw
       case rel => exact ⟨k + 1, v', rfl, by go_num, by omega, HM⟩
       case measure => simp [intOf]; omega
   · go_wp2
     go_ret
     exact hh.done hlt hk HLEN.out HXS.out HM0.out HYS.out
end
end Go.Proofs.YtnbfajmdfkgebaaGreatDoor
