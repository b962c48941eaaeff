/- Parts of the proof: Tree, TreeA, TreeB, TreeC, TreeD, Fit. -/
import Derived.Test.YtaclhdpjkgoadaaGreatDoorP4
import Derived.WalkKit
import Derived.Below
import Derived.Laws.OwnMore
import Derived.Maps.AppendAt
import Derived.WalkSmall
import Derived.Lib.Hide
import Derived.BigCall
import Derived.Deep.RegionWith
import Derived.Deep.LoopGhost
import Derived.Deep.AppendLies
import Derived.Test.YtaclhdpjkgoadaaGreatDoorP19
import Derived.Deep.QuietTactic
import Derived.BigQuiet
import Derived.Laws.StructEq
set_option maxHeartbeats 2000000
set_option maxRecDepth 100000
namespace Go.Proofs.YtaclhdpjkgoadaaGreatDoor
set_option linter.unusedSimpArgs false
set_option linter.unusedVariables false
section
open Go.RowKit
inductive Nd where
 | ex (k n : Int) (tx nm ty : ByteArray) (v : Value) (l : List Nd) (own : ByteArray) (nth : Int)
 | st (k n : Int) (ty nm : ByteArray) (ve va vb vc : Value) (e a b c : List Nd) (nth : Int)
 | fd (s : Bool) (ty nm : ByteArray) (v : Value) (l : List Nd)
 | mt (s c : Bool) (ty nm : ByteArray) (vp : Value) (ps : List (ByteArray × ByteArray)) (v : Value) (l : List Nd)
 | cl (nm sp : ByteArray) (vf vm : Value) (f m : List Nd)
inductive Tg where
 | ex | st | fd | mt | cl
 deriving DecidableEq
def Tg.sz : Tg → Nat
 | .ex => 8 | .st => 9 | .fd => 4 | .mt => 6 | .cl => 4
def Tg.ptr : Tg → TypeId
 | .ex => 58 | .st => 119 | .fd => 124 | .mt => 127 | .cl => 97
def Nd.tag : Nd → Tg
 | .ex .. => .ex | .st .. => .st | .fd .. => .fd | .mt .. => .mt | .cl .. => .cl
def Nd.kids : Nd → List Nd
 | .ex _ _ _ _ _ _ l _ _ => l
 | .st _ _ _ _ _ _ _ _ e a b c _ => e ++ a ++ b ++ c
 | .fd _ _ _ _ l => l
 | .mt _ _ _ _ _ _ _ l => l
 | .cl _ _ _ _ f m => f ++ m
mutual
def Nd.size : Nd → Nat
 | .ex _ _ _ _ _ _ l _ _ => 1 + sizeL l
 | .st _ _ _ _ _ _ _ _ e a b c _ => 1 + (sizeL e + sizeL a + sizeL b + sizeL c)
 | .fd _ _ _ _ l => 1 + sizeL l
 | .mt _ _ _ _ _ _ _ l => 1 + sizeL l
 | .cl _ _ _ _ f m => 1 + (sizeL f + sizeL m)
def sizeL : List Nd → Nat
 | [] => 0
 | x :: l => x.size + sizeL l
end
theorem sizeL_append (a b : List Nd) : sizeL (a ++ b) = sizeL a + sizeL b := by
 induction a with
 | nil => simp [sizeL]
 | cons x a ih => simp [sizeL, ih]; omega
theorem size_kids (x : Nd) : x.size = 1 + sizeL x.kids := by
 cases x <;> simp [Nd.size, Nd.kids, sizeL_append] <;> omega
theorem size_pos (x : Nd) : 0 < x.size := by rw [size_kids]; omega
theorem len_sizeL : ∀ l : List Nd, l.length ≤ sizeL l
 | [] => by simp
 | x :: l => by have := len_sizeL l; have := size_pos x; simp [sizeL]; omega
theorem size_mem {x : Nd} : ∀ {l : List Nd}, x ∈ l → x.size ≤ sizeL l
 | [], h => by simp at h
 | y :: l, h => by
   rcases List.mem_cons.1 h with rfl | h
   · simp [sizeL]
   · have := size_mem h; simp [sizeL]; omega
def cellsN : Nd → List Value
 | .ex k n tx nm ty v _ own nth => [.int .i64 k, .int .i32 n, .string tx, .string nm, .string ty, v, .string own, .int .i64 nth]
 | .st k n ty nm ve va vb vc _ _ _ _ nth => [.int .i64 k, .int .i32 n, .string ty, .string nm, ve, va, vb, vc, .int .i64 nth]
 | .fd s ty nm v _ => [.bool s, .string ty, .string nm, v]
 | .mt s c ty nm vp _ v _ => [.bool s, .bool c, .string ty, .string nm, vp, v]
 | .cl nm sp vf vm _ _ => [.string nm, .string sp, vf, vm]
theorem cells_len (x : Nd) : (cellsN x).length = x.tag.sz := by cases x <;> rfl
def Keep (w w' : World) : Prop := ∀ p u, w.cell? p = some u → w'.cell? p = some u
theorem Keep.below {w w' : World} (h : Below w.heap.size w w') : Keep w w' := fun p u hu => (h.cell (World.block_lt_of_cell? w p hu)).trans hu
def Rw (w : World) (t : Tg) (v : Value) (l : List Nd) : Prop :=
 ∃ A cap, v = .slice A l.length cap ∧ (l.length ≤ maxLen ∧ l.length ≤ cap) ∧ (∀ x ∈ l, x.tag = t) ∧ (0 < l.length → ∃ b o, A = some ⟨b, o, none⟩ ∧ ∀ i x, l[i]? = some x → ∀ j u, (cellsN x)[j]? = some u → w.cell? ⟨b, o + i * t.sz + j, none⟩ = some u)
def Pw (w : World) (v : Value) (l : List (ByteArray × ByteArray)) : Prop :=
 ∃ A cap, v = .slice A l.length cap ∧ l.length ≤ maxLen ∧ (∀ x ∈ l, x.1.size ≤ maxLen ∧ x.2.size ≤ maxLen) ∧ (0 < l.length → ∃ b o, A = some ⟨b, o, none⟩ ∧ ∀ i x, l[i]? = some x → w.cell? ⟨b, o + i * 2, none⟩ = some (.string x.1) ∧ w.cell? ⟨b, o + i * 2 + 1, none⟩ = some (.string x.2))
mutual
def Kd (w : World) : Nd → Prop
 | .ex _ _ tx nm ty v l _ _ => (tx.size ≤ maxLen ∧ nm.size ≤ maxLen ∧ ty.size ≤ maxLen) ∧ Rw w .ex v l ∧ KdL w l
 | .st _ _ ty nm ve va vb vc e a b c _ => (ty.size ≤ maxLen ∧ nm.size ≤ maxLen) ∧ (Rw w .ex ve e ∧ KdL w e) ∧ (Rw w .st va a ∧ KdL w a) ∧ (Rw w .st vb b ∧ KdL w b) ∧ (Rw w .st vc c ∧ KdL w c)
 | .fd _ ty nm v l => (ty.size ≤ maxLen ∧ nm.size ≤ maxLen) ∧ Rw w .ex v l ∧ KdL w l
 | .mt _ _ ty nm vp ps v l => (ty.size ≤ maxLen ∧ nm.size ≤ maxLen) ∧ Pw w vp ps ∧ Rw w .st v l ∧ KdL w l
 | .cl nm sp vf vm f m => (nm.size ≤ maxLen ∧ sp.size ≤ maxLen) ∧ (Rw w .fd vf f ∧ KdL w f) ∧ (Rw w .mt vm m ∧ KdL w m)
def KdL (w : World) : List Nd → Prop
 | [] => True
 | x :: l => Kd w x ∧ KdL w l
end
theorem KdL_mem {w : World} : ∀ {l : List Nd}, KdL w l → ∀ x ∈ l, Kd w x
 | [], _, x, h => by simp at h
 | y :: l, hk, x, h => by
   rcases List.mem_cons.1 h with rfl | h
   · exact hk.1
   · exact KdL_mem hk.2 x h
theorem KdL_of {w : World} : ∀ {l : List Nd}, (∀ x ∈ l, Kd w x) → KdL w l
 | [], _ => trivial
 | y :: l, h => ⟨h y (by simp), KdL_of fun x hx => h x (by simp [hx])⟩
theorem KdL_append {w : World} {a b : List Nd} (h : KdL w a) (k : KdL w b) : KdL w (a ++ b) := KdL_of fun x hx => by
 rcases List.mem_append.1 hx with hx | hx
 · exact KdL_mem h x hx
 · exact KdL_mem k x hx
theorem Rw.keep {w w' : World} (K : Keep w w') {t : Tg} {v : Value} {l : List Nd} (h : Rw w t v l) : Rw w' t v l := by
 obtain ⟨A, cap, hv, hm, ht, hc⟩ := h
 refine ⟨A, cap, hv, hm, ht, fun hn => ?_⟩
 obtain ⟨b, o, hA, hcell⟩ := hc hn
 exact ⟨b, o, hA, fun i x hx j u hu => K _ _ (hcell i x hx j u hu)⟩
theorem Pw.keep {w w' : World} (K : Keep w w') {v : Value} {l : List (ByteArray × ByteArray)} (h : Pw w v l) : Pw w' v l := by
 obtain ⟨A, cap, hv, hm, ht, hc⟩ := h
 refine ⟨A, cap, hv, hm, ht, fun hn => ?_⟩
 obtain ⟨b, o, hA, hcell⟩ := hc hn
 exact ⟨b, o, hA, fun i x hx => ⟨K _ _ (hcell i x hx).1, K _ _ (hcell i x hx).2⟩⟩
mutual
theorem Kd.keep {w w' : World} (K : Keep w w') : ∀ x, Kd w x → Kd w' x
 | .ex _ _ tx nm ty v l _ _, h => by
   rw [Kd] at h ⊢; exact ⟨h.1, h.2.1.keep K, KdL.keep K l h.2.2⟩
 | .st _ _ ty nm ve va vb vc e a b c _, h => by
   rw [Kd] at h ⊢; exact ⟨h.1, ⟨h.2.1.1.keep K, KdL.keep K e h.2.1.2⟩, ⟨h.2.2.1.1.keep K, KdL.keep K a h.2.2.1.2⟩, ⟨h.2.2.2.1.1.keep K, KdL.keep K b h.2.2.2.1.2⟩, ⟨h.2.2.2.2.1.keep K, KdL.keep K c h.2.2.2.2.2⟩⟩
 | .fd _ ty nm v l, h => by
   rw [Kd] at h ⊢; exact ⟨h.1, h.2.1.keep K, KdL.keep K l h.2.2⟩
 | .mt _ _ ty nm vp ps v l, h => by
   rw [Kd] at h ⊢; exact ⟨h.1, h.2.1.keep K, h.2.2.1.keep K, KdL.keep K l h.2.2.2⟩
 | .cl nm sp vf vm f m, h => by
   rw [Kd] at h ⊢; exact ⟨h.1, ⟨h.2.1.1.keep K, KdL.keep K f h.2.1.2⟩, ⟨h.2.2.1.keep K, KdL.keep K m h.2.2.2⟩⟩
theorem KdL.keep {w w' : World} (K : Keep w w') : ∀ l, KdL w l → KdL w' l
 | [], _ => trivial
 | x :: l, h => ⟨Kd.keep K x h.1, KdL.keep K l h.2⟩
end
structure Pt where
 b : Nat
 o : Nat
 x : Nd
def Pt.at_ (w : World) (p : Pt) : Prop := (∀ j u, (cellsN p.x)[j]? = some u → w.cell? ⟨p.b, p.o + j, none⟩ = some u) ∧ Kd w p.x
theorem Pt.at_.keep {w w' : World} (K : Keep w w') {p : Pt} (h : p.at_ w) : p.at_ w' := ⟨fun j u hu => K _ _ (h.1 j u hu), Kd.keep K _ h.2⟩
def ptV (p : Pt) : Value := .iface p.x.tag.ptr (.pointer (some ⟨p.b, p.o, none⟩))
def pts (b o sz : Nat) : List Nd → List Pt
 | [] => []
 | x :: l => ⟨b, o, x⟩ :: pts b (o + sz) sz l
def ptsV (t : Tg) (v : Value) (l : List Nd) : List Pt :=
 match v with
 | .slice (some a) _ _ => pts a.block a.off t.sz l
 | _ => []
theorem pts_x (b sz : Nat) : ∀ (l : List Nd) (o : Nat), (pts b o sz l).map Pt.x = l
 | [], _ => rfl
 | x :: l, o => by simp [pts, pts_x b sz l]
theorem pts_get (b sz : Nat) : ∀ (l : List Nd) (o i : Nat), (pts b o sz l)[i]? = (l[i]?).map fun x => ⟨b, o + i * sz, x⟩
 | [], _, _ => by simp [pts]
 | x :: l, o, 0 => by simp [pts]
 | x :: l, o, i + 1 => by
   simp only [pts, List.getElem?_cons_succ, pts_get b sz l (o + sz) i]
   congr 1; funext y; rw [Nat.add_mul]; congr 1; omega
theorem ptsV_x {w : World} {t : Tg} {v : Value} {l : List Nd} (h : Rw w t v l) : (ptsV t v l).map Pt.x = l := by
 obtain ⟨A, cap, rfl, _, _, hc⟩ := h
 cases A with
 | none =>
   rcases Nat.eq_zero_or_pos l.length with h0 | h0
   · have : l = [] := List.eq_nil_of_length_eq_zero h0
     subst this; rfl
   · obtain ⟨b, o, h, _⟩ := hc h0; cases h
 | some a => exact pts_x _ _ _ _
theorem ptsV_len {w : World} {t : Tg} {v : Value} {l : List Nd} (h : Rw w t v l) : (ptsV t v l).length = l.length := by
 have := congrArg List.length (ptsV_x h); simpa using this
theorem ptsV_at {w : World} {t : Tg} {v : Value} {l : List Nd} (h : Rw w t v l) (hk : KdL w l) : ∀ p ∈ ptsV t v l, p.at_ w := by
 intro p hp
 obtain ⟨A, cap, rfl, _, _, hc⟩ := h
 cases A with
 | none => simp [ptsV] at hp
 | some a =>
   simp only [ptsV] at hp
   obtain ⟨i, hi⟩ := List.getElem?_of_mem hp
   rw [pts_get] at hi
   cases hx : l[i]? with
   | none => simp [hx] at hi
   | some x =>
     simp only [hx, Option.map_some, Option.some.injEq] at hi
     have hil : i < l.length := (List.getElem?_eq_some_iff.1 hx).1
     obtain ⟨b, o, hA, hcell⟩ := hc (by omega)
     injection hA with hA
     subst hA
     subst hi
     exact ⟨hcell i x hx, KdL_mem hk x (List.mem_of_getElem? hx)⟩
def kidsP : Nd → List Pt
 | .ex _ _ _ _ _ v l _ _ => ptsV .ex v l
 | .st _ _ _ _ ve va vb vc e a b c _ => ptsV .ex ve e ++ ptsV .st va a ++ ptsV .st vb b ++ ptsV .st vc c
 | .fd _ _ _ v l => ptsV .ex v l
 | .mt _ _ _ _ _ _ v l => ptsV .st v l
 | .cl _ _ vf vm f m => ptsV .fd vf f ++ ptsV .mt vm m
theorem kidsP_x {w : World} {x : Nd} (h : Kd w x) : (kidsP x).map Pt.x = x.kids := by
 cases x <;> rw [Kd] at h
 · exact ptsV_x h.2.1
 · simp only [kidsP, Nd.kids, List.map_append]
   rw [ptsV_x h.2.1.1, ptsV_x h.2.2.1.1, ptsV_x h.2.2.2.1.1, ptsV_x h.2.2.2.2.1]
 · exact ptsV_x h.2.1
 · exact ptsV_x h.2.2.1
 · simp only [kidsP, Nd.kids, List.map_append]
   rw [ptsV_x h.2.1.1, ptsV_x h.2.2.1]
theorem kidsP_at {w : World} {x : Nd} (h : Kd w x) : ∀ p ∈ kidsP x, p.at_ w := by
 intro p hp
 cases x <;> rw [Kd] at h <;> simp only [kidsP, List.mem_append] at hp
 · exact ptsV_at h.2.1 h.2.2 p hp
 · rcases hp with ((hp | hp) | hp) | hp
   · exact ptsV_at h.2.1.1 h.2.1.2 p hp
   · exact ptsV_at h.2.2.1.1 h.2.2.1.2 p hp
   · exact ptsV_at h.2.2.2.1.1 h.2.2.2.1.2 p hp
   · exact ptsV_at h.2.2.2.2.1 h.2.2.2.2.2 p hp
 · exact ptsV_at h.2.1 h.2.2 p hp
 · exact ptsV_at h.2.2.1 h.2.2.2 p hp
 · rcases hp with hp | hp
   · exact ptsV_at h.2.1.1 h.2.1.2 p hp
   · exact ptsV_at h.2.2.1 h.2.2.2 p hp
def sizeP (l : List Pt) : Nat := sizeL (l.map Pt.x)
theorem sizeP_append (a b : List Pt) : sizeP (a ++ b) = sizeP a + sizeP b := by simp [sizeP, sizeL_append]
theorem len_sizeP (l : List Pt) : l.length ≤ sizeP l := by have := len_sizeL (l.map Pt.x); simpa [sizeP] using this
theorem sizeP_kids {w : World} {x : Nd} (h : Kd w x) : x.size = 1 + sizeP (kidsP x) := by rw [sizeP, kidsP_x h, size_kids]
def Grew (w w' : World) (v v' : Value) : Prop := w.grownBy w' v.ownBlock ∧ (v'.ownBlock = v.ownBlock ∨ ∀ k, v'.ownBlock = some k → w.heap.size ≤ k)
theorem grown_refl (w : World) (r : Option Nat) : w.grownBy w r := ⟨rfl, rfl, rfl, Nat.le_refl _, fun _ _ _ => rfl⟩
theorem Grew.refl (w : World) (v : Value) : Grew w w v v := ⟨grown_refl w _, .inl rfl⟩
theorem Grew.size {w w' : World} {v v' : Value} (h : Grew w w' v v') : w.heap.size ≤ w'.heap.size := h.1.size
theorem Grew.trans {a b c : World} {u v x : Value} (h : Grew a b u v) (k : Grew b c v x) : Grew a c u x := by
 refine ⟨⟨k.1.os.trans h.1.os, k.1.tape.trans h.1.tape, k.1.output.trans h.1.output, Nat.le_trans h.1.size k.1.size, fun i hi hne => ?_⟩, ?_⟩
 · refine (k.1.block i (Nat.lt_of_lt_of_le hi h.1.size) ?_).trans (h.1.block i hi hne)
   rcases h.2 with e | e
   · rw [e]; exact hne
   · intro e'; have := e i e'.symm; omega
 · rcases k.2 with e | e
   · rw [e]; exact h.2
   · exact .inr fun i hi => Nat.le_trans h.1.size (e i hi)
theorem Grew.alloc (w : World) (v : Value) (o : Obj) : Grew w (w.alloc o) v v := ⟨World.grownBy_alloc w o _, .inl rfl⟩
theorem Grew.of_append {w w' : World} {v v' : Value} (h : w.grownBy w' v.ownBlock) (hat : v'.ownBlock = v.ownBlock ∨ v'.ownBlock = some w.heap.size) : Grew w w' v v' :=
 ⟨h, hat.imp id fun e k hk => by rw [e] at hk; injection hk with hk; omega⟩
theorem Grew.below {B : Nat} {w w' : World} {v v' : Value} (h : Grew w w' v v') (hB : B ≤ w.heap.size) (hv : ∀ k, v.ownBlock = some k → B ≤ k) : Below B w w' :=
 (Below.refl B w).grown h.1 hB hv
theorem Rw.form {w : World} {t : Tg} {v : Value} {l : List Nd} (h : Rw w t v l) : ∃ A cap, v = .slice A l.length cap := by
 obtain ⟨A, cap, hv, _⟩ := h; exact ⟨A, cap, hv⟩
end
section
open Go.RowKit
theorem Tryz.infoPart : (Tryz.prog.info? 110).map (fun i => (i.zero, i.size, i.bytes)) = some (some .nilIface, 1, 16) := by kernel_rfl
def AddSaid (w : World) (B : Nat) (v : Value) (qs : List Pt) (e : Ending) (w' : World) : Prop :=
 ∃ v', e = .returned v' ∧ w'.ownsRow B 110 1 v' qs.length (qs.map ptV) ∧ Grew w w' v v'
def Half (w : World) (B : Nat) (v : Value) (m : Nat) (xs ys : List Value) (k : Nat) (v1 : Value) (wr : World) : Prop :=
 wr.ownsRow B 110 1 v1 (m + k) (xs ++ ys.take k) ∧ Grew w wr v v1
theorem Half.start {w : World} {B m : Nat} {v : Value} {xs ys : List Value} (h : w.ownsRow B 110 1 v m xs) : Half w B v m xs ys 0 v w := ⟨by simpa using h, Grew.refl _ _⟩
theorem Half.more {w wr w' : World} {B m : Nat} {v v1 v' : Value} {xs ys : List Value} {k : Nat} {o : Obj} {u : Value} (h : Half w B v m xs ys k v1 wr) (hq : ys[k]? = some u)
   (ho : w'.ownsRow B 110 1 v' (m + k + 1) (xs ++ (ys.take k ++ [u]))) (hg : (wr.alloc o).grownBy w' v1.ownBlock) (hat : v'.ownBlock = v1.ownBlock ∨ v'.ownBlock = some (wr.heap.size + 1)) : Half w B v m xs ys (k + 1) v' w' := by
 have hat : v'.ownBlock = v1.ownBlock ∨ v'.ownBlock = some (wr.alloc o).heap.size := by simpa using hat
 refine ⟨?_, (h.2.trans (Grew.alloc wr v1 o)).trans (Grew.of_append hg hat)⟩
 have : ys.take (k + 1) = ys.take k ++ [u] := by
   rw [List.take_add_one, hq]; simp
 rw [this, ← Nat.add_assoc]; exact ho
theorem Half.done {w wr : World} {B m : Nat} {v v1 : Value} {xs ys : List Value} {ps qs : List Pt} {k n : Nat} (h : Half w B v m xs ys k v1 wr) (hk : ¬ k < n) (hkn : k ≤ n) (hn : qs.length = n) (hx : xs = ps.map ptV) (hm : m = ps.length) (hy : ys = qs.map ptV) : AddSaid w B v (ps ++ qs) (.returned v1) wr := by
 have : k = qs.length := by omega
 subst this
 refine ⟨v1, rfl, ?_, h.2⟩
 have h1 := h.1
 have h2 : ys.take qs.length = ys := List.take_of_length_le (by rw [hy]; simp)
 rw [h2, hx, hy, hm] at h1
 rw [List.length_append, List.map_append]; exact h1
theorem Rw.at {w : World} {t : Tg} {A : Option Addr} {n cap : Nat} {l : List Nd} (h : Rw w t (.slice A n cap) l) : l.length = n ∧ ∀ k, k < n → ∃ b o x, A = some ⟨b, o, none⟩ ∧ l[k]? = some x ∧ x.tag = t ∧ (ptsV t (.slice A n cap) l)[k]? = some ⟨b, o + k * t.sz, x⟩ := by
 obtain ⟨A', cap', hv, _, ht, hc⟩ := h
 injection hv with h1 h2 h3
 refine ⟨h2.symm, fun k hk => ?_⟩
 obtain ⟨b, o, hA, hcell⟩ := hc (by omega)
 have hl : k < l.length := by omega
 refine ⟨b, o, l[k], h1.trans hA, List.getElem?_eq_getElem hl, ht _ (List.getElem_mem hl), ?_⟩
 rw [h1, hA]
 simp only [ptsV]
 rw [pts_get, List.getElem?_eq_getElem hl]; rfl
theorem add_ex (w : World) (B : Nat) (v : Value) (ps : List Pt) (nv : Value) (l : List Nd) (hB : B ≤ w.heap.size) (hown : w.ownsRow B 110 1 v ps.length (ps.map ptV)) (hr : Rw w .ex nv l) (hs : ps.length + l.length ≤ 1000000) :
   Calls Tryz.prog 100 #[v, nv] w (AddSaid w B v (ps ++ ptsV .ex nv l)) := by
 obtain ⟨A, cap, hv⟩ := hr.form
 have hlen := ptsV_len hr
 subst hv
 obtain ⟨n, hn⟩ : ∃ n, l.length = n := ⟨_, rfl⟩
 rw [hn] at hr hlen hs ⊢
 obtain ⟨qs, hqs⟩ : ∃ qs, ptsV .ex (.slice A n cap) l = qs := ⟨_, rfl⟩
 rw [hqs] at hlen ⊢
 have HAT := Lib.hid hr.at
 obtain ⟨xs, hxs⟩ : ∃ xs, xs = ps.map ptV := ⟨_, rfl⟩
 obtain ⟨ys, hys⟩ : ∃ ys, ys = qs.map ptV := ⟨_, rfl⟩
 obtain ⟨m, hm⟩ : ∃ m, m = ps.length := ⟨_, rfl⟩
 rw [← hxs, ← hm] at hown
 rw [← hm] at hs
 have H0 : Half w B v m xs ys 0 v w := Half.start hown
 have HXS := Lib.hid hxs
 have HYS := Lib.hid hys
 have HM0 := Lib.hid hm
 have HLEN := Lib.hid hlen
 have HQS := Lib.hid hqs
 clear hlen hqs hn hr hown hxs hys hm
 obtain ⟨i0, hi, hz0, hz1, hz2⟩ := info_parts Tryz.infoPart
 go_enter Tryz.func100, Tryz.ntmps100
 go_wp2
 go_loopw [0, 8] (fun v0 v8 wr => ∃ (k : Nat) (v1 : Value), v0 = v1 ∧ v8 = .int .i64 k ∧ k ≤ n ∧ Half w B v m xs ys k v1 wr) (fun v0 v8 wr => n - (intOf v8).toNat)
 case atStart => exact ⟨0, v, rfl, rfl, Nat.zero_le _, H0⟩
 case round =>
   obtain ⟨k, v1, rfl, rfl, hk, hh⟩ := hrel
   clear H0
   by_cases hlt : k < n
   · obtain ⟨_, hat⟩ := HAT.out
     obtain ⟨b, o, x, rfl, hx, hxt, hp⟩ := hat k hlt
     clear hat
     rw [HQS.out] at hp
     have hpv : ys[k]? = some (.iface 58 (.pointer (some ⟨b, o + k * 8, none⟩))) := by rw [HYS.out, List.getElem?_map, hp]; simp only [Option.map_some, ptV]; rw [hxt]; rfl
     have HP := Lib.hid hpv
     clear hp hx hxt hpv
     go_wp2_with (at_builtin; refine wpList_append_own_at _ rfl (.tmp 11) (.tmp 16) 78 rfl B 110 i0 _ 1 16 Tryz.underlying78 hi hz0 hz1 hz2 rfl (by decide) _ _ _ rfl (hh.1.alloc _) ⟨wr.heap.size, 0, none⟩ 1 1 [.iface 58 (.pointer (some ⟨b, o + k * 8, none⟩))] rfl rfl ?c1 ?c2 ?c3 ?c4 ?c5 ?_)
     case c1 => exact cell_one_new _ _ _
     case c2 => intro u hu; simp at hu; subst hu; rfl
     case c3 => unfold maxLen; omega
     case c4 => omega
     case c5 => have := hh.2.size; simp; omega
     · intro v' w3 hown3 hgrow _ hat3
       have HM := Half.more hh HP.out hown3 hgrow hat3
       clear hown3 hgrow hat3 hh
       go_wp2
       go_roundw
       case rel => exact ⟨k + 1, v', rfl, by go_num, by omega, HM⟩
       case measure => simp [intOf]; omega
   · go_wp2
     go_ret
     exact hh.done hlt hk HLEN.out HXS.out HM0.out HYS.out
theorem add_st (w : World) (B : Nat) (v : Value) (ps : List Pt) (nv : Value) (l : List Nd) (hB : B ≤ w.heap.size) (hown : w.ownsRow B 110 1 v ps.length (ps.map ptV)) (hr : Rw w .st nv l) (hs : ps.length + l.length ≤ 1000000) :
   Calls Tryz.prog 101 #[v, nv] w (AddSaid w B v (ps ++ ptsV .st nv l)) := by
 obtain ⟨A, cap, hv⟩ := hr.form
 have hlen := ptsV_len hr
 subst hv
 obtain ⟨n, hn⟩ : ∃ n, l.length = n := ⟨_, rfl⟩
 rw [hn] at hr hlen hs ⊢
 obtain ⟨qs, hqs⟩ : ∃ qs, ptsV .st (.slice A n cap) l = qs := ⟨_, rfl⟩
 rw [hqs] at hlen ⊢
 have HAT := Lib.hid hr.at
 obtain ⟨xs, hxs⟩ : ∃ xs, xs = ps.map ptV := ⟨_, rfl⟩
 obtain ⟨ys, hys⟩ : ∃ ys, ys = qs.map ptV := ⟨_, rfl⟩
 obtain ⟨m, hm⟩ : ∃ m, m = ps.length := ⟨_, rfl⟩
 rw [← hxs, ← hm] at hown
 rw [← hm] at hs
 have H0 : Half w B v m xs ys 0 v w := Half.start hown
 have HXS := Lib.hid hxs
 have HYS := Lib.hid hys
 have HM0 := Lib.hid hm
 have HLEN := Lib.hid hlen
 have HQS := Lib.hid hqs
 clear hlen hqs hn hr hown hxs hys hm
 obtain ⟨i0, hi, hz0, hz1, hz2⟩ := info_parts Tryz.infoPart
 go_enter Tryz.func101, Tryz.ntmps101
 go_wp2
 go_loopw [0, 8] (fun v0 v8 wr => ∃ (k : Nat) (v1 : Value), v0 = v1 ∧ v8 = .int .i64 k ∧ k ≤ n ∧ Half w B v m xs ys k v1 wr) (fun v0 v8 wr => n - (intOf v8).toNat)
 case atStart => exact ⟨0, v, rfl, rfl, Nat.zero_le _, H0⟩
 case round =>
   obtain ⟨k, v1, rfl, rfl, hk, hh⟩ := hrel
   clear H0
   by_cases hlt : k < n
   · obtain ⟨_, hat⟩ := HAT.out
     obtain ⟨b, o, x, rfl, hx, hxt, hp⟩ := hat k hlt
     clear hat
     rw [HQS.out] at hp
     have hpv : ys[k]? = some (.iface 119 (.pointer (some ⟨b, o + k * 9, none⟩))) := by rw [HYS.out, List.getElem?_map, hp]; simp only [Option.map_some, ptV]; rw [hxt]; rfl
     have HP := Lib.hid hpv
     clear hp hx hxt hpv
     go_wp2_with (at_builtin; refine wpList_append_own_at _ rfl (.tmp 11) (.tmp 16) 78 rfl B 110 i0 _ 1 16 Tryz.underlying78 hi hz0 hz1 hz2 rfl (by decide) _ _ _ rfl (hh.1.alloc _) ⟨wr.heap.size, 0, none⟩ 1 1 [.iface 119 (.pointer (some ⟨b, o + k * 9, none⟩))] rfl rfl ?c1 ?c2 ?c3 ?c4 ?c5 ?_)
     case c1 => exact cell_one_new _ _ _
     case c2 => intro u hu; simp at hu; subst hu; rfl
     case c3 => unfold maxLen; omega
     case c4 => omega
     case c5 => have := hh.2.size; simp; omega
     · intro v' w3 hown3 hgrow _ hat3
       have HM := Half.more hh HP.out hown3 hgrow hat3
       clear hown3 hgrow hat3 hh
       go_wp2
       go_roundw
       case rel => exact ⟨k + 1, v', rfl, by go_num, by omega, HM⟩
       case measure => simp [intOf]; omega
   · go_wp2
     go_ret
     exact hh.done hlt hk HLEN.out HXS.out HM0.out HYS.out
theorem add_fd (w : World) (B : Nat) (v : Value) (ps : List Pt) (nv : Value) (l : List Nd) (hB : B ≤ w.heap.size) (hown : w.ownsRow B 110 1 v ps.length (ps.map ptV)) (hr : Rw w .fd nv l) (hs : ps.length + l.length ≤ 1000000) :
   Calls Tryz.prog 103 #[v, nv] w (AddSaid w B v (ps ++ ptsV .fd nv l)) := by
 obtain ⟨A, cap, hv⟩ := hr.form
 have hlen := ptsV_len hr
 subst hv
 obtain ⟨n, hn⟩ : ∃ n, l.length = n := ⟨_, rfl⟩
 rw [hn] at hr hlen hs ⊢
 obtain ⟨qs, hqs⟩ : ∃ qs, ptsV .fd (.slice A n cap) l = qs := ⟨_, rfl⟩
 rw [hqs] at hlen ⊢
 have HAT := Lib.hid hr.at
 obtain ⟨xs, hxs⟩ : ∃ xs, xs = ps.map ptV := ⟨_, rfl⟩
 obtain ⟨ys, hys⟩ : ∃ ys, ys = qs.map ptV := ⟨_, rfl⟩
 obtain ⟨m, hm⟩ : ∃ m, m = ps.length := ⟨_, rfl⟩
 rw [← hxs, ← hm] at hown
 rw [← hm] at hs
 have H0 : Half w B v m xs ys 0 v w := Half.start hown
 have HXS := Lib.hid hxs
 have HYS := Lib.hid hys
 have HM0 := Lib.hid hm
 have HLEN := Lib.hid hlen
 have HQS := Lib.hid hqs
 clear hlen hqs hn hr hown hxs hys hm
 obtain ⟨i0, hi, hz0, hz1, hz2⟩ := info_parts Tryz.infoPart
 go_enter Tryz.func103, Tryz.ntmps103
 go_wp2
 go_loopw [0, 8] (fun v0 v8 wr => ∃ (k : Nat) (v1 : Value), v0 = v1 ∧ v8 = .int .i64 k ∧ k ≤ n ∧ Half w B v m xs ys k v1 wr) (fun v0 v8 wr => n - (intOf v8).toNat)
 case atStart => exact ⟨0, v, rfl, rfl, Nat.zero_le _, H0⟩
 case round =>
   obtain ⟨k, v1, rfl, rfl, hk, hh⟩ := hrel
   clear H0
   by_cases hlt : k < n
   · obtain ⟨_, hat⟩ := HAT.out
     obtain ⟨b, o, x, rfl, hx, hxt, hp⟩ := hat k hlt
     clear hat
     rw [HQS.out] at hp
     have hpv : ys[k]? = some (.iface 124 (.pointer (some ⟨b, o + k * 4, none⟩))) := by rw [HYS.out, List.getElem?_map, hp]; simp only [Option.map_some, ptV]; rw [hxt]; rfl
     have HP := Lib.hid hpv
     clear hp hx hxt hpv
     go_wp2_with (at_builtin; refine wpList_append_own_at _ rfl (.tmp 11) (.tmp 16) 78 rfl B 110 i0 _ 1 16 Tryz.underlying78 hi hz0 hz1 hz2 rfl (by decide) _ _ _ rfl (hh.1.alloc _) ⟨wr.heap.size, 0, none⟩ 1 1 [.iface 124 (.pointer (some ⟨b, o + k * 4, none⟩))] rfl rfl ?c1 ?c2 ?c3 ?c4 ?c5 ?_)
     case c1 => exact cell_one_new _ _ _
     case c2 => intro u hu; simp at hu; subst hu; rfl
     case c3 => unfold maxLen; omega
     case c4 => omega
     case c5 => have := hh.2.size; simp; omega
     · intro v' w3 hown3 hgrow _ hat3
       have HM := Half.more hh HP.out hown3 hgrow hat3
       clear hown3 hgrow hat3 hh
       go_wp2
       go_roundw
       case rel => exact ⟨k + 1, v', rfl, by go_num, by omega, HM⟩
       case measure => simp [intOf]; omega
   · go_wp2
     go_ret
     exact hh.done hlt hk HLEN.out HXS.out HM0.out HYS.out
theorem add_mt (w : World) (B : Nat) (v : Value) (ps : List Pt) (nv : Value) (l : List Nd) (hB : B ≤ w.heap.size) (hown : w.ownsRow B 110 1 v ps.length (ps.map ptV)) (hr : Rw w .mt nv l) (hs : ps.length + l.length ≤ 1000000) :
   Calls Tryz.prog 102 #[v, nv] w (AddSaid w B v (ps ++ ptsV .mt nv l)) := by
 obtain ⟨A, cap, hv⟩ := hr.form
 have hlen := ptsV_len hr
 subst hv
 obtain ⟨n, hn⟩ : ∃ n, l.length = n := ⟨_, rfl⟩
 rw [hn] at hr hlen hs ⊢
 obtain ⟨qs, hqs⟩ : ∃ qs, ptsV .mt (.slice A n cap) l = qs := ⟨_, rfl⟩
 rw [hqs] at hlen ⊢
 have HAT := Lib.hid hr.at
 obtain ⟨xs, hxs⟩ : ∃ xs, xs = ps.map ptV := ⟨_, rfl⟩
 obtain ⟨ys, hys⟩ : ∃ ys, ys = qs.map ptV := ⟨_, rfl⟩
 obtain ⟨m, hm⟩ : ∃ m, m = ps.length := ⟨_, rfl⟩
 rw [← hxs, ← hm] at hown
 rw [← hm] at hs
 have H0 : Half w B v m xs ys 0 v w := Half.start hown
 have HXS := Lib.hid hxs
 have HYS := Lib.hid hys
 have HM0 := Lib.hid hm
 have HLEN := Lib.hid hlen
 have HQS := Lib.hid hqs
 clear hlen hqs hn hr hown hxs hys hm
 obtain ⟨i0, hi, hz0, hz1, hz2⟩ := info_parts Tryz.infoPart
 go_enter Tryz.func102, Tryz.ntmps102
 go_wp2
 go_loopw [0, 8] (fun v0 v8 wr => ∃ (k : Nat) (v1 : Value), v0 = v1 ∧ v8 = .int .i64 k ∧ k ≤ n ∧ Half w B v m xs ys k v1 wr) (fun v0 v8 wr => n - (intOf v8).toNat)
 case atStart => exact ⟨0, v, rfl, rfl, Nat.zero_le _, H0⟩
 case round =>
   obtain ⟨k, v1, rfl, rfl, hk, hh⟩ := hrel
   clear H0
   by_cases hlt : k < n
   · obtain ⟨_, hat⟩ := HAT.out
     obtain ⟨b, o, x, rfl, hx, hxt, hp⟩ := hat k hlt
     clear hat
     rw [HQS.out] at hp
     have hpv : ys[k]? = some (.iface 127 (.pointer (some ⟨b, o + k * 6, none⟩))) := by rw [HYS.out, List.getElem?_map, hp]; simp only [Option.map_some, ptV]; rw [hxt]; rfl
     have HP := Lib.hid hpv
     clear hp hx hxt hpv
     go_wp2_with (at_builtin; refine wpList_append_own_at _ rfl (.tmp 11) (.tmp 16) 78 rfl B 110 i0 _ 1 16 Tryz.underlying78 hi hz0 hz1 hz2 rfl (by decide) _ _ _ rfl (hh.1.alloc _) ⟨wr.heap.size, 0, none⟩ 1 1 [.iface 127 (.pointer (some ⟨b, o + k * 6, none⟩))] rfl rfl ?c1 ?c2 ?c3 ?c4 ?c5 ?_)
     case c1 => exact cell_one_new _ _ _
     case c2 => intro u hu; simp at hu; subst hu; rfl
     case c3 => unfold maxLen; omega
     case c4 => omega
     case c5 => have := hh.2.size; simp; omega
     · intro v' w3 hown3 hgrow _ hat3
       have HM := Half.more hh HP.out hown3 hgrow hat3
       clear hown3 hgrow hat3 hh
       go_wp2
       go_roundw
       case rel => exact ⟨k + 1, v', rfl, by go_num, by omega, HM⟩
       case measure => simp [intOf]; omega
   · go_wp2
     go_ret
     exact hh.done hlt hk HLEN.out HXS.out HM0.out HYS.out
end
section
open Go.RowKit
@[go_sem] theorem is_expr_expr (v : Value) (w : World) : (Instr.typeAssert (.iface 58 v) 110 58 true).run Tryz.prog w = .ok (.tuple #[v, .bool true]) w := by kernel_rfl
@[go_sem] theorem is_expr_stmt (v : Value) (w : World) : (Instr.typeAssert (.iface 58 v) 110 119 true).run Tryz.prog w = .ok (.tuple #[.pointer none, .bool false]) w := by kernel_rfl
@[go_sem] theorem is_expr_field (v : Value) (w : World) : (Instr.typeAssert (.iface 58 v) 110 124 true).run Tryz.prog w = .ok (.tuple #[.pointer none, .bool false]) w := by kernel_rfl
@[go_sem] theorem is_expr_method (v : Value) (w : World) : (Instr.typeAssert (.iface 58 v) 110 127 true).run Tryz.prog w = .ok (.tuple #[.pointer none, .bool false]) w := by kernel_rfl
@[go_sem] theorem is_expr_class (v : Value) (w : World) : (Instr.typeAssert (.iface 58 v) 110 97 true).run Tryz.prog w = .ok (.tuple #[.pointer none, .bool false]) w := by kernel_rfl
@[go_sem] theorem is_stmt_expr (v : Value) (w : World) : (Instr.typeAssert (.iface 119 v) 110 58 true).run Tryz.prog w = .ok (.tuple #[.pointer none, .bool false]) w := by kernel_rfl
@[go_sem] theorem is_stmt_stmt (v : Value) (w : World) : (Instr.typeAssert (.iface 119 v) 110 119 true).run Tryz.prog w = .ok (.tuple #[v, .bool true]) w := by kernel_rfl
@[go_sem] theorem is_stmt_field (v : Value) (w : World) : (Instr.typeAssert (.iface 119 v) 110 124 true).run Tryz.prog w = .ok (.tuple #[.pointer none, .bool false]) w := by kernel_rfl
@[go_sem] theorem is_stmt_method (v : Value) (w : World) : (Instr.typeAssert (.iface 119 v) 110 127 true).run Tryz.prog w = .ok (.tuple #[.pointer none, .bool false]) w := by kernel_rfl
@[go_sem] theorem is_stmt_class (v : Value) (w : World) : (Instr.typeAssert (.iface 119 v) 110 97 true).run Tryz.prog w = .ok (.tuple #[.pointer none, .bool false]) w := by kernel_rfl
@[go_sem] theorem is_field_expr (v : Value) (w : World) : (Instr.typeAssert (.iface 124 v) 110 58 true).run Tryz.prog w = .ok (.tuple #[.pointer none, .bool false]) w := by kernel_rfl
@[go_sem] theorem is_field_stmt (v : Value) (w : World) : (Instr.typeAssert (.iface 124 v) 110 119 true).run Tryz.prog w = .ok (.tuple #[.pointer none, .bool false]) w := by kernel_rfl
@[go_sem] theorem is_field_field (v : Value) (w : World) : (Instr.typeAssert (.iface 124 v) 110 124 true).run Tryz.prog w = .ok (.tuple #[v, .bool true]) w := by kernel_rfl
@[go_sem] theorem is_field_method (v : Value) (w : World) : (Instr.typeAssert (.iface 124 v) 110 127 true).run Tryz.prog w = .ok (.tuple #[.pointer none, .bool false]) w := by kernel_rfl
@[go_sem] theorem is_field_class (v : Value) (w : World) : (Instr.typeAssert (.iface 124 v) 110 97 true).run Tryz.prog w = .ok (.tuple #[.pointer none, .bool false]) w := by kernel_rfl
@[go_sem] theorem is_method_expr (v : Value) (w : World) : (Instr.typeAssert (.iface 127 v) 110 58 true).run Tryz.prog w = .ok (.tuple #[.pointer none, .bool false]) w := by kernel_rfl
@[go_sem] theorem is_method_stmt (v : Value) (w : World) : (Instr.typeAssert (.iface 127 v) 110 119 true).run Tryz.prog w = .ok (.tuple #[.pointer none, .bool false]) w := by kernel_rfl
@[go_sem] theorem is_method_field (v : Value) (w : World) : (Instr.typeAssert (.iface 127 v) 110 124 true).run Tryz.prog w = .ok (.tuple #[.pointer none, .bool false]) w := by kernel_rfl
@[go_sem] theorem is_method_method (v : Value) (w : World) : (Instr.typeAssert (.iface 127 v) 110 127 true).run Tryz.prog w = .ok (.tuple #[v, .bool true]) w := by kernel_rfl
@[go_sem] theorem is_method_class (v : Value) (w : World) : (Instr.typeAssert (.iface 127 v) 110 97 true).run Tryz.prog w = .ok (.tuple #[.pointer none, .bool false]) w := by kernel_rfl
@[go_sem] theorem is_class_expr (v : Value) (w : World) : (Instr.typeAssert (.iface 97 v) 110 58 true).run Tryz.prog w = .ok (.tuple #[.pointer none, .bool false]) w := by kernel_rfl
@[go_sem] theorem is_class_stmt (v : Value) (w : World) : (Instr.typeAssert (.iface 97 v) 110 119 true).run Tryz.prog w = .ok (.tuple #[.pointer none, .bool false]) w := by kernel_rfl
@[go_sem] theorem is_class_field (v : Value) (w : World) : (Instr.typeAssert (.iface 97 v) 110 124 true).run Tryz.prog w = .ok (.tuple #[.pointer none, .bool false]) w := by kernel_rfl
@[go_sem] theorem is_class_method (v : Value) (w : World) : (Instr.typeAssert (.iface 97 v) 110 127 true).run Tryz.prog w = .ok (.tuple #[.pointer none, .bool false]) w := by kernel_rfl
@[go_sem] theorem is_class_class (v : Value) (w : World) : (Instr.typeAssert (.iface 97 v) 110 97 true).run Tryz.prog w = .ok (.tuple #[v, .bool true]) w := by kernel_rfl
theorem Grew.of_drew {w w' : World} {v v' : Value} (h : Grew w.drew w' v v') : Grew w w' v v' := ⟨⟨h.1.os, h.1.tape, h.1.output, h.1.size, h.1.block⟩, h.2⟩
theorem grew_below {W0 w w' : World} {v v' : Value} {e : TypeId} {n : Nat} {xs : List Value} (hb : Below W0.heap.size W0 w) (ho : w.ownsRow W0.heap.size e 1 v n xs) (hg : Grew w w' v v') : Below W0.heap.size W0 w' :=
 hb.trans (hg.below hb.size fun k hk => (ho.lt k hk).1)
theorem Pt.at_.below {W0 w : World} {p : Pt} (h : p.at_ W0) (hb : Below W0.heap.size W0 w) : p.at_ w := h.keep (Keep.below hb)
theorem Pt.at_.cell {w : World} {p : Pt} (h : p.at_ w) (j : Nat) {u : Value} (hu : (cellsN p.x)[j]? = some u) : w.cell? ⟨p.b, p.o + j, none⟩ = some u := h.1 j u hu
theorem said_mk {a c : World} {B : Nat} {v v1 : Value} {qs qs' : List Pt} (ho : c.ownsRow B 110 1 v1 qs.length (qs.map ptV)) (hg : Grew a c v v1) (hq : qs = qs') : AddSaid a B v qs' (.returned v1) c := by subst hq; exact ⟨v1, rfl, ho, hg⟩
theorem within_ex (W0 w : World) (v : Value) (ps : List Pt) (b o : Nat) (k n : Int) (tx nm ty : ByteArray) (nv : Value) (l : List Nd) (own : ByteArray) (nth : Int) (hb : Below W0.heap.size W0 w)
   (hown : w.ownsRow W0.heap.size 110 1 v ps.length (ps.map ptV)) (hp : Pt.at_ W0 ⟨b, o, .ex k n tx nm ty nv l own nth⟩) (hs : ps.length + (l.length) ≤ 1000000) :
   Calls Tryz.prog 63 #[v, .iface 58 (.pointer (some ⟨b, o, none⟩))] w (AddSaid w W0.heap.size v (ps ++ kidsP (.ex k n tx nm ty nv l own nth))) := by
 have hk := hp.2; rw [Kd] at hk
 have hl0 := ptsV_len (hk.2.1)
 have R0 := Lib.hid (hk.2.1)
 clear hk
 go_enter Tryz.func63, Tryz.ntmps63
 have c0 : w.cell? ⟨b, o + 5, none⟩ = some nv := (hp.below hb).cell 5 rfl
 have H0 := Lib.hid (add_ex w W0.heap.size v (ps) nv l hb.size hown (R0.out.keep (Keep.below hb)) (by omega))
 go_wp2_with fail
 refine (H0.out).mono ?_
 clear H0
 rintro e0 w1 ⟨v1, rfl, ho1, hg1⟩
 have hb1 := grew_below hb hown hg1
 clear c0
 go_wp2_with fail
 go_ret
 exact said_mk ho1 (hg1) (by simp [kidsP])
theorem within_st (W0 w : World) (v : Value) (ps : List Pt) (b o : Nat) (k n : Int) (ty nm : ByteArray) (ve va vb vc : Value) (e a b' c : List Nd) (nth : Int) (hb : Below W0.heap.size W0 w)
   (hown : w.ownsRow W0.heap.size 110 1 v ps.length (ps.map ptV)) (hp : Pt.at_ W0 ⟨b, o, .st k n ty nm ve va vb vc e a b' c nth⟩) (hs : ps.length + (e.length + a.length + b'.length + c.length) ≤ 1000000) :
   Calls Tryz.prog 63 #[v, .iface 119 (.pointer (some ⟨b, o, none⟩))] w (AddSaid w W0.heap.size v (ps ++ kidsP (.st k n ty nm ve va vb vc e a b' c nth))) := by
 have hk := hp.2; rw [Kd] at hk
 have hl0 := ptsV_len (hk.2.1.1)
 have R0 := Lib.hid (hk.2.1.1)
 have hl1 := ptsV_len (hk.2.2.1.1)
 have R1 := Lib.hid (hk.2.2.1.1)
 have hl2 := ptsV_len (hk.2.2.2.1.1)
 have R2 := Lib.hid (hk.2.2.2.1.1)
 have hl3 := ptsV_len (hk.2.2.2.2.1)
 have R3 := Lib.hid (hk.2.2.2.2.1)
 clear hk
 go_enter Tryz.func63, Tryz.ntmps63
 have c0 : w.cell? ⟨b, o + 4, none⟩ = some ve := (hp.below hb).cell 4 rfl
 have H0 := Lib.hid (add_ex w W0.heap.size v (ps) ve e hb.size hown (R0.out.keep (Keep.below hb)) (by omega))
 go_wp2_with fail
 refine (H0.out).mono ?_
 clear H0
 rintro e0 w1 ⟨v1, rfl, ho1, hg1⟩
 have hb1 := grew_below hb hown hg1
 clear c0
 have c1 : w1.cell? ⟨b, o + 5, none⟩ = some va := (hp.below hb1).cell 5 rfl
 have H1 := Lib.hid (add_st w1 W0.heap.size v1 (ps ++ ptsV .ex ve e) va a hb1.size ho1 (R1.out.keep (Keep.below hb1)) (by simp only [List.length_append]; omega))
 go_wp2_with fail
 refine (H1.out).mono ?_
 clear H1
 rintro e1 w2 ⟨v2, rfl, ho2, hg2⟩
 have hb2 := grew_below hb1 ho1 hg2
 clear c1
 have c2 : w2.cell? ⟨b, o + 6, none⟩ = some vb := (hp.below hb2).cell 6 rfl
 have H2 := Lib.hid (add_st w2 W0.heap.size v2 (ps ++ ptsV .ex ve e ++ ptsV .st va a) vb b' hb2.size ho2 (R2.out.keep (Keep.below hb2)) (by simp only [List.length_append]; omega))
 go_wp2_with fail
 refine (H2.out).mono ?_
 clear H2
 rintro e2 w3 ⟨v3, rfl, ho3, hg3⟩
 have hb3 := grew_below hb2 ho2 hg3
 clear c2
 have c3 : w3.cell? ⟨b, o + 7, none⟩ = some vc := (hp.below hb3).cell 7 rfl
 have H3 := Lib.hid (add_st w3 W0.heap.size v3 (ps ++ ptsV .ex ve e ++ ptsV .st va a ++ ptsV .st vb b') vc c hb3.size ho3 (R3.out.keep (Keep.below hb3)) (by simp only [List.length_append]; omega))
 go_wp2_with fail
 refine (H3.out).mono ?_
 clear H3
 rintro e3 w4 ⟨v4, rfl, ho4, hg4⟩
 have hb4 := grew_below hb3 ho3 hg4
 clear c3
 go_wp2_with fail
 go_ret
 exact said_mk ho4 ((((hg1).trans hg2).trans hg3).trans hg4) (by simp [kidsP])
theorem within_mt (W0 w : World) (v : Value) (ps : List Pt) (b o : Nat) (s c : Bool) (ty nm : ByteArray) (vp : Value) (qs : List (ByteArray × ByteArray)) (nv : Value) (l : List Nd) (hb : Below W0.heap.size W0 w)
   (hown : w.ownsRow W0.heap.size 110 1 v ps.length (ps.map ptV)) (hp : Pt.at_ W0 ⟨b, o, .mt s c ty nm vp qs nv l⟩) (hs : ps.length + (l.length) ≤ 1000000) :
   Calls Tryz.prog 63 #[v, .iface 127 (.pointer (some ⟨b, o, none⟩))] w (AddSaid w W0.heap.size v (ps ++ kidsP (.mt s c ty nm vp qs nv l))) := by
 have hk := hp.2; rw [Kd] at hk
 have hl0 := ptsV_len (hk.2.2.1)
 have R0 := Lib.hid (hk.2.2.1)
 clear hk
 go_enter Tryz.func63, Tryz.ntmps63
 have c0 : w.cell? ⟨b, o + 5, none⟩ = some nv := (hp.below hb).cell 5 rfl
 have H0 := Lib.hid (add_st w W0.heap.size v (ps) nv l hb.size hown (R0.out.keep (Keep.below hb)) (by omega))
 go_wp2_with fail
 refine (H0.out).mono ?_
 clear H0
 rintro e0 w1 ⟨v1, rfl, ho1, hg1⟩
 have hb1 := grew_below hb hown hg1
 clear c0
 go_wp2_with fail
 go_ret
 exact said_mk ho1 (hg1) (by simp [kidsP])
theorem within_fd (W0 w : World) (v : Value) (ps : List Pt) (b o : Nat) (s : Bool) (ty nm : ByteArray) (nv : Value) (l : List Nd) (hb : Below W0.heap.size W0 w)
   (hown : w.ownsRow W0.heap.size 110 1 v ps.length (ps.map ptV)) (hp : Pt.at_ W0 ⟨b, o, .fd s ty nm nv l⟩) (hs : ps.length + (l.length) ≤ 1000000) :
   Calls Tryz.prog 63 #[v, .iface 124 (.pointer (some ⟨b, o, none⟩))] w (AddSaid w W0.heap.size v (ps ++ kidsP (.fd s ty nm nv l))) := by
 have hk := hp.2; rw [Kd] at hk
 have hl0 := ptsV_len (hk.2.1)
 have R0 := Lib.hid (hk.2.1)
 clear hk
 go_enter Tryz.func63, Tryz.ntmps63
 have c0 : w.cell? ⟨b, o + 3, none⟩ = some nv := (hp.below hb).cell 3 rfl
 have H0 := Lib.hid (add_ex w W0.heap.size v (ps) nv l hb.size hown (R0.out.keep (Keep.below hb)) (by omega))
 go_wp2_with fail
 refine (H0.out).mono ?_
 clear H0
 rintro e0 w1 ⟨v1, rfl, ho1, hg1⟩
 have hb1 := grew_below hb hown hg1
 clear c0
 go_wp2_with fail
 go_ret
 exact said_mk ho1 (hg1) (by simp [kidsP])
theorem within_cl (W0 w : World) (v : Value) (ps : List Pt) (b o : Nat) (nm sp : ByteArray) (vf vm : Value) (f m : List Nd) (hb : Below W0.heap.size W0 w)
   (hown : w.ownsRow W0.heap.size 110 1 v ps.length (ps.map ptV)) (hp : Pt.at_ W0 ⟨b, o, .cl nm sp vf vm f m⟩) (hs : ps.length + (f.length + m.length) ≤ 1000000) :
   Calls Tryz.prog 63 #[v, .iface 97 (.pointer (some ⟨b, o, none⟩))] w (AddSaid w W0.heap.size v (ps ++ kidsP (.cl nm sp vf vm f m))) := by
 have hk := hp.2; rw [Kd] at hk
 have hl0 := ptsV_len hk.2.1.1
 have R0 := Lib.hid hk.2.1.1
 have R1 := Lib.hid hk.2.2.1
 clear hk
 have c2 : w.cell? ⟨b, o + 2, none⟩ = some vf := (hp.below hb).cell 2 rfl
 have c3 : w.cell? ⟨b, o + 3, none⟩ = some vm := (hp.below hb).cell 3 rfl
 have H1 : Hid (∀ w1 v1, Below W0.heap.size W0 w1 → w1.ownsRow W0.heap.size 110 1 v1 (ps ++ ptsV .fd vf f).length ((ps ++ ptsV .fd vf f).map ptV) → Calls Tryz.prog 102 #[v1, vm] w1 (AddSaid w1 W0.heap.size v1 (ps ++ ptsV .fd vf f ++ ptsV .mt vm m))) := by
   show ∀ w1 v1, _
   intro w1 v1 h1 h2
   exact add_mt w1 W0.heap.size v1 _ vm m h1.size h2 (R1.out.keep (Keep.below h1)) (by simp only [List.length_append]; omega)
 go_enter Tryz.func63, Tryz.ntmps63
 go_wp2_with fail
 go_region_with (first | (go_at_call 103; refine (add_fd _ W0.heap.size v ps vf f hb.drew.size hown.drew (R0.out.keep (Keep.below hb.drew)) (by omega)).mono ?_; rintro e1 w1 ⟨v1, rfl, ho1, hg1⟩; have hb1 := grew_below hb.drew hown.drew hg1; have c3b : w1.cell? ⟨b, o + 3, none⟩ = some vm := (hp.below hb1).cell 3 rfl) | (go_at_call 102; refine (H1.out _ _ hb1 ho1).mono ?_; clear H1; rintro e2 w2 ⟨v2, rfl, ho2, hg2⟩))
 all_goals go_wp2_with fail
 all_goals go_ret
 all_goals exact said_mk ho2 (hg1.of_drew.trans hg2) (by simp [kidsP])
theorem within_any (W0 w : World) (v : Value) (ps : List Pt) (p : Pt) (hb : Below W0.heap.size W0 w) (hown : w.ownsRow W0.heap.size 110 1 v ps.length (ps.map ptV)) (hp : p.at_ W0) (hs : ps.length + (kidsP p.x).length ≤ 1000000) :
   Calls Tryz.prog 63 #[v, ptV p] w (AddSaid w W0.heap.size v (ps ++ kidsP p.x)) := by
 obtain ⟨b, o, x⟩ := p
 have hk := hp.2
 cases x <;> rw [Kd] at hk <;> simp only [kidsP, List.length_append] at hs
 · exact within_ex W0 w v ps b o _ _ _ _ _ _ _ _ _ hb hown hp (by rw [← ptsV_len hk.2.1]; omega)
 · exact within_st W0 w v ps b o _ _ _ _ _ _ _ _ _ _ _ _ _ hb hown hp (by rw [← ptsV_len hk.2.1.1, ← ptsV_len hk.2.2.1.1, ← ptsV_len hk.2.2.2.1.1, ← ptsV_len hk.2.2.2.2.1]; omega)
 · exact within_fd W0 w v ps b o _ _ _ _ _ hb hown hp (by rw [← ptsV_len hk.2.1]; omega)
 · exact within_mt W0 w v ps b o _ _ _ _ _ _ _ _ hb hown hp (by rw [← ptsV_len hk.2.2.1]; omega)
 · exact within_cl W0 w v ps b o _ _ _ _ _ _ hb hown hp (by rw [← ptsV_len hk.2.1.1, ← ptsV_len hk.2.2.1]; omega)
end
section
open Go.RowKit
theorem Bx.grew {w w1 : World} {b : Nat} {cs : Array Value} {T : TypeId} {v v' : Value} (h : Bx w b cs T) (hg : Grew w w1 v v') (hne : v.ownBlock ≠ some b) : Bx w1 b cs T := (hg.1.block b h.lt (fun e => hne e.symm)).trans h
theorem step_any (x : Value) (c : Nat) (m : Int) (w : World) (h : Bx w c #[.int .i64 m] 3) (h0 : 0 ≤ m) (h1 : m ≤ 1000000) :
   Calls Tryz.prog 47 #[x, .pointer (some ⟨c, 0, none⟩)] w fun e w' => e = .returned (.tuple #[]) ∧ w' = w.setCell ⟨c, 0, none⟩ (.int .i64 (m + 1)) := by
 have c0 : w.cell? ⟨c, 0, none⟩ = some (.int .i64 m) := h.cell 0
 have f0 := h.fro 0
 clear h
 go_enter Tryz.func47, Tryz.ntmps47
 go_wp2_with fail
 exact bodyPost_end (v := .tuple #[]) (by simp [results, Tryz.results47, go_sem]) rfl ⟨rfl, rfl⟩
theorem own_last {w : World} {B : Nat} {e : TypeId} {v : Value} {ps : List Pt} {x : Pt} (h : w.ownsRow B e 1 v (ps ++ [x]).length ((ps ++ [x]).map ptV)) :
   ∃ g cap, v = .slice (some ⟨g, 0, none⟩) (ps.length + 1) cap ∧ ps.length + 1 ≤ cap ∧ w.cell? ⟨g, ps.length, none⟩ = some (ptV x) ∧ w.ownsRow B e 1 (.slice (some ⟨g, 0, none⟩) ps.length cap) ps.length (ps.map ptV) := by
 rw [List.length_append, List.map_append] at h
 obtain ⟨g, cap, rfl, _, _⟩ := h.form (by simp)
 have hc := h.cells (g := g) rfl ps.length (ptV x) (by simp)
 have hadd : (⟨g, 0, none⟩ : Addr).add ps.length = ⟨g, ps.length, none⟩ := by unfold Addr.add; split <;> simp_all
 rw [hadd] at hc
 refine ⟨g, cap, rfl, ?_, hc, ownsRow_pop (last := [x].map ptV) (by simp) h⟩
 obtain ⟨A, cap', hv, hle⟩ := own_form h
 injection hv with _ _ h3
 subst h3; exact hle
structure EC (W0 : World) (c : Nat) (m : Int) (N : Nat) (ps : List Pt) (v : Value) (w : World) : Prop where
 own : w.ownsRow W0.heap.size 110 1 v ps.length (ps.map ptV)
 bel : Below W0.heap.size W0 w
 ne : v.ownBlock ≠ some c
 hc : W0.heap.size ≤ c
 bx : Bx w c #[.int .i64 (m + (N - sizeP ps : Nat))] 3
 at_ : ∀ p ∈ ps, p.at_ W0
 le : sizeP ps ≤ N
theorem sizeP_one (x : Pt) : sizeP [x] = x.x.size := by simp [sizeP, sizeL]
theorem EC.set {W0 w : World} {c N : Nat} {m k : Int} {ps : List Pt} {x : Pt} {g cap : Nat} (h : EC W0 c m N (ps ++ [x]) (.slice (some ⟨g, 0, none⟩) (ps.length + 1) cap) w) (hk : k = m + (N - sizeP (ps ++ [x]) : Nat) + 1) :
   Below W0.heap.size W0 (w.setCell ⟨c, 0, none⟩ (.int .i64 k)) ∧ (w.setCell ⟨c, 0, none⟩ (.int .i64 k)).ownsRow W0.heap.size 110 1 (.slice (some ⟨g, 0, none⟩) ps.length cap) ps.length (ps.map ptV) ∧ x.at_ W0 ∧ ps.length + (kidsP x.x).length ≤ N := by
 have ho := h.own
 obtain ⟨g', cap', hv, _, _, ho'⟩ := own_last ho
 injection hv with h1 h2 h3
 injection h1 with h1
 injection h1 with h1
 subst h1; subst h3
 have hx := h.at_ x (by simp)
 refine ⟨h.bel.setCell h.hc _, ownsRow_setCell_other ho' (by have := h.ne; simpa [Value.ownBlock] using this) _, hx, ?_⟩
 have := h.le
 rw [sizeP_append, sizeP_one, sizeP_kids hx.2] at this
 have := len_sizeP ps
 have := len_sizeP (kidsP x.x)
 omega
theorem EC.step {W0 w w2 : World} {c N : Nat} {m k : Int} {ps : List Pt} {x : Pt} {g cap : Nat} {v2 : Value} (h : EC W0 c m N (ps ++ [x]) (.slice (some ⟨g, 0, none⟩) (ps.length + 1) cap) w) (hk : k = m + (N - sizeP (ps ++ [x]) : Nat) + 1)
   (ho : w2.ownsRow W0.heap.size 110 1 v2 (ps ++ kidsP x.x).length ((ps ++ kidsP x.x).map ptV)) (hg : Grew (w.setCell ⟨c, 0, none⟩ (.int .i64 k)) w2 (.slice (some ⟨g, 0, none⟩) ps.length cap) v2) :
   EC W0 c m N (ps ++ kidsP x.x) v2 w2 ∧ sizeP (ps ++ kidsP x.x) < sizeP (ps ++ [x]) := by
 obtain ⟨hb, ho1, hx, hl⟩ := h.set hk
 have hb2 := grew_below hb ho1 hg
 have hbx := (h.bx.set 0 (.int .i64 k)).grew hg (by have := h.ne; simpa [Value.ownBlock] using this)
 have hlt : c < w.heap.size := h.bx.lt
 have hsz := h.le
 rw [sizeP_append, sizeP_one, sizeP_kids hx.2] at hsz
 refine ⟨⟨ho, hb2, ?_, h.hc, ?_, ?_, by rw [sizeP_append]; omega⟩, by rw [sizeP_append, sizeP_append, sizeP_one, sizeP_kids hx.2]; omega⟩
 · rcases hg.2 with e | e
   · rw [e]; have := h.ne; simpa [Value.ownBlock] using this
   · intro e'; have := e c e'; simp at this; omega
 · have : (#[Value.int .i64 (m + (N - sizeP (ps ++ [x]) : Nat))].setIfInBounds 0 (.int .i64 k)) = #[.int .i64 (m + (N - sizeP (ps ++ kidsP x.x) : Nat))] := by
     rw [hk, sizeP_append, sizeP_append, sizeP_one, sizeP_kids hx.2]
     simp only [List.setIfInBounds_toArray, List.set_cons_zero]
     congr 3; omega
   rw [← this]; exact hbx
 · intro p hp
   rcases List.mem_append.1 hp with hp | hp
   · exact h.at_ p (by simp [hp])
   · exact kidsP_at hx.2 p hp
theorem list_end {α : Type} (l : List α) : l = [] ∨ ∃ a x, l = a ++ [x] := by
 rcases List.eq_nil_or_concat l with h | ⟨a, x, h⟩
 · exact .inl h
 · exact .inr ⟨a, x, by simpa using h⟩
theorem each_count (W0 w : World) (c : Nat) (m : Int) (ps : List Pt) (v : Value) (h : EC W0 c m (sizeP ps) ps v w) (h0 : 0 ≤ m) (h1 : m + sizeP ps ≤ 1000000) :
   Calls Tryz.prog 46 #[v, .func (.func 47) #[] #[.pointer (some ⟨c, 0, none⟩)]] w fun e w' => e = .returned (.tuple #[]) ∧ Below W0.heap.size W0 w' ∧ Bx w' c #[.int .i64 (m + sizeP ps)] 3 := by
 obtain ⟨N, hN⟩ : ∃ N, sizeP ps = N := ⟨_, rfl⟩
 rw [hN] at h h1 ⊢
 have HN := Lib.hid hN; clear hN
 go_enter Tryz.func46, Tryz.ntmps46
 go_wp2_with fail
 go_loopg [0] N (fun q v0 wr => ∃ ps1, q = sizeP ps1 ∧ EC W0 c m N ps1 v0 wr)
 case atStart => exact ⟨ps, HN.out.symm, h⟩
 case round =>
   obtain ⟨ps1, rfl, hE⟩ := hrel
   clear h
   rcases list_end ps1 with rfl | ⟨a, x, rfl⟩
   · obtain ⟨A, cap, rfl, _⟩ := own_form hE.own
     have hbx := hE.bx
     have hbl := hE.bel
     clear hE
     go_wp2_with fail
     exact bodyPost_end (v := .tuple #[]) (by simp [results, Tryz.results46, go_sem]) rfl ⟨rfl, hbl, hbx⟩
   · obtain ⟨g, cap, rfl, hcap, hcell, _⟩ := own_last hE.own
     have hle := hE.le
     have hal := len_sizeP (a ++ [x])
     rw [List.length_append, List.length_singleton] at hal
     obtain ⟨k, hk⟩ : ∃ k, k = m + (N - sizeP (a ++ [x]) : Nat) + 1 := ⟨_, rfl⟩
     have hbx := hE.bx
     have hb1 : m + (N - sizeP (a ++ [x]) : Nat) = k - 1 := by omega
     rw [hb1] at hbx
     have HE := Lib.hid hE
     have HK := Lib.hid hk
     have hk0 : 0 ≤ k - 1 := by omega
     have hk1 : k - 1 ≤ 1000000 := by omega
     obtain ⟨hB, hO, hX, hL⟩ := hE.set hk
     have HS := Lib.hid (within_any W0 (wr.setCell ⟨c, 0, none⟩ (.int .i64 k)) (.slice (some ⟨g, 0, none⟩) a.length cap) a x hB hO hX (by omega))
     clear hE hk hb1 hB hO hX
     have hnn : (a.length : Int) + 1 ≤ 1000000 := by omega
     go_wp2_with (go_at_call 47; refine (step_any _ c (k - 1) _ hbx hk0 hk1).mono ?_; rintro e w1 ⟨rfl, rfl⟩)
     refine HS.out.mono ?_
     clear HS
     rintro e w2 ⟨v2, rfl, ho2, hg2⟩
     obtain ⟨hE2, hlt⟩ := HE.out.step HK.out ho2 hg2
     have HE2 := Lib.hid hE2
     have HLT := Lib.hid hlt
     clear hE2 hlt ho2 hg2 hbx hcell
     go_wp2_with fail
     go_roundg (sizeP (a ++ kidsP x.x))
     case rel => exact ⟨_, rfl, HE2.out⟩
     case measure => exact HLT.out
theorem count_any (W0 w : World) (ps : List Pt) (v : Value) (hb : Below W0.heap.size W0 w) (ho : w.ownsRow W0.heap.size 110 1 v ps.length (ps.map ptV)) (hp : ∀ p ∈ ps, p.at_ W0) (hs : sizeP ps ≤ 1000000) :
   Calls Tryz.prog 30 #[v] w fun e w' => e = .returned (.int .i64 (sizeP ps : Nat)) ∧ Below W0.heap.size W0 w' := by
 have hsz := hb.size
 have hE : EC W0 w.heap.size 0 (sizeP ps) ps v (w.alloc (.cells #[.int .i64 0] 3)) :=
   ⟨ho.alloc _, hb.alloc hsz _, fun e => by have := (ho.lt _ e).2; omega, hsz, by simpa using Bx.new w #[.int .i64 0] 3, hp, Nat.le_refl _⟩
 obtain ⟨N, hN⟩ : ∃ N, sizeP ps = N := ⟨_, rfl⟩
 have HC := Lib.hid (each_count W0 (w.alloc (.cells #[.int .i64 0] 3)) w.heap.size 0 ps v hE (by omega) (by omega))
 rw [hN] at HC ⊢
 clear hE ho hp hb hN
 go_enter Tryz.func30, Tryz.ntmps30
 go_wp2_with (go_at_call 46; refine HC.out.mono ?_; clear HC; rintro e w1 ⟨rfl, hb1, hbx⟩; have c0 : w1.cell? ⟨w.heap.size, 0, none⟩ = some (.int .i64 N) := by rw [hbx.cell 0]; simp)
 go_ret
 exact ⟨rfl, hb1⟩
end
section
open Go.RowKit
abbrev Prm := ByteArray × ByteArray
theorem at_new {w : World} {x : Nd} {T : TypeId} {cs : Array Value} (hk : Kd w x) (hc : cs.toList = cellsN x) : Pt.at_ (w.alloc (.cells cs T)) ⟨w.heap.size, 0, x⟩ := by
 refine ⟨fun j u hu => ?_, Kd.keep (Keep.below ((Below.refl _ w).alloc (Nat.le_refl _) _)) _ hk⟩
 have := (Bx.new w cs T).cell j
 simp only [Nat.zero_add]
 rw [this, ← hu, ← hc]; simp
theorem own_one (w : World) (b : Nat) (p : Pt) (u : Value) (hb : b = w.heap.size) (hu : u = ptV p) : (w.alloc (.cells #[u] 110)).ownsRow w.heap.size 110 1 (.slice (some ⟨b, 0, none⟩) 1 1) [p].length ([p].map ptV) := by
 have := World.ownsRow_lit (base := w.heap.size) (e := 110) (size := 1) w #[u] 1 (Nat.le_refl _) (by unfold maxLen; omega) (by simp)
 rw [hb, hu] at *; simpa using this
theorem count_one (w : World) (T : TypeId) (cs : Array Value) (x : Nd) (s : Nat) (hk : Kd w x) (hc : cs.toList = cellsN x) (hs : x.size = s) (hs2 : s ≤ 1000000) (u : Value) (hu : u = .iface x.tag.ptr (.pointer (some ⟨w.heap.size, 0, none⟩))) :
   Calls Tryz.prog 30 #[.slice (some ⟨w.heap.size + 1, 0, none⟩) 1 1] ((w.alloc (.cells cs T)).alloc (.cells #[u] 110)) fun e w' => e = .returned (.int .i64 (s : Nat)) ∧ Below w.heap.size w w' := by
 have hp := at_new (T := T) hk hc
 have ho := own_one (w.alloc (.cells cs T)) (w.heap.size + 1) ⟨w.heap.size, 0, x⟩ u (by simp) hu
 have := count_any (w.alloc (.cells cs T)) _ _ _ ((Below.refl _ _).alloc (Nat.le_refl _) (.cells #[u] 110)) ho (by intro p hp'; simp at hp'; subst hp'; exact hp) (by rw [sizeP_one, hs]; exact hs2)
 refine this.mono ?_
 rintro e w' ⟨rfl, hb⟩
 rw [sizeP_one]
 refine ⟨by rw [← hs], below_box hb⟩
theorem expr_any (w : World) (k n : Int) (tx nm ty : ByteArray) (nv : Value) (l : List Nd) (own : ByteArray) (nth : Int) (hk : Kd w (.ex k n tx nm ty nv l own nth)) (s : Nat) (hs : (Nd.ex k n tx nm ty nv l own nth).size = s) (hs2 : s ≤ 1000000) :
   Calls Tryz.prog 17 #[.agg #[.int .i64 k, .int .i32 n, .string tx, .string nm, .string ty, nv, .string own, .int .i64 nth]] w fun e w' => e = .returned (.int .i64 s) ∧ Below w.heap.size w w' := by
 have HS := Lib.hid (count_one w 26 #[.int .i64 k, .int .i32 n, .string tx, .string nm, .string ty, nv, .string own, .int .i64 nth] _ s hk rfl hs hs2 _ rfl)
 clear hk hs
 go_enter Tryz.func17, Tryz.ntmps17
 go_wp2_with (go_at_call 30; refine HS.out.mono ?_; clear HS; rintro e w1 ⟨rfl, hb⟩)
 go_ret
 exact ⟨rfl, hb⟩
end
section
open Go.RowKit
def emp (s : ByteArray) : Bool := s.toList.isEmpty
def Nd.kind : Nd → Int
 | .ex k .. => k
 | .st k .. => k
 | _ => 0
def numE (k n : Int) : Bool := if k = 1 then decide (0 ≤ n) else if k = 2 then (decide (n = 0) || decide (n = 1)) else decide (n = 0)
def textE (k : Int) (tx : ByteArray) : Bool := if k = 3 then (decide (tx.size ≤ 1000) && decide (bad tx < 0)) else emp tx
def binB (s : ByteArray) : Bool := s.toList == [43] || (s.toList == [45] || (s.toList == [42] || (s.toList == [47] || (s.toList == [37] || (s.toList == [64] || (s.toList == [60] || (s.toList == [60, 61] || (s.toList == [61, 61] || (s.toList == [33, 61] || (s.toList == [38, 38] || s.toList == [124, 124]))))))))))
def unB (s : ByteArray) : Bool := s.toList == [45] || (s.toList == [33] || s.toList == [35])
def nameE (k : Int) (nm : ByteArray) : Bool := if 6 ≤ k ∧ k ≤ 13 then nameOk nm else if k = 17 then binB nm else if k = 18 then unB nm else emp nm
def typeE (k : Int) (ty : ByteArray) : Bool := if k = 9 ∨ k = 13 ∨ k = 14 ∨ k = 15 ∨ k = 16 then classOk ty else emp ty
def listE (k : Int) (n : Nat) : Bool :=
 if (1 ≤ k ∧ k ≤ 6) ∨ k = 8 ∨ k = 9 then decide (n = 0) else if k = 7 ∨ k = 15 ∨ k = 16 ∨ k = 18 then decide (n = 1) else if k = 17 then decide (n = 2) else if k = 10 then decide (1 ≤ n) else decide (11 ≤ k ∧ k ≤ 14)
def fitE (k n : Int) (tx nm ty : ByteArray) (c : Nat) : Bool := numE k n && (textE k tx && (nameE k nm && (typeE k ty && listE k c)))
def valT (ty : ByteArray) : Bool := ty.toList == [105, 110, 116] || (ty.toList == [98, 111, 111, 108, 101, 97, 110] || (ty.toList == [83, 116, 114, 105, 110, 103] || classOk ty))
def hasSup (l : List Nd) : Bool := l.any fun x => x.kind == 11
def numS (k n : Int) : Bool := if k = 8 then (decide (0 ≤ n) && decide (n ≤ 9999)) else decide (n = 0)
def typeS (k : Int) (ty : ByteArray) : Bool := if k = 1 then valT ty else if k = 10 then classOk ty else emp ty
def nameS (k : Int) (nm : ByteArray) : Bool := if k = 1 ∨ k = 10 then nameOk nm else emp nm
def setB (k : Int) : Bool := decide (6 ≤ k ∧ k ≤ 9)
def calB (k : Int) : Bool := decide (10 ≤ k ∧ k ≤ 14)
def headK (l : List Nd) : Int := match l with | [] => 0 | x :: _ => x.kind
def exprsS (k : Int) (e : List Nd) : Bool :=
 if k = 1 ∨ k = 4 ∨ k = 5 ∨ k = 7 ∨ k = 8 ∨ k = 9 then decide (e.length = 1) else if k = 2 then (decide (e.length = 2) && setB (headK e)) else if k = 3 then (decide (e.length = 1) && calB (headK e))
 else if k = 6 then decide (e.length ≤ 1) else if k = 10 then decide (e.length = 0) else decide (k = 11)
def blocksS (k : Int) (a b c : List Nd) : Bool :=
 !(hasSup a || (hasSup b || hasSup c)) && (if k = 10 then true else if k = 4 then decide (c.length = 0) else if k = 5 then (decide (b.length = 0) && decide (c.length = 0)) else (decide (a.length = 0) && (decide (b.length = 0) && decide (c.length = 0))))
def fitS (k n : Int) (ty nm : ByteArray) (e a b c : List Nd) : Bool := numS k n && (typeS k ty && (nameS k nm && (exprsS k e && blocksS k a b c)))
def fitP (ps : List Prm) : Bool := ps.all fun p => valT p.1 && nameOk p.2
def fitM (s c : Bool) (ty nm : ByteArray) (ps : List Prm) (l : List Nd) : Bool :=
 decide (ps.length ≤ 6) && (fitP ps && (if c then (!s && (emp ty && (emp nm && !hasSup (l.drop 1)))) else ((ty.toList == [118, 111, 105, 100] || valT ty) && (nameOk nm && !hasSup l))))
def fitsB : Nd → Bool
 | .ex k n tx nm ty _ l _ _ => fitE k n tx nm ty l.length
 | .st k n ty nm _ _ _ _ e a b c _ => fitS k n ty nm e a b c
 | .mt s c ty nm _ ps _ l => fitM s c ty nm ps l
 | .fd _ ty nm _ l => valT ty && (nameOk nm && decide (l.length ≤ 1))
 | .cl nm sp _ _ f m => classOk nm && ((emp sp || classOk sp) && (decide (f.length ≤ 30) && decide (m.length ≤ 30)))
end
end Go.Proofs.YtaclhdpjkgoadaaGreatDoor
