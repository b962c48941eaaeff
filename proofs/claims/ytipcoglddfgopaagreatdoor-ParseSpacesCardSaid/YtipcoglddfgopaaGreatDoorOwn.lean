/- Parts of the proof: Own. -/
import Derived.Test.YtipcoglddfgopaaGreatDoorP6
import Derived.Test.YtipcoglddfgopaaGreatDoorSs
set_option linter.unusedSimpArgs false
set_option linter.unusedVariables false
namespace Go.Proofs.YtipcoglddfgopaaGreatDoor
open Go.RowKit
def NF (t : Tg) (y : Nd) : Prop := y.tag = t ∧ ∀ u ∈ cellsN y, u.oneCell' = true
def NK (t : Tg) (B : Nat) (r : Option Nat) (w : World) (x y : Nd) : Prop :=
 NF t y ∧ (∀ ws, (∀ k j u, B ≤ k → some k ≠ r → w.cell? ⟨k, j, none⟩ = some u → ws.cell? ⟨k, j, none⟩ = some u) → Kd ws y) ∧ bareN y = bareN x
theorem NK.mono {t : Tg} {B C : Nat} {r : Option Nat} {w : World} {x y : Nd} (h : NK t B r w x y) (hC : C ≤ B) : NK t C r w x y :=
 ⟨h.1, fun ws hk => h.2.1 ws fun k j u hB hr hu => hk k j u (Nat.le_trans hC hB) hr hu, h.2.2⟩
theorem NK.next {t : Tg} {B : Nat} {r : Option Nat} {w w' : World} {x y : Nd} (h : NK t B r w x y) (hw : ∀ k j u, B ≤ k → some k ≠ r → w.cell? ⟨k, j, none⟩ = some u → w'.cell? ⟨k, j, none⟩ = some u) : NK t B r w' x y :=
 ⟨h.1, fun ws hk => h.2.1 ws fun k j u hB hr hu => hk k j u hB hr (hw k j u hB hr hu), h.2.2⟩
theorem NK.grown {t : Tg} {B g : Nat} {r : Option Nat} {w w' : World} {x y : Nd} (h : NK t B r w x y) (hg : w.grownBy w' (some g)) (hB : g < B ∨ r = some g) : NK t B r w' x y :=
 h.next fun k j u hk hr hu => (World.cell?_of_block (a := ⟨k, j, none⟩) (hg.block k (World.block_lt_of_cell? w (a := ⟨k, j, none⟩) hu) (by
   intro e
   rcases hB with h | h
   · injection e with e; omega
   · exact hr (e.trans h.symm)))).trans hu
theorem NK.below {t : Tg} {B : Nat} {r : Option Nat} {w w' : World} {x y : Nd} (h : NK t B r w x y) (hb : Below w.heap.size w w') : NK t B r w' x y := h.next fun k j u _ _ hu => Keep.below hb _ _ hu
theorem ExK.nk {B : Nat} {r : Option Nat} {w : World} {x y : Nd} (h : ExK B r w x y) : NK .ex B r w x y := by
 obtain ⟨hex, hk⟩ := h.kd
 obtain ⟨k, n, tx, nm, ty, A, cap, l, e, hs, hf, hb⟩ := h
 refine ⟨⟨hex.tag, fun u hu => ex_one (es := [y]) (by simpa using hex) u (by simpa using hu)⟩, hk, hb⟩
def OwnT (t : Tg) (T : TypeId) (B : Nat) (r : Option Nat) (w : World) (v : Value) (ys : List Nd) : Prop :=
 w.ownsRow B T t.sz v ys.length (ys.flatMap cellsN) ∧ (∀ y ∈ ys, NF t y) ∧ KR B v.ownBlock r w ys ∧ ys.length ≤ 2000000
section
variable {t : Tg} {T : TypeId} {B : Nat} {r : Option Nat} {w w' : World} {v : Value} {ys : List Nd}
theorem OwnT.nil : OwnT t T B r w (.slice none 0 0) [] := ⟨World.ownsRow_nil _ _ _ _, by simp, fun _ _ => trivial, by simp⟩
theorem OwnT.lt (h : OwnT t T B r w v ys) : ∀ k, v.ownBlock = some k → B ≤ k ∧ k < w.heap.size := h.1.lt
theorem OwnT.form (h : OwnT t T B r w v ys) : ∃ A cap, v = .slice A ys.length cap := by obtain ⟨A, cap, e, _⟩ := own_form h.1; exact ⟨A, cap, e⟩
theorem OwnT.one' (h : OwnT t T B r w v ys) : ∀ u ∈ ys.flatMap cellsN, u.oneCell' = true := by
 intro u hu
 rw [List.mem_flatMap] at hu
 obtain ⟨x, hx, hu⟩ := hu
 exact (h.2.1 x hx).2 u hu
theorem OwnT.other {g : Nat} (h : OwnT t T B r w v ys) (hg : w.grownBy w' (some g)) (hv : v.ownBlock ≠ some g) (hr : g < B ∨ r = some g) : OwnT t T B r w' v ys :=
 ⟨h.1.kept hg (by
   cases hv' : v.ownBlock with
   | none => exact .inl rfl
   | some k => exact .inr (by rw [hv'] at hv; simpa using hv)), h.2.1, fun ws hs => h.2.2.1 ws fun k j u hk n1 n2 hu => hs k j u hk n1 n2 ((World.cell?_of_block (a := ⟨k, j, none⟩) (hg.block k (World.block_lt_of_cell? w (a := ⟨k, j, none⟩) hu) (by
     intro e
     rcases hr with h' | h'
     · injection e with e; omega
     · exact n2 (e.trans h'.symm)))).trans hu), h.2.2.2⟩
theorem OwnT.grown {c : Nat} (h : OwnT t T B r w v ys) (hg : w.grownBy w' (some c)) (hc : c < B) : OwnT t T B r w' v ys :=
 h.other hg (fun e => by have := (h.lt c e).1; omega) (.inl hc)
theorem OwnT.below (h : OwnT t T B r w v ys) (hb : Below w.heap.size w w') : OwnT t T B r w' v ys :=
 ⟨own_next h.1 hb, h.2.1, fun ws hs => h.2.2.1 ws fun k j u hk n1 n2 hu => hs k j u hk n1 n2 (Keep.below hb _ _ hu), h.2.2.2⟩
theorem OwnT.excl {g : Nat} (h : OwnT t T B none w v ys) (hb : Below w.heap.size w w') (hg : w.heap.size ≤ g) : OwnT t T B (some g) w' v ys := by
 refine ⟨own_next h.1 hb, h.2.1, fun ws hs => h.2.2.1 ws fun k j u hk n1 _ hu => ?_, h.2.2.2⟩
 have hlt := World.block_lt_of_cell? w (a := ⟨k, j, none⟩) hu
 simp only at hlt
 exact hs k j u hk n1 (by simp; omega) (Keep.below hb _ _ hu)
theorem OwnT.fk (h : OwnT t T B r w v ys) : FkL B w t v ys := by
 obtain ⟨ho, hx, hk, hm⟩ := h
 have ht : ∀ x ∈ ys, x.tag = t := fun x hx' => (hx x hx').1
 intro ws hs
 refine ⟨?_, hk ws fun k j u hB _ _ hu => hs k j u hB hu⟩
 obtain ⟨A, cap, rfl, hc⟩ := own_form ho
 refine ⟨A, cap, rfl, ⟨by unfold maxLen; omega, hc⟩, ht, fun hn => ?_⟩
 obtain ⟨g, cap', hv, hg, hl, hat⟩ := own_row ho hn
 injection hv with h1 h2 h3
 refine ⟨g, 0, h1, fun i x hx j u hu => ?_⟩
 have hj : j < t.sz := by rw [← ht x (List.mem_of_getElem? hx), ← cells_len]; exact (List.getElem?_eq_some_iff.1 hu).1
 have := (hat (i * t.sz + j) u (by rw [flat_get ys i j x ht hx hj]; exact hu)).1
 rw [Nat.zero_add]
 exact hs g _ u hg this
theorem OwnT.one {x y : Nd} (h : NK t B r w x y) (hB : B ≤ w.heap.size) : OwnT t T B r (w.alloc (.cells (cellsN y).toArray T)) (.slice (some ⟨w.heap.size, 0, none⟩) 1 1) [y] := by
 obtain ⟨hex, hk, _⟩ := h
 have hl := World.ownsRow_lit (base := B) (e := T) (size := t.sz) w (cellsN y).toArray 1 hB (by unfold maxLen; omega) (by simp [cells_len, hex.1])
 refine ⟨by simpa using hl, by simpa using hex, ?_, by simp⟩
 intro ws hs
 refine ⟨hk ws fun k j u hB' hr hu => hs k j u hB' ?_ hr (Keep.below ((Below.refl _ w).alloc (Nat.le_refl _) _) _ _ hu), trivial⟩
 have hlt := World.block_lt_of_cell? w (a := ⟨k, j, none⟩) hu
 simp only [Value.ownBlock] at hlt ⊢
 simp; omega
theorem OwnT.app {B2 : Nat} {v2 v' : Value} {xs : List Nd} (h : OwnT t T B r w v xs) (h2 : OwnT t T B2 none w v2 ys) (hB : B ≤ B2) (hv : ∀ k, v.ownBlock = some k → k < B2) (hr : ∀ g, r = some g → g < B2)
   (ho : w'.ownsRow B T t.sz v' (xs.length + ys.length) (xs.flatMap cellsN ++ ys.flatMap cellsN)) (hg : w.grownBy w' v.ownBlock) (hat : v'.ownBlock = v.ownBlock ∨ v'.ownBlock = some w.heap.size) (hm : xs.length + ys.length ≤ 2000000) : OwnT t T B r w' v' (xs ++ ys) := by
 have key : ∀ k j u, some k ≠ v.ownBlock → w.cell? ⟨k, j, none⟩ = some u → w'.cell? ⟨k, j, none⟩ = some u ∧ some k ≠ v'.ownBlock := by
   intro k j u hk hu
   have hlt := World.block_lt_of_cell? w (a := ⟨k, j, none⟩) hu
   simp only at hlt
   refine ⟨(World.cell?_of_block (a := ⟨k, j, none⟩) (hg.block k hlt hk)).trans hu, ?_⟩
   rcases hat with e | e
   · rw [e]; exact hk
   · rw [e]; intro e'; injection e' with e'; omega
 refine ⟨by simpa using ho, fun y hy => ?_, fun ws hs => KdL_append (h.2.2.1 ws fun k j u hk hne hnr hu => ?_) (h2.2.2.1 ws fun k j u hk hne _ hu => ?_), by simpa using hm⟩
 · rcases List.mem_append.1 hy with hy | hy
   · exact h.2.1 y hy
   · exact h2.2.1 y hy
 · exact hs k j u hk (key k j u hne hu).2 hnr (key k j u hne hu).1
 · have hkv : some k ≠ v.ownBlock := by
     intro e
     have := hv k e.symm
     omega
   exact hs k j u (Nat.le_trans hB hk) (key k j u hkv hu).2 (fun e => by have := hr k e.symm; omega) (key k j u hkv hu).1
theorem OwnE.own (h : OwnE B w v ys) : OwnT .ex 42 B none w v ys := by
 refine ⟨h.1, fun y hy => ⟨(h.2.1 y hy).tag, fun u hu => ex_one (es := [y]) (by simpa using h.2.1 y hy) u (by simpa using hu)⟩, fun ws hs => h.2.2.1 ws fun k j u hk hne hu => hs k j u hk hne (by simp) hu, h.2.2.2⟩
end
theorem FkL.grown {B c : Nat} {w w' : World} {t : Tg} {v : Value} {l : List Nd} (h : FkL B w t v l) (hg : w.grownBy w' (some c)) (hc : c < B) : FkL B w' t v l :=
 h.next fun k j u hk hu => (World.cell?_of_block (a := ⟨k, j, none⟩) (hg.block k (World.block_lt_of_cell? w (a := ⟨k, j, none⟩) hu) (by simp; omega))).trans hu
theorem FkL.one {B : Nat} {w : World} {t : Tg} {v : Value} {l : List Nd} (h : FkL B w t v l) : v.oneCell' = true := by
 obtain ⟨A, cap, rfl⟩ := h.now.1.form
 rfl
theorem st_node {B : Nat} {w : World} {k n : Int} {ty nm : ByteArray} {ve va vb vc : Value} {e a b c e' a' b' c' : List Nd} (hs : ty.size ≤ maxLen ∧ nm.size ≤ maxLen) (he : FkL B w .ex ve e) (ha : FkL B w .st va a) (hb : FkL B w .st vb b) (hc : FkL B w .st vc c)
   (qe : bareL e = bareL e') (qa : bareL a = bareL a') (qb : bareL b = bareL b') (qc : bareL c = bareL c') : NK .st B none w (mkS k n ty nm e' a' b' c') (.st k n ty nm ve va vb vc e a b c 0) := by
 refine ⟨⟨rfl, ?_⟩, fun ws hk => ?_, ?_⟩
 · intro u hu
   simp only [cellsN, List.mem_cons, List.not_mem_nil, or_false] at hu
   rcases hu with rfl | rfl | rfl | rfl | rfl | rfl | rfl | rfl | rfl
   any_goals rfl
   · exact he.one
   · exact ha.one
   · exact hb.one
   · exact hc.one
 · have hk' : ∀ k j u, B ≤ k → w.cell? ⟨k, j, none⟩ = some u → ws.cell? ⟨k, j, none⟩ = some u := fun k j u hB hu => hk k j u hB (by simp) hu
   rw [Kd]
   exact ⟨hs, he ws hk', ha ws hk', hb ws hk', hc ws hk'⟩
 · simp only [mkS, bareN]; rw [qe, qa, qb, qc]
theorem fd_node {B : Nat} {w : World} {s : Bool} {ty nm : ByteArray} {v : Value} {l l' : List Nd} (hs : ty.size ≤ maxLen ∧ nm.size ≤ maxLen) (he : FkL B w .ex v l) (q : bareL l = bareL l') : NK .fd B none w (mkF s ty nm l') (.fd s ty nm v l) := by
 refine ⟨⟨rfl, ?_⟩, fun ws hk => ?_, ?_⟩
 · intro u hu
   simp only [cellsN, List.mem_cons, List.not_mem_nil, or_false] at hu
   rcases hu with rfl | rfl | rfl | rfl
   any_goals rfl
   · exact he.one
 · have hk' : ∀ k j u, B ≤ k → w.cell? ⟨k, j, none⟩ = some u → ws.cell? ⟨k, j, none⟩ = some u := fun k j u hB hu => hk k j u hB (by simp) hu
   rw [Kd]
   exact ⟨hs, he ws hk'⟩
 · simp only [mkF, bareN]; rw [q]
def FkP (B : Nat) (w : World) (v : Value) (l : List Pm) : Prop := ∀ ws, (∀ k j u, B ≤ k → w.cell? ⟨k, j, none⟩ = some u → ws.cell? ⟨k, j, none⟩ = some u) → Pw ws v l
theorem FkP.mono {B C : Nat} {w : World} {v : Value} {l : List Pm} (h : FkP B w v l) (hB : C ≤ B) : FkP C w v l := fun ws hs => h ws fun k j u hk hu => hs k j u (Nat.le_trans hB hk) hu
theorem FkP.grown {B c : Nat} {w w' : World} {v : Value} {l : List Pm} (h : FkP B w v l) (hg : w.grownBy w' (some c)) (hc : c < B) : FkP B w' v l :=
 fun ws hs => h ws fun k j u hk hu => hs k j u hk ((World.cell?_of_block (a := ⟨k, j, none⟩) (hg.block k (World.block_lt_of_cell? w (a := ⟨k, j, none⟩) hu) (by simp; omega))).trans hu)
theorem FkP.form {B : Nat} {w : World} {v : Value} {l : List Pm} (h : FkP B w v l) : ∃ A cap, v = .slice A l.length cap := by
 obtain ⟨A, cap, e, _⟩ := h w fun _ _ _ _ h => h
 exact ⟨A, cap, e⟩
theorem mt_node {B : Nat} {w : World} {s ct : Bool} {ty nm : ByteArray} {vp v : Value} {ps : List Pm} {l l' : List Nd} (hs : ty.size ≤ maxLen ∧ nm.size ≤ maxLen) (hp : FkP B w vp ps) (he : FkL B w .st v l) (q : bareL l = bareL l') : NK .mt B none w (mkM s ct ty nm ps l') (.mt s ct ty nm vp ps v l) := by
 refine ⟨⟨rfl, ?_⟩, fun ws hk => ?_, ?_⟩
 · intro u hu
   simp only [cellsN, List.mem_cons, List.not_mem_nil, or_false] at hu
   rcases hu with rfl | rfl | rfl | rfl | rfl | rfl
   any_goals rfl
   · obtain ⟨A, cap, rfl⟩ := hp.form; rfl
   · exact he.one
 · have hk' : ∀ k j u, B ≤ k → w.cell? ⟨k, j, none⟩ = some u → ws.cell? ⟨k, j, none⟩ = some u := fun k j u hB hu => hk k j u hB (by simp) hu
   rw [Kd]
   exact ⟨hs, hp ws hk', he ws hk'⟩
 · simp only [mkM, bareN]; rw [q]
theorem cl_node {B : Nat} {w : World} {nm sp : ByteArray} {vf vm : Value} {f g f' g' : List Nd} (hs : nm.size ≤ maxLen ∧ sp.size ≤ maxLen) (hf : FkL B w .fd vf f) (hg : FkL B w .mt vm g) (qf : bareL f = bareL f') (qg : bareL g = bareL g') :
   NK .cl B none w (.cl nm sp (.slice none 0 0) (.slice none 0 0) f' g') (.cl nm sp vf vm f g) := by
 refine ⟨⟨rfl, ?_⟩, fun ws hk => ?_, ?_⟩
 · intro u hu
   simp only [cellsN, List.mem_cons, List.not_mem_nil, or_false] at hu
   rcases hu with rfl | rfl | rfl | rfl
   any_goals rfl
   · exact hf.one
   · exact hg.one
 · have hk' : ∀ k j u, B ≤ k → w.cell? ⟨k, j, none⟩ = some u → ws.cell? ⟨k, j, none⟩ = some u := fun k j u hB hu => hk k j u hB (by simp) hu
   rw [Kd]
   exact ⟨hs, hf ws hk', hg ws hk'⟩
 · simp only [bareN]; rw [qf, qg]
theorem Tryz.infoSt : (Tryz.prog.info? 144).map (fun i => (i.zero, i.size, i.bytes)) = some (some (.agg #[.int .i64 0, .int .i32 0, .string ⟨#[]⟩, .string ⟨#[]⟩, .slice none 0 0, .slice none 0 0, .slice none 0 0, .slice none 0 0, .int .i64 0]), 9, 152) := by kernel_rfl
theorem Tryz.infoFd : (Tryz.prog.info? 83).map (fun i => (i.zero, i.size, i.bytes)) = some (some (.agg #[.bool false, .string ⟨#[]⟩, .string ⟨#[]⟩, .slice none 0 0]), 4, 64) := by kernel_rfl
theorem Tryz.infoMt : (Tryz.prog.info? 52).map (fun i => (i.zero, i.size, i.bytes)) = some (some (.agg #[.bool false, .bool false, .string ⟨#[]⟩, .string ⟨#[]⟩, .slice none 0 0, .slice none 0 0]), 6, 88) := by kernel_rfl
theorem Tryz.infoCl : (Tryz.prog.info? 48).map (fun i => (i.zero, i.size, i.bytes)) = some (some (.agg #[.string ⟨#[]⟩, .string ⟨#[]⟩, .slice none 0 0, .slice none 0 0]), 4, 80) := by kernel_rfl
theorem Tryz.infoPm : (Tryz.prog.info? 108).map (fun i => (i.zero, i.size, i.bytes)) = some (some (.agg #[.string ⟨#[]⟩, .string ⟨#[]⟩]), 2, 32) := by kernel_rfl
def FkX (B : Nat) (r : Option Nat) (w : World) (t : Tg) (v : Value) (l : List Nd) : Prop :=
 ∀ ws, (∀ k j u, B ≤ k → some k ≠ r → w.cell? ⟨k, j, none⟩ = some u → ws.cell? ⟨k, j, none⟩ = some u) → Rw ws t v l ∧ KdL ws l
section
variable {B : Nat} {r : Option Nat} {w w' : World} {t : Tg} {v : Value} {l : List Nd}
theorem FkL.x (h : FkL B w t v l) : FkX B none w t v l := fun ws hs => h ws fun k j u hk hu => hs k j u hk (by simp) hu
theorem FkX.fk (h : FkX B r w t v l) : FkL B w t v l := fun ws hs => h ws fun k j u hk _ hu => hs k j u hk hu
theorem FkX.mono {C : Nat} (h : FkX B r w t v l) (hC : C ≤ B) : FkX C r w t v l := fun ws hs => h ws fun k j u hk hr hu => hs k j u (Nat.le_trans hC hk) hr hu
theorem FkX.grown {g : Nat} (h : FkX B r w t v l) (hg : w.grownBy w' (some g)) (hB : g < B ∨ r = some g) : FkX B r w' t v l :=
 fun ws hs => h ws fun k j u hk hr hu => hs k j u hk hr ((World.cell?_of_block (a := ⟨k, j, none⟩) (hg.block k (World.block_lt_of_cell? w (a := ⟨k, j, none⟩) hu) (by
   intro e
   rcases hB with h | h
   · injection e with e; omega
   · exact hr (e.trans h.symm)))).trans hu)
theorem FkX.excl {g : Nat} (h : FkX B none w t v l) (hb : Below w.heap.size w w') (hg : w.heap.size ≤ g) : FkX B (some g) w' t v l := by
 intro ws hs
 refine h ws fun k j u hk _ hu => ?_
 have hlt := World.block_lt_of_cell? w (a := ⟨k, j, none⟩) hu
 simp only at hlt
 exact hs k j u hk (by simp; omega) (Keep.below hb _ _ hu)
theorem FkL.past {g C : Nat} (h : FkL B w t v l) (hg : g < B) (hC : C ≤ B) : FkX C (some g) w t v l :=
 fun ws hs => h ws fun k j u hk hu => hs k j u (Nat.le_trans hC hk) (by simp; omega) hu
end
def StF (y : Nd) : Prop := ∃ (k n : Int) (ty nm : ByteArray) (A1 A2 A3 A4 : Option Addr) (c1 c2 c3 c4 : Nat) (l1 l2 l3 l4 : List Nd), y = .st k n ty nm (.slice A1 l1.length c1) (.slice A2 l2.length c2) (.slice A3 l3.length c3) (.slice A4 l4.length c4) l1 l2 l3 l4 0
def ExAny : Prop := ∀ (W0 w : World) (c : Nat) (s : RS), Vars W0 → Rd W0 c s w → Calls Tryz.prog 20 #[.pointer (some ⟨c, 0, none⟩)] w (ExC W0 c w (ex s))
def ArAny : Prop := ∀ (W0 w : World) (c : Nat) (s : RS), Vars W0 → Rd W0 c s w → Calls Tryz.prog 127 #[.pointer (some ⟨c, 0, none⟩)] w (LsC W0 c w (ar s))
def BlC (W0 : World) (c : Nat) (w : World) (r : List Nd × RS) (e : Ending) (w' : World) : Prop := ∃ v ys, e = .returned v ∧ FkL w.heap.size w' .st v ys ∧ bareL ys = bareL r.1 ∧ Mv W0 c r.2 w w'
def StC (W0 : World) (c : Nat) (w : World) (r : Nd × RS) (e : Ending) (w' : World) : Prop := ∃ y, e = .returned (.agg (cellsN y).toArray) ∧ StF y ∧ NK .st w.heap.size none w' r.1 y ∧ Mv W0 c r.2 w w'
end Go.Proofs.YtipcoglddfgopaaGreatDoor
