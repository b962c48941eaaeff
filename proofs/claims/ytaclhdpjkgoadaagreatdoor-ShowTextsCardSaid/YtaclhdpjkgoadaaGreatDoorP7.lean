/- Parts of the proof: Par, ParB, TreeP, TreeQ, TreeR, BareQ. -/
import Derived.Test.YtaclhdpjkgoadaaGreatDoorP5
import Derived.BigCall
import Derived.Deep.RegionWith
import Derived.Test.YtaclhdpjkgoadaaGreatDoorP21
import Derived.Test.YtaclhdpjkgoadaaGreatDoorP6
set_option maxHeartbeats 1000000
namespace Go.Proofs.YtaclhdpjkgoadaaGreatDoor
set_option linter.unusedSimpArgs false
set_option linter.unusedVariables false
section
open Go.RowKit
inductive Pr where
 | fx (t : ByteArray) | nm (t : ByteArray) | cl (t : ByteArray) | nu (t : ByteArray) | qu (t : ByteArray)
def Pr.V : Pr → Value
 | .fx t => .iface 103 (.string t)
 | .nm t => .iface 144 (.string t)
 | .cl t => .iface 145 (.string t)
 | .nu t => .iface 101 (.string t)
 | .qu t => .iface 102 (.string t)
def Pr.text : Pr → ByteArray
 | .fx t | .nm t | .cl t | .nu t | .qu t => t
abbrev Pl := Pr × Int
structure RS where
 ws : List Pl
 sz : Int
 op : Int
 wc : Int
 wa : Int
 lc : Int
 la : Int
def atW (sz : Int) : List Pl → Int
 | [] => sz
 | x :: _ => x.2
def RS.at (r : RS) : Int := atW r.sz r.ws
def aheadV (l : List Pl) (n : Nat) : Value := match l[n]? with | some x => x.1.V | none => .nilIface
def seesP (s : ByteArray) : Option Pl → Bool
 | some (.fx t, _) => t.toList == s.toList
 | _ => false
def RS.sees (r : RS) (n : Nat) (s : ByteArray) : Bool := seesP s r.ws[n]?
def RS.skip (r : RS) : RS := { r with ws := r.ws.drop 1 }
def RS.fail (r : RS) (c : Int) : RS := if r.wc = 0 then { r with ws := [], wc := c, wa := r.at } else { r with ws := [] }
def RS.take (r : RS) (s : ByteArray) : RS := if r.sees 0 s then r.skip else r
def RS.need (r : RS) (s : ByteArray) : RS := if r.sees 0 s then r.skip else r.fail 3
def RS.fin (r : RS) : RS := if r.ws.isEmpty then r else r.fail 3
def RS.until (r : RS) (s : ByteArray) : Bool := !r.ws.isEmpty && !r.sees 0 s
def Ww (w : World) (v : Value) (l : List Pl) : Prop :=
 ∃ A cap, v = .slice A l.length cap ∧ (l.length ≤ 1000000 ∧ l.length ≤ cap ∧ cap ≤ maxLen) ∧ (∀ x ∈ l, x.1.text.size ≤ 1000000) ∧ (0 < l.length → ∃ b o, A = some ⟨b, o, none⟩ ∧ ∀ i x, l[i]? = some x → w.cell? ⟨b, o + i * 2, none⟩ = some x.1.V ∧ w.cell? ⟨b, o + i * 2 + 1, none⟩ = some (.int .i64 x.2))
theorem Ww.nil (w : World) : Ww w (.slice none 0 0) [] := ⟨none, 0, rfl, by unfold maxLen; simp, by simp, fun h => by simp at h⟩
theorem Ww.empt (w : World) (A : Option Addr) (c : Nat) (hc : c ≤ maxLen) : Ww w (.slice A 0 c) [] := ⟨A, c, rfl, by simp; omega, by simp, fun h => by simp at h⟩
theorem Ww.form {w : World} {v : Value} {l : List Pl} (h : Ww w v l) : ∃ A cap, v = .slice A l.length cap ∧ l.length ≤ cap ∧ cap ≤ maxLen ∧ l.length ≤ 1000000 := by
 obtain ⟨A, cap, hv, hm, _⟩ := h; exact ⟨A, cap, hv, hm.2.1, hm.2.2, hm.1⟩
theorem Ww.get {w : World} {A : Option Addr} {n cap : Nat} {l : List Pl} (h : Ww w (.slice A n cap) l) {k : Nat} (hk : k < n) : ∃ b o x, A = some ⟨b, o, none⟩ ∧ l[k]? = some x ∧ w.cell? ⟨b, o + k * 2, none⟩ = some x.1.V ∧ w.cell? ⟨b, o + k * 2 + 1, none⟩ = some (.int .i64 x.2) := by
 obtain ⟨A', cap', hv, _, _, hc⟩ := h
 injection hv with h1 h2 h3
 obtain ⟨b, o, hA, hcell⟩ := hc (by omega)
 have hl : k < l.length := by omega
 exact ⟨b, o, l[k], h1.trans hA, List.getElem?_eq_getElem hl, hcell k _ (List.getElem?_eq_getElem hl)⟩
theorem Ww.tail {w : World} {b o n cap : Nat} {x : Pl} {l : List Pl} (h : Ww w (.slice (some ⟨b, o, none⟩) n cap) (x :: l)) : Ww w (.slice (some ⟨b, o + 2, none⟩) (n - 1) (cap - 1)) l := by
 obtain ⟨A', cap', hv, hm, ht, hc⟩ := h
 injection hv with h1 h2 h3
 obtain ⟨b', o', hA, hcell⟩ := hc (by simp)
 rw [← h1] at hA
 injection hA with hA
 injection hA with hb ho
 subst hb ho
 simp only [List.length_cons] at h2 hm
 refine ⟨some ⟨b, o + 2, none⟩, cap - 1, by rw [h2]; simp, by omega, fun y hy => ht y (by simp [hy]), fun hn => ⟨b, o + 2, rfl, fun i y hy => ?_⟩⟩
 have := hcell (i + 1) y (by simpa using hy)
 have e1 : o + (i + 1) * 2 = o + 2 + i * 2 := by omega
 rw [e1] at this
 exact this
def KB (c : Nat) (W0 w : World) : Prop := W0.grownBy w (some c)
theorem KB.size {c : Nat} {W0 w : World} (h : KB c W0 w) : W0.heap.size ≤ w.heap.size := World.grownBy.size h
theorem KB.drew {c : Nat} {W0 w : World} (h : KB c W0 w) : KB c W0 w.drew := ⟨h.os, h.tape, h.output, h.size, h.block⟩
theorem KB.trans {c : Nat} {W0 w w' : World} (h : KB c W0 w) (hb : Below W0.heap.size w w') : KB c W0 w' :=
 ⟨hb.os.trans (World.grownBy.os h), hb.tape.trans (World.grownBy.tape h), hb.output.trans (World.grownBy.output h), Nat.le_trans h.size hb.size, fun k hk hne => (hb.block k hk).trans (World.grownBy.block h k hk hne)⟩
theorem KB.grown {c : Nat} {W0 w w' : World} {o : Option Nat} (h : KB c W0 w) (hg : w.grownBy w' o) (hs : W0.heap.size ≤ w.heap.size) (ho : ∀ k, o = some k → W0.heap.size ≤ k) : KB c W0 w' :=
 ⟨hg.os.trans (World.grownBy.os h), hg.tape.trans (World.grownBy.tape h), hg.output.trans (World.grownBy.output h), Nat.le_trans h.size hg.size, fun k hk hne => (hg.block k (Nat.lt_of_lt_of_le hk hs) (fun e => by have := ho k e.symm; omega)).trans (World.grownBy.block h k hk hne)⟩
def NB (W0 : World) (c : Nat) : Prop := ∃ (A : Option Addr) (n cp : Nat) (x1 x2 x3 x4 x5 x6 : Int), Bx W0 c #[.slice A n cp, .int .i64 x1, .int .i64 x2, .int .i64 x3, .int .i64 x4, .int .i64 x5, .int .i64 x6] 54
theorem NB.no {W0 : World} {c : Nat} (h : NB W0 c) {j : Nat} {T : TypeId} {u : Value} : W0.cell? ⟨c, j, none⟩ ≠ some (.iface T u) := by
 obtain ⟨A, n, cp, x1, x2, x3, x4, x5, x6, hx⟩ := h
 intro e
 rw [hx.cell] at e
 rcases j with _ | _ | _ | _ | _ | _ | _ | j <;> simp at e
theorem NB.nonil {W0 : World} {c : Nat} (h : NB W0 c) {j : Nat} : W0.cell? ⟨c, j, none⟩ ≠ some .nilIface := by
 obtain ⟨A, n, cp, x1, x2, x3, x4, x5, x6, hx⟩ := h
 intro e
 rw [hx.cell] at e
 rcases j with _ | _ | _ | _ | _ | _ | _ | j <;> simp at e
def Rd (W0 : World) (c : Nat) (s : RS) (w : World) : Prop :=
 KB c W0 w ∧ NB W0 c ∧ ∃ v, Ww W0 v s.ws ∧ Bx w c #[v, .int .i64 s.sz, .int .i64 s.op, .int .i64 s.wc, .int .i64 s.wa, .int .i64 s.lc, .int .i64 s.la] 54
def Mv (W0 : World) (c : Nat) (s : RS) (w w' : World) : Prop := w.grownBy w' (some c) ∧ Rd W0 c s w'
theorem Rd.drew {W0 w : World} {c : Nat} {s : RS} (h : Rd W0 c s w) : Rd W0 c s w.drew := ⟨h.1.drew, h.2.1, h.2.2⟩
theorem Mv.refl {W0 w : World} {c : Nat} {s : RS} (h : Rd W0 c s w) : Mv W0 c s w w := ⟨⟨rfl, rfl, rfl, Nat.le_refl _, fun _ _ _ => rfl⟩, h⟩
theorem Mv.trans {W0 a b d : World} {c : Nat} {s t : RS} (h : Mv W0 c s a b) (k : Mv W0 c t b d) : Mv W0 c t a d := ⟨h.1.trans k.1, k.2⟩
theorem KB.setCell {c o : Nat} {W0 w : World} (h : KB c W0 w) (_ : NB W0 c) (u : Value) : KB c W0 (w.setCell ⟨c, o, none⟩ u) :=
 World.grownBy.trans h ⟨rfl, rfl, rfl, by simp, fun k hk hne => Below.heap_setCell w _ u k (fun e => hne (by rw [e]))⟩
theorem Rd.le {W0 w : World} {c : Nat} {s : RS} (h : Rd W0 c s w) : W0.heap.size ≤ w.heap.size := h.1.size
theorem Rd.lies {W0 w : World} {c : Nat} {s : RS} (h : Rd W0 c s w) {v : Value} {l : List Pl} (hw : Ww W0 v l) : Ww w v l := by
 obtain ⟨A, cap, hv, hm, ht, hc⟩ := hw
 refine ⟨A, cap, hv, hm, ht, fun hn => ?_⟩
 obtain ⟨b, o, hA, hcell⟩ := hc hn
 obtain ⟨x, l', rfl⟩ := List.exists_cons_of_ne_nil (List.ne_nil_of_length_pos hn)
 have hbc : b ≠ c := by
   rintro rfl
   have h0 := (hcell 0 x rfl).1
   cases hx : x.1 <;> rw [hx] at h0 <;> exact h.2.1.no h0
 have key : ∀ j u, W0.cell? ⟨b, j, none⟩ = some u → w.cell? ⟨b, j, none⟩ = some u := fun j u hu =>
   (World.cell?_of_block (a := ⟨b, j, none⟩) (World.grownBy.block h.1 b (World.block_lt_of_cell? W0 (a := ⟨b, j, none⟩) hu) (by simpa using hbc))).trans hu
 exact ⟨b, o, hA, fun i y hy => ⟨key _ _ (hcell i y hy).1, key _ _ (hcell i y hy).2⟩⟩
theorem grown_setc (w : World) (c o : Nat) (u : Value) : w.grownBy (w.setCell ⟨c, o, none⟩ u) (some c) :=
 ⟨rfl, rfl, rfl, by simp, fun k hk hne => Below.heap_setCell w _ u k (fun e => hne (by rw [e]))⟩
theorem fault_is (w : World) (x y : Int) : Calls Tryz.prog 16 #[.agg #[.int .i64 x, .int .i64 y]] w fun e w' => e = .returned (.bool (x != 0)) ∧ w' = w.alloc (.cells #[.int .i64 x, .int .i64 y] 52) := by
 go_enter Tryz.func16, Tryz.ntmps16
 go_wp2
 go_ret
 exact ⟨rfl, rfl⟩
end
section
open Go.RowKit
@[go_sem] theorem is_fx_fx (v : Value) (w : World) : (Instr.typeAssert (.iface 103 v) 71 103 true).run Tryz.prog w = .ok (.tuple #[v, .bool true]) w := by kernel_rfl
@[go_sem] theorem is_fx_nm (v : Value) (w : World) : (Instr.typeAssert (.iface 103 v) 71 144 true).run Tryz.prog w = .ok (.tuple #[.string ⟨#[]⟩, .bool false]) w := by kernel_rfl
@[go_sem] theorem is_fx_cl (v : Value) (w : World) : (Instr.typeAssert (.iface 103 v) 71 145 true).run Tryz.prog w = .ok (.tuple #[.string ⟨#[]⟩, .bool false]) w := by kernel_rfl
@[go_sem] theorem is_fx_nu (v : Value) (w : World) : (Instr.typeAssert (.iface 103 v) 71 101 true).run Tryz.prog w = .ok (.tuple #[.string ⟨#[]⟩, .bool false]) w := by kernel_rfl
@[go_sem] theorem is_fx_qu (v : Value) (w : World) : (Instr.typeAssert (.iface 103 v) 71 102 true).run Tryz.prog w = .ok (.tuple #[.string ⟨#[]⟩, .bool false]) w := by kernel_rfl
@[go_sem] theorem is_nm_fx (v : Value) (w : World) : (Instr.typeAssert (.iface 144 v) 71 103 true).run Tryz.prog w = .ok (.tuple #[.string ⟨#[]⟩, .bool false]) w := by kernel_rfl
@[go_sem] theorem is_nm_nm (v : Value) (w : World) : (Instr.typeAssert (.iface 144 v) 71 144 true).run Tryz.prog w = .ok (.tuple #[v, .bool true]) w := by kernel_rfl
@[go_sem] theorem is_nm_cl (v : Value) (w : World) : (Instr.typeAssert (.iface 144 v) 71 145 true).run Tryz.prog w = .ok (.tuple #[.string ⟨#[]⟩, .bool false]) w := by kernel_rfl
@[go_sem] theorem is_nm_nu (v : Value) (w : World) : (Instr.typeAssert (.iface 144 v) 71 101 true).run Tryz.prog w = .ok (.tuple #[.string ⟨#[]⟩, .bool false]) w := by kernel_rfl
@[go_sem] theorem is_nm_qu (v : Value) (w : World) : (Instr.typeAssert (.iface 144 v) 71 102 true).run Tryz.prog w = .ok (.tuple #[.string ⟨#[]⟩, .bool false]) w := by kernel_rfl
@[go_sem] theorem is_cl_fx (v : Value) (w : World) : (Instr.typeAssert (.iface 145 v) 71 103 true).run Tryz.prog w = .ok (.tuple #[.string ⟨#[]⟩, .bool false]) w := by kernel_rfl
@[go_sem] theorem is_cl_nm (v : Value) (w : World) : (Instr.typeAssert (.iface 145 v) 71 144 true).run Tryz.prog w = .ok (.tuple #[.string ⟨#[]⟩, .bool false]) w := by kernel_rfl
@[go_sem] theorem is_cl_cl (v : Value) (w : World) : (Instr.typeAssert (.iface 145 v) 71 145 true).run Tryz.prog w = .ok (.tuple #[v, .bool true]) w := by kernel_rfl
@[go_sem] theorem is_cl_nu (v : Value) (w : World) : (Instr.typeAssert (.iface 145 v) 71 101 true).run Tryz.prog w = .ok (.tuple #[.string ⟨#[]⟩, .bool false]) w := by kernel_rfl
@[go_sem] theorem is_cl_qu (v : Value) (w : World) : (Instr.typeAssert (.iface 145 v) 71 102 true).run Tryz.prog w = .ok (.tuple #[.string ⟨#[]⟩, .bool false]) w := by kernel_rfl
@[go_sem] theorem is_nu_fx (v : Value) (w : World) : (Instr.typeAssert (.iface 101 v) 71 103 true).run Tryz.prog w = .ok (.tuple #[.string ⟨#[]⟩, .bool false]) w := by kernel_rfl
@[go_sem] theorem is_nu_nm (v : Value) (w : World) : (Instr.typeAssert (.iface 101 v) 71 144 true).run Tryz.prog w = .ok (.tuple #[.string ⟨#[]⟩, .bool false]) w := by kernel_rfl
@[go_sem] theorem is_nu_cl (v : Value) (w : World) : (Instr.typeAssert (.iface 101 v) 71 145 true).run Tryz.prog w = .ok (.tuple #[.string ⟨#[]⟩, .bool false]) w := by kernel_rfl
@[go_sem] theorem is_nu_nu (v : Value) (w : World) : (Instr.typeAssert (.iface 101 v) 71 101 true).run Tryz.prog w = .ok (.tuple #[v, .bool true]) w := by kernel_rfl
@[go_sem] theorem is_nu_qu (v : Value) (w : World) : (Instr.typeAssert (.iface 101 v) 71 102 true).run Tryz.prog w = .ok (.tuple #[.string ⟨#[]⟩, .bool false]) w := by kernel_rfl
@[go_sem] theorem is_qu_fx (v : Value) (w : World) : (Instr.typeAssert (.iface 102 v) 71 103 true).run Tryz.prog w = .ok (.tuple #[.string ⟨#[]⟩, .bool false]) w := by kernel_rfl
@[go_sem] theorem is_qu_nm (v : Value) (w : World) : (Instr.typeAssert (.iface 102 v) 71 144 true).run Tryz.prog w = .ok (.tuple #[.string ⟨#[]⟩, .bool false]) w := by kernel_rfl
@[go_sem] theorem is_qu_cl (v : Value) (w : World) : (Instr.typeAssert (.iface 102 v) 71 145 true).run Tryz.prog w = .ok (.tuple #[.string ⟨#[]⟩, .bool false]) w := by kernel_rfl
@[go_sem] theorem is_qu_nu (v : Value) (w : World) : (Instr.typeAssert (.iface 102 v) 71 101 true).run Tryz.prog w = .ok (.tuple #[.string ⟨#[]⟩, .bool false]) w := by kernel_rfl
@[go_sem] theorem is_qu_qu (v : Value) (w : World) : (Instr.typeAssert (.iface 102 v) 71 102 true).run Tryz.prog w = .ok (.tuple #[v, .bool true]) w := by kernel_rfl
@[go_sem] theorem is_no_fx (w : World) : (Instr.typeAssert .nilIface 71 103 true).run Tryz.prog w = .ok (.tuple #[.string ⟨#[]⟩, .bool false]) w := by kernel_rfl
@[go_sem] theorem is_no_nm (w : World) : (Instr.typeAssert .nilIface 71 144 true).run Tryz.prog w = .ok (.tuple #[.string ⟨#[]⟩, .bool false]) w := by kernel_rfl
@[go_sem] theorem is_no_cl (w : World) : (Instr.typeAssert .nilIface 71 145 true).run Tryz.prog w = .ok (.tuple #[.string ⟨#[]⟩, .bool false]) w := by kernel_rfl
@[go_sem] theorem is_no_nu (w : World) : (Instr.typeAssert .nilIface 71 101 true).run Tryz.prog w = .ok (.tuple #[.string ⟨#[]⟩, .bool false]) w := by kernel_rfl
@[go_sem] theorem is_no_qu (w : World) : (Instr.typeAssert .nilIface 71 102 true).run Tryz.prog w = .ok (.tuple #[.string ⟨#[]⟩, .bool false]) w := by kernel_rfl
end
section
open Go.RowKit
def stepN (x y : Nd) : Nat := match x.tag, y.tag with | .cl, _ => 0 | .st, .ex => 0 | _, _ => 1
end
section
open Go.RowKit
def okT (x : Nd) (deep : Nat) : Bool := decide (deep ≤ 40) && (fitsB x && x.kids.attach.all fun y => okT y.1 (deep + stepN x y.1))
termination_by x.size
decreasing_by
 have h1 := size_mem y.2
 have h2 := size_kids x
 omega
theorem below_grown {W0 w w' : World} {c : Nat} (hb : Below W0.heap.size W0 w) (hg : w.grownBy w' (some c)) (hc : W0.heap.size ≤ c) : Below W0.heap.size W0 w' := hb.grown hg hb.size (by rintro k ⟨rfl⟩; exact hc)
def okP (x : Nd) (deep : Nat) (l : List Pt) : Bool := l.all fun q => okT q.x (deep + stepN x q.x)
structure TK (W0 w : World) (c : Nat) (m : Int) (p : Pt) (deep : Nat) (v : Value) (n : Nat) (k : Nat) (wr : World) : Prop where
 own : wr.ownsRow W0.heap.size 110 1 v n ((kidsP p.x).map ptV)
 bel : Below W0.heap.size W0 wr
 gro : w.grownBy wr (some c)
 bx : Bx wr c #[.int .i64 (m - 1 - (sizeP ((kidsP p.x).take k) : Nat))] 95
 ne : v.ownBlock ≠ some c
 ok : okP p.x deep ((kidsP p.x).take k) = true
 pos : 0 ≤ m - 1 - (sizeP ((kidsP p.x).take k) : Nat)
end
section
open Go.RowKit
structure MR (W0 : World) (c : Nat) (ps : List Pt) (k : Nat) (wr : World) : Prop where
 bel : Below W0.heap.size W0 wr
 bx : Bx wr c #[.int .i64 (3000 - (sizeP (ps.take k) : Nat))] 95
 ok : (ps.take k).all (fun q => okT q.x 0) = true
 pos : sizeP (ps.take k) ≤ 3000
end
section
end
end Go.Proofs.YtaclhdpjkgoadaaGreatDoor
