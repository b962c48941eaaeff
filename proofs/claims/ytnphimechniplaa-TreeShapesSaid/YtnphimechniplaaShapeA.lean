/- TreeShapes: one node in a program of its own; no walk. -/
import Derived.Test.YtnphimechniplaaDeepA
import Derived.Test.YtnphimechniplaaTold3
set_option linter.unusedSimpArgs false
set_option linter.unusedVariables false
namespace Go.Proofs.Ytnphimechniplaa
open Go.RowKit
def sThis : Nd := .ex 5 0 ⟨#[]⟩ ⟨#[]⟩ ⟨#[]⟩ (.slice none 0 0) [] ⟨#[]⟩ 0
def sNode (k : Int) (nm ty : ByteArray) (v : Value) (n : Nat) : Nd := .ex k 0 ⟨#[]⟩ nm ty v (List.replicate n sThis) ⟨#[]⟩ 0
def sFld (b : Nat) (x : Nd) : Nd := .fd false ⟨#[65]⟩ ⟨#[120]⟩ (.slice (some ⟨b, 0, none⟩) 1 1) [x]
def sCls (b : Nat) (f : Nd) : Nd := .cl ⟨#[65]⟩ ⟨#[]⟩ (.slice (some ⟨b, 0, none⟩) 1 1) (.slice none 0 0) [f] []
theorem sk1 : fitsB sThis = true := by decide +kernel
theorem sk2 : (valT ⟨#[65]⟩ && (nameOk ⟨#[120]⟩ && decide (1 ≤ 1))) = true := by decide +kernel
theorem sk3 : (classOk ⟨#[65]⟩ && ((emp ⟨#[]⟩ || classOk ⟨#[]⟩) && (decide (1 ≤ 30) && decide (0 ≤ 30)))) = true := by decide +kernel
theorem ok_this (d : Nat) : okT sThis d = decide (d ≤ 40) := by rw [okT_at (r := true) sk1 rfl]; simp
theorem sizeL_this : ∀ n, sizeL (List.replicate n sThis) = n
  | 0 => rfl
  | n + 1 => by rw [List.replicate_succ, sizeL, sizeL_this n]; simp [sThis, Nd.size, sizeL]; omega
theorem size_node (k : Int) (nm ty : ByteArray) (v : Value) (n : Nat) : (sNode k nm ty v n).size = 1 + n := by simp [sNode, Nd.size, sizeL_this]
theorem size_prog (k : Int) (nm ty : ByteArray) (v : Value) (n b c : Nat) : sizeL [sCls c (sFld b (sNode k nm ty v n))] = n + 3 := by
  have := size_node k nm ty v n
  simp [sizeL, sCls, sFld, Nd.size, this]; omega
theorem all_this (n : Nat) (f : Nd → Bool) (h : f sThis = true) : (List.replicate n sThis).all f = true := by
  rw [List.all_eq_true]; intro x hx; rw [List.eq_of_mem_replicate hx]; exact h
theorem sh_may (k : Int) (nm ty : ByteArray) (v : Value) (n b c : Nat) (hn : n ≤ 100) : mayB [sCls c (sFld b (sNode k nm ty v n))] = fitE k 0 ⟨#[]⟩ nm ty n := by
  have h1 : okT (sNode k nm ty v n) 1 = fitE k 0 ⟨#[]⟩ nm ty n := by
    rw [okT_eq]
    have hf : fitsB (sNode k nm ty v n) = fitE k 0 ⟨#[]⟩ nm ty n := by simp [fitsB, sNode]
    have ha : ((sNode k nm ty v n).kids.all fun y => okT y (1 + stepN (sNode k nm ty v n) y)) = true := by
      refine all_this n _ ?_
      have : stepN (sNode k nm ty v n) sThis = 1 := rfl
      rw [this, ok_this]; rfl
    rw [hf, ha]; simp
  have h2 : okT (sFld b (sNode k nm ty v n)) 0 = fitE k 0 ⟨#[]⟩ nm ty n := by
    rw [okT_eq]
    have hf : fitsB (sFld b (sNode k nm ty v n)) = true := sk2
    have hs : stepN (sFld b (sNode k nm ty v n)) (sNode k nm ty v n) = 1 := rfl
    have hk : (sFld b (sNode k nm ty v n)).kids = [sNode k nm ty v n] := rfl
    rw [hf, hk]
    simp only [List.all_cons, List.all_nil, hs, h1]; simp
  have h3 : okT (sCls c (sFld b (sNode k nm ty v n))) 0 = fitE k 0 ⟨#[]⟩ nm ty n := by
    rw [okT_eq]
    have hf : fitsB (sCls c (sFld b (sNode k nm ty v n))) = true := sk3
    have hs : stepN (sCls c (sFld b (sNode k nm ty v n))) (sFld b (sNode k nm ty v n)) = 0 := rfl
    have hk : (sCls c (sFld b (sNode k nm ty v n))).kids = [sFld b (sNode k nm ty v n)] := rfl
    rw [hf, hk]
    simp only [List.all_cons, List.all_nil, hs, h2]; simp
  unfold mayB
  rw [size_prog]
  have h4 : decide (n + 3 ≤ 3000) = true := decide_eq_true (by omega)
  simp [h3, h4]
  intro _; omega
theorem kd_this (W : World) : Kd W sThis := by
  unfold sThis; rw [Kd]; exact ⟨⟨sz_le (by decide), sz_le (by decide), sz_le (by decide)⟩, Rw.empty _ _ _ _, trivial⟩
theorem kd_thiss (W : World) (n : Nat) : KdL W (List.replicate n sThis) := KdL_of fun x hx => by rw [List.eq_of_mem_replicate hx]; exact kd_this W
/-- A row that the call owns is a row of nodes. -/
theorem rw_own {w : World} {B : Nat} {t : Tg} {el : TypeId} {v : Value} {l : List Nd} (ho : w.ownsRow B el t.sz v l.length (l.flatMap cellsN)) (ht : ∀ x ∈ l, x.tag = t) (hm : l.length ≤ 1000000) : Rw w t v l := by
  have hs := seg_of ho ht
  obtain ⟨A, cap, rfl, hc, hA⟩ := hs.form
  refine ⟨A, cap, rfl, ⟨by unfold maxLen; omega, hc⟩, ht, fun h0 => ?_⟩
  obtain ⟨g, cap', hv, _, _, hat⟩ := own_row ho h0
  injection hv with h1 h2 h3
  refine ⟨g, 0, h1, fun i x hx j u hu => ?_⟩
  have hj : j < t.sz := by rw [← ht x (List.mem_of_getElem? hx), ← cells_len]; exact (List.getElem?_eq_some_iff.1 hu).1
  have := (hat (i * t.sz + j) u (by rw [flat_get l i j x ht hx hj]; exact hu)).1
  simpa using this
/-- What holds at the loop's head. -/
structure ShR (w : World) (B eb : Nat) (k : Int) (nm ty : ByteArray) (wr : World) (v : Value) (j : Nat) : Prop where
  bel : Below w.heap.size w wr
  e : Bx wr eb #[.int .i64 k, .int .i32 0, .string ⟨#[]⟩, .string nm, .string ty, v, .string ⟨#[]⟩, .int .i64 0] 24
  own : wr.ownsRow B 24 8 v j ((List.replicate j sThis).flatMap cellsN)
  hw : w.heap.size ≤ eb
  hB : eb < B
  hBw : B ≤ wr.heap.size
theorem ShR.step {w wr wA w3 : World} {B eb j : Nat} {k : Int} {nm ty : ByteArray} {v v' : Value} (h : ShR w B eb k nm ty wr v j) (hb : Below wr.heap.size wr wA)
    (ho : w3.ownsRow B 24 8 v' (j + 1) ((List.replicate j sThis).flatMap cellsN ++ cellsN sThis)) (hg : wA.grownBy w3 v.ownBlock) :
    ShR w B eb k nm ty (w3.setCell ⟨eb, 5, none⟩ v') v' (j + 1) := by
  have h1 := h.own.lt
  have h2 := ho.lt
  have hl := h.e.lt
  have hz := hb.size
  have hz2 := hg.size
  have hne : ∀ q, v.ownBlock = some q → B ≤ q := fun q hq => (h1 q hq).1
  have b1 : Below w.heap.size w wA := h.bel.trans (hb.mono h.bel.size)
  have b2 : Below w.heap.size w w3 := b1.grown hg b1.size fun q hq => by have := hne q hq; have := h.hw; have := h.hB; omega
  refine ⟨b2.setCell h.hw _, ?_, ?_, h.hw, h.hB, by simp; have := h.hBw; omega⟩
  · have e1 := h.e.next hb
    have e2 : Bx w3 eb _ _ := (hg.block eb e1.lt (fun e => by have := hne eb e.symm; have := h.hB; omega)).trans e1
    exact e2.set 5 v'
  · have e : (List.replicate (j + 1) sThis) = List.replicate j sThis ++ [sThis] := List.replicate_succ'
    rw [e, List.flatMap_append]
    exact ownsRow_setCell_below (by simpa using ho) h.hB _
theorem ShR.kd {w wr : World} {B eb j : Nat} {k : Int} {nm ty : ByteArray} {v : Value} (h : ShR w B eb k nm ty wr v j) (hj : j ≤ 100) (hn : nm.size ≤ 100) (ht : ty.size ≤ 100) : Kd wr (sNode k nm ty v j) := by
  unfold sNode; rw [Kd]
  exact ⟨⟨sz_le (by decide), sz_le hn, sz_le ht⟩, rw_own (t := .ex) (l := List.replicate j sThis) (by rw [List.length_replicate]; exact h.own) (fun x hx => by rw [List.eq_of_mem_replicate hx]; rfl) (by simp; omega), kd_thiss wr j⟩
theorem srw_bx {W : World} {b : Nat} {cs : Array Value} {T : TypeId} {t : Tg} {x : Nd} (h : Bx W b cs T) (hc : cs.toList = cellsN x) (ht : x.tag = t) : Rw W t (.slice (some ⟨b, 0, none⟩) 1 1) [x] :=
  rw_bx h (by simpa using hc) (by intro y hy; simp at hy; subst hy; exact ht) rfl (by omega)
/-- The program round the node. -/
theorem shape_prog {wr W : World} {nd : Nd} {T1 T2 T3 : TypeId} (hk : Kd wr nd) (ht : nd.tag = .ex) (hW : ((wr.alloc (.cells (cellsN nd).toArray T1)).alloc (.cells (cellsN (sFld wr.heap.size nd)).toArray T2)).alloc (.cells (cellsN (sCls (wr.heap.size + 1) (sFld wr.heap.size nd))).toArray T3) = W) {W' : World} (hb : Below W.heap.size W W') :
    Rw W' .cl (.slice (some ⟨wr.heap.size + 2, 0, none⟩) 1 1) [sCls (wr.heap.size + 1) (sFld wr.heap.size nd)] ∧ KdL W' [sCls (wr.heap.size + 1) (sFld wr.heap.size nd)] ∧ Kd W' nd := by
  have b1 : Bx W wr.heap.size (cellsN nd).toArray T1 := by rw [← hW]; exact ((Bx.at_new rfl).up _).up _
  have b2 : Bx W (wr.heap.size + 1) (cellsN (sFld wr.heap.size nd)).toArray T2 := by rw [← hW]; exact (Bx.at_new (by simp)).up _
  have b3 : Bx W (wr.heap.size + 2) (cellsN (sCls (wr.heap.size + 1) (sFld wr.heap.size nd))).toArray T3 := by rw [← hW]; exact Bx.at_new (by simp)
  have hbw : Below wr.heap.size wr W := by rw [← hW]; exact (((Below.refl _ wr).alloc (Nat.le_refl _) _).alloc (by simp) _).alloc (by simp <;> omega) _
  have K := Keep.below (hbw.trans (hb.mono hbw.size))
  have h1 : Kd W' nd := Kd.keep K _ hk
  have h2 : Kd W' (sFld wr.heap.size nd) := by
    unfold sFld; rw [Kd]
    exact ⟨⟨sz_le (by decide), sz_le (by decide)⟩, srw_bx (b1.next hb) (by simp) ht, h1, trivial⟩
  refine ⟨srw_bx (b3.next hb) (by simp) rfl, ⟨?_, trivial⟩, h1⟩
  unfold sCls; rw [Kd]
  exact ⟨⟨sz_le (by decide), sz_le (by decide)⟩, ⟨srw_bx (b2.next hb) (by simp) rfl, h2, trivial⟩, Rw.empty _ _ _ _, trivial⟩
theorem sh_start (w : World) (o : Obj) (k : Int) (nm ty : ByteArray) : ShR w (w.heap.size + 2) (w.heap.size + 1) k nm ty ((w.alloc o).alloc (.cells #[.int .i64 k, .int .i32 0, .string ⟨#[]⟩, .string nm, .string ty, .slice none 0 0, .string ⟨#[]⟩, .int .i64 0] 24)) (.slice none 0 0) 0 :=
  ⟨((Below.refl _ w).alloc (Nat.le_refl _) _).alloc (by simp) _, Bx.at_new (by simp), by simpa using World.ownsRow_nil _ _ 24 8, by omega, by omega, by simp⟩
theorem ShR.mid {w wr wA w3 : World} {B eb j : Nat} {k : Int} {nm ty : ByteArray} {v v' : Value} (h : ShR w B eb k nm ty wr v j) (hb : Below wr.heap.size wr wA) (hg : wA.grownBy w3 v.ownBlock) : w3.cell? ⟨eb, 5, none⟩ = some v ∧ w3.frozen? ⟨eb, 5, none⟩ = false := by
  have e1 := h.e.next hb
  have h1 := h.own.lt
  have e2 : Bx w3 eb _ _ := (hg.block eb e1.lt (fun e => by have := (h1 eb e.symm).1; have := h.hB; omega)).trans e1
  exact ⟨e2.cell 5, e2.fro 5⟩
theorem this_cells (w : World) (T : TypeId) : ∀ (j : Nat) (u : Value), (cellsN sThis)[j]? = some u → (w.alloc (.cells #[.int .i64 5, .int .i32 0, .string ⟨#[]⟩, .string ⟨#[]⟩, .string ⟨#[]⟩, .slice none 0 0, .string ⟨#[]⟩, .int .i64 0] T)).cell? ((⟨w.heap.size, 0, none⟩ : Addr).add j) = some u := by
  intro j u hj
  rw [add_off, Nat.zero_add, (Bx.new w _ T).cell]
  simpa [cellsN, sThis] using hj
theorem this_one : ∀ u ∈ cellsN sThis, u.oneCell' = true := by intro u hu; simp only [cellsN, sThis, List.mem_cons, List.not_mem_nil, or_false] at hu; rcases hu with rfl | rfl | rfl | rfl | rfl | rfl | rfl | rfl <;> rfl
end Go.Proofs.Ytnphimechniplaa
