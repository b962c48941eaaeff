/- kin: Kids. -/
import Derived.Test.YteogphbdpjnjoaaGreatKinL
import Derived.Test.YteogphbdpjnjoaaGreatKinG
set_option linter.unusedSimpArgs false
set_option linter.unusedVariables false
namespace Go.Proofs.YteogphbdpjnjoaaGreat
open Go.RowKit
def kidB (cs : List Hdr) (s : ByteArray) (c : Hdr) : Bool := decide (c.1 ≠ s) && leadsB (famL cs) (plc (famL cs) s) (plc (famL cs) c.1)
def kidsF (cs : List Hdr) (s : ByteArray) (l : List Hdr) : List ByteArray := (l.filter (kidB cs s)).map (·.1)
def kidsL (cs : List Hdr) (s : ByteArray) : List ByteArray := if isCk cs s then kidsF cs s cs else []
theorem kidsF_step {cs : List Hdr} {s : ByteArray} {k : Nat} {c : Hdr} (h : cs[k]? = some c) : kidsF cs s (cs.take (k + 1)) = kidsF cs s (cs.take k) ++ (if kidB cs s c then [c.1] else []) := by
  unfold kidsF; rw [List.take_add_one, h]
  cases hb : kidB cs s c <;> simp [hb]
theorem kidsF_len (cs : List Hdr) (s : ByteArray) (l : List Hdr) : (kidsF cs s l).length ≤ l.length := by unfold kidsF; rw [List.length_map]; exact List.length_filter_le _ _
/-- A program's classes' cells, in all later worlds. -/
theorem cl_cells {w : World} {A : Option Addr} {cap m : Nat} {cs : List Hdr} (h : Cl w (.slice A m cap) cs) {k : Nat} {c : Hdr} (hk : cs[k]? = some c) : ∃ b o A2 n2 k2 A3 n3 k3, A = some ⟨b, o, none⟩ ∧ w.cell? ⟨b, o + k * 4, none⟩ = some (.string c.1) ∧ w.cell? ⟨b, o + k * 4 + 1, none⟩ = some (.string c.2) ∧ w.cell? ⟨b, o + k * 4 + 2, none⟩ = some (.slice A2 n2 k2) ∧ w.cell? ⟨b, o + k * 4 + 3, none⟩ = some (.slice A3 n3 k3) := by
  obtain ⟨A', cap', e, _, _, hx⟩ := h
  injection e with e1 e2 e3
  have hk0 := (List.getElem?_eq_some_iff.1 hk).1
  obtain ⟨b, o, e, hc⟩ := hx (by omega)
  obtain ⟨a0, a1, A2, n2, k2, A3, n3, k3, a2, a3⟩ := hc k c hk
  exact ⟨b, o, A2, n2, k2, A3, n3, k3, e1.trans e, a0, a1, a2, a3⟩
def KidsP (cs : List Hdr) (s : ByteArray) (w : World) (e : Ending) (w' : World) : Prop := ∃ v, e = .returned v ∧ w'.ownsRow w.heap.size 9 1 v (kidsL cs s).length (strsV (kidsL cs s)) ∧ Below w.heap.size w w'
theorem kids_none {cs : List Hdr} {s : ByteArray} {w W : World} (h : isCk cs s = false) (hb : Below w.heap.size w W) : KidsP cs s w (.returned (.slice none 0 0)) W := by
  refine ⟨_, rfl, ?_, hb⟩
  unfold kidsL; rw [h]; exact World.ownsRow_nil _ _ _ _
theorem kids_all {cs : List Hdr} {s : ByteArray} {w W w' : World} {v : Value} {l : List ByteArray} (h : isCk cs s = true) (hl : l = kidsF cs s cs) (hR : TxR W v l w') (hb : Below w.heap.size w W) : KidsP cs s w (.returned v) w' := by
  refine ⟨_, rfl, ?_, hb.trans (hR.bel.mono hb.size)⟩
  unfold kidsL; rw [h, if_pos rfl, ← hl]; exact own_baseK hR.own hb.size
end Go.Proofs.YteogphbdpjnjoaaGreat
