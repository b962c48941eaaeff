/- A row's nodes one by one: no program. -/
import Derived.Test.YteogphbdpjnjoaaGreatTree
import Derived.Deep.RegionHeld3
set_option linter.unusedSimpArgs false
set_option linter.unusedVariables false
namespace Go.Proofs.YteogphbdpjnjoaaGreat
open Go.RowKit
/-- A row's node and its cells. -/
theorem Rw.get {w : World} {t : Tg} {A : Option Addr} {n cap : Nat} {l : List Nd} (h : Rw w t (.slice A n cap) l) {k : Nat} (hk : k < n) : ∃ b o x, A = Option.some ⟨b, o, none⟩ ∧ l[k]? = Option.some x ∧ x.tag = t ∧ ∀ j u, (cellsN x)[j]? = Option.some u → w.cell? ⟨b, o + k * t.sz + j, none⟩ = Option.some u := by
  obtain ⟨A', cap', hv, _, ht, hc⟩ := h
  injection hv with h1 h2 h3
  obtain ⟨b, o, hA, hcell⟩ := hc (by omega)
  have hl : k < l.length := by omega
  exact ⟨b, o, l[k], h1.trans hA, List.getElem?_eq_getElem hl, ht _ (List.getElem_mem hl), hcell k _ (List.getElem?_eq_getElem hl)⟩
theorem sizeL_take_succ {l : List Nd} {k : Nat} {x : Nd} (h : l[k]? = some x) : sizeL (l.take (k + 1)) = sizeL (l.take k) + x.size := by
  have hl := (List.getElem?_eq_some_iff.1 h)
  rw [List.take_add_one, h]
  simp [sizeL_append, sizeL]
theorem sizeL_take_le (l : List Nd) (k : Nat) : sizeL (l.take k) ≤ sizeL l := by
  have := sizeL_append (l.take k) (l.drop k)
  rw [List.take_append_drop] at this; omega
theorem KdL.mem_get {w : World} {l : List Nd} (h : KdL w l) {k : Nat} {x : Nd} (hx : l[k]? = some x) : Kd w x := KdL_mem h x (List.mem_of_getElem? hx)
end Go.Proofs.YteogphbdpjnjoaaGreat
