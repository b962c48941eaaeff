/- Parts of the proof: Rdr. -/
import Derived.Test.YtipcoglddfgopaaGreatDoorP5
import Derived.Test.YtipcoglddfgopaaGreatDoorP30
import Derived.Deep.AppendLies
set_option linter.unusedSimpArgs false
set_option linter.unusedVariables false
namespace Go.Proofs.YtipcoglddfgopaaGreatDoor
open Go.RowKit
def plcells (x : Pl) : List Value := [x.1.V, .int .i64 x.2]
theorem Tryz.infoPl : (Tryz.prog.info? 74).map (fun i => (i.zero, i.size, i.bytes)) = some (some (.agg #[.nilIface, .int .i64 0]), 2, 24) := by kernel_rfl
theorem pr_one (x : Pr) : x.V.oneCell' = true := by cases x <;> rfl
theorem pl_one (l : List Pl) : ∀ u ∈ l.flatMap plcells, u.oneCell' = true := by
 intro u hu
 rw [List.mem_flatMap] at hu
 obtain ⟨x, hx, hu⟩ := hu
 simp only [plcells, List.mem_cons, List.not_mem_nil, or_false] at hu
 rcases hu with rfl | rfl
 · exact pr_one _
 · rfl
theorem plflat_get : ∀ (l : List Pl) (i j : Nat) (x : Pl), l[i]? = some x → j < 2 → (l.flatMap plcells)[i * 2 + j]? = (plcells x)[j]?
 | [], i, j, x, h, _ => by simp at h
 | y :: l, 0, j, x, h, hj => by
   simp only [List.getElem?_cons_zero, Option.some.injEq] at h
   subst h
   simp only [List.flatMap_cons, Nat.zero_mul, Nat.zero_add]
   rw [List.getElem?_append_left (by simpa [plcells] using hj)]
 | y :: l, i + 1, j, x, h, hj => by
   simp only [List.getElem?_cons_succ] at h
   have := plflat_get l i j x h hj
   simp only [List.flatMap_cons]
   rw [List.getElem?_append_right (by simp [plcells]; omega), ← this]
   congr 1
   simp [plcells]; omega
theorem ww_own {B : Nat} {w : World} {v : Value} {l : List Pl} (h : w.ownsRow B 74 2 v l.length (l.flatMap plcells)) (hm : l.length ≤ 1000000) (ht : ∀ x ∈ l, x.1.text.size ≤ 1000000) (hc : ∃ A n cap, v = .slice A n cap ∧ cap ≤ maxLen) : Ww w v l := by
 obtain ⟨A, cap, rfl, hcap⟩ := own_form h
 obtain ⟨A', n', cap', e, hcm⟩ := hc
 injection e with e1 e2 e3
 refine ⟨A, cap, rfl, ⟨hm, hcap, by omega⟩, ht, fun hn => ?_⟩
 obtain ⟨g, cap2, hv, hg, hl, hat⟩ := own_row h hn
 injection hv with h1 h2 h3
 refine ⟨g, 0, h1, fun i x hx => ⟨?_, ?_⟩⟩
 · have := (hat (i * 2 + 0) x.1.V (by rw [plflat_get l i 0 x hx (by omega)]; rfl)).1
   rw [Nat.zero_add]; exact this
 · have := (hat (i * 2 + 1) (.int .i64 x.2) (by rw [plflat_get l i 1 x hx (by omega)]; rfl)).1
   rw [Nat.zero_add]; exact this
theorem wflat_get : ∀ (l : List Wd) (i j : Nat) (x : Wd), l[i]? = some x → j < 3 → (cellsW l)[i * 3 + j]? = (wcells x)[j]?
 | [], i, j, x, h, _ => by simp at h
 | y :: l, 0, j, x, h, hj => by
   simp only [List.getElem?_cons_zero, Option.some.injEq] at h
   subst h
   simp only [cellsW, List.flatMap_cons, Nat.zero_mul, Nat.zero_add]
   rw [List.getElem?_append_left (by simpa [wcells] using hj)]
 | y :: l, i + 1, j, x, h, hj => by
   simp only [List.getElem?_cons_succ] at h
   have := wflat_get l i j x h hj
   simp only [cellsW, List.flatMap_cons] at this ⊢
   rw [List.getElem?_append_right (by simp [wcells]; omega), ← this]
   congr 1
   simp [wcells]; omega
structure MkAt (w : World) (b0 : Nat) (sz e a : Int) (ws : List Wd) (vw : Value) (k : Nat) (wr : World) (A : Option Addr) (cap : Nat) : Prop where
 bel : Below w.heap.size w wr
 bx : Bx wr b0 #[.slice A ((ws.map plOf).take k).length cap, .int .i64 sz, .int .i64 0, .int .i64 e, .int .i64 a, .int .i64 0, .int .i64 0] 61
 own : wr.ownsRow (b0 + 1) 74 2 (.slice A ((ws.map plOf).take k).length cap) ((ws.map plOf).take k).length (((ws.map plOf).take k).flatMap plcells)
 row : wr.ownsRow w.heap.size 70 3 vw ws.length (cellsW ws)
 old : ∀ g, vw.ownBlock = some g → g < b0
 hb : w.heap.size ≤ b0
section
variable {w wr w' : World} {b0 : Nat} {sz e a : Int} {ws : List Wd} {vw : Value} {k : Nat} {A : Option Addr} {cap : Nat}
theorem MkAt.below (h : MkAt w b0 sz e a ws vw k wr A cap) (hb : Below wr.heap.size wr w') : MkAt w b0 sz e a ws vw k w' A cap :=
 ⟨h.bel.trans (hb.mono h.bel.size), h.bx.next hb, own_next h.own hb, own_next h.row hb, h.old, h.hb⟩
theorem MkAt.put {x : Wd} {A3 : Option Addr} {c3 n : Nat} (h : MkAt w b0 sz e a ws vw k wr A cap) (hx : ws[k]? = some x) (ho : w'.ownsRow (b0 + 1) 74 2 (.slice A3 n c3) n (((ws.map plOf).take k).flatMap plcells ++ plcells (plOf x)))
   (hg : wr.grownBy w' (Value.slice A ((ws.map plOf).take k).length cap).ownBlock) (hn : n = ((ws.map plOf).take (k + 1)).length) : MkAt w b0 sz e a ws vw (k + 1) (w'.setCell ⟨b0, 0, none⟩ (.slice A3 n c3)) A3 c3 := by
 subst hn
 have hgg := grown_set_at w' b0 0 (.slice A3 ((ws.map plOf).take (k + 1)).length c3)
 have hbx : Bx w' b0 #[.slice A ((ws.map plOf).take k).length cap, .int .i64 sz, .int .i64 0, .int .i64 e, .int .i64 a, .int .i64 0, .int .i64 0] 61 :=
   (hg.block b0 h.bx.lt (fun q => by have := (h.own.lt b0 q.symm).1; omega)).trans h.bx
 have hrow : w'.ownsRow w.heap.size 70 3 vw ws.length (cellsW ws) := h.row.kept hg (by
   cases hv : vw.ownBlock with
   | none => exact .inl rfl
   | some g => exact .inr (fun q => by have h1 := h.old g hv; have := (h.own.lt g q.symm).1; omega))
 refine ⟨(h.bel.grown hg h.bel.size (fun q hq => by have := (h.own.lt q hq).1; have := h.hb; omega)).setCell h.hb _, ?_, ?_, hrow.kept hgg (by
   cases hv : vw.ownBlock with
   | none => exact .inl rfl
   | some g => exact .inr (by have := h.old g hv; simp; omega)), h.old, h.hb⟩
 · have := hbx.set 0 (.slice A3 ((ws.map plOf).take (k + 1)).length c3)
   simpa using this
 · have e1 : (ws.map plOf).take (k + 1) = (ws.map plOf).take k ++ [plOf x] := by rw [List.take_add_one, List.getElem?_map, hx]; rfl
   have e2 : ((ws.map plOf).take (k + 1)).flatMap plcells = ((ws.map plOf).take k).flatMap plcells ++ plcells (plOf x) := by rw [e1]; simp
   rw [e2]
   refine ho.kept hgg ?_
   cases hv : (Value.slice A3 ((ws.map plOf).take (k + 1)).length c3).ownBlock with
   | none => exact .inl rfl
   | some g => exact .inr (by have := (ho.lt g hv).1; simp; omega)
end
end Go.Proofs.YtipcoglddfgopaaGreatDoor
