/- TreeDeep's walk with expressions: a round's step. -/
import Derived.Test.YtnphimechniplaaDeepB
set_option linter.unusedSimpArgs false
set_option linter.unusedVariables false
namespace Go.Proofs.Ytnphimechniplaa
open Go.RowKit
/-- Expressions within one another: what holds at the loop's head. -/
structure DE (w wr : World) (x : Nd) (j : Nat) : Prop where
  bel : Below w.heap.size w wr
  s : Bx wr (w.heap.size + 2) #[.int .i64 7, .int .i32 0, .string ⟨#[]⟩, .string ⟨#[]⟩, .slice (some ⟨w.heap.size + 1, 0, none⟩) 1 1, .slice none 0 0, .slice none 0 0, .slice none 0 0, .int .i64 0] 51
  r : Bx wr (w.heap.size + 1) (cellsN x).toArray 24
  kd : KdX (w.heap.size + 1) wr x
  tag : x.tag = .ex
  deep : Deep x j
  size : x.size ≤ j
theorem DE.step {w wr : World} {x : Nd} {j : Nat} (h : DE w wr x j) (us : List Value) (hu : us = cellsN (dNot wr.heap.size x)) (hd : Deep (dNot wr.heap.size x) (j + 1)) :
    DE w (((wr.alloc (.cells (cellsN x).toArray 24)).setCells (w.heap.size + 1) 0 us).drew) (dNot wr.heap.size x) (j + 1) := by
  have hl := h.s.lt
  have b1 : Bx (wr.alloc (.cells (cellsN x).toArray 24)) wr.heap.size (cellsN x).toArray 24 := Bx.at_new rfl
  have hr := h.r.up (.cells (cellsN x).toArray 24)
  have hss := h.s.up (.cells (cellsN x).toArray 24)
  have hb : Below wr.heap.size wr (wr.alloc (.cells (cellsN x).toArray 24)) := (Below.refl _ wr).alloc (Nat.le_refl _) _
  have hbw : Below w.heap.size w (wr.alloc (.cells (cellsN x).toArray 24)) := h.bel.trans (hb.mono h.bel.size)
  have hz1 : (wr.alloc (.cells (cellsN x).toArray 24)).heap.size = wr.heap.size + 1 := by simp
  have hkx : KdX (w.heap.size + 1) (wr.alloc (.cells (cellsN x).toArray 24)) x := h.kd.keep fun k j u _ hu => (hb.cell (p := ⟨k, j, none⟩) (World.block_lt_of_cell? wr (a := ⟨k, j, none⟩) hu)).trans hu
  generalize wr.alloc (.cells (cellsN x).toArray 24) = W1 at b1 hr hss hb hbw hz1 hkx ⊢
  have hg := grown_setCells (w.heap.size + 1) us 0 W1
  have hz := size_setCells (w.heap.size + 1) us 0 W1
  have hs1 : Bx (W1.setCells (w.heap.size + 1) 0 us) (w.heap.size + 1) (cellsN (dNot wr.heap.size x)).toArray 24 := by
    subst hu
    have ht := h.tag
    clear hg hz h
    cases x <;> first | (simp [Nd.tag] at ht; done) | skip
    exact Bx.set_8 (by simpa [cellsN] using hr) (.int .i64 18) (.int .i32 0) (.string ⟨#[]⟩) (.string ⟨#[33]⟩) (.string ⟨#[]⟩) (.slice (some ⟨wr.heap.size, 0, none⟩) 1 1) (.string ⟨#[]⟩) (.int .i64 0)
  have hkk : ∀ k j u, k ≠ w.heap.size + 1 → W1.cell? ⟨k, j, none⟩ = some u → (W1.setCells (w.heap.size + 1) 0 us).cell? ⟨k, j, none⟩ = some u := by
    intro k j u hk hu
    rw [World.cell?_setCells_out _ _ _ _ _ (fun e _ => absurd e hk)]; exact hu
  have he : Bx (W1.setCells (w.heap.size + 1) 0 us) (w.heap.size + 2) _ _ := (hg.block _ (by omega) (by simp)).trans hss
  have h2 : Bx (W1.setCells (w.heap.size + 1) 0 us) wr.heap.size _ _ := (hg.block _ (by omega) (by simp; omega)).trans b1
  have hbg : Below w.heap.size w (W1.setCells (w.heap.size + 1) 0 us) := hbw.grown hg hbw.size (by rintro k ⟨rfl⟩; omega)
  refine ⟨?_, he, hs1, ?_, rfl, hd, by have := h.size; simp [dNot, Nd.size, sizeL]; omega⟩
  · exact hbg.drew
  · intro ws hs
    have r2 := rw_kept (R := w.heap.size + 1) (rw_bx' (x := x) h2 (by simp) h.tag) (by intro k hk; simp [Value.ownBlock] at hk; omega) hs
    have hkn := (hkx.keep hkk) ws hs
    unfold dNot; rw [Kd]
    exact ⟨⟨sz_le (by decide), sz_le (by decide), sz_le (by decide)⟩, r2, hkn, trivial⟩
end Go.Proofs.Ytnphimechniplaa
