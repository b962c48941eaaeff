/- Contract of tree.bareExpr. -/
import Derived.Test.YtlpddmncgmhkeaaBareA
import Derived.Deep.RegionHeld3
set_option linter.unusedSimpArgs false
set_option linter.unusedVariables false
namespace Go.Proofs.Ytlpddmncgmhkeaa
open Go.RowKit
theorem Bx.get_4 {w : World} {b : Nat} {x0 x1 x2 x3 : Value} {T : TypeId} (h : Bx w b #[x0, x1, x2, x3] T) : w.cell? ⟨b, 0, none⟩ = some x0 ∧ w.cell? ⟨b, 1, none⟩ = some x1 ∧ w.cell? ⟨b, 2, none⟩ = some x2 ∧ w.cell? ⟨b, 3, none⟩ = some x3 :=
  ⟨h.cell 0, h.cell 1, h.cell 2, h.cell 3⟩
theorem Bx.get_6 {w : World} {b : Nat} {x0 x1 x2 x3 x4 x5 : Value} {T : TypeId} (h : Bx w b #[x0, x1, x2, x3, x4, x5] T) : w.cell? ⟨b, 0, none⟩ = some x0 ∧ w.cell? ⟨b, 1, none⟩ = some x1 ∧ w.cell? ⟨b, 2, none⟩ = some x2 ∧ w.cell? ⟨b, 3, none⟩ = some x3 ∧ w.cell? ⟨b, 4, none⟩ = some x4 ∧ w.cell? ⟨b, 5, none⟩ = some x5 :=
  ⟨h.cell 0, h.cell 1, h.cell 2, h.cell 3, h.cell 4, h.cell 5⟩
theorem Bx.get_8 {w : World} {b : Nat} {x0 x1 x2 x3 x4 x5 x6 x7 : Value} {T : TypeId} (h : Bx w b #[x0, x1, x2, x3, x4, x5, x6, x7] T) : w.cell? ⟨b, 0, none⟩ = some x0 ∧ w.cell? ⟨b, 1, none⟩ = some x1 ∧ w.cell? ⟨b, 2, none⟩ = some x2 ∧ w.cell? ⟨b, 3, none⟩ = some x3 ∧ w.cell? ⟨b, 4, none⟩ = some x4 ∧ w.cell? ⟨b, 5, none⟩ = some x5 ∧ w.cell? ⟨b, 6, none⟩ = some x6 ∧ w.cell? ⟨b, 7, none⟩ = some x7 :=
  ⟨h.cell 0, h.cell 1, h.cell 2, h.cell 3, h.cell 4, h.cell 5, h.cell 6, h.cell 7⟩
theorem Bx.get_9 {w : World} {b : Nat} {x0 x1 x2 x3 x4 x5 x6 x7 x8 : Value} {T : TypeId} (h : Bx w b #[x0, x1, x2, x3, x4, x5, x6, x7, x8] T) : w.cell? ⟨b, 0, none⟩ = some x0 ∧ w.cell? ⟨b, 1, none⟩ = some x1 ∧ w.cell? ⟨b, 2, none⟩ = some x2 ∧ w.cell? ⟨b, 3, none⟩ = some x3 ∧ w.cell? ⟨b, 4, none⟩ = some x4 ∧ w.cell? ⟨b, 5, none⟩ = some x5 ∧ w.cell? ⟨b, 6, none⟩ = some x6 ∧ w.cell? ⟨b, 7, none⟩ = some x7 ∧ w.cell? ⟨b, 8, none⟩ = some x8 :=
  ⟨h.cell 0, h.cell 1, h.cell 2, h.cell 3, h.cell 4, h.cell 5, h.cell 6, h.cell 7, h.cell 8⟩
theorem set_2 {B b : Nat} {W w : World} (h : Below B W w) (hb : B ≤ b) (u0 u1 : Value) : Below B W ((w.setCell ⟨b, 0, none⟩ u0).setCell ⟨b, 1, none⟩ u1) := ((h.setCell hb _).setCell hb _)
theorem set_6 {B b : Nat} {W w : World} (h : Below B W w) (hb : B ≤ b) (u0 u1 u2 u3 u4 u5 : Value) : Below B W ((((((w.setCell ⟨b, 0, none⟩ u0).setCell ⟨b, 1, none⟩ u1).setCell ⟨b, 2, none⟩ u2).setCell ⟨b, 3, none⟩ u3).setCell ⟨b, 4, none⟩ u4).setCell ⟨b, 5, none⟩ u5) := ((((((h.setCell hb _).setCell hb _).setCell hb _).setCell hb _).setCell hb _).setCell hb _)
theorem set_8 {B b : Nat} {W w : World} (h : Below B W w) (hb : B ≤ b) (u0 u1 u2 u3 u4 u5 u6 u7 : Value) : Below B W ((((((((w.setCell ⟨b, 0, none⟩ u0).setCell ⟨b, 1, none⟩ u1).setCell ⟨b, 2, none⟩ u2).setCell ⟨b, 3, none⟩ u3).setCell ⟨b, 4, none⟩ u4).setCell ⟨b, 5, none⟩ u5).setCell ⟨b, 6, none⟩ u6).setCell ⟨b, 7, none⟩ u7) := ((((((((h.setCell hb _).setCell hb _).setCell hb _).setCell hb _).setCell hb _).setCell hb _).setCell hb _).setCell hb _)
theorem set_9 {B b : Nat} {W w : World} (h : Below B W w) (hb : B ≤ b) (u0 u1 u2 u3 u4 u5 u6 u7 u8 : Value) : Below B W (((((((((w.setCell ⟨b, 0, none⟩ u0).setCell ⟨b, 1, none⟩ u1).setCell ⟨b, 2, none⟩ u2).setCell ⟨b, 3, none⟩ u3).setCell ⟨b, 4, none⟩ u4).setCell ⟨b, 5, none⟩ u5).setCell ⟨b, 6, none⟩ u6).setCell ⟨b, 7, none⟩ u7).setCell ⟨b, 8, none⟩ u8) := (((((((((h.setCell hb _).setCell hb _).setCell hb _).setCell hb _).setCell hb _).setCell hb _).setCell hb _).setCell hb _).setCell hb _)
theorem own_set_2 {w : World} {b base e sz n : Nat} {v : Value} {xs : List Value} (h : w.ownsRow base e sz v n xs) (hb : b < base) (u0 u1 : Value) : ((w.setCell ⟨b, 0, none⟩ u0).setCell ⟨b, 1, none⟩ u1).ownsRow base e sz v n xs := (ownsRow_setCell_below (ownsRow_setCell_below h hb _) hb _)
theorem Bx.set_6 {w : World} {b : Nat} {T : TypeId} {x0 x1 x2 x3 x4 x5 : Value} (h : Bx w b #[x0, x1, x2, x3, x4, x5] T) (u0 u1 u2 u3 u4 u5 : Value) : Bx ((((((w.setCell ⟨b, 0, none⟩ u0).setCell ⟨b, 1, none⟩ u1).setCell ⟨b, 2, none⟩ u2).setCell ⟨b, 3, none⟩ u3).setCell ⟨b, 4, none⟩ u4).setCell ⟨b, 5, none⟩ u5) b #[u0, u1, u2, u3, u4, u5] T := by
  have := ((((((h.set 0 u0).set 1 u1).set 2 u2).set 3 u3).set 4 u4).set 5 u5)
  simpa using this
theorem own_set_6 {w : World} {b base e sz n : Nat} {v : Value} {xs : List Value} (h : w.ownsRow base e sz v n xs) (hb : b < base) (u0 u1 u2 u3 u4 u5 : Value) : ((((((w.setCell ⟨b, 0, none⟩ u0).setCell ⟨b, 1, none⟩ u1).setCell ⟨b, 2, none⟩ u2).setCell ⟨b, 3, none⟩ u3).setCell ⟨b, 4, none⟩ u4).setCell ⟨b, 5, none⟩ u5).ownsRow base e sz v n xs := (ownsRow_setCell_below (ownsRow_setCell_below (ownsRow_setCell_below (ownsRow_setCell_below (ownsRow_setCell_below (ownsRow_setCell_below h hb _) hb _) hb _) hb _) hb _) hb _)
theorem Bx.set_8 {w : World} {b : Nat} {T : TypeId} {x0 x1 x2 x3 x4 x5 x6 x7 : Value} (h : Bx w b #[x0, x1, x2, x3, x4, x5, x6, x7] T) (u0 u1 u2 u3 u4 u5 u6 u7 : Value) : Bx ((((((((w.setCell ⟨b, 0, none⟩ u0).setCell ⟨b, 1, none⟩ u1).setCell ⟨b, 2, none⟩ u2).setCell ⟨b, 3, none⟩ u3).setCell ⟨b, 4, none⟩ u4).setCell ⟨b, 5, none⟩ u5).setCell ⟨b, 6, none⟩ u6).setCell ⟨b, 7, none⟩ u7) b #[u0, u1, u2, u3, u4, u5, u6, u7] T := by
  have := ((((((((h.set 0 u0).set 1 u1).set 2 u2).set 3 u3).set 4 u4).set 5 u5).set 6 u6).set 7 u7)
  simpa using this
theorem own_set_8 {w : World} {b base e sz n : Nat} {v : Value} {xs : List Value} (h : w.ownsRow base e sz v n xs) (hb : b < base) (u0 u1 u2 u3 u4 u5 u6 u7 : Value) : ((((((((w.setCell ⟨b, 0, none⟩ u0).setCell ⟨b, 1, none⟩ u1).setCell ⟨b, 2, none⟩ u2).setCell ⟨b, 3, none⟩ u3).setCell ⟨b, 4, none⟩ u4).setCell ⟨b, 5, none⟩ u5).setCell ⟨b, 6, none⟩ u6).setCell ⟨b, 7, none⟩ u7).ownsRow base e sz v n xs := (ownsRow_setCell_below (ownsRow_setCell_below (ownsRow_setCell_below (ownsRow_setCell_below (ownsRow_setCell_below (ownsRow_setCell_below (ownsRow_setCell_below (ownsRow_setCell_below h hb _) hb _) hb _) hb _) hb _) hb _) hb _) hb _)
theorem Bx.set_9 {w : World} {b : Nat} {T : TypeId} {x0 x1 x2 x3 x4 x5 x6 x7 x8 : Value} (h : Bx w b #[x0, x1, x2, x3, x4, x5, x6, x7, x8] T) (u0 u1 u2 u3 u4 u5 u6 u7 u8 : Value) : Bx (((((((((w.setCell ⟨b, 0, none⟩ u0).setCell ⟨b, 1, none⟩ u1).setCell ⟨b, 2, none⟩ u2).setCell ⟨b, 3, none⟩ u3).setCell ⟨b, 4, none⟩ u4).setCell ⟨b, 5, none⟩ u5).setCell ⟨b, 6, none⟩ u6).setCell ⟨b, 7, none⟩ u7).setCell ⟨b, 8, none⟩ u8) b #[u0, u1, u2, u3, u4, u5, u6, u7, u8] T := by
  have := (((((((((h.set 0 u0).set 1 u1).set 2 u2).set 3 u3).set 4 u4).set 5 u5).set 6 u6).set 7 u7).set 8 u8)
  simpa using this
theorem own_set_9 {w : World} {b base e sz n : Nat} {v : Value} {xs : List Value} (h : w.ownsRow base e sz v n xs) (hb : b < base) (u0 u1 u2 u3 u4 u5 u6 u7 u8 : Value) : (((((((((w.setCell ⟨b, 0, none⟩ u0).setCell ⟨b, 1, none⟩ u1).setCell ⟨b, 2, none⟩ u2).setCell ⟨b, 3, none⟩ u3).setCell ⟨b, 4, none⟩ u4).setCell ⟨b, 5, none⟩ u5).setCell ⟨b, 6, none⟩ u6).setCell ⟨b, 7, none⟩ u7).setCell ⟨b, 8, none⟩ u8).ownsRow base e sz v n xs := (ownsRow_setCell_below (ownsRow_setCell_below (ownsRow_setCell_below (ownsRow_setCell_below (ownsRow_setCell_below (ownsRow_setCell_below (ownsRow_setCell_below (ownsRow_setCell_below (ownsRow_setCell_below h hb _) hb _) hb _) hb _) hb _) hb _) hb _) hb _) hb _)
def BareE (w : World) (k n : Int) (tx nm ty : ByteArray) (l : List Nd) (e : Ending) (w' : World) : Prop :=
  ∃ v', e = .returned (.agg #[.int .i64 k, .int .i32 n, .string tx, .string nm, .string ty, v', .string ⟨#[]⟩, .int .i64 0]) ∧ w'.ownsRow w.heap.size 41 8 v' l.length (l.flatMap cellsN) ∧ Below w.heap.size w w'
set_option maxRecDepth 100000 in
set_option maxHeartbeats 4000000 in
theorem bareExpr_any (w : World) (k n : Int) (tx nm ty : ByteArray) (v : Value) (l : List Nd) (own : ByteArray) (nth : Int) (h1 : tx.size ≤ 281474976710656) (h2 : nm.size ≤ 281474976710656) (h3 : ty.size ≤ 281474976710656) (hr : Rw w .ex v l) (hk : KdL w l) (hs : l.length ≤ 1000000) :
    Calls Try.prog 34 #[.agg #[.int .i64 k, .int .i32 n, .string tx, .string nm, .string ty, v, .string own, .int .i64 nth]] w (BareE w k n tx nm ty l) := by
  have HC : Hid (∀ (s : ByteArray) (w1 : World), s.size ≤ 281474976710656 → Calls Try.prog 37 #[.string s] w1 fun e w' => e = .returned (.string s) ∧ Below w1.heap.size w1 w') := fun s w1 h => clone_any s w1 h
  go_enter Try.func34, Try.ntmps34
  go_wp2_with fail
  have hx1 : Bx ((w.alloc (.cells #[.int .i64 k, .int .i32 n, .string tx, .string nm, .string ty, v, .string own, .int .i64 nth] 41)).alloc (.cells #[.int .i64 0, .int .i32 0, .string ⟨#[]⟩, .string ⟨#[]⟩, .string ⟨#[]⟩, .slice none 0 0, .string ⟨#[]⟩, .int .i64 0] 41)) w.heap.size #[.int .i64 k, .int .i32 n, .string tx, .string nm, .string ty, v, .string own, .int .i64 nth] 41 := (Bx.new _ _ _).next ((Below.refl _ _).alloc (Nat.le_refl _) _)
  have hx2 : Bx ((w.alloc (.cells #[.int .i64 k, .int .i32 n, .string tx, .string nm, .string ty, v, .string own, .int .i64 nth] 41)).alloc (.cells #[.int .i64 0, .int .i32 0, .string ⟨#[]⟩, .string ⟨#[]⟩, .string ⟨#[]⟩, .slice none 0 0, .string ⟨#[]⟩, .int .i64 0] 41)) (w.heap.size + 1) #[.int .i64 0, .int .i32 0, .string ⟨#[]⟩, .string ⟨#[]⟩, .string ⟨#[]⟩, .slice none 0 0, .string ⟨#[]⟩, .int .i64 0] 41 := by simpa using Bx.new (w.alloc (.cells #[.int .i64 k, .int .i32 n, .string tx, .string nm, .string ty, v, .string own, .int .i64 nth] 41)) _ _
  have hw : Below w.heap.size w ((w.alloc (.cells #[.int .i64 k, .int .i32 n, .string tx, .string nm, .string ty, v, .string own, .int .i64 nth] 41)).alloc (.cells #[.int .i64 0, .int .i32 0, .string ⟨#[]⟩, .string ⟨#[]⟩, .string ⟨#[]⟩, .slice none 0 0, .string ⟨#[]⟩, .int .i64 0] 41)) := ((Below.refl _ w).alloc (Nat.le_refl _) _).alloc (by simp) _
  generalize (w.alloc (.cells #[.int .i64 k, .int .i32 n, .string tx, .string nm, .string ty, v, .string own, .int .i64 nth] 41)).alloc (.cells #[.int .i64 0, .int .i32 0, .string ⟨#[]⟩, .string ⟨#[]⟩, .string ⟨#[]⟩, .slice none 0 0, .string ⟨#[]⟩, .int .i64 0] 41) = W1 at hx1 hx2 hw ⊢
  have hl1 := hx1.lt
  have hl2 := hx2.lt
  have HS : Hid (∀ w', Below (w.heap.size + 1) W1 w' → w'.cell? ⟨w.heap.size, 0, none⟩ = some (.int .i64 k) ∧ w'.cell? ⟨w.heap.size, 1, none⟩ = some (.int .i32 n) ∧ w'.cell? ⟨w.heap.size, 2, none⟩ = some (.string tx) ∧ w'.cell? ⟨w.heap.size, 3, none⟩ = some (.string nm) ∧ w'.cell? ⟨w.heap.size, 4, none⟩ = some (.string ty) ∧ w'.cell? ⟨w.heap.size, 5, none⟩ = some v) := by
    show ∀ w', _
    intro w' hb
    obtain ⟨c0, c1, c2, c3, c4, c5, _, _⟩ := (hx1.below hb (by omega)).get_8
    exact ⟨c0, c1, c2, c3, c4, c5⟩
  have HR : Hid (∀ w', Below w.heap.size w w' → Calls Try.prog 38 #[v] w' (RenewSaid w' 41 8 l.length (l.flatMap cellsN))) := by
    show ∀ w', _
    intro w' hb
    exact renewed_ex w' v l (hr.keep (Keep.below hb)) (KdL.keep (Keep.below hb) _ hk) hs
  have HX2 := Lib.hid hx2
  have HW := Lib.hid hw
  have hle : w.heap.size + 1 ≤ W1.heap.size := by omega
  have hz : w.heap.size + 1 ≤ w.heap.size + 1 := Nat.le_refl _
  have hb0 : Below (w.heap.size + 1) W1 W1.drew := (Below.refl _ W1).drew
  have hB0 : Below W1.heap.size W1 W1.drew := (Below.refl _ W1).drew
  clear hx1 hx2 hw hr hk
  go_region_held3 (fun w' => w'.cell? ⟨w.heap.size, 0, none⟩ = some (.int .i64 k) ∧ w'.cell? ⟨w.heap.size, 1, none⟩ = some (.int .i32 n) ∧ w'.cell? ⟨w.heap.size, 2, none⟩ = some (.string tx) ∧ w'.cell? ⟨w.heap.size, 3, none⟩ = some (.string nm) ∧ w'.cell? ⟨w.heap.size, 4, none⟩ = some (.string ty) ∧ w'.cell? ⟨w.heap.size, 5, none⟩ = some v)
    (first | with_reducible exact HS.out _ hb0 | with_reducible exact HS.out _ hb1 | with_reducible exact HS.out _ hb2 | with_reducible exact HS.out _ hb3 | with_reducible exact HS.out _ hb4 | with_reducible exact HS.out _ (set_8 hb4 hz _ _ _ _ _ _ _ _))
    ((first
      | (go_at_call_of 37 (Value.string tx); refine (HC.out tx _ h1).mono ?_; rintro e w2 ⟨rfl, hc1⟩; have hB1 := hB0.trans (hc1.mono hB0.size); have hb1 := hB1.mono hle; clear hc1)
      | (go_at_call_of 37 (Value.string nm); refine (HC.out nm _ h2).mono ?_; rintro e w3 ⟨rfl, hc2⟩; have hB2 := hB1.trans (hc2.mono hB1.size); have hb2 := hB2.mono hle; clear hc2)
      | (go_at_call_of 37 (Value.string ty); refine (HC.out ty _ h3).mono ?_; rintro e w4 ⟨rfl, hc3⟩; have hB3 := hB2.trans (hc3.mono hB2.size); have hb3 := hB3.mono hle; clear hc3)
      | (go_at_call 38; refine (HR.out _ (HW.out.trans (hB3.mono HW.out.size))).mono ?_; rintro e w5 ⟨v5, rfl, ho5, hc4⟩; obtain ⟨A5, cap5, rfl, _⟩ := own_form ho5; have hB4 := hB3.trans (hc4.mono hB3.size); have hb4 := hB4.mono hle; have HO5 := Lib.hid ho5; have HS4 := Lib.hid hB3.size; have hx5 := HX2.out.below hB4 hl2; obtain ⟨r0, r1, r2, r3, r4, r5, r6, r7⟩ := hx5.get_8; have f0 := hx5.fro 0; have f1 := hx5.fro 1; have f2 := hx5.fro 2; have f3 := hx5.fro 3; have f4 := hx5.fro 4; have f5 := hx5.fro 5; have f6 := hx5.fro 6; have f7 := hx5.fro 7; have HXF := Lib.hid (hx5.set_8 (.int .i64 k) (.int .i32 n) (.string tx) (.string nm) (.string ty) (.slice A5 l.length cap5) (.string ⟨#[]⟩) (.int .i64 0)); clear hx5 ho5 hc4)))
  obtain ⟨z0, z1, z2, z3, z4, z5, z6, z7⟩ := HXF.out.get_8
  have HFO := Lib.hid (own_set_8 (b := w.heap.size + 1) HO5.out (by have := HS4.out; omega) (.int .i64 k) (.int .i32 n) (.string tx) (.string nm) (.string ty) (.slice A5 l.length cap5) (.string ⟨#[]⟩) (.int .i64 0))
  have HFB := Lib.hid (set_8 (HW.out.trans (hB4.mono HW.out.size)) (Nat.le_succ w.heap.size) (.int .i64 k) (.int .i32 n) (.string tx) (.string nm) (.string ty) (.slice A5 l.length cap5) (.string ⟨#[]⟩) (.int .i64 0))
  have hle4 : w.heap.size ≤ w4.heap.size := by have := HS4.out; omega
  go_wp2_with fail
  refine bodyPost_ret (v := .agg #[.int .i64 k, .int .i32 n, .string tx, .string nm, .string ty, .slice A5 l.length cap5, .string ⟨#[]⟩, .int .i64 0]) (by simp [results, Try.results34, go_sem, z0, z1, z2, z3, z4, z5, z6, z7]) rfl ?_
  exact ⟨_, rfl, own_mono HFO.out hle4, HFB.out⟩
end Go.Proofs.Ytlpddmncgmhkeaa
