/- Contract of tree.bareStmt. Written by wip/tools/gen_bare_c.py. -/
import Derived.Test.YtlpddmncgmhkeaaBareB
set_option linter.unusedSimpArgs false
set_option linter.unusedVariables false
namespace Go.Proofs.Ytlpddmncgmhkeaa
open Go.RowKit
/-- Four new rows, one behind the other. -/
def Four (w w' : World) (v1 v2 v3 v4 : Value) (l1 l2 l3 l4 : List Nd) : Prop :=
  ∃ B1 B2 B3, w.heap.size ≤ B1 ∧ B1 ≤ B2 ∧ B2 ≤ B3 ∧ w'.ownsRow w.heap.size 41 8 v1 l1.length (l1.flatMap cellsN) ∧ (∀ k, v1.ownBlock = some k → k < B1) ∧ w'.ownsRow B1 47 9 v2 l2.length (l2.flatMap cellsN) ∧ (∀ k, v2.ownBlock = some k → k < B2) ∧ w'.ownsRow B2 47 9 v3 l3.length (l3.flatMap cellsN) ∧ (∀ k, v3.ownBlock = some k → k < B3) ∧ w'.ownsRow B3 47 9 v4 l4.length (l4.flatMap cellsN)
def BareS (w : World) (k n : Int) (ty nm : ByteArray) (le la lb lc : List Nd) (e : Ending) (w' : World) : Prop :=
  ∃ v1 v2 v3 v4, e = .returned (.agg #[.int .i64 k, .int .i32 n, .string ty, .string nm, v1, v2, v3, v4, .int .i64 0]) ∧ Four w w' v1 v2 v3 v4 le la lb lc ∧ Below w.heap.size w w'
set_option maxRecDepth 100000 in
set_option maxHeartbeats 8000000 in
theorem bareStmt_any (w : World) (k n : Int) (ty nm : ByteArray) (ve va vb vc : Value) (le la lb lc : List Nd) (nth : Int) (h1 : ty.size ≤ 281474976710656) (h2 : nm.size ≤ 281474976710656)
    (hre : Rw w .ex ve le) (hke : KdL w le) (hse : le.length ≤ 1000000) (hra : Rw w .st va la) (hka : KdL w la) (hsa : la.length ≤ 1000000) (hrb : Rw w .st vb lb) (hkb : KdL w lb) (hsb : lb.length ≤ 1000000) (hrc : Rw w .st vc lc) (hkc : KdL w lc) (hsc : lc.length ≤ 1000000) :
    Calls Try.prog 35 #[.agg #[.int .i64 k, .int .i32 n, .string ty, .string nm, ve, va, vb, vc, .int .i64 nth]] w (BareS w k n ty nm le la lb lc) := by
  have HC : Hid (∀ (s : ByteArray) (w1 : World), s.size ≤ 281474976710656 → Calls Try.prog 37 #[.string s] w1 fun e w' => e = .returned (.string s) ∧ Below w1.heap.size w1 w') := fun s w1 h => clone_any s w1 h
  have HRE : Hid (∀ w', Below w.heap.size w w' → Calls Try.prog 38 #[ve] w' (RenewSaid w' 41 8 le.length (le.flatMap cellsN))) := fun w' hb => renewed_ex w' ve le (hre.keep (Keep.below hb)) (KdL.keep (Keep.below hb) _ hke) hse
  have HRA : Hid (∀ w', Below w.heap.size w w' → Calls Try.prog 51 #[va] w' (RenewSaid w' 47 9 la.length (la.flatMap cellsN))) := fun w' hb => renewed_st w' va la (hra.keep (Keep.below hb)) (KdL.keep (Keep.below hb) _ hka) hsa
  have HRB : Hid (∀ w', Below w.heap.size w w' → Calls Try.prog 51 #[vb] w' (RenewSaid w' 47 9 lb.length (lb.flatMap cellsN))) := fun w' hb => renewed_st w' vb lb (hrb.keep (Keep.below hb)) (KdL.keep (Keep.below hb) _ hkb) hsb
  have HRC : Hid (∀ w', Below w.heap.size w w' → Calls Try.prog 51 #[vc] w' (RenewSaid w' 47 9 lc.length (lc.flatMap cellsN))) := fun w' hb => renewed_st w' vc lc (hrc.keep (Keep.below hb)) (KdL.keep (Keep.below hb) _ hkc) hsc
  clear hre hke hse hra hka hsa hrb hkb hsb hrc hkc hsc
  go_enter Try.func35, Try.ntmps35
  go_wp2_with fail
  have hx1 : Bx ((w.alloc (.cells #[.int .i64 k, .int .i32 n, .string ty, .string nm, ve, va, vb, vc, .int .i64 nth] 47)).alloc (.cells #[.int .i64 0, .int .i32 0, .string ⟨#[]⟩, .string ⟨#[]⟩, .slice none 0 0, .slice none 0 0, .slice none 0 0, .slice none 0 0, .int .i64 0] 47)) w.heap.size #[.int .i64 k, .int .i32 n, .string ty, .string nm, ve, va, vb, vc, .int .i64 nth] 47 := (Bx.new _ _ _).next ((Below.refl _ _).alloc (Nat.le_refl _) _)
  have hx2 : Bx ((w.alloc (.cells #[.int .i64 k, .int .i32 n, .string ty, .string nm, ve, va, vb, vc, .int .i64 nth] 47)).alloc (.cells #[.int .i64 0, .int .i32 0, .string ⟨#[]⟩, .string ⟨#[]⟩, .slice none 0 0, .slice none 0 0, .slice none 0 0, .slice none 0 0, .int .i64 0] 47)) (w.heap.size + 1) #[.int .i64 0, .int .i32 0, .string ⟨#[]⟩, .string ⟨#[]⟩, .slice none 0 0, .slice none 0 0, .slice none 0 0, .slice none 0 0, .int .i64 0] 47 := by simpa using Bx.new (w.alloc (.cells #[.int .i64 k, .int .i32 n, .string ty, .string nm, ve, va, vb, vc, .int .i64 nth] 47)) _ _
  have hw : Below w.heap.size w ((w.alloc (.cells #[.int .i64 k, .int .i32 n, .string ty, .string nm, ve, va, vb, vc, .int .i64 nth] 47)).alloc (.cells #[.int .i64 0, .int .i32 0, .string ⟨#[]⟩, .string ⟨#[]⟩, .slice none 0 0, .slice none 0 0, .slice none 0 0, .slice none 0 0, .int .i64 0] 47)) := ((Below.refl _ w).alloc (Nat.le_refl _) _).alloc (by simp) _
  generalize ((w.alloc (.cells #[.int .i64 k, .int .i32 n, .string ty, .string nm, ve, va, vb, vc, .int .i64 nth] 47)).alloc (.cells #[.int .i64 0, .int .i32 0, .string ⟨#[]⟩, .string ⟨#[]⟩, .slice none 0 0, .slice none 0 0, .slice none 0 0, .slice none 0 0, .int .i64 0] 47)) = W1 at hx1 hx2 hw ⊢
  have hl1 := hx1.lt
  have hl2 := hx2.lt
  have HS : Hid (∀ w', Below (w.heap.size + 1) W1 w' → w'.cell? ⟨w.heap.size, 0, none⟩ = some (.int .i64 k) ∧ w'.cell? ⟨w.heap.size, 1, none⟩ = some (.int .i32 n) ∧ w'.cell? ⟨w.heap.size, 2, none⟩ = some (.string ty) ∧ w'.cell? ⟨w.heap.size, 3, none⟩ = some (.string nm) ∧ w'.cell? ⟨w.heap.size, 4, none⟩ = some (ve) ∧ w'.cell? ⟨w.heap.size, 5, none⟩ = some (va) ∧ w'.cell? ⟨w.heap.size, 6, none⟩ = some (vb) ∧ w'.cell? ⟨w.heap.size, 7, none⟩ = some (vc)) := by
    show ∀ w', _
    intro w' hb
    obtain ⟨c0, c1, c2, c3, c4, c5, c6, c7, _⟩ := (hx1.below hb (by omega)).get_9
    exact ⟨c0, c1, c2, c3, c4, c5, c6, c7⟩
  have HX2 := Lib.hid hx2
  have HW := Lib.hid hw
  have hle : w.heap.size + 1 ≤ W1.heap.size := by omega
  have hz : w.heap.size + 1 ≤ w.heap.size + 1 := Nat.le_refl _
  have hb0 : Below (w.heap.size + 1) W1 W1.drew := (Below.refl _ W1).drew
  have hB0 : Below W1.heap.size W1 W1.drew := (Below.refl _ W1).drew
  clear hx1 hx2 hw
  go_region_held3 (fun w' => w'.cell? ⟨w.heap.size, 0, none⟩ = some (.int .i64 k) ∧ w'.cell? ⟨w.heap.size, 1, none⟩ = some (.int .i32 n) ∧ w'.cell? ⟨w.heap.size, 2, none⟩ = some (.string ty) ∧ w'.cell? ⟨w.heap.size, 3, none⟩ = some (.string nm) ∧ w'.cell? ⟨w.heap.size, 4, none⟩ = some (ve) ∧ w'.cell? ⟨w.heap.size, 5, none⟩ = some (va) ∧ w'.cell? ⟨w.heap.size, 6, none⟩ = some (vb) ∧ w'.cell? ⟨w.heap.size, 7, none⟩ = some (vc))
    (first | with_reducible exact HS.out _ hb0 | with_reducible exact HS.out _ hb1 | with_reducible exact HS.out _ hb2 | with_reducible exact HS.out _ hb3 | with_reducible exact HS.out _ hb4 | with_reducible exact HS.out _ hb5 | with_reducible exact HS.out _ hb6 | with_reducible exact HS.out _ (set_9 hb6 hz _ _ _ _ _ _ _ _ _))
    ((first
      | (go_at_call_of 37 (Value.string ty); refine (HC.out ty _ h1).mono ?_; rintro e w2 ⟨rfl, hc1⟩; have hB1 := hB0.trans (hc1.mono hB0.size); have hb1 := hB1.mono hle; clear hc1)
      | (go_at_call_of 37 (Value.string nm); refine (HC.out nm _ h2).mono ?_; rintro e w3 ⟨rfl, hc2⟩; have hB2 := hB1.trans (hc2.mono hB1.size); have hb2 := hB2.mono hle; clear hc2)
      | (go_at_call 38; refine (HRE.out _ (HW.out.trans (hB2.mono HW.out.size))).mono ?_; rintro e w4 ⟨v4, rfl, ho4, hc3⟩; obtain ⟨Ae, ce, rfl, _⟩ := own_form ho4; have hB3 := hB2.trans (hc3.mono hB2.size); have hb3 := hB3.mono hle; have HO1 := Lib.hid ho4; have HL1 := Lib.hid ho4.lt; have HS1 := Lib.hid hB2.size; have HSX := Lib.hid hc3.size; clear ho4 hc3)
      | (go_at_call_of 51 va; refine (HRA.out _ (HW.out.trans (hB3.mono HW.out.size))).mono ?_; rintro e w5 ⟨v5, rfl, ho5, hc4⟩; obtain ⟨Aa, ca, rfl, _⟩ := own_form ho5; have hB4 := hB3.trans (hc4.mono hB3.size); have hb4 := hB4.mono hle; have HO2 := Lib.hid ho5; have HL2 := Lib.hid ho5.lt; have HO1b := Lib.hid (own_next HO1.out hc4); have HS2 := Lib.hid hc4.size; clear ho5 hc4)
      | (go_at_call_of 51 vb; refine (HRB.out _ (HW.out.trans (hB4.mono HW.out.size))).mono ?_; rintro e w6 ⟨v6, rfl, ho6, hc5⟩; obtain ⟨Ab, cb, rfl, _⟩ := own_form ho6; have hB5 := hB4.trans (hc5.mono hB4.size); have hb5 := hB5.mono hle; have HO3 := Lib.hid ho6; have HL3 := Lib.hid ho6.lt; have HO1c := Lib.hid (own_next HO1b.out hc5); have HO2b := Lib.hid (own_next HO2.out hc5); have HS3 := Lib.hid hc5.size; clear ho6 hc5)
      | (go_at_call_of 51 vc; refine (HRC.out _ (HW.out.trans (hB5.mono HW.out.size))).mono ?_; rintro e w7 ⟨v7, rfl, ho7, hc6⟩; obtain ⟨Ac, cc, rfl, _⟩ := own_form ho7; have hB6 := hB5.trans (hc6.mono hB5.size); have hb6 := hB6.mono hle; have HO4 := Lib.hid ho7; have HO1d := Lib.hid (own_next HO1c.out hc6); have HO2c := Lib.hid (own_next HO2b.out hc6); have HO3b := Lib.hid (own_next HO3.out hc6); have HS5 := Lib.hid hc6.size; have hx5 := HX2.out.below hB6 hl2; obtain ⟨r0, r1, r2, r3, r4, r5, r6, r7, r8⟩ := hx5.get_9; have f0 := hx5.fro 0; have f1 := hx5.fro 1; have f2 := hx5.fro 2; have f3 := hx5.fro 3; have f4 := hx5.fro 4; have f5 := hx5.fro 5; have f6 := hx5.fro 6; have f7 := hx5.fro 7; have f8 := hx5.fro 8; have HXF := Lib.hid (hx5.set_9 (.int .i64 k) (.int .i32 n) (.string ty) (.string nm) (.slice Ae le.length ce) (.slice Aa la.length ca) (.slice Ab lb.length cb) (.slice Ac lc.length cc) (.int .i64 0)); clear hx5 ho7 hc6)))
  obtain ⟨z0, z1, z2, z3, z4, z5, z6, z7, z8⟩ := HXF.out.get_9
  have HFB := Lib.hid (set_9 (HW.out.trans (hB6.mono HW.out.size)) (Nat.le_succ w.heap.size) (.int .i64 k) (.int .i32 n) (.string ty) (.string nm) (.slice Ae le.length ce) (.slice Aa la.length ca) (.slice Ab lb.length cb) (.slice Ac lc.length cc) (.int .i64 0))
  have hq1 : w.heap.size + 1 < w3.heap.size := by have := HS1.out; omega
  have hq2 : w3.heap.size ≤ w4.heap.size := HSX.out
  have HF1 := Lib.hid (own_set_9 (b := w.heap.size + 1) HO1d.out hq1 (.int .i64 k) (.int .i32 n) (.string ty) (.string nm) (.slice Ae le.length ce) (.slice Aa la.length ca) (.slice Ab lb.length cb) (.slice Ac lc.length cc) (.int .i64 0))
  have HF2 := Lib.hid (own_set_9 (b := w.heap.size + 1) HO2c.out (by omega) (.int .i64 k) (.int .i32 n) (.string ty) (.string nm) (.slice Ae le.length ce) (.slice Aa la.length ca) (.slice Ab lb.length cb) (.slice Ac lc.length cc) (.int .i64 0))
  have HF3 := Lib.hid (own_set_9 (b := w.heap.size + 1) HO3b.out (by have := HS2.out; omega) (.int .i64 k) (.int .i32 n) (.string ty) (.string nm) (.slice Ae le.length ce) (.slice Aa la.length ca) (.slice Ab lb.length cb) (.slice Ac lc.length cc) (.int .i64 0))
  have HF4 := Lib.hid (own_set_9 (b := w.heap.size + 1) HO4.out (by have := HS2.out; have := HS3.out; omega) (.int .i64 k) (.int .i32 n) (.string ty) (.string nm) (.slice Ae le.length ce) (.slice Aa la.length ca) (.slice Ab lb.length cb) (.slice Ac lc.length cc) (.int .i64 0))
  have hq3 : w.heap.size ≤ w3.heap.size := by omega
  have hq4 : w.heap.size ≤ w4.heap.size := by omega
  go_wp2_with fail
  refine bodyPost_ret (v := .agg #[.int .i64 k, .int .i32 n, .string ty, .string nm, .slice Ae le.length ce, .slice Aa la.length ca, .slice Ab lb.length cb, .slice Ac lc.length cc, .int .i64 0]) (by simp [results, Try.results35, go_sem, z0, z1, z2, z3, z4, z5, z6, z7, z8]) rfl ?_
  exact ⟨_, _, _, _, rfl, ⟨w4.heap.size, w5.heap.size, w6.heap.size, hq4, HS2.out, HS3.out, own_mono HF1.out hq3, fun k hk => (HL1.out k hk).2, HF2.out, fun k hk => (HL2.out k hk).2, HF3.out, fun k hk => (HL3.out k hk).2, HF4.out⟩, HFB.out⟩
end Go.Proofs.Ytlpddmncgmhkeaa
