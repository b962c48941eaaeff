/- TreeDeep's walk with expressions. -/
import Derived.Test.YtnphimechniplaaDeepCs
set_option linter.unusedSimpArgs false
set_option linter.unusedVariables false
namespace Go.Proofs.Ytnphimechniplaa
open Go.RowKit
set_option maxRecDepth 100000 in
set_option maxHeartbeats 4000000 in
theorem deep_exprs (w : World) (n : Int) : Calls Try.prog 5 #[.int .i64 n, .bool false] w fun e w' => e = .returned (.bool true) ∧ Below w.heap.size w w' := by
  obtain ⟨x, i, a1, a2, a3, a4, a5, a6⟩ := which n 5 (by omega) (by omega)
  have e1 : x.tmod 5 = (i : Int) := by simpa using a2
  have hi0 : (0 : Int) ≤ (i : Int) := by omega
  have hi4 : (i : Int) ≤ 4 := by omega
  clear a2 a4 a5 a6
  go_enter Try.func5, Try.ntmps5
  go_wp2_with fail
  clear a1 e1
  refine gen_world (fun W => DE w W dTrue 1) ?_ ?_
  · refine ⟨((((Below.refl _ w).alloc (Nat.le_refl _) _).alloc (by simp) _).alloc (by simp <;> omega) _), Bx.at_new (by simp), (Bx.at_new (by simp)).up _, kdx_true _ _, rfl, deep_true, by simp [dTrue, Nd.size, sizeL]⟩
  · intro W hD
    have HD := Lib.hid hD
    clear hD
    simp only [Nat.add_assoc, Nat.reduceAdd]
    go_loopw [8] (fun v8 wr => ∃ (j : Nat) (nd : Nd), v8 = .int .i64 j ∧ 1 ≤ j ∧ j ≤ 38 + i ∧ DE w wr nd j) (fun v8 wr => 38 + i - (intOf v8).toNat)
    case atStart => exact ⟨1, _, rfl, Nat.le_refl _, by omega, HD.out⟩
    case round =>
      obtain ⟨j, nd, rfl, hj1, hj2, hE⟩ := hrel
      clear HD
      have HE := Lib.hid hE
      have htag := hE.tag
      clear hE
      cases nd <;> first | (simp [Nd.tag] at htag; done) | skip
      rename_i sk sn stx snm sty sv sl sown snth
      clear htag
      have hkd := HE.out.kd.kd; rw [Kd] at hkd
      obtain ⟨Ae, ce, rfl⟩ := hkd.2.1.form
      clear hkd
      obtain ⟨z0, z1, z2, z3, z4, z5, z6, z7, z8⟩ := HE.out.s.get_9
      obtain ⟨y0, y1, y2, y3, y4, y5, y6, y7⟩ := Bx.get_8 (show Bx wr (w.heap.size + 1) #[.int .i64 sk, .int .i32 sn, .string stx, .string snm, .string sty, .slice Ae sl.length ce, .string sown, .int .i64 snth] 24 by simpa [cellsN] using HE.out.r)
      have f0 := HE.out.r.fro 0; have f1 := HE.out.r.fro 1; have f2 := HE.out.r.fro 2; have f3 := HE.out.r.fro 3; have f4 := HE.out.r.fro 4; have f5 := HE.out.r.fro 5; have f6 := HE.out.r.fro 6; have f7 := HE.out.r.fro 7
      have hsl := HE.out.s.lt
      have hr1 : wr.heap.size ≠ w.heap.size + 1 := by omega
      have hr2 : w.heap.size + 1 ≠ wr.heap.size := by omega
      by_cases hlt : j < 38 + i
      · have hlt' : (j : Int) < 38 + (i : Int) := by omega
        have x0 := keep_alloc wr (.cells #[.int .i64 sk, .int .i32 sn, .string stx, .string snm, .string sty, .slice Ae sl.length ce, .string sown, .int .i64 snth] 24) _ _ y0
        have x1 := keep_alloc wr (.cells #[.int .i64 sk, .int .i32 sn, .string stx, .string snm, .string sty, .slice Ae sl.length ce, .string sown, .int .i64 snth] 24) _ _ y1
        have x2 := keep_alloc wr (.cells #[.int .i64 sk, .int .i32 sn, .string stx, .string snm, .string sty, .slice Ae sl.length ce, .string sown, .int .i64 snth] 24) _ _ y2
        have x3 := keep_alloc wr (.cells #[.int .i64 sk, .int .i32 sn, .string stx, .string snm, .string sty, .slice Ae sl.length ce, .string sown, .int .i64 snth] 24) _ _ y3
        have x4 := keep_alloc wr (.cells #[.int .i64 sk, .int .i32 sn, .string stx, .string snm, .string sty, .slice Ae sl.length ce, .string sown, .int .i64 snth] 24) _ _ y4
        have x5 := keep_alloc wr (.cells #[.int .i64 sk, .int .i32 sn, .string stx, .string snm, .string sty, .slice Ae sl.length ce, .string sown, .int .i64 snth] 24) _ _ y5
        have x6 := keep_alloc wr (.cells #[.int .i64 sk, .int .i32 sn, .string stx, .string snm, .string sty, .slice Ae sl.length ce, .string sown, .int .i64 snth] 24) _ _ y6
        have x7 := keep_alloc wr (.cells #[.int .i64 sk, .int .i32 sn, .string stx, .string snm, .string sty, .slice Ae sl.length ce, .string sown, .int .i64 snth] 24) _ _ y7
        have g0 : (wr.alloc (.cells #[.int .i64 sk, .int .i32 sn, .string stx, .string snm, .string sty, .slice Ae sl.length ce, .string sown, .int .i64 snth] 24)).frozen? ⟨w.heap.size + 1, 0, none⟩ = false := (World.frozen?_of_block (w := wr) (Below.heap_alloc _ _ _ (show w.heap.size + 1 < wr.heap.size by omega))).trans f0
        have g1 : (wr.alloc (.cells #[.int .i64 sk, .int .i32 sn, .string stx, .string snm, .string sty, .slice Ae sl.length ce, .string sown, .int .i64 snth] 24)).frozen? ⟨w.heap.size + 1, 1, none⟩ = false := (World.frozen?_of_block (w := wr) (Below.heap_alloc _ _ _ (show w.heap.size + 1 < wr.heap.size by omega))).trans f1
        have g2 : (wr.alloc (.cells #[.int .i64 sk, .int .i32 sn, .string stx, .string snm, .string sty, .slice Ae sl.length ce, .string sown, .int .i64 snth] 24)).frozen? ⟨w.heap.size + 1, 2, none⟩ = false := (World.frozen?_of_block (w := wr) (Below.heap_alloc _ _ _ (show w.heap.size + 1 < wr.heap.size by omega))).trans f2
        have g3 : (wr.alloc (.cells #[.int .i64 sk, .int .i32 sn, .string stx, .string snm, .string sty, .slice Ae sl.length ce, .string sown, .int .i64 snth] 24)).frozen? ⟨w.heap.size + 1, 3, none⟩ = false := (World.frozen?_of_block (w := wr) (Below.heap_alloc _ _ _ (show w.heap.size + 1 < wr.heap.size by omega))).trans f3
        have g4 : (wr.alloc (.cells #[.int .i64 sk, .int .i32 sn, .string stx, .string snm, .string sty, .slice Ae sl.length ce, .string sown, .int .i64 snth] 24)).frozen? ⟨w.heap.size + 1, 4, none⟩ = false := (World.frozen?_of_block (w := wr) (Below.heap_alloc _ _ _ (show w.heap.size + 1 < wr.heap.size by omega))).trans f4
        have g5 : (wr.alloc (.cells #[.int .i64 sk, .int .i32 sn, .string stx, .string snm, .string sty, .slice Ae sl.length ce, .string sown, .int .i64 snth] 24)).frozen? ⟨w.heap.size + 1, 5, none⟩ = false := (World.frozen?_of_block (w := wr) (Below.heap_alloc _ _ _ (show w.heap.size + 1 < wr.heap.size by omega))).trans f5
        have g6 : (wr.alloc (.cells #[.int .i64 sk, .int .i32 sn, .string stx, .string snm, .string sty, .slice Ae sl.length ce, .string sown, .int .i64 snth] 24)).frozen? ⟨w.heap.size + 1, 6, none⟩ = false := (World.frozen?_of_block (w := wr) (Below.heap_alloc _ _ _ (show w.heap.size + 1 < wr.heap.size by omega))).trans f6
        have g7 : (wr.alloc (.cells #[.int .i64 sk, .int .i32 sn, .string stx, .string snm, .string sty, .slice Ae sl.length ce, .string sown, .int .i64 snth] 24)).frozen? ⟨w.heap.size + 1, 7, none⟩ = false := (World.frozen?_of_block (w := wr) (Below.heap_alloc _ _ _ (show w.heap.size + 1 < wr.heap.size by omega))).trans f7
        go_wp2_with fail
        go_region
        all_goals go_wp2_with fail
        have hN := HE.out.step _ rfl (deep_not HE.out.deep rfl)
        exact ⟨⟨j + 1, _, by go_num, by omega, by omega, hN⟩, by simp [intOf]; omega⟩
      · have hlt' : 38 + (i : Int) ≤ j := by omega
        have hji : j = 38 + i := by omega
        have HT : Hid (∀ w', Calls Try.prog 9 #[] w' fun e w'' => e = .returned (.bool true) ∧ Below w'.heap.size w' w'') := told_any
        have HM : Hid (∀ w', Below (((wr.alloc (.cells (cellsN (dPrint (w.heap.size + 1) (.ex sk sn stx snm sty (.slice Ae sl.length ce) sl sown snth))).toArray 51)).alloc (.cells (cellsN (dMeth wr.heap.size (dPrint (w.heap.size + 1) (.ex sk sn stx snm sty (.slice Ae sl.length ce) sl sown snth)))).toArray 48)).alloc (.cells (cellsN (dCls (wr.heap.size + 1) (dMeth wr.heap.size (dPrint (w.heap.size + 1) (.ex sk sn stx snm sty (.slice Ae sl.length ce) sl sown snth))))).toArray 44)).heap.size (((wr.alloc (.cells (cellsN (dPrint (w.heap.size + 1) (.ex sk sn stx snm sty (.slice Ae sl.length ce) sl sown snth))).toArray 51)).alloc (.cells (cellsN (dMeth wr.heap.size (dPrint (w.heap.size + 1) (.ex sk sn stx snm sty (.slice Ae sl.length ce) sl sown snth)))).toArray 48)).alloc (.cells (cellsN (dCls (wr.heap.size + 1) (dMeth wr.heap.size (dPrint (w.heap.size + 1) (.ex sk sn stx snm sty (.slice Ae sl.length ce) sl sown snth))))).toArray 44)) w' → Calls Try.prog 24 #[.agg #[.slice (some ⟨wr.heap.size + 2, 0, none⟩) 1 1]] w' fun e w'' => e = .returned (.bool (decide (j ≤ 40))) ∧ Below w'.heap.size w' w'') := by
          show ∀ w', _
          intro w' hb
          have hkp : Kd wr (dPrint (w.heap.size + 1) (.ex sk sn stx snm sty (.slice Ae sl.length ce) sl sown snth)) := by
            unfold dPrint; rw [Kd]
            exact ⟨⟨sz_le (by decide), sz_le (by decide)⟩, ⟨rw_bx' HE.out.r (by simp) rfl, HE.out.kd.kd, trivial⟩, ⟨Rw.empty _ _ _ _, trivial⟩, ⟨Rw.empty _ _ _ _, trivial⟩, Rw.empty _ _ _ _, trivial⟩
          obtain ⟨p1, p2⟩ := deep_prog hkp rfl rfl hb
          exact may_any w' _ _ p1 p2 (by rw [deep_size]; have := HE.out.size; simp [dPrint, Nd.size, sizeL] at this ⊢; omega) _ (deep_may (deep_print HE.out.deep rfl (by omega)) rfl (by simp [dPrint, Nd.kind]) (by have := HE.out.size; simp [dPrint, Nd.size, sizeL] at this ⊢; omega))
        have HB := Lib.hid HE.out.bel
        obtain ⟨q, hq⟩ : ∃ q, decide (j ≤ 40) = q := ⟨_, rfl⟩
        rw [hq] at HM
        have hq2 : decide (38 + (i : Int) ≤ 40) = q := by rw [← hq]; simp only [decide_eq_decide]; omega
        clear hq hji
        go_wp2_with fail
        refine (HT.out _).mono ?_
        clear HT
        rintro e w2 ⟨rfl, hb⟩
        have hbx := (Bx.new _ _ _).next hb
        have c9 : w2.cell? ⟨wr.heap.size + 1 + 1 + 1, 0, none⟩ = some (.slice (some ⟨wr.heap.size + 1 + 1, 0, none⟩) 1 1) := by
          have := hbx.cell 0
          simpa using this
        have HM2 := Lib.hid (HM.out w2 (below_box hb))
        have hbw := below_box (below_box (below_box (below_box hb)))
        have hfin := HB.out.trans (hbw.mono HB.out.size)
        have hs0 := HB.out.size
        clear HM hbx hb HE z0 z1 z2 z3 z4 z5 z6 z7 z8 f0 f1 f2 f3 f4 f5 f6 f7 y0 y1 y2 y3 y4 y5 y6 y7
        go_wp2_with fail
        refine HM2.out.mono ?_
        clear HM2
        rintro e w3 ⟨rfl, hb3⟩
        have hfin3 := hfin.trans (hb3.mono hfin.size)
        go_wp2_with fail
        go_ret
        exact ⟨ret_bool (by cases q <;> rfl), hfin3⟩
end Go.Proofs.Ytnphimechniplaa
