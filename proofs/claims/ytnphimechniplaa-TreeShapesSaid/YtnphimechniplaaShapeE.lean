/- TreeShapes, at some kinds. Written by wip/tools/gen_shape.py. -/
import Derived.Test.YtnphimechniplaaShapeA
set_option linter.unusedSimpArgs false
set_option linter.unusedVariables false
namespace Go.Proofs.Ytnphimechniplaa
open Go.RowKit
theorem sfit_9_0 : fitE 10 0 ⟨#[]⟩ ⟨#[110]⟩ ⟨#[]⟩ 2 = true := by decide +kernel
set_option maxRecDepth 100000 in
set_option maxHeartbeats 4000000 in
theorem shape_9_0 (w : World) (a0 a1 x y : Int) (h1 : IntKind.u64.wrap a0 = x) (h2 : x.tmod 18 = 9) (h3 : IntKind.u64.wrap a1 = y) (h4 : y.tmod 3 = 0) :
    Calls Try.prog 6 #[.int .i64 a0, .int .i64 a1] w fun e w' => e = .returned (.bool true) ∧ Below w.heap.size w w' := by
  obtain ⟨i0, hi, hz0, hz1, hz2⟩ := info_parts Try.infoOfExpr
  go_enter Try.func6, Try.ntmps6
  go_wp2_with fail
  clear h1 h2 h3 h4
  refine gen_world (fun W => ShR w (w.heap.size + 2) (w.heap.size + 1) 10 ⟨#[110]⟩ ⟨#[]⟩ W (.slice none 0 0) 0) (sh_start _ _ _ _ _) ?_
  intro W hD
  have HD := Lib.hid hD
  clear hD
  go_loopw [11] (fun v11 wr => ∃ (j : Nat) (v : Value), v11 = .int .i64 j ∧ j ≤ 2 ∧ ShR w (w.heap.size + 2) (w.heap.size + 1) 10 ⟨#[110]⟩ ⟨#[]⟩ wr v j) (fun v11 wr => 2 - (intOf v11).toNat)
  case atStart => exact ⟨0, _, rfl, Nat.zero_le _, HD.out⟩
  case round =>
    obtain ⟨j, v, rfl, hj, hR⟩ := hrel
    clear HD
    have HR := Lib.hid hR
    obtain ⟨e0, e1, e2, e3, e4, e5, e6, e7⟩ := hR.e.get_8
    have hel := hR.e.lt
    clear hR
    by_cases hlt : j < 2
    · have hlt' : (j : Int) < 2 := by omega
      go_wp2_with (at_builtin; refine wpList_append_own _ rfl (.tmp 96) (.tmp 98) 22 rfl (w.heap.size + 2) 24 i0 _ 8 112 Try.underlying22 hi hz0 hz1 hz2 rfl (by decide) _ _ _ rfl (HR.out.own.alloc _) ⟨wr.heap.size, 0, none⟩ 1 1 (cellsN sThis) rfl rfl ?c1 ?c2 ?c3 ?c4 ?c5 ?_)
      case c1 => exact this_cells _ _
      case c2 => exact this_one
      case c3 => unfold maxLen; simp; omega
      case c4 => omega
      case c5 => have := HR.out.hBw; simp; omega
      · intro v' w3 hown3 hgrow _
        obtain ⟨A', cap', rfl, _⟩ := own_form hown3
        obtain ⟨d5, f5⟩ := HR.out.mid (v' := .slice A' (j + 1) cap') ((Below.refl _ wr).alloc (Nat.le_refl _) _) hgrow
        have HS := Lib.hid (HR.out.step ((Below.refl _ wr).alloc (Nat.le_refl _) _) hown3 hgrow)
        clear hown3 hgrow
        go_wp2_with fail
        go_roundw
        case rel => exact ⟨j + 1, _, by go_num, by omega, HS.out⟩
        case measure => simp [intOf]; omega
    · have hlt' : 2 ≤ (j : Int) := by omega
      have hj2 : j = 2 := by omega
      subst hj2
      obtain ⟨A, cap, rfl, _⟩ := own_form HR.out.own
      have HT : Hid (∀ w', Calls Try.prog 9 #[] w' fun e w'' => e = .returned (.bool true) ∧ Below w'.heap.size w' w'') := told_any
      have hkd := HR.out.kd (by omega) (by decide) (by decide)
      have HM : Hid (∀ w', Below (((wr.alloc (.cells (cellsN (sNode 10 ⟨#[110]⟩ ⟨#[]⟩ (.slice A 2 cap) 2)).toArray 24)).alloc (.cells (cellsN (sFld wr.heap.size (sNode 10 ⟨#[110]⟩ ⟨#[]⟩ (.slice A 2 cap) 2))).toArray 55)).alloc (.cells (cellsN (sCls (wr.heap.size + 1) (sFld wr.heap.size (sNode 10 ⟨#[110]⟩ ⟨#[]⟩ (.slice A 2 cap) 2)))).toArray 44)).heap.size (((wr.alloc (.cells (cellsN (sNode 10 ⟨#[110]⟩ ⟨#[]⟩ (.slice A 2 cap) 2)).toArray 24)).alloc (.cells (cellsN (sFld wr.heap.size (sNode 10 ⟨#[110]⟩ ⟨#[]⟩ (.slice A 2 cap) 2))).toArray 55)).alloc (.cells (cellsN (sCls (wr.heap.size + 1) (sFld wr.heap.size (sNode 10 ⟨#[110]⟩ ⟨#[]⟩ (.slice A 2 cap) 2)))).toArray 44)) w' →
          (Calls Try.prog 24 #[.agg #[.slice (some ⟨wr.heap.size + 2, 0, none⟩) 1 1]] w' fun e w'' => e = .returned (.bool true) ∧ Below w'.heap.size w' w'') ∧
          (Calls Try.prog 10 #[.agg #[.int .i64 10, .int .i32 0, .string ⟨#[]⟩, .string ⟨#[110]⟩, .string ⟨#[]⟩, .slice A 2 cap, .string ⟨#[]⟩, .int .i64 0]] w' fun e w'' => e = .returned (.int .i64 3) ∧ Below w'.heap.size w' w'')) := by
        show ∀ w', _
        intro w' hb
        obtain ⟨p1, p2, p3⟩ := shape_prog hkd rfl rfl hb
        exact ⟨may_any w' _ _ p1 p2 (by rw [size_prog]; omega) _ (by rw [sh_may _ _ _ _ _ _ _ (by omega)]; exact sfit_9_0), expr_any w' _ _ _ _ _ _ _ _ _ p3 3 (size_node _ _ _ _ _) (by omega)⟩
      have HB := Lib.hid HR.out.bel
      have HE := Lib.hid HR.out.e
      clear HR hkd hi hz0 hz1 hz2
      go_wp2_with fail
      refine (HT.out _).mono ?_
      clear HT
      rintro e w2 ⟨rfl, hb⟩
      have hbx := (Bx.new _ _ _).next hb
      have c9 : w2.cell? ⟨wr.heap.size + 1 + 1 + 1, 0, none⟩ = some (.slice (some ⟨wr.heap.size + 1 + 1, 0, none⟩) 1 1) := by
        have := hbx.cell 0
        simpa using this
      have HM2 := Lib.hid (HM.out w2 (below_box hb)).1
      have hbw := below_box (below_box (below_box (below_box hb)))
      have hH := Lib.hid (below_box hb)
      clear hbx hb e0 e1 e2 e3 e4 e5 e6 e7
      go_wp2_with fail
      refine HM2.out.mono ?_
      clear HM2
      rintro e w3 ⟨rfl, hb3⟩
      have HM3 := Lib.hid (HM.out w3 (hH.out.trans (hb3.mono hH.out.size))).2
      have hbw3 := hbw.trans (hb3.mono hbw.size)
      obtain ⟨e0, e1, e2, e3, e4, e5, e6, e7⟩ := (HE.out.next hbw3).get_8
      clear HM hH HE hbw hb3
      go_wp2_with fail
      refine HM3.out.mono ?_
      clear HM3
      rintro e w4 ⟨rfl, hb4⟩
      have hfin := HB.out.trans ((hbw3.trans (hb4.mono hbw3.size)).mono HB.out.size)
      clear e0 e1 e2 e3 e4 e5 e6 e7 hbw3 hb4
      go_wp2_with fail
      go_ret
      exact ⟨rfl, hfin⟩
theorem sfit_9_1 : fitE 10 0 ⟨#[]⟩ ⟨#[110]⟩ ⟨#[]⟩ 3 = true := by decide +kernel
set_option maxRecDepth 100000 in
set_option maxHeartbeats 4000000 in
theorem shape_9_1 (w : World) (a0 a1 x y : Int) (h1 : IntKind.u64.wrap a0 = x) (h2 : x.tmod 18 = 9) (h3 : IntKind.u64.wrap a1 = y) (h4 : y.tmod 3 = 1) :
    Calls Try.prog 6 #[.int .i64 a0, .int .i64 a1] w fun e w' => e = .returned (.bool true) ∧ Below w.heap.size w w' := by
  obtain ⟨i0, hi, hz0, hz1, hz2⟩ := info_parts Try.infoOfExpr
  go_enter Try.func6, Try.ntmps6
  go_wp2_with fail
  clear h1 h2 h3 h4
  refine gen_world (fun W => ShR w (w.heap.size + 2) (w.heap.size + 1) 10 ⟨#[110]⟩ ⟨#[]⟩ W (.slice none 0 0) 0) (sh_start _ _ _ _ _) ?_
  intro W hD
  have HD := Lib.hid hD
  clear hD
  go_loopw [11] (fun v11 wr => ∃ (j : Nat) (v : Value), v11 = .int .i64 j ∧ j ≤ 3 ∧ ShR w (w.heap.size + 2) (w.heap.size + 1) 10 ⟨#[110]⟩ ⟨#[]⟩ wr v j) (fun v11 wr => 3 - (intOf v11).toNat)
  case atStart => exact ⟨0, _, rfl, Nat.zero_le _, HD.out⟩
  case round =>
    obtain ⟨j, v, rfl, hj, hR⟩ := hrel
    clear HD
    have HR := Lib.hid hR
    obtain ⟨e0, e1, e2, e3, e4, e5, e6, e7⟩ := hR.e.get_8
    have hel := hR.e.lt
    clear hR
    by_cases hlt : j < 3
    · have hlt' : (j : Int) < 3 := by omega
      go_wp2_with (at_builtin; refine wpList_append_own _ rfl (.tmp 96) (.tmp 98) 22 rfl (w.heap.size + 2) 24 i0 _ 8 112 Try.underlying22 hi hz0 hz1 hz2 rfl (by decide) _ _ _ rfl (HR.out.own.alloc _) ⟨wr.heap.size, 0, none⟩ 1 1 (cellsN sThis) rfl rfl ?c1 ?c2 ?c3 ?c4 ?c5 ?_)
      case c1 => exact this_cells _ _
      case c2 => exact this_one
      case c3 => unfold maxLen; simp; omega
      case c4 => omega
      case c5 => have := HR.out.hBw; simp; omega
      · intro v' w3 hown3 hgrow _
        obtain ⟨A', cap', rfl, _⟩ := own_form hown3
        obtain ⟨d5, f5⟩ := HR.out.mid (v' := .slice A' (j + 1) cap') ((Below.refl _ wr).alloc (Nat.le_refl _) _) hgrow
        have HS := Lib.hid (HR.out.step ((Below.refl _ wr).alloc (Nat.le_refl _) _) hown3 hgrow)
        clear hown3 hgrow
        go_wp2_with fail
        go_roundw
        case rel => exact ⟨j + 1, _, by go_num, by omega, HS.out⟩
        case measure => simp [intOf]; omega
    · have hlt' : 3 ≤ (j : Int) := by omega
      have hj2 : j = 3 := by omega
      subst hj2
      obtain ⟨A, cap, rfl, _⟩ := own_form HR.out.own
      have HT : Hid (∀ w', Calls Try.prog 9 #[] w' fun e w'' => e = .returned (.bool true) ∧ Below w'.heap.size w' w'') := told_any
      have hkd := HR.out.kd (by omega) (by decide) (by decide)
      have HM : Hid (∀ w', Below (((wr.alloc (.cells (cellsN (sNode 10 ⟨#[110]⟩ ⟨#[]⟩ (.slice A 3 cap) 3)).toArray 24)).alloc (.cells (cellsN (sFld wr.heap.size (sNode 10 ⟨#[110]⟩ ⟨#[]⟩ (.slice A 3 cap) 3))).toArray 55)).alloc (.cells (cellsN (sCls (wr.heap.size + 1) (sFld wr.heap.size (sNode 10 ⟨#[110]⟩ ⟨#[]⟩ (.slice A 3 cap) 3)))).toArray 44)).heap.size (((wr.alloc (.cells (cellsN (sNode 10 ⟨#[110]⟩ ⟨#[]⟩ (.slice A 3 cap) 3)).toArray 24)).alloc (.cells (cellsN (sFld wr.heap.size (sNode 10 ⟨#[110]⟩ ⟨#[]⟩ (.slice A 3 cap) 3))).toArray 55)).alloc (.cells (cellsN (sCls (wr.heap.size + 1) (sFld wr.heap.size (sNode 10 ⟨#[110]⟩ ⟨#[]⟩ (.slice A 3 cap) 3)))).toArray 44)) w' →
          (Calls Try.prog 24 #[.agg #[.slice (some ⟨wr.heap.size + 2, 0, none⟩) 1 1]] w' fun e w'' => e = .returned (.bool true) ∧ Below w'.heap.size w' w'') ∧
          (Calls Try.prog 10 #[.agg #[.int .i64 10, .int .i32 0, .string ⟨#[]⟩, .string ⟨#[110]⟩, .string ⟨#[]⟩, .slice A 3 cap, .string ⟨#[]⟩, .int .i64 0]] w' fun e w'' => e = .returned (.int .i64 4) ∧ Below w'.heap.size w' w'')) := by
        show ∀ w', _
        intro w' hb
        obtain ⟨p1, p2, p3⟩ := shape_prog hkd rfl rfl hb
        exact ⟨may_any w' _ _ p1 p2 (by rw [size_prog]; omega) _ (by rw [sh_may _ _ _ _ _ _ _ (by omega)]; exact sfit_9_1), expr_any w' _ _ _ _ _ _ _ _ _ p3 4 (size_node _ _ _ _ _) (by omega)⟩
      have HB := Lib.hid HR.out.bel
      have HE := Lib.hid HR.out.e
      clear HR hkd hi hz0 hz1 hz2
      go_wp2_with fail
      refine (HT.out _).mono ?_
      clear HT
      rintro e w2 ⟨rfl, hb⟩
      have hbx := (Bx.new _ _ _).next hb
      have c9 : w2.cell? ⟨wr.heap.size + 1 + 1 + 1, 0, none⟩ = some (.slice (some ⟨wr.heap.size + 1 + 1, 0, none⟩) 1 1) := by
        have := hbx.cell 0
        simpa using this
      have HM2 := Lib.hid (HM.out w2 (below_box hb)).1
      have hbw := below_box (below_box (below_box (below_box hb)))
      have hH := Lib.hid (below_box hb)
      clear hbx hb e0 e1 e2 e3 e4 e5 e6 e7
      go_wp2_with fail
      refine HM2.out.mono ?_
      clear HM2
      rintro e w3 ⟨rfl, hb3⟩
      have HM3 := Lib.hid (HM.out w3 (hH.out.trans (hb3.mono hH.out.size))).2
      have hbw3 := hbw.trans (hb3.mono hbw.size)
      obtain ⟨e0, e1, e2, e3, e4, e5, e6, e7⟩ := (HE.out.next hbw3).get_8
      clear HM hH HE hbw hb3
      go_wp2_with fail
      refine HM3.out.mono ?_
      clear HM3
      rintro e w4 ⟨rfl, hb4⟩
      have hfin := HB.out.trans ((hbw3.trans (hb4.mono hbw3.size)).mono HB.out.size)
      clear e0 e1 e2 e3 e4 e5 e6 e7 hbw3 hb4
      go_wp2_with fail
      go_ret
      exact ⟨rfl, hfin⟩
theorem sfit_9_2 : fitE 10 0 ⟨#[]⟩ ⟨#[110]⟩ ⟨#[]⟩ 1 = true := by decide +kernel
set_option maxRecDepth 100000 in
set_option maxHeartbeats 4000000 in
theorem shape_9_2 (w : World) (a0 a1 x y : Int) (h1 : IntKind.u64.wrap a0 = x) (h2 : x.tmod 18 = 9) (h3 : IntKind.u64.wrap a1 = y) (h4 : y.tmod 3 = 2) :
    Calls Try.prog 6 #[.int .i64 a0, .int .i64 a1] w fun e w' => e = .returned (.bool true) ∧ Below w.heap.size w w' := by
  obtain ⟨i0, hi, hz0, hz1, hz2⟩ := info_parts Try.infoOfExpr
  go_enter Try.func6, Try.ntmps6
  go_wp2_with fail
  clear h1 h2 h3 h4
  refine gen_world (fun W => ShR w (w.heap.size + 2) (w.heap.size + 1) 10 ⟨#[110]⟩ ⟨#[]⟩ W (.slice none 0 0) 0) (sh_start _ _ _ _ _) ?_
  intro W hD
  have HD := Lib.hid hD
  clear hD
  go_loopw [11] (fun v11 wr => ∃ (j : Nat) (v : Value), v11 = .int .i64 j ∧ j ≤ 1 ∧ ShR w (w.heap.size + 2) (w.heap.size + 1) 10 ⟨#[110]⟩ ⟨#[]⟩ wr v j) (fun v11 wr => 1 - (intOf v11).toNat)
  case atStart => exact ⟨0, _, rfl, Nat.zero_le _, HD.out⟩
  case round =>
    obtain ⟨j, v, rfl, hj, hR⟩ := hrel
    clear HD
    have HR := Lib.hid hR
    obtain ⟨e0, e1, e2, e3, e4, e5, e6, e7⟩ := hR.e.get_8
    have hel := hR.e.lt
    clear hR
    by_cases hlt : j < 1
    · have hlt' : (j : Int) < 1 := by omega
      go_wp2_with (at_builtin; refine wpList_append_own _ rfl (.tmp 96) (.tmp 98) 22 rfl (w.heap.size + 2) 24 i0 _ 8 112 Try.underlying22 hi hz0 hz1 hz2 rfl (by decide) _ _ _ rfl (HR.out.own.alloc _) ⟨wr.heap.size, 0, none⟩ 1 1 (cellsN sThis) rfl rfl ?c1 ?c2 ?c3 ?c4 ?c5 ?_)
      case c1 => exact this_cells _ _
      case c2 => exact this_one
      case c3 => unfold maxLen; simp; omega
      case c4 => omega
      case c5 => have := HR.out.hBw; simp; omega
      · intro v' w3 hown3 hgrow _
        obtain ⟨A', cap', rfl, _⟩ := own_form hown3
        obtain ⟨d5, f5⟩ := HR.out.mid (v' := .slice A' (j + 1) cap') ((Below.refl _ wr).alloc (Nat.le_refl _) _) hgrow
        have HS := Lib.hid (HR.out.step ((Below.refl _ wr).alloc (Nat.le_refl _) _) hown3 hgrow)
        clear hown3 hgrow
        go_wp2_with fail
        go_roundw
        case rel => exact ⟨j + 1, _, by go_num, by omega, HS.out⟩
        case measure => simp [intOf]; omega
    · have hlt' : 1 ≤ (j : Int) := by omega
      have hj2 : j = 1 := by omega
      subst hj2
      obtain ⟨A, cap, rfl, _⟩ := own_form HR.out.own
      have HT : Hid (∀ w', Calls Try.prog 9 #[] w' fun e w'' => e = .returned (.bool true) ∧ Below w'.heap.size w' w'') := told_any
      have hkd := HR.out.kd (by omega) (by decide) (by decide)
      have HM : Hid (∀ w', Below (((wr.alloc (.cells (cellsN (sNode 10 ⟨#[110]⟩ ⟨#[]⟩ (.slice A 1 cap) 1)).toArray 24)).alloc (.cells (cellsN (sFld wr.heap.size (sNode 10 ⟨#[110]⟩ ⟨#[]⟩ (.slice A 1 cap) 1))).toArray 55)).alloc (.cells (cellsN (sCls (wr.heap.size + 1) (sFld wr.heap.size (sNode 10 ⟨#[110]⟩ ⟨#[]⟩ (.slice A 1 cap) 1)))).toArray 44)).heap.size (((wr.alloc (.cells (cellsN (sNode 10 ⟨#[110]⟩ ⟨#[]⟩ (.slice A 1 cap) 1)).toArray 24)).alloc (.cells (cellsN (sFld wr.heap.size (sNode 10 ⟨#[110]⟩ ⟨#[]⟩ (.slice A 1 cap) 1))).toArray 55)).alloc (.cells (cellsN (sCls (wr.heap.size + 1) (sFld wr.heap.size (sNode 10 ⟨#[110]⟩ ⟨#[]⟩ (.slice A 1 cap) 1)))).toArray 44)) w' →
          (Calls Try.prog 24 #[.agg #[.slice (some ⟨wr.heap.size + 2, 0, none⟩) 1 1]] w' fun e w'' => e = .returned (.bool true) ∧ Below w'.heap.size w' w'') ∧
          (Calls Try.prog 10 #[.agg #[.int .i64 10, .int .i32 0, .string ⟨#[]⟩, .string ⟨#[110]⟩, .string ⟨#[]⟩, .slice A 1 cap, .string ⟨#[]⟩, .int .i64 0]] w' fun e w'' => e = .returned (.int .i64 2) ∧ Below w'.heap.size w' w'')) := by
        show ∀ w', _
        intro w' hb
        obtain ⟨p1, p2, p3⟩ := shape_prog hkd rfl rfl hb
        exact ⟨may_any w' _ _ p1 p2 (by rw [size_prog]; omega) _ (by rw [sh_may _ _ _ _ _ _ _ (by omega)]; exact sfit_9_2), expr_any w' _ _ _ _ _ _ _ _ _ p3 2 (size_node _ _ _ _ _) (by omega)⟩
      have HB := Lib.hid HR.out.bel
      have HE := Lib.hid HR.out.e
      clear HR hkd hi hz0 hz1 hz2
      go_wp2_with fail
      refine (HT.out _).mono ?_
      clear HT
      rintro e w2 ⟨rfl, hb⟩
      have hbx := (Bx.new _ _ _).next hb
      have c9 : w2.cell? ⟨wr.heap.size + 1 + 1 + 1, 0, none⟩ = some (.slice (some ⟨wr.heap.size + 1 + 1, 0, none⟩) 1 1) := by
        have := hbx.cell 0
        simpa using this
      have HM2 := Lib.hid (HM.out w2 (below_box hb)).1
      have hbw := below_box (below_box (below_box (below_box hb)))
      have hH := Lib.hid (below_box hb)
      clear hbx hb e0 e1 e2 e3 e4 e5 e6 e7
      go_wp2_with fail
      refine HM2.out.mono ?_
      clear HM2
      rintro e w3 ⟨rfl, hb3⟩
      have HM3 := Lib.hid (HM.out w3 (hH.out.trans (hb3.mono hH.out.size))).2
      have hbw3 := hbw.trans (hb3.mono hbw.size)
      obtain ⟨e0, e1, e2, e3, e4, e5, e6, e7⟩ := (HE.out.next hbw3).get_8
      clear HM hH HE hbw hb3
      go_wp2_with fail
      refine HM3.out.mono ?_
      clear HM3
      rintro e w4 ⟨rfl, hb4⟩
      have hfin := HB.out.trans ((hbw3.trans (hb4.mono hbw3.size)).mono HB.out.size)
      clear e0 e1 e2 e3 e4 e5 e6 e7 hbw3 hb4
      go_wp2_with fail
      go_ret
      exact ⟨rfl, hfin⟩
theorem sfit_10_0 : fitE 11 0 ⟨#[]⟩ ⟨#[110]⟩ ⟨#[]⟩ 1 = true := by decide +kernel
set_option maxRecDepth 100000 in
set_option maxHeartbeats 4000000 in
theorem shape_10_0 (w : World) (a0 a1 x y : Int) (h1 : IntKind.u64.wrap a0 = x) (h2 : x.tmod 18 = 10) (h3 : IntKind.u64.wrap a1 = y) (h4 : y.tmod 3 = 0) :
    Calls Try.prog 6 #[.int .i64 a0, .int .i64 a1] w fun e w' => e = .returned (.bool true) ∧ Below w.heap.size w w' := by
  obtain ⟨i0, hi, hz0, hz1, hz2⟩ := info_parts Try.infoOfExpr
  go_enter Try.func6, Try.ntmps6
  go_wp2_with fail
  clear h1 h2 h3 h4
  refine gen_world (fun W => ShR w (w.heap.size + 2) (w.heap.size + 1) 11 ⟨#[110]⟩ ⟨#[]⟩ W (.slice none 0 0) 0) (sh_start _ _ _ _ _) ?_
  intro W hD
  have HD := Lib.hid hD
  clear hD
  go_loopw [11] (fun v11 wr => ∃ (j : Nat) (v : Value), v11 = .int .i64 j ∧ j ≤ 1 ∧ ShR w (w.heap.size + 2) (w.heap.size + 1) 11 ⟨#[110]⟩ ⟨#[]⟩ wr v j) (fun v11 wr => 1 - (intOf v11).toNat)
  case atStart => exact ⟨0, _, rfl, Nat.zero_le _, HD.out⟩
  case round =>
    obtain ⟨j, v, rfl, hj, hR⟩ := hrel
    clear HD
    have HR := Lib.hid hR
    obtain ⟨e0, e1, e2, e3, e4, e5, e6, e7⟩ := hR.e.get_8
    have hel := hR.e.lt
    clear hR
    by_cases hlt : j < 1
    · have hlt' : (j : Int) < 1 := by omega
      go_wp2_with (at_builtin; refine wpList_append_own _ rfl (.tmp 96) (.tmp 98) 22 rfl (w.heap.size + 2) 24 i0 _ 8 112 Try.underlying22 hi hz0 hz1 hz2 rfl (by decide) _ _ _ rfl (HR.out.own.alloc _) ⟨wr.heap.size, 0, none⟩ 1 1 (cellsN sThis) rfl rfl ?c1 ?c2 ?c3 ?c4 ?c5 ?_)
      case c1 => exact this_cells _ _
      case c2 => exact this_one
      case c3 => unfold maxLen; simp; omega
      case c4 => omega
      case c5 => have := HR.out.hBw; simp; omega
      · intro v' w3 hown3 hgrow _
        obtain ⟨A', cap', rfl, _⟩ := own_form hown3
        obtain ⟨d5, f5⟩ := HR.out.mid (v' := .slice A' (j + 1) cap') ((Below.refl _ wr).alloc (Nat.le_refl _) _) hgrow
        have HS := Lib.hid (HR.out.step ((Below.refl _ wr).alloc (Nat.le_refl _) _) hown3 hgrow)
        clear hown3 hgrow
        go_wp2_with fail
        go_roundw
        case rel => exact ⟨j + 1, _, by go_num, by omega, HS.out⟩
        case measure => simp [intOf]; omega
    · have hlt' : 1 ≤ (j : Int) := by omega
      have hj2 : j = 1 := by omega
      subst hj2
      obtain ⟨A, cap, rfl, _⟩ := own_form HR.out.own
      have HT : Hid (∀ w', Calls Try.prog 9 #[] w' fun e w'' => e = .returned (.bool true) ∧ Below w'.heap.size w' w'') := told_any
      have hkd := HR.out.kd (by omega) (by decide) (by decide)
      have HM : Hid (∀ w', Below (((wr.alloc (.cells (cellsN (sNode 11 ⟨#[110]⟩ ⟨#[]⟩ (.slice A 1 cap) 1)).toArray 24)).alloc (.cells (cellsN (sFld wr.heap.size (sNode 11 ⟨#[110]⟩ ⟨#[]⟩ (.slice A 1 cap) 1))).toArray 55)).alloc (.cells (cellsN (sCls (wr.heap.size + 1) (sFld wr.heap.size (sNode 11 ⟨#[110]⟩ ⟨#[]⟩ (.slice A 1 cap) 1)))).toArray 44)).heap.size (((wr.alloc (.cells (cellsN (sNode 11 ⟨#[110]⟩ ⟨#[]⟩ (.slice A 1 cap) 1)).toArray 24)).alloc (.cells (cellsN (sFld wr.heap.size (sNode 11 ⟨#[110]⟩ ⟨#[]⟩ (.slice A 1 cap) 1))).toArray 55)).alloc (.cells (cellsN (sCls (wr.heap.size + 1) (sFld wr.heap.size (sNode 11 ⟨#[110]⟩ ⟨#[]⟩ (.slice A 1 cap) 1)))).toArray 44)) w' →
          (Calls Try.prog 24 #[.agg #[.slice (some ⟨wr.heap.size + 2, 0, none⟩) 1 1]] w' fun e w'' => e = .returned (.bool true) ∧ Below w'.heap.size w' w'') ∧
          (Calls Try.prog 10 #[.agg #[.int .i64 11, .int .i32 0, .string ⟨#[]⟩, .string ⟨#[110]⟩, .string ⟨#[]⟩, .slice A 1 cap, .string ⟨#[]⟩, .int .i64 0]] w' fun e w'' => e = .returned (.int .i64 2) ∧ Below w'.heap.size w' w'')) := by
        show ∀ w', _
        intro w' hb
        obtain ⟨p1, p2, p3⟩ := shape_prog hkd rfl rfl hb
        exact ⟨may_any w' _ _ p1 p2 (by rw [size_prog]; omega) _ (by rw [sh_may _ _ _ _ _ _ _ (by omega)]; exact sfit_10_0), expr_any w' _ _ _ _ _ _ _ _ _ p3 2 (size_node _ _ _ _ _) (by omega)⟩
      have HB := Lib.hid HR.out.bel
      have HE := Lib.hid HR.out.e
      clear HR hkd hi hz0 hz1 hz2
      go_wp2_with fail
      refine (HT.out _).mono ?_
      clear HT
      rintro e w2 ⟨rfl, hb⟩
      have hbx := (Bx.new _ _ _).next hb
      have c9 : w2.cell? ⟨wr.heap.size + 1 + 1 + 1, 0, none⟩ = some (.slice (some ⟨wr.heap.size + 1 + 1, 0, none⟩) 1 1) := by
        have := hbx.cell 0
        simpa using this
      have HM2 := Lib.hid (HM.out w2 (below_box hb)).1
      have hbw := below_box (below_box (below_box (below_box hb)))
      have hH := Lib.hid (below_box hb)
      clear hbx hb e0 e1 e2 e3 e4 e5 e6 e7
      go_wp2_with fail
      refine HM2.out.mono ?_
      clear HM2
      rintro e w3 ⟨rfl, hb3⟩
      have HM3 := Lib.hid (HM.out w3 (hH.out.trans (hb3.mono hH.out.size))).2
      have hbw3 := hbw.trans (hb3.mono hbw.size)
      obtain ⟨e0, e1, e2, e3, e4, e5, e6, e7⟩ := (HE.out.next hbw3).get_8
      clear HM hH HE hbw hb3
      go_wp2_with fail
      refine HM3.out.mono ?_
      clear HM3
      rintro e w4 ⟨rfl, hb4⟩
      have hfin := HB.out.trans ((hbw3.trans (hb4.mono hbw3.size)).mono HB.out.size)
      clear e0 e1 e2 e3 e4 e5 e6 e7 hbw3 hb4
      go_wp2_with fail
      go_ret
      exact ⟨rfl, hfin⟩
theorem sfit_10_1 : fitE 11 0 ⟨#[]⟩ ⟨#[110]⟩ ⟨#[]⟩ 2 = true := by decide +kernel
set_option maxRecDepth 100000 in
set_option maxHeartbeats 4000000 in
theorem shape_10_1 (w : World) (a0 a1 x y : Int) (h1 : IntKind.u64.wrap a0 = x) (h2 : x.tmod 18 = 10) (h3 : IntKind.u64.wrap a1 = y) (h4 : y.tmod 3 = 1) :
    Calls Try.prog 6 #[.int .i64 a0, .int .i64 a1] w fun e w' => e = .returned (.bool true) ∧ Below w.heap.size w w' := by
  obtain ⟨i0, hi, hz0, hz1, hz2⟩ := info_parts Try.infoOfExpr
  go_enter Try.func6, Try.ntmps6
  go_wp2_with fail
  clear h1 h2 h3 h4
  refine gen_world (fun W => ShR w (w.heap.size + 2) (w.heap.size + 1) 11 ⟨#[110]⟩ ⟨#[]⟩ W (.slice none 0 0) 0) (sh_start _ _ _ _ _) ?_
  intro W hD
  have HD := Lib.hid hD
  clear hD
  go_loopw [11] (fun v11 wr => ∃ (j : Nat) (v : Value), v11 = .int .i64 j ∧ j ≤ 2 ∧ ShR w (w.heap.size + 2) (w.heap.size + 1) 11 ⟨#[110]⟩ ⟨#[]⟩ wr v j) (fun v11 wr => 2 - (intOf v11).toNat)
  case atStart => exact ⟨0, _, rfl, Nat.zero_le _, HD.out⟩
  case round =>
    obtain ⟨j, v, rfl, hj, hR⟩ := hrel
    clear HD
    have HR := Lib.hid hR
    obtain ⟨e0, e1, e2, e3, e4, e5, e6, e7⟩ := hR.e.get_8
    have hel := hR.e.lt
    clear hR
    by_cases hlt : j < 2
    · have hlt' : (j : Int) < 2 := by omega
      go_wp2_with (at_builtin; refine wpList_append_own _ rfl (.tmp 96) (.tmp 98) 22 rfl (w.heap.size + 2) 24 i0 _ 8 112 Try.underlying22 hi hz0 hz1 hz2 rfl (by decide) _ _ _ rfl (HR.out.own.alloc _) ⟨wr.heap.size, 0, none⟩ 1 1 (cellsN sThis) rfl rfl ?c1 ?c2 ?c3 ?c4 ?c5 ?_)
      case c1 => exact this_cells _ _
      case c2 => exact this_one
      case c3 => unfold maxLen; simp; omega
      case c4 => omega
      case c5 => have := HR.out.hBw; simp; omega
      · intro v' w3 hown3 hgrow _
        obtain ⟨A', cap', rfl, _⟩ := own_form hown3
        obtain ⟨d5, f5⟩ := HR.out.mid (v' := .slice A' (j + 1) cap') ((Below.refl _ wr).alloc (Nat.le_refl _) _) hgrow
        have HS := Lib.hid (HR.out.step ((Below.refl _ wr).alloc (Nat.le_refl _) _) hown3 hgrow)
        clear hown3 hgrow
        go_wp2_with fail
        go_roundw
        case rel => exact ⟨j + 1, _, by go_num, by omega, HS.out⟩
        case measure => simp [intOf]; omega
    · have hlt' : 2 ≤ (j : Int) := by omega
      have hj2 : j = 2 := by omega
      subst hj2
      obtain ⟨A, cap, rfl, _⟩ := own_form HR.out.own
      have HT : Hid (∀ w', Calls Try.prog 9 #[] w' fun e w'' => e = .returned (.bool true) ∧ Below w'.heap.size w' w'') := told_any
      have hkd := HR.out.kd (by omega) (by decide) (by decide)
      have HM : Hid (∀ w', Below (((wr.alloc (.cells (cellsN (sNode 11 ⟨#[110]⟩ ⟨#[]⟩ (.slice A 2 cap) 2)).toArray 24)).alloc (.cells (cellsN (sFld wr.heap.size (sNode 11 ⟨#[110]⟩ ⟨#[]⟩ (.slice A 2 cap) 2))).toArray 55)).alloc (.cells (cellsN (sCls (wr.heap.size + 1) (sFld wr.heap.size (sNode 11 ⟨#[110]⟩ ⟨#[]⟩ (.slice A 2 cap) 2)))).toArray 44)).heap.size (((wr.alloc (.cells (cellsN (sNode 11 ⟨#[110]⟩ ⟨#[]⟩ (.slice A 2 cap) 2)).toArray 24)).alloc (.cells (cellsN (sFld wr.heap.size (sNode 11 ⟨#[110]⟩ ⟨#[]⟩ (.slice A 2 cap) 2))).toArray 55)).alloc (.cells (cellsN (sCls (wr.heap.size + 1) (sFld wr.heap.size (sNode 11 ⟨#[110]⟩ ⟨#[]⟩ (.slice A 2 cap) 2)))).toArray 44)) w' →
          (Calls Try.prog 24 #[.agg #[.slice (some ⟨wr.heap.size + 2, 0, none⟩) 1 1]] w' fun e w'' => e = .returned (.bool true) ∧ Below w'.heap.size w' w'') ∧
          (Calls Try.prog 10 #[.agg #[.int .i64 11, .int .i32 0, .string ⟨#[]⟩, .string ⟨#[110]⟩, .string ⟨#[]⟩, .slice A 2 cap, .string ⟨#[]⟩, .int .i64 0]] w' fun e w'' => e = .returned (.int .i64 3) ∧ Below w'.heap.size w' w'')) := by
        show ∀ w', _
        intro w' hb
        obtain ⟨p1, p2, p3⟩ := shape_prog hkd rfl rfl hb
        exact ⟨may_any w' _ _ p1 p2 (by rw [size_prog]; omega) _ (by rw [sh_may _ _ _ _ _ _ _ (by omega)]; exact sfit_10_1), expr_any w' _ _ _ _ _ _ _ _ _ p3 3 (size_node _ _ _ _ _) (by omega)⟩
      have HB := Lib.hid HR.out.bel
      have HE := Lib.hid HR.out.e
      clear HR hkd hi hz0 hz1 hz2
      go_wp2_with fail
      refine (HT.out _).mono ?_
      clear HT
      rintro e w2 ⟨rfl, hb⟩
      have hbx := (Bx.new _ _ _).next hb
      have c9 : w2.cell? ⟨wr.heap.size + 1 + 1 + 1, 0, none⟩ = some (.slice (some ⟨wr.heap.size + 1 + 1, 0, none⟩) 1 1) := by
        have := hbx.cell 0
        simpa using this
      have HM2 := Lib.hid (HM.out w2 (below_box hb)).1
      have hbw := below_box (below_box (below_box (below_box hb)))
      have hH := Lib.hid (below_box hb)
      clear hbx hb e0 e1 e2 e3 e4 e5 e6 e7
      go_wp2_with fail
      refine HM2.out.mono ?_
      clear HM2
      rintro e w3 ⟨rfl, hb3⟩
      have HM3 := Lib.hid (HM.out w3 (hH.out.trans (hb3.mono hH.out.size))).2
      have hbw3 := hbw.trans (hb3.mono hbw.size)
      obtain ⟨e0, e1, e2, e3, e4, e5, e6, e7⟩ := (HE.out.next hbw3).get_8
      clear HM hH HE hbw hb3
      go_wp2_with fail
      refine HM3.out.mono ?_
      clear HM3
      rintro e w4 ⟨rfl, hb4⟩
      have hfin := HB.out.trans ((hbw3.trans (hb4.mono hbw3.size)).mono HB.out.size)
      clear e0 e1 e2 e3 e4 e5 e6 e7 hbw3 hb4
      go_wp2_with fail
      go_ret
      exact ⟨rfl, hfin⟩
theorem sfit_10_2 : fitE 11 0 ⟨#[]⟩ ⟨#[110]⟩ ⟨#[]⟩ 0 = true := by decide +kernel
set_option maxRecDepth 100000 in
set_option maxHeartbeats 4000000 in
theorem shape_10_2 (w : World) (a0 a1 x y : Int) (h1 : IntKind.u64.wrap a0 = x) (h2 : x.tmod 18 = 10) (h3 : IntKind.u64.wrap a1 = y) (h4 : y.tmod 3 = 2) :
    Calls Try.prog 6 #[.int .i64 a0, .int .i64 a1] w fun e w' => e = .returned (.bool true) ∧ Below w.heap.size w w' := by
  obtain ⟨i0, hi, hz0, hz1, hz2⟩ := info_parts Try.infoOfExpr
  go_enter Try.func6, Try.ntmps6
  go_wp2_with fail
  clear h1 h2 h3 h4
  refine gen_world (fun W => ShR w (w.heap.size + 2) (w.heap.size + 1) 11 ⟨#[110]⟩ ⟨#[]⟩ W (.slice none 0 0) 0) (sh_start _ _ _ _ _) ?_
  intro W hD
  have HD := Lib.hid hD
  clear hD
  go_loopw [11] (fun v11 wr => ∃ (j : Nat) (v : Value), v11 = .int .i64 j ∧ j ≤ 0 ∧ ShR w (w.heap.size + 2) (w.heap.size + 1) 11 ⟨#[110]⟩ ⟨#[]⟩ wr v j) (fun v11 wr => 0 - (intOf v11).toNat)
  case atStart => exact ⟨0, _, rfl, Nat.zero_le _, HD.out⟩
  case round =>
    obtain ⟨j, v, rfl, hj, hR⟩ := hrel
    clear HD
    have HR := Lib.hid hR
    obtain ⟨e0, e1, e2, e3, e4, e5, e6, e7⟩ := hR.e.get_8
    have hel := hR.e.lt
    clear hR
    by_cases hlt : j < 0
    · omega
    · have hlt' : 0 ≤ (j : Int) := by omega
      have hj2 : j = 0 := by omega
      subst hj2
      obtain ⟨A, cap, rfl, _⟩ := own_form HR.out.own
      have HT : Hid (∀ w', Calls Try.prog 9 #[] w' fun e w'' => e = .returned (.bool true) ∧ Below w'.heap.size w' w'') := told_any
      have hkd := HR.out.kd (by omega) (by decide) (by decide)
      have HM : Hid (∀ w', Below (((wr.alloc (.cells (cellsN (sNode 11 ⟨#[110]⟩ ⟨#[]⟩ (.slice A 0 cap) 0)).toArray 24)).alloc (.cells (cellsN (sFld wr.heap.size (sNode 11 ⟨#[110]⟩ ⟨#[]⟩ (.slice A 0 cap) 0))).toArray 55)).alloc (.cells (cellsN (sCls (wr.heap.size + 1) (sFld wr.heap.size (sNode 11 ⟨#[110]⟩ ⟨#[]⟩ (.slice A 0 cap) 0)))).toArray 44)).heap.size (((wr.alloc (.cells (cellsN (sNode 11 ⟨#[110]⟩ ⟨#[]⟩ (.slice A 0 cap) 0)).toArray 24)).alloc (.cells (cellsN (sFld wr.heap.size (sNode 11 ⟨#[110]⟩ ⟨#[]⟩ (.slice A 0 cap) 0))).toArray 55)).alloc (.cells (cellsN (sCls (wr.heap.size + 1) (sFld wr.heap.size (sNode 11 ⟨#[110]⟩ ⟨#[]⟩ (.slice A 0 cap) 0)))).toArray 44)) w' →
          (Calls Try.prog 24 #[.agg #[.slice (some ⟨wr.heap.size + 2, 0, none⟩) 1 1]] w' fun e w'' => e = .returned (.bool true) ∧ Below w'.heap.size w' w'') ∧
          (Calls Try.prog 10 #[.agg #[.int .i64 11, .int .i32 0, .string ⟨#[]⟩, .string ⟨#[110]⟩, .string ⟨#[]⟩, .slice A 0 cap, .string ⟨#[]⟩, .int .i64 0]] w' fun e w'' => e = .returned (.int .i64 1) ∧ Below w'.heap.size w' w'')) := by
        show ∀ w', _
        intro w' hb
        obtain ⟨p1, p2, p3⟩ := shape_prog hkd rfl rfl hb
        exact ⟨may_any w' _ _ p1 p2 (by rw [size_prog]; omega) _ (by rw [sh_may _ _ _ _ _ _ _ (by omega)]; exact sfit_10_2), expr_any w' _ _ _ _ _ _ _ _ _ p3 1 (size_node _ _ _ _ _) (by omega)⟩
      have HB := Lib.hid HR.out.bel
      have HE := Lib.hid HR.out.e
      clear HR hkd hi hz0 hz1 hz2
      go_wp2_with fail
      refine (HT.out _).mono ?_
      clear HT
      rintro e w2 ⟨rfl, hb⟩
      have hbx := (Bx.new _ _ _).next hb
      have c9 : w2.cell? ⟨wr.heap.size + 1 + 1 + 1, 0, none⟩ = some (.slice (some ⟨wr.heap.size + 1 + 1, 0, none⟩) 1 1) := by
        have := hbx.cell 0
        simpa using this
      have HM2 := Lib.hid (HM.out w2 (below_box hb)).1
      have hbw := below_box (below_box (below_box (below_box hb)))
      have hH := Lib.hid (below_box hb)
      clear hbx hb e0 e1 e2 e3 e4 e5 e6 e7
      go_wp2_with fail
      refine HM2.out.mono ?_
      clear HM2
      rintro e w3 ⟨rfl, hb3⟩
      have HM3 := Lib.hid (HM.out w3 (hH.out.trans (hb3.mono hH.out.size))).2
      have hbw3 := hbw.trans (hb3.mono hbw.size)
      obtain ⟨e0, e1, e2, e3, e4, e5, e6, e7⟩ := (HE.out.next hbw3).get_8
      clear HM hH HE hbw hb3
      go_wp2_with fail
      refine HM3.out.mono ?_
      clear HM3
      rintro e w4 ⟨rfl, hb4⟩
      have hfin := HB.out.trans ((hbw3.trans (hb4.mono hbw3.size)).mono HB.out.size)
      clear e0 e1 e2 e3 e4 e5 e6 e7 hbw3 hb4
      go_wp2_with fail
      go_ret
      exact ⟨rfl, hfin⟩
theorem sfit_11_0 : fitE 12 0 ⟨#[]⟩ ⟨#[110]⟩ ⟨#[]⟩ 1 = true := by decide +kernel
set_option maxRecDepth 100000 in
set_option maxHeartbeats 4000000 in
theorem shape_11_0 (w : World) (a0 a1 x y : Int) (h1 : IntKind.u64.wrap a0 = x) (h2 : x.tmod 18 = 11) (h3 : IntKind.u64.wrap a1 = y) (h4 : y.tmod 3 = 0) :
    Calls Try.prog 6 #[.int .i64 a0, .int .i64 a1] w fun e w' => e = .returned (.bool true) ∧ Below w.heap.size w w' := by
  obtain ⟨i0, hi, hz0, hz1, hz2⟩ := info_parts Try.infoOfExpr
  go_enter Try.func6, Try.ntmps6
  go_wp2_with fail
  clear h1 h2 h3 h4
  refine gen_world (fun W => ShR w (w.heap.size + 2) (w.heap.size + 1) 12 ⟨#[110]⟩ ⟨#[]⟩ W (.slice none 0 0) 0) (sh_start _ _ _ _ _) ?_
  intro W hD
  have HD := Lib.hid hD
  clear hD
  go_loopw [11] (fun v11 wr => ∃ (j : Nat) (v : Value), v11 = .int .i64 j ∧ j ≤ 1 ∧ ShR w (w.heap.size + 2) (w.heap.size + 1) 12 ⟨#[110]⟩ ⟨#[]⟩ wr v j) (fun v11 wr => 1 - (intOf v11).toNat)
  case atStart => exact ⟨0, _, rfl, Nat.zero_le _, HD.out⟩
  case round =>
    obtain ⟨j, v, rfl, hj, hR⟩ := hrel
    clear HD
    have HR := Lib.hid hR
    obtain ⟨e0, e1, e2, e3, e4, e5, e6, e7⟩ := hR.e.get_8
    have hel := hR.e.lt
    clear hR
    by_cases hlt : j < 1
    · have hlt' : (j : Int) < 1 := by omega
      go_wp2_with (at_builtin; refine wpList_append_own _ rfl (.tmp 96) (.tmp 98) 22 rfl (w.heap.size + 2) 24 i0 _ 8 112 Try.underlying22 hi hz0 hz1 hz2 rfl (by decide) _ _ _ rfl (HR.out.own.alloc _) ⟨wr.heap.size, 0, none⟩ 1 1 (cellsN sThis) rfl rfl ?c1 ?c2 ?c3 ?c4 ?c5 ?_)
      case c1 => exact this_cells _ _
      case c2 => exact this_one
      case c3 => unfold maxLen; simp; omega
      case c4 => omega
      case c5 => have := HR.out.hBw; simp; omega
      · intro v' w3 hown3 hgrow _
        obtain ⟨A', cap', rfl, _⟩ := own_form hown3
        obtain ⟨d5, f5⟩ := HR.out.mid (v' := .slice A' (j + 1) cap') ((Below.refl _ wr).alloc (Nat.le_refl _) _) hgrow
        have HS := Lib.hid (HR.out.step ((Below.refl _ wr).alloc (Nat.le_refl _) _) hown3 hgrow)
        clear hown3 hgrow
        go_wp2_with fail
        go_roundw
        case rel => exact ⟨j + 1, _, by go_num, by omega, HS.out⟩
        case measure => simp [intOf]; omega
    · have hlt' : 1 ≤ (j : Int) := by omega
      have hj2 : j = 1 := by omega
      subst hj2
      obtain ⟨A, cap, rfl, _⟩ := own_form HR.out.own
      have HT : Hid (∀ w', Calls Try.prog 9 #[] w' fun e w'' => e = .returned (.bool true) ∧ Below w'.heap.size w' w'') := told_any
      have hkd := HR.out.kd (by omega) (by decide) (by decide)
      have HM : Hid (∀ w', Below (((wr.alloc (.cells (cellsN (sNode 12 ⟨#[110]⟩ ⟨#[]⟩ (.slice A 1 cap) 1)).toArray 24)).alloc (.cells (cellsN (sFld wr.heap.size (sNode 12 ⟨#[110]⟩ ⟨#[]⟩ (.slice A 1 cap) 1))).toArray 55)).alloc (.cells (cellsN (sCls (wr.heap.size + 1) (sFld wr.heap.size (sNode 12 ⟨#[110]⟩ ⟨#[]⟩ (.slice A 1 cap) 1)))).toArray 44)).heap.size (((wr.alloc (.cells (cellsN (sNode 12 ⟨#[110]⟩ ⟨#[]⟩ (.slice A 1 cap) 1)).toArray 24)).alloc (.cells (cellsN (sFld wr.heap.size (sNode 12 ⟨#[110]⟩ ⟨#[]⟩ (.slice A 1 cap) 1))).toArray 55)).alloc (.cells (cellsN (sCls (wr.heap.size + 1) (sFld wr.heap.size (sNode 12 ⟨#[110]⟩ ⟨#[]⟩ (.slice A 1 cap) 1)))).toArray 44)) w' →
          (Calls Try.prog 24 #[.agg #[.slice (some ⟨wr.heap.size + 2, 0, none⟩) 1 1]] w' fun e w'' => e = .returned (.bool true) ∧ Below w'.heap.size w' w'') ∧
          (Calls Try.prog 10 #[.agg #[.int .i64 12, .int .i32 0, .string ⟨#[]⟩, .string ⟨#[110]⟩, .string ⟨#[]⟩, .slice A 1 cap, .string ⟨#[]⟩, .int .i64 0]] w' fun e w'' => e = .returned (.int .i64 2) ∧ Below w'.heap.size w' w'')) := by
        show ∀ w', _
        intro w' hb
        obtain ⟨p1, p2, p3⟩ := shape_prog hkd rfl rfl hb
        exact ⟨may_any w' _ _ p1 p2 (by rw [size_prog]; omega) _ (by rw [sh_may _ _ _ _ _ _ _ (by omega)]; exact sfit_11_0), expr_any w' _ _ _ _ _ _ _ _ _ p3 2 (size_node _ _ _ _ _) (by omega)⟩
      have HB := Lib.hid HR.out.bel
      have HE := Lib.hid HR.out.e
      clear HR hkd hi hz0 hz1 hz2
      go_wp2_with fail
      refine (HT.out _).mono ?_
      clear HT
      rintro e w2 ⟨rfl, hb⟩
      have hbx := (Bx.new _ _ _).next hb
      have c9 : w2.cell? ⟨wr.heap.size + 1 + 1 + 1, 0, none⟩ = some (.slice (some ⟨wr.heap.size + 1 + 1, 0, none⟩) 1 1) := by
        have := hbx.cell 0
        simpa using this
      have HM2 := Lib.hid (HM.out w2 (below_box hb)).1
      have hbw := below_box (below_box (below_box (below_box hb)))
      have hH := Lib.hid (below_box hb)
      clear hbx hb e0 e1 e2 e3 e4 e5 e6 e7
      go_wp2_with fail
      refine HM2.out.mono ?_
      clear HM2
      rintro e w3 ⟨rfl, hb3⟩
      have HM3 := Lib.hid (HM.out w3 (hH.out.trans (hb3.mono hH.out.size))).2
      have hbw3 := hbw.trans (hb3.mono hbw.size)
      obtain ⟨e0, e1, e2, e3, e4, e5, e6, e7⟩ := (HE.out.next hbw3).get_8
      clear HM hH HE hbw hb3
      go_wp2_with fail
      refine HM3.out.mono ?_
      clear HM3
      rintro e w4 ⟨rfl, hb4⟩
      have hfin := HB.out.trans ((hbw3.trans (hb4.mono hbw3.size)).mono HB.out.size)
      clear e0 e1 e2 e3 e4 e5 e6 e7 hbw3 hb4
      go_wp2_with fail
      go_ret
      exact ⟨rfl, hfin⟩
theorem sfit_11_1 : fitE 12 0 ⟨#[]⟩ ⟨#[110]⟩ ⟨#[]⟩ 2 = true := by decide +kernel
set_option maxRecDepth 100000 in
set_option maxHeartbeats 4000000 in
theorem shape_11_1 (w : World) (a0 a1 x y : Int) (h1 : IntKind.u64.wrap a0 = x) (h2 : x.tmod 18 = 11) (h3 : IntKind.u64.wrap a1 = y) (h4 : y.tmod 3 = 1) :
    Calls Try.prog 6 #[.int .i64 a0, .int .i64 a1] w fun e w' => e = .returned (.bool true) ∧ Below w.heap.size w w' := by
  obtain ⟨i0, hi, hz0, hz1, hz2⟩ := info_parts Try.infoOfExpr
  go_enter Try.func6, Try.ntmps6
  go_wp2_with fail
  clear h1 h2 h3 h4
  refine gen_world (fun W => ShR w (w.heap.size + 2) (w.heap.size + 1) 12 ⟨#[110]⟩ ⟨#[]⟩ W (.slice none 0 0) 0) (sh_start _ _ _ _ _) ?_
  intro W hD
  have HD := Lib.hid hD
  clear hD
  go_loopw [11] (fun v11 wr => ∃ (j : Nat) (v : Value), v11 = .int .i64 j ∧ j ≤ 2 ∧ ShR w (w.heap.size + 2) (w.heap.size + 1) 12 ⟨#[110]⟩ ⟨#[]⟩ wr v j) (fun v11 wr => 2 - (intOf v11).toNat)
  case atStart => exact ⟨0, _, rfl, Nat.zero_le _, HD.out⟩
  case round =>
    obtain ⟨j, v, rfl, hj, hR⟩ := hrel
    clear HD
    have HR := Lib.hid hR
    obtain ⟨e0, e1, e2, e3, e4, e5, e6, e7⟩ := hR.e.get_8
    have hel := hR.e.lt
    clear hR
    by_cases hlt : j < 2
    · have hlt' : (j : Int) < 2 := by omega
      go_wp2_with (at_builtin; refine wpList_append_own _ rfl (.tmp 96) (.tmp 98) 22 rfl (w.heap.size + 2) 24 i0 _ 8 112 Try.underlying22 hi hz0 hz1 hz2 rfl (by decide) _ _ _ rfl (HR.out.own.alloc _) ⟨wr.heap.size, 0, none⟩ 1 1 (cellsN sThis) rfl rfl ?c1 ?c2 ?c3 ?c4 ?c5 ?_)
      case c1 => exact this_cells _ _
      case c2 => exact this_one
      case c3 => unfold maxLen; simp; omega
      case c4 => omega
      case c5 => have := HR.out.hBw; simp; omega
      · intro v' w3 hown3 hgrow _
        obtain ⟨A', cap', rfl, _⟩ := own_form hown3
        obtain ⟨d5, f5⟩ := HR.out.mid (v' := .slice A' (j + 1) cap') ((Below.refl _ wr).alloc (Nat.le_refl _) _) hgrow
        have HS := Lib.hid (HR.out.step ((Below.refl _ wr).alloc (Nat.le_refl _) _) hown3 hgrow)
        clear hown3 hgrow
        go_wp2_with fail
        go_roundw
        case rel => exact ⟨j + 1, _, by go_num, by omega, HS.out⟩
        case measure => simp [intOf]; omega
    · have hlt' : 2 ≤ (j : Int) := by omega
      have hj2 : j = 2 := by omega
      subst hj2
      obtain ⟨A, cap, rfl, _⟩ := own_form HR.out.own
      have HT : Hid (∀ w', Calls Try.prog 9 #[] w' fun e w'' => e = .returned (.bool true) ∧ Below w'.heap.size w' w'') := told_any
      have hkd := HR.out.kd (by omega) (by decide) (by decide)
      have HM : Hid (∀ w', Below (((wr.alloc (.cells (cellsN (sNode 12 ⟨#[110]⟩ ⟨#[]⟩ (.slice A 2 cap) 2)).toArray 24)).alloc (.cells (cellsN (sFld wr.heap.size (sNode 12 ⟨#[110]⟩ ⟨#[]⟩ (.slice A 2 cap) 2))).toArray 55)).alloc (.cells (cellsN (sCls (wr.heap.size + 1) (sFld wr.heap.size (sNode 12 ⟨#[110]⟩ ⟨#[]⟩ (.slice A 2 cap) 2)))).toArray 44)).heap.size (((wr.alloc (.cells (cellsN (sNode 12 ⟨#[110]⟩ ⟨#[]⟩ (.slice A 2 cap) 2)).toArray 24)).alloc (.cells (cellsN (sFld wr.heap.size (sNode 12 ⟨#[110]⟩ ⟨#[]⟩ (.slice A 2 cap) 2))).toArray 55)).alloc (.cells (cellsN (sCls (wr.heap.size + 1) (sFld wr.heap.size (sNode 12 ⟨#[110]⟩ ⟨#[]⟩ (.slice A 2 cap) 2)))).toArray 44)) w' →
          (Calls Try.prog 24 #[.agg #[.slice (some ⟨wr.heap.size + 2, 0, none⟩) 1 1]] w' fun e w'' => e = .returned (.bool true) ∧ Below w'.heap.size w' w'') ∧
          (Calls Try.prog 10 #[.agg #[.int .i64 12, .int .i32 0, .string ⟨#[]⟩, .string ⟨#[110]⟩, .string ⟨#[]⟩, .slice A 2 cap, .string ⟨#[]⟩, .int .i64 0]] w' fun e w'' => e = .returned (.int .i64 3) ∧ Below w'.heap.size w' w'')) := by
        show ∀ w', _
        intro w' hb
        obtain ⟨p1, p2, p3⟩ := shape_prog hkd rfl rfl hb
        exact ⟨may_any w' _ _ p1 p2 (by rw [size_prog]; omega) _ (by rw [sh_may _ _ _ _ _ _ _ (by omega)]; exact sfit_11_1), expr_any w' _ _ _ _ _ _ _ _ _ p3 3 (size_node _ _ _ _ _) (by omega)⟩
      have HB := Lib.hid HR.out.bel
      have HE := Lib.hid HR.out.e
      clear HR hkd hi hz0 hz1 hz2
      go_wp2_with fail
      refine (HT.out _).mono ?_
      clear HT
      rintro e w2 ⟨rfl, hb⟩
      have hbx := (Bx.new _ _ _).next hb
      have c9 : w2.cell? ⟨wr.heap.size + 1 + 1 + 1, 0, none⟩ = some (.slice (some ⟨wr.heap.size + 1 + 1, 0, none⟩) 1 1) := by
        have := hbx.cell 0
        simpa using this
      have HM2 := Lib.hid (HM.out w2 (below_box hb)).1
      have hbw := below_box (below_box (below_box (below_box hb)))
      have hH := Lib.hid (below_box hb)
      clear hbx hb e0 e1 e2 e3 e4 e5 e6 e7
      go_wp2_with fail
      refine HM2.out.mono ?_
      clear HM2
      rintro e w3 ⟨rfl, hb3⟩
      have HM3 := Lib.hid (HM.out w3 (hH.out.trans (hb3.mono hH.out.size))).2
      have hbw3 := hbw.trans (hb3.mono hbw.size)
      obtain ⟨e0, e1, e2, e3, e4, e5, e6, e7⟩ := (HE.out.next hbw3).get_8
      clear HM hH HE hbw hb3
      go_wp2_with fail
      refine HM3.out.mono ?_
      clear HM3
      rintro e w4 ⟨rfl, hb4⟩
      have hfin := HB.out.trans ((hbw3.trans (hb4.mono hbw3.size)).mono HB.out.size)
      clear e0 e1 e2 e3 e4 e5 e6 e7 hbw3 hb4
      go_wp2_with fail
      go_ret
      exact ⟨rfl, hfin⟩
theorem sfit_11_2 : fitE 12 0 ⟨#[]⟩ ⟨#[110]⟩ ⟨#[]⟩ 0 = true := by decide +kernel
set_option maxRecDepth 100000 in
set_option maxHeartbeats 4000000 in
theorem shape_11_2 (w : World) (a0 a1 x y : Int) (h1 : IntKind.u64.wrap a0 = x) (h2 : x.tmod 18 = 11) (h3 : IntKind.u64.wrap a1 = y) (h4 : y.tmod 3 = 2) :
    Calls Try.prog 6 #[.int .i64 a0, .int .i64 a1] w fun e w' => e = .returned (.bool true) ∧ Below w.heap.size w w' := by
  obtain ⟨i0, hi, hz0, hz1, hz2⟩ := info_parts Try.infoOfExpr
  go_enter Try.func6, Try.ntmps6
  go_wp2_with fail
  clear h1 h2 h3 h4
  refine gen_world (fun W => ShR w (w.heap.size + 2) (w.heap.size + 1) 12 ⟨#[110]⟩ ⟨#[]⟩ W (.slice none 0 0) 0) (sh_start _ _ _ _ _) ?_
  intro W hD
  have HD := Lib.hid hD
  clear hD
  go_loopw [11] (fun v11 wr => ∃ (j : Nat) (v : Value), v11 = .int .i64 j ∧ j ≤ 0 ∧ ShR w (w.heap.size + 2) (w.heap.size + 1) 12 ⟨#[110]⟩ ⟨#[]⟩ wr v j) (fun v11 wr => 0 - (intOf v11).toNat)
  case atStart => exact ⟨0, _, rfl, Nat.zero_le _, HD.out⟩
  case round =>
    obtain ⟨j, v, rfl, hj, hR⟩ := hrel
    clear HD
    have HR := Lib.hid hR
    obtain ⟨e0, e1, e2, e3, e4, e5, e6, e7⟩ := hR.e.get_8
    have hel := hR.e.lt
    clear hR
    by_cases hlt : j < 0
    · omega
    · have hlt' : 0 ≤ (j : Int) := by omega
      have hj2 : j = 0 := by omega
      subst hj2
      obtain ⟨A, cap, rfl, _⟩ := own_form HR.out.own
      have HT : Hid (∀ w', Calls Try.prog 9 #[] w' fun e w'' => e = .returned (.bool true) ∧ Below w'.heap.size w' w'') := told_any
      have hkd := HR.out.kd (by omega) (by decide) (by decide)
      have HM : Hid (∀ w', Below (((wr.alloc (.cells (cellsN (sNode 12 ⟨#[110]⟩ ⟨#[]⟩ (.slice A 0 cap) 0)).toArray 24)).alloc (.cells (cellsN (sFld wr.heap.size (sNode 12 ⟨#[110]⟩ ⟨#[]⟩ (.slice A 0 cap) 0))).toArray 55)).alloc (.cells (cellsN (sCls (wr.heap.size + 1) (sFld wr.heap.size (sNode 12 ⟨#[110]⟩ ⟨#[]⟩ (.slice A 0 cap) 0)))).toArray 44)).heap.size (((wr.alloc (.cells (cellsN (sNode 12 ⟨#[110]⟩ ⟨#[]⟩ (.slice A 0 cap) 0)).toArray 24)).alloc (.cells (cellsN (sFld wr.heap.size (sNode 12 ⟨#[110]⟩ ⟨#[]⟩ (.slice A 0 cap) 0))).toArray 55)).alloc (.cells (cellsN (sCls (wr.heap.size + 1) (sFld wr.heap.size (sNode 12 ⟨#[110]⟩ ⟨#[]⟩ (.slice A 0 cap) 0)))).toArray 44)) w' →
          (Calls Try.prog 24 #[.agg #[.slice (some ⟨wr.heap.size + 2, 0, none⟩) 1 1]] w' fun e w'' => e = .returned (.bool true) ∧ Below w'.heap.size w' w'') ∧
          (Calls Try.prog 10 #[.agg #[.int .i64 12, .int .i32 0, .string ⟨#[]⟩, .string ⟨#[110]⟩, .string ⟨#[]⟩, .slice A 0 cap, .string ⟨#[]⟩, .int .i64 0]] w' fun e w'' => e = .returned (.int .i64 1) ∧ Below w'.heap.size w' w'')) := by
        show ∀ w', _
        intro w' hb
        obtain ⟨p1, p2, p3⟩ := shape_prog hkd rfl rfl hb
        exact ⟨may_any w' _ _ p1 p2 (by rw [size_prog]; omega) _ (by rw [sh_may _ _ _ _ _ _ _ (by omega)]; exact sfit_11_2), expr_any w' _ _ _ _ _ _ _ _ _ p3 1 (size_node _ _ _ _ _) (by omega)⟩
      have HB := Lib.hid HR.out.bel
      have HE := Lib.hid HR.out.e
      clear HR hkd hi hz0 hz1 hz2
      go_wp2_with fail
      refine (HT.out _).mono ?_
      clear HT
      rintro e w2 ⟨rfl, hb⟩
      have hbx := (Bx.new _ _ _).next hb
      have c9 : w2.cell? ⟨wr.heap.size + 1 + 1 + 1, 0, none⟩ = some (.slice (some ⟨wr.heap.size + 1 + 1, 0, none⟩) 1 1) := by
        have := hbx.cell 0
        simpa using this
      have HM2 := Lib.hid (HM.out w2 (below_box hb)).1
      have hbw := below_box (below_box (below_box (below_box hb)))
      have hH := Lib.hid (below_box hb)
      clear hbx hb e0 e1 e2 e3 e4 e5 e6 e7
      go_wp2_with fail
      refine HM2.out.mono ?_
      clear HM2
      rintro e w3 ⟨rfl, hb3⟩
      have HM3 := Lib.hid (HM.out w3 (hH.out.trans (hb3.mono hH.out.size))).2
      have hbw3 := hbw.trans (hb3.mono hbw.size)
      obtain ⟨e0, e1, e2, e3, e4, e5, e6, e7⟩ := (HE.out.next hbw3).get_8
      clear HM hH HE hbw hb3
      go_wp2_with fail
      refine HM3.out.mono ?_
      clear HM3
      rintro e w4 ⟨rfl, hb4⟩
      have hfin := HB.out.trans ((hbw3.trans (hb4.mono hbw3.size)).mono HB.out.size)
      clear e0 e1 e2 e3 e4 e5 e6 e7 hbw3 hb4
      go_wp2_with fail
      go_ret
      exact ⟨rfl, hfin⟩
end Go.Proofs.Ytnphimechniplaa
