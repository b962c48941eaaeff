/- Layer 6's KinBase. -/
import Derived.Test.YtiibneldabfokaaKinBp
set_option linter.unusedSimpArgs false
set_option linter.unusedVariables false
namespace Go.Proofs.Ytiibneldabfokaa
open Go.RowKit
theorem baseNames_at {i : Nat} (hi : i < 5) : ∃ x, baseNames[i]? = some x ∧ isC [] x = true := by
  have hm : baseNames[i]? = some (baseNames[i]'(by show i < 5; exact hi)) := List.getElem?_eq_getElem _
  exact ⟨_, hm, by rw [← base_isC]; exact inB_iff.2 (List.mem_of_getElem? hm)⟩
set_option maxRecDepth 100000 in
set_option maxHeartbeats 16000000 in
theorem basesW_any (w : World) (v : Value) (a b : Int) (h : Is w v) : Calls Try.prog 5 #[v, .int .i64 a, .int .i64 b] w fun e w' => e = .returned (.bool true) ∧ Below w.heap.size w w' := by
  obtain ⟨xa, ia, a1, a2, a3, a4, a5, a6⟩ := whichK a 5 (by omega) (by omega)
  obtain ⟨xb, ib, b1, b2, b3, b4, b5, b6⟩ := whichK b 5 (by omega) (by omega)
  have e5 : ((5 : Nat) : Int) = 5 := rfl
  rw [e5] at a2 a6 b2
  clear e5 b6
  obtain ⟨x, hxi, hxb⟩ := baseNames_at a3
  obtain ⟨y, hyi, hyb⟩ := baseNames_at b3
  obtain ⟨W0, hW0⟩ : ∃ W0, W0 = w.alloc (.cells (strsV baseNames).toArray 9) := ⟨_, rfl⟩
  have hb00 : Below w.heap.size w W0 := by rw [hW0]; exact (Below.refl _ _).alloc (Nat.le_refl _) _
  have hX00 : Bx W0 w.heap.size (strsV baseNames).toArray 9 := by rw [hW0]; exact Bx.new _ _ _
  have n1 : W0.cell? ⟨w.heap.size, ia, none⟩ = some (.string x) := by rw [hX00.cell ia]; simpa using strsV_at hxi
  have n2 : W0.cell? ⟨w.heap.size, ib, none⟩ = some (.string y) := by rw [hX00.cell ib]; simpa using strsV_at hyi
  have HXB := Lib.hid hxb
  have HYB := Lib.hid hyb
  have HB00 := Lib.hid hb00
  have HI0 : Is W0 v := by
    obtain ⟨A, n, cap, e, h1, h2, h3⟩ := h
    refine ⟨A, n, cap, e, h1, h2, fun j hj => ?_⟩
    obtain ⟨b, o, x, e1, e2⟩ := h3 j hj
    exact ⟨b, o, x, e1, KeepC.below hb00 _ _ e2⟩
  have i1 : (ia : Int) < 5 := by omega
  have i2 : (ib : Int) < 5 := by omega
  have HIS : Hid (∀ k, Is (W0.drewN k) v) := Lib.hid fun k => by
    obtain ⟨A, n, cap, e, h1, h2, h3⟩ := HI0
    refine ⟨A, n, cap, e, h1, h2, fun j hj => ?_⟩
    obtain ⟨b, o, x, e1, e2⟩ := h3 j hj
    exact ⟨b, o, x, e1, KeepC.below (below_drewN (Below.refl _ _) k) _ _ e2⟩
  have HW0 := Lib.hid hW0
  clear hxi hyi hxb hyb hb00 hX00 HI0 h hW0
  go_enter Try.func5, Try.ntmps5
  go_upto_region 2 with (fail)
  rw [show (w.alloc (.cells #[.string ⟨#[69, 120, 99, 101, 112, 116, 105, 111, 110]⟩, .string ⟨#[78, 117, 108, 108, 70, 97, 117, 108, 116]⟩, .string ⟨#[67, 97, 115, 116, 70, 97, 117, 108, 116]⟩, .string ⟨#[90, 101, 114, 111, 70, 97, 117, 108, 116]⟩, .string ⟨#[82, 97, 110, 103, 101, 70, 97, 117, 108, 116]⟩] 9)) = W0 from HW0.out.symm]
  go_quiet (fail)
  clear n1 n2
  go_upto_region 4 with (go_at_call 6; refine (tree_any (HIS.out _)).mono ?_; rintro e w1 ⟨vp, cs, rfl, hC, hok, hb1⟩; have HC1 := Lib.hid hC; have hb1' := Lib.hid ((below_drewN (Below.refl _ _) _).trans (hb1.mono (Nat.le_refl _))); clear hb1; obtain ⟨Ap, cp, rfl, hcp, h59, hC⟩ := hC; clear hC)
  have hX := Bx.new w1 #[.slice Ap cs.length cp] 25
  have hbA : Below w1.heap.size w1 (w1.alloc (.cells #[.slice Ap cs.length cp] 25)) := (Below.refl _ _).alloc (Nat.le_refl _) _
  obtain ⟨W, hW⟩ : ∃ W, W = w1.alloc (.cells #[.slice Ap cs.length cp] 25) := ⟨_, rfl⟩
  rw [← hW] at hX hbA ⊢
  have HX := Lib.hid hX
  have HOK := Lib.hid hok
  have HCW := Lib.hid (cl_below HC1.out hbA)
  have HBW : Hid (Below w.heap.size w W) := Lib.hid (HB00.out.trans ((hb1'.out.trans (hbA.mono hb1'.out.size)).mono HB00.out.size))
  clear hW hX hbA hok HC1
  have c0 := HX.out.cell 0
  go_wp2_with fail
  refine (rgoodK_any HCW.out).mono ?_
  rintro e w2 ⟨q, rfl, hq, hb0⟩
  have HQ := Lib.hid hq
  clear c0 hq
  obtain ⟨n, hn⟩ : ∃ n, cs.length = n := ⟨_, rfl⟩
  have HL := Lib.hid hn
  rw [hn] at HX HCW hcp h59 ⊢
  clear hn
  have HS : Hid (∀ w', Below W.heap.size W w' → ∀ (a b : ByteArray) (q : Bool), subS cs a b = q → Calls Try.prog 9 #[.agg #[.slice Ap n cp], .string a, .string b] w' fun e w'' => e = .returned (.bool q) ∧ Below w'.heap.size w' w'') := Lib.hid fun w' hb a b q e => by rw [← e]; exact sub_any (cl_below HCW.out hb) a b
  cases q
  · go_wp2_with (go_at_call 8; refine (told6_any _).mono ?_; rintro e w3 ⟨rfl, hb⟩)
    go_ret
    exact ⟨rfl, HBW.out.trans ((hb0.trans (hb.mono hb0.size)).mono HBW.out.size)⟩
  · have HG : Hid (GoodT cs) := Lib.hid ⟨HQ.out rfl, HOK.out⟩
    have HB0 := Lib.hid hb0
    have c0 := (HX.out.next hb0).cell 0
    clear hb0
    go_wp2_with fail
    go_loopw [11] (fun v11 wr => ∃ k : Nat, v11 = .int .i64 k ∧ k ≤ n ∧ Below W.heap.size W wr) (fun v11 wr => n - (intOf v11).toNat)
    case atStart => exact ⟨0, rfl, Nat.zero_le _, HB0.out⟩
    case round =>
      obtain ⟨k, rfl, hk, hB⟩ := hrel
      clear c0
      have c0 := (HX.out.next hB).cell 0
      by_cases hlt : k < n
      · obtain ⟨c, hck⟩ : ∃ c, cs[k]? = some c := ⟨cs[k]'(by rw [HL.out]; exact hlt), List.getElem?_eq_getElem _⟩
        obtain ⟨bb, oo, A2, n2, k2, A3, n3, k3, e, f0, f1, f2, f3⟩ := cl_cells (cl_below HCW.out hB) hck
        subst e
        have HF1 := Lib.hid (good_base_not HG.out hck HXB.out)
        have HF2 := Lib.hid (fun hq => good_to_base HG.out hck hq)
        obtain ⟨x1, x2⟩ := c
        obtain ⟨W5, hW5⟩ : ∃ W5, W5 = wr.alloc (.cells #[.string x1, .string x2, .slice A2 n2 k2, .slice A3 n3 k3] 34) := ⟨_, rfl⟩
        have hb5 : Below wr.heap.size wr W5 := by rw [hW5]; exact (Below.refl _ _).alloc (Nat.le_refl _) _
        have hX5 : Bx W5 wr.heap.size #[.string x1, .string x2, .slice A2 n2 k2, .slice A3 n3 k3] 34 := by rw [hW5]; exact Bx.new _ _ _
        have HX5 := Lib.hid hX5
        have HB5 := Lib.hid (hB.trans (hb5.mono hB.size))
        obtain ⟨qb, hqb⟩ : ∃ qb, isC [] x2 = qb := ⟨_, rfl⟩
        have HQB := Lib.hid hqb
        have y1 := hX5.cell 1
        clear hck hB hb5 hX5 hqb
        go_upto_region 10 with (fail)
        rw [← hW5]
        clear hW5 f0 f1 f2 f3 c0
        clear y1
        have hc5 : Below W5.heap.size W5 W5 := Below.refl _ _
        cases qb
        · skip
          have c0 := (HX.out.next (HB5.out.trans (hc5.mono HB5.out.size))).cell 0
          have y0 := (HX5.out.next hc5).cell 0
          have y1 := (HX5.out.next hc5).cell 1
          go_wp2_with fail
          refine (kbase_is HQB.out).mono ?_
          rintro e wn ⟨rfl, hb⟩
          replace hc5 := hc5.trans (hb.mono hc5.size)
          clear hb c0 y0 y1
          have c0 := (HX.out.next (HB5.out.trans (hc5.mono HB5.out.size))).cell 0
          have y0 := (HX5.out.next hc5).cell 0
          have y1 := (HX5.out.next hc5).cell 1
          go_wp2_with fail
          refine (HS.out _ (HB5.out.trans (hc5.mono HB5.out.size)) _ _ _ HF1.out).mono ?_
          rintro e wn ⟨rfl, hb⟩
          replace hc5 := hc5.trans (hb.mono hc5.size)
          clear hb c0 y0 y1
          go_wp2_with fail
          go_roundw
          case rel => exact ⟨k + 1, by simp, by omega, (HB5.out.trans (hc5.mono HB5.out.size))⟩
          case measure => simp [intOf]; omega
        · have HF3 := Lib.hid (HF2.out HQB.out).1
          have HF4 := Lib.hid (HF2.out HQB.out).2
          have c0 := (HX.out.next (HB5.out.trans (hc5.mono HB5.out.size))).cell 0
          have y0 := (HX5.out.next hc5).cell 0
          have y1 := (HX5.out.next hc5).cell 1
          go_wp2_with fail
          refine (kbase_is HQB.out).mono ?_
          rintro e wn ⟨rfl, hb⟩
          replace hc5 := hc5.trans (hb.mono hc5.size)
          clear hb c0 y0 y1
          have c0 := (HX.out.next (HB5.out.trans (hc5.mono HB5.out.size))).cell 0
          have y0 := (HX5.out.next hc5).cell 0
          have y1 := (HX5.out.next hc5).cell 1
          go_wp2_with fail
          refine (HS.out _ (HB5.out.trans (hc5.mono HB5.out.size)) _ _ _ HF3.out).mono ?_
          rintro e wn ⟨rfl, hb⟩
          replace hc5 := hc5.trans (hb.mono hc5.size)
          clear hb c0 y0 y1
          have c0 := (HX.out.next (HB5.out.trans (hc5.mono HB5.out.size))).cell 0
          have y0 := (HX5.out.next hc5).cell 0
          have y1 := (HX5.out.next hc5).cell 1
          go_wp2_with fail
          refine (HS.out _ (HB5.out.trans (hc5.mono HB5.out.size)) _ _ _ HF4.out).mono ?_
          rintro e wn ⟨rfl, hb⟩
          replace hc5 := hc5.trans (hb.mono hc5.size)
          clear hb c0 y0 y1
          have c0 := (HX.out.next (HB5.out.trans (hc5.mono HB5.out.size))).cell 0
          have y0 := (HX5.out.next hc5).cell 0
          have y1 := (HX5.out.next hc5).cell 1
          go_wp2_with fail
          refine (HS.out _ (HB5.out.trans (hc5.mono HB5.out.size)) _ _ _ HF1.out).mono ?_
          rintro e wn ⟨rfl, hb⟩
          replace hc5 := hc5.trans (hb.mono hc5.size)
          clear hb c0 y0 y1
          go_wp2_with fail
          go_roundw
          case rel => exact ⟨k + 1, by simp, by omega, (HB5.out.trans (hc5.mono HB5.out.size))⟩
          case measure => simp [intOf]; omega
      · have hb0 := hB
        clear hB
        clear c0
        have HE1 := Lib.hid (base_sub (cs := cs) HOK.out HXB.out (show isC [] kExc = true by decide +kernel))
        have HE2 := Lib.hid (base_sub (cs := cs) HOK.out HXB.out HYB.out)
        have HE3 : Hid (subS cs x kExc = true) := Lib.hid (by rw [HE1.out]; simp)
        have HE4 := Lib.hid (base_type (cs := cs) HXB.out)
        have HCW0 := HCW
        by_cases hxy : x = y
        · have HE5 : Hid (subS cs x y = true) := Lib.hid (by rw [HE2.out, decide_eq_true hxy]; rfl)
          subst hxy
          have c0 := (HX.out.next hb0).cell 0
          go_wp2_with fail
          refine (told6_any _).mono ?_
          rintro e wn ⟨rfl, hb⟩
          replace hb0 := hb0.trans (hb.mono hb0.size)
          clear hb c0
          have c0 := (HX.out.next hb0).cell 0
          go_wp2_with fail
          refine (HS.out _ hb0 _ _ _ HE3.out).mono ?_
          rintro e wn ⟨rfl, hb⟩
          replace hb0 := hb0.trans (hb.mono hb0.size)
          clear hb c0
          have c0 := (HX.out.next hb0).cell 0
          go_wp2_with fail
          refine (HS.out _ hb0 _ _ _ HE5.out).mono ?_
          rintro e wn ⟨rfl, hb⟩
          replace hb0 := hb0.trans (hb.mono hb0.size)
          clear hb c0
          have c0 := (HX.out.next hb0).cell 0
          go_wp2_with fail
          refine (type_is (cl_below HCW.out hb0) HE4.out).mono ?_
          rintro e wn ⟨rfl, hb⟩
          replace hb0 := hb0.trans (hb.mono hb0.size)
          clear hb c0
          have c0 := (HX.out.next hb0).cell 0
          go_wp2_with fail
          refine (kbase_is HXB.out).mono ?_
          rintro e wn ⟨rfl, hb⟩
          replace hb0 := hb0.trans (hb.mono hb0.size)
          clear hb c0
          go_wp2_with fail
          go_ret
          exact ⟨rfl, HBW.out.trans (hb0.mono HBW.out.size)⟩
        · have hq1 : (x.toList == y.toList) = false := ba_ne hxy
          by_cases hye : y = kExc
          · have HE5 : Hid (subS cs x y = true) := Lib.hid (by rw [HE2.out, decide_eq_true hye]; simp)
            have hq2 : (y.toList == [69, 120, 99, 101, 112, 116, 105, 111, 110]) = true := by rw [hye]; decide +kernel
            clear hye hxy
            have c0 := (HX.out.next hb0).cell 0
            go_wp2_with fail
            refine (told6_any _).mono ?_
            rintro e wn ⟨rfl, hb⟩
            replace hb0 := hb0.trans (hb.mono hb0.size)
            clear hb c0
            have c0 := (HX.out.next hb0).cell 0
            go_wp2_with fail
            refine (HS.out _ hb0 _ _ _ HE3.out).mono ?_
            rintro e wn ⟨rfl, hb⟩
            replace hb0 := hb0.trans (hb.mono hb0.size)
            clear hb c0
            have c0 := (HX.out.next hb0).cell 0
            go_wp2_with fail
            refine (HS.out _ hb0 _ _ _ HE5.out).mono ?_
            rintro e wn ⟨rfl, hb⟩
            replace hb0 := hb0.trans (hb.mono hb0.size)
            clear hb c0
            have c0 := (HX.out.next hb0).cell 0
            go_wp2_with fail
            refine (type_is (cl_below HCW.out hb0) HE4.out).mono ?_
            rintro e wn ⟨rfl, hb⟩
            replace hb0 := hb0.trans (hb.mono hb0.size)
            clear hb c0
            have c0 := (HX.out.next hb0).cell 0
            go_wp2_with fail
            refine (kbase_is HXB.out).mono ?_
            rintro e wn ⟨rfl, hb⟩
            replace hb0 := hb0.trans (hb.mono hb0.size)
            clear hb c0
            go_wp2_with fail
            go_ret
            exact ⟨rfl, HBW.out.trans (hb0.mono HBW.out.size)⟩
          · have HE5 : Hid (subS cs x y = false) := Lib.hid (by rw [HE2.out, decide_eq_false hye, decide_eq_false hxy]; rfl)
            have hq2 : (y.toList == [69, 120, 99, 101, 112, 116, 105, 111, 110]) = false := ba_ne_l _ hye
            clear hye hxy
            have c0 := (HX.out.next hb0).cell 0
            go_wp2_with fail
            refine (told6_any _).mono ?_
            rintro e wn ⟨rfl, hb⟩
            replace hb0 := hb0.trans (hb.mono hb0.size)
            clear hb c0
            have c0 := (HX.out.next hb0).cell 0
            go_wp2_with fail
            refine (HS.out _ hb0 _ _ _ HE3.out).mono ?_
            rintro e wn ⟨rfl, hb⟩
            replace hb0 := hb0.trans (hb.mono hb0.size)
            clear hb c0
            have c0 := (HX.out.next hb0).cell 0
            go_wp2_with fail
            refine (HS.out _ hb0 _ _ _ HE5.out).mono ?_
            rintro e wn ⟨rfl, hb⟩
            replace hb0 := hb0.trans (hb.mono hb0.size)
            clear hb c0
            have c0 := (HX.out.next hb0).cell 0
            go_wp2_with fail
            refine (type_is (cl_below HCW.out hb0) HE4.out).mono ?_
            rintro e wn ⟨rfl, hb⟩
            replace hb0 := hb0.trans (hb.mono hb0.size)
            clear hb c0
            have c0 := (HX.out.next hb0).cell 0
            go_wp2_with fail
            refine (kbase_is HXB.out).mono ?_
            rintro e wn ⟨rfl, hb⟩
            replace hb0 := hb0.trans (hb.mono hb0.size)
            clear hb c0
            go_wp2_with fail
            go_ret
            exact ⟨rfl, HBW.out.trans (hb0.mono HBW.out.size)⟩
end Go.Proofs.Ytiibneldabfokaa
