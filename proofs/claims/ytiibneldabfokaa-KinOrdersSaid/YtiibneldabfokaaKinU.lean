/- Layer 6's KinOrders. -/
import Derived.Test.YtiibneldabfokaaKinS
set_option linter.unusedSimpArgs false
set_option linter.unusedVariables false
namespace Go.Proofs.Ytiibneldabfokaa
open Go.RowKit
set_option maxRecDepth 100000 in
set_option maxHeartbeats 16000000 in
theorem orders_any (w : World) (v : Value) (a b c : Int) (h : Is w v) : Calls Try.prog 3 #[v, .int .i64 a, .int .i64 b, .int .i64 c] w fun e w' => e = .returned (.bool true) ∧ Below w.heap.size w w' := by
  go_enter Try.func3, Try.ntmps3
  go_upto_region 2 with (go_at_call 6; refine (tree_any h).mono ?_; rintro e w1 ⟨vp, cs, rfl, hC, hok, hb1⟩; have HC1 := Lib.hid hC; obtain ⟨Ap, cp, rfl, hcp, h59, hC⟩ := hC; clear hC)
  have hX := Bx.new w1 #[.slice Ap cs.length cp] 25
  have hbA : Below w1.heap.size w1 (w1.alloc (.cells #[.slice Ap cs.length cp] 25)) := (Below.refl _ _).alloc (Nat.le_refl _) _
  obtain ⟨W, hW⟩ : ∃ W, W = w1.alloc (.cells #[.slice Ap cs.length cp] 25) := ⟨_, rfl⟩
  rw [← hW] at hX hbA ⊢
  have HX := Lib.hid hX
  have HOK := Lib.hid hok
  have HCW := Lib.hid (cl_below HC1.out hbA)
  have HBW := Lib.hid (hb1.trans (hbA.mono hb1.size))
  clear hW hX hbA hb1 hok HC1
  have c0 := HX.out.cell 0
  go_wp2_with fail
  refine (kcheck_any HCW.out).mono ?_
  rintro e w2 ⟨rfl, hb0⟩
  clear c0
  have HQC : Hid ((chkL cs).1 = 0 → GoodT cs) := Lib.hid fun e => ⟨good_of e, HOK.out⟩
  obtain ⟨e1, he1⟩ : ∃ e1, (chkL cs).1 = e1 := ⟨_, rfl⟩
  obtain ⟨e2, he2⟩ : ∃ e2, (chkL cs).2 = e2 := ⟨_, rfl⟩
  rw [he1, he2]
  rw [he1] at HQC
  clear he1 he2
  obtain ⟨n, hn⟩ : ∃ n, cs.length = n := ⟨_, rfl⟩
  have HL := Lib.hid hn
  have c0 := (HX.out.next hb0).cell 0
  rw [hn] at HX HCW c0 hcp h59 ⊢
  clear hn
  by_cases hz : e1 = 0
  · subst hz
    by_cases hn0 : n = 0
    · subst hn0
      go_wp2_with (go_at_call 8; refine (told6_any _).mono ?_; rintro e w3 ⟨rfl, hb⟩)
      go_ret
      exact ⟨rfl, HBW.out.trans ((hb0.trans (hb.mono hb0.size)).mono HBW.out.size)⟩
    · have HG := Lib.hid (HQC.out rfl)
      have hnp : ((n : Int) == 0) = false := by rw [beq_eq_false_iff_ne]; omega
      obtain ⟨xa, ia, a1, a2, a3, a4, a5, a6⟩ := whichK a n (by omega) (by omega)
      obtain ⟨xb, ib, b1, b2, b3, b4, b5, b6⟩ := whichK b n (by omega) (by omega)
      obtain ⟨xc, ic, d1, d2, d3, d4, d5, d6⟩ := whichK c n (by omega) (by omega)
      obtain ⟨hA, hAk⟩ : ∃ c, cs[ia]? = some c := ⟨cs[ia]'(by rw [HL.out]; exact a3), List.getElem?_eq_getElem _⟩
      obtain ⟨hB, hBk⟩ : ∃ c, cs[ib]? = some c := ⟨cs[ib]'(by rw [HL.out]; exact b3), List.getElem?_eq_getElem _⟩
      obtain ⟨hD, hDk⟩ : ∃ c, cs[ic]? = some c := ⟨cs[ic]'(by rw [HL.out]; exact d3), List.getElem?_eq_getElem _⟩
      have hC2 := cl_below HCW.out hb0
      obtain ⟨bb, oo, _, _, _, _, _, _, e, fa, _⟩ := cl_cells hC2 hAk
      obtain ⟨bb2, oo2, _, _, _, _, _, _, e', fb, _⟩ := cl_cells hC2 hBk
      obtain ⟨bb3, oo3, _, _, _, _, _, _, e'', fc, _⟩ := cl_cells hC2 hDk
      subst e
      injection e' with e'; injection e' with e1 e2; subst e1 e2
      injection e'' with e'; injection e' with e1 e2; subst e1 e2
      have ga := (HG.out.sub_self hAk)
      have gn := (HG.out.null_sub hAk)
      have gm := (HG.out.sub_null hAk)
      have gb := fun hne h1 => HG.out.not_both hAk hBk hne h1
      have gt := fun h1 h2 => HG.out.trans hAk hBk hDk h1 h2
      obtain ⟨x, hx⟩ : ∃ x, hA.1 = x := ⟨_, rfl⟩
      obtain ⟨y, hy⟩ : ∃ y, hB.1 = y := ⟨_, rfl⟩
      obtain ⟨z, hz⟩ : ∃ z, hD.1 = z := ⟨_, rfl⟩
      rw [hx] at fa ga gn gm gb gt
      rw [hy] at fb gb gt
      rw [hz] at fc gt
      have GA := Lib.hid ga; have GN := Lib.hid gn; have GM := Lib.hid gm; have GB := Lib.hid gb; have GT := Lib.hid gt
      have HS : Hid (∀ w', Below W.heap.size W w' → ∀ (a b : ByteArray) (q : Bool), subS cs a b = q → Calls Try.prog 9 #[.agg #[.slice (some ⟨bb, oo, none⟩) n cp], .string a, .string b] w' fun e w'' => e = .returned (.bool q) ∧ Below w'.heap.size w' w'') := Lib.hid fun w' hb a b q e => by rw [← e]; exact sub_any (cl_below HCW.out hb) a b
      have i1 : (ia : Int) < n := by omega
      have i2 : (ib : Int) < n := by omega
      have i3 : (ic : Int) < n := by omega
      clear hx hy hz ga gn gm gb gt hAk hBk hDk hC2
      go_upto_region 6 with (fail)
      go_quiet (fail)
      clear fa fb fc c0
      by_cases hxy : x = y
      · subst hxy
        have c0 := (HX.out.next hb0).cell 0
        go_wp2_with fail
        refine (told6_any _).mono ?_
        rintro e wn ⟨rfl, hb⟩
        replace hb0 := (below_drewN hb0 _).trans (hb.mono hb0.size)
        clear hb c0
        have c0 := (HX.out.next hb0).cell 0
        go_wp2_with fail
        refine (HS.out _ hb0 _ _ _ GA.out).mono ?_
        rintro e wn ⟨rfl, hb⟩
        replace hb0 := hb0.trans (hb.mono hb0.size)
        clear hb c0
        have c0 := (HX.out.next hb0).cell 0
        go_wp2_with fail
        refine (HS.out _ hb0 _ _ _ GN.out).mono ?_
        rintro e wn ⟨rfl, hb⟩
        replace hb0 := hb0.trans (hb.mono hb0.size)
        clear hb c0
        have c0 := (HX.out.next hb0).cell 0
        go_wp2_with fail
        refine (HS.out _ hb0 _ _ _ GM.out).mono ?_
        rintro e wn ⟨rfl, hb⟩
        replace hb0 := hb0.trans (hb.mono hb0.size)
        clear hb c0
        have c0 := (HX.out.next hb0).cell 0
        go_wp2_with fail
        refine (HS.out _ hb0 _ _ _ GA.out).mono ?_
        rintro e wn ⟨rfl, hb⟩
        replace hb0 := hb0.trans (hb.mono hb0.size)
        clear hb c0
        obtain ⟨q, hq⟩ : ∃ q, subS cs x z = q := ⟨_, rfl⟩
        have HQ := Lib.hid hq
        clear hq
        cases q
        · skip
          have c0 := (HX.out.next hb0).cell 0
          go_wp2_with fail
          refine (HS.out _ hb0 _ _ _ HQ.out).mono ?_
          rintro e wn ⟨rfl, hb⟩
          replace hb0 := hb0.trans (hb.mono hb0.size)
          clear hb c0
          go_wp2_with fail
          go_ret
          exact ⟨rfl, HBW.out.trans (hb0.mono HBW.out.size)⟩
        · skip
          have c0 := (HX.out.next hb0).cell 0
          go_wp2_with fail
          refine (HS.out _ hb0 _ _ _ HQ.out).mono ?_
          rintro e wn ⟨rfl, hb⟩
          replace hb0 := hb0.trans (hb.mono hb0.size)
          clear hb c0
          have c0 := (HX.out.next hb0).cell 0
          go_wp2_with fail
          refine (HS.out _ hb0 _ _ _ HQ.out).mono ?_
          rintro e wn ⟨rfl, hb⟩
          replace hb0 := hb0.trans (hb.mono hb0.size)
          clear hb c0
          go_wp2_with fail
          go_ret
          exact ⟨rfl, HBW.out.trans (hb0.mono HBW.out.size)⟩
      · have hq1 : (x.toList == y.toList) = false := ba_ne hxy
        have hq2 : (x.toList != y.toList) = true := by simp [bne, hq1]
        have HXY := Lib.hid hxy
        obtain ⟨q, hq⟩ : ∃ q, subS cs x y = q := ⟨_, rfl⟩
        have HQ := Lib.hid hq
        clear hq hxy
        cases q
        · skip
          have c0 := (HX.out.next hb0).cell 0
          go_wp2_with fail
          refine (HS.out _ (below_drewN hb0 _) _ _ _ HQ.out).mono ?_
          rintro e wn ⟨rfl, hb⟩
          replace hb0 := (below_drewN hb0 _).trans (hb.mono hb0.size)
          clear hb c0
          have c0 := (HX.out.next hb0).cell 0
          go_wp2_with fail
          refine (told6_any _).mono ?_
          rintro e wn ⟨rfl, hb⟩
          replace hb0 := hb0.trans (hb.mono hb0.size)
          clear hb c0
          have c0 := (HX.out.next hb0).cell 0
          go_wp2_with fail
          refine (HS.out _ hb0 _ _ _ GA.out).mono ?_
          rintro e wn ⟨rfl, hb⟩
          replace hb0 := hb0.trans (hb.mono hb0.size)
          clear hb c0
          have c0 := (HX.out.next hb0).cell 0
          go_wp2_with fail
          refine (HS.out _ hb0 _ _ _ GN.out).mono ?_
          rintro e wn ⟨rfl, hb⟩
          replace hb0 := hb0.trans (hb.mono hb0.size)
          clear hb c0
          have c0 := (HX.out.next hb0).cell 0
          go_wp2_with fail
          refine (HS.out _ hb0 _ _ _ GM.out).mono ?_
          rintro e wn ⟨rfl, hb⟩
          replace hb0 := hb0.trans (hb.mono hb0.size)
          clear hb c0
          have c0 := (HX.out.next hb0).cell 0
          go_wp2_with fail
          refine (HS.out _ hb0 _ _ _ HQ.out).mono ?_
          rintro e wn ⟨rfl, hb⟩
          replace hb0 := hb0.trans (hb.mono hb0.size)
          clear hb c0
          go_wp2_with fail
          go_ret
          exact ⟨rfl, HBW.out.trans (hb0.mono HBW.out.size)⟩
        · have HQ2 := Lib.hid (GB.out HXY.out HQ.out)
          have c0 := (HX.out.next hb0).cell 0
          go_wp2_with fail
          refine (HS.out _ (below_drewN hb0 _) _ _ _ HQ.out).mono ?_
          rintro e wn ⟨rfl, hb⟩
          replace hb0 := (below_drewN hb0 _).trans (hb.mono hb0.size)
          clear hb c0
          have c0 := (HX.out.next hb0).cell 0
          go_wp2_with fail
          refine (HS.out _ hb0 _ _ _ HQ2.out).mono ?_
          rintro e wn ⟨rfl, hb⟩
          replace hb0 := hb0.trans (hb.mono hb0.size)
          clear hb c0
          have c0 := (HX.out.next hb0).cell 0
          go_wp2_with fail
          refine (told6_any _).mono ?_
          rintro e wn ⟨rfl, hb⟩
          replace hb0 := hb0.trans (hb.mono hb0.size)
          clear hb c0
          have c0 := (HX.out.next hb0).cell 0
          go_wp2_with fail
          refine (HS.out _ hb0 _ _ _ GA.out).mono ?_
          rintro e wn ⟨rfl, hb⟩
          replace hb0 := hb0.trans (hb.mono hb0.size)
          clear hb c0
          have c0 := (HX.out.next hb0).cell 0
          go_wp2_with fail
          refine (HS.out _ hb0 _ _ _ GN.out).mono ?_
          rintro e wn ⟨rfl, hb⟩
          replace hb0 := hb0.trans (hb.mono hb0.size)
          clear hb c0
          have c0 := (HX.out.next hb0).cell 0
          go_wp2_with fail
          refine (HS.out _ hb0 _ _ _ GM.out).mono ?_
          rintro e wn ⟨rfl, hb⟩
          replace hb0 := hb0.trans (hb.mono hb0.size)
          clear hb c0
          have c0 := (HX.out.next hb0).cell 0
          go_wp2_with fail
          refine (HS.out _ hb0 _ _ _ HQ.out).mono ?_
          rintro e wn ⟨rfl, hb⟩
          replace hb0 := hb0.trans (hb.mono hb0.size)
          clear hb c0
          obtain ⟨q, hq⟩ : ∃ q, subS cs y z = q := ⟨_, rfl⟩
          have HQ3 := Lib.hid hq
          clear hq
          cases q
          · skip
            have c0 := (HX.out.next hb0).cell 0
            go_wp2_with fail
            refine (HS.out _ hb0 _ _ _ HQ3.out).mono ?_
            rintro e wn ⟨rfl, hb⟩
            replace hb0 := hb0.trans (hb.mono hb0.size)
            clear hb c0
            go_wp2_with fail
            go_ret
            exact ⟨rfl, HBW.out.trans (hb0.mono HBW.out.size)⟩
          · have HQ4 := Lib.hid (GT.out HQ.out HQ3.out)
            have c0 := (HX.out.next hb0).cell 0
            go_wp2_with fail
            refine (HS.out _ hb0 _ _ _ HQ3.out).mono ?_
            rintro e wn ⟨rfl, hb⟩
            replace hb0 := hb0.trans (hb.mono hb0.size)
            clear hb c0
            have c0 := (HX.out.next hb0).cell 0
            go_wp2_with fail
            refine (HS.out _ hb0 _ _ _ HQ4.out).mono ?_
            rintro e wn ⟨rfl, hb⟩
            replace hb0 := hb0.trans (hb.mono hb0.size)
            clear hb c0
            go_wp2_with fail
            go_ret
            exact ⟨rfl, HBW.out.trans (hb0.mono HBW.out.size)⟩
  · have hz1 : (e1 != 0) = true := by simpa using hz
    clear hz
    go_wp2_with (go_at_call 8; refine (told6_any _).mono ?_; rintro e w3 ⟨rfl, hb⟩)
    go_ret
    exact ⟨rfl, HBW.out.trans ((hb0.trans (hb.mono hb0.size)).mono HBW.out.size)⟩
end Go.Proofs.Ytiibneldabfokaa
