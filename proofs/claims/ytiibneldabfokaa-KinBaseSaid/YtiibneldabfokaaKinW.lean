/- Layer 6's KinKids. -/
import Derived.Test.YtiibneldabfokaaKinV
set_option linter.unusedSimpArgs false
set_option linter.unusedVariables false
namespace Go.Proofs.Ytiibneldabfokaa
open Go.RowKit
theorem isEmpty_no {x : ByteArray} (hq : x ≠ ⟨#[]⟩) : x.toList.isEmpty = false := by
  cases he : x.toList.isEmpty
  · rfl
  · exfalso; apply hq
    have h0 := List.isEmpty_iff.1 he
    rw [ByteArray.toList_eq] at h0
    cases x; simp at h0; rw [h0]
set_option maxRecDepth 100000 in
set_option maxHeartbeats 16000000 in
theorem kids_any (w : World) (v : Value) (a : Int) (h : Is w v) : Calls Try.prog 4 #[v, .int .i64 a] w fun e w' => e = .returned (.bool true) ∧ Below w.heap.size w w' := by
  go_enter Try.func4, Try.ntmps4
  go_upto_region 2 with (go_at_call 6; refine (tree_any h).mono ?_; rintro e w1 ⟨vp, cs, rfl, hC, hok, hb1⟩; have HC1 := Lib.hid hC; obtain ⟨Ap, cp, rfl, hcp, h59, hC⟩ := hC; clear hC)
  have hX := Bx.new w1 #[.slice Ap cs.length cp] 25
  have hbA : Below w1.heap.size w1 (w1.alloc (.cells #[.slice Ap cs.length cp] 25)) := (Below.refl _ _).alloc (Nat.le_refl _) _
  obtain ⟨W, hW⟩ : ∃ W, W = w1.alloc (.cells #[.slice Ap cs.length cp] 25) := ⟨_, rfl⟩
  rw [← hW] at hX hbA ⊢
  have HX := Lib.hid hX
  have HOK := Lib.hid hok
  have HCW := Lib.hid (cl_below HC1.out hbA)
  have HBW := Lib.hid (hb1.trans (hbA.mono hb1.size))
  clear hW hX hbA hb1 hok HC1
  have c0 := HX.out.cell 0
  go_wp2_with fail
  refine (kcheck_any HCW.out).mono ?_
  rintro e w2 ⟨rfl, hb0⟩
  clear c0
  have HQC : Hid ((chkL cs).1 = 0 → GoodT cs) := Lib.hid fun e => ⟨good_of e, HOK.out⟩
  obtain ⟨e1, he1⟩ : ∃ e1, (chkL cs).1 = e1 := ⟨_, rfl⟩
  obtain ⟨e2, he2⟩ : ∃ e2, (chkL cs).2 = e2 := ⟨_, rfl⟩
  rw [he1, he2]
  rw [he1] at HQC
  clear he1 he2
  obtain ⟨n, hn⟩ : ∃ n, cs.length = n := ⟨_, rfl⟩
  have HL := Lib.hid hn
  have c0 := (HX.out.next hb0).cell 0
  rw [hn] at HX HCW c0 hcp h59 ⊢
  clear hn
  by_cases hz : e1 = 0
  · subst hz
    by_cases hn0 : n = 0
    · subst hn0
      go_wp2_with (go_at_call 8; refine (told6_any _).mono ?_; rintro e w3 ⟨rfl, hb⟩)
      go_ret
      exact ⟨rfl, HBW.out.trans ((hb0.trans (hb.mono hb0.size)).mono HBW.out.size)⟩
    · have HG := Lib.hid (HQC.out rfl)
      have hnp : ((n : Int) == 0) = false := by rw [beq_eq_false_iff_ne]; omega
      obtain ⟨xa, ia, a1, a2, a3, a4, a5, a6⟩ := whichK a n (by omega) (by omega)
      obtain ⟨hA, hAk⟩ : ∃ c, cs[ia]? = some c := ⟨cs[ia]'(by rw [HL.out]; exact a3), List.getElem?_eq_getElem _⟩
      have hC2 := cl_below HCW.out hb0
      obtain ⟨bb, oo, _, _, _, _, _, _, e, fa, _⟩ := cl_cells hC2 hAk
      subst e
      have HAK := Lib.hid hAk
      have HIS := Lib.hid (HG.out.isC hAk)
      have HSU := Lib.hid (HG.out.super hAk)
      have HCL := Lib.hid (fun l => HG.out.chain (l := l) hAk)
      have HSM := Lib.hid HOK.out.sm
      have i1 : (ia : Int) < n := by omega
      obtain ⟨x, sx⟩ := hA
      clear hAk hC2
      go_upto_region 5 with (fail)
      go_quiet (fail)
      clear fa c0
      have hbq := below_drewN hb0
      have HBQ := Lib.hid hbq
      clear hbq
      have c0 := fun k => (HX.out.next (HBQ.out k)).cell 0
      go_wp2_with fail
      refine (kkids_any (cl_below HCW.out (HBQ.out _)) HSM.out x).mono ?_
      rintro e w3 ⟨vk, rfl, hok, hb⟩
      replace hb0 := (HBQ.out _).trans (hb.mono (HBQ.out _).size)
      clear hb c0 HBQ
      rw [show kidsL cs x = kidsF cs x cs from by unfold kidsL; rw [show isC cs x = true from HIS.out, if_pos rfl]] at hok
      have hKlen := kidsF_len cs x cs
      rw [HL.out] at hKlen
      obtain ⟨K, hK⟩ : ∃ K, kidsF cs x cs = K := ⟨_, rfl⟩
      rw [hK] at hok hKlen
      have HK := Lib.hid hK
      obtain ⟨Ak, ck, rfl, hck⟩ := own_form hok
      have HOK2 := Lib.hid hok
      have HB3 := Lib.hid hb0
      obtain ⟨kn, hkn⟩ : ∃ kn, K.length = kn := ⟨_, rfl⟩
      have HKN := Lib.hid hkn
      rw [hkn] at hck hKlen ⊢
      have c0 := (HX.out.next hb0).cell 0
      clear hok hK hkn hb0
      go_wp2_with fail
      go_loopw [10, 11] (fun v10 v11 wr => ∃ i at' : Nat, v11 = .int .i64 i ∧ v10 = .int .i64 at' ∧ i ≤ n ∧ at' ≤ kn ∧ Hid (at' = (kidsF cs x (cs.take i)).length) ∧ Below w3.heap.size w3 wr) (fun v10 v11 wr => n - (intOf v11).toNat)
      case atStart => exact ⟨0, 0, rfl, rfl, Nat.zero_le _, Nat.zero_le _, Lib.hid rfl, Below.refl _ _⟩
      case round =>
        obtain ⟨i, at', rfl, rfl, hi, hat, HAT, hB⟩ := hrel
        clear c0
        have hBW := HB3.out.trans (hB.mono HB3.out.size)
        have c0 := (HX.out.next hBW).cell 0
        by_cases hlt : i < n
        · obtain ⟨c, hck2⟩ : ∃ c, cs[i]? = some c := ⟨cs[i]'(by rw [HL.out]; exact hlt), List.getElem?_eq_getElem _⟩
          obtain ⟨b', o', _, _, _, _, _, _, e', fb, _⟩ := cl_cells (cl_below HCW.out hBW) hck2
          injection e' with e'; injection e' with e1 e2; subst e1 e2
          have HS2 : Hid (∀ (q : Bool) (e : subS cs c.1 x = q), Calls Try.prog 9 #[.agg #[.slice (some ⟨bb, oo, none⟩) n cp], .string c.1, .string x] wr fun e w'' => e = .returned (.bool q) ∧ Below wr.heap.size wr w'') := Lib.hid fun q e => by rw [← e]; exact sub_any (cl_below HCW.out hBW) c.1 x
          have HYES := Lib.hid (fun hb => kids_yes (cs := cs) x hck2 hb)
          have HNO := Lib.hid (fun hb => kids_no HG.out.good x hck2 hb)
          have HKID := Lib.hid (fun hne => HG.out.kid hck2 HAK.out hne)
          have HSELF : Hid (c.1 = x → kidB cs x c = false) := Lib.hid (fun e => by rw [← e]; exact kid_self c)
          rw [HK.out, ← HAT.out] at HYES HNO
          obtain ⟨y, sy⟩ := c
          have hB2 := Lib.hid hB
          clear hck2 hBW hB
          by_cases hyx : y = x
          · have HB := Lib.hid (HSELF.out hyx)
            subst hyx
            have HN := HNO.out HB.out
            have HN1 := Lib.hid HN.1
            have HN2 := Lib.hid HN.2
            clear HN
            by_cases hl : at' < kn
            · obtain ⟨s, hs⟩ : ∃ s, K[at']? = some s := ⟨K[at']'(by rw [HKN.out]; exact hl), List.getElem?_eq_getElem _⟩
              have hne2 := ba_ne (HN1.out s hs)
              obtain ⟨gk, rfl⟩ : ∃ gk, Ak = some ⟨gk, 0, none⟩ := by
                rcases HOK2.out.2 with ⟨_, e⟩ | ⟨gk, c', cur, e, _⟩
                · have := HKN.out; omega
                · injection e with e _ _; exact ⟨gk, e⟩
              have d0 : wr.cell? ⟨gk, at', none⟩ = some (.string s) := by
                refine KeepC.below hB2.out _ _ ?_
                rw [HOK2.out.cellAt at' (by rw [HKN.out]; omega)]; exact strsV_at hs
              clear hs
              go_wp2_with fail
              go_roundw
              case rel => exact ⟨i + 1, at', by simp, rfl, by omega, hat, Lib.hid HN2.out.symm, hB2.out⟩
              case measure => simp [intOf]; omega
            · skip
              go_wp2_with fail
              go_roundw
              case rel => exact ⟨i + 1, at', by simp, rfl, by omega, hat, Lib.hid HN2.out.symm, hB2.out⟩
              case measure => simp [intOf]; omega
          · have hq1 : (y.toList == x.toList) = false := ba_ne hyx
            have hq2 : (y.toList != x.toList) = true := by simp [bne, hq1]
            have HKB := Lib.hid (HKID.out hyx)
            obtain ⟨q, hq⟩ : ∃ q, subS cs y x = q := ⟨_, rfl⟩
            have HQ := Lib.hid hq
            have HB : Hid (kidB cs x (y, sy) = q) := Lib.hid (HKB.out.trans hq)
            clear hyx hq HKB
            cases q
            · skip
              have HN := HNO.out HB.out
              have HN1 := Lib.hid HN.1
              have HN2 := Lib.hid HN.2
              clear HN
              by_cases hl : at' < kn
              · obtain ⟨s, hs⟩ : ∃ s, K[at']? = some s := ⟨K[at']'(by rw [HKN.out]; exact hl), List.getElem?_eq_getElem _⟩
                have hne2 := ba_ne (HN1.out s hs)
                obtain ⟨gk, rfl⟩ : ∃ gk, Ak = some ⟨gk, 0, none⟩ := by
                  rcases HOK2.out.2 with ⟨_, e⟩ | ⟨gk, c', cur, e, _⟩
                  · have := HKN.out; omega
                  · injection e with e _ _; exact ⟨gk, e⟩
                have d0 : wr.cell? ⟨gk, at', none⟩ = some (.string s) := by
                  refine KeepC.below hB2.out _ _ ?_
                  rw [HOK2.out.cellAt at' (by rw [HKN.out]; omega)]; exact strsV_at hs
                clear hs
                go_wp2_with (go_at_call 9; refine (HS2.out _ HQ.out).mono ?_; rintro e w4 ⟨rfl, hb⟩)
                go_roundw
                case rel => exact ⟨i + 1, at', by simp, rfl, by omega, hat, Lib.hid HN2.out.symm, hB2.out.trans (hb.mono hB2.out.size)⟩
                case measure => simp [intOf]; omega
              · skip
                go_wp2_with (go_at_call 9; refine (HS2.out _ HQ.out).mono ?_; rintro e w4 ⟨rfl, hb⟩)
                go_roundw
                case rel => exact ⟨i + 1, at', by simp, rfl, by omega, hat, Lib.hid HN2.out.symm, hB2.out.trans (hb.mono hB2.out.size)⟩
                case measure => simp [intOf]; omega
            · have HN := HYES.out HB.out
              have HN2 := Lib.hid HN.2
              have hs := HN.1
              have hl : at' < kn := by rw [← HKN.out]; exact (List.getElem?_eq_some_iff.1 hs).1
              obtain ⟨gk, rfl⟩ : ∃ gk, Ak = some ⟨gk, 0, none⟩ := by
                rcases HOK2.out.2 with ⟨_, e⟩ | ⟨gk, c', cur, e, _⟩
                · have := HKN.out; omega
                · injection e with e _ _; exact ⟨gk, e⟩
              have d0 : wr.cell? ⟨gk, at', none⟩ = some (.string y) := by
                refine KeepC.below hB2.out _ _ ?_
                rw [HOK2.out.cellAt at' (by rw [HKN.out]; omega)]; exact strsV_at hs
              clear hs HN
              go_wp2_with (go_at_call 9; refine (HS2.out _ HQ.out).mono ?_; rintro e w4 ⟨rfl, hb⟩)
              go_roundw
              case rel => exact ⟨i + 1, at' + 1, by simp, by simp, by omega, by omega, Lib.hid HN2.out.symm, hB2.out.trans (hb.mono hB2.out.size)⟩
              case measure => simp [intOf]; omega
        · have HE : Hid (at' = kn) := Lib.hid (by
            rw [HAT.out, List.take_of_length_le (by rw [HL.out]; omega), HK.out]; exact HKN.out)
          have hE := HE.out
          subst hE
          have HCW2 := Lib.hid (cl_below HCW.out hBW)
          have HBW2 := Lib.hid hBW
          clear hB hBW HAT
          go_wp2_with fail
          refine (kchain_any HCW2.out HSM.out x).mono ?_
          rintro e w4 ⟨vl, l, rfl, hl, hol, hb⟩
          have hb0 := HBW2.out.trans (hb.mono HBW2.out.size)
          obtain ⟨hz0, hz1⟩ := HCL.out l hl
          clear hb hl c0
          obtain ⟨Al, cl, rfl, hcl⟩ := own_form hol
          have hlp : 0 < l.length := by omega
          obtain ⟨gl, rfl⟩ : ∃ gl, Al = some ⟨gl, 0, none⟩ := by
            rcases hol.2 with ⟨_, e⟩ | ⟨gl, c', cur, e, _⟩
            · omega
            · injection e with e _ _; exact ⟨gl, e⟩
          have HD0 : Hid (w4.cell? ⟨gl, 0, none⟩ = some (.string x)) := Lib.hid (by rw [hol.cellAt 0 (by omega)]; exact strsV_at hz0)
          obtain ⟨m, hm⟩ : ∃ m, l.length = m := ⟨_, rfl⟩
          rw [hm] at hz1 hcl hlp ⊢
          have HZ := Lib.hid hz1
          have hB4 := Lib.hid hb0
          clear hz0 hz1 hol hm
          have c0 := (HX.out.next hb0).cell 0
          go_wp2_with fail
          refine (told6_any _).mono ?_
          rintro e w5 ⟨rfl, hb⟩
          have d0 := KeepC.below hb _ _ HD0.out
          replace hb0 := hb0.trans (hb.mono hb0.size)
          clear hb c0
          have c0 := (HX.out.next hb0).cell 0
          rcases HZ.out with ⟨z1, z2⟩ | ⟨z1, z2⟩
          · subst z1
            have HS3 : Hid (superS cs x = ⟨#[]⟩) := Lib.hid (HSU.out.trans z2)
            clear HZ
            go_wp2_with fail
            refine (super_any (cl_below HCW.out hb0) HSM.out x).mono ?_
            rintro e w6 ⟨rfl, hb⟩
            replace hb0 := hb0.trans (hb.mono hb0.size)
            rw [HS3.out]
            go_wp2_with fail
            go_ret
            exact ⟨rfl, HBW.out.trans (hb0.mono HBW.out.size)⟩
          · have hm1 : ((m : Int) == 1) = false := by rw [beq_eq_false_iff_ne]; omega
            have hm2 := isEmpty_no z2
            have hm3 := ba_ne_l [] z2
            clear HZ z2
            go_wp2_with fail
            refine (super_any (cl_below HCW.out hb0) HSM.out x).mono ?_
            rintro e w6 ⟨rfl, hb⟩
            replace hb0 := hb0.trans (hb.mono hb0.size)
            rw [show superS cs x = sx from HSU.out]
            go_wp2_with fail
            go_ret
            exact ⟨rfl, HBW.out.trans (hb0.mono HBW.out.size)⟩
  · have hz1 : (e1 != 0) = true := by simpa using hz
    clear hz
    go_wp2_with (go_at_call 8; refine (told6_any _).mono ?_; rintro e w3 ⟨rfl, hb⟩)
    go_ret
    exact ⟨rfl, HBW.out.trans ((hb0.trans (hb.mono hb0.size)).mono HBW.out.size)⟩
end Go.Proofs.Ytiibneldabfokaa
