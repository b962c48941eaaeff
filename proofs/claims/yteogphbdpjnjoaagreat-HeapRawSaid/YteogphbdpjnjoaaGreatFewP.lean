/- changelinglaw3.Few: of a program. -/
import Derived.Test.YteogphbdpjnjoaaGreatFew
import Derived.Deep.DeepCutAuto
set_option linter.unusedSimpArgs false
set_option linter.unusedVariables false
namespace Go.Proofs.YteogphbdpjnjoaaGreat
open Go.RowKit
/-- It tells whether a program is few: what that gives. -/
def FewQ (p : Prop) (w : World) (e : Ending) (w' : World) : Prop := ∃ b : Bool, e = .returned (.bool b) ∧ (b = true → p) ∧ Below w.heap.size w w'
set_option maxRecDepth 100000 in
set_option maxHeartbeats 4000000 in
theorem few_prog_any (w : World) (v : Value) (l : List Nd) (hr : Rw w .cl v l) (hk : KdL w l) : Calls Tryz.prog 6 #[.agg #[v]] w (FewQ (sizeL l ≤ 425) w) := by
  obtain ⟨A, cap, rfl⟩ := hr.form
  have hlen : l.length ≤ maxLen := by obtain ⟨_, _, _, h, _⟩ := hr; exact h.1
  unfold maxLen at hlen
  obtain ⟨n, hn⟩ : ∃ n, l.length = n := ⟨_, rfl⟩
  rw [hn] at hr hlen ⊢
  have hb0 : Below w.heap.size w (w.alloc (.cells #[.slice A n cap] 24)) := (Below.refl _ w).alloc (Nat.le_refl _) _
  have c0 : (w.alloc (.cells #[.slice A n cap] 24)).cell? ⟨w.heap.size, 0, none⟩ = some (.slice A n cap) := by simp [go_sem]
  have HR := Lib.hid hr; have HK := Lib.hid hk; have HLN := Lib.hid hn
  clear hr hk hn
  by_cases h25 : n ≤ 25
  · have h25' : (n : Int) ≤ 25 := by omega
    go_enter Tryz.func6, Tryz.ntmps6
    go_wp2_with fail
    obtain ⟨W0, hW0⟩ : ∃ W0, w.alloc (.cells #[.slice A n cap] 24) = W0 := ⟨_, rfl⟩
    rw [hW0] at hb0 c0 ⊢
    have hsz0 : W0.heap.size = w.heap.size + 1 := by rw [← hW0]; simp
    have HB0 := Lib.hid hb0
    clear hW0 hb0
    go_loopw [3, 4] (fun v3 v4 wr => ∃ (k : Nat) (m : Int), v4 = .int .i64 k ∧ k ≤ n ∧ v3 = .int .i64 m ∧ 0 ≤ m ∧ m ≤ 400 ∧ (sizeL (l.take k) : Int) = k + m ∧ Below W0.heap.size W0 wr) (fun v3 v4 wr => n - (intOf v4).toNat)
    case atStart => exact ⟨0, 0, rfl, Nat.zero_le _, rfl, Int.le_refl _, by omega, by simp [sizeL], Below.refl _ _⟩
    case round =>
      obtain ⟨k, m, rfl, hkn, rfl, hm0, hm1, hsz, hB⟩ := hrel
      have d0 := (Keep.below hB) _ _ c0
      by_cases hlt : k < n
      · have K : Keep w wr := Keep.below (HB0.out.trans (hB.mono HB0.out.size))
        obtain ⟨b, o, x, rfl, hx, hxt, hc⟩ := (HR.out.keep K).get hlt
        have hxk := KdL.mem_get (KdL.keep K _ HK.out) hx
        cases x <;> first | (simp [Nd.tag] at hxt; done) | skip
        rename_i xnm xsp vf vm f mm
        have c0' := hc 0 _ rfl; have c1' := hc 1 _ rfl; have c2' := hc 2 _ rfl; have c3' := hc 3 _ rfl
        simp only [Tg.sz, Nat.add_zero] at c0' c1' c2' c3'
        rw [Kd] at hxk
        obtain ⟨A1, n1, rfl⟩ := hxk.2.1.1.form
        obtain ⟨A2, n2, rfl⟩ := hxk.2.2.1.form
        have hz := sizeL_take_succ hx
        have hxs : (Nd.cl xnm xsp (.slice A1 f.length n1) (.slice A2 mm.length n2) f mm).size = 1 + (sizeL f + sizeL mm) := by simp [Nd.size]
        rw [hxs] at hz
        have hfm : f.length ≤ maxLen := by obtain ⟨_, _, _, h, _⟩ := hxk.2.1.1; exact h.1
        have hmm : mm.length ≤ maxLen := by obtain ⟨_, _, _, h, _⟩ := hxk.2.2.1; exact h.1
        have hy1 := hxk.1.1; have hy2 := hxk.1.2
        unfold maxLen at hfm hmm hy1 hy2
        have HZ := Lib.hid hz
        have HSZ := Lib.hid hsz
        have HX := Lib.hid hxk
        have HB := Lib.hid hB
        have hlw := hB.size
        clear hz hsz hxk hB hc hx hxs hxt K
        obtain ⟨fn, hfn⟩ : ∃ q, f.length = q := ⟨_, rfl⟩
        obtain ⟨mn, hmn⟩ : ∃ q, mm.length = q := ⟨_, rfl⟩
        have HFN := Lib.hid hfn; have HMN := Lib.hid hmn
        rw [hfn] at hfm c2' HX; rw [hmn] at hmm c3' HX
        clear hfn hmn
        by_cases t1 : fn ≤ 40
        · by_cases t2 : mn ≤ 40
          · by_cases t3 : xnm.size ≤ 100
            · by_cases t4 : xsp.size ≤ 100
              · have t1' : (fn : Int) ≤ 40 := by omega
                have t2' : (mn : Int) ≤ 40 := by omega
                have t3' : (xnm.size : Int) ≤ 100 := by omega
                have t4' : (xsp.size : Int) ≤ 100 := by omega
                go_wp2_with fail
                obtain ⟨W1, hW1⟩ : ∃ W1, wr.alloc (.cells #[.string xnm, .string xsp, .slice A1 fn n1, .slice A2 mn n2] 51) = W1 := ⟨_, rfl⟩
                rw [hW1]
                have hb1 : Below wr.heap.size wr W1 := by rw [← hW1]; exact (Below.refl _ wr).alloc (Nat.le_refl _) _
                have hx1 : Bx W1 wr.heap.size #[.string xnm, .string xsp, .slice A1 fn n1, .slice A2 mn n2] 51 := by rw [← hW1]; exact Bx.new _ _ _
                have HS1 : Hid (∀ w', Below W1.heap.size W1 w' → w'.cell? ⟨w.heap.size, 0, none⟩ = some (.slice (some ⟨b, o, none⟩) n cap) ∧ w'.cell? ⟨wr.heap.size, 2, none⟩ = some (.slice A1 fn n1) ∧ w'.cell? ⟨wr.heap.size, 3, none⟩ = some (.slice A2 mn n2)) := by
                  show ∀ w', _
                  intro w' hb
                  exact ⟨Keep.below (hb1.trans (hb.mono hb1.size)) _ _ d0, (hx1.next hb).cell 2, (hx1.next hb).cell 3⟩
                have HX1 : Hid (∀ w', Below W1.heap.size W1 w' → (Rw w' .fd (.slice A1 fn n1) f ∧ KdL w' f) ∧ Rw w' .mt (.slice A2 mn n2) mm ∧ KdL w' mm) := by
                  show ∀ w', _
                  intro w' hb
                  have K := Keep.below (hb1.trans (hb.mono hb1.size))
                  exact ⟨⟨HX.out.2.1.1.keep K, KdL.keep K _ HX.out.2.1.2⟩, HX.out.2.2.1.keep K, KdL.keep K _ HX.out.2.2.2⟩
                have HW1 := Lib.hid ((HB0.out.trans (HB.out.mono HB0.out.size)).trans (hb1.mono (HB0.out.trans (HB.out.mono HB0.out.size)).size))
                have HWr := Lib.hid (HB.out.trans (hb1.mono HB.out.size))
                clear hW1 hx1 hb1 c0' c1' c2' c3' d0 HX t1' t2' t3' t4' t1 t2 t3 t4 hy1 hy2
                go_loopw [3, 6] (fun v3 v6 wx => ∃ (j : Nat) (q : Int), v6 = .int .i64 j ∧ j ≤ fn ∧ v3 = .int .i64 q ∧ 0 ≤ q ∧ q ≤ 400 ∧ q = m + (sizeL (f.take j) : Int) ∧ Below W1.heap.size W1 wx) (fun v3 v6 wx => fn - (intOf v6).toNat)
                case atStart => exact ⟨0, m, rfl, Nat.zero_le _, rfl, hm0, hm1, by simp [sizeL], Below.refl _ _⟩
                case round =>
                  obtain ⟨j, q, rfl, hjn, rfl, hq0, hq1, hqs, hC⟩ := hrel
                  have HQS := Lib.hid hqs
                  clear hqs
                  obtain ⟨e0, e2, e3⟩ := HS1.out _ hC
                  by_cases hjl : j < fn
                  · obtain ⟨⟨hRf, hKf⟩, _, _⟩ := HX1.out _ hC
                    obtain ⟨b1, o1, y, rfl, hy, hyt, hcy⟩ := hRf.get hjl
                    have hyk := KdL.mem_get hKf hy
                    cases y <;> first | (simp [Nd.tag] at hyt; done) | skip
                    rename_i ys yty ynm yv yl
                    have g1 := hcy 1 _ rfl; have g2 := hcy 2 _ rfl; have g3 := hcy 3 _ rfl
                    simp only [Tg.sz] at g1 g2 g3
                    rw [Kd] at hyk
                    have hs1 := hyk.1.1; have hs2 := hyk.1.2
                    unfold maxLen at hs1 hs2
                    have hz1 := sizeL_take_succ hy
                    have hyz : (Nd.fd ys yty ynm yv yl).size = 1 + sizeL yl := by simp [Nd.size]
                    rw [hyz] at hz1
                    have HE := Lib.hid (few_exprs_any (sizeL yl) _ yv yl 0 (Nat.le_refl _) hyk.2.1 hyk.2.2 (Int.le_refl _) (by omega))
                    obtain ⟨A4, n4, rfl⟩ := hyk.2.1.form
                    clear hRf hKf hcy hyk hy hyt hyz
                    go_wp2_with fail
                    refine HE.out.mono ?_
                    clear HE
                    rintro e w1 ⟨r, rfl, hr, rfl⟩
                    obtain ⟨hr0, hr1, hr2⟩ := hr
                    have hwq : IntKind.i64.wrap (q + 1 + r) = q + 1 + r := by rw [IntKind.wrap_i64]; omega
                    by_cases u1 : q + 1 + r ≤ 400
                    · by_cases u2 : ynm.size ≤ 100
                      · by_cases u3 : yty.size ≤ 100
                        · have u2' : (ynm.size : Int) ≤ 100 := by omega
                          have u3' : (yty.size : Int) ≤ 100 := by omega
                          have hr3 := (hr2 (by omega)).1
                          have HQ := Lib.hid (show q + 1 + r = m + (sizeL (f.take (j + 1)) : Int) by have := HQS.out; rw [hz1]; omega)
                          clear hr2 hz1
                          go_wp2_with fail
                          go_roundw
                          case rel => exact ⟨j + 1, q + 1 + r, by go_num, by omega, rfl, by omega, u1, HQ.out, hC⟩
                          case measure => simp [intOf]; omega
                        · have u2' : (ynm.size : Int) ≤ 100 := by omega
                          have u3' : 100 < (yty.size : Int) := by omega
                          go_wp2_with fail
                          go_ret
                          exact ⟨false, rfl, (fun h => by cases h), HW1.out.trans (hC.mono HW1.out.size)⟩
                      · have u2' : 100 < (ynm.size : Int) := by omega
                        go_wp2_with fail
                        go_ret
                        exact ⟨false, rfl, (fun h => by cases h), HW1.out.trans (hC.mono HW1.out.size)⟩
                    · have u1' : 400 < q + 1 + r := by omega
                      go_wp2_with fail
                      go_ret
                      exact ⟨false, rfl, (fun h => by cases h), HW1.out.trans (hC.mono HW1.out.size)⟩
                  · have hfl : f.take j = f := List.take_of_length_le (by rw [HFN.out]; omega)
                    have hqs := HQS.out
                    rw [hfl] at hqs
                    have HQF := Lib.hid hqs
                    clear hqs HQS hfl
                    go_wp2_with fail
                    go_loopw [3, 7] (fun v3 v7 wx => ∃ (j : Nat) (q : Int), v7 = .int .i64 j ∧ j ≤ mn ∧ v3 = .int .i64 q ∧ 0 ≤ q ∧ q ≤ 400 ∧ q = m + (sizeL f : Int) + (sizeL (mm.take j) : Int) ∧ Below W1.heap.size W1 wx) (fun v3 v7 wx => mn - (intOf v7).toNat)
                    case atStart => exact ⟨0, q, rfl, Nat.zero_le _, rfl, hq0, hq1, by have := HQF.out; simp [sizeL]; omega, hC⟩
                    case round =>
                      obtain ⟨i, p, rfl, hin, rfl, hp0, hp1, hps, hD⟩ := hrel
                      have HPS := Lib.hid hps
                      clear hps hC e0 e2 e3
                      obtain ⟨e0, e2, e3⟩ := HS1.out _ hD
                      by_cases hil : i < mn
                      · obtain ⟨_, hRm, hKm⟩ := HX1.out _ hD
                        obtain ⟨b1, o1, y, rfl, hy, hyt, hcy⟩ := hRm.get hil
                        have hyk := KdL.mem_get hKm hy
                        cases y <;> first | (simp [Nd.tag] at hyt; done) | skip
                        rename_i ys yc yty ynm yvp yps yv yl
                        have g2 := hcy 2 _ rfl; have g3 := hcy 3 _ rfl; have g4 := hcy 4 _ rfl; have g5 := hcy 5 _ rfl
                        simp only [Tg.sz] at g2 g3 g4 g5
                        rw [Kd] at hyk
                        have hs1 := hyk.1.1; have hs2 := hyk.1.2
                        obtain ⟨A5, n5, rfl, hs3, _, _⟩ := hyk.2.1
                        unfold maxLen at hs1 hs2 hs3
                        have hz1 := sizeL_take_succ hy
                        have hyz : (Nd.mt ys yc yty ynm (.slice A5 yps.length n5) yps yv yl).size = 1 + sizeL yl := by simp [Nd.size]
                        rw [hyz] at hz1
                        have HE := Lib.hid (few_stmts_any (sizeL yl) _ yv yl 0 (Nat.le_refl _) hyk.2.2.1 hyk.2.2.2 (Int.le_refl _) (by omega))
                        obtain ⟨A4, n4, rfl⟩ := hyk.2.2.1.form
                        have hbx := (show ∀ w', Below wr.heap.size wr w' → w'.cell? ⟨b1, o1 + i * 6 + 2, none⟩ = some (.string yty) ∧ w'.cell? ⟨b1, o1 + i * 6 + 3, none⟩ = some (.string ynm) ∧ w'.cell? ⟨b1, o1 + i * 6 + 4, none⟩ = some (.slice A5 yps.length n5) from fun w' hb => ⟨Keep.below hb _ _ g2, Keep.below hb _ _ g3, Keep.below hb _ _ g4⟩)
                        have HBX := Lib.hid hbx
                        clear hRm hKm hcy hyk hy hyt hyz hbx g2 g3 g4
                        go_wp2_with fail
                        refine HE.out.mono ?_
                        clear HE
                        rintro e w1 ⟨r, rfl, hr, hbr⟩
                        obtain ⟨hr0, hr1, hr2⟩ := hr
                        obtain ⟨g2, g3, g4⟩ := HBX.out _ hbr
                        have hD1 := hD.trans (hbr.mono hD.size)
                        obtain ⟨k0, k2, k3⟩ := HS1.out _ hD1
                        have hwq : IntKind.i64.wrap (p + 1 + r) = p + 1 + r := by rw [IntKind.wrap_i64]; omega
                        clear e0 e2 e3 g5 HBX hbr
                        by_cases u1 : p + 1 + r ≤ 400
                        · by_cases u4 : yps.length ≤ 20
                          · by_cases u2 : ynm.size ≤ 100
                            · by_cases u3 : yty.size ≤ 100
                              · have u4' : (yps.length : Int) ≤ 20 := by omega
                                have u2' : (ynm.size : Int) ≤ 100 := by omega
                                have u3' : (yty.size : Int) ≤ 100 := by omega
                                have hr3 := (hr2 (by omega)).1
                                have HQ := Lib.hid (show p + 1 + r = m + (sizeL f : Int) + (sizeL (mm.take (i + 1)) : Int) by have := HPS.out; rw [hz1]; omega)
                                clear hr2 hz1
                                go_wp2_with fail
                                go_roundw
                                case rel => exact ⟨i + 1, p + 1 + r, by go_num, by omega, rfl, by omega, u1, HQ.out, hD1⟩
                                case measure => simp [intOf]; omega
                              · have u4' : (yps.length : Int) ≤ 20 := by omega
                                have u2' : (ynm.size : Int) ≤ 100 := by omega
                                have u3' : 100 < (yty.size : Int) := by omega
                                go_wp2_with fail
                                go_ret
                                exact ⟨false, rfl, (fun h => by cases h), HW1.out.trans (hD1.mono HW1.out.size)⟩
                            · have u4' : (yps.length : Int) ≤ 20 := by omega
                              have u2' : 100 < (ynm.size : Int) := by omega
                              go_wp2_with fail
                              go_ret
                              exact ⟨false, rfl, (fun h => by cases h), HW1.out.trans (hD1.mono HW1.out.size)⟩
                          · have u4' : 20 < (yps.length : Int) := by omega
                            go_wp2_with fail
                            go_ret
                            exact ⟨false, rfl, (fun h => by cases h), HW1.out.trans (hD1.mono HW1.out.size)⟩
                        · have u1' : 400 < p + 1 + r := by omega
                          go_wp2_with fail
                          go_ret
                          exact ⟨false, rfl, (fun h => by cases h), HW1.out.trans (hD1.mono HW1.out.size)⟩
                      · have hml : mm.take i = mm := List.take_of_length_le (by rw [HMN.out]; omega)
                        have hps := HPS.out
                        rw [hml] at hps
                        have HFIN := Lib.hid (show ((sizeL (l.take (k + 1)) : Nat) : Int) = ((k + 1 : Nat) : Int) + p by have := HSZ.out; rw [HZ.out]; omega)
                        have HDW := Lib.hid (HWr.out.trans (hD.mono HWr.out.size))
                        clear hps HPS HQF
                        go_wp2_with fail
                        go_roundw
                        case rel => exact ⟨k + 1, p, by go_num, by omega, rfl, hp0, hp1, HFIN.out, HDW.out⟩
                        case measure => simp [intOf]; omega
              · have t1' : (fn : Int) ≤ 40 := by omega
                have t2' : (mn : Int) ≤ 40 := by omega
                have t3' : (xnm.size : Int) ≤ 100 := by omega
                have t4' : 100 < (xsp.size : Int) := by omega
                go_wp2_with fail
                go_ret
                exact ⟨false, rfl, (fun h => by cases h), (HB0.out.trans (HB.out.mono HB0.out.size)).alloc (by omega) _⟩
            · have t1' : (fn : Int) ≤ 40 := by omega
              have t2' : (mn : Int) ≤ 40 := by omega
              have t3' : 100 < (xnm.size : Int) := by omega
              go_wp2_with fail
              go_ret
              exact ⟨false, rfl, (fun h => by cases h), (HB0.out.trans (HB.out.mono HB0.out.size)).alloc (by omega) _⟩
          · have t1' : (fn : Int) ≤ 40 := by omega
            have t2' : 40 < (mn : Int) := by omega
            go_wp2_with fail
            go_ret
            exact ⟨false, rfl, (fun h => by cases h), (HB0.out.trans (HB.out.mono HB0.out.size)).alloc (by omega) _⟩
        · have t1' : 40 < (fn : Int) := by omega
          go_wp2_with fail
          go_ret
          exact ⟨false, rfl, (fun h => by cases h), (HB0.out.trans (HB.out.mono HB0.out.size)).alloc (by omega) _⟩
      · have hkl : l.take k = l := List.take_of_length_le (by rw [HLN.out]; omega)
        rw [hkl] at hsz
        have hfin := HB0.out.trans (hB.mono HB0.out.size)
        go_wp2_with fail
        go_ret
        exact ⟨true, rfl, (fun _ => by omega), hfin⟩
  · have h25' : (25 : Int) < n := by omega
    go_enter Tryz.func6, Tryz.ntmps6
    go_wp2_with fail
    go_ret
    exact ⟨false, rfl, (fun h => by cases h), hb0⟩
end Go.Proofs.YteogphbdpjnjoaaGreat
