/- TreeBare: for every input the statement's function returns true, and each argument reads behind the call as it read before. No condition but what the given row says. -/
import Derived.Test.YtlpddmncgmhkeaaCopyC
import Derived.Test.YtlpddmncgmhkeaaAllE
import Derived.Test.YtlpddmncgmhkeaaBareP
import Derived.Test.YtlpddmncgmhkeaaBareL
import Derived.Test.YtlpddmncgmhkeaaOpenS
import Derived.Test.YtlpddmncgmhkeaaRefU
import Derived.Test.YtlpddmncgmhkeaaTold3
import Derived.Test.YtlpddmncgmhkeaaRows
import Derived.Below
import Derived.WalkKit
import Derived.ProofKit
import Derived.OpenShut
import Derived.ShutString
import Derived.ReadAgain
import Derived.SizedLaws
/- TreeBare. -/
set_option linter.unusedSimpArgs false
set_option linter.unusedVariables false
namespace Go.Proofs.Ytlpddmncgmhkeaa
open Go.RowKit
theorem RowE.at {B n : Nat} {w : World} {v : Value} (h : RowE B w v n) : ∃ A cap, v = .slice A n cap ∧ ∀ k, k < n → ∃ g, A = some ⟨g, 0, none⟩ ∧ w.cell? ⟨g, k * 8 + 6, none⟩ = some (.string ⟨#[]⟩) ∧ w.cell? ⟨g, k * 8 + 7, none⟩ = some (.int .i64 0) := by
  obtain ⟨es, h1, h2, h3⟩ := h
  obtain ⟨A, cap, rfl, _⟩ := own_form h2
  refine ⟨A, cap, by rw [h1], fun k hk => ?_⟩
  obtain ⟨g, cap', hv, _, _, hat⟩ := own_row h2 (by omega)
  injection hv with hA
  have hx : es[k]? = some (es[k]'(by omega)) := List.getElem?_eq_getElem (by omega)
  obtain ⟨a, b, tx, nm, ty, A', len, cap2, l, he⟩ := h3 _ (List.mem_of_getElem? hx)
  have ht : ∀ x ∈ es, x.tag = .ex := fun x hx => by obtain ⟨a, b, tx, nm, ty, A', len, cap2, l, rfl⟩ := h3 x hx; rfl
  have c6 := flat_get es k 6 _ ht hx (by simp [Tg.sz])
  have c7 := flat_get es k 7 _ ht hx (by simp [Tg.sz])
  rw [he] at c6 c7
  exact ⟨g, hA, (hat (k * 8 + 6) _ c6).1, (hat (k * 8 + 7) _ c7).1⟩
set_option maxRecDepth 100000 in
set_option maxHeartbeats 8000000 in
theorem bare_law (w : World) (u : Value) (l : List Nd) (hr : Rw w .cl u l) (hk : KdL w l) (hz : ∀ x ∈ l, Sz x) :
    Calls Try.prog 3 #[.agg #[u]] w fun e w' => e = .returned (.bool true) ∧ Below w.heap.size w w' := by
  obtain ⟨A1, n1, rfl⟩ := hr.form
  obtain ⟨n, hn⟩ : ∃ q, l.length = q := ⟨_, rfl⟩
  rw [hn] at hr ⊢
  obtain ⟨W, hW⟩ : ∃ W, w.alloc (.cells #[.slice A1 n n1] 24) = W := ⟨_, rfl⟩
  have hb : Below w.heap.size w W := by rw [← hW]; exact (Below.refl _ w).alloc (Nat.le_refl _) _
  have hx : Bx W w.heap.size #[.slice A1 n n1] 24 := by rw [← hW]; exact Bx.at_new rfl
  have HW := Lib.hid hb
  have HS : Hid (∀ w', Below W.heap.size W w' → w'.cell? ⟨w.heap.size, 0, none⟩ = some (.slice A1 n n1)) := by
    show ∀ w', _
    intro w' hc; exact (hx.next hc).cell 0
  have HK : Hid (∀ w', Below W.heap.size W w' → Rw w' .cl (.slice A1 n n1) l ∧ KdL w' l) := by
    show ∀ w', _
    intro w' hc
    have K := Keep.below (hb.trans (hc.mono hb.size))
    exact ⟨hr.keep K, KdL.keep K _ hk⟩
  have HT : Hid (∀ w', Calls Try.prog 5 #[] w' fun e w'' => e = .returned (.bool true) ∧ Below w'.heap.size w' w'') := told_any
  have F1 : Hid (∀ w', Below W.heap.size W w' → Calls Try.prog 4 #[.agg #[.slice A1 n n1]] w' (FewQ (sizeL l ≤ 425 ∧ ∀ x ∈ l, ∀ y ∈ x.kids, psN y) w')) := by
    show ∀ w', _
    intro w' hc; exact few_prog_ps w' _ l (HK.out _ hc).1 (HK.out _ hc).2
  have HTG : Hid (∀ x ∈ l, x.tag = .cl ∧ Kd w x ∧ Sz x) := by
    show ∀ x ∈ l, _
    intro x hx; exact ⟨hr.tags x hx, KdL_mem hk x hx, hz x hx⟩
  have hB : Below W.heap.size W W := Below.refl _ _
  have HN := Lib.hid hn
  clear hr hk hz hb hx hn
  have x0 := HS.out _ hB
  go_enter Try.func3, Try.ntmps3
  go_wp2_with fail
  clear hW
  refine (F1.out _ hB).mono ?_
  rintro e w1 ⟨b1, rfl, g1, hc1⟩
  have hB := hB.trans (hc1.mono hB.size)
  clear hc1 F1 x0
  have x0 := HS.out _ hB
  cases b1
  · go_wp2_with (go_at_call 5; refine (HT.out _).mono ?_; rintro e wt ⟨rfl, hct⟩; have hB := hB.trans (hct.mono hB.size); clear hct)
    go_ret
    exact ⟨rfl, HW.out.trans (hB.mono HW.out.size)⟩
  obtain ⟨hs, hps⟩ := g1 rfl
  have HPS := Lib.hid hps
  clear hps g1
  go_wp2_with fail
  refine (copy_prog w1 _ l (HK.out _ hB).1 (HK.out _ hB).2 (by omega) HPS.out).mono ?_
  rintro e w2 ⟨v2, l2, rfl, hf2, hl2, hc2⟩
  have hB2 := hB.trans (hc2.mono hB.size)
  obtain ⟨A2, n2, rfl⟩ := fk_len hf2
  have HF2 := Lib.hid (And.intro hf2 hl2)
  have x0 := HS.out _ hB2
  clear hf2 hl2 hc2 hB
  obtain ⟨m2, hm2⟩ : ∃ q, l2.length = q := ⟨_, rfl⟩
  rw [hm2] at HF2 ⊢
  clear hm2
  have hB3 : Below W.heap.size W (w2.alloc (.cells #[.slice A2 m2 n2] 24)) := hB2.alloc hB2.size _
  have hx3 : Bx (w2.alloc (.cells #[.slice A2 m2 n2] 24)) w2.heap.size #[.slice A2 m2 n2] 24 := Bx.new _ _ _
  have hf3 := HF2.out.1.below ((Below.refl _ w2).alloc (Nat.le_refl _) (.cells #[.slice A2 m2 n2] 24))
  have x0 := HS.out _ hB3
  have HX3 := Lib.hid hx3; have HF3 := Lib.hid (And.intro hf3 HF2.out.2)
  have HBA := Lib.hid (bare_any (w2.alloc (.cells #[.slice A2 m2 n2] 24)) _ l (HK.out _ hB3).1 (HK.out _ hB3).2 (fun x hx => sm_cl x (HTG.out x hx).1 (HTG.out x hx).2.1 (HTG.out x hx).2.2 (HPS.out x hx)) (by omega))
  have HB3 := Lib.hid hB3
  clear hx3 hf3 HF2 HTG HPS hB3
  go_wp2_with fail
  refine HBA.out.mono ?_
  clear HBA
  rintro e w4 ⟨v4, l4, rfl, hr4, hk4, hnt, hl4, hc4⟩
  obtain ⟨A4, n4, rfl⟩ := hr4.form
  have hl4n := len_of_bare hl4
  rw [HN.out] at hl4n
  rw [hl4n] at hr4 ⊢
  have hB4 := HB3.out.trans (hc4.mono HB3.out.size)
  have hx4 := HX3.out.next hc4
  have hf4 := HF3.out.1.below hc4
  obtain ⟨W5, hW5⟩ : ∃ q, w4.alloc (.cells #[.slice A4 n n4] 24) = q := ⟨_, rfl⟩
  have hb5 : Below w4.heap.size w4 W5 := by rw [← hW5]; exact (Below.refl _ w4).alloc (Nat.le_refl _) _
  have hy5 : Bx W5 w4.heap.size #[.slice A4 n n4] 24 := by rw [← hW5]; exact Bx.at_new rfl
  have hB5 := hB4.trans (hb5.mono hB4.size)
  have hx5 := hx4.next hb5
  have hf5 := hf4.below hb5
  have hr5 := hr4.keep (Keep.below hb5)
  have hk5 := KdL.keep (Keep.below hb5) _ hk4
  have HB5 := Lib.hid hB5
  have HS5 : Hid (∀ w', Below W5.heap.size W5 w' → w'.cell? ⟨w.heap.size, 0, none⟩ = some (.slice A1 n n1) ∧ w'.cell? ⟨w2.heap.size, 0, none⟩ = some (.slice A2 m2 n2) ∧ w'.cell? ⟨w4.heap.size, 0, none⟩ = some (.slice A4 n n4)) := by
    show ∀ w', _
    intro w' hc
    exact ⟨HS.out _ (hB5.trans (hc.mono hB5.size)), (hx5.next hc).cell 0, (hy5.next hc).cell 0⟩
  have HR5 : Hid (∀ w', Below W5.heap.size W5 w' → Rw w' .cl (.slice A4 n n4) l4 ∧ KdL w' l4) := by
    show ∀ w', _
    intro w' hc
    exact ⟨hr5.keep (Keep.below hc), KdL.keep (Keep.below hc) _ hk5⟩
  obtain ⟨s, hs'⟩ : ∃ q, sizeL l = q := ⟨_, rfl⟩
  obtain ⟨qy, hqy⟩ : ∃ q, mayB l = q := ⟨_, rfl⟩
  have D : Hid (∀ w', Below W5.heap.size W5 w' →
      (Calls Try.prog 8 #[.agg #[.slice A2 m2 n2], .agg #[.slice A1 n n1]] w' fun e w'' => e = .returned (.bool true) ∧ Below w'.heap.size w' w'') ∧
      (Calls Try.prog 9 #[.agg #[.slice A4 n n4], .agg #[.slice A1 n n1]] w' fun e w'' => e = .returned (.bool true) ∧ Below w'.heap.size w' w'') ∧
      (Calls Try.prog 10 #[.agg #[.slice A4 n n4]] w' fun e w'' => e = .returned (.int .i64 (s : Nat)) ∧ Below w'.heap.size w' w'') ∧
      (Calls Try.prog 10 #[.agg #[.slice A1 n n1]] w' fun e w'' => e = .returned (.int .i64 (s : Nat)) ∧ Below w'.heap.size w' w'') ∧
      (Calls Try.prog 11 #[.agg #[.slice A4 n n4]] w' fun e w'' => e = .returned (.bool qy) ∧ Below w'.heap.size w' w'') ∧
      (Calls Try.prog 11 #[.agg #[.slice A1 n n1]] w' fun e w'' => e = .returned (.bool qy) ∧ Below w'.heap.size w' w'')) := by
    show ∀ w', _
    intro w' hc
    obtain ⟨r1, k1⟩ := HK.out _ (hB5.trans (hc.mono hB5.size))
    obtain ⟨r4, k4⟩ := HR5.out _ hc
    have hf6 := (hf5.below hc).now
    have z2 : sizeL l2 = s := by rw [sizeL_of_bare HF3.out.2]; exact hs'
    have z4 : sizeL l4 = s := by rw [sizeL_of_bare hl4]; exact hs'
    have hsl : s ≤ 425 := by omega
    refine ⟨ref_same_prog w' _ _ l2 l hf6.1 hf6.2 r1 k1 (by omega) true ?_, same_prog_any w' _ _ l4 l r4 k4 r1 k1 (by omega) (by omega) true ?_, nodes_any w' _ l4 r4 k4 s z4 (by omega), nodes_any w' _ l r1 k1 s hs' (by omega), may_any w' _ l4 r4 k4 (by omega) qy (by rw [mayB_of_bare hl4]; exact hqy), may_any w' _ l r1 k1 (by omega) qy hqy⟩
    · rw [sameL_of_bare HF3.out.2]; exact sameL_refl _ _ (Nat.le_refl _)
    · rw [sameL_of_bare hl4]; exact sameL_refl _ _ (Nat.le_refl _)
  have HNT : Hid (∀ x ∈ l4, NT x) := hnt
  have HSZ := Lib.hid (show sizeL l4 ≤ 1000000 by rw [sizeL_of_bare hl4]; omega)
  have HL4 := Lib.hid hl4n
  have hnm : n ≤ 1000000 := by have := len_sizeL l; have := HN.out; omega
  clear hl4 hl4n hr4 hk4 hnt hc4 hx4 hf4 hb5 hy5 hB4 hx5 hf5 hr5 hk5 hs' hqy HX3 HF3 HB3 HS x0 hs
  have hB : Below W5.heap.size W5 W5 := Below.refl _ _
  clear hB5
  go_wp2_with fail
  clear hW5
  have hB := hB.drew
  go_region_held3 (fun w' => w'.cell? ⟨w.heap.size, 0, none⟩ = some (.slice A1 n n1) ∧ w'.cell? ⟨w2.heap.size, 0, none⟩ = some (.slice A2 m2 n2) ∧ w'.cell? ⟨w4.heap.size, 0, none⟩ = some (.slice A4 n n4))
    (first | with_reducible exact HS5.out _ hB)
    ((first
      | (go_at_call 8; (with_reducible refine ((D.out _ hB).1).mono ?_); rintro e wn ⟨rfl, hc⟩; have hB := hB.trans (hc.mono hB.size); clear hc)
      | (go_at_call 9; (with_reducible refine ((D.out _ hB).2.1).mono ?_); rintro e wn ⟨rfl, hc⟩; have hB := hB.trans (hc.mono hB.size); clear hc)
      | (go_at_call 10; (with_reducible refine ((D.out _ hB).2.2.1).mono ?_); rintro e wn ⟨rfl, hc⟩; have hB := hB.trans (hc.mono hB.size); clear hc)
      | (go_at_call 10; (with_reducible refine ((D.out _ hB).2.2.2.1).mono ?_); rintro e wn ⟨rfl, hc⟩; have hB := hB.trans (hc.mono hB.size); clear hc)
      | (go_at_call 11; (with_reducible refine ((D.out _ hB).2.2.2.2.1).mono ?_); rintro e wn ⟨rfl, hc⟩; have hB := hB.trans (hc.mono hB.size); clear hc)
      | (go_at_call 11; (with_reducible refine ((D.out _ hB).2.2.2.2.2).mono ?_); rintro e wn ⟨rfl, hc⟩; have hB := hB.trans (hc.mono hB.size); clear hc)))
  all_goals
    clear D
    go_wp2_with fail
    go_loopw [5] (fun v5 wr => ∃ i : Nat, v5 = .int .i64 i ∧ i ≤ n ∧ Below W5.heap.size W5 wr) (fun v5 wr => n - (intOf v5).toNat)
    case atStart => exact ⟨0, rfl, Nat.zero_le _, hB⟩
    case round =>
      obtain ⟨i, rfl, hin, hBi⟩ := hrel
      obtain ⟨_, _, z4⟩ := HS5.out _ hBi
      by_cases hi : i < n
      · obtain ⟨hr, hk⟩ := HR5.out _ (Below.refl _ _)
        obtain ⟨b, o, x, rfl, hx, hxt, hc⟩ := hr.get hi
        have hxk := KdL.mem_get hk hx
        have hxn := HNT.out x (List.mem_of_getElem? hx)
        have hxz := size_mem (List.mem_of_getElem? hx)
        cases x <;> first | (simp [Nd.tag] at hxt; done) | skip
        rename_i xnm xsp vf vm f m
        have hsz : (Nd.cl xnm xsp vf vm f m).size = 1 + (sizeL f + sizeL m) := by simp [Nd.size]
        have hsm := HSZ.out
        rw [Kd] at hxk
        obtain ⟨Am, nm, rfl⟩ := hxk.2.2.1.form
        obtain ⟨mn, hmn⟩ : ∃ q, m.length = q := ⟨_, rfl⟩
        have hmm : mn ≤ 1000000 := by have := len_sizeL m; omega
        have hm0 := hxk.2.2
        have hc3 := hc 3 _ rfl
        rw [hmn] at hm0 hc3
        simp only [Tg.sz] at hc3
        have HM := Lib.hid (And.intro hm0.1 (And.intro hm0.2 (And.intro (show sizeL m ≤ 1000000 by omega) (show ∀ y ∈ m, NT y from fun y hy => hxn.kid (by simp [Nd.kids, hy])))))
        have HC : Hid (∀ w', Below W5.heap.size W5 w' → w'.cell? ⟨w4.heap.size, 0, none⟩ = some (.slice (some ⟨b, o, none⟩) n n4) ∧ w'.cell? ⟨b, o + i * 4 + 3, none⟩ = some (.slice Am mn nm)) := by
          show ∀ w', _
          intro w' hb
          exact ⟨(HS5.out _ hb).2.2, Keep.below hb _ _ hc3⟩
        clear z4 hr hk hx hxt hc hxk hxn hxz hsz hsm hmn hm0 hc3
        obtain ⟨z4, d3⟩ := HC.out _ hBi
        go_wp2_with fail
        go_loopw [6] (fun v6 wx => ∃ k : Nat, v6 = .int .i64 k ∧ k ≤ mn ∧ Below W5.heap.size W5 wx) (fun v6 wx => mn - (intOf v6).toNat)
        case atStart => exact ⟨0, rfl, Nat.zero_le _, hBi⟩
        case round =>
          obtain ⟨k, rfl, hkn, hBk⟩ := hrel
          clear z4 d3 hBi
          obtain ⟨z4, d3⟩ := HC.out _ hBk
          by_cases hkl : k < mn
          · obtain ⟨b1, o1, y, rfl, hy, hyt, hcy⟩ := HM.out.1.get hkl
            have hyk := KdL.mem_get HM.out.2.1 hy
            have hyn := HM.out.2.2.2 y (List.mem_of_getElem? hy)
            have hyz := size_mem (List.mem_of_getElem? hy)
            cases y <;> first | (simp [Nd.tag] at hyt; done) | skip
            rename_i ys yc yty ynm yvp yps yv yl
            have hsz : (Nd.mt ys yc yty ynm yvp yps yv yl).size = 1 + sizeL yl := by simp [Nd.size]
            have hsm := HM.out.2.2.1
            rw [Kd] at hyk
            have e5 := Keep.below hBk _ _ (hcy 5 _ rfl)
            simp only [Tg.sz] at e5
            have HA := Lib.hid (all_row 1000000 (Nat.le_refl _) _ yv yl (by omega) (hyk.2.2.1.keep (Keep.below hBk)) (KdL.keep (Keep.below hBk) _ hyk.2.2.2) (fun z hz => hyn.kid (by simp [Nd.kids, hz])))
            have hyl : sizeL yl ≤ 1000000 := by omega
            obtain ⟨Ay, ny, rfl⟩ := hyk.2.2.1.form
            clear hcy hyk hy hyt hyn hyz hsz hsm
            go_wp2_with (go_at_call 12; refine HA.out.mono ?_; clear HA; rintro e wa ⟨va, cnt, rfl, hcnt, hrow, hca⟩)
            have hBa := hBk.trans (hca.mono hBk.size)
            have HAT : Hid (∀ w', Below wa.heap.size wa w' → ∃ A cap, va = .slice A cnt cap ∧ ∀ q, q < cnt → ∃ g, A = some ⟨g, 0, none⟩ ∧ w'.cell? ⟨g, q * 8 + 6, none⟩ = some (.string ⟨#[]⟩) ∧ w'.cell? ⟨g, q * 8 + 7, none⟩ = some (.int .i64 0)) := by
              show ∀ w', _
              intro w' hb; exact (hrow.next hb).at
            obtain ⟨Ax, cx, rfl, _⟩ := HAT.out _ (Below.refl _ _)
            have hcm : cnt ≤ 1000000 := by omega
            clear hrow hca z4 d3 e5 hBk
            go_wp2_with fail
            go_loopw [8] (fun v8 wx => ∃ q : Nat, v8 = .int .i64 q ∧ q ≤ cnt ∧ Below wa.heap.size wa wx) (fun v8 wx => cnt - (intOf v8).toNat)
            case atStart => exact ⟨0, rfl, Nat.zero_le _, Below.refl _ _⟩
            case round =>
              obtain ⟨q, rfl, hqn, hBq⟩ := hrel
              by_cases hql : q < cnt
              · obtain ⟨A', cap', hv, hat⟩ := HAT.out _ hBq
                obtain ⟨g, hA', c6, c7⟩ := hat q hql
                injection hv with hv1 hv2 hv3
                obtain rfl := hv1.trans hA'
                clear hat hv2 hv3 hv1 hA'
                go_wp2_with fail
                go_roundw
                case rel => exact ⟨q + 1, by go_num, by omega, hBq⟩
                case measure => simp [intOf]; omega
              · have hB6 := hBa.trans (hBq.mono hBa.size)
                go_wp2_with fail
                go_roundw
                case rel => exact ⟨k + 1, by go_num, by omega, hB6⟩
                case measure => simp [intOf]; omega
          · go_wp2_with fail
            go_roundw
            case rel => exact ⟨i + 1, by go_num, by omega, hBk⟩
            case measure => simp [intOf]; omega
      · go_wp2_with (go_at_call 5; refine (HT.out _).mono ?_; rintro e wt ⟨rfl, hct⟩; have hBi := hBi.trans (hct.mono hBi.size); clear hct)
        go_ret
        have h5 := HB5.out.trans (hBi.mono HB5.out.size)
        exact ⟨rfl, HW.out.trans (h5.mono HW.out.size)⟩
end Go.Proofs.Ytlpddmncgmhkeaa
namespace Go.Proofs.Ytlpddmncgmhkeaa.treeBare
open Go.ChangeShapes Go.WideShapes Go.ChangeAt Go.RowKit
set_option linter.unusedVariables false

theorem own : ownKnob Try.prog.godebug = none := by kernel_rfl
theorem kids : Kids Try.prog (· < Try.prog.types.size) := kids_rows (by kernel_rfl) (by kernel_rfl)
theorem full : ∀ t e, t < Try.prog.types.size → Try.prog.underlying t = some (.slice e) → 0 < Try.prog.cellsOf e := slices_full_of Try.prog (by kernel_rfl)
theorem carry {H : Type} {enc : TypeId × Value → H} {P : Program} {w w' : World} {spare : Nat → Bool} {held : Bool} : ∀ {ts : List TypeId} {vs : List Value} {ds : List (DataW H)} {ps : List MemPlace},
    DataW.TrodAll enc P w 0 spare held ts vs ds ps → (∀ p ∈ ps, w.sameAt w' p) → DataW.TrodAll enc P w' 0 spare held ts vs ds ps
  | [], [], [], _, h, _ => h
  | _ :: _, _ :: _, _ :: _, _, ⟨p, q, ⟨n, hn⟩, h2, e⟩, hs => ⟨p, q, ⟨n, DataW.trod_carry n _ _ _ hn fun x hx => hs x (by rw [e]; exact List.mem_append_left _ hx)⟩, carry h2 fun x hx => hs x (by rw [e]; exact List.mem_append_right _ hx), e⟩

set_option maxHeartbeats 1600000 in
set_option maxRecDepth 100000 in
theorem lifted (os : Os) (started : os.Started) (H : Type) (enc : TypeId × Value → H) :
    ReturnsInHanded {} Try.checked os 3 .any (Rows.treeBareSpec.pre6 enc Try.prog Try.f3 Rows.treeBareRow.domain false) (Rows.treeBareSpec.post enc Try.prog Try.f3 false true false false) := by
  refine returnsInHanded_of_change_sized (C := Try.checked) own started (by kernel_rfl) Try.func3
    (ChangeSpec.witness6 (enc := enc) (C := Try.checked) false ⟨#[], #[.agg #[.slice none 0 0]], []⟩ 8 (by kernel_rfl) (by kernel_rfl) (by kernel_rfl) (by kernel_rfl)) ?_
  intro W base args ds gs before hval0 hW hcnd hsz0 _
  have hsz : (DataW.weightsEach Try.prog (Try.f3.params.toList ++ Rows.treeBareSpec.plain.varTypes Try.prog) (ds ++ gs)).all (· ≤ reachBytes) = true := hsz0
  have hval : ∀ (j : Nat) t v, Try.f3.params[j]? = some t → args[j]? = some v → Value.okWide Try.prog W .any base t v := hval0
  have hW' := hW
  obtain ⟨p, q, hA0, hV, rfl, hfz, hnd⟩ := hW
  have hA : DataW.TrodAll enc Try.prog W 0 (fun _ => true) true Try.f3.params.toList args.toList ds p := hA0
  have hAk := hA
  rw [Try.params3] at hA hval hsz
  obtain ⟨v0, vs0, d0, ds0, p0, q0, hargs, rfl, rfl, h0, r0⟩ := trodAll_cons hA
  obtain ⟨rfl, rfl, rfl⟩ := trodAll_nil r0
  obtain rfl : args = #[v0] := by cases args; simp_all
  obtain ⟨rfl, rfl⟩ := trodVars_none hV
  obtain ⟨u0, l0, rfl, R0, K0⟩ := zprog (hval 0 24 v0 rfl rfl) h0 (fun m hm => by have := List.all_eq_true.1 hsz m (DataW.weights_mem_each (j := 0) rfl rfl m hm); simpa using this)
  clear hA0 hval0 hsz0 hsz
  have hlt := hW'.lt
  refine (bare_law W u0 l0 R0 K0.1 K0.2).mono fun e W' ⟨he, hg⟩ => ?_
  subst he
  have hargs := DataW.TrodAll.respare (spare' := fun b => decide (b < W.heap.size)) kids full (by rw [Try.params3]; decide) (carry hAk (fun x hx => hg.same (hlt x (List.mem_append_left _ hx)))) (fun x hx => decide_eq_true (hlt x (List.mem_append_left _ hx)))
  exact ⟨_, rfl, _, _, _, [], _, [], hW', (trodAll_cons_mk (shut_bool Try.underlying4 _) trodAll_mk0), hargs, rfl, hg.frame _, fun h => by cases h⟩

theorem over : Rows.treeBareRow.holds Try.pinned (OpenSpec.ofChange Rows.treeBareSpec) :=
  OpenClaim.holds_of_wide 3 Try.f3 rfl rfl rfl rfl rfl rfl rfl ⟨rfl, rfl, rfl, rfl, rfl⟩ rfl rfl rfl rfl rfl (by kernel_rfl) Try.func3 (by kernel_rfl)
    (of_decide_eq_true (by kernel_rfl)) (by unfold Func.isWrapper; first | (rw [if_pos (by decide +kernel)]; kernel_rfl) | (rw [if_neg (by decide +kernel)]; exact ⟨rfl, rfl⟩))
    (fun os started H enc _ => lifted os started H enc)

/-- ████ THE STATEMENT ████ -/
theorem proved : Rows.TreeBareSaid :=
  over
#print axioms proved
end Go.Proofs.Ytlpddmncgmhkeaa.treeBare
