/- The document's own answer for fields (ref6): CheckFields is silent just where field.Check is. -/
import Derived.Test.YteogphbdpjnjoaaGreatHrF
set_option linter.unusedSimpArgs false
set_option linter.unusedVariables false
namespace Go.Proofs.YteogphbdpjnjoaaGreat
open Go.RowKit Go.Maps Go.WideMaps
def OwTo (fs : List Fld) (k : Nat) : Prop := ∀ j x, j < k → fs[j]? = some x → plc (fldH fs) x.2 = j
theorem OwTo.step {fs : List Fld} {k : Nat} {x : Fld} (h : OwTo fs k) (hx : fs[k]? = some x) (e : plc (fldH fs) x.2 = k) : OwTo fs (k + 1) := fun j d hj hd => by
  by_cases hk : j < k
  · exact h j d hk hd
  · obtain rfl : j = k := by omega
    rw [hx] at hd; injection hd with hd; rw [← hd]; exact e
theorem fld_find {fs : List Fld} {j : Nat} {x : Fld} (hx : fs[j]? = some x) : findI (fldH fs) x.2 = (plc (fldH fs) x.2 : Int) := by
  have h := plc_lt (fldH fs) j _ (fldH_at hx)
  have hl := (List.getElem?_eq_some_iff.1 hx).1
  unfold findI
  rw [if_pos (by rw [fldH_len]; simp only at h; omega)]
theorem nodup_plc {fs : List Fld} : (fs.map (·.2)).Nodup ↔ OwTo fs fs.length := by
  constructor
  · intro hn j x hj hx
    have h1 := plc_lt (fldH fs) j _ (fldH_at hx)
    simp only at h1
    obtain ⟨y, hy, e⟩ := plc_at (fldH fs) x.2 (by rw [fldH_len]; omega)
    rcases Nat.lt_or_ge (plc (fldH fs) x.2) j with hlt | hge
    · exfalso
      obtain ⟨p, hp⟩ : ∃ p, plc (fldH fs) x.2 = p := ⟨_, rfl⟩
      rw [hp] at hlt hy
      have h3 := (List.pairwise_iff_getElem.1 hn) p j (by rw [List.length_map]; omega) (by rw [List.length_map]; omega) hlt
      simp only [List.getElem_map] at h3
      have ex : fs[j] = x := by rw [List.getElem?_eq_getElem hj] at hx; exact Option.some.inj hx
      have ey : y = (fs[p].2, fs[p].1) := by
        unfold fldH at hy
        rw [List.getElem?_map, List.getElem?_eq_getElem (by omega)] at hy
        exact (Option.some.inj hy).symm
      rw [ey] at e
      rw [ex] at h3
      exact h3 e
    · omega
  · intro h
    refine List.pairwise_iff_getElem.2 fun i j hi hj hij e => ?_
    rw [List.length_map] at hi hj
    simp only [List.getElem_map] at e
    have h1 := h i _ hi (List.getElem?_eq_getElem hi)
    have h2 := h j _ hj (List.getElem?_eq_getElem hj)
    rw [e] at h1
    omega
set_option maxRecDepth 100000 in
set_option maxHeartbeats 16000000 in
theorem rcheckFields_any (w : World) (v : Value) (l : List Cls) (h : PgF w v l) : Calls Tryz.prog 8 #[.agg #[v]] w (FChP l w) := by
  have hX0 := Bx.new w #[v] 24
  have hb1 : Below w.heap.size w (w.alloc (.cells #[v] 24)) := (Below.refl _ _).alloc (Nat.le_refl _) _
  have HF := Lib.hid (h.below hb1)
  obtain ⟨A, cap, rfl, hcap, hbig, _, _⟩ := h
  obtain ⟨n, hn⟩ : ∃ n, l.length = n := ⟨_, rfl⟩
  have HN := Lib.hid hn
  rw [hn] at HF hcap hbig hX0 hb1 ⊢
  clear hn
  obtain ⟨W, hW⟩ : ∃ W, W = w.alloc (.cells #[.slice A n cap] 24) := ⟨_, rfl⟩
  rw [← hW] at hX0 hb1 HF
  have HW := Lib.hid hW
  have HB1 := Lib.hid hb1
  have HX0 := Lib.hid hX0
  have c0 := hX0.cell 0
  have HGO := Lib.hid (rgoodK_any HF.out.cl)
  clear hW hb1 hX0
  go_enter Tryz.func8, Tryz.ntmps8
  go_upto_region 1 with (fail)
  rw [← HW.out]
  go_upto_region 2 with (go_at_call 19; refine HGO.out.mono ?_; clear HGO; rintro e w2 ⟨q, rfl, hq, hb⟩; have HB2 := Lib.hid hb; have HQ := Lib.hid hq; clear hb hq c0)
  · cases q
    · go_wp2_with fail
      go_ret2
      exact fch_bad (by decide) (fun g => by have := HQ.out.2 g.1; cases this) (HB1.out.trans (HB2.out.mono HB1.out.size))
    · rename_i hx; simp at hx
  · cases q
    · rename_i hx; simp at hx
    · have HGD : Hid (GoodH (l.map (·.1))) := Lib.hid (HQ.out.1 rfl)
      clear HQ
      simp only [Bool.not_true]
      go_loopw [4] (fun v4 wr => ∃ k : Nat, k ≤ n ∧ v4 = .int .i64 k ∧ Below W.heap.size W wr ∧ Hid (FsTo (l.map (·.1)) l k)) (fun v4 _ => n - (intOf v4).toNat)
      case atStart => exact ⟨0, Nat.zero_le _, rfl, HB2.out, Lib.hid (fun j x h => by omega)⟩
      case round =>
        obtain ⟨i, hi, rfl, hB, hT⟩ := hrel
        have c0 := (HX0.out.next hB).cell 0
        by_cases hlt : i < n
        · obtain ⟨x, hx⟩ : ∃ x, l[i]? = some x := ⟨l[i]'(by rw [HN.out]; exact hlt), List.getElem?_eq_getElem _⟩
          obtain ⟨b, o, e, _, a0, a1, A2, n2, k2, A3, n3, k3, a2, hfr, a3⟩ := (HF.out.below hB).at_ hx
          subst e
          have HX := Lib.hid hx
          have HFR := Lib.hid hfr
          have HBr := Lib.hid hB
          have HA0 := Lib.hid a0
          have hfi := good_find HGD.out (i := i) (c := x.1) (by rw [List.getElem?_map, hx]; rfl)
          have HFI := Lib.hid hfi
          obtain ⟨A2', cap2, e2, hc2, hb2, _, _⟩ := hfr
          injection e2 with e21 e22 e23
          have HM : Hid (x.2.length = n2) := Lib.hid (by omega)
          have hc2' : n2 ≤ k2 := by omega
          have hb2' : n2 ≤ 1000000 := by omega
          clear hx hB a0 a1 a3 hfi e21 e22 e23 hc2 hb2
          go_upto_region 7 with (fail)
          obtain ⟨WR, rfl⟩ : ∃ WR, WR = wr := ⟨_, rfl⟩
          go_wp2_with fail
          go_loopw [6] (fun v6 wr => ∃ k : Nat, k ≤ n2 ∧ v6 = .int .i64 k ∧ Below WR.heap.size WR wr ∧ Hid (OwTo x.2 k)) (fun v6 _ => n2 - (intOf v6).toNat)
          case atStart => exact ⟨0, Nat.zero_le _, rfl, Below.refl _ _, Lib.hid (fun j x h => by omega)⟩
          case round =>
            obtain ⟨k, hk, rfl, hB, hO⟩ := hrel
            clear c0 a2
            have hBW : Below W.heap.size W wr := HBr.out.trans (hB.mono HBr.out.size)
            by_cases hlk : k < n2
            · obtain ⟨y, hy⟩ : ∃ y, x.2[k]? = some y := ⟨x.2[k]'(by rw [HM.out]; exact hlk), List.getElem?_eq_getElem _⟩
              obtain ⟨b5, o5, e5, _, st, A5, n5, k5, f0, f1, f2, f3⟩ := (HFR.out.below hB).at_ hy
              subst e5
              have HY := Lib.hid hy
              obtain ⟨f, hf⟩ : ∃ f, findI (fldH x.2) y.2 = f := ⟨_, rfl⟩
              have hff := fld_find hy
              rw [hf] at hff
              have HFF := Lib.hid hff
              have HCC : Hid (∀ w', Below wr.heap.size wr w' → w'.cell? ⟨w.heap.size, 0, none⟩ = some (.slice (some ⟨b, o, none⟩) n cap) ∧ w'.cell? ⟨b, o + i * 4, none⟩ = some (.string x.1.1) ∧ w'.cell? ⟨b5, o5 + k * 4 + 2, none⟩ = some (.string y.2)) := Lib.hid fun w' hb => ⟨(HX0.out.next (hBW.trans (hb.mono hBW.size))).cell 0, KeepC.below hb _ _ (KeepC.below hB _ _ HA0.out), KeepC.below hb _ _ f2⟩
              have HSU : Hid (∀ w', Below wr.heap.size wr w' → Calls Tryz.prog 20 #[.agg #[.slice (some ⟨b, o, none⟩) n cap], .string x.1.1, .string y.2] w' fun e w'' => e = .returned (.int .i64 f) ∧ Below w'.heap.size w' w'') := Lib.hid fun w' hb => by
                have := rown_at w' (.slice (some ⟨b, o, none⟩) n cap) l (HF.out.below (hBW.trans (hb.mono hBW.size))) x.1.1 y.2 i x HFI.out HX.out
                rwa [hf] at this
              have hb0 : Below wr.heap.size wr wr.drew := (Below.refl _ _).drew
              have c0 := (HX0.out.next hBW).cell 0
              have a0 := KeepC.below hB _ _ HA0.out
              have HBk := Lib.hid hBW
              have HB4 := Lib.hid hB
              clear hy hf hff f0 f1 f3 hB hBW
              by_cases hfk : f = (k : Int)
              · have hN : Hid (OwTo x.2 (k + 1)) := Lib.hid (hO.out.step HY.out (by have := HFF.out; omega))
                have hfk1 : (f != (k : Int)) = false := by simpa using hfk
                clear hfk
                go_upto_region 10 with (fail)
                go_region_held3 (fun w' => w'.cell? ⟨w.heap.size, 0, none⟩ = some (.slice (some ⟨b, o, none⟩) n cap) ∧ w'.cell? ⟨b, o + i * 4, none⟩ = some (.string x.1.1) ∧ w'.cell? ⟨b5, o5 + k * 4 + 2, none⟩ = some (.string y.2))
                  (first | with_reducible exact HCC.out _ hb0)
                  ((first
                    | (go_at_call 20; refine (HSU.out _ hb0).mono ?_; rintro e w8 ⟨rfl, hb⟩; replace hb0 := hb0.trans (hb.mono hb0.size); clear hb)))
                all_goals
                  go_wp2_with fail
                  go_roundw
                  case rel => exact ⟨k + 1, by omega, by go_num, HB4.out.trans (hb0.mono HB4.out.size), hN⟩
                  case measure => simp [intOf]; omega
              · have hfk1 : (f != (k : Int)) = true := by simpa using hfk
                have hbad : Hid (¬ FsOk l) := Lib.hid (fun g => hfk (by
                  have h1 := nodup_plc.1 (g.2 i x (by rw [HN.out]; exact hlt) HX.out).1
                  have h2 := h1 k y (by rw [HM.out]; exact hlk) HY.out
                  rw [HFF.out, h2]))
                clear hfk
                go_upto_region 10 with (fail)
                go_region_held3 (fun w' => w'.cell? ⟨w.heap.size, 0, none⟩ = some (.slice (some ⟨b, o, none⟩) n cap) ∧ w'.cell? ⟨b, o + i * 4, none⟩ = some (.string x.1.1) ∧ w'.cell? ⟨b5, o5 + k * 4 + 2, none⟩ = some (.string y.2))
                  (first | with_reducible exact HCC.out _ hb0)
                  ((first
                    | (go_at_call 20; refine (HSU.out _ hb0).mono ?_; rintro e w8 ⟨rfl, hb⟩; replace hb0 := hb0.trans (hb.mono hb0.size); clear hb)))
                all_goals
                  go_wp2_with fail
                  go_ret2
                  exact fch_bad (by decide) hbad.out (HB1.out.trans ((HBk.out.trans (hb0.mono HBk.out.size)).mono HB1.out.size))
            · have HND : Hid ((x.2.map (·.2)).Nodup) := Lib.hid (nodup_plc.2 (by rw [show x.2.length = k by rw [HM.out]; omega]; exact hO.out))
              have HBs := Lib.hid hB
              clear hO hB hBW
              go_wp2_with fail
              go_loopw [7] (fun v7 wr => ∃ k : Nat, k ≤ n2 ∧ v7 = .int .i64 k ∧ Below WR.heap.size WR wr ∧ Hid (TyTo (l.map (·.1)) x.2 k)) (fun v7 _ => n2 - (intOf v7).toNat)
              case atStart => exact ⟨0, Nat.zero_le _, rfl, HBs.out, Lib.hid (fun j x h => by omega)⟩
              case round =>
                obtain ⟨k2', hk2', rfl, hB, hO⟩ := hrel
                have hBW : Below W.heap.size W wr := HBr.out.trans (hB.mono HBr.out.size)
                by_cases hlk2 : k2' < n2
                · obtain ⟨y, hy⟩ : ∃ y, x.2[k2']? = some y := ⟨x.2[k2']'(by rw [HM.out]; exact hlk2), List.getElem?_eq_getElem _⟩
                  obtain ⟨b5, o5, e5, _, st, A5, n5, k5, f0, f1, f2, f3⟩ := (HFR.out.below hB).at_ hy
                  subst e5
                  have HY := Lib.hid hy
                  obtain ⟨r, hr⟩ : ∃ r, typeS (l.map (·.1)) y.1 = r := ⟨_, rfl⟩
                  have HR := Lib.hid hr
                  have HCC : Hid (∀ w', Below wr.heap.size wr w' → w'.cell? ⟨w.heap.size, 0, none⟩ = some (.slice (some ⟨b, o, none⟩) n cap) ∧ w'.cell? ⟨b5, o5 + k2' * 4 + 1, none⟩ = some (.string y.1)) := Lib.hid fun w' hb => ⟨(HX0.out.next (hBW.trans (hb.mono hBW.size))).cell 0, KeepC.below hb _ _ f1⟩
                  have HSU : Hid (∀ w', Below wr.heap.size wr w' → Calls Tryz.prog 21 #[.agg #[.slice (some ⟨b, o, none⟩) n cap], .string y.1] w' fun e w'' => e = .returned (.bool r) ∧ Below w'.heap.size w' w'') := Lib.hid fun w' hb => by
                    have := rtype_any (HF.out.below (hBW.trans (hb.mono hBW.size))).cl y.1
                    rwa [hr] at this
                  have hb0 : Below wr.heap.size wr wr.drew := (Below.refl _ _).drew
                  have c0 := (HX0.out.next hBW).cell 0
                  have HBk := Lib.hid hBW
                  have HB4 := Lib.hid hB
                  clear hy hr f0 f2 f3 hB hBW
                  cases r
                  · have hbad : Hid (¬ FsOk l) := Lib.hid (fun g => by
                      have h1 := (g.2 i x (by rw [HN.out]; exact hlt) HX.out).2 y (List.mem_of_getElem? HY.out)
                      rw [HR.out] at h1
                      cases h1)
                    go_upto_region 15 with (fail)
                    go_region_held3 (fun w' => w'.cell? ⟨w.heap.size, 0, none⟩ = some (.slice (some ⟨b, o, none⟩) n cap) ∧ w'.cell? ⟨b5, o5 + k2' * 4 + 1, none⟩ = some (.string y.1))
                      (first | with_reducible exact HCC.out _ hb0)
                      ((first
                        | (go_at_call 21; refine (HSU.out _ hb0).mono ?_; rintro e w8 ⟨rfl, hb⟩; replace hb0 := hb0.trans (hb.mono hb0.size); clear hb)))
                    all_goals
                      go_wp2_with fail
                      go_ret2
                      exact fch_bad (by decide) hbad.out (HB1.out.trans ((HBk.out.trans (hb0.mono HBk.out.size)).mono HB1.out.size))
                  · have hN : Hid (TyTo (l.map (·.1)) x.2 (k2' + 1)) := Lib.hid (hO.out.step HY.out HR.out)
                    go_upto_region 15 with (fail)
                    go_region_held3 (fun w' => w'.cell? ⟨w.heap.size, 0, none⟩ = some (.slice (some ⟨b, o, none⟩) n cap) ∧ w'.cell? ⟨b5, o5 + k2' * 4 + 1, none⟩ = some (.string y.1))
                      (first | with_reducible exact HCC.out _ hb0)
                      ((first
                        | (go_at_call 21; refine (HSU.out _ hb0).mono ?_; rintro e w8 ⟨rfl, hb⟩; replace hb0 := hb0.trans (hb.mono hb0.size); clear hb)))
                    all_goals
                      try simp only [Bool.not_true]
                      go_wp2_with fail
                      go_roundw
                      case rel => exact ⟨k2' + 1, by omega, by go_num, HB4.out.trans (hb0.mono HB4.out.size), hN⟩
                      case measure => simp [intOf]; omega
                · have HOK : Hid (FOk (l.map (·.1)) x.2) := Lib.hid (fok_of HND.out hO.out (by rw [HM.out]; omega))
                  have hN : Hid (FsTo (l.map (·.1)) l (i + 1)) := Lib.hid (hT.out.step HX.out HOK.out)
                  have HBk := Lib.hid hBW
                  clear hO hB hBW
                  go_wp2_with fail
                  go_roundw
                  case rel => exact ⟨i + 1, by omega, by go_num, HBk.out, hN⟩
                  case measure => simp [intOf]; omega
        · have HG : Hid (FsOk l) := Lib.hid ⟨HGD.out, by rw [show l.length = i by rw [HN.out]; omega]; exact hT.out⟩
          have HBk := Lib.hid hB
          clear hT hB
          go_wp2_with fail
          go_ret2
          exact ⟨0, 0, rfl, ⟨fun _ => HG.out, fun _ => rfl⟩, HB1.out.trans (HBk.out.mono HB1.out.size)⟩
end Go.Proofs.YteogphbdpjnjoaaGreat
