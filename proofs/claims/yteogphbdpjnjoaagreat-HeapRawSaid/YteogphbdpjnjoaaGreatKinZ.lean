/- The document's own answers for kin (ref6): Check, Good. -/
import Derived.Test.YteogphbdpjnjoaaGreatKinY
set_option linter.unusedSimpArgs false
set_option linter.unusedVariables false
namespace Go.Proofs.YteogphbdpjnjoaaGreat
open Go.RowKit
def Own1 (cs : List Hdr) (k : Nat) : Prop := ∀ j c, j < k → cs[j]? = some c → plc (famL cs) c.1 = 5 + j
def Up1 (cs : List Hdr) (k : Nat) : Prop := ∀ j c, j < k → cs[j]? = some c → c.2 = ⟨#[]⟩ ∨ (plc (famL cs) c.2 < (famL cs).length ∧ Leads (famL cs) (famL cs).length (5 + j))
theorem Own1.step {cs : List Hdr} {k : Nat} {c : Hdr} (h : Own1 cs k) (hc : cs[k]? = some c) (e : plc (famL cs) c.1 = 5 + k) : Own1 cs (k + 1) := fun j d hj hd => by
  by_cases hk : j < k
  · exact h j d hk hd
  · obtain rfl : j = k := by omega
    rw [hc] at hd; injection hd with hd; rw [← hd]; exact e
theorem Up1.step {cs : List Hdr} {k : Nat} {c : Hdr} (h : Up1 cs k) (hc : cs[k]? = some c) (e : c.2 = ⟨#[]⟩ ∨ (plc (famL cs) c.2 < (famL cs).length ∧ Leads (famL cs) (famL cs).length (5 + k))) : Up1 cs (k + 1) := fun j d hj hd => by
  by_cases hk : j < k
  · exact h j d hk hd
  · obtain rfl : j = k := by omega
    rw [hc] at hd; injection hd with hd; rw [← hd]; exact e
theorem good_up {cs : List Hdr} {k : Nat} (h1 : Own1 cs k) (h2 : Up1 cs k) (hk : cs.length ≤ k) : GoodH cs :=
  ⟨fun j c hj => h1 j c (by have := (List.getElem?_eq_some_iff.1 hj).1; omega) hj, fun j c hj => h2 j c (by have := (List.getElem?_eq_some_iff.1 hj).1; omega) hj⟩
def RCheckP (cs : List Hdr) (w : World) (e : Ending) (w' : World) : Prop := ∃ a b : Int, e = .returned (.tuple #[.int .i64 a, .int .i64 b]) ∧ (a = 0 ↔ GoodH cs) ∧ Below w.heap.size w w'
theorem rcheck_bad {cs : List Hdr} {w W : World} {a b : Int} (h : a ≠ 0) (hn : ¬ GoodH cs) (hb : Below w.heap.size w W) : RCheckP cs w (.returned (.tuple #[.int .i64 a, .int .i64 b])) W := ⟨a, b, rfl, ⟨fun e => absurd e h, fun g => absurd g hn⟩, hb⟩
set_option maxRecDepth 100000 in
set_option maxHeartbeats 16000000 in
theorem rcheckK_any {w : World} {v : Value} {cs : List Hdr} (h : Cl w v cs) : Calls Tryz.prog 35 #[.agg #[v]] w (RCheckP cs w) := by
  have hX0 := Bx.new w #[v] 24
  have hb1 : Below w.heap.size w (w.alloc (.cells #[v] 24)) := (Below.refl _ _).alloc (Nat.le_refl _) _
  have HC := Lib.hid (cl_below h hb1)
  obtain ⟨A, cap0, rfl, hcap0, h59, _⟩ := h
  obtain ⟨W, hW⟩ : ∃ W, W = w.alloc (.cells #[.slice A cs.length cap0] 24) := ⟨_, rfl⟩
  rw [← hW] at hX0 hb1 HC
  have HX0 := Lib.hid hX0
  have HB1 := Lib.hid hb1
  have HW := Lib.hid hW
  obtain ⟨m, hm⟩ : ∃ m, cs.length = m := ⟨_, rfl⟩
  have HM := Lib.hid hm
  rw [hm] at hcap0 h59 HX0 HC HW ⊢
  clear hX0 hb1 hW hm
  go_enter Tryz.func35, Tryz.ntmps35
  go_upto_region 1 with (fail)
  rw [← HW.out]
  go_wp2_with fail
  go_loopw [4] (fun v4 wr => ∃ k : Nat, v4 = .int .i64 k ∧ k ≤ m ∧ Below W.heap.size W wr ∧ Hid (Own1 cs k)) (fun v4 wr => m - (intOf v4).toNat)
  case atStart => exact ⟨0, rfl, Nat.zero_le _, Below.refl _ _, Lib.hid (fun j c h => by omega)⟩
  case round =>
    obtain ⟨k, rfl, hk, hB, hO⟩ := hrel
    have c0 := (HX0.out.next hB).cell 0
    by_cases hlt : k < m
    · obtain ⟨c, hck⟩ : ∃ c, cs[k]? = some c := ⟨cs[k]'(by rw [HM.out]; exact hlt), List.getElem?_eq_getElem _⟩
      obtain ⟨b, o, A2, n2, k2, A3, n3, k3, e, a0, a1, a2, a3⟩ := cl_cells (cl_below HC.out hB) hck
      subst e
      have HCK := Lib.hid hck
      obtain ⟨x1, x2⟩ := c
      obtain ⟨W5, hW5⟩ : ∃ W5, W5 = wr.alloc (.cells #[.string x1, .string x2, .slice A2 n2 k2, .slice A3 n3 k3] 51) := ⟨_, rfl⟩
      have hb5 : Below wr.heap.size wr W5 := by rw [hW5]; exact (Below.refl _ _).alloc (Nat.le_refl _) _
      have hX5 : Bx W5 wr.heap.size #[.string x1, .string x2, .slice A2 n2 k2, .slice A3 n3 k3] 51 := by rw [hW5]; exact Bx.new _ _ _
      have hB5 : Below W.heap.size W W5 := hB.trans (hb5.mono hB.size)
      have y0 := hX5.cell 0
      have HX5 := Lib.hid hX5
      have HB5 := Lib.hid hB5
      obtain ⟨q, hq⟩ : ∃ q, isCk [] x1 = q := ⟨_, rfl⟩
      have HQ := Lib.hid hq
      obtain ⟨f, hf⟩ : ∃ f, findI cs x1 = f := ⟨_, rfl⟩
      have HF := Lib.hid hf
      clear hB hb5 hX5 hck hB5 hq hf
      go_upto_region 5 with (fail)
      rw [← hW5]
      clear hW5 a0 a1 a2 a3 c0
      cases q
      · by_cases hfk : f = (k : Int)
        · subst hfk
          have hN : Hid (Own1 cs (k + 1)) := Lib.hid (hO.out.step HCK.out (by
            have h1 := isC_own (cs := cs) HQ.out
            have h2 := HF.out
            unfold findI at h2
            show plc (famL cs) x1 = 5 + k
            split at h2 <;> omega))
          go_wp2_with (first
            | (go_at_call 58; refine (rbaseK_any x1 _).mono ?_; rintro e w6 ⟨rfl, hb⟩; rw [HQ.out]; have hB6 := HB5.out.trans (hb.mono HB5.out.size); have y0' := (HX5.out.next hb).cell 0; have c0 := (HX0.out.next hB6).cell 0; clear hb y0)
            | (go_at_call 59; refine (rfindK_any (cl_below HC.out hB6) x1).mono ?_; rintro e w7 ⟨rfl, hb⟩; rw [HF.out]; have hB7 := hB6.trans (hb.mono hB6.size); clear hb hB6 c0 y0'))
          go_roundw
          case rel => exact ⟨k + 1, by simp, by omega, hB7, hN⟩
          case measure => simp [intOf]; omega
        · have hfk1 : (f != (k : Int)) = true := by simpa using hfk
          have hbad : Hid (¬ GoodH cs) := Lib.hid (fun g => hfk (by
            have h1 := isC_own (cs := cs) HQ.out
            have h2 : plc (famL cs) x1 = 5 + k := g.own k _ HCK.out
            have h3 : plc cs x1 = k := by omega
            rw [← HF.out]
            unfold findI
            rw [h3, if_pos (by rw [HM.out]; exact hlt)]))
          clear hfk
          go_wp2_with (first
            | (go_at_call 58; refine (rbaseK_any x1 _).mono ?_; rintro e w6 ⟨rfl, hb⟩; rw [HQ.out]; have hB6 := HB5.out.trans (hb.mono HB5.out.size); have y0' := (HX5.out.next hb).cell 0; have c0 := (HX0.out.next hB6).cell 0; clear hb y0)
            | (go_at_call 59; refine (rfindK_any (cl_below HC.out hB6) x1).mono ?_; rintro e w7 ⟨rfl, hb⟩; rw [HF.out]; have hB7 := hB6.trans (hb.mono hB6.size); clear hb hB6 c0 y0'))
          go_ret2
          exact rcheck_bad (by decide) hbad.out (HB1.out.trans (hB7.mono HB1.out.size))
      · have hbad : Hid (¬ GoodH cs) := Lib.hid (fun g => by
          obtain ⟨h1, h0⟩ := isC_base (cs := cs) HQ.out
          have h2 : plc (famL cs) x1 = 5 + k := g.own k _ HCK.out
          omega)
        go_wp2_with (go_at_call 58; refine (rbaseK_any x1 _).mono ?_; rintro e w6 ⟨rfl, hb⟩; rw [HQ.out]; have hB6 := HB5.out.trans (hb.mono HB5.out.size); clear hb y0)
        go_ret2
        exact rcheck_bad (by decide) hbad.out (HB1.out.trans (hB6.mono HB1.out.size))
    · have HOW := Lib.hid (show Own1 cs m from by have : k = m := by omega
                                                  rw [← this]; exact hO.out)
      have hBk := Lib.hid hB
      clear hO hB
      go_wp2_with fail
      go_loopw [6] (fun v6 wr2 => ∃ k : Nat, v6 = .int .i64 k ∧ k ≤ m ∧ Below W.heap.size W wr2 ∧ Hid (Up1 cs k)) (fun v6 wr2 => m - (intOf v6).toNat)
      case atStart => exact ⟨0, rfl, Nat.zero_le _, hBk.out, Lib.hid (fun j c h => by omega)⟩
      case round =>
        obtain ⟨k, rfl, hk, hB, hU⟩ := hrel
        clear c0 hBk
        have c0 := (HX0.out.next hB).cell 0
        by_cases hlt2 : k < m
        · obtain ⟨c, hck⟩ : ∃ c, cs[k]? = some c := ⟨cs[k]'(by rw [HM.out]; exact hlt2), List.getElem?_eq_getElem _⟩
          obtain ⟨b, o, A2, n2, k2, A3, n3, k3, e, a0, a1, a2, a3⟩ := cl_cells (cl_below HC.out hB) hck
          subst e
          have HCK := Lib.hid hck
          have hown := Lib.hid (HOW.out k c hlt2 hck)
          obtain ⟨x1, x2⟩ := c
          obtain ⟨W5, hW5⟩ : ∃ W5, W5 = wr.alloc (.cells #[.string x1, .string x2, .slice A2 n2 k2, .slice A3 n3 k3] 51) := ⟨_, rfl⟩
          have hb5 : Below wr.heap.size wr W5 := by rw [hW5]; exact (Below.refl _ _).alloc (Nat.le_refl _) _
          have hX5 : Bx W5 wr.heap.size #[.string x1, .string x2, .slice A2 n2 k2, .slice A3 n3 k3] 51 := by rw [hW5]; exact Bx.new _ _ _
          have hB5 : Below W.heap.size W W5 := hB.trans (hb5.mono hB.size)
          have y1 := hX5.cell 1
          have HX5 := Lib.hid hX5
          have HB5 := Lib.hid hB5
          clear hB hb5 hX5 hck hB5
          go_upto_region 11 with (fail)
          rw [← hW5]
          clear hW5 a0 a1 a2 a3 c0
          by_cases hq : x2 = ⟨#[]⟩
          · have hN : Hid (Up1 cs (k + 1)) := Lib.hid (hU.out.step HCK.out (.inl hq))
            subst hq
            go_wp2_with fail
            go_roundw
            case rel => exact ⟨k + 1, by simp, by omega, HB5.out, hN⟩
            case measure => simp [intOf]; omega
          · have hq1 := isEmpty_no hq
            have hq2 := ba_ne_l [] hq
            have c0 := (HX0.out.next HB5.out).cell 0
            have HIS := Lib.hid (risK_any (cl_below HC.out HB5.out) x2)
            obtain ⟨qi, hqi⟩ : ∃ qi, isCk cs x2 = qi := ⟨_, rfl⟩
            have HQI := Lib.hid hqi
            rw [hqi] at HIS
            have HQ0 : Hid (x2 ≠ ⟨#[]⟩) := Lib.hid hq
            clear hq hqi
            cases qi
            · have hbad : Hid (¬ GoodH cs) := Lib.hid (fun g => by
                rcases g.up k _ HCK.out with e | ⟨e, _⟩
                · exact HQ0.out e
                · exact absurd e (of_decide_eq_false HQI.out))
              go_wp2_with (go_at_call 37; refine HIS.out.mono ?_; rintro e w6 ⟨rfl, hb⟩; have hB6 := HB5.out.trans (hb.mono HB5.out.size); clear hb y1 c0)
              go_ret2
              exact rcheck_bad (by decide) hbad.out (HB1.out.trans (hB6.mono HB1.out.size))
            · have hlt3 : Hid (plc (famL cs) x2 < (famL cs).length) := Lib.hid (of_decide_eq_true HQI.out)
              go_wp2_with (first
                | (go_at_call 37; refine HIS.out.mono ?_; rintro e w6 ⟨rfl, hb⟩; have hB6 := HB5.out.trans (hb.mono HB5.out.size); have y0 := (HX5.out.next hb).cell 0; clear hb y1 c0; have c0 := (HX0.out.next hB6).cell 0)
                | (go_at_call 60; refine (rchainK_any (cl_below HC.out hB6) x1).mono ?_; rintro e w7 ⟨vl, pl, ie, rfl, hol, hway, hend, hgd, hb⟩; have hB7 := hB6.trans (hb.mono hB6.size); clear hb hB6 c0 y0))
              rw [hown.out] at hway
              have hnl : pl ≠ [] := by
                rintro rfl
                have e1 : ie = 5 + k := hway.at_
                rcases hend with h | h
                · rw [famL_len] at h; have := HM.out; omega
                · simp at h
              obtain ⟨pn, hpn⟩ : ∃ pn, pl.length = pn + 1 := by
                cases pl with
                | nil => exact absurd rfl hnl
                | cons a l => exact ⟨l.length, rfl⟩
              obtain ⟨Al, cl, rfl, hcl⟩ := own_form hol
              obtain ⟨gl, rfl⟩ : ∃ gl, Al = some ⟨gl, 0, none⟩ := by
                rcases hol.2 with ⟨_, e⟩ | ⟨gl, c', cur, e, _⟩
                · omega
                · injection e with e _ _; exact ⟨gl, e⟩
              have hlast : pl[pn]? = some (it (upp (famL cs)) pn (5 + k)) := hway.all pn (by omega)
              obtain ⟨p, hp⟩ : ∃ p, it (upp (famL cs)) pn (5 + k) = p := ⟨_, rfl⟩
              rw [hp] at hlast
              have hpm := List.mem_of_getElem? hlast
              have hplt := hway.lt p hpm
              have hpg := hgd p hpm
              have hcell : w7.cell? ⟨gl, pn, none⟩ = some (.string (nameOf (famL cs) p)) := by
                rw [hol.cellAt pn (by omega)]; exact strsV_at (by simp [namesL, hlast])
              obtain ⟨ln, hln⟩ : ∃ ln, nameOf (famL cs) p = ln := ⟨_, rfl⟩
              rw [hln] at hpg hcell
              have hie : ie = upp (famL cs) p := by rw [hway.at_, hpn, it_succ, hp]
              have hsp : plc (famL cs) (superS cs ln) = ie := by rw [up_super (by rw [hpg]; exact hplt), hpg, hie]
              have hLd : Hid (isCk cs (superS cs ln) = false → Leads (famL cs) (famL cs).length (5 + k)) := Lib.hid (fun e => by
                unfold isCk at e
                have e1 := of_decide_eq_false e
                rw [hsp] at e1
                refine ⟨pn + 1, ?_⟩
                rw [it_succ, hp, ← hie]
                have := upp_le (famL cs) p
                rw [← hie] at this
                omega)
              have hLd2 : Hid (isCk cs (superS cs ln) = true → ¬ GoodH cs) := Lib.hid (fun e g => by
                unfold isCk at e
                have e1 := of_decide_eq_true e
                rw [hsp] at e1
                rcases g.up k _ HCK.out with hz | ⟨_, hl⟩
                · exact HQ0.out hz
                · have hch : Ch (famL cs) (5 + k) pl := ⟨ie, hway, hend⟩
                  have h2 := (hch.ends_iff (by rw [famL_len]; have := HM.out; omega)).1 hl
                  have h3 := hway.at_
                  omega)
              have hp60 : pn ≤ 100 := by have := hway.len; rw [famL_len] at this; have := HM.out; omega
              obtain ⟨sp, hsp2⟩ : ∃ sp, superS cs ln = sp := ⟨_, rfl⟩
              rw [hsp2] at hLd hLd2
              have HSP := Lib.hid hsp2
              have HX7 := Lib.hid (HX0.out.next hB7)
              have HC7 := Lib.hid (cl_below HC.out hB7)
              have HCC : Hid (∀ w', Below w7.heap.size w7 w' → w'.cell? ⟨w.heap.size, 0, none⟩ = some (.slice (some ⟨b, o, none⟩) m cap0) ∧ w'.cell? ⟨gl, pn, none⟩ = some (.string ln)) := Lib.hid fun w' hb => ⟨(HX7.out.next hb).cell 0, KeepC.below hb _ _ hcell⟩
              have HSU : Hid (∀ w', Below w7.heap.size w7 w' → Calls Tryz.prog 61 #[.agg #[.slice (some ⟨b, o, none⟩) m cap0], .string ln] w' fun e w'' => e = .returned (.string sp) ∧ Below w'.heap.size w' w'') := Lib.hid fun w' hb => by rw [← HSP.out]; exact rsuperK_any (cl_below HC7.out hb) ln
              have hb0 : Below w7.heap.size w7 w7.drew := (Below.refl _ _).drew
              have HB7 := Lib.hid hB7
              obtain ⟨M1, hM1⟩ : ∃ M1, pl.length = M1 := ⟨_, rfl⟩
              have hwr : IntKind.i64.wrap ((M1 : Int) - 1) = (pn : Int) := by rw [IntKind.wrap_i64]; omega
              have hwr3 : (pn : Int) < (M1 : Int) := by omega
              have hwr4 : pn < M1 := by omega
              rw [hM1] at hcl ⊢
              clear hol hway hend hgd hnl hpn hM1 hlast hp hpm hplt hpg hcell hln hie hsp hsp2 hB7
              go_upto_region 15 with (fail)
              go_region_held3 (fun w' => w'.cell? ⟨w.heap.size, 0, none⟩ = some (.slice (some ⟨b, o, none⟩) m cap0) ∧ w'.cell? ⟨gl, pn, none⟩ = some (.string ln))
                (first | with_reducible exact HCC.out _ hb0)
                ((first
                  | (go_at_call 61; refine (HSU.out _ hb0).mono ?_; rintro e w8 ⟨rfl, hb⟩; replace hb0 := hb0.trans (hb.mono hb0.size); clear hb)))
              all_goals
                have hB8 := HB7.out.trans (hb0.mono HB7.out.size)
                have c0 := (HX0.out.next hB8).cell 0
                have HIS2 := Lib.hid (risK_any (cl_below HC.out hB8) sp)
                obtain ⟨qs, hqs⟩ : ∃ qs, isCk cs sp = qs := ⟨_, rfl⟩
                have HQS := Lib.hid hqs
                rw [hqs] at HIS2
                clear hqs
                cases qs
                · have hN : Hid (Up1 cs (k + 1)) := Lib.hid (hU.out.step HCK.out (.inr ⟨hlt3.out, hLd.out HQS.out⟩))
                  go_wp2_with (go_at_call 37; refine HIS2.out.mono ?_; rintro e w9 ⟨rfl, hb⟩; have hB9 := hB8.trans (hb.mono hB8.size); clear hb c0)
                  go_roundw
                  case rel => exact ⟨k + 1, by simp, by omega, hB9, hN⟩
                  case measure => simp [intOf]; omega
                · go_wp2_with (go_at_call 37; refine HIS2.out.mono ?_; rintro e w9 ⟨rfl, hb⟩; have hB9 := hB8.trans (hb.mono hB8.size); clear hb c0)
                  go_ret2
                  exact rcheck_bad (by decide) (hLd2.out HQS.out) (HB1.out.trans (hB9.mono HB1.out.size))
        · have HG : Hid (GoodH cs) := Lib.hid (by
            have e : k = m := by omega
            refine good_up (k := m) HOW.out ?_ (by rw [HM.out]; exact Nat.le_refl _)
            rw [← e]; exact hU.out)
          have HBE := Lib.hid hB
          clear hU hB
          go_wp2_with fail
          go_ret2
          exact ⟨0, 0, rfl, ⟨fun _ => HG.out, fun _ => rfl⟩, HB1.out.trans (HBE.out.mono HB1.out.size)⟩
def RGoodP (cs : List Hdr) (w : World) (e : Ending) (w' : World) : Prop := ∃ q, e = .returned (.bool q) ∧ (q = true ↔ GoodH cs) ∧ Below w.heap.size w w'
set_option maxHeartbeats 4000000 in
theorem rgoodK_any {w : World} {v : Value} {cs : List Hdr} (h : Cl w v cs) : Calls Tryz.prog 19 #[.agg #[v]] w (RGoodP cs w) := by
  have hb1 : Below w.heap.size w (w.alloc (.cells #[v] 24)) := (Below.refl _ _).alloc (Nat.le_refl _) _
  have HC := Lib.hid (cl_below h hb1)
  have HB1 := Lib.hid hb1
  obtain ⟨A, cap0, rfl, hcap0, h59, _⟩ := h
  clear hb1
  go_enter Tryz.func19, Tryz.ntmps19
  go_wp2_with (go_at_call 35; refine (rcheckK_any HC.out).mono ?_; rintro e w1 ⟨a, b, rfl, hg, hb⟩; have HGo := Lib.hid hg; have HBo := Lib.hid (HB1.out.trans (hb.mono HB1.out.size)); clear hg hb)
  go_ret
  exact ⟨_, rfl, ⟨fun e => HGo.out.1 (by simpa using e), fun g => by simpa using HGo.out.2 g⟩, HBo.out⟩
end Go.Proofs.YteogphbdpjnjoaaGreat
