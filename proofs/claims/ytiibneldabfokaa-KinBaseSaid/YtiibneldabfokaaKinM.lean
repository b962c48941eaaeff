/- kin: Kids. -/
import Derived.Test.YtiibneldabfokaaKinL
import Derived.Test.YtiibneldabfokaaKinG
set_option linter.unusedSimpArgs false
set_option linter.unusedVariables false
namespace Go.Proofs.Ytiibneldabfokaa
open Go.RowKit
def kidB (cs : List Hdr) (s : ByteArray) (c : Hdr) : Bool := decide (c.1 ≠ s) && leadsB (famL cs) (plc (famL cs) s) (plc (famL cs) c.1)
def kidsF (cs : List Hdr) (s : ByteArray) (l : List Hdr) : List ByteArray := (l.filter (kidB cs s)).map (·.1)
def kidsL (cs : List Hdr) (s : ByteArray) : List ByteArray := if isC cs s then kidsF cs s cs else []
theorem kidsF_step {cs : List Hdr} {s : ByteArray} {k : Nat} {c : Hdr} (h : cs[k]? = some c) : kidsF cs s (cs.take (k + 1)) = kidsF cs s (cs.take k) ++ (if kidB cs s c then [c.1] else []) := by
  unfold kidsF; rw [List.take_add_one, h]
  cases hb : kidB cs s c <;> simp [hb]
theorem kidsF_len (cs : List Hdr) (s : ByteArray) (l : List Hdr) : (kidsF cs s l).length ≤ l.length := by unfold kidsF; rw [List.length_map]; exact List.length_filter_le _ _
/-- A program's classes' cells, in all later worlds. -/
theorem cl_cells {w : World} {A : Option Addr} {cap m : Nat} {cs : List Hdr} (h : Cl w (.slice A m cap) cs) {k : Nat} {c : Hdr} (hk : cs[k]? = some c) : ∃ b o A2 n2 k2 A3 n3 k3, A = some ⟨b, o, none⟩ ∧ w.cell? ⟨b, o + k * 4, none⟩ = some (.string c.1) ∧ w.cell? ⟨b, o + k * 4 + 1, none⟩ = some (.string c.2) ∧ w.cell? ⟨b, o + k * 4 + 2, none⟩ = some (.slice A2 n2 k2) ∧ w.cell? ⟨b, o + k * 4 + 3, none⟩ = some (.slice A3 n3 k3) := by
  obtain ⟨A', cap', e, _, _, hx⟩ := h
  injection e with e1 e2 e3
  have hk0 := (List.getElem?_eq_some_iff.1 hk).1
  obtain ⟨b, o, e, hc⟩ := hx (by omega)
  obtain ⟨a0, a1, A2, n2, k2, A3, n3, k3, a2, a3⟩ := hc k c hk
  exact ⟨b, o, A2, n2, k2, A3, n3, k3, e1.trans e, a0, a1, a2, a3⟩
def KidsP (cs : List Hdr) (s : ByteArray) (w : World) (e : Ending) (w' : World) : Prop := ∃ v, e = .returned v ∧ w'.ownsRow w.heap.size 9 1 v (kidsL cs s).length (strsV (kidsL cs s)) ∧ Below w.heap.size w w'
theorem kids_none {cs : List Hdr} {s : ByteArray} {w W : World} (h : isC cs s = false) (hb : Below w.heap.size w W) : KidsP cs s w (.returned (.slice none 0 0)) W := by
  refine ⟨_, rfl, ?_, hb⟩
  unfold kidsL; rw [h]; exact World.ownsRow_nil _ _ _ _
theorem kids_all {cs : List Hdr} {s : ByteArray} {w W w' : World} {v : Value} {l : List ByteArray} (h : isC cs s = true) (hl : l = kidsF cs s cs) (hR : TxR W v l w') (hb : Below w.heap.size w W) : KidsP cs s w (.returned v) w' := by
  refine ⟨_, rfl, ?_, hb.trans (hR.bel.mono hb.size)⟩
  unfold kidsL; rw [h, if_pos rfl, ← hl]; exact own_baseK hR.own hb.size
set_option maxRecDepth 100000 in
set_option maxHeartbeats 8000000 in
theorem kkids_any {w : World} {v : Value} {cs : List Hdr} (h : Cl w v cs) (hs : Sm cs) (s : ByteArray) : Calls Try.prog 10 #[.agg #[v], .string s] w (KidsP cs s w) := by
  have hb1 : Below w.heap.size w (w.alloc (.cells #[v] 25)) := (Below.refl _ _).alloc (Nat.le_refl _) _
  have hX0 := Lib.hid (Bx.new w #[v] 25)
  have HC := Lib.hid h
  have HSm := Lib.hid hs
  obtain ⟨A, cap0, rfl, hcap0, h59, _⟩ := h
  obtain ⟨q, hq⟩ : ∃ q, isC cs s = q := ⟨_, rfl⟩
  have HQ := Lib.hid hq
  clear hs hq
  go_enter Try.func10, Try.ntmps10
  go_wp2_with (go_at_call 16; refine (family_any (cl_below HC.out hb1)).mono ?_; rintro e w1 ⟨fv, rfl, hF, hb⟩; have hX1 := Lib.hid (hX0.out.next hb); replace hb1 := hb1.trans (hb.mono hb1.size); clear hb hX0; obtain ⟨g, cap, rfl, hcap, h5, h64, hg, hx⟩ := fam_new hF; have HF := Lib.hid hF; clear hF hx)
  have hbA : Below w1.heap.size w1 (w1.alloc (.cells #[.slice (some ⟨g, 0, none⟩) (famL cs).length cap, .int .i64 5, .map none] 48)) := (Below.refl _ _).alloc (Nat.le_refl _) _
  refine (has_any (HF.out.keep (KeepC.below hbA)) s).mono ?_
  rintro e w2 ⟨rfl, hb2⟩
  have hX := (Bx.new w1 #[.slice (some ⟨g, 0, none⟩) (famL cs).length cap, .int .i64 5, .map none] 48).next hb2
  have hbB : Below w1.heap.size w1 w2 := hbA.trans (hb2.mono hbA.size)
  have hb3 : Below w.heap.size w w2 := hb1.trans (hbB.mono hb1.size)
  have hX2 := hX1.out.next hbB
  clear hbA hb2 hb1 hX1
  rw [show decide (plc (famL cs) s < (famL cs).length) = q from HQ.out]
  have c0 := hX.cell 0
  have c1 := hX.cell 1
  have c2 := hX.cell 2
  obtain ⟨n, hn⟩ : ∃ n, (famL cs).length = n := ⟨_, rfl⟩
  have HL := Lib.hid hn
  rw [hn] at hcap h5 h64 c0 ⊢
  cases q
  · clear hX hn hX2
    go_wp2_with fail
    go_ret
    exact kids_none HQ.out hb3
  · obtain ⟨gl, hgl⟩ : ∃ gl, plc (famL cs) s = gl := ⟨_, rfl⟩
    have hgn : gl ≤ n := by rw [← hn, ← hgl]; exact plc_le _ _
    have HGL := Lib.hid hgl
    have HB := fun (w' : World) (hb : Below w2.heap.size w2 w') => (hbB.trans (hb.mono hbB.size) : Below w1.heap.size w1 w')
    have HP : Hid (∀ w', Below w2.heap.size w2 w' → ∀ s, Calls Try.prog 17 #[.agg #[.slice (some ⟨g, 0, none⟩) n cap, .int .i64 5, .map none], .string s] w' fun e w'' => e = .returned (.int .i64 (plc (famL cs) s)) ∧ Below w'.heap.size w' w'') := Lib.hid fun w' hb s => by rw [← hn]; exact place_any (HF.out.keep (KeepC.below (HB _ hb))) s
    have HK : Hid (∀ w', Below w2.heap.size w2 w' → Calls Try.prog 18 #[.agg #[.slice (some ⟨g, 0, none⟩) n cap, .int .i64 5, .map none], .int .i64 gl] w' (MarkSaid (famL cs) gl w')) := Lib.hid fun w' hb => by rw [← hn]; exact marked_any (HF.out.keep (KeepC.below (HB _ hb))) gl (by rw [hn]; exact hgn)
    have HC2 : Hid (∀ w', Below w2.heap.size w2 w' → w'.cell? ⟨w1.heap.size, 0, none⟩ = some (.slice (some ⟨g, 0, none⟩) n cap) ∧ w'.cell? ⟨w1.heap.size, 1, none⟩ = some (.int .i64 5) ∧ w'.cell? ⟨w1.heap.size, 2, none⟩ = some (.map none)) := Lib.hid fun w' hb => by
      rw [← hn]; exact ⟨(hX.next hb).cell 0, (hX.next hb).cell 1, (hX.next hb).cell 2⟩
    have HX2 := Lib.hid hX2
    have hb0 : Below w2.heap.size w2 w2.drew := (Below.refl _ _).drew
    have HB3 := Lib.hid hb3
    clear hX hn hX2 hbB HB hgl c0 c1 c2 hb3
    have HPs : Hid (∀ w', Below w2.heap.size w2 w' → Calls Try.prog 17 #[.agg #[.slice (some ⟨g, 0, none⟩) n cap, .int .i64 5, .map none], .string s] w' fun e w'' => e = .returned (.int .i64 gl) ∧ Below w'.heap.size w' w'') := Lib.hid fun w' hb => by rw [← HGL.out]; exact HP.out w' hb s
    go_upto_region 4 with (fail)
    go_region_held3 (fun w' => w'.cell? ⟨w1.heap.size, 0, none⟩ = some (.slice (some ⟨g, 0, none⟩) n cap) ∧ w'.cell? ⟨w1.heap.size, 1, none⟩ = some (.int .i64 5) ∧ w'.cell? ⟨w1.heap.size, 2, none⟩ = some (.map none))
      (first | with_reducible exact HC2.out _ hb0)
      ((first
        | (go_at_call 17; refine (HPs.out _ hb0).mono ?_; rintro e w3 ⟨rfl, hb⟩; replace hb0 := hb0.trans (hb.mono hb0.size); clear hb)
        | (go_at_call 18; refine (HK.out _ hb0).mono ?_; rintro e w4 ⟨mv, M, rfl, hmo, hMl, hM2, hb⟩; replace hb0 := hb0.trans (hb.mono hb0.size); clear hb)))
    all_goals
      rw [HL.out] at hmo
      have HMO := Lib.hid hmo
      have HML := Lib.hid hMl
      have HM2 := Lib.hid hM2
      obtain ⟨Am, cm, rfl, hcm⟩ := own_form hmo
      obtain ⟨gm, rfl⟩ : ∃ gm, Am = some ⟨gm, 0, none⟩ := by
        rcases hmo.2 with ⟨e, e2⟩ | ⟨gm, c', cur, e, _⟩
        · omega
        · injection e with e _ _; exact ⟨gm, e⟩
      have hbW : Below w.heap.size w w4 := HB3.out.trans (hb0.mono HB3.out.size)
      have HBW := Lib.hid hbW
      have HXW := Lib.hid (HX2.out.next hb0)
      have HCW := Lib.hid (cl_below HC.out hbW)
      have HB0 := Lib.hid hb0
      obtain ⟨m, hm⟩ : ∃ m, cs.length = m := ⟨_, rfl⟩
      have HM := Lib.hid hm
      have hnm : n = 5 + m := by rw [← HL.out, famL_len, hm]
      have HNM := Lib.hid hnm
      have c0 := HXW.out.cell 0
      rw [hm] at hcap0 h59 c0 ⊢
      clear hmo hMl hM2 hbW hb0 hm hnm HPs HK
      go_wp2_with fail
      go_loopw [7, 24] (fun v7 v24 wr => ∃ k : Nat, v24 = .int .i64 k ∧ k ≤ m ∧ TxR w4 v7 (kidsF cs s (cs.take k)) wr) (fun v7 v24 wr => m - (intOf v24).toNat)
      case atStart => exact ⟨0, rfl, Nat.zero_le _, ⟨Below.refl _ _, World.ownsRow_nil _ _ _ _⟩⟩
      case round =>
        obtain ⟨k, rfl, hk, hR⟩ := hrel
        clear c0
        by_cases hlt : k < m
        · obtain ⟨c, hck⟩ : ∃ c, cs[k]? = some c := ⟨cs[k]'(by rw [HM.out]; exact hlt), List.getElem?_eq_getElem _⟩
          have hsz : c.1.size ≤ 16777216 := by have := (HSm.out c (List.mem_of_getElem? hck)).1; omega
          have HN := Lib.hid (kidsF_step (s := s) hck)
          have hlen : (kidsF cs s (cs.take k)).length ≤ 100 := by have := kidsF_len cs s (cs.take k); simp at this; omega
          obtain ⟨b, o, A2, n2, k2, A3, n3, k3, e, a0, a1, a2, a3⟩ := cl_cells (cl_below HCW.out hR.bel) hck
          subst e
          have HXr := Lib.hid (HXW.out.next hR.bel)
          obtain ⟨x1, x2⟩ := c
          obtain ⟨W5, hW5⟩ : ∃ W5, W5 = wr.alloc (.cells #[.string x1, .string x2, .slice A2 n2 k2, .slice A3 n3 k3] 34) := ⟨_, rfl⟩
          have hb5 : Below wr.heap.size wr W5 := by rw [hW5]; exact (Below.refl _ _).alloc (Nat.le_refl _) _
          have hX5 : Bx W5 wr.heap.size #[.string x1, .string x2, .slice A2 n2 k2, .slice A3 n3 k3] 34 := by rw [hW5]; exact Bx.new _ _ _
          have hR5 := hR.next hb5
          have hbb5 : Below w2.heap.size w2 W5 := HB0.out.trans (hR5.bel.mono HB0.out.size)
          have HC5 := HC2.out W5 hbb5
          obtain ⟨f0, f1, f2⟩ := HC5
          obtain ⟨y0, y1, y2, y3⟩ := (⟨hX5.cell 0, hX5.cell 1, hX5.cell 2, hX5.cell 3⟩ : W5.cell? ⟨wr.heap.size, 0, none⟩ = _ ∧ W5.cell? ⟨wr.heap.size, 1, none⟩ = _ ∧ W5.cell? ⟨wr.heap.size, 2, none⟩ = _ ∧ W5.cell? ⟨wr.heap.size, 3, none⟩ = _)
          obtain ⟨nl, hnl⟩ : ∃ nl, kidsF cs s (cs.take k) = nl := ⟨_, rfl⟩
          rw [hnl] at hR5 HN hlen
          have hX6 := Lib.hid hX5
          clear hnl hck hR hb5 hX5
          go_upto_region 9 with (fail)
          rw [← hW5]
          clear hW5 a0 a1 a2 a3
          by_cases hne : x1 = s
          · have HK0 : Hid (kidB cs s (x1, x2) = false) := Lib.hid (by unfold kidB; simp [hne])
            rw [HK0.out] at HN
            subst hne
            have hN : Hid (kidsF cs x1 (cs.take (k + 1)) = nl) := Lib.hid (by rw [HN.out]; simp)
            clear HN
            have HR5 := Lib.hid hR5
            clear hR5
            go_wp2_with fail
            go_roundw
            case rel => exact ⟨k + 1, by simp, by omega, by rw [hN.out]; exact HR5.out⟩
            case measure => simp [intOf]; omega
          · have hq1 : (x1.toList == s.toList) = false := ba_ne hne
            have hq2 : (x1.toList != s.toList) = true := by simp [bne, hq1]
            have hpl : plc (famL cs) x1 ≤ n := by rw [← HL.out]; exact plc_le _ _
            obtain ⟨pj, hpj⟩ : ∃ pj, plc (famL cs) x1 = pj := ⟨_, rfl⟩
            rw [hpj] at hpl
            have HP5 : Hid (Calls Try.prog 17 #[.agg #[.slice (some ⟨g, 0, none⟩) n cap, .int .i64 5, .map none], .string x1] W5 fun e w'' => e = .returned (.int .i64 pj) ∧ Below W5.heap.size W5 w'') := Lib.hid (by rw [← hpj]; exact HP.out W5 hbb5 x1)
            have d0 : W5.cell? ⟨gm, pj, none⟩ = some (.int .i64 (M pj : Nat)) := by
              refine KeepC.below hR5.bel _ _ ?_
              rw [HMO.out.cellAt pj (by omega)]; exact marksV_at (by omega)
            have hpn : (pj : Int) < n + 1 := by omega
            have hKB : kidB cs s (x1, x2) = decide (M pj = 2) := by
              unfold kidB
              have h1 : decide ((x1, x2).1 ≠ s) = true := decide_eq_true hne
              rw [h1, Bool.true_and, Bool.eq_iff_iff, leadsB_iff (plc_le _ _) (plc_le _ _), decide_eq_true_eq, HGL.out]
              show Leads (famL cs) gl (plc (famL cs) x1) ↔ _
              rw [hpj]
              exact (HML.out pj (by rw [HL.out]; exact hpl)).symm
            have HKB := Lib.hid hKB
            have hm3 : M pj = 0 ∨ M pj = 1 ∨ M pj = 2 := by have := HM2.out pj; omega
            clear hpj hKB hne hbb5
            rcases hm3 with h3 | h3 | h3
            · rw [h3] at d0 HKB
              replace d0 : W5.cell? ⟨gm, pj, none⟩ = some (.int .i64 0) := d0
              have hN : Hid (kidsF cs s (cs.take (k + 1)) = nl) := Lib.hid (by rw [HN.out, HKB.out]; simp)
              clear h3 HN HKB
              go_wp2_with (go_at_call 17; refine HP5.out.mono ?_; rintro e w6 ⟨rfl, hb6⟩; have hR6 := Lib.hid (hR5.next hb6); have d1 := KeepC.below hb6 _ _ d0; clear hb6 hR5 HP5 d0 y0 y1 y2 y3 f0 f1 f2)
              go_roundw
              case rel => exact ⟨k + 1, by simp, by omega, by rw [hN.out]; exact hR6.out⟩
              case measure => simp [intOf]; omega
            · rw [h3] at d0 HKB
              replace d0 : W5.cell? ⟨gm, pj, none⟩ = some (.int .i64 1) := d0
              have hN : Hid (kidsF cs s (cs.take (k + 1)) = nl) := Lib.hid (by rw [HN.out, HKB.out]; simp)
              clear h3 HN HKB
              go_wp2_with (go_at_call 17; refine HP5.out.mono ?_; rintro e w6 ⟨rfl, hb6⟩; have hR6 := Lib.hid (hR5.next hb6); have d1 := KeepC.below hb6 _ _ d0; clear hb6 hR5 HP5 d0 y0 y1 y2 y3 f0 f1 f2)
              go_roundw
              case rel => exact ⟨k + 1, by simp, by omega, by rw [hN.out]; exact hR6.out⟩
              case measure => simp [intOf]; omega
            · rw [h3] at d0 HKB
              replace d0 : W5.cell? ⟨gm, pj, none⟩ = some (.int .i64 2) := d0
              have hN : Hid (kidsF cs s (cs.take (k + 1)) = nl ++ [x1]) := Lib.hid (by rw [HN.out, HKB.out]; simp)
              clear h3 HN HKB
              go_wp2_with (go_at_call 17; refine HP5.out.mono ?_; rintro e w6 ⟨rfl, hb6⟩; have hR6 := hR5.next hb6; have d1 := KeepC.below hb6 _ _ d0; have hX7 := hX6.out.next hb6; have y0' := hX7.cell 0; clear hb6 hR5 HP5 d0 y0 y1 y2 y3 f0 f1 f2 hX6 hX7)
              obtain ⟨ii, hii, hiz, his, hib⟩ := info_parts Try.infoStrK
              go_wp2_with (first | (go_at_call 24; refine (cloneK_any _ _ hsz).mono ?_; rintro e w7 ⟨rfl, hb7⟩; have hR7 := hR6.next hb7; clear hb7 hR6) | (at_builtin; refine wpList_append_own _ rfl (.tmp 42) (.tmp 46) 37 rfl w4.heap.size 9 ii _ 1 16 Try.underlying37 hii hiz his hib rfl (by decide) _ nl.length (strsV nl) rfl (hR7.own.alloc _) ⟨w7.heap.size, 0, none⟩ 1 1 [.string x1] rfl rfl (cell_one_newK _ _ _) ?c1 ?c2 ?c3 ?c4 ?_))
              case c1 => first | rfl | (intro u hu; simp at hu; subst hu; rfl)
              case c2 => unfold maxLen; omega
              case c3 => omega
              case c4 => have := hR7.bel.size; simp; omega
              intro v' w8 hown8 hgrow _
              have hNN := Lib.hid (hR7.more hown8 hgrow)
              clear hown8 hgrow hR7
              go_wp2_with fail
              go_roundw
              case rel => exact ⟨k + 1, by simp, by omega, by rw [hN.out]; exact hNN.out⟩
              case measure => simp [intOf]; omega
        · have HT : Hid (cs.take k = cs) := Lib.hid (List.take_of_length_le (by rw [HM.out]; omega))
          rw [HT.out] at hR
          have HR := Lib.hid hR
          clear hR
          go_wp2_with fail
          go_ret
          exact kids_all HQ.out rfl HR.out HBW.out
end Go.Proofs.Ytiibneldabfokaa
