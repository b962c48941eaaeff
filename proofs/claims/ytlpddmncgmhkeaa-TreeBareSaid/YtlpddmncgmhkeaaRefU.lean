/- The document's sameness of fields, methods, classes, programs. -/
import Derived.Test.YtlpddmncgmhkeaaRefT
import Derived.Test.YtlpddmncgmhkeaaBareJ
import Derived.Deep.QuietTactic
set_option linter.unusedSimpArgs false
set_option linter.unusedVariables false
namespace Go.Proofs.Ytlpddmncgmhkeaa
open Go.RowKit
theorem same_fd (s : Bool) (ty nm : ByteArray) (v : Value) (l : List Nd) (s' : Bool) (ty' nm' : ByteArray) (v' : Value) (l' : List Nd) :
    sameL [.fd s ty nm v l] [.fd s' ty' nm' v' l'] = ((s == s') && ((ty.toList == ty'.toList) && ((nm.toList == nm'.toList) && sameL l l'))) := by
  rw [sameL_one]
  simp only [alikeB, Nd.kids]
  by_cases hl : l.length = l'.length
  · rw [beq_iff_eq.2 hl]; simp only [Bool.and_true, Bool.and_assoc]
  · rw [sameL_ne _ _ hl]; simp
theorem same_mt (s c : Bool) (ty nm : ByteArray) (vp : Value) (ps : List Prm) (v : Value) (l : List Nd) (s' c' : Bool) (ty' nm' : ByteArray) (vp' : Value) (ps' : List Prm) (v' : Value) (l' : List Nd) :
    sameL [.mt s c ty nm vp ps v l] [.mt s' c' ty' nm' vp' ps' v' l'] = ((s == s') && ((c == c') && ((ty.toList == ty'.toList) && ((nm.toList == nm'.toList) && (psB ps ps' && sameL l l'))))) := by
  rw [sameL_one]
  simp only [alikeB, Nd.kids]
  by_cases hl : l.length = l'.length
  · rw [beq_iff_eq.2 hl]; simp only [Bool.and_true, Bool.and_assoc]
  · rw [sameL_ne _ _ hl]; simp
theorem same_cl (nm sp : ByteArray) (vf vm : Value) (f m : List Nd) (nm' sp' : ByteArray) (vf' vm' : Value) (f' m' : List Nd) :
    sameL [.cl nm sp vf vm f m] [.cl nm' sp' vf' vm' f' m'] = ((nm.toList == nm'.toList) && ((sp.toList == sp'.toList) && (sameL f f' && sameL m m'))) := by
  rw [sameL_one]
  simp only [alikeB, Nd.kids]
  by_cases hl : f.length = f'.length
  · by_cases hm : m.length = m'.length
    · rw [sameL_append f f' m m' hl, beq_iff_eq.2 hl, beq_iff_eq.2 hm]; simp only [Bool.and_true, Bool.and_assoc]
    · rw [sameL_ne _ _ hm, beq_eq_false_iff_ne.2 hm]; simp
  · rw [sameL_ne _ _ hl, beq_eq_false_iff_ne.2 hl]; simp
set_option maxRecDepth 100000 in
set_option maxHeartbeats 1000000 in
theorem ref_same_fd (w : World) (s : Bool) (ty nm : ByteArray) (v : Value) (l : List Nd) (s' : Bool) (ty' nm' : ByteArray) (v' : Value) (l' : List Nd) (hk : Kd w (.fd s ty nm v l)) (hk' : Kd w (.fd s' ty' nm' v' l')) (hl : sizeL l ≤ 1000000) (r : Bool) (hr : sameL [.fd s ty nm v l] [.fd s' ty' nm' v' l'] = r) :
    Calls Try.prog 41 #[.agg #[.bool s, .string ty, .string nm, v], .agg #[.bool s', .string ty', .string nm', v']] w fun e w' => e = .returned (.bool r) ∧ Below w.heap.size w w' := by
  rw [Kd] at hk hk'
  obtain ⟨A, cap, rfl⟩ := hk.2.1.form
  obtain ⟨A', cap', rfl⟩ := hk'.2.1.form
  obtain ⟨W, hW⟩ : ∃ W, (w.alloc (.cells #[.bool s, .string ty, .string nm, .slice A l.length cap] 44)).alloc (.cells #[.bool s', .string ty', .string nm', .slice A' l'.length cap'] 44) = W := ⟨_, rfl⟩
  have hb : Below w.heap.size w W := by rw [← hW]; exact ((Below.refl _ w).alloc (Nat.le_refl _) _).alloc (by simp) _
  have hx : Bx W w.heap.size #[.bool s, .string ty, .string nm, .slice A l.length cap] 44 := by rw [← hW]; exact (Bx.new _ _ _).next ((Below.refl _ _).alloc (Nat.le_refl _) _)
  have hy : Bx W (w.heap.size + 1) #[.bool s', .string ty', .string nm', .slice A' l'.length cap'] 44 := by
    rw [← hW]
    have := Bx.new (w.alloc (.cells #[.bool s, .string ty, .string nm, .slice A l.length cap] 44)) #[.bool s', .string ty', .string nm', .slice A' l'.length cap'] 44
    simpa using this
  have K := Keep.below hb
  have HI := Lib.hid (ref_sames_any (sizeL l) hl W _ _ l l' (Nat.le_refl _) (hk.2.1.keep K) (KdL.keep K _ hk.2.2) (hk'.2.1.keep K) (KdL.keep K _ hk'.2.2))
  obtain ⟨x0, x1, x2, x3⟩ := hx.get_4
  obtain ⟨y0, y1, y2, y3⟩ := hy.get_4
  rw [same_fd] at hr
  obtain ⟨q, hq⟩ : ∃ q, sameL l l' = q := ⟨_, rfl⟩
  rw [hq] at HI hr
  have HB := Lib.hid hb
  obtain ⟨q0, h0⟩ : ∃ q, (s == s') = q := ⟨_, rfl⟩
  obtain ⟨q1, h1⟩ : ∃ q, (ty.toList == ty'.toList) = q := ⟨_, rfl⟩
  obtain ⟨q2, h2⟩ : ∃ q, (nm.toList == nm'.toList) = q := ⟨_, rfl⟩
  rw [h0, h1, h2] at hr
  have HR := Lib.hid hr
  clear hk hk' K hx hy hq hr hb
  go_enter Try.func41, Try.ntmps41
  go_wp2_with (go_at_call 54; refine HI.out.mono ?_; clear HI; rintro e w1 ⟨rfl, hb1⟩)
  all_goals go_ret
  all_goals have hr := HR.out
  all_goals have hb := HB.out
  all_goals subst hr
  all_goals first
    | exact ⟨ret_bool (by simp_all), hb.trans (hb1.mono hb.size)⟩
    | exact ⟨ret_bool (by simp_all), hb⟩
set_option maxRecDepth 100000 in
set_option maxHeartbeats 4000000 in
theorem ref_same_mt (w : World) (s c : Bool) (ty nm : ByteArray) (vp : Value) (ps : List Prm) (v : Value) (l : List Nd) (s' c' : Bool) (ty' nm' : ByteArray) (vp' : Value) (ps' : List Prm) (v' : Value) (l' : List Nd) (hk : Kd w (.mt s c ty nm vp ps v l)) (hk' : Kd w (.mt s' c' ty' nm' vp' ps' v' l')) (hl : sizeL l ≤ 1000000) (r : Bool) (hr : sameL [.mt s c ty nm vp ps v l] [.mt s' c' ty' nm' vp' ps' v' l'] = r) :
    Calls Try.prog 42 #[.agg #[.bool s, .bool c, .string ty, .string nm, vp, v], .agg #[.bool s', .bool c', .string ty', .string nm', vp', v']] w fun e w' => e = .returned (.bool r) ∧ Below w.heap.size w w' := by
  rw [Kd] at hk hk'
  obtain ⟨A, cap, rfl, hpm⟩ := hk.2.1.form
  obtain ⟨A', cap', rfl, hpm'⟩ := hk'.2.1.form
  obtain ⟨B, bap, rfl⟩ := hk.2.2.1.form
  obtain ⟨B', bap', rfl⟩ := hk'.2.2.1.form
  unfold maxLen at hpm hpm'
  obtain ⟨W, hW⟩ : ∃ W, (w.alloc (.cells #[.bool s, .bool c, .string ty, .string nm, .slice A ps.length cap, .slice B l.length bap] 39)).alloc (.cells #[.bool s', .bool c', .string ty', .string nm', .slice A' ps'.length cap', .slice B' l'.length bap'] 39) = W := ⟨_, rfl⟩
  have hb : Below w.heap.size w W := by rw [← hW]; exact ((Below.refl _ w).alloc (Nat.le_refl _) _).alloc (by simp) _
  have hx : Bx W w.heap.size #[.bool s, .bool c, .string ty, .string nm, .slice A ps.length cap, .slice B l.length bap] 39 := by rw [← hW]; exact (Bx.new _ _ _).next ((Below.refl _ _).alloc (Nat.le_refl _) _)
  have hy : Bx W (w.heap.size + 1) #[.bool s', .bool c', .string ty', .string nm', .slice A' ps'.length cap', .slice B' l'.length bap'] 39 := by
    rw [← hW]
    have := Bx.new (w.alloc (.cells #[.bool s, .bool c, .string ty, .string nm, .slice A ps.length cap, .slice B l.length bap] 39)) #[.bool s', .bool c', .string ty', .string nm', .slice A' ps'.length cap', .slice B' l'.length bap'] 39
    simpa using this
  have HI : Hid (∀ w', Below W.heap.size W w' → Calls Try.prog 55 #[.slice B l.length bap, .slice B' l'.length bap'] w' fun e w'' => e = .returned (.bool (sameL l l')) ∧ Below w'.heap.size w' w'') := by
    show ∀ w', _
    intro w' hc
    have K := Keep.below (hb.trans (hc.mono hb.size))
    exact ref_same_stmts_any (sizeL l) hl w' _ _ l l' (Nat.le_refl _) (hk.2.2.1.keep K) (KdL.keep K _ hk.2.2.2) (hk'.2.2.1.keep K) (KdL.keep K _ hk'.2.2.2)
  have HP : Hid (∀ w', Below W.heap.size W w' → Pw w' (.slice A ps.length cap) ps ∧ Pw w' (.slice A' ps'.length cap') ps') := by
    show ∀ w', _
    intro w' hc
    have K := Keep.below (hb.trans (hc.mono hb.size))
    exact ⟨hk.2.1.keep K, hk'.2.1.keep K⟩
  have HX : Hid (∀ w', Below W.heap.size W w' → Bx w' w.heap.size #[.bool s, .bool c, .string ty, .string nm, .slice A ps.length cap, .slice B l.length bap] 39 ∧ Bx w' (w.heap.size + 1) #[.bool s', .bool c', .string ty', .string nm', .slice A' ps'.length cap', .slice B' l'.length bap'] 39) := by
    show ∀ w', _
    intro w' hc; exact ⟨hx.next hc, hy.next hc⟩
  rw [same_mt] at hr
  obtain ⟨q, hq⟩ : ∃ q, sameL l l' = q := ⟨_, rfl⟩
  rw [hq] at HI hr
  have HB := Lib.hid hb
  obtain ⟨q0, h0⟩ : ∃ q, (s == s') = q := ⟨_, rfl⟩
  obtain ⟨q1, h1⟩ : ∃ q, (c == c') = q := ⟨_, rfl⟩
  obtain ⟨q2, h2⟩ : ∃ q, (ty.toList == ty'.toList) = q := ⟨_, rfl⟩
  obtain ⟨q3, h3⟩ : ∃ q, (nm.toList == nm'.toList) = q := ⟨_, rfl⟩
  rw [h0, h1, h2, h3] at hr
  have HR := Lib.hid hr
  have hB0 : Below W.heap.size W W := Below.refl _ _
  clear hk hk' hx hy hq hr hb
  obtain ⟨hx, hy⟩ := HX.out _ hB0
  obtain ⟨x0, x1, x2, x3, x4, x5⟩ := hx.get_6
  obtain ⟨y0, y1, y2, y3, y4, y5⟩ := hy.get_6
  clear hx hy
  by_cases hne : ps.length = ps'.length
  · obtain ⟨n, hn⟩ : ∃ n, ps.length = n := ⟨_, rfl⟩
    have hn' : ps'.length = n := hne ▸ hn
    rw [hn] at x4 HP HX hpm hW ⊢
    rw [hn'] at y4 HP HX hpm' hW ⊢
    have HLN := Lib.hid hn; have HLN' := Lib.hid hn'
    clear hn hn' hne
    cases q0
    · go_enter Try.func42, Try.ntmps42
      go_wp2_with fail
      go_ret
      exact ⟨ret_bool (by rw [← HR.out]; simp), HB.out⟩
    cases q1
    · go_enter Try.func42, Try.ntmps42
      go_wp2_with fail
      go_ret
      exact ⟨ret_bool (by rw [← HR.out]; simp), HB.out⟩
    cases q2
    · go_enter Try.func42, Try.ntmps42
      go_wp2_with fail
      go_ret
      exact ⟨ret_bool (by rw [← HR.out]; simp), HB.out⟩
    cases q3
    · go_enter Try.func42, Try.ntmps42
      go_wp2_with fail
      go_ret
      exact ⟨ret_bool (by rw [← HR.out]; simp), HB.out⟩
    have HS0 := Lib.hid (show (psB (ps.drop 0) (ps'.drop 0) && q) = r by have := HR.out; simpa using this)
    go_enter Try.func42, Try.ntmps42
    go_wp2_with fail
    clear h0 h1 h2 h3 x0 x1 x2 x3 x4 x5 y0 y1 y2 y3 y4 y5 HR hW
    go_loopw [5] (fun v5 wr => ∃ k : Nat, v5 = .int .i64 k ∧ k ≤ n ∧ (psB (ps.drop k) (ps'.drop k) && q) = r ∧ Below W.heap.size W wr) (fun v5 wr => n - (intOf v5).toNat)
    case atStart => exact ⟨0, rfl, Nat.zero_le _, HS0.out, hB0⟩
    case round =>
      obtain ⟨k, rfl, hkn, hsk, hC⟩ := hrel
      clear HS0 hB0
      obtain ⟨hx, hy⟩ := HX.out _ hC
      obtain ⟨_, _, _, _, x4, x5⟩ := hx.get_6
      obtain ⟨_, _, _, _, y4, y5⟩ := hy.get_6
      clear hx hy
      by_cases hlt : k < n
      · obtain ⟨hp, hp'⟩ := HP.out _ hC
        obtain ⟨b, o, x, rfl, hx, c0, c1⟩ := hp.at.2 k hlt
        obtain ⟨b', o', y, rfl, hy, d0, d1⟩ := hp'.at.2 k hlt
        rw [drop_at _ _ hx, drop_at _ _ hy] at hsk
        have HSK := Lib.hid (show ((prmB x y && psB (ps.drop (k + 1)) (ps'.drop (k + 1))) && q) = r from hsk)
        clear hp hp' hx hy hsk
        by_cases e1 : x.1.toList = y.1.toList
        · by_cases e2 : x.2.toList = y.2.toList
          · have HE := Lib.hid (show (psB (ps.drop (k + 1)) (ps'.drop (k + 1)) && q) = r by rw [← HSK.out]; unfold prmB; rw [e1, e2]; simp)
            go_wp2_with fail
            go_quiet (fail)
            clear e1 e2
            have hC2 := below_drewN hC nq
            go_wp2_with fail
            go_roundw
            case rel => exact ⟨k + 1, by go_num, by omega, HE.out, hC2⟩
            case measure => simp [intOf]; omega
          · have HE := Lib.hid (show r = false by rw [← HSK.out]; unfold prmB; rw [beq_false_of_ne e2]; simp)
            go_wp2_with fail
            go_quiet (fail)
            clear e1 e2
            have hC2 := below_drewN hC nq
            go_wp2_with fail
            go_ret
            exact ⟨ret_bool HE.out.symm, HB.out.trans (hC2.mono HB.out.size)⟩
        · have HE := Lib.hid (show r = false by rw [← HSK.out]; unfold prmB; rw [beq_false_of_ne e1]; simp)
          go_wp2_with fail
          go_quiet (fail)
          clear e1
          have hC2 := below_drewN hC nq
          go_wp2_with fail
          go_ret
          exact ⟨ret_bool HE.out.symm, HB.out.trans (hC2.mono HB.out.size)⟩
      · rw [List.drop_eq_nil_of_le (by rw [HLN.out]; omega), List.drop_eq_nil_of_le (by rw [HLN'.out]; omega)] at hsk
        have hqr : q = r := by rw [← hsk]; simp [psB]
        clear hsk
        go_wp2_with (go_at_call 55; refine (HI.out _ hC).mono ?_; clear HI; rintro e w1 ⟨rfl, hb1⟩)
        have hfin := HB.out.trans ((hC.trans (hb1.mono hC.size)).mono HB.out.size)
        go_ret
        exact ⟨ret_bool (by first | rfl | exact hqr), hfin⟩
  · have hf : r = false := by rw [← HR.out, psB_ne hne]; simp
    have hne2 : ((ps.length : Int) != (ps'.length : Int)) = true := by simp; omega
    have hne3 : ¬ ((ps.length : Int) = (ps'.length : Int)) := by omega
    clear HR HI HP HX
    go_enter Try.func42, Try.ntmps42
    go_wp2_with fail
    all_goals
      go_ret
      exact ⟨ret_bool hf.symm, HB.out⟩
set_option maxRecDepth 100000 in
set_option maxHeartbeats 4000000 in
theorem ref_same_cl (w : World) (nm sp : ByteArray) (vf vm : Value) (f m : List Nd) (nm' sp' : ByteArray) (vf' vm' : Value) (f' m' : List Nd) (hk : Kd w (.cl nm sp vf vm f m)) (hk' : Kd w (.cl nm' sp' vf' vm' f' m')) (hl : sizeL f + sizeL m ≤ 1000000) (r : Bool) (hr : sameL [.cl nm sp vf vm f m] [.cl nm' sp' vf' vm' f' m'] = r) :
    Calls Try.prog 25 #[.agg #[.string nm, .string sp, vf, vm], .agg #[.string nm', .string sp', vf', vm']] w fun e w' => e = .returned (.bool r) ∧ Below w.heap.size w w' := by
  rw [Kd] at hk hk'
  obtain ⟨A1, n1, rfl⟩ := hk.2.1.1.form
  obtain ⟨A2, n2, rfl⟩ := hk.2.2.1.form
  obtain ⟨B1, k1, rfl⟩ := hk'.2.1.1.form
  obtain ⟨B2, k2, rfl⟩ := hk'.2.2.1.form
  have hm1 : f.length ≤ 1000000 := by have := len_sizeL f; omega
  have hm2 : m.length ≤ 1000000 := by have := len_sizeL m; omega
  have hm3 : f'.length ≤ maxLen := by obtain ⟨_, _, _, h, _⟩ := hk'.2.1.1; exact h.1
  have hm4 : m'.length ≤ maxLen := by obtain ⟨_, _, _, h, _⟩ := hk'.2.2.1; exact h.1
  unfold maxLen at hm3 hm4
  obtain ⟨W, hW⟩ : ∃ W, (w.alloc (.cells #[.string nm, .string sp, .slice A1 f.length n1, .slice A2 m.length n2] 33)).alloc (.cells #[.string nm', .string sp', .slice B1 f'.length k1, .slice B2 m'.length k2] 33) = W := ⟨_, rfl⟩
  have hb : Below w.heap.size w W := by rw [← hW]; exact ((Below.refl _ w).alloc (Nat.le_refl _) _).alloc (by simp) _
  have hx : Bx W w.heap.size #[.string nm, .string sp, .slice A1 f.length n1, .slice A2 m.length n2] 33 := by rw [← hW]; exact (Bx.new _ _ _).next ((Below.refl _ _).alloc (Nat.le_refl _) _)
  have hy : Bx W (w.heap.size + 1) #[.string nm', .string sp', .slice B1 f'.length k1, .slice B2 m'.length k2] 33 := by
    rw [← hW]
    have := Bx.new (w.alloc (.cells #[.string nm, .string sp, .slice A1 f.length n1, .slice A2 m.length n2] 33)) #[.string nm', .string sp', .slice B1 f'.length k1, .slice B2 m'.length k2] 33
    simpa using this
  have HX : Hid (∀ w', Below W.heap.size W w' → Bx w' w.heap.size #[.string nm, .string sp, .slice A1 f.length n1, .slice A2 m.length n2] 33 ∧ Bx w' (w.heap.size + 1) #[.string nm', .string sp', .slice B1 f'.length k1, .slice B2 m'.length k2] 33) := by
    show ∀ w', _
    intro w' hc; exact ⟨hx.next hc, hy.next hc⟩
  have HF : Hid (∀ w', Below W.heap.size W w' → (Rw w' .fd (.slice A1 f.length n1) f ∧ KdL w' f) ∧ Rw w' .fd (.slice B1 f'.length k1) f' ∧ KdL w' f') := by
    show ∀ w', _
    intro w' hc
    have K := Keep.below (hb.trans (hc.mono hb.size))
    exact ⟨⟨hk.2.1.1.keep K, KdL.keep K _ hk.2.1.2⟩, hk'.2.1.1.keep K, KdL.keep K _ hk'.2.1.2⟩
  have HM : Hid (∀ w', Below W.heap.size W w' → (Rw w' .mt (.slice A2 m.length n2) m ∧ KdL w' m) ∧ Rw w' .mt (.slice B2 m'.length k2) m' ∧ KdL w' m') := by
    show ∀ w', _
    intro w' hc
    have K := Keep.below (hb.trans (hc.mono hb.size))
    exact ⟨⟨hk.2.2.1.keep K, KdL.keep K _ hk.2.2.2⟩, hk'.2.2.1.keep K, KdL.keep K _ hk'.2.2.2⟩
  rw [same_cl] at hr
  have HB := Lib.hid hb
  have HL := Lib.hid hl
  obtain ⟨q0, h0⟩ : ∃ q, (nm.toList == nm'.toList) = q := ⟨_, rfl⟩
  obtain ⟨q1, h1⟩ : ∃ q, (sp.toList == sp'.toList) = q := ⟨_, rfl⟩
  rw [h0, h1] at hr
  have HR := Lib.hid hr
  have hB0 : Below W.heap.size W W := Below.refl _ _
  clear hk hk' hx hy hr hb hl
  obtain ⟨hx, hy⟩ := HX.out _ hB0
  obtain ⟨x0, x1, x2, x3⟩ := hx.get_4
  obtain ⟨y0, y1, y2, y3⟩ := hy.get_4
  clear hx hy
  cases q0
  · go_enter Try.func25, Try.ntmps25
    go_wp2_with fail
    go_ret
    exact ⟨ret_bool (by rw [← HR.out]; simp), HB.out⟩
  cases q1
  · go_enter Try.func25, Try.ntmps25
    go_wp2_with fail
    go_ret
    exact ⟨ret_bool (by rw [← HR.out]; simp), HB.out⟩
  by_cases hne : f.length = f'.length
  · by_cases hne2 : m.length = m'.length
    · obtain ⟨n, hn⟩ : ∃ n, f.length = n := ⟨_, rfl⟩
      have hn' : f'.length = n := hne ▸ hn
      obtain ⟨p, hp⟩ : ∃ p, m.length = p := ⟨_, rfl⟩
      have hp' : m'.length = p := hne2 ▸ hp
      rw [hn] at x2 HX HF hW hm1 ⊢; rw [hn'] at y2 HX HF hW hm3 ⊢
      rw [hp] at x3 HX HM hW hm2 ⊢; rw [hp'] at y3 HX HM hW hm4 ⊢
      have HLN := Lib.hid hn; have HLN' := Lib.hid hn'; have HLP := Lib.hid hp; have HLP' := Lib.hid hp'
      clear hn hn' hne hp hp' hne2
      obtain ⟨qm, hqm⟩ : ∃ q, sameL m m' = q := ⟨_, rfl⟩
      have HQM := Lib.hid hqm
      have HS0 := Lib.hid (show (sameL (f.drop 0) (f'.drop 0) && qm) = r by have := HR.out; rw [hqm] at this; simpa using this)
      clear hqm
      go_enter Try.func25, Try.ntmps25
      go_wp2_with fail
      clear h0 h1 x0 x1 x2 x3 y0 y1 y2 y3 HR hW
      go_loopw [5] (fun v5 wr => ∃ k : Nat, v5 = .int .i64 k ∧ k ≤ n ∧ (sameL (f.drop k) (f'.drop k) && qm) = r ∧ Below W.heap.size W wr) (fun v5 wr => n - (intOf v5).toNat)
      case atStart => exact ⟨0, rfl, Nat.zero_le _, HS0.out, hB0⟩
      case round =>
        obtain ⟨k, rfl, hkn, hsk, hC⟩ := hrel
        clear HS0 hB0
        obtain ⟨hx, hy⟩ := HX.out _ hC
        obtain ⟨_, _, x2, x3⟩ := hx.get_4
        obtain ⟨_, _, y2, y3⟩ := hy.get_4
        clear hx hy
        by_cases hlt : k < n
        · obtain ⟨⟨hr1, hk1⟩, hr2, hk2⟩ := HF.out _ hC
          obtain ⟨b, o, x, rfl, hx, hxt, hc⟩ := hr1.get hlt
          obtain ⟨b', o', y, rfl, hy, hyt, hc'⟩ := hr2.get hlt
          have hxk := KdL.mem_get hk1 hx
          have hyk := KdL.mem_get hk2 hy
          rw [sameL_drop hx hy] at hsk
          have hxs : x.size ≤ sizeL f := size_mem (List.mem_of_getElem? hx)
          cases x <;> first | (simp [Nd.tag] at hxt; done) | skip
          rename_i xs xty xnm xv xl
          cases y <;> first | (simp [Nd.tag] at hyt; done) | skip
          rename_i ys yty ynm yv yl
          obtain ⟨t, ht⟩ : ∃ t, sameL [.fd xs xty xnm xv xl] [.fd ys yty ynm yv yl] = t := ⟨_, rfl⟩
          rw [ht] at hsk
          have hsz : (Nd.fd xs xty xnm xv xl).size = 1 + sizeL xl := by simp [Nd.size]
          have hb0 : Below _ _ wr.drew := (Below.refl wr.heap.size wr).drew
          have HX2 := Lib.hid (ref_same_fd wr.drew xs xty xnm xv xl ys yty ynm yv yl (Kd.keep (Keep.below hb0) _ hxk) (Kd.keep (Keep.below hb0) _ hyk) (by have := HL.out; omega) t ht)
          have x0 := hc 0 _ rfl; have x1 := hc 1 _ rfl; have x2' := hc 2 _ rfl; have x3' := hc 3 _ rfl
          have y0 := hc' 0 _ rfl; have y1 := hc' 1 _ rfl; have y2' := hc' 2 _ rfl; have y3' := hc' 3 _ rfl
          simp only [Tg.sz, Nat.add_zero] at x0 x1 x2' x3' y0 y1 y2' y3'
          obtain ⟨xA, xcap, rfl⟩ := (by rw [Kd] at hxk; exact hxk.2.1.form : ∃ A cap, xv = .slice A xl.length cap)
          obtain ⟨yA, ycap, rfl⟩ := (by rw [Kd] at hyk; exact hyk.2.1.form : ∃ A cap, yv = .slice A yl.length cap)
          have HSK := Lib.hid hsk
          have hi0 : (0 : Int) ≤ (k : Int) := by omega
          have hi1 : (k : Int) < (n : Int) := by omega
          clear hc hc' hxk hyk hx hy ht hsz hxt hyt hxs hsk hr1 hr2 hk1 hk2
          go_wp2_with fail
          go_region_with (go_at_call 41; refine HX2.out.mono ?_; clear HX2; rintro e w1 ⟨rfl, hb⟩)
          all_goals
            have hB1 := (hC.drew).trans (hb.mono hC.size)
            have h2 := HSK.out
            clear hb
            cases t
            · go_wp2_with fail
              go_ret
              exact ⟨ret_bool (by rw [← h2]; simp), HB.out.trans (hB1.mono HB.out.size)⟩
            · go_wp2_with fail
              go_roundw
              case rel => exact ⟨k + 1, by go_num, by omega, by rw [← h2]; simp, hB1⟩
              case measure => simp [intOf]; omega
        · rw [List.drop_eq_nil_of_le (by rw [HLN.out]; omega), List.drop_eq_nil_of_le (by rw [HLN'.out]; omega), sameL_nil] at hsk
          have HS1 := Lib.hid (show sameL (m.drop 0) (m'.drop 0) = r by rw [← hsk, ← HQM.out]; simp)
          clear hsk
          go_wp2_with fail
          go_loopw [6] (fun v6 wr => ∃ k : Nat, v6 = .int .i64 k ∧ k ≤ p ∧ sameL (m.drop k) (m'.drop k) = r ∧ Below W.heap.size W wr) (fun v6 wr => p - (intOf v6).toNat)
          case atStart => exact ⟨0, rfl, Nat.zero_le _, HS1.out, hC⟩
          case round =>
            obtain ⟨i, rfl, hin, hsk, hD⟩ := hrel
            clear HS1 x2 y2 x3 y3 hC
            obtain ⟨hx, hy⟩ := HX.out _ hD
            obtain ⟨_, _, x2, x3⟩ := hx.get_4
            obtain ⟨_, _, y2, y3⟩ := hy.get_4
            clear hx hy
            by_cases hil : i < p
            · obtain ⟨⟨hr1, hk1⟩, hr2, hk2⟩ := HM.out _ hD
              obtain ⟨b, o, x, rfl, hx, hxt, hc⟩ := hr1.get hil
              obtain ⟨b', o', y, rfl, hy, hyt, hc'⟩ := hr2.get hil
              have hxk := KdL.mem_get hk1 hx
              have hyk := KdL.mem_get hk2 hy
              rw [sameL_drop hx hy] at hsk
              have hxs : x.size ≤ sizeL m := size_mem (List.mem_of_getElem? hx)
              cases x <;> first | (simp [Nd.tag] at hxt; done) | skip
              rename_i xs xc xty xnm xvp xps xv xl
              cases y <;> first | (simp [Nd.tag] at hyt; done) | skip
              rename_i ys yc yty ynm yvp yps yv yl
              obtain ⟨t, ht⟩ : ∃ t, sameL [.mt xs xc xty xnm xvp xps xv xl] [.mt ys yc yty ynm yvp yps yv yl] = t := ⟨_, rfl⟩
              rw [ht] at hsk
              have hsz : (Nd.mt xs xc xty xnm xvp xps xv xl).size = 1 + sizeL xl := by simp [Nd.size]
              have hb0 : Below _ _ wr.drew := (Below.refl wr.heap.size wr).drew
              have HX2 := Lib.hid (ref_same_mt wr.drew xs xc xty xnm xvp xps xv xl ys yc yty ynm yvp yps yv yl (Kd.keep (Keep.below hb0) _ hxk) (Kd.keep (Keep.below hb0) _ hyk) (by have := HL.out; omega) t ht)
              have x0 := hc 0 _ rfl; have x1 := hc 1 _ rfl; have x2' := hc 2 _ rfl; have x3' := hc 3 _ rfl; have x4 := hc 4 _ rfl; have x5 := hc 5 _ rfl
              have y0 := hc' 0 _ rfl; have y1 := hc' 1 _ rfl; have y2' := hc' 2 _ rfl; have y3' := hc' 3 _ rfl; have y4 := hc' 4 _ rfl; have y5 := hc' 5 _ rfl
              simp only [Tg.sz, Nat.add_zero] at x0 x1 x2' x3' x4 x5 y0 y1 y2' y3' y4 y5
              rw [Kd] at hxk hyk
              obtain ⟨xA, xcap, rfl⟩ := hxk.2.2.1.form
              obtain ⟨yA, ycap, rfl⟩ := hyk.2.2.1.form
              obtain ⟨xP, xpap, rfl, _⟩ := hxk.2.1.form
              obtain ⟨yP, ypap, rfl, _⟩ := hyk.2.1.form
              have HSK := Lib.hid hsk
              have hi0 : (0 : Int) ≤ (i : Int) := by omega
              have hi1 : (i : Int) < (p : Int) := by omega
              clear hc hc' hxk hyk hx hy ht hsz hxt hyt hxs hsk hr1 hr2 hk1 hk2
              go_wp2_with fail
              go_region_with (go_at_call 42; refine HX2.out.mono ?_; clear HX2; rintro e w1 ⟨rfl, hb⟩)
              all_goals
                have hB1 := (hD.drew).trans (hb.mono hD.size)
                have h2 := HSK.out
                clear hb
                cases t
                · go_wp2_with fail
                  go_ret
                  exact ⟨ret_bool (by rw [← h2]; simp), HB.out.trans (hB1.mono HB.out.size)⟩
                · go_wp2_with fail
                  go_roundw
                  case rel => exact ⟨i + 1, by go_num, by omega, by rw [← h2]; simp, hB1⟩
                  case measure => simp [intOf]; omega
            · rw [List.drop_eq_nil_of_le (by rw [HLP.out]; omega), List.drop_eq_nil_of_le (by rw [HLP'.out]; omega), sameL_nil] at hsk
              have HSK := Lib.hid hsk
              clear hsk
              go_wp2_with fail
              go_ret
              exact ⟨ret_bool HSK.out, HB.out.trans (hD.mono HB.out.size)⟩
    · have hf : r = false := by rw [← HR.out, sameL_ne _ _ hne2]; simp
      have hne3 : ¬ ((m.length : Int) = (m'.length : Int)) := by omega
      have hne4 : ((m.length : Int) != (m'.length : Int)) = true := by simp; omega
      obtain ⟨n, hn⟩ : ∃ n, f.length = n := ⟨_, rfl⟩
      have hn' : f'.length = n := hne ▸ hn
      rw [hn] at x2 hW hm1 ⊢; rw [hn'] at y2 hW hm3 ⊢
      clear hn hn' hne
      clear HR HX HF HM
      go_enter Try.func25, Try.ntmps25
      go_wp2_with fail
      all_goals
        go_ret
        exact ⟨ret_bool hf.symm, HB.out⟩
  · have hf : r = false := by rw [← HR.out, sameL_ne _ _ hne]; simp
    have hne3 : ¬ ((f.length : Int) = (f'.length : Int)) := by omega
    have hne4 : ((f.length : Int) != (f'.length : Int)) = true := by simp; omega
    clear HR HX HF HM
    go_enter Try.func25, Try.ntmps25
    go_wp2_with fail
    all_goals
      go_ret
      exact ⟨ret_bool hf.symm, HB.out⟩
set_option maxRecDepth 100000 in
set_option maxHeartbeats 4000000 in
theorem ref_same_prog (w : World) (v v' : Value) (l l' : List Nd) (hr : Rw w .cl v l) (hk : KdL w l) (hr' : Rw w .cl v' l') (hk' : KdL w l') (hl : sizeL l ≤ 1000000) (r : Bool) (hq : sameL l l' = r) :
    Calls Try.prog 8 #[.agg #[v], .agg #[v']] w fun e w' => e = .returned (.bool r) ∧ Below w.heap.size w w' := by
  obtain ⟨A, cap, rfl⟩ := hr.form
  obtain ⟨A', cap', rfl⟩ := hr'.form
  have hm1 : l.length ≤ 1000000 := by have := len_sizeL l; omega
  have hm3 : l'.length ≤ maxLen := by obtain ⟨_, _, _, h, _⟩ := hr'; exact h.1
  unfold maxLen at hm3
  obtain ⟨W, hW⟩ : ∃ W, (w.alloc (.cells #[.slice A l.length cap] 24)).alloc (.cells #[.slice A' l'.length cap'] 24) = W := ⟨_, rfl⟩
  have hb : Below w.heap.size w W := by rw [← hW]; exact ((Below.refl _ w).alloc (Nat.le_refl _) _).alloc (by simp) _
  have hx : Bx W w.heap.size #[.slice A l.length cap] 24 := by rw [← hW]; exact (Bx.new _ _ _).next ((Below.refl _ _).alloc (Nat.le_refl _) _)
  have hy : Bx W (w.heap.size + 1) #[.slice A' l'.length cap'] 24 := by
    rw [← hW]
    have := Bx.new (w.alloc (.cells #[.slice A l.length cap] 24)) #[.slice A' l'.length cap'] 24
    simpa using this
  have HX : Hid (∀ w', Below W.heap.size W w' → w'.cell? ⟨w.heap.size, 0, none⟩ = some (.slice A l.length cap) ∧ w'.cell? ⟨w.heap.size + 1, 0, none⟩ = some (.slice A' l'.length cap')) := by
    show ∀ w', _
    intro w' hc; exact ⟨(hx.next hc).cell 0, (hy.next hc).cell 0⟩
  have HF : Hid (∀ w', Below W.heap.size W w' → (Rw w' .cl (.slice A l.length cap) l ∧ KdL w' l) ∧ Rw w' .cl (.slice A' l'.length cap') l' ∧ KdL w' l') := by
    show ∀ w', _
    intro w' hc
    have K := Keep.below (hb.trans (hc.mono hb.size))
    exact ⟨⟨hr.keep K, KdL.keep K _ hk⟩, hr'.keep K, KdL.keep K _ hk'⟩
  have HB := Lib.hid hb
  have HL := Lib.hid hl
  have hB0 : Below W.heap.size W W := Below.refl _ _
  clear hr hk hr' hk' hx hy hb hl
  obtain ⟨x0, y0⟩ := HX.out _ hB0
  by_cases hne : l.length = l'.length
  · obtain ⟨n, hn⟩ : ∃ n, l.length = n := ⟨_, rfl⟩
    have hn' : l'.length = n := hne ▸ hn
    rw [hn] at x0 HX HF hW hm1 ⊢; rw [hn'] at y0 HX HF hW hm3 ⊢
    have HLN := Lib.hid hn; have HLN' := Lib.hid hn'
    have HS0 := Lib.hid (show sameL (l.drop 0) (l'.drop 0) = r by simpa using hq)
    clear hn hn' hne hq
    go_enter Try.func8, Try.ntmps8
    go_wp2_with fail
    clear x0 y0 hW
    go_loopw [5] (fun v5 wr => ∃ k : Nat, v5 = .int .i64 k ∧ k ≤ n ∧ sameL (l.drop k) (l'.drop k) = r ∧ Below W.heap.size W wr) (fun v5 wr => n - (intOf v5).toNat)
    case atStart => exact ⟨0, rfl, Nat.zero_le _, HS0.out, hB0⟩
    case round =>
      obtain ⟨k, rfl, hkn, hsk, hC⟩ := hrel
      clear HS0 hB0
      obtain ⟨x0', y0'⟩ := HX.out _ hC
      by_cases hlt : k < n
      · obtain ⟨⟨hr1, hk1⟩, hr2, hk2⟩ := HF.out _ hC
        obtain ⟨b, o, x, rfl, hx, hxt, hc⟩ := hr1.get hlt
        obtain ⟨b', o', y, rfl, hy, hyt, hc'⟩ := hr2.get hlt
        have hxk := KdL.mem_get hk1 hx
        have hyk := KdL.mem_get hk2 hy
        rw [sameL_drop hx hy] at hsk
        have hxs : x.size ≤ sizeL l := size_mem (List.mem_of_getElem? hx)
        cases x <;> first | (simp [Nd.tag] at hxt; done) | skip
        rename_i xnm xsp xvf xvm xf xm
        cases y <;> first | (simp [Nd.tag] at hyt; done) | skip
        rename_i ynm ysp yvf yvm yf ym
        obtain ⟨t, ht⟩ : ∃ t, sameL [.cl xnm xsp xvf xvm xf xm] [.cl ynm ysp yvf yvm yf ym] = t := ⟨_, rfl⟩
        rw [ht] at hsk
        have hsz : (Nd.cl xnm xsp xvf xvm xf xm).size = 1 + (sizeL xf + sizeL xm) := by simp [Nd.size]
        have hb0 : Below _ _ wr.drew := (Below.refl wr.heap.size wr).drew
        have HX2 := Lib.hid (ref_same_cl wr.drew xnm xsp xvf xvm xf xm ynm ysp yvf yvm yf ym (Kd.keep (Keep.below hb0) _ hxk) (Kd.keep (Keep.below hb0) _ hyk) (by have := HL.out; omega) t ht)
        have x0 := hc 0 _ rfl; have x1 := hc 1 _ rfl; have x2' := hc 2 _ rfl; have x3' := hc 3 _ rfl
        have y0 := hc' 0 _ rfl; have y1 := hc' 1 _ rfl; have y2' := hc' 2 _ rfl; have y3' := hc' 3 _ rfl
        simp only [Tg.sz, Nat.add_zero] at x0 x1 x2' x3' y0 y1 y2' y3'
        rw [Kd] at hxk hyk
        obtain ⟨xA, xcap, rfl⟩ := hxk.2.1.1.form
        obtain ⟨yA, ycap, rfl⟩ := hyk.2.1.1.form
        obtain ⟨xP, xpap, rfl⟩ := hxk.2.2.1.form
        obtain ⟨yP, ypap, rfl⟩ := hyk.2.2.1.form
        have HSK := Lib.hid hsk
        have hi0 : (0 : Int) ≤ (k : Int) := by omega
        have hi1 : (k : Int) < (n : Int) := by omega
        clear hc hc' hxk hyk hx hy ht hsz hxt hyt hxs hsk hr1 hr2 hk1 hk2
        go_wp2_with fail
        go_region_with (go_at_call 25; refine HX2.out.mono ?_; clear HX2; rintro e w1 ⟨rfl, hb⟩)
        all_goals
          have hB1 := (hC.drew).trans (hb.mono hC.size)
          have h2 := HSK.out
          clear hb
          cases t
          · go_wp2_with fail
            go_ret
            exact ⟨ret_bool (by rw [← h2]; simp), HB.out.trans (hB1.mono HB.out.size)⟩
          · go_wp2_with fail
            go_roundw
            case rel => exact ⟨k + 1, by go_num, by omega, by rw [← h2]; simp, hB1⟩
            case measure => simp [intOf]; omega
      · rw [List.drop_eq_nil_of_le (by rw [HLN.out]; omega), List.drop_eq_nil_of_le (by rw [HLN'.out]; omega), sameL_nil] at hsk
        have HSK := Lib.hid hsk
        clear hsk
        go_wp2_with fail
        go_ret
        exact ⟨ret_bool HSK.out, HB.out.trans (hC.mono HB.out.size)⟩
  · have hf : r = false := by rw [← hq]; exact sameL_ne _ _ hne
    have hne3 : ¬ ((l.length : Int) = (l'.length : Int)) := by omega
    have hne4 : ((l.length : Int) != (l'.length : Int)) = true := by simp; omega
    clear HX HF hq
    go_enter Try.func8, Try.ntmps8
    go_wp2_with fail
    all_goals
      go_ret
      exact ⟨ret_bool hf.symm, HB.out⟩
end Go.Proofs.Ytlpddmncgmhkeaa
