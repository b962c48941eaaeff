/- Contract of what fits of methods. -/
import Derived.Test.YtlpddmncgmhkeaaTreeM
set_option linter.unusedSimpArgs false
set_option linter.unusedVariables false
namespace Go.Proofs.Ytlpddmncgmhkeaa
open Go.RowKit
theorem fitP_drop {ps : List Prm} {k : Nat} {x : Prm} (h : ps[k]? = some x) : fitP (ps.drop k) = ((valT x.1 && nameOk x.2) && fitP (ps.drop (k + 1))) := by
  rw [drop_at _ _ h]; rfl
theorem Pw.sizes {w : World} {v : Value} {ps : List Prm} (h : Pw w v ps) {k : Nat} {x : Prm} (hx : ps[k]? = some x) : x.1.size ≤ maxLen ∧ x.2.size ≤ maxLen := by
  obtain ⟨_, _, _, _, hs, _⟩ := h
  exact hs x (List.mem_of_getElem? hx)
set_option maxRecDepth 100000 in
set_option maxHeartbeats 4000000 in
theorem methodFits_any (w : World) (b o : Nat) (s c : Bool) (ty nm : ByteArray) (vp : Value) (ps : List Prm) (v : Value) (l : List Nd) (hp : Pt.at_ w ⟨b, o, .mt s c ty nm vp ps v l⟩) :
    Calls Try.prog 63 #[.pointer (some ⟨b, o, none⟩)] w fun e w' => e = .returned (.bool (fitsB (.mt s c ty nm vp ps v l))) ∧ Below w.heap.size w w' := by
  have hk := hp.2; rw [Kd] at hk
  obtain ⟨A, cap, rfl, hm⟩ := hk.2.1.form
  unfold maxLen at hm
  have c4 : w.cell? ⟨b, o + 4, none⟩ = some (.slice A ps.length cap) := hp.cell 4 rfl
  obtain ⟨n, hn⟩ : ∃ n, ps.length = n := ⟨_, rfl⟩
  by_cases h6 : n ≤ 6
  · have HAT : Hid (∀ k, k < n → ∃ b o x, A = some ⟨b, o, none⟩ ∧ ps[k]? = some x ∧ w.cell? ⟨b, o + k * 2, none⟩ = some (.string x.1) ∧ w.cell? ⟨b, o + k * 2 + 1, none⟩ = some (.string x.2)) := by
      have := hk.2.1.at.2; rw [hn] at this; exact this
    have HPW := Lib.hid hk.2.1
    have HP := Lib.hid hp
    have HKK := Lib.hid hk
    rw [hn] at c4 hm
    obtain ⟨r, hr⟩ : ∃ r, fitP ps = r := ⟨_, rfl⟩
    obtain ⟨rest, hrest⟩ : ∃ q, (if c then (!s && (emp ty && (emp nm && !hasSup (l.drop 1)))) else ((ty.toList == [118, 111, 105, 100] || valT ty) && (nameOk nm && !hasSup l))) = q := ⟨_, rfl⟩
    have HF : fitsB (.mt s c ty nm (.slice A n cap) ps v l) = (r && rest) := by
      simp only [fitsB, fitM]
      rw [hrest, hr, hn, decide_eq_true h6]
      simp
    rw [hn, HF]
    have H0 := Lib.hid (show fitP (ps.drop 0) = r from hr)
    have HRE := Lib.hid hrest
    have HN := Lib.hid hn
    have h6' : (n : Int) ≤ 6 := by omega
    clear hp hk hr hrest HF hn
    go_enter Try.func63, Try.ntmps63
    go_wp2_with fail
    go_loopw [16] (fun v16 wr => ∃ (k : Nat), v16 = .int .i64 k ∧ k ≤ n ∧ Below w.heap.size w wr ∧ fitP (ps.drop k) = r) (fun v16 wr => n - (intOf v16).toNat)
    case atStart => exact ⟨0, rfl, Nat.zero_le _, Below.refl _ _, H0.out⟩
    case round =>
      obtain ⟨k, rfl, hkn, hbw, hd⟩ := hrel
      have HD := Lib.hid hd; clear hd H0
      have hsz := hbw.size
      by_cases hlt : k < n
      · obtain ⟨b', o', x, rfl, hx, d0, d1⟩ := HAT.out k hlt
        have hxs := HPW.out.sizes hx
        have d0 := (Keep.below hbw) _ _ d0
        have d1 := (Keep.below hbw) _ _ d1
        obtain ⟨q1, e1⟩ : ∃ q, valT x.1 = q := ⟨_, rfl⟩
        obtain ⟨q2, e2⟩ : ∃ q, nameOk x.2 = q := ⟨_, rfl⟩
        have HV : Hid (∀ w1, Calls Try.prog 64 #[.string x.1] w1 fun e w' => e = .returned (.bool q1) ∧ Below w1.heap.size w1 w') := by
          show ∀ w1, _
          intro w1; exact type_ok x.1 hxs.1 w1 q1 e1
        have HNM : Hid (∀ w1, Calls Try.prog 65 #[.string x.2] w1 fun e w' => e = .returned (.bool q2) ∧ Below w1.heap.size w1 w') := by
          show ∀ w1, _
          intro w1; exact name_ok x.2 hxs.2 w1 q2 e2
        have HE := Lib.hid (show ((q1 && q2) && fitP (ps.drop (k + 1))) = r by rw [← HD.out, fitP_drop hx, e1, e2])
        clear HD hx hxs e1 e2
        have hbx := Bx.new wr #[.string x.1, .string x.2] 97
        have hba : Below w.heap.size w (wr.alloc (.cells #[.string x.1, .string x.2] 97)) := hbw.alloc hsz _
        cases q1
        · have HR := Lib.hid (show r = false by rw [← HE.out]; simp)
          go_wp2_with fail
          refine (HV.out _).mono ?_
          rintro e w1 ⟨rfl, hb1⟩
          have hb2 := hba.trans (hb1.mono hba.size)
          clear hbx
          go_wp2_with fail
          go_ret
          exact ⟨ret_bool (by rw [HR.out]; simp), hb2⟩
        · go_wp2_with fail
          refine (HV.out _).mono ?_
          rintro e w1 ⟨rfl, hb1⟩
          have hb2 := hba.trans (hb1.mono hba.size)
          have c1 : w1.cell? ⟨wr.heap.size, 1, none⟩ = some (.string x.2) := by rw [(hbx.next hb1).cell 1]; rfl
          clear hbx hb1 hba
          go_wp2_with fail
          refine (HNM.out _).mono ?_
          rintro e w2 ⟨rfl, hb3⟩
          have hb4 := hb2.trans (hb3.mono hb2.size)
          clear hb3 hb2
          cases q2
          · have HR := Lib.hid (show r = false by rw [← HE.out]; simp)
            go_wp2_with fail
            go_ret
            exact ⟨ret_bool (by rw [HR.out]; simp), hb4⟩
          · have HR := Lib.hid (show fitP (ps.drop (k + 1)) = r by rw [← HE.out]; simp)
            go_wp2_with fail
            go_roundw
            case rel => exact ⟨k + 1, by go_num, by omega, hb4, HR.out⟩
            case measure => simp [intOf]; omega
      · have HT := Lib.hid (show r = true by rw [← HD.out, List.drop_of_length_le (by rw [HN.out]; omega)]; rfl)
        clear HD
        have K := Keep.below hbw
        have hp := HP.out.keep K
        have hkk := HKK.out
        have c0 : wr.cell? ⟨b, o, none⟩ = some (.bool s) := by simpa using hp.cell 0 rfl
        have c1 : wr.cell? ⟨b, o + 1, none⟩ = some (.bool c) := hp.cell 1 rfl
        have c2 : wr.cell? ⟨b, o + 2, none⟩ = some (.string ty) := hp.cell 2 rfl
        have c3 : wr.cell? ⟨b, o + 3, none⟩ = some (.string nm) := hp.cell 3 rfl
        have c5 : wr.cell? ⟨b, o + 5, none⟩ = some v := hp.cell 5 rfl
        have HRW := Lib.hid (hkk.2.2.1.keep K)
        have HSZ := Lib.hid hkk.1
        clear hp hkk K
        cases c
        · obtain ⟨t1, g1⟩ : ∃ q, (ty.toList == [118, 111, 105, 100]) = q := ⟨_, rfl⟩
          obtain ⟨t2, g2⟩ : ∃ q, valT ty = q := ⟨_, rfl⟩
          obtain ⟨t3, g3⟩ : ∃ q, nameOk nm = q := ⟨_, rfl⟩
          obtain ⟨t4, g4⟩ : ∃ q, hasSup l = q := ⟨_, rfl⟩
          have HRR := Lib.hid (show ((t1 || t2) && (t3 && !t4)) = rest by rw [← HRE.out, g1, g2, g3, g4]; simp)
          clear HRE
          have HV := Lib.hid (type_ok ty HSZ.out.1 wr t2 g2)
          have HNM : Hid (∀ w1, Calls Try.prog 65 #[.string nm] w1 fun e w' => e = .returned (.bool t3) ∧ Below w1.heap.size w1 w') := by
            show ∀ w1, _
            intro w1; exact name_ok nm HSZ.out.2 w1 t3 g3
          have HSU : Hid (∀ w1, Keep wr w1 → Calls Try.prog 79 #[v] w1 fun e w' => e = .returned (.bool t4) ∧ w1 = w') := by
            show ∀ w1, _
            intro w1 K; have := hasSuper_any w1 v l (HRW.out.keep K); rw [g4] at this; exact this
          have HP2 := Lib.hid (HP.out.keep (Keep.below hbw))
          clear g2 g3 g4
          cases t1
          · cases t2
            · have HS := Lib.hid (show rest = false by rw [← HRR.out]; simp)
              go_wp2_with (go_at_call 64; refine HV.out.mono ?_; clear HV; rintro e w1 ⟨rfl, hb1⟩)
              go_ret
              exact ⟨ret_bool (by rw [HT.out, HS.out]; rfl), hbw.trans (hb1.mono hsz)⟩
            · go_wp2_with fail
              refine HV.out.mono ?_
              clear HV
              rintro e w1 ⟨rfl, hb1⟩
              have K1 := Keep.below hb1
              have d3 := K1 _ _ c3
              have d5 := K1 _ _ c5
              have hbw1 := hbw.trans (hb1.mono hsz)
              go_wp2_with fail
              refine (HNM.out _).mono ?_
              clear HNM
              rintro e w2 ⟨rfl, hb2⟩
              have K2 := K1.trans (Keep.below hb2)
              have d5 := K2 _ _ c5
              have hbw2 := hbw1.trans (hb2.mono hbw1.size)
              cases t3
              · have HS := Lib.hid (show rest = false by rw [← HRR.out]; simp)
                go_wp2_with fail
                go_ret
                exact ⟨ret_bool (by rw [HT.out, HS.out]; rfl), hbw2⟩
              · have HS := Lib.hid (show rest = !t4 by rw [← HRR.out]; simp)
                go_wp2_with fail
                refine (HSU.out _ K2).mono ?_
                rintro e w3 ⟨rfl, rfl⟩
                go_wp2_with fail
                go_ret
                exact ⟨ret_bool (by rw [HT.out, HS.out]; simp), hbw2⟩
          · go_wp2_with fail
            refine (HNM.out _).mono ?_
            clear HNM
            rintro e w2 ⟨rfl, hb2⟩
            have K2 := Keep.below hb2
            have d5 := K2 _ _ c5
            have hbw2 := hbw.trans (hb2.mono hsz)
            cases t3
            · have HS := Lib.hid (show rest = false by rw [← HRR.out]; simp)
              go_wp2_with fail
              go_ret
              exact ⟨ret_bool (by rw [HT.out, HS.out]; rfl), hbw2⟩
            · have HS := Lib.hid (show rest = !t4 by rw [← HRR.out]; simp)
              go_wp2_with fail
              refine (HSU.out _ K2).mono ?_
              rintro e w3 ⟨rfl, rfl⟩
              go_wp2_with fail
              go_ret
              exact ⟨ret_bool (by rw [HT.out, HS.out]; simp), hbw2⟩
        · obtain ⟨t1, g1⟩ : ∃ q, ty.toList.isEmpty = q := ⟨_, rfl⟩
          obtain ⟨t2, g2⟩ : ∃ q, nm.toList.isEmpty = q := ⟨_, rfl⟩
          obtain ⟨t4, g4⟩ : ∃ q, hasSup (l.drop 1) = q := ⟨_, rfl⟩
          have HRR := Lib.hid (show (!s && (t1 && (t2 && !t4))) = rest by rw [← HRE.out]; simp only [emp, g1, g2, g4, if_true])
          clear HRE
          have HBF := Lib.hid (behindFirst_any wr v l HRW.out)
          have HSU : Hid (∀ v', Rw wr .st v' (l.drop 1) → Calls Try.prog 79 #[v'] wr fun e w' => e = .returned (.bool t4) ∧ wr = w') := by
            show ∀ v', _
            intro v' h; have := hasSuper_any wr v' _ h; rw [g4] at this; exact this
          clear g4
          cases s
          · cases t1
            · have HS := Lib.hid (show rest = false by rw [← HRR.out]; simp)
              go_wp2_with fail
              go_ret
              exact ⟨ret_bool (by rw [HT.out, HS.out]; rfl), hbw⟩
            · cases t2
              · have HS := Lib.hid (show rest = false by rw [← HRR.out]; simp)
                go_wp2_with fail
                go_ret
                exact ⟨ret_bool (by rw [HT.out, HS.out]; rfl), hbw⟩
              · have HS := Lib.hid (show rest = !t4 by rw [← HRR.out]; simp)
                go_wp2_with fail
                refine HBF.out.mono ?_
                clear HBF
                rintro e w1 ⟨v', rfl, hr', rfl⟩
                have HSU2 := Lib.hid (HSU.out v' hr')
                clear hr'
                go_wp2_with fail
                refine HSU2.out.mono ?_
                rintro e w2 ⟨rfl, rfl⟩
                go_wp2_with fail
                go_ret
                exact ⟨ret_bool (by rw [HT.out, HS.out]; simp), hbw⟩
          · have HS := Lib.hid (show rest = false by rw [← HRR.out]; simp)
            go_wp2_with fail
            go_ret
            exact ⟨ret_bool (by rw [HT.out, HS.out]; rfl), hbw⟩
  · have HF : fitsB (.mt s c ty nm (.slice A ps.length cap) ps v l) = false := by
      simp only [fitsB, fitM]
      rw [hn, decide_eq_false h6]; simp
    rw [HF]
    clear HF hp hk
    rw [hn] at c4 hm
    clear hn
    have h6' : (6 : Int) < n := by omega
    go_enter Try.func63, Try.ntmps63
    go_wp2_with fail
    go_ret
    exact ⟨rfl, Below.refl _ _⟩
end Go.Proofs.Ytlpddmncgmhkeaa
