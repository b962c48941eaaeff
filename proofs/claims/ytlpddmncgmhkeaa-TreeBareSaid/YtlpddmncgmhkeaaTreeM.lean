/- Contracts of what fits, of each node; how much deeper one is. Written by wip/tools/gen_tree_m.py. -/
import Derived.Test.YtlpddmncgmhkeaaTreeL
set_option linter.unusedSimpArgs false
set_option linter.unusedVariables false
namespace Go.Proofs.Ytlpddmncgmhkeaa
open Go.RowKit
theorem name_ok (s : ByteArray) (hs : s.size ≤ maxLen) (w : World) (q : Bool) (hq : nameOk s = q) : Calls Try.prog 65 #[.string s] w fun e w' => e = .returned (.bool q) ∧ Below w.heap.size w w' := by subst hq; exact name_any s w hs
theorem class_ok (s : ByteArray) (hs : s.size ≤ maxLen) (w : World) (q : Bool) (hq : classOk s = q) : Calls Try.prog 81 #[.string s] w fun e w' => e = .returned (.bool q) ∧ Below w.heap.size w w' := by subst hq; exact class_any s w hs
theorem type_ok (s : ByteArray) (hs : s.size ≤ maxLen) (w : World) (q : Bool) (hq : valT s = q) : Calls Try.prog 64 #[.string s] w fun e w' => e = .returned (.bool q) ∧ Below w.heap.size w w' := by subst hq; exact valueType_any w s hs
set_option maxRecDepth 100000 in
set_option maxHeartbeats 4000000 in
theorem exprFits_any (w : World) (b o : Nat) (k n : Int) (tx nm ty : ByteArray) (v : Value) (l : List Nd) (own : ByteArray) (nth : Int) (hp : Pt.at_ w ⟨b, o, .ex k n tx nm ty v l own nth⟩) :
    Calls Try.prog 61 #[.pointer (some ⟨b, o, none⟩)] w fun e w' => e = .returned (.bool (fitsB (.ex k n tx nm ty v l own nth))) ∧ Below w.heap.size w w' := by
  have hk := hp.2; rw [Kd] at hk
  have HP := Lib.hid hp
  have HK := Lib.hid hk
  obtain ⟨q0, e0⟩ : ∃ q, numE k n = q := ⟨_, rfl⟩
  obtain ⟨q1, e1⟩ : ∃ q, textE k tx = q := ⟨_, rfl⟩
  obtain ⟨q2, e2⟩ : ∃ q, nameE k nm = q := ⟨_, rfl⟩
  obtain ⟨q3, e3⟩ : ∃ q, typeE k ty = q := ⟨_, rfl⟩
  obtain ⟨q4, e4⟩ : ∃ q, listE k l.length = q := ⟨_, rfl⟩
  have HF : fitsB (.ex k n tx nm ty v l own nth) = (q0 && (q1 && (q2 && (q3 && q4)))) := by simp only [fitsB, fitE, e0, e1, e2, e3, e4]
  rw [HF]; clear HF
  have H0 : Hid (∀ w1, Keep w w1 → Calls Try.prog 69 #[.pointer (some ⟨b, o, none⟩)] w1 fun e w' => e = .returned (.bool q0) ∧ w1 = w') := by
    show ∀ w1, _
    intro w1 K
    have hp := HP.out.keep K
    have hk := hp.2; rw [Kd] at hk
    have := exprNum_any w1 b o k n (by simpa using hp.cell 0 rfl) (hp.cell 1 rfl)
    rw [e0] at this; exact this
  have H1 : Hid (∀ w1, Keep w w1 → Calls Try.prog 70 #[.pointer (some ⟨b, o, none⟩)] w1 fun e w' => e = .returned (.bool q1) ∧ Below w1.heap.size w1 w') := by
    show ∀ w1, _
    intro w1 K
    have hp := HP.out.keep K
    have hk := hp.2; rw [Kd] at hk
    have := exprText_any w1 b o k tx hk.1.1 (by simpa using hp.cell 0 rfl) (hp.cell 2 rfl)
    rw [e1] at this; exact this
  have H2 : Hid (∀ w1, Keep w w1 → Calls Try.prog 71 #[.pointer (some ⟨b, o, none⟩)] w1 fun e w' => e = .returned (.bool q2) ∧ Below w1.heap.size w1 w') := by
    show ∀ w1, _
    intro w1 K
    have hp := HP.out.keep K
    have hk := hp.2; rw [Kd] at hk
    have := exprName_any w1 b o k nm hk.1.2.1 (by simpa using hp.cell 0 rfl) (hp.cell 3 rfl)
    rw [e2] at this; exact this
  have H3 : Hid (∀ w1, Keep w w1 → Calls Try.prog 72 #[.pointer (some ⟨b, o, none⟩)] w1 fun e w' => e = .returned (.bool q3) ∧ Below w1.heap.size w1 w') := by
    show ∀ w1, _
    intro w1 K
    have hp := HP.out.keep K
    have hk := hp.2; rw [Kd] at hk
    have := exprType_any w1 b o k ty hk.1.2.2 (by simpa using hp.cell 0 rfl) (hp.cell 4 rfl)
    rw [e3] at this; exact this
  have H4 : Hid (∀ w1, Keep w w1 → Calls Try.prog 73 #[.pointer (some ⟨b, o, none⟩)] w1 fun e w' => e = .returned (.bool q4) ∧ w1 = w') := by
    show ∀ w1, _
    intro w1 K
    have hp := HP.out.keep K
    have hk := hp.2; rw [Kd] at hk
    have := (by obtain ⟨A, cap, hv⟩ := hk.2.1.form; subst hv; exact exprList_any w1 b o k A l.length cap (by obtain ⟨_, _, _, hm, _⟩ := hk.2.1; exact hm.1) (by simpa using hp.cell 0 rfl) (hp.cell 5 rfl) : Calls Try.prog 73 #[.pointer (some ⟨b, o, none⟩)] w1 fun e w' => e = .returned (.bool (listE k l.length)) ∧ w1 = w')
    rw [e4] at this; exact this
  clear e0 e1 e2 e3 e4 hp hk HP HK
  have K0 : Keep w w := fun _ _ h => h
  have hb0 := Below.refl w.heap.size w
  cases q0
  · go_enter Try.func61, Try.ntmps61
    go_wp2_with fail
    refine (H0.out _ K0).mono ?_
    rintro e0 w1 ⟨rfl, rfl⟩
    go_wp2_with fail
    go_ret
    exact ⟨ret_bool (by simp), hb0⟩
  cases q1
  · go_enter Try.func61, Try.ntmps61
    go_wp2_with fail
    refine (H0.out _ K0).mono ?_
    rintro e0 w1 ⟨rfl, rfl⟩
    go_wp2_with fail
    refine (H1.out _ K0).mono ?_
    rintro e1 w2 ⟨rfl, hc1⟩
    have K2 := Keep.trans K0 (Keep.below hc1)
    have hb2 := hb0.trans (hc1.mono hb0.size)
    go_wp2_with fail
    go_ret
    exact ⟨ret_bool (by simp), hb2⟩
  cases q2
  · go_enter Try.func61, Try.ntmps61
    go_wp2_with fail
    refine (H0.out _ K0).mono ?_
    rintro e0 w1 ⟨rfl, rfl⟩
    go_wp2_with fail
    refine (H1.out _ K0).mono ?_
    rintro e1 w2 ⟨rfl, hc1⟩
    have K2 := Keep.trans K0 (Keep.below hc1)
    have hb2 := hb0.trans (hc1.mono hb0.size)
    go_wp2_with fail
    refine (H2.out _ K2).mono ?_
    rintro e2 w3 ⟨rfl, hc2⟩
    have K3 := Keep.trans K2 (Keep.below hc2)
    have hb3 := hb2.trans (hc2.mono hb2.size)
    go_wp2_with fail
    go_ret
    exact ⟨ret_bool (by simp), hb3⟩
  cases q3
  · go_enter Try.func61, Try.ntmps61
    go_wp2_with fail
    refine (H0.out _ K0).mono ?_
    rintro e0 w1 ⟨rfl, rfl⟩
    go_wp2_with fail
    refine (H1.out _ K0).mono ?_
    rintro e1 w2 ⟨rfl, hc1⟩
    have K2 := Keep.trans K0 (Keep.below hc1)
    have hb2 := hb0.trans (hc1.mono hb0.size)
    go_wp2_with fail
    refine (H2.out _ K2).mono ?_
    rintro e2 w3 ⟨rfl, hc2⟩
    have K3 := Keep.trans K2 (Keep.below hc2)
    have hb3 := hb2.trans (hc2.mono hb2.size)
    go_wp2_with fail
    refine (H3.out _ K3).mono ?_
    rintro e3 w4 ⟨rfl, hc3⟩
    have K4 := Keep.trans K3 (Keep.below hc3)
    have hb4 := hb3.trans (hc3.mono hb3.size)
    go_wp2_with fail
    go_ret
    exact ⟨ret_bool (by simp), hb4⟩
  cases q4
  · go_enter Try.func61, Try.ntmps61
    go_wp2_with fail
    refine (H0.out _ K0).mono ?_
    rintro e0 w1 ⟨rfl, rfl⟩
    go_wp2_with fail
    refine (H1.out _ K0).mono ?_
    rintro e1 w2 ⟨rfl, hc1⟩
    have K2 := Keep.trans K0 (Keep.below hc1)
    have hb2 := hb0.trans (hc1.mono hb0.size)
    go_wp2_with fail
    refine (H2.out _ K2).mono ?_
    rintro e2 w3 ⟨rfl, hc2⟩
    have K3 := Keep.trans K2 (Keep.below hc2)
    have hb3 := hb2.trans (hc2.mono hb2.size)
    go_wp2_with fail
    refine (H3.out _ K3).mono ?_
    rintro e3 w4 ⟨rfl, hc3⟩
    have K4 := Keep.trans K3 (Keep.below hc3)
    have hb4 := hb3.trans (hc3.mono hb3.size)
    go_wp2_with fail
    refine (H4.out _ K4).mono ?_
    rintro e4 w5 ⟨rfl, rfl⟩
    go_wp2_with fail
    go_ret
    exact ⟨ret_bool (by simp), hb4⟩
  go_enter Try.func61, Try.ntmps61
  go_wp2_with fail
  refine (H0.out _ K0).mono ?_
  rintro e0 w1 ⟨rfl, rfl⟩
  go_wp2_with fail
  refine (H1.out _ K0).mono ?_
  rintro e1 w2 ⟨rfl, hc1⟩
  have K2 := Keep.trans K0 (Keep.below hc1)
  have hb2 := hb0.trans (hc1.mono hb0.size)
  go_wp2_with fail
  refine (H2.out _ K2).mono ?_
  rintro e2 w3 ⟨rfl, hc2⟩
  have K3 := Keep.trans K2 (Keep.below hc2)
  have hb3 := hb2.trans (hc2.mono hb2.size)
  go_wp2_with fail
  refine (H3.out _ K3).mono ?_
  rintro e3 w4 ⟨rfl, hc3⟩
  have K4 := Keep.trans K3 (Keep.below hc3)
  have hb4 := hb3.trans (hc3.mono hb3.size)
  go_wp2_with fail
  refine (H4.out _ K4).mono ?_
  rintro e4 w5 ⟨rfl, rfl⟩
  go_wp2_with fail
  go_ret
  exact ⟨ret_bool (by simp), hb4⟩
set_option maxRecDepth 100000 in
set_option maxHeartbeats 4000000 in
theorem stmtFits_any (w : World) (b o : Nat) (k n : Int) (ty nm : ByteArray) (ve va vb vc : Value) (le a b' c : List Nd) (nth : Int) (hp : Pt.at_ w ⟨b, o, .st k n ty nm ve va vb vc le a b' c nth⟩) :
    Calls Try.prog 62 #[.pointer (some ⟨b, o, none⟩)] w fun e w' => e = .returned (.bool (fitsB (.st k n ty nm ve va vb vc le a b' c nth))) ∧ Below w.heap.size w w' := by
  have hk := hp.2; rw [Kd] at hk
  have HP := Lib.hid hp
  have HK := Lib.hid hk
  obtain ⟨q0, e0⟩ : ∃ q, numS k n = q := ⟨_, rfl⟩
  obtain ⟨q1, e1⟩ : ∃ q, typeS k ty = q := ⟨_, rfl⟩
  obtain ⟨q2, e2⟩ : ∃ q, nameS k nm = q := ⟨_, rfl⟩
  obtain ⟨q3, e3⟩ : ∃ q, exprsS k le = q := ⟨_, rfl⟩
  obtain ⟨q4, e4⟩ : ∃ q, blocksS k a b' c = q := ⟨_, rfl⟩
  have HF : fitsB (.st k n ty nm ve va vb vc le a b' c nth) = (q0 && (q1 && (q2 && (q3 && q4)))) := by simp only [fitsB, fitS, e0, e1, e2, e3, e4]
  rw [HF]; clear HF
  have H0 : Hid (∀ w1, Keep w w1 → Calls Try.prog 74 #[.pointer (some ⟨b, o, none⟩)] w1 fun e w' => e = .returned (.bool q0) ∧ w1 = w') := by
    show ∀ w1, _
    intro w1 K
    have hp := HP.out.keep K
    have hk := hp.2; rw [Kd] at hk
    have := stmtNum_any w1 b o k n (by simpa using hp.cell 0 rfl) (hp.cell 1 rfl)
    rw [e0] at this; exact this
  have H1 : Hid (∀ w1, Keep w w1 → Calls Try.prog 75 #[.pointer (some ⟨b, o, none⟩)] w1 fun e w' => e = .returned (.bool q1) ∧ Below w1.heap.size w1 w') := by
    show ∀ w1, _
    intro w1 K
    have hp := HP.out.keep K
    have hk := hp.2; rw [Kd] at hk
    have := stmtType_any w1 b o k ty hk.1.1 (by simpa using hp.cell 0 rfl) (hp.cell 2 rfl)
    rw [e1] at this; exact this
  have H2 : Hid (∀ w1, Keep w w1 → Calls Try.prog 76 #[.pointer (some ⟨b, o, none⟩)] w1 fun e w' => e = .returned (.bool q2) ∧ Below w1.heap.size w1 w') := by
    show ∀ w1, _
    intro w1 K
    have hp := HP.out.keep K
    have hk := hp.2; rw [Kd] at hk
    have := stmtName_any w1 b o k nm hk.1.2 (by simpa using hp.cell 0 rfl) (hp.cell 3 rfl)
    rw [e2] at this; exact this
  have H3 : Hid (∀ w1, Keep w w1 → Calls Try.prog 77 #[.pointer (some ⟨b, o, none⟩)] w1 fun e w' => e = .returned (.bool q3) ∧ w1 = w') := by
    show ∀ w1, _
    intro w1 K
    have hp := HP.out.keep K
    have hk := hp.2; rw [Kd] at hk
    have := stmtExprs_any w1 b o k ve le hk.2.1.1 (by simpa using hp.cell 0 rfl) (hp.cell 4 rfl)
    rw [e3] at this; exact this
  have H4 : Hid (∀ w1, Keep w w1 → Calls Try.prog 78 #[.pointer (some ⟨b, o, none⟩)] w1 fun e w' => e = .returned (.bool q4) ∧ w1 = w') := by
    show ∀ w1, _
    intro w1 K
    have hp := HP.out.keep K
    have hk := hp.2; rw [Kd] at hk
    have := stmtBlocks_any w1 b o k va vb vc a b' c hk.2.2.1.1 hk.2.2.2.1.1 hk.2.2.2.2.1 (by simpa using hp.cell 0 rfl) (hp.cell 5 rfl) (hp.cell 6 rfl) (hp.cell 7 rfl)
    rw [e4] at this; exact this
  clear e0 e1 e2 e3 e4 hp hk HP HK
  have K0 : Keep w w := fun _ _ h => h
  have hb0 := Below.refl w.heap.size w
  cases q0
  · go_enter Try.func62, Try.ntmps62
    go_wp2_with fail
    refine (H0.out _ K0).mono ?_
    rintro e0 w1 ⟨rfl, rfl⟩
    go_wp2_with fail
    go_ret
    exact ⟨ret_bool (by simp), hb0⟩
  cases q1
  · go_enter Try.func62, Try.ntmps62
    go_wp2_with fail
    refine (H0.out _ K0).mono ?_
    rintro e0 w1 ⟨rfl, rfl⟩
    go_wp2_with fail
    refine (H1.out _ K0).mono ?_
    rintro e1 w2 ⟨rfl, hc1⟩
    have K2 := Keep.trans K0 (Keep.below hc1)
    have hb2 := hb0.trans (hc1.mono hb0.size)
    go_wp2_with fail
    go_ret
    exact ⟨ret_bool (by simp), hb2⟩
  cases q2
  · go_enter Try.func62, Try.ntmps62
    go_wp2_with fail
    refine (H0.out _ K0).mono ?_
    rintro e0 w1 ⟨rfl, rfl⟩
    go_wp2_with fail
    refine (H1.out _ K0).mono ?_
    rintro e1 w2 ⟨rfl, hc1⟩
    have K2 := Keep.trans K0 (Keep.below hc1)
    have hb2 := hb0.trans (hc1.mono hb0.size)
    go_wp2_with fail
    refine (H2.out _ K2).mono ?_
    rintro e2 w3 ⟨rfl, hc2⟩
    have K3 := Keep.trans K2 (Keep.below hc2)
    have hb3 := hb2.trans (hc2.mono hb2.size)
    go_wp2_with fail
    go_ret
    exact ⟨ret_bool (by simp), hb3⟩
  cases q3
  · go_enter Try.func62, Try.ntmps62
    go_wp2_with fail
    refine (H0.out _ K0).mono ?_
    rintro e0 w1 ⟨rfl, rfl⟩
    go_wp2_with fail
    refine (H1.out _ K0).mono ?_
    rintro e1 w2 ⟨rfl, hc1⟩
    have K2 := Keep.trans K0 (Keep.below hc1)
    have hb2 := hb0.trans (hc1.mono hb0.size)
    go_wp2_with fail
    refine (H2.out _ K2).mono ?_
    rintro e2 w3 ⟨rfl, hc2⟩
    have K3 := Keep.trans K2 (Keep.below hc2)
    have hb3 := hb2.trans (hc2.mono hb2.size)
    go_wp2_with fail
    refine (H3.out _ K3).mono ?_
    rintro e3 w4 ⟨rfl, rfl⟩
    go_wp2_with fail
    go_ret
    exact ⟨ret_bool (by simp), hb3⟩
  cases q4
  · go_enter Try.func62, Try.ntmps62
    go_wp2_with fail
    refine (H0.out _ K0).mono ?_
    rintro e0 w1 ⟨rfl, rfl⟩
    go_wp2_with fail
    refine (H1.out _ K0).mono ?_
    rintro e1 w2 ⟨rfl, hc1⟩
    have K2 := Keep.trans K0 (Keep.below hc1)
    have hb2 := hb0.trans (hc1.mono hb0.size)
    go_wp2_with fail
    refine (H2.out _ K2).mono ?_
    rintro e2 w3 ⟨rfl, hc2⟩
    have K3 := Keep.trans K2 (Keep.below hc2)
    have hb3 := hb2.trans (hc2.mono hb2.size)
    go_wp2_with fail
    refine (H3.out _ K3).mono ?_
    rintro e3 w4 ⟨rfl, rfl⟩
    go_wp2_with fail
    refine (H4.out _ K3).mono ?_
    rintro e4 w5 ⟨rfl, rfl⟩
    go_wp2_with fail
    go_ret
    exact ⟨ret_bool (by simp), hb3⟩
  go_enter Try.func62, Try.ntmps62
  go_wp2_with fail
  refine (H0.out _ K0).mono ?_
  rintro e0 w1 ⟨rfl, rfl⟩
  go_wp2_with fail
  refine (H1.out _ K0).mono ?_
  rintro e1 w2 ⟨rfl, hc1⟩
  have K2 := Keep.trans K0 (Keep.below hc1)
  have hb2 := hb0.trans (hc1.mono hb0.size)
  go_wp2_with fail
  refine (H2.out _ K2).mono ?_
  rintro e2 w3 ⟨rfl, hc2⟩
  have K3 := Keep.trans K2 (Keep.below hc2)
  have hb3 := hb2.trans (hc2.mono hb2.size)
  go_wp2_with fail
  refine (H3.out _ K3).mono ?_
  rintro e3 w4 ⟨rfl, rfl⟩
  go_wp2_with fail
  refine (H4.out _ K3).mono ?_
  rintro e4 w5 ⟨rfl, rfl⟩
  go_wp2_with fail
  go_ret
  exact ⟨ret_bool (by simp), hb3⟩
set_option maxRecDepth 100000 in
set_option maxHeartbeats 4000000 in
theorem classFits_any (w : World) (b o : Nat) (nm sp : ByteArray) (vf vm : Value) (f m : List Nd) (hp : Pt.at_ w ⟨b, o, .cl nm sp vf vm f m⟩) :
    Calls Try.prog 66 #[.pointer (some ⟨b, o, none⟩)] w fun e w' => e = .returned (.bool (fitsB (.cl nm sp vf vm f m))) ∧ Below w.heap.size w w' := by
  have hk := hp.2; rw [Kd] at hk
  obtain ⟨Af, capf, rfl⟩ := hk.2.1.1.form
  obtain ⟨Am, capm, rfl⟩ := hk.2.2.1.form
  have c0 : w.cell? ⟨b, o, none⟩ = some (.string nm) := by simpa using hp.cell 0 rfl
  have c1 : w.cell? ⟨b, o + 1, none⟩ = some (.string sp) := hp.cell 1 rfl
  have c2 : w.cell? ⟨b, o + 2, none⟩ = some (.slice Af f.length capf) := hp.cell 2 rfl
  have c3 : w.cell? ⟨b, o + 3, none⟩ = some (.slice Am m.length capm) := hp.cell 3 rfl
  have HP := Lib.hid hp
  obtain ⟨q0, e0⟩ : ∃ q, classOk nm = q := ⟨_, rfl⟩
  obtain ⟨q1, e1⟩ : ∃ q, sp.toList.isEmpty = q := ⟨_, rfl⟩
  obtain ⟨q2, e2⟩ : ∃ q, classOk sp = q := ⟨_, rfl⟩
  obtain ⟨nf, hnf⟩ : ∃ n, f.length = n := ⟨_, rfl⟩
  obtain ⟨nm', hnm⟩ : ∃ n, m.length = n := ⟨_, rfl⟩
  obtain ⟨q3, e3⟩ : ∃ q, decide (nf ≤ 30) = q := ⟨_, rfl⟩
  obtain ⟨q4, e4⟩ : ∃ q, decide (nm' ≤ 30) = q := ⟨_, rfl⟩
  simp only [fitsB, e0, emp, e1, e2, hnf, hnm, e3, e4]
  rw [hnf] at c2
  rw [hnm] at c3
  have g3 : decide ((nf : Int) ≤ 30) = q3 := by rw [← e3]; simp only [decide_eq_decide]; omega
  have g4 : decide ((nm' : Int) ≤ 30) = q4 := by rw [← e4]; simp only [decide_eq_decide]; omega
  have H0 := Lib.hid (class_ok nm hk.1.1 w q0 e0)
  have H1 : Hid (∀ w1, Calls Try.prog 81 #[.string sp] w1 fun e w' => e = .returned (.bool q2) ∧ Below w1.heap.size w1 w') := by
    show ∀ w1, _
    intro w1; exact class_ok sp hk.1.2 w1 q2 e2
  have ec1 : w.heap.size ≤ w.heap.size := Nat.le_refl _
  clear hk hp e0 e2 e3 e4 hnf hnm ec1
  cases q0
  · go_enter Try.func66, Try.ntmps66
    go_wp2_with fail
    refine H0.out.mono ?_
    rintro e w1 ⟨rfl, hb1⟩
    have hp1 := HP.out.keep (Keep.below hb1)
    have d1 : w1.cell? ⟨b, o + 1, none⟩ = some (.string sp) := hp1.cell 1 rfl
    have d2 := (Keep.below hb1) _ _ c2
    have d3 := (Keep.below hb1) _ _ c3
    clear hp1
    go_wp2_with fail
    go_ret
    exact ⟨ret_bool (by simp), hb1⟩
  have FIN : True := trivial
  cases q1
  rotate_left
  · cases q3
    · go_enter Try.func66, Try.ntmps66
      go_wp2_with fail
      refine H0.out.mono ?_
      rintro e w1 ⟨rfl, hb1⟩
      have hp1 := HP.out.keep (Keep.below hb1)
      have d1 : w1.cell? ⟨b, o + 1, none⟩ = some (.string sp) := hp1.cell 1 rfl
      have d2 := (Keep.below hb1) _ _ c2
      have d3 := (Keep.below hb1) _ _ c3
      clear hp1
      go_wp2_with fail
      go_ret
      exact ⟨ret_bool (by simp), hb1⟩
    cases q4
    · go_enter Try.func66, Try.ntmps66
      go_wp2_with fail
      refine H0.out.mono ?_
      rintro e w1 ⟨rfl, hb1⟩
      have hp1 := HP.out.keep (Keep.below hb1)
      have d1 : w1.cell? ⟨b, o + 1, none⟩ = some (.string sp) := hp1.cell 1 rfl
      have d2 := (Keep.below hb1) _ _ c2
      have d3 := (Keep.below hb1) _ _ c3
      clear hp1
      go_wp2_with fail
      go_ret
      exact ⟨ret_bool (by simp), hb1⟩
    go_enter Try.func66, Try.ntmps66
    go_wp2_with fail
    refine H0.out.mono ?_
    rintro e w1 ⟨rfl, hb1⟩
    have hp1 := HP.out.keep (Keep.below hb1)
    have d1 : w1.cell? ⟨b, o + 1, none⟩ = some (.string sp) := hp1.cell 1 rfl
    have d2 := (Keep.below hb1) _ _ c2
    have d3 := (Keep.below hb1) _ _ c3
    clear hp1
    go_wp2_with fail
    go_ret
    exact ⟨ret_bool (by simp), hb1⟩
  cases q2
  · go_enter Try.func66, Try.ntmps66
    go_wp2_with fail
    refine H0.out.mono ?_
    rintro e w1 ⟨rfl, hb1⟩
    have hp1 := HP.out.keep (Keep.below hb1)
    have d1 : w1.cell? ⟨b, o + 1, none⟩ = some (.string sp) := hp1.cell 1 rfl
    have d2 := (Keep.below hb1) _ _ c2
    have d3 := (Keep.below hb1) _ _ c3
    clear hp1
    go_wp2_with fail
    refine (H1.out _).mono ?_
    rintro e w2 ⟨rfl, hb2⟩
    have hb3 := hb1.trans (hb2.mono hb1.size)
    have d2 := (Keep.below hb2) _ _ d2
    have d3 := (Keep.below hb2) _ _ d3
    go_wp2_with fail
    go_ret
    exact ⟨ret_bool (by simp), hb3⟩
  cases q3
  · go_enter Try.func66, Try.ntmps66
    go_wp2_with fail
    refine H0.out.mono ?_
    rintro e w1 ⟨rfl, hb1⟩
    have hp1 := HP.out.keep (Keep.below hb1)
    have d1 : w1.cell? ⟨b, o + 1, none⟩ = some (.string sp) := hp1.cell 1 rfl
    have d2 := (Keep.below hb1) _ _ c2
    have d3 := (Keep.below hb1) _ _ c3
    clear hp1
    go_wp2_with fail
    refine (H1.out _).mono ?_
    rintro e w2 ⟨rfl, hb2⟩
    have hb3 := hb1.trans (hb2.mono hb1.size)
    have d2 := (Keep.below hb2) _ _ d2
    have d3 := (Keep.below hb2) _ _ d3
    go_wp2_with fail
    go_ret
    exact ⟨ret_bool (by simp), hb3⟩
  cases q4
  · go_enter Try.func66, Try.ntmps66
    go_wp2_with fail
    refine H0.out.mono ?_
    rintro e w1 ⟨rfl, hb1⟩
    have hp1 := HP.out.keep (Keep.below hb1)
    have d1 : w1.cell? ⟨b, o + 1, none⟩ = some (.string sp) := hp1.cell 1 rfl
    have d2 := (Keep.below hb1) _ _ c2
    have d3 := (Keep.below hb1) _ _ c3
    clear hp1
    go_wp2_with fail
    refine (H1.out _).mono ?_
    rintro e w2 ⟨rfl, hb2⟩
    have hb3 := hb1.trans (hb2.mono hb1.size)
    have d2 := (Keep.below hb2) _ _ d2
    have d3 := (Keep.below hb2) _ _ d3
    go_wp2_with fail
    go_ret
    exact ⟨ret_bool (by simp), hb3⟩
  go_enter Try.func66, Try.ntmps66
  go_wp2_with fail
  refine H0.out.mono ?_
  rintro e w1 ⟨rfl, hb1⟩
  have hp1 := HP.out.keep (Keep.below hb1)
  have d1 : w1.cell? ⟨b, o + 1, none⟩ = some (.string sp) := hp1.cell 1 rfl
  have d2 := (Keep.below hb1) _ _ c2
  have d3 := (Keep.below hb1) _ _ c3
  clear hp1
  go_wp2_with fail
  refine (H1.out _).mono ?_
  rintro e w2 ⟨rfl, hb2⟩
  have hb3 := hb1.trans (hb2.mono hb1.size)
  have d2 := (Keep.below hb2) _ _ d2
  have d3 := (Keep.below hb2) _ _ d3
  go_wp2_with fail
  go_ret
  exact ⟨ret_bool (by simp), hb3⟩
end Go.Proofs.Ytlpddmncgmhkeaa
