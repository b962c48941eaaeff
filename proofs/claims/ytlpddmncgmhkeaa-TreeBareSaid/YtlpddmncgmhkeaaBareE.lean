/- Contract of tree.addWithin of a node in new memory. Written by wip/tools/gen_bare_e.py. -/
import Derived.Test.YtlpddmncgmhkeaaBareD
import Derived.Test.YtlpddmncgmhkeaaBareC
set_option linter.unusedSimpArgs false
set_option linter.unusedVariables false
namespace Go.Proofs.Ytlpddmncgmhkeaa
open Go.RowKit
theorem Grew.of_drewN {w w' : World} {v v' : Value} {n : Nat} (h : Grew (w.drewN n) w' v v') : Grew w w' v v' := ⟨⟨h.1.os, h.1.tape, h.1.output, h.1.size, h.1.block⟩, h.2⟩
set_option maxRecDepth 100000 in
set_option maxHeartbeats 2000000 in
theorem gwithin_ex (B : Nat) (w : World) (v : Value) (ps : List Pt) (b o : Nat) (k n : Int) (tx nm ty : ByteArray) (nv : Value) (l : List Nd) (own : ByteArray) (nth : Int) (hB : B ≤ w.heap.size)
    (hown : w.ownsRow B 71 1 v ps.length (ps.map ptV)) (hp : ∀ w' v', Grew w w' v v' → Pt.at_ w' ⟨b, o, .ex k n tx nm ty nv l own nth⟩) (hs : ps.length + (l.length) ≤ 1000000) :
    Calls Try.prog 33 #[v, .iface 67 (.pointer (some ⟨b, o, none⟩))] w (AddSaid w B v (ps ++ kidsP (.ex k n tx nm ty nv l own nth))) := by
  have HP := Lib.hid hp
  have hk := (hp w v (Grew.refl w v)).2; rw [Kd] at hk
  have hl0 := ptsV_len (hk.2.1)
  have HG0 := Lib.hid (Grew.refl w v)
  clear hk hp
  go_enter Try.func33, Try.ntmps33
  have c0 : w.cell? ⟨b, o + 5, none⟩ = some nv := (HP.out w v HG0.out).cell 5 rfl
  have hk0 := (HP.out w v HG0.out).2; rw [Kd] at hk0
  have H0 := Lib.hid (add_ex w B v (ps) nv l hB hown (hk0.2.1) (by omega))
  clear hk0
  go_wp2_with fail
  refine (H0.out).mono ?_
  clear H0
  rintro e0 w1 ⟨v1, rfl, ho1, hg1⟩
  have HG1 := Lib.hid (HG0.out.trans hg1)
  have hB1 : B ≤ w1.heap.size := Nat.le_trans hB hg1.size
  clear c0 hg1
  go_wp2_with fail
  go_ret
  exact said_mk ho1 HG1.out (by simp [kidsP])
set_option maxRecDepth 100000 in
set_option maxHeartbeats 2000000 in
theorem gwithin_st (B : Nat) (w : World) (v : Value) (ps : List Pt) (b o : Nat) (k n : Int) (ty nm : ByteArray) (ve va vb vc : Value) (e a b' c : List Nd) (nth : Int) (hB : B ≤ w.heap.size)
    (hown : w.ownsRow B 71 1 v ps.length (ps.map ptV)) (hp : ∀ w' v', Grew w w' v v' → Pt.at_ w' ⟨b, o, .st k n ty nm ve va vb vc e a b' c nth⟩) (hs : ps.length + (e.length + a.length + b'.length + c.length) ≤ 1000000) :
    Calls Try.prog 33 #[v, .iface 75 (.pointer (some ⟨b, o, none⟩))] w (AddSaid w B v (ps ++ kidsP (.st k n ty nm ve va vb vc e a b' c nth))) := by
  have HP := Lib.hid hp
  have hk := (hp w v (Grew.refl w v)).2; rw [Kd] at hk
  have hl0 := ptsV_len (hk.2.1.1)
  have hl1 := ptsV_len (hk.2.2.1.1)
  have hl2 := ptsV_len (hk.2.2.2.1.1)
  have hl3 := ptsV_len (hk.2.2.2.2.1)
  have HG0 := Lib.hid (Grew.refl w v)
  clear hk hp
  go_enter Try.func33, Try.ntmps33
  have c0 : w.cell? ⟨b, o + 4, none⟩ = some ve := (HP.out w v HG0.out).cell 4 rfl
  have hk0 := (HP.out w v HG0.out).2; rw [Kd] at hk0
  have H0 := Lib.hid (add_ex w B v (ps) ve e hB hown (hk0.2.1.1) (by omega))
  clear hk0
  go_wp2_with fail
  refine (H0.out).mono ?_
  clear H0
  rintro e0 w1 ⟨v1, rfl, ho1, hg1⟩
  have HG1 := Lib.hid (HG0.out.trans hg1)
  have hB1 : B ≤ w1.heap.size := Nat.le_trans hB hg1.size
  clear c0 hg1
  have c1 : w1.cell? ⟨b, o + 5, none⟩ = some va := (HP.out w1 v1 HG1.out).cell 5 rfl
  have hk1 := (HP.out w1 v1 HG1.out).2; rw [Kd] at hk1
  have H1 := Lib.hid (add_st w1 B v1 (ps ++ ptsV .ex ve e) va a hB1 ho1 (hk1.2.2.1.1) (by simp only [List.length_append]; omega))
  clear hk1
  go_wp2_with fail
  refine (H1.out).mono ?_
  clear H1
  rintro e1 w2 ⟨v2, rfl, ho2, hg2⟩
  have HG2 := Lib.hid (HG1.out.trans hg2)
  have hB2 : B ≤ w2.heap.size := Nat.le_trans hB1 hg2.size
  clear c1 hg2
  have c2 : w2.cell? ⟨b, o + 6, none⟩ = some vb := (HP.out w2 v2 HG2.out).cell 6 rfl
  have hk2 := (HP.out w2 v2 HG2.out).2; rw [Kd] at hk2
  have H2 := Lib.hid (add_st w2 B v2 (ps ++ ptsV .ex ve e ++ ptsV .st va a) vb b' hB2 ho2 (hk2.2.2.2.1.1) (by simp only [List.length_append]; omega))
  clear hk2
  go_wp2_with fail
  refine (H2.out).mono ?_
  clear H2
  rintro e2 w3 ⟨v3, rfl, ho3, hg3⟩
  have HG3 := Lib.hid (HG2.out.trans hg3)
  have hB3 : B ≤ w3.heap.size := Nat.le_trans hB2 hg3.size
  clear c2 hg3
  have c3 : w3.cell? ⟨b, o + 7, none⟩ = some vc := (HP.out w3 v3 HG3.out).cell 7 rfl
  have hk3 := (HP.out w3 v3 HG3.out).2; rw [Kd] at hk3
  have H3 := Lib.hid (add_st w3 B v3 (ps ++ ptsV .ex ve e ++ ptsV .st va a ++ ptsV .st vb b') vc c hB3 ho3 (hk3.2.2.2.2.1) (by simp only [List.length_append]; omega))
  clear hk3
  go_wp2_with fail
  refine (H3.out).mono ?_
  clear H3
  rintro e3 w4 ⟨v4, rfl, ho4, hg4⟩
  have HG4 := Lib.hid (HG3.out.trans hg4)
  have hB4 : B ≤ w4.heap.size := Nat.le_trans hB3 hg4.size
  clear c3 hg4
  go_wp2_with fail
  go_ret
  exact said_mk ho4 HG4.out (by simp [kidsP])
set_option maxRecDepth 100000 in
set_option maxHeartbeats 2000000 in
theorem gwithin_mt (B : Nat) (w : World) (v : Value) (ps : List Pt) (b o : Nat) (s c : Bool) (ty nm : ByteArray) (vp : Value) (qs : List (ByteArray × ByteArray)) (nv : Value) (l : List Nd) (hB : B ≤ w.heap.size)
    (hown : w.ownsRow B 71 1 v ps.length (ps.map ptV)) (hp : ∀ w' v', Grew w w' v v' → Pt.at_ w' ⟨b, o, .mt s c ty nm vp qs nv l⟩) (hs : ps.length + (l.length) ≤ 1000000) :
    Calls Try.prog 33 #[v, .iface 78 (.pointer (some ⟨b, o, none⟩))] w (AddSaid w B v (ps ++ kidsP (.mt s c ty nm vp qs nv l))) := by
  have HP := Lib.hid hp
  have hk := (hp w v (Grew.refl w v)).2; rw [Kd] at hk
  have hl0 := ptsV_len (hk.2.2.1)
  have HG0 := Lib.hid (Grew.refl w v)
  clear hk hp
  go_enter Try.func33, Try.ntmps33
  have c0 : w.cell? ⟨b, o + 5, none⟩ = some nv := (HP.out w v HG0.out).cell 5 rfl
  have hk0 := (HP.out w v HG0.out).2; rw [Kd] at hk0
  have H0 := Lib.hid (add_st w B v (ps) nv l hB hown (hk0.2.2.1) (by omega))
  clear hk0
  go_wp2_with fail
  refine (H0.out).mono ?_
  clear H0
  rintro e0 w1 ⟨v1, rfl, ho1, hg1⟩
  have HG1 := Lib.hid (HG0.out.trans hg1)
  have hB1 : B ≤ w1.heap.size := Nat.le_trans hB hg1.size
  clear c0 hg1
  go_wp2_with fail
  go_ret
  exact said_mk ho1 HG1.out (by simp [kidsP])
set_option maxRecDepth 100000 in
set_option maxHeartbeats 2000000 in
theorem gwithin_fd (B : Nat) (w : World) (v : Value) (ps : List Pt) (b o : Nat) (s : Bool) (ty nm : ByteArray) (nv : Value) (l : List Nd) (hB : B ≤ w.heap.size)
    (hown : w.ownsRow B 71 1 v ps.length (ps.map ptV)) (hp : ∀ w' v', Grew w w' v v' → Pt.at_ w' ⟨b, o, .fd s ty nm nv l⟩) (hs : ps.length + (l.length) ≤ 1000000) :
    Calls Try.prog 33 #[v, .iface 80 (.pointer (some ⟨b, o, none⟩))] w (AddSaid w B v (ps ++ kidsP (.fd s ty nm nv l))) := by
  have HP := Lib.hid hp
  have hk := (hp w v (Grew.refl w v)).2; rw [Kd] at hk
  have hl0 := ptsV_len (hk.2.1)
  have HG0 := Lib.hid (Grew.refl w v)
  clear hk hp
  go_enter Try.func33, Try.ntmps33
  have c0 : w.cell? ⟨b, o + 3, none⟩ = some nv := (HP.out w v HG0.out).cell 3 rfl
  have hk0 := (HP.out w v HG0.out).2; rw [Kd] at hk0
  have H0 := Lib.hid (add_ex w B v (ps) nv l hB hown (hk0.2.1) (by omega))
  clear hk0
  go_wp2_with fail
  refine (H0.out).mono ?_
  clear H0
  rintro e0 w1 ⟨v1, rfl, ho1, hg1⟩
  have HG1 := Lib.hid (HG0.out.trans hg1)
  have hB1 : B ≤ w1.heap.size := Nat.le_trans hB hg1.size
  clear c0 hg1
  go_wp2_with fail
  go_ret
  exact said_mk ho1 HG1.out (by simp [kidsP])
set_option maxRecDepth 100000 in
set_option maxHeartbeats 2000000 in
theorem gwithin_cl (B : Nat) (w : World) (v : Value) (ps : List Pt) (b o : Nat) (nm sp : ByteArray) (vf vm : Value) (f m : List Nd) (hB : B ≤ w.heap.size)
    (hown : w.ownsRow B 71 1 v ps.length (ps.map ptV)) (hp : ∀ w' v', Grew w w' v v' → Pt.at_ w' ⟨b, o, .cl nm sp vf vm f m⟩) (hs : ps.length + (f.length + m.length) ≤ 1000000) :
    Calls Try.prog 33 #[v, .iface 65 (.pointer (some ⟨b, o, none⟩))] w (AddSaid w B v (ps ++ kidsP (.cl nm sp vf vm f m))) := by
  have HP := Lib.hid hp
  have hk := (hp w v (Grew.refl w v)).2; rw [Kd] at hk
  have hl0 := ptsV_len hk.2.1.1
  have c2 : w.cell? ⟨b, o + 2, none⟩ = some vf := (hp w v (Grew.refl w v)).cell 2 rfl
  have c3 : w.cell? ⟨b, o + 3, none⟩ = some vm := (hp w v (Grew.refl w v)).cell 3 rfl
  have R0 := Lib.hid hk.2.1.1
  have H0 : Hid (∀ k, Calls Try.prog 50 #[v, vf] (w.drewN k) (AddSaid (w.drewN k) B v (ps ++ ptsV .fd vf f))) := by
    show ∀ k, _
    intro k
    exact add_fd (w.drewN k) B v ps vf f hB hown (Rw.keep (w := w) (w' := w.drewN k) (fun _ _ h => h) R0.out) (by omega)
  have H1 : Hid (∀ w1 v1, Grew w w1 v v1 → w1.ownsRow B 71 1 v1 (ps ++ ptsV .fd vf f).length ((ps ++ ptsV .fd vf f).map ptV) → Calls Try.prog 49 #[v1, vm] w1 (AddSaid w1 B v1 (ps ++ ptsV .fd vf f ++ ptsV .mt vm m))) := by
    show ∀ w1 v1, _
    intro w1 v1 hg h2
    have hk1 := (HP.out w1 v1 hg).2; rw [Kd] at hk1
    exact add_mt w1 B v1 _ vm m (Nat.le_trans hB hg.size) h2 hk1.2.2.1 (by simp only [List.length_append]; omega)
  clear hk hp
  go_enter Try.func33, Try.ntmps33
  go_wp2_with fail
  go_region_with (first | (go_at_call 50; refine (H0.out 1).mono ?_; clear H0; rintro e1 w1 ⟨v1, rfl, ho1, hg1⟩; have HG1 := Lib.hid hg1.of_drewN; have c3b : w1.cell? ⟨b, o + 3, none⟩ = some vm := (HP.out w1 v1 HG1.out).cell 3 rfl; clear hg1) | (go_at_call 49; refine (H1.out _ _ HG1.out ho1).mono ?_; clear H1; rintro e2 w2 ⟨v2, rfl, ho2, hg2⟩))
  all_goals go_wp2_with fail
  all_goals go_ret
  all_goals exact said_mk ho2 (HG1.out.trans hg2) (by simp [kidsP])
theorem gwithin_any (B : Nat) (w : World) (v : Value) (ps : List Pt) (p : Pt) (hB : B ≤ w.heap.size) (hown : w.ownsRow B 71 1 v ps.length (ps.map ptV)) (hp : ∀ w' v', Grew w w' v v' → p.at_ w') (hs : ps.length + (kidsP p.x).length ≤ 1000000) :
    Calls Try.prog 33 #[v, ptV p] w (AddSaid w B v (ps ++ kidsP p.x)) := by
  obtain ⟨b, o, x⟩ := p
  have hk := (hp w v (Grew.refl w v)).2
  cases x <;> rw [Kd] at hk <;> simp only [kidsP, List.length_append] at hs
  · exact gwithin_ex B w v ps b o _ _ _ _ _ _ _ _ _ hB hown hp (by rw [← ptsV_len hk.2.1]; omega)
  · exact gwithin_st B w v ps b o _ _ _ _ _ _ _ _ _ _ _ _ _ hB hown hp (by rw [← ptsV_len hk.2.1.1, ← ptsV_len hk.2.2.1.1, ← ptsV_len hk.2.2.2.1.1, ← ptsV_len hk.2.2.2.2.1]; omega)
  · exact gwithin_fd B w v ps b o _ _ _ _ _ hB hown hp (by rw [← ptsV_len hk.2.1]; omega)
  · exact gwithin_mt B w v ps b o _ _ _ _ _ _ _ _ hB hown hp (by rw [← ptsV_len hk.2.2.1]; omega)
  · exact gwithin_cl B w v ps b o _ _ _ _ _ _ hB hown hp (by rw [← ptsV_len hk.2.1.1, ← ptsV_len hk.2.2.1]; omega)
end Go.Proofs.Ytlpddmncgmhkeaa
