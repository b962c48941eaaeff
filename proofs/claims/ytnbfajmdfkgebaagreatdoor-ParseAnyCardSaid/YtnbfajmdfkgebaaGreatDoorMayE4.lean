/- Parts of the proof: MayE4. -/
import Derived.Test.YtnbfajmdfkgebaaGreatDoorP13
set_option maxHeartbeats 8000000
set_option maxRecDepth 100000
set_option linter.unusedSimpArgs false
set_option linter.unusedVariables false
namespace Go.Proofs.YtnbfajmdfkgebaaGreatDoor
open Go.RowKit
theorem may_k13 (w : World) (n : Int) (tx nm ty : ByteArray) (A : Option Addr) (cap : Nat) (l : List Nd) (own : ByteArray) (nth : Int) (d : Nat) (dI : Int) (hk : Kd w (.ex 13 n tx nm ty (.slice A l.length cap) l own nth)) (hlen : l.length ≤ 1000000) (hdI : dI = d) (hd : d ≤ 1000) (HIH : Hid (MayKids w l d dI)) :
   Calls Tryz.prog 21 #[.agg #[.int .i64 13, .int .i32 n, .string tx, .string nm, .string ty, .slice A l.length cap, .string own, .int .i64 nth], .int .i64 dI] w fun e w' => e = .returned (.bool (okT (.ex 13 n tx nm ty (.slice A l.length cap) l own nth) d)) ∧ Below w.heap.size w w' := by
 rw [Kd] at hk
 obtain ⟨W, hW⟩ : ∃ W, w.alloc (.cells #[.int .i64 13, .int .i32 n, .string tx, .string nm, .string ty, .slice A l.length cap, .string own, .int .i64 nth] 36) = W := ⟨_, rfl⟩
 have hb : Below w.heap.size w W := by rw [← hW]; exact (Below.refl _ w).alloc (Nat.le_refl _) _
 have hx : Bx W w.heap.size #[.int .i64 13, .int .i32 n, .string tx, .string nm, .string ty, .slice A l.length cap, .string own, .int .i64 nth] 36 := by rw [← hW]; exact Bx.new _ _ _
 have HW := Lib.hid hb
 have HS : Hid (∀ w', Below W.heap.size W w' → w'.cell? ⟨w.heap.size, 0, none⟩ = some (.int .i64 13) ∧ w'.cell? ⟨w.heap.size, 1, none⟩ = some (.int .i32 n) ∧ w'.cell? ⟨w.heap.size, 2, none⟩ = some (.string tx) ∧ w'.cell? ⟨w.heap.size, 3, none⟩ = some (.string nm) ∧ w'.cell? ⟨w.heap.size, 4, none⟩ = some (.string ty) ∧ w'.cell? ⟨w.heap.size, 5, none⟩ = some (.slice A l.length cap)) := by
   show ∀ w', _
   intro w' hc
   have hx := hx.next hc
   exact ⟨hx.cell 0, hx.cell 1, hx.cell 2, hx.cell 3, hx.cell 4, hx.cell 5⟩
 have HK : Hid (∀ w', Below W.heap.size W w' → Rw w' .ex (.slice A l.length cap) l) := by
   show ∀ w', _
   intro w' hc
   exact hk.2.1.keep (Keep.below (hb.trans (hc.mono hb.size)))
 obtain ⟨r, hr⟩ : ∃ r, okT (.ex 13 n tx nm ty (.slice A l.length cap) l own nth) d = r := ⟨_, rfl⟩
 rw [hr]
 rw [okT_ex] at hr
 obtain ⟨qd, hqd⟩ : ∃ q, decide (40 < dI) = q := ⟨_, rfl⟩
 have hdd : decide (d ≤ 40) = !qd := by rw [← hqd, Bool.eq_iff_iff]; simp; omega
 rw [hdd] at hr
 have HD40 := Lib.hid (show qd = false → d ≤ 40 from fun h => by rw [h] at hdd; simpa using hdd)
 have hB : Below W.heap.size W W := Below.refl _ _
 obtain ⟨qn, hqn⟩ : ∃ q, nameOk nm = q := ⟨_, rfl⟩
 have CN : Hid (∀ w', Calls Tryz.prog 20 #[.string nm] w' fun e w'' => e = .returned (.bool qn) ∧ Below w'.heap.size w' w'') := by
   show ∀ w', _
   intro w'; rw [← hqn]; exact rname_any nm w' hk.1.2.1
 obtain ⟨qc, hqc⟩ : ∃ q, classOk ty = q := ⟨_, rfl⟩
 have CC : Hid (∀ w', Calls Tryz.prog 18 #[.string ty] w' fun e w'' => e = .returned (.bool qc) ∧ w' = w'') := by
   show ∀ w', _
   intro w'; rw [← hqc]; exact rclass_any ty w' hk.1.2.2
 have CHN : Hid (∀ w', Calls Tryz.prog 46 #[.int .i64 13] w' fun e w'' => e = .returned (.bool true) ∧ w' = w'') := fun w' => hasName_any 13 w'
 have CHC : Hid (∀ w', Calls Tryz.prog 47 #[.int .i64 13] w' fun e w'' => e = .returned (.bool true) ∧ w' = w'') := fun w' => hasClass_any 13 w'
 obtain ⟨qnm, hqnm⟩ : ∃ q, (!nm.toList.isEmpty) = q := ⟨_, rfl⟩
 obtain ⟨qty, hqty⟩ : ∃ q, (!ty.toList.isEmpty) = q := ⟨_, rfl⟩
 obtain ⟨qtx, hqtx⟩ : ∃ q, (!tx.toList.isEmpty) = q := ⟨_, rfl⟩
 have e1 : emp nm = !qnm := by rw [← hqnm, Bool.not_not]; rfl
 have e2 : emp ty = !qty := by rw [← hqty, Bool.not_not]; rfl
 have e3 : emp tx = !qtx := by rw [← hqtx, Bool.not_not]; rfl
 obtain ⟨qz, hqz⟩ : ∃ q, (n != 0) = q := ⟨_, rfl⟩
 have e4 : decide (n = 0) = !qz := by rw [← hqz]; simp only [bne, Bool.not_not]; rfl
 simp only [fitE, numE, textE, nameE, typeE, listE, hqn, hqc, e1, e2, e3, e4] at hr
 simp at hr
 have HR := Lib.hid hr
 have HDI := Lib.hid hdI
 have hd0 : 0 ≤ dI := by omega
 have hd1 : dI ≤ 1000 := by omega
 clear hr hb hx hk hdI hd hdd e1 e2 e3 e4 hqn hqc
 obtain ⟨x0, x1, x2, x3, x4, x5⟩ := HS.out _ hB
 go_enter Tryz.func21, Tryz.ntmps21
 go_wp2_with fail
 have hB := hB.drew
 clear x0 x1 x2 x3 x4 x5
 go_region_held3 (fun w' => w'.cell? ⟨w.heap.size, 0, none⟩ = some (.int .i64 13) ∧ w'.cell? ⟨w.heap.size, 1, none⟩ = some (.int .i32 n) ∧ w'.cell? ⟨w.heap.size, 2, none⟩ = some (.string tx) ∧ w'.cell? ⟨w.heap.size, 3, none⟩ = some (.string nm) ∧ w'.cell? ⟨w.heap.size, 4, none⟩ = some (.string ty) ∧ w'.cell? ⟨w.heap.size, 5, none⟩ = some (.slice A l.length cap))
   (first | with_reducible exact HS.out _ hB)
   ((first
     | (go_at_call 20; refine (CN.out _).mono ?_; rintro e wn ⟨rfl, hc⟩; have hB := hB.trans (hc.mono hB.size); clear hc)
     | (go_at_call 18; refine (CC.out _).mono ?_; rintro e wn ⟨rfl, rfl⟩)))
 all_goals
   obtain ⟨x0, x1, x2, x3, x4, x5⟩ := HS.out _ hB
   go_wp2_with (first
     | (go_at_call 46; refine (CHN.out _).mono ?_; rintro e wn ⟨rfl, rfl⟩)
     | (go_at_call 47; refine (CHC.out _).mono ?_; rintro e wn ⟨rfl, rfl⟩))
 all_goals
   first
     | (go_ret
        exact ⟨ret_bool (by rw [← HR.out]; simp [*]), HW.out.trans (hB.mono HW.out.size)⟩)
     | (have HA := Lib.hid (show l.all (fun y => okT y (d + 1)) = r by rw [← HR.out]; simp [*])
        have hqd0 : qd = false := by simp [*]
        have h40 := HD40.out hqd0
        have HKI := Lib.hid (HIH.out h40)
        have hdI40 : dI ≤ 40 := by have := HDI.out; omega
        go_loopw [10] (fun v10 wr => ∃ j : Nat, v10 = .int .i64 j ∧ j ≤ l.length ∧ (l.take j).all (fun y => okT y (d + 1)) = true ∧ Below W.heap.size W wr) (fun v10 wr => l.length - (intOf v10).toNat)
        case atStart => exact ⟨0, rfl, Nat.zero_le _, by simp, hB⟩
        case round =>
          obtain ⟨j, rfl, hjn, hall, hC⟩ := hrel
          have HALL := Lib.hid hall
          clear hall hB x0 x1 x2 x3 x4 x5
          obtain ⟨x0, x1, x2, x3, x4, x5⟩ := HS.out _ hC
          by_cases hjl : j < l.length
          · obtain ⟨b, o, x, rfl, hx, hxt, hcx⟩ := (HK.out _ hC).get hjl
            have hcall := HKI.out x (List.mem_of_getElem? hx) wr (HW.out.trans (hC.mono HW.out.size))
            obtain ⟨xk, xn, xtx, xnm, xty, xA, xc, xl, xown, xnth, rfl, hcall⟩ := hcall
            have z0 := hcx 0 _ rfl; have z1 := hcx 1 _ rfl; have z2 := hcx 2 _ rfl; have z3 := hcx 3 _ rfl; have z4 := hcx 4 _ rfl; have z5 := hcx 5 _ rfl; have z6 := hcx 6 _ rfl; have z7 := hcx 7 _ rfl
            simp only [Tg.sz, Nat.add_zero] at z0 z1 z2 z3 z4 z5 z6 z7
            obtain ⟨t, ht⟩ : ∃ t, okT (.ex xk xn xtx xnm xty (.slice xA xl.length xc) xl xown xnth) (d + 1) = t := ⟨_, rfl⟩
            rw [ht] at hcall
            have HCALL := Lib.hid hcall
            have HTT := Lib.hid ht
            have HXX := Lib.hid hx
            clear hcall ht hx hcx hxt
            cases t
            · have HF := Lib.hid (show r = false by rw [← HA.out]; exact all_false HXX.out (fun y => okT y (d + 1)) HTT.out)
              go_wp2_with (go_at_call 21; refine HCALL.out.mono ?_; clear HCALL; rintro e w1 ⟨rfl, hb1⟩)
              have hC1 := hC.trans (hb1.mono hC.size)
              go_ret
              exact ⟨ret_bool HF.out.symm, HW.out.trans (hC1.mono HW.out.size)⟩
            · have HN := Lib.hid (show (l.take (j + 1)).all (fun y => okT y (d + 1)) = true by rw [all_take_succ HXX.out, HALL.out, HTT.out]; rfl)
              go_wp2_with (go_at_call 21; refine HCALL.out.mono ?_; clear HCALL; rintro e w1 ⟨rfl, hb1⟩)
              have hC1 := hC.trans (hb1.mono hC.size)
              go_roundw
              case rel => exact ⟨j + 1, by go_num, by omega, HN.out, hC1⟩
              case measure => simp [intOf]; omega
          · have HF := Lib.hid (show r = true by rw [← HA.out, ← HALL.out, List.take_of_length_le (by omega)])
            go_wp2_with fail
            go_ret
            exact ⟨ret_bool HF.out.symm, HW.out.trans (hC.mono HW.out.size)⟩)
theorem may_k14 (w : World) (n : Int) (tx nm ty : ByteArray) (A : Option Addr) (cap : Nat) (l : List Nd) (own : ByteArray) (nth : Int) (d : Nat) (dI : Int) (hk : Kd w (.ex 14 n tx nm ty (.slice A l.length cap) l own nth)) (hlen : l.length ≤ 1000000) (hdI : dI = d) (hd : d ≤ 1000) (HIH : Hid (MayKids w l d dI)) :
   Calls Tryz.prog 21 #[.agg #[.int .i64 14, .int .i32 n, .string tx, .string nm, .string ty, .slice A l.length cap, .string own, .int .i64 nth], .int .i64 dI] w fun e w' => e = .returned (.bool (okT (.ex 14 n tx nm ty (.slice A l.length cap) l own nth) d)) ∧ Below w.heap.size w w' := by
 rw [Kd] at hk
 obtain ⟨W, hW⟩ : ∃ W, w.alloc (.cells #[.int .i64 14, .int .i32 n, .string tx, .string nm, .string ty, .slice A l.length cap, .string own, .int .i64 nth] 36) = W := ⟨_, rfl⟩
 have hb : Below w.heap.size w W := by rw [← hW]; exact (Below.refl _ w).alloc (Nat.le_refl _) _
 have hx : Bx W w.heap.size #[.int .i64 14, .int .i32 n, .string tx, .string nm, .string ty, .slice A l.length cap, .string own, .int .i64 nth] 36 := by rw [← hW]; exact Bx.new _ _ _
 have HW := Lib.hid hb
 have HS : Hid (∀ w', Below W.heap.size W w' → w'.cell? ⟨w.heap.size, 0, none⟩ = some (.int .i64 14) ∧ w'.cell? ⟨w.heap.size, 1, none⟩ = some (.int .i32 n) ∧ w'.cell? ⟨w.heap.size, 2, none⟩ = some (.string tx) ∧ w'.cell? ⟨w.heap.size, 3, none⟩ = some (.string nm) ∧ w'.cell? ⟨w.heap.size, 4, none⟩ = some (.string ty) ∧ w'.cell? ⟨w.heap.size, 5, none⟩ = some (.slice A l.length cap)) := by
   show ∀ w', _
   intro w' hc
   have hx := hx.next hc
   exact ⟨hx.cell 0, hx.cell 1, hx.cell 2, hx.cell 3, hx.cell 4, hx.cell 5⟩
 have HK : Hid (∀ w', Below W.heap.size W w' → Rw w' .ex (.slice A l.length cap) l) := by
   show ∀ w', _
   intro w' hc
   exact hk.2.1.keep (Keep.below (hb.trans (hc.mono hb.size)))
 obtain ⟨r, hr⟩ : ∃ r, okT (.ex 14 n tx nm ty (.slice A l.length cap) l own nth) d = r := ⟨_, rfl⟩
 rw [hr]
 rw [okT_ex] at hr
 obtain ⟨qd, hqd⟩ : ∃ q, decide (40 < dI) = q := ⟨_, rfl⟩
 have hdd : decide (d ≤ 40) = !qd := by rw [← hqd, Bool.eq_iff_iff]; simp; omega
 rw [hdd] at hr
 have HD40 := Lib.hid (show qd = false → d ≤ 40 from fun h => by rw [h] at hdd; simpa using hdd)
 have hB : Below W.heap.size W W := Below.refl _ _
 obtain ⟨qc, hqc⟩ : ∃ q, classOk ty = q := ⟨_, rfl⟩
 have CC : Hid (∀ w', Calls Tryz.prog 18 #[.string ty] w' fun e w'' => e = .returned (.bool qc) ∧ w' = w'') := by
   show ∀ w', _
   intro w'; rw [← hqc]; exact rclass_any ty w' hk.1.2.2
 have CHN : Hid (∀ w', Calls Tryz.prog 46 #[.int .i64 14] w' fun e w'' => e = .returned (.bool false) ∧ w' = w'') := fun w' => hasName_any 14 w'
 have CHC : Hid (∀ w', Calls Tryz.prog 47 #[.int .i64 14] w' fun e w'' => e = .returned (.bool true) ∧ w' = w'') := fun w' => hasClass_any 14 w'
 obtain ⟨qnm, hqnm⟩ : ∃ q, (!nm.toList.isEmpty) = q := ⟨_, rfl⟩
 obtain ⟨qty, hqty⟩ : ∃ q, (!ty.toList.isEmpty) = q := ⟨_, rfl⟩
 obtain ⟨qtx, hqtx⟩ : ∃ q, (!tx.toList.isEmpty) = q := ⟨_, rfl⟩
 have e1 : emp nm = !qnm := by rw [← hqnm, Bool.not_not]; rfl
 have e2 : emp ty = !qty := by rw [← hqty, Bool.not_not]; rfl
 have e3 : emp tx = !qtx := by rw [← hqtx, Bool.not_not]; rfl
 obtain ⟨qz, hqz⟩ : ∃ q, (n != 0) = q := ⟨_, rfl⟩
 have e4 : decide (n = 0) = !qz := by rw [← hqz]; simp only [bne, Bool.not_not]; rfl
 simp only [fitE, numE, textE, nameE, typeE, listE, hqc, e1, e2, e3, e4] at hr
 simp at hr
 have HR := Lib.hid hr
 have HDI := Lib.hid hdI
 have hd0 : 0 ≤ dI := by omega
 have hd1 : dI ≤ 1000 := by omega
 clear hr hb hx hk hdI hd hdd e1 e2 e3 e4 hqc
 obtain ⟨x0, x1, x2, x3, x4, x5⟩ := HS.out _ hB
 go_enter Tryz.func21, Tryz.ntmps21
 go_wp2_with fail
 have hB := hB.drew
 clear x0 x1 x2 x3 x4 x5
 go_region_held3 (fun w' => w'.cell? ⟨w.heap.size, 0, none⟩ = some (.int .i64 14) ∧ w'.cell? ⟨w.heap.size, 1, none⟩ = some (.int .i32 n) ∧ w'.cell? ⟨w.heap.size, 2, none⟩ = some (.string tx) ∧ w'.cell? ⟨w.heap.size, 3, none⟩ = some (.string nm) ∧ w'.cell? ⟨w.heap.size, 4, none⟩ = some (.string ty) ∧ w'.cell? ⟨w.heap.size, 5, none⟩ = some (.slice A l.length cap))
   (first | with_reducible exact HS.out _ hB)
   ((first
     | (go_at_call 18; refine (CC.out _).mono ?_; rintro e wn ⟨rfl, rfl⟩)))
 all_goals
   obtain ⟨x0, x1, x2, x3, x4, x5⟩ := HS.out _ hB
   go_wp2_with (first
     | (go_at_call 46; refine (CHN.out _).mono ?_; rintro e wn ⟨rfl, rfl⟩)
     | (go_at_call 47; refine (CHC.out _).mono ?_; rintro e wn ⟨rfl, rfl⟩))
 all_goals
   first
     | (go_ret
        exact ⟨ret_bool (by rw [← HR.out]; simp [*]), HW.out.trans (hB.mono HW.out.size)⟩)
     | (have HA := Lib.hid (show l.all (fun y => okT y (d + 1)) = r by rw [← HR.out]; simp [*])
        have hqd0 : qd = false := by simp [*]
        have h40 := HD40.out hqd0
        have HKI := Lib.hid (HIH.out h40)
        have hdI40 : dI ≤ 40 := by have := HDI.out; omega
        go_loopw [10] (fun v10 wr => ∃ j : Nat, v10 = .int .i64 j ∧ j ≤ l.length ∧ (l.take j).all (fun y => okT y (d + 1)) = true ∧ Below W.heap.size W wr) (fun v10 wr => l.length - (intOf v10).toNat)
        case atStart => exact ⟨0, rfl, Nat.zero_le _, by simp, hB⟩
        case round =>
          obtain ⟨j, rfl, hjn, hall, hC⟩ := hrel
          have HALL := Lib.hid hall
          clear hall hB x0 x1 x2 x3 x4 x5
          obtain ⟨x0, x1, x2, x3, x4, x5⟩ := HS.out _ hC
          by_cases hjl : j < l.length
          · obtain ⟨b, o, x, rfl, hx, hxt, hcx⟩ := (HK.out _ hC).get hjl
            have hcall := HKI.out x (List.mem_of_getElem? hx) wr (HW.out.trans (hC.mono HW.out.size))
            obtain ⟨xk, xn, xtx, xnm, xty, xA, xc, xl, xown, xnth, rfl, hcall⟩ := hcall
            have z0 := hcx 0 _ rfl; have z1 := hcx 1 _ rfl; have z2 := hcx 2 _ rfl; have z3 := hcx 3 _ rfl; have z4 := hcx 4 _ rfl; have z5 := hcx 5 _ rfl; have z6 := hcx 6 _ rfl; have z7 := hcx 7 _ rfl
            simp only [Tg.sz, Nat.add_zero] at z0 z1 z2 z3 z4 z5 z6 z7
            obtain ⟨t, ht⟩ : ∃ t, okT (.ex xk xn xtx xnm xty (.slice xA xl.length xc) xl xown xnth) (d + 1) = t := ⟨_, rfl⟩
            rw [ht] at hcall
            have HCALL := Lib.hid hcall
            have HTT := Lib.hid ht
            have HXX := Lib.hid hx
            clear hcall ht hx hcx hxt
            cases t
            · have HF := Lib.hid (show r = false by rw [← HA.out]; exact all_false HXX.out (fun y => okT y (d + 1)) HTT.out)
              go_wp2_with (go_at_call 21; refine HCALL.out.mono ?_; clear HCALL; rintro e w1 ⟨rfl, hb1⟩)
              have hC1 := hC.trans (hb1.mono hC.size)
              go_ret
              exact ⟨ret_bool HF.out.symm, HW.out.trans (hC1.mono HW.out.size)⟩
            · have HN := Lib.hid (show (l.take (j + 1)).all (fun y => okT y (d + 1)) = true by rw [all_take_succ HXX.out, HALL.out, HTT.out]; rfl)
              go_wp2_with (go_at_call 21; refine HCALL.out.mono ?_; clear HCALL; rintro e w1 ⟨rfl, hb1⟩)
              have hC1 := hC.trans (hb1.mono hC.size)
              go_roundw
              case rel => exact ⟨j + 1, by go_num, by omega, HN.out, hC1⟩
              case measure => simp [intOf]; omega
          · have HF := Lib.hid (show r = true by rw [← HA.out, ← HALL.out, List.take_of_length_le (by omega)])
            go_wp2_with fail
            go_ret
            exact ⟨ret_bool HF.out.symm, HW.out.trans (hC.mono HW.out.size)⟩)
theorem may_k15 (w : World) (n : Int) (tx nm ty : ByteArray) (A : Option Addr) (cap : Nat) (l : List Nd) (own : ByteArray) (nth : Int) (d : Nat) (dI : Int) (hk : Kd w (.ex 15 n tx nm ty (.slice A l.length cap) l own nth)) (hlen : l.length ≤ 1000000) (hdI : dI = d) (hd : d ≤ 1000) (HIH : Hid (MayKids w l d dI)) :
   Calls Tryz.prog 21 #[.agg #[.int .i64 15, .int .i32 n, .string tx, .string nm, .string ty, .slice A l.length cap, .string own, .int .i64 nth], .int .i64 dI] w fun e w' => e = .returned (.bool (okT (.ex 15 n tx nm ty (.slice A l.length cap) l own nth) d)) ∧ Below w.heap.size w w' := by
 rw [Kd] at hk
 obtain ⟨W, hW⟩ : ∃ W, w.alloc (.cells #[.int .i64 15, .int .i32 n, .string tx, .string nm, .string ty, .slice A l.length cap, .string own, .int .i64 nth] 36) = W := ⟨_, rfl⟩
 have hb : Below w.heap.size w W := by rw [← hW]; exact (Below.refl _ w).alloc (Nat.le_refl _) _
 have hx : Bx W w.heap.size #[.int .i64 15, .int .i32 n, .string tx, .string nm, .string ty, .slice A l.length cap, .string own, .int .i64 nth] 36 := by rw [← hW]; exact Bx.new _ _ _
 have HW := Lib.hid hb
 have HS : Hid (∀ w', Below W.heap.size W w' → w'.cell? ⟨w.heap.size, 0, none⟩ = some (.int .i64 15) ∧ w'.cell? ⟨w.heap.size, 1, none⟩ = some (.int .i32 n) ∧ w'.cell? ⟨w.heap.size, 2, none⟩ = some (.string tx) ∧ w'.cell? ⟨w.heap.size, 3, none⟩ = some (.string nm) ∧ w'.cell? ⟨w.heap.size, 4, none⟩ = some (.string ty) ∧ w'.cell? ⟨w.heap.size, 5, none⟩ = some (.slice A l.length cap)) := by
   show ∀ w', _
   intro w' hc
   have hx := hx.next hc
   exact ⟨hx.cell 0, hx.cell 1, hx.cell 2, hx.cell 3, hx.cell 4, hx.cell 5⟩
 have HK : Hid (∀ w', Below W.heap.size W w' → Rw w' .ex (.slice A l.length cap) l) := by
   show ∀ w', _
   intro w' hc
   exact hk.2.1.keep (Keep.below (hb.trans (hc.mono hb.size)))
 obtain ⟨r, hr⟩ : ∃ r, okT (.ex 15 n tx nm ty (.slice A l.length cap) l own nth) d = r := ⟨_, rfl⟩
 rw [hr]
 rw [okT_ex] at hr
 obtain ⟨qd, hqd⟩ : ∃ q, decide (40 < dI) = q := ⟨_, rfl⟩
 have hdd : decide (d ≤ 40) = !qd := by rw [← hqd, Bool.eq_iff_iff]; simp; omega
 rw [hdd] at hr
 have HD40 := Lib.hid (show qd = false → d ≤ 40 from fun h => by rw [h] at hdd; simpa using hdd)
 have hB : Below W.heap.size W W := Below.refl _ _
 obtain ⟨qc, hqc⟩ : ∃ q, classOk ty = q := ⟨_, rfl⟩
 have CC : Hid (∀ w', Calls Tryz.prog 18 #[.string ty] w' fun e w'' => e = .returned (.bool qc) ∧ w' = w'') := by
   show ∀ w', _
   intro w'; rw [← hqc]; exact rclass_any ty w' hk.1.2.2
 have CHN : Hid (∀ w', Calls Tryz.prog 46 #[.int .i64 15] w' fun e w'' => e = .returned (.bool false) ∧ w' = w'') := fun w' => hasName_any 15 w'
 have CHC : Hid (∀ w', Calls Tryz.prog 47 #[.int .i64 15] w' fun e w'' => e = .returned (.bool true) ∧ w' = w'') := fun w' => hasClass_any 15 w'
 obtain ⟨qnm, hqnm⟩ : ∃ q, (!nm.toList.isEmpty) = q := ⟨_, rfl⟩
 obtain ⟨qty, hqty⟩ : ∃ q, (!ty.toList.isEmpty) = q := ⟨_, rfl⟩
 obtain ⟨qtx, hqtx⟩ : ∃ q, (!tx.toList.isEmpty) = q := ⟨_, rfl⟩
 have e1 : emp nm = !qnm := by rw [← hqnm, Bool.not_not]; rfl
 have e2 : emp ty = !qty := by rw [← hqty, Bool.not_not]; rfl
 have e3 : emp tx = !qtx := by rw [← hqtx, Bool.not_not]; rfl
 obtain ⟨qz, hqz⟩ : ∃ q, (n != 0) = q := ⟨_, rfl⟩
 have e4 : decide (n = 0) = !qz := by rw [← hqz]; simp only [bne, Bool.not_not]; rfl
 obtain ⟨qle, hqle⟩ : ∃ q, ((l.length : Int) != 1) = q := ⟨_, rfl⟩
 have e6 : decide (l.length = 1) = !qle := by rw [← hqle, Bool.eq_iff_iff]; simp [bne]; try omega
 simp only [fitE, numE, textE, nameE, typeE, listE, hqc, e1, e2, e3, e4, e6] at hr
 simp at hr
 have HR := Lib.hid hr
 have HDI := Lib.hid hdI
 have hd0 : 0 ≤ dI := by omega
 have hd1 : dI ≤ 1000 := by omega
 clear hr hb hx hk hdI hd hdd e1 e2 e3 e4 e6 hqc
 obtain ⟨x0, x1, x2, x3, x4, x5⟩ := HS.out _ hB
 go_enter Tryz.func21, Tryz.ntmps21
 go_wp2_with (first
   | (go_at_call 46; refine (CHN.out _).mono ?_; rintro e wn ⟨rfl, rfl⟩)
   | (go_at_call 47; refine (CHC.out _).mono ?_; rintro e wn ⟨rfl, rfl⟩)
   | (go_at_call 18; refine (CC.out _).mono ?_; rintro e wn ⟨rfl, rfl⟩))
 all_goals
   first
     | (go_ret
        exact ⟨ret_bool (by rw [← HR.out]; simp [*]), HW.out.trans (hB.mono HW.out.size)⟩)
     | (have HA := Lib.hid (show l.all (fun y => okT y (d + 1)) = r by rw [← HR.out]; simp [*])
        have hqd0 : qd = false := by simp [*]
        have h40 := HD40.out hqd0
        have HKI := Lib.hid (HIH.out h40)
        have hdI40 : dI ≤ 40 := by have := HDI.out; omega
        go_loopw [10] (fun v10 wr => ∃ j : Nat, v10 = .int .i64 j ∧ j ≤ l.length ∧ (l.take j).all (fun y => okT y (d + 1)) = true ∧ Below W.heap.size W wr) (fun v10 wr => l.length - (intOf v10).toNat)
        case atStart => exact ⟨0, rfl, Nat.zero_le _, by simp, hB⟩
        case round =>
          obtain ⟨j, rfl, hjn, hall, hC⟩ := hrel
          have HALL := Lib.hid hall
          clear hall hB x0 x1 x2 x3 x4 x5
          obtain ⟨x0, x1, x2, x3, x4, x5⟩ := HS.out _ hC
          by_cases hjl : j < l.length
          · obtain ⟨b, o, x, rfl, hx, hxt, hcx⟩ := (HK.out _ hC).get hjl
            have hcall := HKI.out x (List.mem_of_getElem? hx) wr (HW.out.trans (hC.mono HW.out.size))
            obtain ⟨xk, xn, xtx, xnm, xty, xA, xc, xl, xown, xnth, rfl, hcall⟩ := hcall
            have z0 := hcx 0 _ rfl; have z1 := hcx 1 _ rfl; have z2 := hcx 2 _ rfl; have z3 := hcx 3 _ rfl; have z4 := hcx 4 _ rfl; have z5 := hcx 5 _ rfl; have z6 := hcx 6 _ rfl; have z7 := hcx 7 _ rfl
            simp only [Tg.sz, Nat.add_zero] at z0 z1 z2 z3 z4 z5 z6 z7
            obtain ⟨t, ht⟩ : ∃ t, okT (.ex xk xn xtx xnm xty (.slice xA xl.length xc) xl xown xnth) (d + 1) = t := ⟨_, rfl⟩
            rw [ht] at hcall
            have HCALL := Lib.hid hcall
            have HTT := Lib.hid ht
            have HXX := Lib.hid hx
            clear hcall ht hx hcx hxt
            cases t
            · have HF := Lib.hid (show r = false by rw [← HA.out]; exact all_false HXX.out (fun y => okT y (d + 1)) HTT.out)
              go_wp2_with (go_at_call 21; refine HCALL.out.mono ?_; clear HCALL; rintro e w1 ⟨rfl, hb1⟩)
              have hC1 := hC.trans (hb1.mono hC.size)
              go_ret
              exact ⟨ret_bool HF.out.symm, HW.out.trans (hC1.mono HW.out.size)⟩
            · have HN := Lib.hid (show (l.take (j + 1)).all (fun y => okT y (d + 1)) = true by rw [all_take_succ HXX.out, HALL.out, HTT.out]; rfl)
              go_wp2_with (go_at_call 21; refine HCALL.out.mono ?_; clear HCALL; rintro e w1 ⟨rfl, hb1⟩)
              have hC1 := hC.trans (hb1.mono hC.size)
              go_roundw
              case rel => exact ⟨j + 1, by go_num, by omega, HN.out, hC1⟩
              case measure => simp [intOf]; omega
          · have HF := Lib.hid (show r = true by rw [← HA.out, ← HALL.out, List.take_of_length_le (by omega)])
            go_wp2_with fail
            go_ret
            exact ⟨ret_bool HF.out.symm, HW.out.trans (hC.mono HW.out.size)⟩)
end Go.Proofs.YtnbfajmdfkgebaaGreatDoor
