/- Parts of the proof: Pge. -/
import Derived.Test.YtaclhdpjkgoadaaGreatDoorP10
import Derived.Test.YtaclhdpjkgoadaaGreatDoorRds
import Derived.Test.YtaclhdpjkgoadaaGreatDoorP13
import Derived.Test.YtaclhdpjkgoadaaGreatDoorP18
import Derived.Test.YtaclhdpjkgoadaaGreatDoorP12
import Derived.Test.YtaclhdpjkgoadaaGreatDoorP7
set_option maxHeartbeats 8000000
set_option maxRecDepth 100000
set_option linter.unusedSimpArgs false
set_option linter.unusedVariables false
namespace Go.Proofs.YtaclhdpjkgoadaaGreatDoor
open Go.RowKit
theorem sz_ex1 (s : RS) : (hdE (ex s).1).size + 2 * (ex s).2.len ≤ 2 * s.len + 1 := hd_le (run_size _ _ _) (run_len _ _ _) (Nat.le_refl _)
theorem depth_bare : ∀ (n : Nat) (x : Nd), x.size ≤ n → depthN (bareN x) = depthN x
 | 0, x, h => by have := size_pos x; omega
 | n + 1, x, h => by
   have hl : ∀ l : List Nd, sizeL l ≤ n → depthL (bareL l) = depthL l := by
     intro l
     induction l with
     | nil => intro _; simp [bareL]
     | cons y l ih =>
       intro hh
       simp only [sizeL] at hh
       simp only [bareL, depthL]
       rw [depth_bare n y (by omega), ih (by omega)]
   cases x with
   | ex k n' tx nm ty v l own nth =>
     simp only [Nd.size] at h
     simp only [bareN, depthN]
     rw [hl l (by omega)]
   | _ => rfl
def exO (s : ByteArray) : Int × Int :=
 let r := (ex (RS0 s)).2.fin
 if r.wc = 0 then (if (hdE (ex (RS0 s)).1).size ≤ 3000 ∧ depthN (hdE (ex (RS0 s)).1) ≤ 40 then (0, 0) else (5, 0)) else (r.wc, r.wa)
def exT (s : ByteArray) : Nd := if (exO s).1 = 0 then hdE (ex (RS0 s)).1 else noE
def PgeC (w : World) (s : ByteArray) (e : Ending) (w' : World) : Prop :=
 ∃ y, e = .returned (.tuple #[.agg (cellsN y).toArray, .int .i64 (exO s).1, .int .i64 (exO s).2]) ∧ ExK w.heap.size none w' (exT s) y ∧ Below w.heap.size w w'
theorem below_set8 {B b : Nat} {W w : World} (h : Below B W w) (hb : B ≤ b) (u0 u1 u2 u3 u4 u5 u6 u7 : Value) : Below B W ((((((((w.setCell ⟨b, 0, none⟩ u0).setCell ⟨b, 1, none⟩ u1).setCell ⟨b, 2, none⟩ u2).setCell ⟨b, 3, none⟩ u3).setCell ⟨b, 4, none⟩ u4).setCell ⟨b, 5, none⟩ u5).setCell ⟨b, 6, none⟩ u6).setCell ⟨b, 7, none⟩ u7) := (((((((h.setCell hb _).setCell hb _).setCell hb _).setCell hb _).setCell hb _).setCell hb _).setCell hb _).setCell hb _
theorem ExK.noE (B : Nat) (r : Option Nat) (w : World) : ExK B r w noE noE := by
 refine ⟨0, 0, ⟨#[]⟩, ⟨#[]⟩, ⟨#[]⟩, none, 0, [], rfl, ?_, fun ws _ => (FkL.nil B ws .ex).now, rfl⟩
 unfold maxLen; exact ⟨by decide, by decide, by decide⟩
theorem ExK.now {B : Nat} {r : Option Nat} {w : World} {x y : Nd} (h : ExK B r w x y) : Kd w y := by
 obtain ⟨k, n, tx, nm, ty, A, cap, l, rfl, hs, hf, hb⟩ := h
 rw [Kd]; exact ⟨hs, hf w fun _ _ _ _ _ h => h⟩
theorem expr_text (w : World) (s : ByteArray) (hv : Vars w) (hs : s.size ≤ maxLen) : Calls Tryz.prog 6 #[.string s] w (PgeC w s) := by
 obtain ⟨Wa, ha⟩ : ∃ W, w.alloc (.cells #[.int .i64 0, .int .i32 0, .string ⟨#[]⟩, .string ⟨#[]⟩, .string ⟨#[]⟩, .slice none 0 0, .string ⟨#[]⟩, .int .i64 0] 26) = W := ⟨_, rfl⟩
 have ka : Below w.heap.size w Wa := by rw [← ha]; exact (Below.refl _ _).alloc (Nat.le_refl _) _
 have xa : Bx Wa w.heap.size #[.int .i64 0, .int .i32 0, .string ⟨#[]⟩, .string ⟨#[]⟩, .string ⟨#[]⟩, .slice none 0 0, .string ⟨#[]⟩, .int .i64 0] 26 := by rw [← ha]; exact Bx.new _ _ _
 have sa : Wa.heap.size = w.heap.size + 1 := by rw [← ha]; simp
 have HKA := Lib.hid ka
 have HXA := Lib.hid xa
 have HRD := Lib.hid (readerOf_any Wa s hs)
 clear ka xa
 subst ha
 go_enter Tryz.func6, Tryz.ntmps6
 go_upto_region 2 with (go_at_call 13; refine HRD.out.mono ?_; rintro e w1 ⟨c, rfl, hrd, hc, hb⟩; have HRX := Lib.hid hrd; have HCX := Lib.hid hc; have HB1 := Lib.hid hb; clear hrd hc hb)
 have HV1 : Hid (Vars w1) := Lib.hid (hv.keep (Keep.below (HKA.out.trans (HB1.out.mono HKA.out.size))))
 have HPG := Lib.hid (ex_any w1 w1 c (RS0 s) HV1.out HRX.out)
 have HS := Lib.hid (sz_ex1 (RS0 s))
 have HZ := Lib.hid (all_few s)
 obtain ⟨q, hq⟩ : ∃ q, ex (RS0 s) = q := ⟨_, rfl⟩
 obtain ⟨r, hr⟩ : ∃ r, exO s = r := ⟨_, rfl⟩
 have HT : Hid (exT s = if r.1 = 0 then hdE q.1 else noE) := Lib.hid (by simp only [exT, hr, hq])
 have HR : Hid ((if q.2.fin.wc = 0 then (if (hdE q.1).size ≤ 3000 ∧ depthN (hdE q.1) ≤ 40 then ((0 : Int), (0 : Int)) else (5, 0)) else (q.2.fin.wc, q.2.fin.wa)) = r) := Lib.hid (by rw [← hr]; simp only [exO, hq])
 rw [hq] at HPG HS
 have HPC : Hid (∀ e w', (∃ y, e = .returned (.tuple #[.agg (cellsN y).toArray, .int .i64 r.1, .int .i64 r.2]) ∧ ExK w.heap.size none w' (exT s) y ∧ Below w.heap.size w w') → PgeC w s e w') := Lib.hid (by intro e w' h; unfold PgeC; rw [hr]; exact h)
 clear hr hq hv
 go_upto_region 3 with (go_at_call 14; refine HPG.out.mono ?_; rintro e w2 ⟨y, rfl, hk, hmv⟩; have HK := Lib.hid hk; obtain ⟨k, n, tx, nm, ty, A, cap, l, rfl, hsz, _, _⟩ := hk; (try simp only [cellsN]); have HMV := Lib.hid hmv; clear hmv)
 have HE8 := Lib.hid (Bx.new w2 #[.int .i64 k, .int .i32 n, .string tx, .string nm, .string ty, .slice A l.length cap, .string ⟨#[]⟩, .int .i64 0] 26)
 have hB3 := (Below.refl w2.heap.size w2).alloc (Nat.le_refl _) (.cells #[.int .i64 k, .int .i32 n, .string tx, .string nm, .string ty, .slice A l.length cap, .string ⟨#[]⟩, .int .i64 0] 26)
 have hcb : w.heap.size < c := by have := HCX.out; simp at this; omega
 have hc1 := HRX.out.lt
 have hc2 : c < w2.heap.size := Nat.lt_of_lt_of_le hc1 HMV.out.1.size
 have hw1 : w.heap.size < w1.heap.size := by omega
 have HXR2 : Hid (Bx w2 w.heap.size _ 26) := Lib.hid ((HXA.out.next HB1.out).grown HMV.out.1 (by omega))
 have HWB2 : Hid (Below w.heap.size w w2) := by
   have k1 := HKA.out.trans (HB1.out.mono HKA.out.size)
   exact Lib.hid (below_grown k1 HMV.out.1 (by omega))
 refine gen_world (F := fun W => Bx W w2.heap.size _ _ ∧ Below w2.heap.size w2 W) ⟨HE8.out, hB3⟩ ?_
 clear hB3
 rintro w3 ⟨hx3, hb3⟩
 have HX3 := Lib.hid hx3
 have HB3 := Lib.hid hb3
 have HND := Lib.hid (end_any w1 w3 c q.2 (Mv.below hb3 HMV.out.2).2)
 clear hx3 hb3 HE8
 obtain ⟨f, hf⟩ : ∃ f, q.2.fin = f := ⟨_, rfl⟩
 rw [hf] at HND HR
 clear hf
 go_upto_region 4 with (go_at_call 15; refine HND.out.mono ?_; rintro e w4 ⟨rfl, hm4⟩; have HM4 := Lib.hid hm4; clear hm4)
 have HX4 : Hid (Bx w4 w2.heap.size _ 26) := Lib.hid (HX3.out.grown HM4.out.1 (by omega))
 have HXR : Hid (Bx w4 w.heap.size _ 26) := Lib.hid ((HXR2.out.next HB3.out).grown HM4.out.1 (by omega))
 have HWB : Hid (Below w.heap.size w w4) := by
   have k3 := HWB2.out.trans (HB3.out.mono HWB2.out.size)
   exact Lib.hid (below_grown k3 HM4.out.1 (by omega))
 have HK4 : Hid (ExK w1.heap.size none w4 (hdE q.1) (.ex k n tx nm ty (.slice A l.length cap) l ⟨#[]⟩ 0)) := Lib.hid ((HK.out.below HB3.out).grown HM4.out.1 (.inl hc1))
 obtain ⟨v, hww, hx2⟩ := HM4.out.2.2.2
 clear hww
 have y3 := hx2.cell 3; have y4 := hx2.cell 4
 simp only [List.getElem?_toArray, List.getElem?_cons_succ, List.getElem?_cons_zero] at y3 y4
 have hc4 := hx2.lt
 clear hx2
 obtain ⟨r0, r1, r2, r3, r4, r5, r6, r7⟩ := HXR.out.all_8
 have g0 := HXR.out.fro 0; have g1 := HXR.out.fro 1; have g2 := HXR.out.fro 2; have g3 := HXR.out.fro 3; have g4 := HXR.out.fro 4; have g5 := HXR.out.fro 5; have g6 := HXR.out.fro 6; have g7 := HXR.out.fro 7
 obtain ⟨p0, p1, p2, p3, p4, p5, p6, p7⟩ := HX4.out.all_8
 have hl4 := HXR.out.lt
 have hl5 := HX4.out.lt
 have hne1 : ¬ c = w.heap.size := by omega
 have hne2 : ¬ w.heap.size = c := by omega
 obtain ⟨x, hx⟩ : ∃ x, f.wc = x := ⟨_, rfl⟩
 obtain ⟨ya, hya⟩ : ∃ x, f.wa = x := ⟨_, rfl⟩
 rw [hx] at y3 HR; rw [hya] at y4 HR
 clear hx hya
 by_cases hx0 : x = 0
 · subst hx0
   have hbare := HK4.out.bare
   obtain ⟨sz, hsz0⟩ : ∃ m, (Nd.ex k n tx nm ty (.slice A l.length cap) l ⟨#[]⟩ 0).size = m := ⟨_, rfl⟩
   obtain ⟨d, hd0⟩ : ∃ m, depthN (Nd.ex k n tx nm ty (.slice A l.length cap) l ⟨#[]⟩ 0) = m := ⟨_, rfl⟩
   have hsq : (hdE q.1).size = sz := by
     have := sizeL_of_bare (a := [hdE q.1]) (b := [Nd.ex k n tx nm ty (.slice A l.length cap) l ⟨#[]⟩ 0]) (by simp only [bareL]; rw [hbare])
     rw [sz_one, sz_one] at this; rw [this, hsz0]
   have hdq : depthN (hdE q.1) = d := by
     rw [← depth_bare _ _ (Nat.le_refl _), ← hbare, depth_bare _ _ (Nat.le_refl _), hd0]
   have hsm : sz ≤ 1000000 := by
     have h1 := HS.out
     have h3 : (RS0 s).len ≤ 8000 := by simpa [RS0, RS.len] using HZ.out
     omega
   have hdm : d ≤ 1000000 := by have := depth_size _ _ (Nat.le_refl (Nd.ex k n tx nm ty (.slice A l.length cap) l ⟨#[]⟩ 0).size); omega
   have HSZ : Hid (∀ w', Below w4.heap.size w4 w' → Calls Tryz.prog 17 #[.agg #[.int .i64 k, .int .i32 n, .string tx, .string nm, .string ty, .slice A l.length cap, .string ⟨#[]⟩, .int .i64 0]] w' fun e w'' => e = .returned (.int .i64 sz) ∧ Below w'.heap.size w' w'') :=
     Lib.hid fun w' hb => expr_any w' k n tx nm ty _ l _ _ (HK4.out.below hb).now sz hsz0 hsm
   have HDP : Hid (∀ w', Below w4.heap.size w4 w' → Calls Tryz.prog 18 #[.agg #[.int .i64 k, .int .i32 n, .string tx, .string nm, .string ty, .slice A l.length cap, .string ⟨#[]⟩, .int .i64 0]] w' fun e w'' => e = .returned (.int .i64 d) ∧ Below w'.heap.size w' w'') :=
     Lib.hid fun w' hb => by have := depth_row sz hsm w' k n tx nm ty _ l _ _ (HK4.out.below hb).now (by omega); rw [hd0] at this; exact this
   rw [hsq, hdq] at HR
   have h0b : ((0 : Int) != 0) = false := by simp
   clear hsq hdq hsz0 hd0 hbare hsz
   by_cases h1 : (3000 : Int) < sz
   · have hr0 : r = (5, 0) := by have := HR.out; rw [if_pos rfl, if_neg (by omega)] at this; exact this.symm
     subst hr0
     go_wp2_with (first
       | (go_at_call 16; refine (fault_is _ _ _).mono ?_; rintro e w6 ⟨rfl, rfl⟩)
       | (go_at_call 17; refine (HSZ.out _ (by first | exact (Below.refl _ _).alloc (Nat.le_refl _) _ | exact ((Below.refl _ _).alloc (Nat.le_refl _) _).drew)).mono ?_; rintro e w7 ⟨rfl, hb⟩; have h0 := (Below.refl w4.heap.size w4).alloc (Nat.le_refl _) (.cells #[.int .i64 0, .int .i64 ya] 52); have hb2 := h0.trans (hb.mono h0.size); obtain ⟨r0, r1, r2, r3, r4, r5, r6, r7⟩ := (HXR.out.next hb2).all_8; have g0 := (HXR.out.next hb2).fro 0; have g1 := (HXR.out.next hb2).fro 1; have g2 := (HXR.out.next hb2).fro 2; have g3 := (HXR.out.next hb2).fro 3; have g4 := (HXR.out.next hb2).fro 4; have g5 := (HXR.out.next hb2).fro 5; have g6 := (HXR.out.next hb2).fro 6; have g7 := (HXR.out.next hb2).fro 7; obtain ⟨p0, p1, p2, p3, p4, p5, p6, p7⟩ := (HX4.out.next hb2).all_8; have HB7 := Lib.hid hb2; clear h0 hb hb2)
       | (go_at_call 18; refine (HDP.out _ HB7.out).mono ?_; rintro e w8 ⟨rfl, hb⟩; have hb2 := HB7.out.trans (hb.mono HB7.out.size); obtain ⟨r0, r1, r2, r3, r4, r5, r6, r7⟩ := (HXR.out.next hb2).all_8; have g0 := (HXR.out.next hb2).fro 0; have g1 := (HXR.out.next hb2).fro 1; have g2 := (HXR.out.next hb2).fro 2; have g3 := (HXR.out.next hb2).fro 3; have g4 := (HXR.out.next hb2).fro 4; have g5 := (HXR.out.next hb2).fro 5; have g6 := (HXR.out.next hb2).fro 6; have g7 := (HXR.out.next hb2).fro 7; obtain ⟨p0, p1, p2, p3, p4, p5, p6, p7⟩ := (HX4.out.next hb2).all_8; have HB8 := Lib.hid hb2; clear hb hb2))
     (try simp only [Exit.inBlock, Exit.then])
     obtain ⟨z0, z1, z2, z3, z4, z5, z6, z7⟩ := ((HXR.out.next HB7.out).to_8 (.int .i64 0) (.int .i32 0) (.string ⟨#[]⟩) (.string ⟨#[]⟩) (.string ⟨#[]⟩) (.slice none 0 0) (.string ⟨#[]⟩) (.int .i64 0)).all_8
     refine bodyPost_ret (v := .tuple #[.agg #[.int .i64 0, .int .i32 0, .string ⟨#[]⟩, .string ⟨#[]⟩, .string ⟨#[]⟩, .slice none 0 0, .string ⟨#[]⟩, .int .i64 0], .int .i64 5, .int .i64 0]) (by simp [results, Tryz.results6, go_sem, z0, z1, z2, z3, z4, z5, z6, z7]) rfl (HPC.out _ _ ⟨noE, rfl, ?_, ?_⟩)
     · rw [HT.out]; exact ExK.noE _ _ _
     · exact below_set8 (HWB.out.trans (HB7.out.mono HWB.out.size)) (Nat.le_refl _) _ _ _ _ _ _ _ _
   · by_cases h2 : (40 : Int) < d
     · have hr0 : r = (5, 0) := by have := HR.out; rw [if_pos rfl, if_neg (by omega)] at this; exact this.symm
       subst hr0
       go_wp2_with (first
         | (go_at_call 16; refine (fault_is _ _ _).mono ?_; rintro e w6 ⟨rfl, rfl⟩)
         | (go_at_call 17; refine (HSZ.out _ (by first | exact (Below.refl _ _).alloc (Nat.le_refl _) _ | exact ((Below.refl _ _).alloc (Nat.le_refl _) _).drew)).mono ?_; rintro e w7 ⟨rfl, hb⟩; have h0 := (Below.refl w4.heap.size w4).alloc (Nat.le_refl _) (.cells #[.int .i64 0, .int .i64 ya] 52); have hb2 := h0.trans (hb.mono h0.size); obtain ⟨r0, r1, r2, r3, r4, r5, r6, r7⟩ := (HXR.out.next hb2).all_8; have g0 := (HXR.out.next hb2).fro 0; have g1 := (HXR.out.next hb2).fro 1; have g2 := (HXR.out.next hb2).fro 2; have g3 := (HXR.out.next hb2).fro 3; have g4 := (HXR.out.next hb2).fro 4; have g5 := (HXR.out.next hb2).fro 5; have g6 := (HXR.out.next hb2).fro 6; have g7 := (HXR.out.next hb2).fro 7; obtain ⟨p0, p1, p2, p3, p4, p5, p6, p7⟩ := (HX4.out.next hb2).all_8; have HB7 := Lib.hid hb2; clear h0 hb hb2)
         | (go_at_call 18; refine (HDP.out _ HB7.out).mono ?_; rintro e w8 ⟨rfl, hb⟩; have hb2 := HB7.out.trans (hb.mono HB7.out.size); obtain ⟨r0, r1, r2, r3, r4, r5, r6, r7⟩ := (HXR.out.next hb2).all_8; have g0 := (HXR.out.next hb2).fro 0; have g1 := (HXR.out.next hb2).fro 1; have g2 := (HXR.out.next hb2).fro 2; have g3 := (HXR.out.next hb2).fro 3; have g4 := (HXR.out.next hb2).fro 4; have g5 := (HXR.out.next hb2).fro 5; have g6 := (HXR.out.next hb2).fro 6; have g7 := (HXR.out.next hb2).fro 7; obtain ⟨p0, p1, p2, p3, p4, p5, p6, p7⟩ := (HX4.out.next hb2).all_8; have HB8 := Lib.hid hb2; clear hb hb2))
       (try simp only [Exit.inBlock, Exit.then])
       obtain ⟨z0, z1, z2, z3, z4, z5, z6, z7⟩ := ((HXR.out.next HB8.out).to_8 (.int .i64 0) (.int .i32 0) (.string ⟨#[]⟩) (.string ⟨#[]⟩) (.string ⟨#[]⟩) (.slice none 0 0) (.string ⟨#[]⟩) (.int .i64 0)).all_8
       refine bodyPost_ret (v := .tuple #[.agg #[.int .i64 0, .int .i32 0, .string ⟨#[]⟩, .string ⟨#[]⟩, .string ⟨#[]⟩, .slice none 0 0, .string ⟨#[]⟩, .int .i64 0], .int .i64 5, .int .i64 0]) (by simp [results, Tryz.results6, go_sem, z0, z1, z2, z3, z4, z5, z6, z7]) rfl (HPC.out _ _ ⟨noE, rfl, ?_, ?_⟩)
       · rw [HT.out]; exact ExK.noE _ _ _
       · exact below_set8 (HWB.out.trans (HB8.out.mono HWB.out.size)) (Nat.le_refl _) _ _ _ _ _ _ _ _
     · have hr0 : r = (0, 0) := by have := HR.out; rw [if_pos rfl, if_pos (by omega)] at this; exact this.symm
       subst hr0
       go_wp2_with (first
         | (go_at_call 16; refine (fault_is _ _ _).mono ?_; rintro e w6 ⟨rfl, rfl⟩)
         | (go_at_call 17; refine (HSZ.out _ (by first | exact (Below.refl _ _).alloc (Nat.le_refl _) _ | exact ((Below.refl _ _).alloc (Nat.le_refl _) _).drew)).mono ?_; rintro e w7 ⟨rfl, hb⟩; have h0 := (Below.refl w4.heap.size w4).alloc (Nat.le_refl _) (.cells #[.int .i64 0, .int .i64 ya] 52); have hb2 := h0.trans (hb.mono h0.size); obtain ⟨r0, r1, r2, r3, r4, r5, r6, r7⟩ := (HXR.out.next hb2).all_8; have g0 := (HXR.out.next hb2).fro 0; have g1 := (HXR.out.next hb2).fro 1; have g2 := (HXR.out.next hb2).fro 2; have g3 := (HXR.out.next hb2).fro 3; have g4 := (HXR.out.next hb2).fro 4; have g5 := (HXR.out.next hb2).fro 5; have g6 := (HXR.out.next hb2).fro 6; have g7 := (HXR.out.next hb2).fro 7; obtain ⟨p0, p1, p2, p3, p4, p5, p6, p7⟩ := (HX4.out.next hb2).all_8; have HB7 := Lib.hid hb2; clear h0 hb hb2)
         | (go_at_call 18; refine (HDP.out _ HB7.out).mono ?_; rintro e w8 ⟨rfl, hb⟩; have hb2 := HB7.out.trans (hb.mono HB7.out.size); obtain ⟨r0, r1, r2, r3, r4, r5, r6, r7⟩ := (HXR.out.next hb2).all_8; have g0 := (HXR.out.next hb2).fro 0; have g1 := (HXR.out.next hb2).fro 1; have g2 := (HXR.out.next hb2).fro 2; have g3 := (HXR.out.next hb2).fro 3; have g4 := (HXR.out.next hb2).fro 4; have g5 := (HXR.out.next hb2).fro 5; have g6 := (HXR.out.next hb2).fro 6; have g7 := (HXR.out.next hb2).fro 7; obtain ⟨p0, p1, p2, p3, p4, p5, p6, p7⟩ := (HX4.out.next hb2).all_8; have HB8 := Lib.hid hb2; clear hb hb2))
       (try simp only [Exit.inBlock, Exit.then])
       obtain ⟨z0, z1, z2, z3, z4, z5, z6, z7⟩ := ((HXR.out.next HB8.out).to_8 (.int .i64 k) (.int .i32 n) (.string tx) (.string nm) (.string ty) (.slice A l.length cap) (.string ⟨#[]⟩) (.int .i64 0)).all_8
       refine bodyPost_ret (v := .tuple #[.agg #[.int .i64 k, .int .i32 n, .string tx, .string nm, .string ty, .slice A l.length cap, .string ⟨#[]⟩, .int .i64 0], .int .i64 0, .int .i64 0]) (by simp [results, Tryz.results6, go_sem, z0, z1, z2, z3, z4, z5, z6, z7]) rfl (HPC.out _ _ ⟨.ex k n tx nm ty (.slice A l.length cap) l ⟨#[]⟩ 0, rfl, ?_, ?_⟩)
       · rw [HT.out]
         exact ((HK4.out.below HB8.out).grown (grown_8 _ _ _ _ _ _ _ _ _ _) (.inl hw1)).mono (Nat.le_of_lt hw1)
       · exact below_set8 (HWB.out.trans (HB8.out.mono HWB.out.size)) (Nat.le_refl _) _ _ _ _ _ _ _ _
 · have hxb : (x != 0) = true := by simpa using hx0
   have hr0 : r = (x, ya) := by have := HR.out; simp [hx0] at this; exact this.symm
   subst hr0
   go_upto_region 5 with (go_at_call 16; refine (fault_is _ _ _).mono ?_; rintro e w6 ⟨rfl, rfl⟩)
   go_region
   go_wp2_with fail
   (try simp only [Exit.inBlock, Exit.then])
   obtain ⟨z0, z1, z2, z3, z4, z5, z6, z7⟩ := ((HXR.out.to_8 (.int .i64 0) (.int .i32 0) (.string ⟨#[]⟩) (.string ⟨#[]⟩) (.string ⟨#[]⟩) (.slice none 0 0) (.string ⟨#[]⟩) (.int .i64 0)).next ((Below.refl _ _).alloc (Nat.le_refl _) (.cells #[.int .i64 x, .int .i64 ya] 52)).drew).all_8
   refine bodyPost_ret (v := .tuple #[.agg #[.int .i64 0, .int .i32 0, .string ⟨#[]⟩, .string ⟨#[]⟩, .string ⟨#[]⟩, .slice none 0 0, .string ⟨#[]⟩, .int .i64 0], .int .i64 x, .int .i64 ya]) (by simp [results, Tryz.results6, go_sem, z0, z1, z2, z3, z4, z5, z6, z7]) rfl (HPC.out _ _ ⟨noE, rfl, ?_, ?_⟩)
   · rw [HT.out, if_neg hx0]; exact ExK.noE _ _ _
   · exact ((below_set8 HWB.out (Nat.le_refl _) _ _ _ _ _ _ _ _).alloc (Nat.le_trans HWB.out.size (by simp)) _).drew
end Go.Proofs.YtaclhdpjkgoadaaGreatDoor
