/- Parts of the proof: Pgm. -/
import Derived.Test.YtipcoglddfgopaaGreatDoorExZ
import Derived.Test.YtipcoglddfgopaaGreatDoorRds
import Derived.Test.YtipcoglddfgopaaGreatDoorOr
import Derived.Test.YtipcoglddfgopaaGreatDoorP38
import Derived.Test.YtipcoglddfgopaaGreatDoorBareQ
import Derived.Deep.CutRange
set_option maxHeartbeats 8000000
set_option maxRecDepth 100000
set_option linter.unusedSimpArgs false
set_option linter.unusedVariables false
namespace Go.Proofs.YtipcoglddfgopaaGreatDoor
open Go.RowKit
def prO (s : ByteArray) : Int × Int :=
 let r := (prg (RS0 s)).2
 let x := orF r.wc r.wa r.lc r.la
 if x.1 = 0 then (if mayB (prg (RS0 s)).1 = true then (0, 0) else (5, 0)) else x
def prT (s : ByteArray) : List Nd := if (prO s).1 = 0 then (prg (RS0 s)).1 else []
def PgmC (w : World) (s : ByteArray) (e : Ending) (w' : World) : Prop :=
 ∃ (A : Option Addr) (cap : Nat) (ys : List Nd), e = .returned (.tuple #[.agg #[.slice A ys.length cap], .int .i64 (prO s).1, .int .i64 (prO s).2]) ∧ FkL w.heap.size w' .cl (.slice A ys.length cap) ys ∧ bareL ys = bareL (prT s) ∧ Below w.heap.size w w'
theorem pg1 {w3 w4 : World} {O : Obj} (h : Below (w3.alloc O).drew.heap.size (w3.alloc O).drew w4) : w3.heap.size ≤ w4.heap.size ∧ Below w3.heap.size w3 w4 := by
 have h1 : Below w3.heap.size w3 (w3.alloc O).drew := ((Below.refl _ w3).alloc (Nat.le_refl _) O).drew
 exact ⟨Nat.le_trans h1.size h.size, h1.trans (h.mono h1.size)⟩
theorem pg2 {w3 w4 : World} {O P : Obj} (h : Below ((w3.alloc O).alloc P).drew.heap.size ((w3.alloc O).alloc P).drew w4) : Below w3.heap.size w3 w4 ∧ ∀ b cs T, Bx ((w3.alloc O).alloc P) b cs T → Bx w4 b cs T := by
 have h1 : Below w3.heap.size w3 ((w3.alloc O).alloc P).drew := (((Below.refl _ w3).alloc (Nat.le_refl _) O).alloc (by simp) P).drew
 exact ⟨h1.trans (h.mono h1.size), fun b cs T hb => (show Bx ((w3.alloc O).alloc P).drew b cs T from hb).next h⟩
theorem pg3 {w3 w4 : World} {O : Obj} {cs : Array Value} {T : TypeId} (h : Below ((w3.alloc O).alloc (.cells cs T)).drew.heap.size ((w3.alloc O).alloc (.cells cs T)).drew w4) : Bx w4 (w3.heap.size + 1) cs T := by
 have := (pg2 h).2 _ _ _ (Bx.new (w3.alloc O) cs T)
 simpa using this
theorem pg4 {w3 w4 : World} {O : Obj} {cs : Array Value} {T : TypeId} (h : Below ((w3.alloc (.cells cs T)).alloc O).drew.heap.size ((w3.alloc (.cells cs T)).alloc O).drew w4) : Bx w4 w3.heap.size cs T :=
 (pg2 h).2 _ _ _ ((Bx.new w3 cs T).next ((Below.refl _ _).alloc (Nat.le_refl _) O))
theorem program_any (w : World) (s : ByteArray) (hv : Vars w) (hs : s.size ≤ maxLen) : Calls Tryz.prog 6 #[.string s] w (PgmC w s) := by
 obtain ⟨Wa, ha⟩ : ∃ W, w.alloc (.cells #[.slice none 0 0] 29) = W := ⟨_, rfl⟩
 have ka : Below w.heap.size w Wa := by rw [← ha]; exact (Below.refl _ _).alloc (Nat.le_refl _) _
 have xa : Bx Wa w.heap.size #[.slice none 0 0] 29 := by rw [← ha]; exact Bx.new _ _ _
 have sa : Wa.heap.size = w.heap.size + 1 := by rw [← ha]; simp
 have HKA := Lib.hid ka
 have HXA := Lib.hid xa
 have HRD := Lib.hid (readerOf_any Wa s hs)
 clear ka xa
 subst ha
 go_enter Tryz.func6, Tryz.ntmps6
 go_upto_region 2 with (go_at_call 14; refine HRD.out.mono ?_; rintro e w1 ⟨c, rfl, hrd, hc, hb⟩; have HRX := Lib.hid hrd; have HCX := Lib.hid hc; have HB1 := Lib.hid hb; clear hrd hc hb)
 have HV1 : Hid (Vars w1) := Lib.hid (hv.keep (Keep.below (HKA.out.trans (HB1.out.mono HKA.out.size))))
 have HPG := Lib.hid (prg_any w1 w1 c (RS0 s) HV1.out HRX.out)
 have HS := Lib.hid (prg_size (RS0 s))
 obtain ⟨q, hq⟩ : ∃ q, prg (RS0 s) = q := ⟨_, rfl⟩
 obtain ⟨r, hr⟩ : ∃ r, prO s = r := ⟨_, rfl⟩
 have HT : Hid (prT s = if r.1 = 0 then q.1 else []) := Lib.hid (by simp only [prT, hr, hq])
 have HR : Hid ((let x := orF q.2.wc q.2.wa q.2.lc q.2.la; if x.1 = 0 then (if mayB q.1 = true then ((0 : Int), (0 : Int)) else (5, 0)) else x) = r) := Lib.hid (by rw [← hr]; simp only [prO, hq])
 rw [hq] at HPG HS
 have HPC : Hid (∀ e w', (∃ (A : Option Addr) (cap : Nat) (ys : List Nd), e = .returned (.tuple #[.agg #[.slice A ys.length cap], .int .i64 r.1, .int .i64 r.2]) ∧ FkL w.heap.size w' .cl (.slice A ys.length cap) ys ∧ bareL ys = bareL (prT s) ∧ Below w.heap.size w w') → PgmC w s e w') := Lib.hid (by intro e w' h; unfold PgmC; rw [hr]; exact h)
 clear hr hq hv
 obtain ⟨⟨x, y⟩, hxy⟩ : ∃ p, orF q.2.wc q.2.wa q.2.lc q.2.la = p := ⟨_, rfl⟩
 have HOR := Lib.hid hxy
 have HRR : Hid ((if x = 0 then (if mayB q.1 = true then ((0 : Int), (0 : Int)) else (5, 0)) else (x, y)) = r) := Lib.hid (by have := HR.out; simpa [hxy] using this)
 clear hxy HR
 go_upto_region 3 with (go_at_call 15; refine HPG.out.mono ?_; rintro e w2 ⟨A, cap, ys, rfl, hfk, hbq, hmv⟩; have HFK := Lib.hid hfk; have HBQ := Lib.hid hbq; have HMV := Lib.hid hmv; have HX2 := Lib.hid (hmv.2.2.2); clear hfk hbq hmv)
 obtain ⟨v, hww, hx2⟩ := HX2.out
 clear hww
 have HW2 := Lib.hid (hx2.next ((Below.refl _ w2).alloc (Nat.le_refl _) (.cells #[.slice A ys.length cap] 29)))
 have HBP := Lib.hid (Bx.new w2 #[.slice A ys.length cap] 29)
 clear hx2 HX2
 refine gen_world (F := fun W => Bx W c _ _ ∧ Bx W w2.heap.size _ _ ∧ Below w2.heap.size w2 W ∧ W.heap.size = w2.heap.size + 1) ⟨HW2.out, HBP.out, (Below.refl _ w2).alloc (Nat.le_refl _) _, by simp⟩ ?_
 rintro w3 ⟨hxc, hxp, hb3, hs3⟩
 have y3 := hxc.cell 3; have y4 := hxc.cell 4; have y5 := hxc.cell 5; have y6 := hxc.cell 6
 simp only [List.getElem?_toArray, List.getElem?_cons_succ, List.getElem?_cons_zero] at y3 y4 y5 y6
 have hc3 := hxc.lt
 have hc3n : c ≠ w3.heap.size := by omega
 have HXP := Lib.hid hxp
 have HB3 := Lib.hid hb3
 have HS3 := Lib.hid hs3
 clear hxc hxp hb3 hs3 HW2 HBP
 obtain ⟨fc, hwc⟩ : ∃ n, q.2.wc = n := ⟨_, rfl⟩
 obtain ⟨fa, hwa⟩ : ∃ n, q.2.wa = n := ⟨_, rfl⟩
 obtain ⟨lc, hlc⟩ : ∃ n, q.2.lc = n := ⟨_, rfl⟩
 obtain ⟨la, hla⟩ : ∃ n, q.2.la = n := ⟨_, rfl⟩
 rw [hwc] at y3 HOR; rw [hwa] at y4 HOR; rw [hlc] at y5 HOR; rw [hla] at y6 HOR
 clear hwc hwa hlc hla
 go_cut [7] from 12 to 21 (fun v7 wx => ∃ n7 : Nat, v7 = .pointer (some ⟨n7, 0, none⟩) ∧ Bx wx n7 #[.int .i64 x, .int .i64 y] 57 ∧ w3.heap.size ≤ n7 ∧ Below w3.heap.size w3 wx)
 case first =>
   go_region_with (go_at_call 16; refine (or_any _ _ _ _ _ _ _ _ HOR.out (by go_simp) (by go_simp) (by go_simp) (by go_simp)).mono ?_; rintro e w4 ⟨rfl, hb⟩; have HB4 := Lib.hid hb; have F0 := Keep.below hb ⟨w3.heap.size, 0, none⟩ (.int .i64 0); have F1 := Keep.below hb ⟨w3.heap.size, 1, none⟩ (.int .i64 0); have F2 := Keep.below hb ⟨w3.heap.size + 1, 0, none⟩ (.int .i64 0); have F3 := Keep.below hb ⟨w3.heap.size + 1, 1, none⟩ (.int .i64 0); have F4 := fun hk => World.frozen?_of_block (a := ⟨w3.heap.size, 0, none⟩) (hb.block w3.heap.size hk); have F5 := fun hk => World.frozen?_of_block (a := ⟨w3.heap.size, 1, none⟩) (hb.block w3.heap.size hk); have F6 := fun hk => World.frozen?_of_block (a := ⟨w3.heap.size + 1, 0, none⟩) (hb.block (w3.heap.size + 1) hk); have F7 := fun hk => World.frozen?_of_block (a := ⟨w3.heap.size + 1, 1, none⟩) (hb.block (w3.heap.size + 1) hk); clear hb; (try simp [go_sem] at F0); (try simp [go_sem] at F1); (try simp [go_sem] at F2); (try simp [go_sem] at F3); (try simp [go_sem] at F4); (try simp [go_sem] at F5); (try simp [go_sem] at F6); (try simp [go_sem] at F7); (first | (have G0 : w4.cell? ⟨w3.heap.size, 0, none⟩ = some (.int .i64 0) := F0; clear F0) | clear F0 | skip); (first | (have G1 : w4.cell? ⟨w3.heap.size, 1, none⟩ = some (.int .i64 0) := F1; clear F1) | clear F1 | skip); (first | (have G2 : w4.cell? ⟨w3.heap.size + 1, 0, none⟩ = some (.int .i64 0) := F2; clear F2) | clear F2 | skip); (first | (have G3 : w4.cell? ⟨w3.heap.size + 1, 1, none⟩ = some (.int .i64 0) := F3; clear F3) | clear F3 | skip); (first | (have G4 : w4.frozen? ⟨w3.heap.size, 0, none⟩ = false := F4; clear F4) | clear F4 | skip); (first | (have G5 : w4.frozen? ⟨w3.heap.size, 1, none⟩ = false := F5; clear F5) | clear F5 | skip); (first | (have G6 : w4.frozen? ⟨w3.heap.size + 1, 0, none⟩ = false := F6; clear F6) | clear F6 | skip); (first | (have G7 : w4.frozen? ⟨w3.heap.size + 1, 1, none⟩ = false := F7; clear F7) | clear F7 | skip))
   all_goals (go_wp2_with fail; go_meet)
   all_goals first
     | exact ⟨w4.heap.size, rfl, Bx.new _ _ _, (pg1 HB4.out).1, (pg1 HB4.out).2.alloc (pg1 HB4.out).1 _⟩
     | exact ⟨w3.heap.size + 1, rfl, (pg3 HB4.out).to_2 _ _, Nat.le_succ _, ((pg2 HB4.out).1.setCell (Nat.le_succ _) _).setCell (Nat.le_succ _) _⟩
     | exact ⟨w3.heap.size, rfl, (pg4 HB4.out).to_2 _ _, Nat.le_refl _, ((pg2 HB4.out).1.setCell (Nat.le_refl _) _).setCell (Nat.le_refl _) _⟩
 case rest =>
   obtain ⟨n7, rfl, hb7, hn7, hbl⟩ := hcut
   have z0 := hb7.cell 0; have z1 := hb7.cell 1
   have hx5 := HXP.out.next hbl
   have p0 := hx5.all_1
   have hcb : w.heap.size < c := by have := HCX.out; simp at this; omega
   have hbr : Bx wc w.heap.size #[.slice none 0 0] 29 := (((HXA.out.next HB1.out).grown HMV.out.1 (by omega)).next HB3.out).next hbl
   have HWB : Hid (Below w.heap.size w wc) := by
     have k1 := HKA.out.trans (HB1.out.mono HKA.out.size)
     have k2 := below_grown k1 HMV.out.1 (by omega)
     have k3 := k2.trans (HB3.out.mono k2.size)
     exact Lib.hid (k3.trans (hbl.mono k3.size))
   have HX7 := Lib.hid hb7
   have HX5 := Lib.hid hx5
   have HXR := Lib.hid hbr
   have HBL := Lib.hid hbl
   have r0 := hbr.all_1
   have g0 := hbr.fro 0
   simp only [List.getElem?_toArray, List.getElem?_cons_succ, List.getElem?_cons_zero] at z0 z1
   have hs5 := hbr.lt
   have hs52 := HX5.out.lt
   have hne1 : ¬ n7 = w.heap.size := by omega
   have hne2 : ¬ w.heap.size = n7 := by omega
   have hs57 := hb7.lt
   clear hb7 hx5 hbr hbl hcb
   by_cases hx0 : x = 0
   · subst hx0
     have hz := all_few s
     have hle : sizeL ys ≤ 1000000 := by
       have h1 := HS.out
       have h2 := sizeL_of_bare HBQ.out
       have h3 : (RS0 s).len ≤ 8000 := by simpa [RS0, RS.len] using hz
       omega
     have hmb := mayB_of_bare HBQ.out
     have HNW : Hid (∀ w', Below wc.heap.size wc w' → Rw w' .cl (.slice A ys.length cap) ys ∧ KdL w' ys) := by
       refine Lib.hid fun w' hb => ((((HFK.out.below HB3.out).below HBL.out).below hb)).now
     have HMAY : Hid (∀ w', Below wc.heap.size wc w' → Calls Tryz.prog 18 #[.agg #[.slice A ys.length cap]] w' fun e w'' => e = .returned (.bool (mayB q.1)) ∧ Below w'.heap.size w' w'') :=
       Lib.hid fun w' hb => may_any w' _ ys (HNW.out w' hb).1 (HNW.out w' hb).2 hle _ hmb
     have HFX : Hid (∀ w', Below wc.heap.size wc w' → FkL w1.heap.size w' .cl (.slice A ys.length cap) ys) :=
       Lib.hid fun w' hb => ((HFK.out.below HB3.out).below HBL.out).below hb
     have h1b : w.heap.size < w1.heap.size := by have := HB1.out.size; simp at this; omega
     clear hz hmb hle
     have h0b : ((0 : Int) != 0) = false := by simp
     obtain ⟨b, hb⟩ : ∃ b, mayB q.1 = b := ⟨_, rfl⟩
     rw [hb] at HMAY
     cases b with
     | true =>
       have hr0 : r = (0, 0) := by have := HRR.out; simp [hb] at this; exact this.symm
       subst hr0
       clear hb
       go_wp2_with (first
         | (go_at_call 17; refine (fault_is _ _ _).mono ?_; rintro e w6 ⟨rfl, rfl⟩)
         | (go_at_call 18; refine (HMAY.out _ (by first | exact (Below.refl _ _).alloc (Nat.le_refl _) _ | exact ((Below.refl _ _).alloc (Nat.le_refl _) _).drew)).mono ?_; rintro e w7 ⟨rfl, hb⟩; have h0 := (Below.refl wc.heap.size wc).alloc (Nat.le_refl _) (.cells #[.int .i64 0, .int .i64 y] 57); have hb2 := h0.trans (hb.mono h0.size); have r7 := (HXR.out.next hb2).all_1; have g7 := (HXR.out.next hb2).fro 0; have p7 := (HX5.out.next hb2).all_1; have HB7 := Lib.hid hb2; clear h0 hb hb2))
       have z7 := ((HXR.out.next HB7.out).to_1 (.slice A ys.length cap)).all_1
       (try simp only [Exit.inBlock, Exit.then])
       refine bodyPost_ret (v := .tuple #[.agg #[.slice A ys.length cap], .int .i64 0, .int .i64 0]) (by simp [results, Tryz.results6, go_sem, z7]) rfl (HPC.out _ _ ⟨A, cap, ys, rfl, ((HFX.out _ HB7.out).set h1b 0 _).mono (Nat.le_of_lt h1b), ?_, (HWB.out.trans (HB7.out.mono HWB.out.size)).setCell (Nat.le_refl _) _⟩)
       rw [HBQ.out, HT.out]; simp
     | false =>
       have hr0 : r = (5, 0) := by have := HRR.out; simp [hb] at this; exact this.symm
       subst hr0
       clear hb
       go_wp2_with (first
         | (go_at_call 17; refine (fault_is _ _ _).mono ?_; rintro e w6 ⟨rfl, rfl⟩)
         | (go_at_call 18; refine (HMAY.out _ (by first | exact (Below.refl _ _).alloc (Nat.le_refl _) _ | exact ((Below.refl _ _).alloc (Nat.le_refl _) _).drew)).mono ?_; rintro e w7 ⟨rfl, hb⟩; have h0 := (Below.refl wc.heap.size wc).alloc (Nat.le_refl _) (.cells #[.int .i64 0, .int .i64 y] 57); have hb2 := h0.trans (hb.mono h0.size); have r7 := (HXR.out.next hb2).all_1; have g7 := (HXR.out.next hb2).fro 0; have p7 := (HX5.out.next hb2).all_1; have HB7 := Lib.hid hb2; clear h0 hb hb2))
       have z7 := ((HXR.out.next HB7.out).to_1 (.slice none 0 0)).all_1
       (try simp only [Exit.inBlock, Exit.then])
       refine bodyPost_ret (v := .tuple #[.agg #[.slice none 0 0], .int .i64 5, .int .i64 0]) (by simp [results, Tryz.results6, go_sem, z7]) rfl (HPC.out _ _ ⟨none, 0, [], rfl, FkL.nil _ _ _, ?_, (HWB.out.trans (HB7.out.mono HWB.out.size)).setCell (Nat.le_refl _) _⟩)
       rw [HT.out]; simp
   · have hxb : (x != 0) = true := by simpa using hx0
     have hr0 : r = (x, y) := by have := HRR.out; simp [hx0] at this; exact this.symm
     subst hr0
     go_upto_region 5 with (go_at_call 17; refine (fault_is _ _ _).mono ?_; rintro e w6 ⟨rfl, rfl⟩)
     go_region
     go_wp2_with fail
     have z7 : (((wc.setCell ⟨w.heap.size, 0, none⟩ (.slice none 0 0)).alloc (.cells #[.int .i64 x, .int .i64 y] 57)).drew).cell? ⟨w.heap.size, 0, none⟩ = some (.slice none 0 0) := ((HXR.out.to_1 (.slice none 0 0)).next ((Below.refl _ _).alloc (Nat.le_refl _) (.cells #[.int .i64 x, .int .i64 y] 57))).all_1
     (try simp only [Exit.inBlock, Exit.then])
     refine bodyPost_ret (v := .tuple #[.agg #[.slice none 0 0], .int .i64 x, .int .i64 y]) (by simp [results, Tryz.results6, go_sem, z7]) rfl (HPC.out _ _ ⟨none, 0, [], rfl, FkL.nil _ _ _, ?_, ((HWB.out.setCell (Nat.le_refl _) _).alloc (Nat.le_trans HWB.out.size (by simp)) _).drew⟩)
     rw [HT.out]; simp [hx0]
end Go.Proofs.YtipcoglddfgopaaGreatDoor
