/- Parts of the proof: Told4, Told5, Told6. -/
import Derived.Test.YtipcoglddfgopaaGreatDoorPgm
import Derived.Test.YtipcoglddfgopaaGreatDoorPge
set_option maxHeartbeats 8000000
set_option maxRecDepth 100000
namespace Go.Proofs.YtipcoglddfgopaaGreatDoor
set_option linter.unusedSimpArgs false
set_option linter.unusedVariables false
section
open Go.RowKit
def pt1 : ByteArray := ⟨#[99, 108, 97, 115, 115, 32, 65, 32, 101, 120, 116, 101, 110, 100, 115, 32, 66, 32, 123, 32, 105, 110, 116, 32, 120, 32, 61, 32, 49, 32, 43, 32, 50, 32, 42, 32, 51, 59, 32, 65, 40, 41, 32, 123, 32, 115, 117, 112, 101, 114, 40, 41, 59, 32, 125, 32, 118, 111, 105, 100, 32, 102, 40, 105, 110, 116, 32, 97, 41, 32, 123, 32, 116, 104, 105, 115, 46, 120, 32, 61, 32, 97, 59, 32, 125, 32, 125]⟩
def pt2 : ByteArray := ⟨#[99, 108, 97, 115, 115, 32, 65, 32, 123, 32, 105, 110, 116, 32, 120, 32, 125]⟩
def pt3 : ByteArray := ⟨#[99, 108, 97, 115, 115, 32, 65, 32, 123, 32, 118, 111, 105, 100, 32, 102, 40, 41, 32, 123, 32, 115, 117, 112, 101, 114, 40, 41, 59, 32, 125, 32, 125]⟩
def pt4 : ByteArray := ⟨#[97, 32, 45, 32, 98, 32, 45, 32, 99, 32, 97, 115, 32, 68]⟩
def pt5 : ByteArray := ⟨#[97, 32, 43]⟩
def pt6 : ByteArray := ⟨#[50, 49, 52, 55, 52, 56, 51, 54, 52, 56]⟩
def shapeP : List Nd → Bool
 | [.cl _ sp _ _ _ [.mt _ c _ _ _ _ _ _, .mt _ _ _ _ _ _ _ _]] => c && sp.data == #[66]
 | _ => false
def shapeE : Nd → Bool
 | .ex k _ _ nm _ _ [.ex k1 _ _ _ _ _ _ _ _, .ex k2 _ _ _ _ _ _ _ _] _ _ => k == 17 && nm.data == #[45] && k1 == 17 && k2 == 15
 | _ => false
theorem pt1_is : prO pt1 = (0, 0) ∧ shapeP (bareL (prT pt1)) = true := by decide +kernel
theorem pt2_is : prO pt2 = (3, 16) := by decide +kernel
theorem pt3_is : prO pt3 = (3, 21) := by decide +kernel
theorem pt4_is : exO pt4 = (0, 0) ∧ shapeE (bareN (exT pt4)) = true := by decide +kernel
theorem pt5_is : exO pt5 = (3, 3) := by decide +kernel
theorem pt6_is : (exO pt6).1 = 5 := by decide +kernel
end
section
open Go.RowKit
def Says2 (x a : Int) (w : World) (e : Ending) (w' : World) : Prop := ∃ (A : Option Addr) (n cap : Nat), e = .returned (.tuple #[.agg #[.slice A n cap], .int .i64 x, .int .i64 a]) ∧ Below w.heap.size w w'
def SaysX (x : Int) (w : World) (e : Ending) (w' : World) : Prop := ∃ (k n : Int) (tx nm ty own : ByteArray) (A : Option Addr) (m cap : Nat) (nth a : Int), e = .returned (.tuple #[.agg #[.int .i64 k, .int .i32 n, .string tx, .string nm, .string ty, .slice A m cap, .string own, .int .i64 nth], .int .i64 x, .int .i64 a]) ∧ Below w.heap.size w w'
theorem says2 (s : ByteArray) (x a : Int) (h : prO s = (x, a)) (hs : s.size ≤ maxLen) (w : World) (hv : Vars w) : Calls Tryz.prog 6 #[.string s] w (Says2 x a w) := by
 refine (program_any w s hv hs).mono ?_
 rintro e w' ⟨A, cap, ys, rfl, _, _, hb⟩
 rw [h]; exact ⟨A, _, cap, rfl, hb⟩
theorem saysX (s : ByteArray) (x : Int) (h : (exO s).1 = x) (hs : s.size ≤ maxLen) (w : World) (hv : Vars w) : Calls Tryz.prog 13 #[.string s] w (SaysX x w) := by
 refine (expr_text w s hv hs).mono ?_
 rintro e w' ⟨y, rfl, ⟨k, n, tx, nm, ty, A, cap, l, rfl, _⟩, hb⟩
 rw [h]; exact ⟨k, n, tx, nm, ty, ⟨#[]⟩, A, l.length, cap, 0, _, rfl, hb⟩
def SaysXA (x a : Int) (w : World) (e : Ending) (w' : World) : Prop := ∃ (k n : Int) (tx nm ty own : ByteArray) (A : Option Addr) (m cap : Nat) (nth : Int), e = .returned (.tuple #[.agg #[.int .i64 k, .int .i32 n, .string tx, .string nm, .string ty, .slice A m cap, .string own, .int .i64 nth], .int .i64 x, .int .i64 a]) ∧ Below w.heap.size w w'
theorem saysXA (s : ByteArray) (x a : Int) (h : exO s = (x, a)) (hs : s.size ≤ maxLen) (w : World) (hv : Vars w) : Calls Tryz.prog 13 #[.string s] w (SaysXA x a w) := by
 refine (expr_text w s hv hs).mono ?_
 rintro e w' ⟨y, rfl, ⟨k, n, tx, nm, ty, A, cap, l, rfl, _⟩, hb⟩
 rw [h]; exact ⟨k, n, tx, nm, ty, ⟨#[]⟩, A, l.length, cap, 0, rfl, hb⟩
def P1 (n : Nat) (W : World) (v : Value) : Prop := ∃ (b o cap b2 o2 cap2 n0 cap0 : Nat) (A0 : Option Addr) (nm : ByteArray) (s2 : Bool), v = .slice (some ⟨b, o, none⟩) 1 cap ∧
 ∀ W', Below W.heap.size W W' → (W'.cell? ⟨b, o, none⟩ = some (.string nm) ∧ W'.cell? ⟨b, o + 1, none⟩ = some (.string ⟨#[66]⟩) ∧ W'.cell? ⟨b, o + 2, none⟩ = some (.slice A0 n0 cap0) ∧ W'.cell? ⟨b, o + 3, none⟩ = some (.slice (some ⟨b2, o2, none⟩) 2 cap2)) ∧ W'.cell? ⟨b2, o2, none⟩ = some (.bool s2) ∧ W'.cell? ⟨b2, o2 + 1, none⟩ = some (.bool true)
theorem p1_of {W : World} {A : Option Addr} {cap n : Nat} {ys : List Nd} (hf : FkL n W .cl (.slice A ys.length cap) ys) (hb : shapeP (bareL ys) = true) : P1 n W (.slice A ys.length cap) := by
 match ys, hb, hf with
 | [.cl nm sp vf vm f [.mt s1 c1 ty1 nm1 vp1 ps1 v1 l1, .mt s2 c2 ty2 nm2 vp2 ps2 v2 l2]], hb, hf =>
   simp only [bareL, bareN, shapeP, Bool.and_eq_true, beq_iff_eq] at hb
   obtain ⟨rfl, hsp⟩ := hb
   have hsp' : sp = ⟨#[66]⟩ := by cases sp; simp at hsp; rw [hsp]
   subst hsp'
   obtain ⟨hr, hk⟩ := hf.now
   obtain ⟨b, o, x, rfl, hx, _, hc⟩ := hr.get (k := 0) (by simp)
   simp at hx; subst hx
   have hkc := hk.1
   rw [Kd] at hkc
   obtain ⟨_, ⟨hrf, _⟩, hrm, hkm⟩ := hkc
   obtain ⟨A0, cap0, rfl⟩ := hrf.form
   obtain ⟨A2, cap2, rfl⟩ := hrm.form
   obtain ⟨b2, o2, y, rfl, hy, _, hd⟩ := hrm.get (k := 0) (by simp)
   simp at hy; subst hy
   refine ⟨b, o, cap, b2, o2, cap2, f.length, cap0, A0, nm, s1, rfl, fun W' hB => ?_⟩
   have K := Keep.below hB
   have e0 := K _ _ (hc 0 _ rfl); have e1 := K _ _ (hc 1 _ rfl); have e2 := K _ _ (hc 2 _ rfl); have e3 := K _ _ (hc 3 _ rfl)
   have d0 := K _ _ (hd 0 _ rfl); have d1 := K _ _ (hd 1 _ rfl)
   simp only [Nat.zero_mul, Nat.add_zero] at e0 e1 e2 e3 d0 d1
   exact ⟨⟨e0, e1, e2, e3⟩, d0, d1⟩
def P4 (W : World) (k : Int) (nm : ByteArray) (v : Value) : Prop := k = 17 ∧ nm = ⟨#[45]⟩ ∧ ∃ b o cap : Nat, v = .slice (some ⟨b, o, none⟩) 2 cap ∧
 ∀ W', Below W.heap.size W W' → W'.cell? ⟨b, o, none⟩ = some (.int .i64 17) ∧ W'.cell? ⟨b, o + 8, none⟩ = some (.int .i64 15)
theorem p4_of {W : World} {B : Nat} {x : Nd} {k n : Int} {tx nm ty own : ByteArray} {A : Option Addr} {cap : Nat} {l : List Nd} {nth : Int} (hk : ExK B none W x (.ex k n tx nm ty (.slice A l.length cap) l own nth)) (hb : shapeE (bareN x) = true) : P4 W k nm (.slice A l.length cap) := by
 rw [← hk.bare] at hb
 have hkd := hk.now
 match l, hb, hkd with
 | [.ex k1 n1 tx1 nm1 ty1 v1 l1 own1 nth1, .ex k2 n2 tx2 nm2 ty2 v2 l2 own2 nth2], hb, hkd =>
   simp only [bareN, bareL, shapeE, Bool.and_eq_true, beq_iff_eq] at hb
   obtain ⟨⟨⟨rfl, hnm⟩, rfl⟩, rfl⟩ := hb
   have hnm' : nm = ⟨#[45]⟩ := by cases nm; simp at hnm; rw [hnm]
   subst hnm'
   rw [Kd] at hkd
   obtain ⟨_, hr, _⟩ := hkd
   obtain ⟨b, o, y, rfl, hy, _, hc⟩ := hr.get (k := 0) (by simp)
   obtain ⟨b', o', y', he, hy', _, hc'⟩ := hr.get (k := 1) (by simp)
   injection he with he; injection he with h1 h2
   subst h1 h2
   simp at hy hy'; subst hy hy'
   refine ⟨rfl, rfl, b, o, cap, rfl, fun W' hB => ?_⟩
   have K := Keep.below hB
   have e0 := K _ _ (hc 0 _ rfl); have e1 := K _ _ (hc' 0 _ rfl)
   simp only [Nat.zero_mul, Nat.add_zero, Tg.sz, Nat.one_mul] at e0 e1
   exact ⟨e0, e1⟩
end
section
open Go.RowKit
theorem says1 (w : World) (hv : Vars w) : Calls Tryz.prog 6 #[.string pt1] w fun e w' => ∃ (A : Option Addr) (n cap : Nat), e = .returned (.tuple #[.agg #[.slice A n cap], .int .i64 0, .int .i64 0]) ∧ P1 0 w' (.slice A n cap) ∧ Below w.heap.size w w' := by
 refine (program_any w pt1 hv (by unfold maxLen; decide)).mono ?_
 rintro e w' ⟨A, cap, ys, rfl, hf, hb, hl⟩
 rw [pt1_is.1]
 have h2 := pt1_is.2
 rw [← hb] at h2
 obtain ⟨b, o, cap', b2, o2, cap2, n0, cap0, A0, nm, s2, hp⟩ := p1_of hf h2
 exact ⟨A, ys.length, cap, rfl, ⟨b, o, cap', b2, o2, cap2, n0, cap0, A0, nm, s2, hp⟩, hl⟩
theorem says4 (w : World) (hv : Vars w) : Calls Tryz.prog 13 #[.string pt4] w fun e w' => ∃ (k n : Int) (tx nm ty own : ByteArray) (A : Option Addr) (m cap : Nat) (nth : Int), e = .returned (.tuple #[.agg #[.int .i64 k, .int .i32 n, .string tx, .string nm, .string ty, .slice A m cap, .string own, .int .i64 nth], .int .i64 0, .int .i64 0]) ∧ P4 w' k nm (.slice A m cap) ∧ Below w.heap.size w w' := by
 refine (expr_text w pt4 hv (by unfold maxLen; decide)).mono ?_
 rintro e w' ⟨y, rfl, hk, hb⟩
 have hk2 := hk
 obtain ⟨k, n, tx, nm, ty, A, cap, l, rfl, _⟩ := hk2
 rw [pt4_is.1]
 exact ⟨k, n, tx, nm, ty, ⟨#[]⟩, A, l.length, cap, 0, rfl, p4_of hk pt4_is.2, hb⟩
theorem told_any (w : World) (hv : Vars w) : Calls Tryz.prog 5 #[] w fun e w' => e = .returned (.bool true) ∧ Below w.heap.size w w' := by
 have HV := Lib.hid hv
 have H1 := Lib.hid (says1 w hv)
 clear hv
 go_enter Tryz.func5, Tryz.ntmps5
 go_upto_region 2 with (go_at_call 6; refine H1.out.mono ?_; clear H1; rintro e w1 ⟨A1, m1, q1, rfl, hp, hb⟩; have HP1 := Lib.hid hp; have HB1 := Lib.hid hb; clear hp hb)
 have hx1 := Bx.new w1 #[.slice A1 m1 q1] 29
 have hk1 := (Below.refl w1.heap.size w1).alloc (Nat.le_refl _) (.cells #[.slice A1 m1 q1] 29)
 refine gen_world (F := fun W => Bx W w1.heap.size #[.slice A1 m1 q1] 29 ∧ Below w1.heap.size w1 W) ⟨hx1, hk1⟩ ?_
 clear hx1 hk1
 rintro W1 ⟨hx1, hk1⟩
 have HX1 := Lib.hid hx1; have HK1 := Lib.hid hk1
 have HW1 : Hid (Below w.heap.size w W1) := Lib.hid (HB1.out.trans (hk1.mono HB1.out.size))
 have H2 := Lib.hid (says2 pt2 3 16 pt2_is (by unfold maxLen; decide) W1 (HV.out.keep (Keep.below HW1.out)))
 clear hx1 hk1
 go_upto_region 3 with (go_at_call 6; refine H2.out.mono ?_; clear H2; rintro e w2 ⟨A2, m2, q2, rfl, hb⟩; have HB2 := Lib.hid hb; clear hb)
 refine gen_world (F := fun W => Below w2.heap.size w2 W) ((Below.refl w2.heap.size w2).alloc (Nat.le_refl _) (.cells #[.slice A2 m2 q2] 29)) ?_
 rintro W2 hk2
 have HW2 : Hid (Below W1.heap.size W1 W2) := Lib.hid (HB2.out.trans (hk2.mono HB2.out.size))
 have HV2 : Hid (Vars W2) := Lib.hid (HV.out.keep (Keep.below (HW1.out.trans (HW2.out.mono HW1.out.size))))
 have H3 := Lib.hid (says2 pt3 3 21 pt3_is (by unfold maxLen; decide) W2 HV2.out)
 clear hk2
 go_upto_region 4 with (go_at_call 6; refine H3.out.mono ?_; clear H3; rintro e w3 ⟨A3, m3, q3, rfl, hb⟩; have HB3 := Lib.hid hb; clear hb)
 refine gen_world (F := fun W => Below w3.heap.size w3 W) ((Below.refl w3.heap.size w3).alloc (Nat.le_refl _) (.cells #[.slice A3 m3 q3] 29)) ?_
 rintro W3 hk3
 have HW3 : Hid (Below W1.heap.size W1 W3) := by
   have h1 := HB3.out.trans (hk3.mono HB3.out.size)
   exact Lib.hid (HW2.out.trans (h1.mono HW2.out.size))
 have HV3 : Hid (Vars W3) := Lib.hid (HV.out.keep (Keep.below (HW1.out.trans (HW3.out.mono HW1.out.size))))
 have H4 := Lib.hid (says4 W3 HV3.out)
 clear hk3
 go_upto_region 5 with (go_at_call 13; refine H4.out.mono ?_; clear H4; rintro e w4 ⟨k4, n4, tx4, nm4, ty4, own4, A4, m4, q4, nth4, rfl, hp, hb⟩; have HP4 := Lib.hid hp; have HB4 := Lib.hid hb; clear hp hb)
 refine gen_world (F := fun W => Bx W w4.heap.size #[.int .i64 k4, .int .i32 n4, .string tx4, .string nm4, .string ty4, .slice A4 m4 q4, .string own4, .int .i64 nth4] 42 ∧ Below w4.heap.size w4 W) ⟨Bx.new w4 _ _, (Below.refl w4.heap.size w4).alloc (Nat.le_refl _) (.cells #[.int .i64 k4, .int .i32 n4, .string tx4, .string nm4, .string ty4, .slice A4 m4 q4, .string own4, .int .i64 nth4] 42)⟩ ?_
 rintro W4 ⟨hx4, hk4⟩
 have HX4 := Lib.hid hx4; have HK4 := Lib.hid hk4
 have HW4 : Hid (Below W1.heap.size W1 W4) := by
   have h1 := HB4.out.trans (hk4.mono HB4.out.size)
   exact Lib.hid (HW3.out.trans (h1.mono HW3.out.size))
 have HV4 : Hid (Vars W4) := Lib.hid (HV.out.keep (Keep.below (HW1.out.trans (HW4.out.mono HW1.out.size))))
 have H5 := Lib.hid (saysXA pt5 3 3 pt5_is (by unfold maxLen; decide) W4 HV4.out)
 clear hx4 hk4
 go_upto_region 6 with (go_at_call 13; refine H5.out.mono ?_; clear H5; rintro e w5 ⟨k5, n5, tx5, nm5, ty5, own5, A5, m5, q5, nth5, rfl, hb⟩; have HB5 := Lib.hid hb; clear hb)
 refine gen_world (F := fun W => Below w5.heap.size w5 W) ((Below.refl w5.heap.size w5).alloc (Nat.le_refl _) (.cells #[.int .i64 k5, .int .i32 n5, .string tx5, .string nm5, .string ty5, .slice A5 m5 q5, .string own5, .int .i64 nth5] 42)) ?_
 rintro W5 hk5
 have HW5 : Hid (Below W4.heap.size W4 W5) := Lib.hid (HB5.out.trans (hk5.mono HB5.out.size))
 have HV5 : Hid (Vars W5) := Lib.hid (HV4.out.keep (Keep.below HW5.out))
 have H6 := Lib.hid (saysX pt6 5 pt6_is (by unfold maxLen; decide) W5 HV5.out)
 clear hk5
 obtain ⟨b1, o1, c1, b2, o2, c2, n0, c0, A0, nm1, s2, he1, hp1⟩ := HP1.out
 injection he1 with e1 e2 e3
 subst e1 e2 e3
 obtain ⟨e4, e5, b4, o4, c4, he4, hp4⟩ := HP4.out
 injection he4 with e1 e2 e3
 subst e1 e2 e3 e4 e5
 have HQ1 := Lib.hid hp1; have HQ4 := Lib.hid hp4
 clear hp1 hp4 HP1 HP4
 have HALL : Hid (∀ W, Below W5.heap.size W5 W → Below w1.heap.size w1 W ∧ Below w4.heap.size w4 W ∧ Bx W w1.heap.size #[.slice (some ⟨b1, o1, none⟩) 1 q1] 29 ∧ Bx W w4.heap.size #[.int .i64 17, .int .i32 n4, .string tx4, .string ⟨#[45]⟩, .string ty4, .slice (some ⟨b4, o4, none⟩) 2 q4, .string own4, .int .i64 nth4] 42 ∧ Below w.heap.size w W) := by
   refine Lib.hid fun W h => ?_
   have a4 := HW5.out.trans (h.mono HW5.out.size)
   have a1 := HW4.out.trans (a4.mono HW4.out.size)
   exact ⟨HK1.out.trans (a1.mono HK1.out.size), HK4.out.trans (a4.mono HK4.out.size), HX1.out.next a1, HX4.out.next a4, HW1.out.trans (a1.mono HW1.out.size)⟩
 go_wp2_with (go_at_call 13; refine H6.out.mono ?_; clear H6; rintro e w6 ⟨k6, n6, tx6, nm6, ty6, own6, A6, m6, q6, nth6, a6, rfl, hb⟩; obtain ⟨i1, i4, j1, j4, j0⟩ := HALL.out _ hb; obtain ⟨⟨f0, f1, f2, f3⟩, f4, f5⟩ := HQ1.out _ i1; obtain ⟨h4a, h4b⟩ := HQ4.out _ i4; have z1 := j1.all_1; obtain ⟨y0, y1, y2, y3, y4, y5, y6, y7⟩ := j4.all_8; have l0 := World.block_lt_of_cell? w6 (a := ⟨b1, o1, none⟩) f0; have l4 := World.block_lt_of_cell? w6 (a := ⟨b2, o2, none⟩) f4; have l5 := World.block_lt_of_cell? w6 (a := ⟨b4, o4, none⟩) h4a; have l1 := j1.lt; have l2 := j4.lt; (try simp only at l0); (try simp only at l4); (try simp only at l5); have HJ0 := Lib.hid j0; clear hb i1 i4 j1 j4 j0)
 go_ret
 exact ⟨rfl, HJ0.out.alloc HJ0.out.size _⟩
end
end Go.Proofs.YtipcoglddfgopaaGreatDoor
