/- Parts of the proof: Told6. -/
import Derived.Test.YtnbfajmdfkgebaaGreatDoorP40
set_option maxHeartbeats 8000000
set_option maxRecDepth 100000
set_option linter.unusedSimpArgs false
set_option linter.unusedVariables false
namespace Go.Proofs.YtnbfajmdfkgebaaGreatDoor
open Go.RowKit
theorem says1 (w : World) (hv : Vars w) : Calls Tryz.prog 7 #[.string pt1] w fun e w' => ∃ (A : Option Addr) (n cap : Nat), e = .returned (.tuple #[.agg #[.slice A n cap], .int .i64 0, .int .i64 0]) ∧ P1 0 w' (.slice A n cap) ∧ Below w.heap.size w w' := by
 refine (program_any w pt1 hv (by unfold maxLen; decide)).mono ?_
 rintro e w' ⟨A, cap, ys, rfl, hf, hb, hl⟩
 rw [pt1_is.1]
 have h2 := pt1_is.2
 rw [← hb] at h2
 obtain ⟨b, o, cap', b2, o2, cap2, n0, cap0, A0, nm, s2, hp⟩ := p1_of hf h2
 exact ⟨A, ys.length, cap, rfl, ⟨b, o, cap', b2, o2, cap2, n0, cap0, A0, nm, s2, hp⟩, hl⟩
theorem says4 (w : World) (hv : Vars w) : Calls Tryz.prog 10 #[.string pt4] w fun e w' => ∃ (k n : Int) (tx nm ty own : ByteArray) (A : Option Addr) (m cap : Nat) (nth : Int), e = .returned (.tuple #[.agg #[.int .i64 k, .int .i32 n, .string tx, .string nm, .string ty, .slice A m cap, .string own, .int .i64 nth], .int .i64 0, .int .i64 0]) ∧ P4 w' k nm (.slice A m cap) ∧ Below w.heap.size w w' := by
 refine (expr_text w pt4 hv (by unfold maxLen; decide)).mono ?_
 rintro e w' ⟨y, rfl, hk, hb⟩
 have hk2 := hk
 obtain ⟨k, n, tx, nm, ty, A, cap, l, rfl, _⟩ := hk2
 rw [pt4_is.1]
 exact ⟨k, n, tx, nm, ty, ⟨#[]⟩, A, l.length, cap, 0, rfl, p4_of hk pt4_is.2, hb⟩
theorem told_any (w : World) (hv : Vars w) : Calls Tryz.prog 6 #[] w fun e w' => e = .returned (.bool true) ∧ Below w.heap.size w w' := by
 have HV := Lib.hid hv
 have H1 := Lib.hid (says1 w hv)
 clear hv
 go_enter Tryz.func6, Tryz.ntmps6
 go_upto_region 2 with (go_at_call 7; refine H1.out.mono ?_; clear H1; rintro e w1 ⟨A1, m1, q1, rfl, hp, hb⟩; have HP1 := Lib.hid hp; have HB1 := Lib.hid hb; clear hp hb)
 have hx1 := Bx.new w1 #[.slice A1 m1 q1] 25
 have hk1 := (Below.refl w1.heap.size w1).alloc (Nat.le_refl _) (.cells #[.slice A1 m1 q1] 25)
 refine gen_world (F := fun W => Bx W w1.heap.size #[.slice A1 m1 q1] 25 ∧ Below w1.heap.size w1 W) ⟨hx1, hk1⟩ ?_
 clear hx1 hk1
 rintro W1 ⟨hx1, hk1⟩
 have HX1 := Lib.hid hx1; have HK1 := Lib.hid hk1
 have HW1 : Hid (Below w.heap.size w W1) := Lib.hid (HB1.out.trans (hk1.mono HB1.out.size))
 have H2 := Lib.hid (says2 pt2 3 16 pt2_is (by unfold maxLen; decide) W1 (HV.out.keep (Keep.below HW1.out)))
 clear hx1 hk1
 go_upto_region 3 with (go_at_call 7; refine H2.out.mono ?_; clear H2; rintro e w2 ⟨A2, m2, q2, rfl, hb⟩; have HB2 := Lib.hid hb; clear hb)
 refine gen_world (F := fun W => Below w2.heap.size w2 W) ((Below.refl w2.heap.size w2).alloc (Nat.le_refl _) (.cells #[.slice A2 m2 q2] 25)) ?_
 rintro W2 hk2
 have HW2 : Hid (Below W1.heap.size W1 W2) := Lib.hid (HB2.out.trans (hk2.mono HB2.out.size))
 have HV2 : Hid (Vars W2) := Lib.hid (HV.out.keep (Keep.below (HW1.out.trans (HW2.out.mono HW1.out.size))))
 have H3 := Lib.hid (says2 pt3 3 21 pt3_is (by unfold maxLen; decide) W2 HV2.out)
 clear hk2
 go_upto_region 4 with (go_at_call 7; refine H3.out.mono ?_; clear H3; rintro e w3 ⟨A3, m3, q3, rfl, hb⟩; have HB3 := Lib.hid hb; clear hb)
 refine gen_world (F := fun W => Below w3.heap.size w3 W) ((Below.refl w3.heap.size w3).alloc (Nat.le_refl _) (.cells #[.slice A3 m3 q3] 25)) ?_
 rintro W3 hk3
 have HW3 : Hid (Below W1.heap.size W1 W3) := by
   have h1 := HB3.out.trans (hk3.mono HB3.out.size)
   exact Lib.hid (HW2.out.trans (h1.mono HW2.out.size))
 have HV3 : Hid (Vars W3) := Lib.hid (HV.out.keep (Keep.below (HW1.out.trans (HW3.out.mono HW1.out.size))))
 have H4 := Lib.hid (says4 W3 HV3.out)
 clear hk3
 go_upto_region 5 with (go_at_call 10; refine H4.out.mono ?_; clear H4; rintro e w4 ⟨k4, n4, tx4, nm4, ty4, own4, A4, m4, q4, nth4, rfl, hp, hb⟩; have HP4 := Lib.hid hp; have HB4 := Lib.hid hb; clear hp hb)
 refine gen_world (F := fun W => Bx W w4.heap.size #[.int .i64 k4, .int .i32 n4, .string tx4, .string nm4, .string ty4, .slice A4 m4 q4, .string own4, .int .i64 nth4] 36 ∧ Below w4.heap.size w4 W) ⟨Bx.new w4 _ _, (Below.refl w4.heap.size w4).alloc (Nat.le_refl _) (.cells #[.int .i64 k4, .int .i32 n4, .string tx4, .string nm4, .string ty4, .slice A4 m4 q4, .string own4, .int .i64 nth4] 36)⟩ ?_
 rintro W4 ⟨hx4, hk4⟩
 have HX4 := Lib.hid hx4; have HK4 := Lib.hid hk4
 have HW4 : Hid (Below W1.heap.size W1 W4) := by
   have h1 := HB4.out.trans (hk4.mono HB4.out.size)
   exact Lib.hid (HW3.out.trans (h1.mono HW3.out.size))
 have HV4 : Hid (Vars W4) := Lib.hid (HV.out.keep (Keep.below (HW1.out.trans (HW4.out.mono HW1.out.size))))
 have H5 := Lib.hid (saysXA pt5 3 3 pt5_is (by unfold maxLen; decide) W4 HV4.out)
 clear hx4 hk4
 go_upto_region 6 with (go_at_call 10; refine H5.out.mono ?_; clear H5; rintro e w5 ⟨k5, n5, tx5, nm5, ty5, own5, A5, m5, q5, nth5, rfl, hb⟩; have HB5 := Lib.hid hb; clear hb)
 refine gen_world (F := fun W => Below w5.heap.size w5 W) ((Below.refl w5.heap.size w5).alloc (Nat.le_refl _) (.cells #[.int .i64 k5, .int .i32 n5, .string tx5, .string nm5, .string ty5, .slice A5 m5 q5, .string own5, .int .i64 nth5] 36)) ?_
 rintro W5 hk5
 have HW5 : Hid (Below W4.heap.size W4 W5) := Lib.hid (HB5.out.trans (hk5.mono HB5.out.size))
 have HV5 : Hid (Vars W5) := Lib.hid (HV4.out.keep (Keep.below HW5.out))
 have H6 := Lib.hid (saysX pt6 5 pt6_is (by unfold maxLen; decide) W5 HV5.out)
 clear hk5
 obtain ⟨b1, o1, c1, b2, o2, c2, n0, c0, A0, nm1, s2, he1, hp1⟩ := HP1.out
 injection he1 with e1 e2 e3
 subst e1 e2 e3
 obtain ⟨e4, e5, b4, o4, c4, he4, hp4⟩ := HP4.out
 injection he4 with e1 e2 e3
 subst e1 e2 e3 e4 e5
 have HQ1 := Lib.hid hp1; have HQ4 := Lib.hid hp4
 clear hp1 hp4 HP1 HP4
 have HALL : Hid (∀ W, Below W5.heap.size W5 W → Below w1.heap.size w1 W ∧ Below w4.heap.size w4 W ∧ Bx W w1.heap.size #[.slice (some ⟨b1, o1, none⟩) 1 q1] 25 ∧ Bx W w4.heap.size #[.int .i64 17, .int .i32 n4, .string tx4, .string ⟨#[45]⟩, .string ty4, .slice (some ⟨b4, o4, none⟩) 2 q4, .string own4, .int .i64 nth4] 36 ∧ Below w.heap.size w W) := by
   refine Lib.hid fun W h => ?_
   have a4 := HW5.out.trans (h.mono HW5.out.size)
   have a1 := HW4.out.trans (a4.mono HW4.out.size)
   exact ⟨HK1.out.trans (a1.mono HK1.out.size), HK4.out.trans (a4.mono HK4.out.size), HX1.out.next a1, HX4.out.next a4, HW1.out.trans (a1.mono HW1.out.size)⟩
 go_wp2_with (go_at_call 10; refine H6.out.mono ?_; clear H6; rintro e w6 ⟨k6, n6, tx6, nm6, ty6, own6, A6, m6, q6, nth6, a6, rfl, hb⟩; obtain ⟨i1, i4, j1, j4, j0⟩ := HALL.out _ hb; obtain ⟨⟨f0, f1, f2, f3⟩, f4, f5⟩ := HQ1.out _ i1; obtain ⟨h4a, h4b⟩ := HQ4.out _ i4; have z1 := j1.all_1; obtain ⟨y0, y1, y2, y3, y4, y5, y6, y7⟩ := j4.all_8; have l0 := World.block_lt_of_cell? w6 (a := ⟨b1, o1, none⟩) f0; have l4 := World.block_lt_of_cell? w6 (a := ⟨b2, o2, none⟩) f4; have l5 := World.block_lt_of_cell? w6 (a := ⟨b4, o4, none⟩) h4a; have l1 := j1.lt; have l2 := j4.lt; (try simp only at l0); (try simp only at l4); (try simp only at l5); have HJ0 := Lib.hid j0; clear hb i1 i4 j1 j4 j0)
 go_ret
 exact ⟨rfl, HJ0.out.alloc HJ0.out.size _⟩
end Go.Proofs.YtnbfajmdfkgebaaGreatDoor
