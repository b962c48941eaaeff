/- word32: Do, Less, Neg, and the document's own. -/
import Derived.Test.YtggabclclghmbaaProg
import Derived.Test.YtggabclclghmbaaNwA
import Derived.Below
import Derived.Lib.Hide
set_option linter.unusedSimpArgs false
set_option linter.unusedVariables false
namespace Go.Proofs.Ytggabclclghmbaa
open Go.RowKit

def i32 (a : Int) : Prop := -2147483648 ≤ a ∧ a ≤ 2147483647
theorem w32_eq (x : Int) : wrap32 x = (x + 2147483648) % 4294967296 - 2147483648 := by unfold wrap32; omega
theorem w32_mod (x : Int) : wrap32 (x % 4294967296) = wrap32 x := by rw [w32_eq, w32_eq]; omega
theorem w32_in (x : Int) : i32 (wrap32 x) := by unfold i32; rw [w32_eq]; omega
def doL (o : List UInt8) (a b : Int) : Int × Bool :=
  if (o == [43]) = true then (wrap32 (a + b), true) else if (o == [45]) = true then (wrap32 (a - b), true) else if (o == [42]) = true then (wrap32 (a * b), true)
  else if b = 0 then (0, false) else if (o == [47]) = true then (wrap32 (a.tdiv b), true) else if (o == [37]) = true then (a.tmod b, true) else (0, false)
def lessL (o : List UInt8) (a b : Int) : Bool × Bool :=
  if (o == [60]) = true then (decide (a < b), true) else if (o == [60, 61]) = true then (decide (a ≤ b), true) else if (o == [61, 61]) = true then (a == b, true) else if (o == [33, 61]) = true then (!(a == b), true) else (false, false)
theorem mul_in {a b : Int} (ha : i32 a) (hb : i32 b) : -4611686018427387904 ≤ a * b ∧ a * b ≤ 4611686018427387904 := by
  obtain ⟨h1, h2⟩ := ha
  obtain ⟨h3, h4⟩ := hb
  have e : (a * b).natAbs ≤ 2147483648 * 2147483648 := by rw [Int.natAbs_mul]; exact Nat.mul_le_mul (by omega) (by omega)
  omega
theorem div_in {a b : Int} (ha : i32 a) (hb : i32 b) : -2147483648 ≤ a.tdiv b ∧ a.tdiv b ≤ 2147483648 := by
  obtain ⟨h1, h2⟩ := ha
  have e : (a.tdiv b).natAbs ≤ 2147483648 := by rw [Int.natAbs_tdiv]; exact Nat.le_trans (Nat.div_le_self _ _) (by omega)
  omega
theorem mod_in {a b : Int} (ha : i32 a) (hb : i32 b) : i32 (a.tmod b) := by
  obtain ⟨h1, h2⟩ := ha
  have e : (a.tmod b).natAbs ≤ a.natAbs := by rw [Int.natAbs_tmod]; exact Nat.mod_le _ _
  have s : 0 ≤ a → 0 ≤ a.tmod b := fun h => Int.tmod_nonneg _ h
  have s2 : 0 ≤ -a → 0 ≤ (-a).tmod b := fun h => Int.tmod_nonneg _ h
  rw [Int.neg_tmod] at s2
  unfold i32
  omega
set_option maxHeartbeats 1000000 in
theorem neg_any (a : Int) (h : i32 a) (w : World) : Calls Try.prog 12 #[.int .i32 a] w fun e w' => e = .returned (.int .i32 (wrap32 (-a))) ∧ w = w' := by
  obtain ⟨h1, h2⟩ := h
  go_enter Try.func12, Try.ntmps12
  go_wp2
  go_ret
  exact ⟨rfl, rfl⟩
set_option maxHeartbeats 1000000 in
theorem rneg_any (a : Int) (h : i32 a) (w : World) : Calls Try.prog 13 #[.int .i32 a] w fun e w' => e = .returned (.int .i32 (wrap32 (-a))) ∧ w = w' := by
  obtain ⟨h1, h2⟩ := h
  have hm := Lib.hid (w32_mod (-a))
  go_enter Try.func13, Try.ntmps13
  go_wp2
  go_ret
  exact ⟨by rw [← hm.out]; rfl, rfl⟩
set_option maxHeartbeats 4000000 in
theorem do_any (o : ByteArray) (a b : Int) (ha : i32 a) (hb : i32 b) (w : World) : Calls Try.prog 8 #[.string o, .int .i32 a, .int .i32 b] w fun e w' => e = .returned (.tuple #[.int .i32 (doL o.toList a b).1, .bool (doL o.toList a b).2]) ∧ w = w' := by
  obtain ⟨r, hr⟩ : ∃ r, doL o.toList a b = r := ⟨_, rfl⟩
  have HR := Lib.hid hr
  rw [hr]
  clear hr
  obtain ⟨h1, h2⟩ := ha
  obtain ⟨h3, h4⟩ := hb
  obtain ⟨q1, t1⟩ : ∃ q, (o.toList == [43]) = q := ⟨_, rfl⟩
  obtain ⟨q2, t2⟩ : ∃ q, (o.toList == [45]) = q := ⟨_, rfl⟩
  obtain ⟨q3, t3⟩ : ∃ q, (o.toList == [42]) = q := ⟨_, rfl⟩
  obtain ⟨q4, t4⟩ : ∃ q, (o.toList == [47]) = q := ⟨_, rfl⟩
  obtain ⟨q5, t5⟩ : ∃ q, (o.toList == [37]) = q := ⟨_, rfl⟩
  have hr := HR.out
  clear HR
  simp only [doL, t1, t2, t3, t4, t5] at hr
  by_cases t0 : b = 0
  · subst t0
    have e1 : wrap32 (a + 0) = a := by rw [w32_eq]; omega
    have e2 : wrap32 (a - 0) = a := by rw [w32_eq]; omega
    have e3 : wrap32 (a * 0) = 0 := by rw [Int.mul_zero, w32_eq]; omega
    rw [e1, e2, e3] at hr
    clear e1 e2 e3
    cases q1 <;> cases q2 <;> cases q3 <;> cases q4 <;> cases q5
    all_goals simp only [if_true, if_false, Bool.false_eq_true] at hr
    all_goals subst hr
    all_goals go_enter Try.func8, Try.ntmps8
    all_goals go_wp2
    all_goals go_ret2
    all_goals exact ⟨rfl, rfl⟩
  · cases q1 <;> cases q2 <;> cases q3 <;> cases q4 <;> cases q5
    all_goals simp only [if_true, if_false, Bool.false_eq_true, t0] at hr
    all_goals subst hr
    all_goals go_enter Try.func8, Try.ntmps8
    all_goals go_wp2
    all_goals go_ret2
    all_goals exact ⟨rfl, rfl⟩
set_option maxHeartbeats 4000000 in
theorem rdo_any (o : ByteArray) (a b : Int) (ha : i32 a) (hb : i32 b) (w : World) : Calls Try.prog 9 #[.string o, .int .i32 a, .int .i32 b] w fun e w' => e = .returned (.tuple #[.int .i32 (doL o.toList a b).1, .bool (doL o.toList a b).2]) ∧ w = w' := by
  obtain ⟨r, hr⟩ : ∃ r, doL o.toList a b = r := ⟨_, rfl⟩
  rw [hr]
  obtain ⟨m1, m2⟩ := mul_in ha hb
  obtain ⟨d1, d2⟩ := div_in ha hb
  have hm := mod_in ha hb
  obtain ⟨h1, h2⟩ := ha
  obtain ⟨h3, h4⟩ := hb
  obtain ⟨q1, t1⟩ : ∃ q, (o.toList == [43]) = q := ⟨_, rfl⟩
  obtain ⟨q2, t2⟩ : ∃ q, (o.toList == [45]) = q := ⟨_, rfl⟩
  obtain ⟨q3, t3⟩ : ∃ q, (o.toList == [42]) = q := ⟨_, rfl⟩
  obtain ⟨q4, t4⟩ : ∃ q, (o.toList == [47]) = q := ⟨_, rfl⟩
  obtain ⟨q5, t5⟩ : ∃ q, (o.toList == [37]) = q := ⟨_, rfl⟩
  simp only [doL, t1, t2, t3, t4, t5] at hr
  rw [← w32_mod (a + b), ← w32_mod (a - b), ← w32_mod (a * b), ← w32_mod (a.tdiv b)] at hr
  have hmm : a.tmod b = wrap32 (a.tmod b % 4294967296) := by rw [w32_mod, w32_eq]; unfold i32 at hm; omega
  obtain ⟨hm1, hm2⟩ := hm
  rw [hmm] at hr
  clear hmm
  by_cases t0 : b = 0
  · have t00 : (b == 0) = true := by rw [beq_iff_eq]; exact t0
    cases q1 <;> cases q2 <;> cases q3 <;> cases q4 <;> cases q5
    all_goals simp only [if_true, if_false, Bool.false_eq_true, t0] at hr
    all_goals have HR := Lib.hid hr
    all_goals clear hr
    all_goals have HT := Lib.hid t0
    all_goals clear t0
    all_goals go_enter Try.func9, Try.ntmps9
    all_goals go_wp2
    all_goals go_ret2
    all_goals exact ⟨by rw [← HR.out]; try rw [← HT.out]
                        try rfl, rfl⟩
  · have t00 : (b == 0) = false := by rw [beq_eq_false_iff_ne]; exact t0
    cases q1 <;> cases q2 <;> cases q3 <;> cases q4 <;> cases q5
    all_goals simp only [if_true, if_false, Bool.false_eq_true, t0] at hr
    all_goals have HR := Lib.hid hr
    all_goals clear hr
    all_goals go_enter Try.func9, Try.ntmps9
    all_goals go_wp2
    all_goals go_ret2
    all_goals exact ⟨by rw [← HR.out]; rfl, rfl⟩
set_option maxHeartbeats 4000000 in
theorem less_any (o : ByteArray) (a b : Int) (w : World) : Calls Try.prog 10 #[.string o, .int .i32 a, .int .i32 b] w fun e w' => e = .returned (.tuple #[.bool (lessL o.toList a b).1, .bool (lessL o.toList a b).2]) ∧ w = w' := by
  obtain ⟨r, hr⟩ : ∃ r, lessL o.toList a b = r := ⟨_, rfl⟩
  rw [hr]
  obtain ⟨q1, t1⟩ : ∃ q, (o.toList == [60]) = q := ⟨_, rfl⟩
  obtain ⟨q2, t2⟩ : ∃ q, (o.toList == [60, 61]) = q := ⟨_, rfl⟩
  obtain ⟨q3, t3⟩ : ∃ q, (o.toList == [61, 61]) = q := ⟨_, rfl⟩
  obtain ⟨q4, t4⟩ : ∃ q, (o.toList == [33, 61]) = q := ⟨_, rfl⟩
  simp only [lessL, t1, t2, t3, t4] at hr
  cases q1 <;> cases q2 <;> cases q3 <;> cases q4
  all_goals simp only [if_true, if_false, Bool.false_eq_true] at hr
  all_goals have HR := Lib.hid hr
  all_goals clear hr
  all_goals go_enter Try.func10, Try.ntmps10
  all_goals go_wp2
  all_goals go_ret2
  all_goals exact ⟨by rw [← HR.out]; rfl, rfl⟩
set_option maxHeartbeats 4000000 in
theorem rless_any (o : ByteArray) (a b : Int) (w : World) : Calls Try.prog 11 #[.string o, .int .i32 a, .int .i32 b] w fun e w' => e = .returned (.tuple #[.bool (lessL o.toList a b).1, .bool (lessL o.toList a b).2]) ∧ w = w' := by
  obtain ⟨r, hr⟩ : ∃ r, lessL o.toList a b = r := ⟨_, rfl⟩
  rw [hr]
  obtain ⟨q1, t1⟩ : ∃ q, (o.toList == [60]) = q := ⟨_, rfl⟩
  obtain ⟨q2, t2⟩ : ∃ q, (o.toList == [60, 61]) = q := ⟨_, rfl⟩
  obtain ⟨q3, t3⟩ : ∃ q, (o.toList == [61, 61]) = q := ⟨_, rfl⟩
  obtain ⟨q4, t4⟩ : ∃ q, (o.toList == [33, 61]) = q := ⟨_, rfl⟩
  simp only [lessL, t1, t2, t3, t4] at hr
  cases q1 <;> cases q2 <;> cases q3 <;> cases q4
  all_goals simp only [if_true, if_false, Bool.false_eq_true] at hr
  all_goals have HR := Lib.hid hr
  all_goals clear hr
  all_goals go_enter Try.func11, Try.ntmps11
  all_goals go_wp2
  all_goals go_ret2
  all_goals exact ⟨by rw [← HR.out]; rfl, rfl⟩
end Go.Proofs.Ytggabclclghmbaa
