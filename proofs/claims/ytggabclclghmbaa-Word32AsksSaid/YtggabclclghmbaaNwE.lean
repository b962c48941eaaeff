/- Statements of layer 13: told, Word32Wraps, Word32Laws as walks. -/
import Derived.Test.YtggabclclghmbaaNwD
set_option linter.unusedSimpArgs false
set_option linter.unusedVariables false
namespace Go.Proofs.Ytggabclclghmbaa
open Go.RowKit

def DoS (o : ByteArray) (a b x : Int) (q : Bool) : Prop := Hid (∀ W, Calls Try.prog 8 #[.string o, .int .i32 a, .int .i32 b] W fun e w' => e = .returned (.tuple #[.int .i32 x, .bool q]) ∧ W = w')
theorem doS {o : ByteArray} {a b x : Int} {q : Bool} (ha : i32 a) (hb : i32 b) (h : doL o.data.toList a b = (x, q)) : DoS o a b x q :=
  Lib.hid fun W => by have := do_any o a b ha hb W; rw [ByteArray.toList_eq, h] at this; exact this
def LessS (o : ByteArray) (a b : Int) (x q : Bool) : Prop := Hid (∀ W, Calls Try.prog 10 #[.string o, .int .i32 a, .int .i32 b] W fun e w' => e = .returned (.tuple #[.bool x, .bool q]) ∧ W = w')
theorem lessS {o : ByteArray} {a b : Int} {x q : Bool} (h : lessL o.data.toList a b = (x, q)) : LessS o a b x q :=
  Lib.hid fun W => by have := less_any o a b W; rw [ByteArray.toList_eq, h] at this; exact this
def NegS (a x : Int) : Prop := Hid (∀ W, Calls Try.prog 12 #[.int .i32 a] W fun e w' => e = .returned (.int .i32 x) ∧ W = w')
theorem negS {a x : Int} (ha : i32 a) (h : wrap32 (-a) = x) : NegS a x := Lib.hid fun W => by have := neg_any a ha W; rw [h] at this; exact this
def TextS (a : Int) (s : ByteArray) : Prop := Hid (∀ W, Calls Try.prog 14 #[.int .i32 a] W fun e w' => e = .returned (.string s) ∧ Below W.heap.size W w')
theorem textS {a : Int} {s : ByteArray} (ha : i32 a) (h : decT a = s) : TextS a s := Lib.hid fun W => by have := text_any a ha W; rw [h] at this; exact this
theorem dec_is {a : Int} {l : List UInt8} (h : (decT a).data.toList = l) : decT a = ⟨l.toArray⟩ := by rw [← h]
set_option maxRecDepth 100000 in
set_option maxHeartbeats 4000000 in
theorem told_any (w : World) : Calls Try.prog 7 #[] w fun e w' => e = .returned (.bool true) ∧ Below w.heap.size w w' := by
  have d1 : DoS ⟨#[43]⟩ 2147483647 1 (-2147483648) true := doS ⟨by decide, by decide⟩ ⟨by decide, by decide⟩ (by decide +kernel)
  have d2 : DoS ⟨#[47]⟩ (-2147483648) (-1) (-2147483648) true := doS ⟨by decide, by decide⟩ ⟨by decide, by decide⟩ (by decide +kernel)
  have d3 : DoS ⟨#[47]⟩ 1 0 0 false := doS ⟨by decide, by decide⟩ ⟨by decide, by decide⟩ (by decide +kernel)
  have d4 : DoS ⟨#[37]⟩ (-7) 3 (-1) true := doS ⟨by decide, by decide⟩ ⟨by decide, by decide⟩ (by decide +kernel)
  have l1 : LessS ⟨#[60, 61]⟩ 2 2 true true := lessS (by decide +kernel)
  have l2 : LessS ⟨#[43]⟩ 2 2 false false := lessS (by decide +kernel)
  have n1 : NegS (-2147483648) (-2147483648) := negS ⟨by decide, by decide⟩ (by decide +kernel)
  have t1 : TextS (-7) ⟨#[45, 55]⟩ := textS ⟨by decide, by decide⟩ (dec_is (by decide +kernel))
  have t2 : TextS 0 ⟨#[48]⟩ := textS ⟨by decide, by decide⟩ (dec_is (by decide +kernel))
  have t3 : TextS (-2147483648) ⟨#[45, 50, 49, 52, 55, 52, 56, 51, 54, 52, 56]⟩ := textS ⟨by decide, by decide⟩ (dec_is (by decide +kernel))
  have hc : Below w.heap.size w w := Below.refl _ _
  go_enter Try.func7, Try.ntmps7
  go_wp2_with fail
  refine (d1.out _).mono ?_
  rintro e w1 ⟨rfl, rfl⟩
  go_wp2_with fail
  refine (d2.out _).mono ?_
  rintro e w1 ⟨rfl, rfl⟩
  go_wp2_with fail
  refine (d3.out _).mono ?_
  rintro e w1 ⟨rfl, rfl⟩
  go_wp2_with fail
  refine (d4.out _).mono ?_
  rintro e w1 ⟨rfl, rfl⟩
  go_wp2_with fail
  refine (l1.out _).mono ?_
  rintro e w1 ⟨rfl, rfl⟩
  go_wp2_with fail
  refine (l2.out _).mono ?_
  rintro e w1 ⟨rfl, rfl⟩
  go_wp2_with fail
  refine (n1.out _).mono ?_
  rintro e w1 ⟨rfl, rfl⟩
  go_wp2_with fail
  refine (t1.out _).mono ?_
  rintro e w1 ⟨rfl, hb⟩
  replace hc := hc.trans (hb.mono hc.size); clear hb
  go_wp2_with fail
  refine (t2.out _).mono ?_
  rintro e w1 ⟨rfl, hb⟩
  replace hc := hc.trans (hb.mono hc.size); clear hb
  go_wp2_with fail
  refine (t3.out _).mono ?_
  rintro e w1 ⟨rfl, hb⟩
  replace hc := hc.trans (hb.mono hc.size); clear hb
  go_wp2_with fail
  go_ret
  exact ⟨rfl, hc⟩
end Go.Proofs.Ytggabclclghmbaa
