/- Statements of layer 13: Word32Asks as a walk. -/
import Derived.Test.YtggabclclghmbaaNwF
set_option linter.unusedSimpArgs false
set_option linter.unusedVariables false
namespace Go.Proofs.Ytggabclclghmbaa
open Go.RowKit

theorem whichN (a : Int) (m : Nat) (hm : 0 < m) (hm2 : m < 9223372036854775808) : ∃ (x : Int) (i : Nat), IntKind.u64.wrap a = x ∧ x.tmod m = (i : Int) ∧ i < m ∧ IntKind.u64.wrap (i : Int) = i ∧ IntKind.i64.wrap (i : Int) = i ∧ IntKind.u64.wrap (m : Int) = m := by
  have h0 : 0 ≤ IntKind.u64.wrap a := by rw [IntKind.wrap_u64]; omega
  refine ⟨IntKind.u64.wrap a, (IntKind.u64.wrap a).toNat % m, rfl, ?_, Nat.mod_lt _ hm, ?_, ?_, ?_⟩
  · rw [Int.tmod_eq_emod_of_nonneg h0, Int.natCast_emod, Int.toNat_of_nonneg h0]
  · have := Nat.mod_lt (IntKind.u64.wrap a).toNat hm; rw [IntKind.wrap_u64]; omega
  · have := Nat.mod_lt (IntKind.u64.wrap a).toNat hm; rw [IntKind.wrap_i64]; omega
  · rw [IntKind.wrap_u64]; omega
theorem cells_litN (w : World) (T : TypeId) (vs : Array Value) (ss : List ByteArray) (h : vs = (ss.map Value.string).toArray) : ∀ k : Nat, k < ss.length → (w.alloc (.cells vs T)).cell? ⟨w.heap.size, 0 + k, none⟩ = some (.string (ss.getD k ByteArray.empty)) := by
  intro k hk
  subst h
  have e : ss.getD k ByteArray.empty = ss[k] := by simp [List.getD, hk]
  rw [e]
  rw [World.cell?_alloc_new]
  simp [hk]
def RDoS (o : ByteArray) (a b x : Int) (q : Bool) : Prop := Hid (∀ W, Calls Try.prog 9 #[.string o, .int .i32 a, .int .i32 b] W fun e w' => e = .returned (.tuple #[.int .i32 x, .bool q]) ∧ W = w')
def RLessS (o : ByteArray) (a b : Int) (x q : Bool) : Prop := Hid (∀ W, Calls Try.prog 11 #[.string o, .int .i32 a, .int .i32 b] W fun e w' => e = .returned (.tuple #[.bool x, .bool q]) ∧ W = w')
def RNegS (a x : Int) : Prop := Hid (∀ W, Calls Try.prog 13 #[.int .i32 a] W fun e w' => e = .returned (.int .i32 x) ∧ W = w')
def RTextS (a : Int) (s : ByteArray) : Prop := Hid (∀ W, Calls Try.prog 15 #[.int .i32 a] W fun e w' => e = .returned (.string s) ∧ Below W.heap.size W w')
set_option maxRecDepth 100000 in
set_option maxHeartbeats 4000000 in
theorem asks_any (a b : Int) (op : ByteArray) (wh : Int) (hA : (Lit.int .i32 a).wf = true) (hB : (Lit.int .i32 b).wf = true) (hop : op.size ≤ maxLen) (hwh : (Lit.int .i64 wh).wf = true) (w : World) :
    Calls Try.prog 3 #[.int .i32 a, .int .i32 b, .string op, .int .i64 wh] w fun e w' => e = .returned (.bool true) ∧ Below w.heap.size w w' := by
  have ha := i32_of hA
  have hb := i32_of hB
  clear hA hB hwh
  have hc : Below w.heap.size w w := Below.refl _ _
  by_cases h20 : 20 < op.size
  · have h20' : (20 : Int) < op.size := by omega
    go_enter Try.func3, Try.ntmps3
    go_wp2_with fail
    refine (told_any _).mono ?_
    rintro e w1 ⟨rfl, hb1⟩
    go_wp2_with fail
    go_ret
    exact ⟨rfl, hb1⟩
  · have h20' : ¬ (20 : Int) < op.size := by omega
    obtain ⟨x, i, a1, a2, a3, a4, a5, a6⟩ := whichN wh 10 (by omega) (by omega)
    have e10 : ((10 : Nat) : Int) = 10 := rfl
    rw [e10] at a2 a6
    clear e10
    have c1 := cells_litN w 9 #[.string ⟨#[43]⟩, .string ⟨#[45]⟩, .string ⟨#[42]⟩, .string ⟨#[47]⟩, .string ⟨#[37]⟩, .string ⟨#[60]⟩, .string ⟨#[60, 61]⟩, .string ⟨#[61, 61]⟩, .string ⟨#[33, 61]⟩, .string op] [⟨#[43]⟩, ⟨#[45]⟩, ⟨#[42]⟩, ⟨#[47]⟩, ⟨#[37]⟩, ⟨#[60]⟩, ⟨#[60, 61]⟩, ⟨#[61, 61]⟩, ⟨#[33, 61]⟩, op] rfl i a3
    rw [Nat.zero_add] at c1
    obtain ⟨o, ho⟩ : ∃ o, List.getD (α := ByteArray) [⟨#[43]⟩, ⟨#[45]⟩, ⟨#[42]⟩, ⟨#[47]⟩, ⟨#[37]⟩, ⟨#[60]⟩, ⟨#[60, 61]⟩, ⟨#[61, 61]⟩, ⟨#[33, 61]⟩, op] i ByteArray.empty = o := ⟨_, rfl⟩
    rw [ho] at c1
    clear ho
    obtain ⟨x1, q1, d1, d2⟩ : ∃ x q, DoS o a b x q ∧ RDoS o a b x q := ⟨_, _, Lib.hid fun W => do_any o a b ha hb W, Lib.hid fun W => rdo_any o a b ha hb W⟩
    obtain ⟨y1, z1, l1, l2⟩ : ∃ x q, LessS o a b x q ∧ RLessS o a b x q := ⟨_, _, Lib.hid fun W => less_any o a b W, Lib.hid fun W => rless_any o a b W⟩
    obtain ⟨g, n1, n2⟩ : ∃ x, NegS a x ∧ RNegS a x := ⟨_, Lib.hid fun W => neg_any a ha W, Lib.hid fun W => rneg_any a ha W⟩
    obtain ⟨s, t1, t2⟩ : ∃ x, TextS a x ∧ RTextS a x := ⟨_, Lib.hid fun W => text_any a ha W, Lib.hid fun W => rdigits_any a ha W⟩
    have hB0 : Below w.heap.size w (w.alloc (.cells #[.string ⟨#[43]⟩, .string ⟨#[45]⟩, .string ⟨#[42]⟩, .string ⟨#[47]⟩, .string ⟨#[37]⟩, .string ⟨#[60]⟩, .string ⟨#[60, 61]⟩, .string ⟨#[61, 61]⟩, .string ⟨#[33, 61]⟩, .string op] 9)) := hc.alloc hc.size _
    have HB := Lib.hid hB0
    clear hB0 hc hop h20 ha hb
    go_enter Try.func3, Try.ntmps3
    go_wp2_with fail
    have hc := HB.out; clear HB
    generalize w.alloc (.cells #[.string ⟨#[43]⟩, .string ⟨#[45]⟩, .string ⟨#[42]⟩, .string ⟨#[47]⟩, .string ⟨#[37]⟩, .string ⟨#[60]⟩, .string ⟨#[60, 61]⟩, .string ⟨#[61, 61]⟩, .string ⟨#[33, 61]⟩, .string op] 9) = W at hc ⊢
    clear c1 a1 a2 a4 a5 a6
    go_wp2_with fail
    refine (d1.out _).mono ?_
    rintro e w1 ⟨rfl, rfl⟩
    go_wp2_with fail
    refine (d2.out _).mono ?_
    rintro e w1 ⟨rfl, rfl⟩
    go_wp2_with fail
    refine (l1.out _).mono ?_
    rintro e w1 ⟨rfl, rfl⟩
    go_wp2_with fail
    refine (l2.out _).mono ?_
    rintro e w1 ⟨rfl, rfl⟩
    go_wp2_with fail
    refine (told_any _).mono ?_
    rintro e w1 ⟨rfl, hb1⟩
    replace hc := hc.trans (hb1.mono hc.size); clear hb1
    go_wp2_with fail
    refine (n1.out _).mono ?_
    rintro e w2 ⟨rfl, rfl⟩
    go_wp2_with fail
    refine (n2.out _).mono ?_
    rintro e w2 ⟨rfl, rfl⟩
    go_wp2_with fail
    refine (t1.out _).mono ?_
    rintro e w2 ⟨rfl, hb1⟩
    replace hc := hc.trans (hb1.mono hc.size); clear hb1
    go_wp2_with fail
    refine (t2.out _).mono ?_
    rintro e w2 ⟨rfl, hb1⟩
    replace hc := hc.trans (hb1.mono hc.size); clear hb1
    go_wp2_with fail
    go_ret
    exact ⟨rfl, hc⟩
end Go.Proofs.Ytggabclclghmbaa
