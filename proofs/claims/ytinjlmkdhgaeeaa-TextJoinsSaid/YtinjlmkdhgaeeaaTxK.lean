/- Statements of layer 14: TextAsks as a walk. -/
import Derived.Test.YtinjlmkdhgaeeaaTxS
import Derived.Laws.StructEq
import Derived.Deep.RegionHeld3
set_option linter.unusedSimpArgs false
set_option linter.unusedVariables false
namespace Go.Proofs.Ytinjlmkdhgaeeaa
open Go.RowKit

@[go_sem] theorem eq_val (k n : Int) (s : ByteArray) (w : World) : (binOp .eql 23 (.agg #[.int .i64 k, .int .i32 n, .string s]) (.agg #[.int .i64 k, .int .i32 n, .string s])).run Try.prog w = .ok (.bool true) w := by
  have hf : (Try.prog.fieldsOf 23).toList = [{ name := "Kind", type := 3, offset := 0, embedded := false, tag := "", pkgPath := "", byteOffset := 0 }, { name := "N", type := 21, offset := 1, embedded := false, tag := "", pkgPath := "", byteOffset := 8 }, { name := "S", type := 9, offset := 2, embedded := false, tag := "", pkgPath := "", byteOffset := 16 }] := by kernel_rfl
  rw [run_eql_struct, run_equalIn_agg (P := Try.prog) w 9999 23 _ _ (by kernel_rfl) (by kernel_rfl), hf]
  simp [Op.eqFields, go_sem, part, Try.underlying3, Try.underlying21, Try.underlying9]
theorem joinT_form (u : ByteArray) : ∃ (xk : Int) (xs : ByteArray) (q : Bool), joinT u = .tuple #[.agg #[.int .i64 xk, .int .i32 0, .string xs], .bool q] := by
  unfold joinT
  split
  · exact ⟨0, ⟨#[]⟩, false, rfl⟩
  · exact ⟨3, u, true, rfl⟩
set_option maxRecDepth 100000 in
set_option maxHeartbeats 4000000 in
theorem tasks_any (C : TextC) (k1 n1 : Int) (s1 : ByteArray) (k2 n2 : Int) (s2 : ByteArray) (k : Int) (h1 : i32 n1) (h2 : i32 n2) (hk : i32 k) (w : World) : Calls Try.prog 3 #[.agg #[.int .i64 k1, .int .i32 n1, .string s1], .agg #[.int .i64 k2, .int .i32 n2, .string s2], .int .i32 k] w fun e w' => e = .returned (.bool true) ∧ Below w.heap.size w w' := by
  obtain ⟨W1, hW1⟩ : ∃ W1, (w.alloc (.cells #[.int .i64 k1, .int .i32 n1, .string s1] 23)).alloc (.cells #[.int .i64 k2, .int .i32 n2, .string s2] 23) = W1 := ⟨_, rfl⟩
  have hc : Below w.heap.size w W1 := by rw [← hW1]; exact ((Below.refl _ _).alloc (Nat.le_refl _) _).alloc (by simp) _
  have HW1 := Lib.hid hW1
  clear hW1
  by_cases ha : 1200 < s1.size
  · have i1 : (1200 : Int) < s1.size := by omega
    go_enter Try.func3, Try.ntmps3
    go_wp2_with fail
    rw [HW1.out]
    refine (C.told _).mono ?_
    rintro e w1 ⟨rfl, hb1⟩
    replace hc := hc.trans (hb1.mono hc.size); clear hb1
    go_wp2_with fail
    go_ret
    exact ⟨rfl, hc⟩
  have i1 : ¬ (1200 : Int) < s1.size := by omega
  by_cases hb : 1200 < s2.size
  · have i2 : (1200 : Int) < s2.size := by omega
    clear ha
    go_enter Try.func3, Try.ntmps3
    go_wp2_with fail
    rw [HW1.out]
    refine (C.told _).mono ?_
    rintro e w1 ⟨rfl, hb1⟩
    replace hc := hc.trans (hb1.mono hc.size); clear hb1
    go_wp2_with fail
    go_ret
    exact ⟨rfl, hc⟩
  have i2 : ¬ (1200 : Int) < s2.size := by omega
  have X1 : Bx W1 w.heap.size #[.int .i64 k1, .int .i32 n1, .string s1] 23 := by
    rw [← HW1.out]; exact (Bx.new w _ _).next ((Below.refl _ _).alloc (by simp) _)
  have X2 : Bx W1 (w.heap.size + 1) #[.int .i64 k2, .int .i32 n2, .string s2] 23 := by
    rw [← HW1.out]
    have := Bx.new (w.alloc (.cells #[.int .i64 k1, .int .i32 n1, .string s1] 23)) #[.int .i64 k2, .int .i32 n2, .string s2] 23
    simpa using this
  have HX1 := Lib.hid X1
  have HX2 := Lib.hid X2
  have hz1 : s1.size ≤ 1048576 := by omega
  have hz2 : s2.size ≤ 1048576 := by omega
  obtain ⟨xk, xs, q, hj⟩ := joinT_form (ofT k1 n1 s1 ++ ofT k2 n2 s2)
  have J1 : Hid (∀ W, Calls Try.prog 8 #[.agg #[.int .i64 k1, .int .i32 n1, .string s1], .agg #[.int .i64 k2, .int .i32 n2, .string s2]] W fun e w' => e = .returned (.tuple #[.agg #[.int .i64 xk, .int .i32 0, .string xs], .bool q]) ∧ Below W.heap.size W w') := Lib.hid fun W => by have := C.join k1 n1 s1 k2 n2 s2 h1 h2 hz1 hz2 W; rw [hj] at this; exact this
  have J2 : Hid (∀ W, Calls Try.prog 9 #[.agg #[.int .i64 k1, .int .i32 n1, .string s1], .agg #[.int .i64 k2, .int .i32 n2, .string s2]] W fun e w' => e = .returned (.tuple #[.agg #[.int .i64 xk, .int .i32 0, .string xs], .bool q]) ∧ Below W.heap.size W w') := Lib.hid fun W => by have := rjoin_any k1 n1 s1 k2 n2 s2 h1 h2 hz1 hz2 W; rw [hj] at this; exact this
  obtain ⟨t, r, hat⟩ : ∃ t r, atT s1 k = (t, r) := ⟨_, _, rfl⟩
  have AA1 : Hid (∀ W, Calls Try.prog 10 #[.string s1, .int .i32 k] W fun e w' => e = .returned (.tuple #[.string t, .bool r]) ∧ Below W.heap.size W w') := Lib.hid fun W => by have := C.at_ s1 (by omega) k hk W; rw [hat] at this; exact this
  have AA2 : Hid (∀ W, Calls Try.prog 11 #[.string s1, .int .i32 k] W fun e w' => e = .returned (.tuple #[.string t, .bool r]) ∧ Below W.heap.size W w') := Lib.hid fun W => by have := rat_any s1 (by omega) k hk W; rw [hat] at this; exact this
  obtain ⟨o, ho⟩ : ∃ o, ofT k1 n1 s1 = o := ⟨_, rfl⟩
  have O1 : Hid (∀ W, Calls Try.prog 12 #[.agg #[.int .i64 k1, .int .i32 n1, .string s1]] W fun e w' => e = .returned (.string o) ∧ Below W.heap.size W w') := Lib.hid fun W => by have := C.of k1 n1 s1 h1 hz1 W; rw [ho] at this; exact this
  have O2 : Hid (∀ W, Calls Try.prog 13 #[.agg #[.int .i64 k1, .int .i32 n1, .string s1]] W fun e w' => e = .returned (.string o) ∧ Below W.heap.size W w') := Lib.hid fun W => by have := rof_any k1 n1 s1 h1 W; rw [ho] at this; exact this
  obtain ⟨n, hn⟩ : ∃ n, lenT s1 = n := ⟨_, rfl⟩
  have L1 : Hid (∀ W, Calls Try.prog 14 #[.string s1] W fun e w' => e = .returned (.int .i32 n) ∧ Below W.heap.size W w') := Lib.hid fun W => by rw [← hn]; exact C.len s1 (by omega) W
  have L2 : Hid (∀ W, Calls Try.prog 15 #[.string s1] W fun e w' => e = .returned (.int .i32 n) ∧ Below W.heap.size W w') := Lib.hid fun W => by rw [← hn]; exact rlen_any s1 (by omega) W
  obtain ⟨z, hz⟩ : ∃ z, sameT k1 n1 s1 k2 n2 s2 = z := ⟨_, rfl⟩
  have M1 : Hid (∀ W, Calls Try.prog 16 #[.agg #[.int .i64 k1, .int .i32 n1, .string s1], .agg #[.int .i64 k2, .int .i32 n2, .string s2]] W fun e w' => e = .returned (.bool z) ∧ Below W.heap.size W w') := Lib.hid fun W => by rw [← hz]; exact C.same k1 n1 s1 k2 n2 s2 W
  have M2 : Hid (∀ W, Calls Try.prog 17 #[.agg #[.int .i64 k1, .int .i32 n1, .string s1], .agg #[.int .i64 k2, .int .i32 n2, .string s2]] W fun e w' => e = .returned (.bool z) ∧ Below W.heap.size W w') := Lib.hid fun W => by rw [← hz]; exact rsame_any k1 n1 s1 k2 n2 s2 W
  have HT : Hid (∀ W, Calls Try.prog 7 #[] W fun e w' => e = .returned (.bool true) ∧ Below W.heap.size W w') := Lib.hid C.told
  clear X1 X2 hz1 hz2 hj hat ho hn hz ha hb h1 h2 hk C
  go_enter Try.func3, Try.ntmps3
  go_wp2_with fail
  rw [HW1.out]
  clear HW1
  refine (J1.out _).mono ?_
  rintro e w5 ⟨rfl, hb1⟩
  replace HX1 := Lib.hid (HX1.out.next hb1)
  replace HX2 := Lib.hid (HX2.out.next hb1)
  replace hc := hc.trans (hb1.mono hc.size); clear hb1
  have AL : Below w5.heap.size w5 (w5.alloc (.cells #[.int .i64 xk, .int .i32 0, .string xs] 23)) := (Below.refl _ _).alloc (Nat.le_refl _) _
  replace HX1 := Lib.hid (HX1.out.next AL)
  replace HX2 := Lib.hid (HX2.out.next AL)
  have HX3 := Lib.hid (Bx.new w5 #[.int .i64 xk, .int .i32 0, .string xs] 23)
  replace hc := hc.trans (AL.mono hc.size)
  clear AL
  obtain ⟨e00, e01, e02⟩ := HX1.out.three
  obtain ⟨e10, e11, e12⟩ := HX2.out.three
  go_wp2_with fail
  clear e00 e01 e02 e10 e11 e12
  refine (J2.out _).mono ?_
  rintro e w6 ⟨rfl, hb1⟩
  replace HX1 := Lib.hid (HX1.out.next hb1)
  replace HX2 := Lib.hid (HX2.out.next hb1)
  replace HX3 := Lib.hid (HX3.out.next hb1)
  replace hc := hc.trans (hb1.mono hc.size); clear hb1
  have AL : Below w6.heap.size w6 (w6.alloc (.cells #[.int .i64 xk, .int .i32 0, .string xs] 23)) := (Below.refl _ _).alloc (Nat.le_refl _) _
  replace HX1 := Lib.hid (HX1.out.next AL)
  replace HX2 := Lib.hid (HX2.out.next AL)
  replace HX3 := Lib.hid (HX3.out.next AL)
  have HX4 := Lib.hid (Bx.new w6 #[.int .i64 xk, .int .i32 0, .string xs] 23)
  replace hc := hc.trans (AL.mono hc.size)
  clear AL
  obtain ⟨e00, e01, e02⟩ := HX1.out.three
  go_wp2_with fail
  clear e00 e01 e02
  refine (AA1.out _).mono ?_
  rintro e w7 ⟨rfl, hb1⟩
  replace HX1 := Lib.hid (HX1.out.next hb1)
  replace HX2 := Lib.hid (HX2.out.next hb1)
  replace HX3 := Lib.hid (HX3.out.next hb1)
  replace HX4 := Lib.hid (HX4.out.next hb1)
  replace hc := hc.trans (hb1.mono hc.size); clear hb1
  obtain ⟨e00, e01, e02⟩ := HX1.out.three
  go_wp2_with fail
  clear e00 e01 e02
  refine (AA2.out _).mono ?_
  rintro e w8 ⟨rfl, hb1⟩
  replace HX1 := Lib.hid (HX1.out.next hb1)
  replace HX2 := Lib.hid (HX2.out.next hb1)
  replace HX3 := Lib.hid (HX3.out.next hb1)
  replace HX4 := Lib.hid (HX4.out.next hb1)
  replace hc := hc.trans (hb1.mono hc.size); clear hb1
  have HC : Hid (∀ w', Below w8.heap.size w8 w' → w'.cell? ⟨w.heap.size, 0, none⟩ = some (.int .i64 k1) ∧ w'.cell? ⟨w.heap.size, 1, none⟩ = some (.int .i32 n1) ∧ w'.cell? ⟨w.heap.size, 2, none⟩ = some (.string s1) ∧ w'.cell? ⟨w.heap.size + 1, 0, none⟩ = some (.int .i64 k2) ∧ w'.cell? ⟨w.heap.size + 1, 1, none⟩ = some (.int .i32 n2) ∧ w'.cell? ⟨w.heap.size + 1, 2, none⟩ = some (.string s2) ∧ w'.cell? ⟨w5.heap.size, 0, none⟩ = some (.int .i64 xk) ∧ w'.cell? ⟨w5.heap.size, 1, none⟩ = some (.int .i32 0) ∧ w'.cell? ⟨w5.heap.size, 2, none⟩ = some (.string xs) ∧ w'.cell? ⟨w6.heap.size, 0, none⟩ = some (.int .i64 xk) ∧ w'.cell? ⟨w6.heap.size, 1, none⟩ = some (.int .i32 0) ∧ w'.cell? ⟨w6.heap.size, 2, none⟩ = some (.string xs)) := Lib.hid fun w' hb => ⟨(HX1.out.next hb).cell 0, (HX1.out.next hb).cell 1, (HX1.out.next hb).cell 2, (HX2.out.next hb).cell 0, (HX2.out.next hb).cell 1, (HX2.out.next hb).cell 2, (HX3.out.next hb).cell 0, (HX3.out.next hb).cell 1, (HX3.out.next hb).cell 2, (HX4.out.next hb).cell 0, (HX4.out.next hb).cell 1, (HX4.out.next hb).cell 2⟩
  have hb0 : Below w8.heap.size w8 w8.drew := (Below.refl _ _).drew
  clear HX1 HX2 HX3 HX4
  go_upto_region 7 with (fail)
  go_region_held3 (fun w' => w'.cell? ⟨w.heap.size, 0, none⟩ = some (.int .i64 k1) ∧ w'.cell? ⟨w.heap.size, 1, none⟩ = some (.int .i32 n1) ∧ w'.cell? ⟨w.heap.size, 2, none⟩ = some (.string s1) ∧ w'.cell? ⟨w.heap.size + 1, 0, none⟩ = some (.int .i64 k2) ∧ w'.cell? ⟨w.heap.size + 1, 1, none⟩ = some (.int .i32 n2) ∧ w'.cell? ⟨w.heap.size + 1, 2, none⟩ = some (.string s2) ∧ w'.cell? ⟨w5.heap.size, 0, none⟩ = some (.int .i64 xk) ∧ w'.cell? ⟨w5.heap.size, 1, none⟩ = some (.int .i32 0) ∧ w'.cell? ⟨w5.heap.size, 2, none⟩ = some (.string xs) ∧ w'.cell? ⟨w6.heap.size, 0, none⟩ = some (.int .i64 xk) ∧ w'.cell? ⟨w6.heap.size, 1, none⟩ = some (.int .i32 0) ∧ w'.cell? ⟨w6.heap.size, 2, none⟩ = some (.string xs))
    (first | with_reducible exact HC.out _ hb0)
    ((first
      | (go_at_call 7; refine (HT.out _).mono ?_; rintro e w9 ⟨rfl, hb⟩; replace hb0 := hb0.trans (hb.mono hb0.size); clear hb)
      | (go_at_call 12; refine (O1.out _).mono ?_; rintro e w9 ⟨rfl, hb⟩; replace hb0 := hb0.trans (hb.mono hb0.size); clear hb)
      | (go_at_call 13; refine (O2.out _).mono ?_; rintro e w9 ⟨rfl, hb⟩; replace hb0 := hb0.trans (hb.mono hb0.size); clear hb)
      | (go_at_call 14; refine (L1.out _).mono ?_; rintro e w9 ⟨rfl, hb⟩; replace hb0 := hb0.trans (hb.mono hb0.size); clear hb)
      | (go_at_call 15; refine (L2.out _).mono ?_; rintro e w9 ⟨rfl, hb⟩; replace hb0 := hb0.trans (hb.mono hb0.size); clear hb)
      | (go_at_call 16; refine (M1.out _).mono ?_; rintro e w9 ⟨rfl, hb⟩; replace hb0 := hb0.trans (hb.mono hb0.size); clear hb)
      | (go_at_call 17; refine (M2.out _).mono ?_; rintro e w9 ⟨rfl, hb⟩; replace hb0 := hb0.trans (hb.mono hb0.size); clear hb)))
  all_goals
    go_wp2_with fail
    go_ret
    exact ⟨rfl, hc.trans (hb0.mono hc.size)⟩
end Go.Proofs.Ytinjlmkdhgaeeaa
