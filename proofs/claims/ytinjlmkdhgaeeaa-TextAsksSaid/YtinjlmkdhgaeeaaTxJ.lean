/- Statements of layer 14: TextJoins as a walk. -/
import Derived.Test.YtinjlmkdhgaeeaaTxQ
set_option linter.unusedSimpArgs false
set_option linter.unusedVariables false
namespace Go.Proofs.Ytinjlmkdhgaeeaa
open Go.RowKit

def JoinS (a b : ByteArray) (t : ByteArray) : Prop := Hid (∀ W, Calls Try.prog 8 #[.agg #[.int .i64 3, .int .i32 0, .string a], .agg #[.int .i64 3, .int .i32 0, .string b]] W fun e w' => e = .returned (.tuple #[.agg #[.int .i64 3, .int .i32 0, .string t], .bool true]) ∧ Below W.heap.size W w')
theorem joinS (C : TextC) {a b t : ByteArray} (ha : a.size ≤ 1048576) (hb : b.size ≤ 1048576) (hz : (a ++ b).size ≤ 1000) (h : a ++ b = t) : JoinS a b t := Lib.hid fun W => by
  have := C.join 3 0 a 3 0 b ⟨by decide, by decide⟩ ⟨by decide, by decide⟩ ha hb W
  have e : joinT (ofT 3 0 a ++ ofT 3 0 b) = .tuple #[.agg #[.int .i64 3, .int .i32 0, .string t], .bool true] := by
    rw [show ofT 3 0 a = a from rfl, show ofT 3 0 b = b from rfl, h, joinT, if_neg (by rw [← h]; omega)]; rfl
  rw [e] at this
  exact this
def SameS (a b : ByteArray) (q : Bool) : Prop := Hid (∀ W, Calls Try.prog 16 #[.agg #[.int .i64 3, .int .i32 0, .string a], .agg #[.int .i64 3, .int .i32 0, .string b]] W fun e w' => e = .returned (.bool q) ∧ Below W.heap.size W w')
theorem sameS (C : TextC) {a b : ByteArray} {q : Bool} (h : (a.toList == b.toList) = q) : SameS a b q := Lib.hid fun W => by
  have := C.same 3 0 a 3 0 b W
  rw [show sameT 3 0 a 3 0 b = (a.toList == b.toList) from rfl, h] at this
  exact this
set_option maxRecDepth 100000 in
set_option maxHeartbeats 4000000 in
theorem joins_any (C : TextC) (a b c : ByteArray) (hza : a.size ≤ maxLen) (hzb : b.size ≤ maxLen) (hzc : c.size ≤ maxLen) (w : World) : Calls Try.prog 5 #[.string a, .string b, .string c] w fun e w' => e = .returned (.bool true) ∧ Below w.heap.size w w' := by
  have hc : Below w.heap.size w w := Below.refl _ _
  clear hza hzb hzc
  by_cases ha60 : 300 < a.size
  · have i1 : (300 : Int) < a.size := by omega
    go_enter Try.func5, Try.ntmps5
    go_wp2_with fail
    refine (C.told _).mono ?_
    rintro e w1 ⟨rfl, hb1⟩
    replace hc := hc.trans (hb1.mono hc.size); clear hb1
    go_wp2_with fail
    go_ret
    exact ⟨rfl, hc⟩
  have i1 : ¬ (300 : Int) < a.size := by omega
  by_cases hb60 : 300 < b.size
  · have i2 : (300 : Int) < b.size := by omega
    clear ha60 hb60
    go_enter Try.func5, Try.ntmps5
    go_wp2_with fail
    refine (C.told _).mono ?_
    rintro e w1 ⟨rfl, hb1⟩
    replace hc := hc.trans (hb1.mono hc.size); clear hb1
    go_wp2_with fail
    go_ret
    exact ⟨rfl, hc⟩
  have i2 : ¬ (300 : Int) < b.size := by omega
  by_cases hc60 : 300 < c.size
  · have i5 : (300 : Int) < c.size := by omega
    clear ha60 hb60 hc60
    go_enter Try.func5, Try.ntmps5
    go_wp2_with fail
    refine (C.told _).mono ?_
    rintro e w1 ⟨rfl, hb1⟩
    replace hc := hc.trans (hb1.mono hc.size); clear hb1
    go_wp2_with fail
    go_ret
    exact ⟨rfl, hc⟩
  have i5 : ¬ (300 : Int) < c.size := by omega
  have s1 : a.size ≤ 16777216 := by omega
  have s2 : b.size ≤ 16777216 := by omega
  have s3 : c.size ≤ 16777216 := by omega
  have b1 : BadS a (bad a) := badS s1 rfl
  have b2 : BadS b (bad b) := badS s2 rfl
  have b3 : BadS c (bad c) := badS s3 rfl
  by_cases hba : bad a < 0
  rotate_left
  · have i3 : (0 : Int) ≤ bad a := by omega
    generalize bad a = x at *
    clear s1 s2 s3 ha60 hb60 hc60 b2 b3 hba
    go_enter Try.func5, Try.ntmps5
    go_wp2_with fail
    refine (b1.out _).mono ?_
    rintro e w1 ⟨rfl, hb1⟩
    replace hc := hc.trans (hb1.mono hc.size); clear hb1
    go_wp2_with fail
    refine (C.told _).mono ?_
    rintro e w1 ⟨rfl, hb1⟩
    replace hc := hc.trans (hb1.mono hc.size); clear hb1
    go_wp2_with fail
    go_ret
    exact ⟨rfl, hc⟩
  have i3 : ¬ (0 : Int) ≤ bad a := by omega
  by_cases hbb : bad b < 0
  rotate_left
  · have i4 : (0 : Int) ≤ bad b := by omega
    generalize bad a = x at *
    generalize bad b = y at *
    clear s1 s2 s3 ha60 hb60 hc60 hba hbb b3
    go_enter Try.func5, Try.ntmps5
    go_wp2_with fail
    refine (b1.out _).mono ?_
    rintro e w1 ⟨rfl, hb1⟩
    replace hc := hc.trans (hb1.mono hc.size); clear hb1
    go_wp2_with fail
    refine (b2.out _).mono ?_
    rintro e w1 ⟨rfl, hb1⟩
    replace hc := hc.trans (hb1.mono hc.size); clear hb1
    go_wp2_with fail
    refine (C.told _).mono ?_
    rintro e w1 ⟨rfl, hb1⟩
    replace hc := hc.trans (hb1.mono hc.size); clear hb1
    go_wp2_with fail
    go_ret
    exact ⟨rfl, hc⟩
  have i4 : ¬ (0 : Int) ≤ bad b := by omega
  by_cases hbc : bad c < 0
  rotate_left
  · have i6 : (0 : Int) ≤ bad c := by omega
    generalize bad a = x at *
    generalize bad b = y at *
    generalize bad c = z at *
    clear s1 s2 s3 ha60 hb60 hc60 hba hbb hbc
    go_enter Try.func5, Try.ntmps5
    go_wp2_with fail
    refine (b1.out _).mono ?_
    rintro e w1 ⟨rfl, hb1⟩
    replace hc := hc.trans (hb1.mono hc.size); clear hb1
    go_wp2_with fail
    refine (b2.out _).mono ?_
    rintro e w1 ⟨rfl, hb1⟩
    replace hc := hc.trans (hb1.mono hc.size); clear hb1
    go_wp2_with fail
    refine (b3.out _).mono ?_
    rintro e w1 ⟨rfl, hb1⟩
    replace hc := hc.trans (hb1.mono hc.size); clear hb1
    go_wp2_with fail
    refine (C.told _).mono ?_
    rintro e w1 ⟨rfl, hb1⟩
    replace hc := hc.trans (hb1.mono hc.size); clear hb1
    go_wp2_with fail
    go_ret
    exact ⟨rfl, hc⟩
  have i6 : ¬ (0 : Int) ≤ bad c := by omega
  have hab : (a ++ b).size = a.size + b.size := ByteArray.size_append
  have hbc2 : (b ++ c).size = b.size + c.size := ByteArray.size_append
  have habc : (a ++ b ++ c).size = a.size + b.size + c.size := by rw [ByteArray.size_append, hab]
  have hassoc : a ++ (b ++ c) = a ++ b ++ c := by apply ByteArray.ext; simp [ByteArray.data_append]
  have hba2 := (rl_app hba hbb).2
  have hlen : lenT (a ++ b ++ c) = lenT a + lenT b + lenT c := by rw [lenT_app hba2 hbc, lenT_app hba hbb]
  have l1 : LenS a (lenT a) := lenS C s1 rfl
  have l2 : LenS b (lenT b) := lenS C s2 rfl
  have l3 : LenS c (lenT c) := lenS C s3 rfl
  obtain ⟨t, ht⟩ : ∃ t, a ++ b ++ c = t := ⟨_, rfl⟩
  obtain ⟨u, hu⟩ : ∃ u, a ++ b = u := ⟨_, rfl⟩
  obtain ⟨v, hv⟩ : ∃ v, b ++ c = v := ⟨_, rfl⟩
  have l4 : LenS t ((lenT a : Int) + lenT b + lenT c) := lenS C (by rw [← ht]; omega) (by rw [← ht, hlen]; omega)
  have j1 : JoinS a b u := joinS C (by omega) (by omega) (by omega) hu
  have j2 : JoinS u c t := joinS C (by rw [← hu]; omega) (by omega) (by rw [← hu]; omega) (by rw [← hu]; exact ht)
  have j3 : JoinS b c v := joinS C (by omega) (by omega) (by omega) hv
  have j4 : JoinS a v t := joinS C (by omega) (by rw [← hv]; omega) (by rw [← hv, hassoc]; omega) (by rw [← hv, hassoc]; exact ht)
  have q1 : SameS t t true := sameS C (by simp)
  have hla := lenT_le a
  have hlb := lenT_le b
  have hlc := lenT_le c
  have HU := Lib.hid hu
  have HT : Hid (u ++ c = t) := Lib.hid (by rw [← hu]; exact ht)
  have n1 : (lenT a : Int) ≤ 300 := by omega
  have n2 : (lenT b : Int) ≤ 300 := by omega
  have n3 : (lenT c : Int) ≤ 300 := by omega
  have z1 : (u.size : Int) ≤ 600 := by rw [← hu]; omega
  have i7 : (a.size : Int) ≤ 300 := by omega
  have i8 : (b.size : Int) ≤ 300 := by omega
  have i9 : (c.size : Int) ≤ 300 := by omega
  generalize lenT a = n at *
  generalize lenT b = m at *
  generalize lenT c = k at *
  generalize bad a = x at *
  generalize bad b = y at *
  generalize bad c = z at *
  clear hab hbc2 habc hassoc hba2 hlen ht hu hv hla hlb hlc s1 s2 s3 hba hbb hbc ha60 hb60 hc60
  go_enter Try.func5, Try.ntmps5
  go_wp2_with fail
  refine (b1.out _).mono ?_
  rintro e w1 ⟨rfl, hb1⟩
  replace hc := hc.trans (hb1.mono hc.size); clear hb1
  go_wp2_with fail
  refine (b2.out _).mono ?_
  rintro e w2 ⟨rfl, hb1⟩
  replace hc := hc.trans (hb1.mono hc.size); clear hb1
  go_wp2_with fail
  refine (b3.out _).mono ?_
  rintro e w3 ⟨rfl, hb1⟩
  replace hc := hc.trans (hb1.mono hc.size); clear hb1
  go_wp2_with fail
  obtain ⟨W4, hW4⟩ : ∃ W4, (((w3.alloc (.cells #[.int .i64 3, .int .i32 0, .string a] 23)).alloc (.cells #[.int .i64 3, .int .i32 0, .string b] 23)).alloc (.cells #[.int .i64 3, .int .i32 0, .string c] 23)) = W4 := ⟨_, rfl⟩
  have hc4 : Below w.heap.size w W4 := by rw [← hW4]; exact ((hc.alloc hc.size _).alloc (by have := hc.size; simp; omega) _).alloc (by have := hc.size; simp; omega) _
  have X1 : Bx W4 w3.heap.size #[.int .i64 3, .int .i32 0, .string a] 23 := by
    rw [← hW4]; exact (Bx.new w3 _ _).next (((Below.refl _ _).alloc (by simp) _).alloc (by simp) _)
  have X2 : Bx W4 (w3.heap.size + 1) #[.int .i64 3, .int .i32 0, .string b] 23 := by
    rw [← hW4]
    have := (Bx.new (w3.alloc (.cells #[.int .i64 3, .int .i32 0, .string a] 23)) #[.int .i64 3, .int .i32 0, .string b] 23).next ((Below.refl _ _).alloc (Nat.le_refl _) (.cells #[.int .i64 3, .int .i32 0, .string c] 23))
    simpa using this
  have X3 : Bx W4 (w3.heap.size + 1 + 1) #[.int .i64 3, .int .i32 0, .string c] 23 := by
    rw [← hW4]
    have := Bx.new ((w3.alloc (.cells #[.int .i64 3, .int .i32 0, .string a] 23)).alloc (.cells #[.int .i64 3, .int .i32 0, .string b] 23)) #[.int .i64 3, .int .i32 0, .string c] 23
    simpa using this
  rw [hW4]
  have HX1 := Lib.hid X1
  have HX2 := Lib.hid X2
  have HX3 := Lib.hid X3
  replace hc := hc4
  clear hW4 X1 X2 X3 hc4
  refine (j1.out _).mono ?_
  rintro e w5 ⟨rfl, hb1⟩
  replace HX1 := Lib.hid (HX1.out.next hb1)
  replace HX2 := Lib.hid (HX2.out.next hb1)
  replace HX3 := Lib.hid (HX3.out.next hb1)
  replace hc := hc.trans (hb1.mono hc.size); clear hb1
  have AL : Below w5.heap.size w5 (w5.alloc (.cells #[.int .i64 3, .int .i32 0, .string u] 23)) := (Below.refl _ _).alloc (Nat.le_refl _) _
  replace HX1 := Lib.hid (HX1.out.next AL)
  replace HX2 := Lib.hid (HX2.out.next AL)
  replace HX3 := Lib.hid (HX3.out.next AL)
  have HX4 := Lib.hid (Bx.new w5 #[.int .i64 3, .int .i32 0, .string u] 23)
  replace hc := hc.trans (AL.mono hc.size)
  clear AL
  obtain ⟨e00, e01, e02⟩ := HX4.out.three
  obtain ⟨e10, e11, e12⟩ := HX3.out.three
  go_wp2_with fail
  clear e00 e01 e02 e10 e11 e12
  refine (j2.out _).mono ?_
  rintro e w6 ⟨rfl, hb1⟩
  replace HX1 := Lib.hid (HX1.out.next hb1)
  replace HX2 := Lib.hid (HX2.out.next hb1)
  replace HX3 := Lib.hid (HX3.out.next hb1)
  replace HX4 := Lib.hid (HX4.out.next hb1)
  replace hc := hc.trans (hb1.mono hc.size); clear hb1
  have AL : Below w6.heap.size w6 (w6.alloc (.cells #[.int .i64 3, .int .i32 0, .string t] 23)) := (Below.refl _ _).alloc (Nat.le_refl _) _
  replace HX1 := Lib.hid (HX1.out.next AL)
  replace HX2 := Lib.hid (HX2.out.next AL)
  replace HX3 := Lib.hid (HX3.out.next AL)
  replace HX4 := Lib.hid (HX4.out.next AL)
  have HX5 := Lib.hid (Bx.new w6 #[.int .i64 3, .int .i32 0, .string t] 23)
  replace hc := hc.trans (AL.mono hc.size)
  clear AL
  obtain ⟨e00, e01, e02⟩ := HX2.out.three
  obtain ⟨e10, e11, e12⟩ := HX3.out.three
  go_wp2_with fail
  clear e00 e01 e02 e10 e11 e12
  refine (j3.out _).mono ?_
  rintro e w7 ⟨rfl, hb1⟩
  replace HX1 := Lib.hid (HX1.out.next hb1)
  replace HX2 := Lib.hid (HX2.out.next hb1)
  replace HX3 := Lib.hid (HX3.out.next hb1)
  replace HX4 := Lib.hid (HX4.out.next hb1)
  replace HX5 := Lib.hid (HX5.out.next hb1)
  replace hc := hc.trans (hb1.mono hc.size); clear hb1
  have AL : Below w7.heap.size w7 (w7.alloc (.cells #[.int .i64 3, .int .i32 0, .string v] 23)) := (Below.refl _ _).alloc (Nat.le_refl _) _
  replace HX1 := Lib.hid (HX1.out.next AL)
  replace HX2 := Lib.hid (HX2.out.next AL)
  replace HX3 := Lib.hid (HX3.out.next AL)
  replace HX4 := Lib.hid (HX4.out.next AL)
  replace HX5 := Lib.hid (HX5.out.next AL)
  have HX6 := Lib.hid (Bx.new w7 #[.int .i64 3, .int .i32 0, .string v] 23)
  replace hc := hc.trans (AL.mono hc.size)
  clear AL
  obtain ⟨e00, e01, e02⟩ := HX1.out.three
  obtain ⟨e10, e11, e12⟩ := HX6.out.three
  go_wp2_with fail
  clear e00 e01 e02 e10 e11 e12
  refine (j4.out _).mono ?_
  rintro e w8 ⟨rfl, hb1⟩
  replace HX1 := Lib.hid (HX1.out.next hb1)
  replace HX5 := Lib.hid (HX5.out.next hb1)
  replace HX6 := Lib.hid (HX6.out.next hb1)
  replace hc := hc.trans (hb1.mono hc.size); clear hb1
  have AL : Below w8.heap.size w8 (w8.alloc (.cells #[.int .i64 3, .int .i32 0, .string t] 23)) := (Below.refl _ _).alloc (Nat.le_refl _) _
  replace HX5 := Lib.hid (HX5.out.next AL)
  have HX7 := Lib.hid (Bx.new w8 #[.int .i64 3, .int .i32 0, .string t] 23)
  replace hc := hc.trans (AL.mono hc.size)
  clear AL
  go_wp2_with fail
  refine (C.told _).mono ?_
  rintro e w9 ⟨rfl, hb1⟩
  replace HX5 := Lib.hid (HX5.out.next hb1)
  replace HX7 := Lib.hid (HX7.out.next hb1)
  replace hc := hc.trans (hb1.mono hc.size); clear hb1
  obtain ⟨e00, e01, e02⟩ := HX5.out.three
  obtain ⟨e10, e11, e12⟩ := HX7.out.three
  go_wp2_with fail
  refine (q1.out _).mono ?_
  rintro e w10 ⟨rfl, hb1⟩
  replace HX5 := Lib.hid (HX5.out.next hb1)
  replace hc := hc.trans (hb1.mono hc.size); clear hb1 e00 e01 e02 e10 e11 e12
  obtain ⟨e00, e01, e02⟩ := HX5.out.three
  have hU := HU.out
  have hT := HT.out
  have hz0 : (a ++ b).size = a.size + b.size := ByteArray.size_append
  have hz1 : (u ++ c).size = u.size + c.size := ByteArray.size_append
  go_wp2_with fail
  refine (l4.out _).mono ?_
  rintro e w11 ⟨rfl, hb1⟩
  replace hc := hc.trans (hb1.mono hc.size); clear hb1
  go_wp2_with fail
  refine (l1.out _).mono ?_
  rintro e w11 ⟨rfl, hb1⟩
  replace hc := hc.trans (hb1.mono hc.size); clear hb1
  go_wp2_with fail
  refine (l2.out _).mono ?_
  rintro e w11 ⟨rfl, hb1⟩
  replace hc := hc.trans (hb1.mono hc.size); clear hb1
  go_wp2_with fail
  refine (l3.out _).mono ?_
  rintro e w11 ⟨rfl, hb1⟩
  replace hc := hc.trans (hb1.mono hc.size); clear hb1
  go_wp2_with fail
  go_ret
  exact ⟨rfl, hc⟩
end Go.Proofs.Ytinjlmkdhgaeeaa
