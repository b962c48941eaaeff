/- The document's own answers for layer 14: texts of values, their runes. -/
import Derived.Test.YtinjlmkdhgaeeaaTxA
import Derived.Test.YtinjlmkdhgaeeaaNwT
import Derived.Test.YtinjlmkdhgaeeaaBxA
import Derived.Test.YtinjlmkdhgaeeaaRefE
import Derived.Test.YtinjlmkdhgaeeaaRefEp
import Derived.WalkSpells
set_option linter.unusedSimpArgs false
set_option linter.unusedVariables false
namespace Go.Proofs.Ytinjlmkdhgaeeaa
open Go.RowKit

def valV (k n : Int) (s : ByteArray) : Value := .agg #[.int .i64 k, .int .i32 n, .string s]
/-- A value's text. -/
def ofT (k n : Int) (s : ByteArray) : ByteArray :=
  if k = 1 then decT n else if k = 2 then (if n = 1 then ⟨#[116, 114, 117, 101]⟩ else ⟨#[102, 97, 108, 115, 101]⟩) else if k = 3 then s else ⟨#[]⟩
theorem ofT_size (k n : Int) (s : ByteArray) : (ofT k n s).size ≤ s.size + 12 := by
  unfold ofT
  split
  · have := (decT_size n).1; omega
  · split
    · split
      · show 4 ≤ _; omega
      · show 5 ≤ _; omega
    · split
      · omega
      · show 0 ≤ _; omega
def joinT (s : ByteArray) : Value := if 1000 < s.size then .tuple #[valV 0 0 ⟨#[]⟩, .bool false] else .tuple #[valV 3 0 s, .bool true]
def sameT (k1 n1 : Int) (s1 : ByteArray) (k2 n2 : Int) (s2 : ByteArray) : Bool := if k1 = k2 then (if k1 = 3 then s1.toList == s2.toList else n1 == n2) else false
theorem Bx.three {w : World} {b : Nat} {x y z : Value} {T : TypeId} (h : Bx w b #[x, y, z] T) : w.cell? ⟨b, 0, none⟩ = some x ∧ w.cell? ⟨b, 1, none⟩ = some y ∧ w.cell? ⟨b, 2, none⟩ = some z := ⟨h.cell 0, h.cell 1, h.cell 2⟩
theorem rdec_any (a : Int) (ha : i32 a) (w : World) : Calls Try.prog 22 #[.int .i32 a] w fun e w' => e = .returned (.string (decT a)) ∧ Below w.heap.size w w' := rdigits_any a ha w
set_option maxHeartbeats 1000000 in
theorem rof_any (k n : Int) (s : ByteArray) (hn : i32 n) (w : World) : Calls Try.prog 13 #[valV k n s] w fun e w' => e = .returned (.string (ofT k n s)) ∧ Below w.heap.size w w' := by
  unfold valV
  have hb0 : Below w.heap.size w (w.alloc (.cells #[.int .i64 k, .int .i32 n, .string s] 23)) := (Below.refl _ _).alloc (Nat.le_refl _) _
  have HD := Lib.hid (fun W => rdec_any n hn W)
  have HB := Lib.hid hb0
  obtain ⟨t, ht⟩ : ∃ t, ofT k n s = t := ⟨_, rfl⟩
  rw [ht]
  unfold ofT at ht
  clear hb0
  by_cases h1 : k = 1
  · subst h1
    rw [if_pos rfl] at ht
    subst ht
    go_enter Try.func13, Try.ntmps13
    go_wp2_with (go_at_call 22; refine (HD.out _).mono ?_; rintro e w1 ⟨rfl, hb⟩)
    go_ret
    exact ⟨rfl, HB.out.trans (hb.mono (by simp))⟩
  · have k1 : (k == 1) = false := by rw [beq_eq_false_iff_ne]; exact h1
    rw [if_neg h1] at ht
    clear h1
    by_cases h2 : k = 2
    · subst h2
      rw [if_pos rfl] at ht
      by_cases hn1 : n = 1
      · subst hn1
        rw [if_pos rfl] at ht
        subst ht
        go_enter Try.func13, Try.ntmps13
        go_wp2_with fail
        go_ret
        exact ⟨rfl, HB.out⟩
      · have kn : (n == 1) = false := by rw [beq_eq_false_iff_ne]; exact hn1
        rw [if_neg hn1] at ht
        subst ht
        clear hn1
        go_enter Try.func13, Try.ntmps13
        go_wp2_with fail
        go_ret
        exact ⟨rfl, HB.out⟩
    · have k2 : (k == 2) = false := by rw [beq_eq_false_iff_ne]; exact h2
      rw [if_neg h2] at ht
      clear h2
      by_cases h3 : k = 3
      · subst h3
        rw [if_pos rfl] at ht
        subst ht
        go_enter Try.func13, Try.ntmps13
        go_wp2_with fail
        go_ret
        exact ⟨rfl, HB.out⟩
      · have k3 : (k == 3) = false := by rw [beq_eq_false_iff_ne]; exact h3
        rw [if_neg h3] at ht
        subst ht
        clear h3
        go_enter Try.func13, Try.ntmps13
        go_wp2_with fail
        go_ret
        exact ⟨rfl, HB.out⟩
set_option maxHeartbeats 1000000 in
theorem rsame_any (k1 n1 : Int) (s1 : ByteArray) (k2 n2 : Int) (s2 : ByteArray) (w : World) : Calls Try.prog 17 #[valV k1 n1 s1, valV k2 n2 s2] w fun e w' => e = .returned (.bool (sameT k1 n1 s1 k2 n2 s2)) ∧ Below w.heap.size w w' := by
  unfold valV
  have hb0 : Below w.heap.size w ((w.alloc (.cells #[.int .i64 k1, .int .i32 n1, .string s1] 23)).alloc (.cells #[.int .i64 k2, .int .i32 n2, .string s2] 23)) := ((Below.refl _ _).alloc (Nat.le_refl _) _).alloc (by simp) _
  have HB := Lib.hid hb0
  clear hb0
  obtain ⟨t, ht⟩ : ∃ t, sameT k1 n1 s1 k2 n2 s2 = t := ⟨_, rfl⟩
  rw [ht]
  unfold sameT at ht
  by_cases h1 : k1 = k2
  · subst h1
    rw [if_pos rfl] at ht
    by_cases h3 : k1 = 3
    · subst h3
      rw [if_pos rfl] at ht
      subst ht
      go_enter Try.func17, Try.ntmps17
      go_wp2_with fail
      all_goals (go_ret; exact ⟨rfl, HB.out⟩)
    · have k3 : (k1 == 3) = false := by rw [beq_eq_false_iff_ne]; exact h3
      rw [if_neg h3] at ht
      subst ht
      clear h3
      go_enter Try.func17, Try.ntmps17
      go_wp2_with fail
      all_goals (go_ret; exact ⟨rfl, HB.out⟩)
  · have kk : (k1 != k2) = true := by rw [bne_iff_ne]; exact h1
    rw [if_neg h1] at ht
    subst ht
    clear h1
    go_enter Try.func17, Try.ntmps17
    go_wp2_with fail
    all_goals (go_ret; exact ⟨rfl, HB.out⟩)
end Go.Proofs.Ytinjlmkdhgaeeaa
