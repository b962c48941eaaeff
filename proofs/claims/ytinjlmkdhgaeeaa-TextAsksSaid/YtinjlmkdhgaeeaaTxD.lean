/- The document's own answer for layer 14: two values joined. -/
import Derived.Test.YtinjlmkdhgaeeaaTxC
import Derived.WalkSmall
import Derived.BigQuiet
import Derived.BigCall
import Derived.Deep.QuietTactic
import Derived.Deep.CutRange
import Derived.Deep.LoopGhost
import Derived.Deep.AppendLies
import Derived.Deep.RegionWith
import Derived.Deep.RegionHeld3
set_option linter.unusedSimpArgs false
set_option linter.unusedVariables false
namespace Go.Proofs.Ytinjlmkdhgaeeaa
open Go.RowKit

theorem below_set3 {B : Nat} {w w2 : World} (h : Below B w w2) {b : Nat} (hb : B ≤ b) (x y z : Value) : Below B w (((w2.setCell ⟨b, 0, none⟩ x).setCell ⟨b, 1, none⟩ y).setCell ⟨b, 2, none⟩ z) :=
  ((h.setCell hb x).setCell hb y).setCell hb z
set_option maxHeartbeats 4000000 in
theorem rjoin_any (k1 n1 : Int) (s1 : ByteArray) (k2 n2 : Int) (s2 : ByteArray) (h1 : i32 n1) (h2 : i32 n2) (hz1 : s1.size ≤ 1048576) (hz2 : s2.size ≤ 1048576) (w : World) :
    Calls Try.prog 9 #[valV k1 n1 s1, valV k2 n2 s2] w fun e w' => e = .returned (joinT (ofT k1 n1 s1 ++ ofT k2 n2 s2)) ∧ Below w.heap.size w w' := by
  have HO : Hid (∀ (k n : Int) (s : ByteArray), i32 n → ∀ W, Calls Try.prog 13 #[.agg #[.int .i64 k, .int .i32 n, .string s]] W fun e w' => e = .returned (.string (ofT k n s)) ∧ Below W.heap.size W w') := Lib.hid fun k n s hn W => rof_any k n s hn W
  have hza := ofT_size k1 n1 s1
  have hzb := ofT_size k2 n2 s2
  have hsum : (ofT k1 n1 s1 ++ ofT k2 n2 s2).size = (ofT k1 n1 s1).size + (ofT k2 n2 s2).size := ByteArray.size_append
  have hai : ((ofT k1 n1 s1).size : Int) ≤ 1048588 := by omega
  have hbi : ((ofT k2 n2 s2).size : Int) ≤ 1048588 := by omega
  have hno : ¬ 9223372036854775807 < (ofT k1 n1 s1).size + (ofT k2 n2 s2).size := by omega
  clear hza hzb hz1 hz2
  unfold valV
  obtain ⟨W1, hW1⟩ : ∃ W1, W1 = ((w.alloc (.cells #[.int .i64 k1, .int .i32 n1, .string s1] 23)).alloc (.cells #[.int .i64 k2, .int .i32 n2, .string s2] 23)).alloc (.cells #[.int .i64 0, .int .i32 0, .string ⟨#[]⟩] 23) := ⟨_, rfl⟩
  have hb1 : Below w.heap.size w W1 := by rw [hW1]; exact (((Below.refl _ _).alloc (Nat.le_refl _) _).alloc (by simp) _).alloc (by simp; omega) _
  have hX1 : Bx W1 w.heap.size #[.int .i64 k1, .int .i32 n1, .string s1] 23 := by
    rw [hW1]; exact (Bx.new w _ _).next (((Below.refl _ _).alloc (by simp) _).alloc (by simp) _)
  have hX2 : Bx W1 (w.heap.size + 1) #[.int .i64 k2, .int .i32 n2, .string s2] 23 := by
    rw [hW1]
    have := (Bx.new (w.alloc (.cells #[.int .i64 k1, .int .i32 n1, .string s1] 23)) #[.int .i64 k2, .int .i32 n2, .string s2] 23).next ((Below.refl _ _).alloc (Nat.le_refl _) (.cells #[.int .i64 0, .int .i32 0, .string ⟨#[]⟩] 23))
    simpa using this
  have hX3 : Bx W1 (w.heap.size + 2) #[.int .i64 0, .int .i32 0, .string ⟨#[]⟩] 23 := by
    rw [hW1]
    have := Bx.new ((w.alloc (.cells #[.int .i64 k1, .int .i32 n1, .string s1] 23)).alloc (.cells #[.int .i64 k2, .int .i32 n2, .string s2] 23)) #[.int .i64 0, .int .i32 0, .string ⟨#[]⟩] 23
    simpa using this
  have HX3 := Lib.hid hX3
  have HC : Hid (∀ w', Below W1.heap.size W1 w' → w'.cell? ⟨w.heap.size, 0, none⟩ = some (.int .i64 k1) ∧ w'.cell? ⟨w.heap.size, 1, none⟩ = some (.int .i32 n1) ∧ w'.cell? ⟨w.heap.size, 2, none⟩ = some (.string s1) ∧ w'.cell? ⟨w.heap.size + 1, 0, none⟩ = some (.int .i64 k2) ∧ w'.cell? ⟨w.heap.size + 1, 1, none⟩ = some (.int .i32 n2) ∧ w'.cell? ⟨w.heap.size + 1, 2, none⟩ = some (.string s2)) :=
    Lib.hid fun w' hb => ⟨(hX1.next hb).cell 0, (hX1.next hb).cell 1, (hX1.next hb).cell 2, (hX2.next hb).cell 0, (hX2.next hb).cell 1, (hX2.next hb).cell 2⟩
  have hb0 : Below W1.heap.size W1 W1.drew := (Below.refl _ _).drew
  obtain ⟨j, hj⟩ : ∃ j, joinT (ofT k1 n1 s1 ++ ofT k2 n2 s2) = j := ⟨_, rfl⟩
  rw [hj]
  have HJ := Lib.hid hj
  have HS := Lib.hid hsum
  clear hX1 hX2 hX3 hj hsum
  go_enter Try.func9, Try.ntmps9
  go_upto_region 1 with (fail)
  rw [← hW1]
  clear hW1
  go_region_held3 (fun w' => w'.cell? ⟨w.heap.size, 0, none⟩ = some (.int .i64 k1) ∧ w'.cell? ⟨w.heap.size, 1, none⟩ = some (.int .i32 n1) ∧ w'.cell? ⟨w.heap.size, 2, none⟩ = some (.string s1) ∧ w'.cell? ⟨w.heap.size + 1, 0, none⟩ = some (.int .i64 k2) ∧ w'.cell? ⟨w.heap.size + 1, 1, none⟩ = some (.int .i32 n2) ∧ w'.cell? ⟨w.heap.size + 1, 2, none⟩ = some (.string s2))
    (first | with_reducible exact HC.out _ hb0)
    ((go_at_call 13; refine (HO.out _ _ _ (by assumption) _).mono ?_; rintro e w2 ⟨rfl, hb⟩; replace hb0 := hb0.trans (hb.mono hb0.size); clear hb))
  all_goals
    have hX := HX3.out.next hb0
    have hsum := HS.out
    obtain ⟨u, hu⟩ : ∃ u, ofT k1 n1 s1 ++ ofT k2 n2 s2 = u := ⟨_, rfl⟩
    have HJ2 : Hid (joinT u = j) := Lib.hid (by rw [← hu]; exact HJ.out)
    rw [hu] at hsum ⊢
    clear hno hu
    obtain ⟨c0, c1, c2⟩ := hX.three
    have g0 := hX.fro 0
    have g1 := hX.fro 1
    have g2 := hX.fro 2
    by_cases hb : 1000 < u.size
    · have hbi2 : (1000 : Int) < u.size := by omega
      have HE : Hid (j = .tuple #[valV 0 0 ⟨#[]⟩, .bool false]) := Lib.hid (by rw [← HJ2.out, joinT, if_pos hb])
      clear hb
      go_wp2_with fail
      refine bodyPost_ret (v := .tuple #[.agg #[.int .i64 0, .int .i32 0, .string ⟨#[]⟩], .bool false]) (by simp [results, Try.results9, go_sem, c0, c1, c2, g0, g1, g2]) rfl ⟨by rw [HE.out]; rfl, below_set3 (hb1.trans (hb0.mono hb1.size)) (by omega) _ _ _⟩
    · have hbi2 : ¬ (1000 : Int) < u.size := by omega
      have HE : Hid (j = .tuple #[valV 3 0 u, .bool true]) := Lib.hid (by rw [← HJ2.out, joinT, if_neg hb])
      clear hb
      go_wp2_with fail
      refine bodyPost_ret (v := .tuple #[.agg #[.int .i64 3, .int .i32 0, .string u], .bool true]) (by simp [results, Try.results9, go_sem, c0, c1, c2, g0, g1, g2]) rfl ⟨by rw [HE.out]; rfl, below_set3 (hb1.trans (hb0.mono hb1.size)) (by omega) _ _ _⟩
end Go.Proofs.Ytinjlmkdhgaeeaa
