/- Statements of layer 13: Word32Wraps, Word32Laws as walks. -/
import Derived.Test.YtggabclclghmbaaNwE
set_option linter.unusedSimpArgs false
set_option linter.unusedVariables false
namespace Go.Proofs.Ytggabclclghmbaa
open Go.RowKit

theorem w32_k (x : Int) : ∃ k, wrap32 x = x + 4294967296 * k := ⟨-((x + 2147483648) / 4294967296), by rw [w32_eq]; omega⟩
theorem w32_of {x y : Int} (hy : i32 y) (k : Int) (h : x = y + 4294967296 * k) : wrap32 x = y := by unfold i32 at hy; rw [w32_eq]; omega
theorem back (a b : Int) (ha : i32 a) : wrap32 (wrap32 (a + b) - b) = a := by unfold i32 at ha; rw [w32_eq, w32_eq]; omega
theorem minus (a b : Int) : wrap32 (a + wrap32 (-b)) = wrap32 (a - b) := by rw [w32_eq, w32_eq, w32_eq]; omega
theorem whole (a b : Int) (ha : i32 a) : wrap32 (wrap32 (wrap32 (a.tdiv b) * b) + a.tmod b) = a := by
  obtain ⟨k2, e2⟩ := w32_k (a.tdiv b)
  obtain ⟨k1, e1⟩ := w32_k (wrap32 (a.tdiv b) * b)
  refine w32_of ha (k2 * b + k1) ?_
  rw [e1, e2]
  have := Int.tdiv_mul_add_tmod a b
  rw [Int.add_mul, Int.mul_add, Int.mul_assoc 4294967296 k2 b]
  omega
theorem rest_neg (a b : Int) : (0 ≤ a → 0 ≤ a.tmod b) ∧ (a ≤ 0 → a.tmod b ≤ 0) := by
  refine ⟨fun h => Int.tmod_nonneg _ h, fun h => ?_⟩
  have := Int.tmod_nonneg b (show 0 ≤ -a by omega)
  rw [Int.neg_tmod] at this
  omega
theorem twice (a : Int) : wrap32 (a + a) = wrap32 (a * 2) := by congr 1; omega
theorem minus_one (a : Int) : wrap32 (a * -1) = wrap32 (-a) := by rw [Int.mul_neg_one]
theorem neg_neg32 (a : Int) (ha : i32 a) : wrap32 (-wrap32 (-a)) = a := by unfold i32 at ha; rw [w32_eq, w32_eq]; omega
theorem i32_of {a : Int} (h : (Lit.int .i32 a).wf = true) : i32 a := by
  have h1 : IntKind.i32.min = -2147483648 := rfl
  have h2 : IntKind.i32.max = 2147483647 := rfl
  simp [Lit.wf, h1, h2] at h
  unfold i32; omega
set_option maxRecDepth 100000 in
set_option maxHeartbeats 4000000 in
theorem wraps_any (a : Int) (hA : (Lit.int .i32 a).wf = true) (w : World) : Calls Try.prog 6 #[.int .i32 a] w fun e w' => e = .returned (.bool true) ∧ Below w.heap.size w w' := by
  have ha : i32 a := i32_of hA
  obtain ⟨s, hs⟩ : ∃ s, wrap32 (a + a) = s := ⟨_, rfl⟩
  obtain ⟨n, hn⟩ : ∃ n, wrap32 (a + 1) = n := ⟨_, rfl⟩
  obtain ⟨g, hg⟩ : ∃ g, wrap32 (-a) = g := ⟨_, rfl⟩
  have hs32 : i32 s := by rw [← hs]; exact w32_in _
  have hn32 : i32 n := by rw [← hn]; exact w32_in _
  have hg32 : i32 g := by rw [← hg]; exact w32_in _
  have hna : (n = a + 1 ∧ a ≠ 2147483647) ∨ (n = -2147483648 ∧ a = 2147483647) := by rw [← hn, w32_eq]; unfold i32 at ha; omega
  have d1 : DoS ⟨#[43]⟩ a a s true := doS ha ha (by rw [← hs]; rfl)
  have d2 : DoS ⟨#[42]⟩ a 2 s true := doS ha ⟨by decide, by decide⟩ (by rw [← hs, twice]; rfl)
  have d3 : DoS ⟨#[43]⟩ a 1 n true := doS ha ⟨by decide, by decide⟩ (by rw [← hn]; rfl)
  have d4 : DoS ⟨#[45]⟩ n 1 a true := doS hn32 ⟨by decide, by decide⟩ (by show (wrap32 (n - 1), true) = _; rw [← hn, back a 1 ha])
  have d5 : DoS ⟨#[42]⟩ a (-1) g true := doS ha ⟨by decide, by decide⟩ (by rw [← hg, ← minus_one]; rfl)
  have n1 : NegS a g := negS ha hg
  have n2 : NegS g a := negS hg32 (by rw [← hg, neg_neg32 a ha])
  have hc : Below w.heap.size w w := Below.refl _ _
  clear hs hn hg hA
  obtain ⟨x, l1, hx⟩ : ∃ x, LessS ⟨#[60]⟩ a n x true ∧ (x = true ∧ a ≠ 2147483647 ∨ x = false ∧ a = 2147483647) := by
    unfold i32 at ha
    rcases hna with ⟨e, h⟩ | ⟨e, h⟩
    · exact ⟨true, lessS (by show (decide (a < n), true) = _; rw [decide_eq_true (by omega)]), .inl ⟨rfl, h⟩⟩
    · exact ⟨false, lessS (by show (decide (a < n), true) = _; rw [decide_eq_false (by omega)]), .inr ⟨rfl, h⟩⟩
  have hq : (a != 2147483647) = x := by
    rcases hx with ⟨rfl, h⟩ | ⟨rfl, h⟩
    · rw [bne_iff_ne]; exact h
    · rw [h]; rfl
  clear hx hna hs32 hn32 hg32 ha
  have HQ := Lib.hid hq
  go_enter Try.func6, Try.ntmps6
  go_wp2_with fail
  refine (d1.out _).mono ?_
  rintro e w1 ⟨rfl, rfl⟩
  go_wp2_with fail
  refine (d2.out _).mono ?_
  rintro e w1 ⟨rfl, rfl⟩
  go_wp2_with fail
  refine (d3.out _).mono ?_
  rintro e w1 ⟨rfl, rfl⟩
  go_wp2_with fail
  refine (d4.out _).mono ?_
  rintro e w1 ⟨rfl, rfl⟩
  go_wp2_with fail
  refine (d5.out _).mono ?_
  rintro e w1 ⟨rfl, rfl⟩
  go_wp2_with fail
  refine (l1.out _).mono ?_
  rintro e w1 ⟨rfl, rfl⟩
  go_wp2_with fail
  refine (told_any _).mono ?_
  rintro e w1 ⟨rfl, hb⟩
  replace hc := hc.trans (hb.mono hc.size); clear hb
  go_wp2_with fail
  refine (n1.out _).mono ?_
  rintro e w2 ⟨rfl, rfl⟩
  go_wp2_with fail
  refine (n1.out _).mono ?_
  rintro e w2 ⟨rfl, rfl⟩
  go_wp2_with fail
  refine (n2.out _).mono ?_
  rintro e w2 ⟨rfl, rfl⟩
  go_wp2_with fail
  go_ret
  exact ⟨rfl, hc⟩
set_option maxRecDepth 100000 in
set_option maxHeartbeats 4000000 in
theorem laws_any (a b : Int) (hA : (Lit.int .i32 a).wf = true) (hB : (Lit.int .i32 b).wf = true) (w : World) : Calls Try.prog 4 #[.int .i32 a, .int .i32 b] w fun e w' => e = .returned (.bool true) ∧ Below w.heap.size w w' := by
  have ha := i32_of hA
  have hb := i32_of hB
  have hw := whole a b ha
  have hbk := back a b ha
  have hmn := minus a b
  obtain ⟨s, hs⟩ : ∃ s, wrap32 (a + b) = s := ⟨_, rfl⟩
  obtain ⟨n, hn⟩ : ∃ n, wrap32 (a - b) = n := ⟨_, rfl⟩
  obtain ⟨g, hg⟩ : ∃ g, wrap32 (-b) = g := ⟨_, rfl⟩
  have hs32 : i32 s := by rw [← hs]; exact w32_in _
  have hg32 : i32 g := by rw [← hg]; exact w32_in _
  rw [hs] at hbk
  rw [hg, hn] at hmn
  have d1 : DoS ⟨#[43]⟩ a b s true := doS ha hb (by rw [← hs]; rfl)
  have d2 : DoS ⟨#[45]⟩ s b a true := doS hs32 hb (by show (wrap32 (s - b), true) = _; rw [hbk])
  have n1 : NegS b g := negS hb hg
  have d3 : DoS ⟨#[43]⟩ a g n true := doS ha hg32 (by show (wrap32 (a + g), true) = _; rw [hmn])
  have d4 : DoS ⟨#[45]⟩ a b n true := doS ha hb (by rw [← hn]; rfl)
  obtain ⟨x, y, z, l1, l2, l3, hx, hz⟩ : ∃ x y z, LessS ⟨#[60]⟩ a b x true ∧ LessS ⟨#[60, 61]⟩ b a y true ∧ LessS ⟨#[61, 61]⟩ a b z true ∧ (x == y) = false ∧ (a == b) = z := by
    by_cases h : a < b
    · exact ⟨true, false, a == b, lessS (by show (decide (a < b), true) = _; rw [decide_eq_true h]), lessS (by show (decide (b ≤ a), true) = _; rw [decide_eq_false (by omega)]), lessS rfl, rfl, rfl⟩
    · exact ⟨false, true, a == b, lessS (by show (decide (a < b), true) = _; rw [decide_eq_false h]), lessS (by show (decide (b ≤ a), true) = _; rw [decide_eq_true (by omega)]), lessS rfl, rfl, rfl⟩
  have hc : Below w.heap.size w w := Below.refl _ _
  clear hs hn hg hs32 hg32 hA hB hbk hmn
  by_cases hb0 : b = 0
  · subst hb0
    have d5 : DoS ⟨#[47]⟩ a 0 0 false := doS ha hb rfl
    have d6 : DoS ⟨#[37]⟩ a 0 0 false := doS ha hb rfl
    clear hw ha hb
    go_enter Try.func4, Try.ntmps4
    go_wp2_with fail
    refine (d1.out _).mono ?_
    rintro e w1 ⟨rfl, rfl⟩
    go_wp2_with fail
    refine (d2.out _).mono ?_
    rintro e w1 ⟨rfl, rfl⟩
    go_wp2_with fail
    refine (n1.out _).mono ?_
    rintro e w1 ⟨rfl, rfl⟩
    go_wp2_with fail
    refine (d3.out _).mono ?_
    rintro e w1 ⟨rfl, rfl⟩
    go_wp2_with fail
    refine (d4.out _).mono ?_
    rintro e w1 ⟨rfl, rfl⟩
    go_wp2_with fail
    refine (l1.out _).mono ?_
    rintro e w1 ⟨rfl, rfl⟩
    go_wp2_with fail
    refine (l2.out _).mono ?_
    rintro e w1 ⟨rfl, rfl⟩
    go_wp2_with fail
    refine (l3.out _).mono ?_
    rintro e w1 ⟨rfl, rfl⟩
    go_wp2_with fail
    refine (d5.out _).mono ?_
    rintro e w1 ⟨rfl, rfl⟩
    go_wp2_with fail
    refine (d6.out _).mono ?_
    rintro e w1 ⟨rfl, rfl⟩
    go_wp2_with fail
    refine (told_any _).mono ?_
    rintro e w1 ⟨rfl, hb⟩
    replace hc := hc.trans (hb.mono hc.size); clear hb
    go_wp2_with fail
    go_ret
    exact ⟨rfl, hc⟩
  · obtain ⟨r1, r2⟩ := rest_neg a b
    have ht32 := mod_in ha hb
    obtain ⟨q, hq⟩ : ∃ q, wrap32 (a.tdiv b) = q := ⟨_, rfl⟩
    have hq32 : i32 q := by rw [← hq]; exact w32_in _
    rw [hq] at hw
    obtain ⟨u, hu⟩ : ∃ u, wrap32 (q * b) = u := ⟨_, rfl⟩
    have hu32 : i32 u := by rw [← hu]; exact w32_in _
    rw [hu] at hw
    obtain ⟨t, ht⟩ : ∃ t, a.tmod b = t := ⟨_, rfl⟩
    rw [ht] at hw r1 r2 ht32
    have d5 : DoS ⟨#[47]⟩ a b q true := doS ha hb (by show (if b = 0 then (0, false) else (wrap32 (a.tdiv b), true)) = _; rw [if_neg hb0, hq])
    have d6 : DoS ⟨#[37]⟩ a b t true := doS ha hb (by show (if b = 0 then (0, false) else (a.tmod b, true)) = _; rw [if_neg hb0, ht])
    have d7 : DoS ⟨#[42]⟩ q b u true := doS hq32 hb (by rw [← hu]; rfl)
    have d8 : DoS ⟨#[43]⟩ u t a true := doS hu32 ht32 (by show (wrap32 (u + t), true) = _; rw [hw])
    have hb0b : (b == 0) = false := by rw [beq_eq_false_iff_ne]; exact hb0
    have hend : ((t == 0) = true) ∨ ((t == 0) = false ∧ (decide (t < 0) == decide (a < 0)) = true) := by
      by_cases h0 : t = 0
      · exact .inl (by rw [beq_iff_eq]; exact h0)
      · refine .inr ⟨by rw [beq_eq_false_iff_ne]; exact h0, ?_⟩
        by_cases h1 : a < 0
        · rw [decide_eq_true h1, decide_eq_true (by omega)]; rfl
        · rw [decide_eq_false h1, decide_eq_false (by omega)]; rfl
    clear hq hu ht hw hq32 hu32 ht32 ha hb r1 r2 hb0
    rcases hend with h0 | ⟨h0, h1⟩
    all_goals go_enter Try.func4, Try.ntmps4
    all_goals go_wp2_with fail
    all_goals refine (d1.out _).mono ?_
    all_goals rintro e w1 ⟨rfl, rfl⟩
    all_goals go_wp2_with fail
    all_goals refine (d2.out _).mono ?_
    all_goals rintro e w1 ⟨rfl, rfl⟩
    all_goals go_wp2_with fail
    all_goals refine (n1.out _).mono ?_
    all_goals rintro e w1 ⟨rfl, rfl⟩
    all_goals go_wp2_with fail
    all_goals refine (d3.out _).mono ?_
    all_goals rintro e w1 ⟨rfl, rfl⟩
    all_goals go_wp2_with fail
    all_goals refine (d4.out _).mono ?_
    all_goals rintro e w1 ⟨rfl, rfl⟩
    all_goals go_wp2_with fail
    all_goals refine (l1.out _).mono ?_
    all_goals rintro e w1 ⟨rfl, rfl⟩
    all_goals go_wp2_with fail
    all_goals refine (l2.out _).mono ?_
    all_goals rintro e w1 ⟨rfl, rfl⟩
    all_goals go_wp2_with fail
    all_goals refine (l3.out _).mono ?_
    all_goals rintro e w1 ⟨rfl, rfl⟩
    all_goals go_wp2_with fail
    all_goals refine (d5.out _).mono ?_
    all_goals rintro e w1 ⟨rfl, rfl⟩
    all_goals go_wp2_with fail
    all_goals refine (d6.out _).mono ?_
    all_goals rintro e w1 ⟨rfl, rfl⟩
    all_goals go_wp2_with fail
    all_goals refine (d7.out _).mono ?_
    all_goals rintro e w1 ⟨rfl, rfl⟩
    all_goals go_wp2_with fail
    all_goals refine (d8.out _).mono ?_
    all_goals rintro e w1 ⟨rfl, rfl⟩
    all_goals go_wp2_with fail
    all_goals refine (told_any _).mono ?_
    all_goals rintro e w1 ⟨rfl, hb⟩
    all_goals replace hc := hc.trans (hb.mono hc.size)
    all_goals clear hb
    all_goals go_wp2_with fail
    all_goals go_ret
    all_goals exact ⟨rfl, hc⟩
end Go.Proofs.Ytggabclclghmbaa
