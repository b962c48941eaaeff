/- The closed facts that each statement of layer 2 asks for besides. -/
import Derived.Test.YtolhanngkackcaaWordF
set_option linter.unusedSimpArgs false
set_option linter.unusedVariables false
namespace Go.Proofs.Ytolhanngkackcaa
open Go.RowKit

/-- Words in a row of cells: where they stand. -/
theorem own_at {W : World} {B n : Nat} {v : Value} {xs : List Value} (h : W.ownsRow B 32 3 v n xs) (hn : 0 < n) :
    ∃ g cap, v = .slice (some ⟨g, 0, none⟩) n cap ∧ B ≤ g ∧ g < W.heap.size ∧ n ≤ cap ∧ cap ≤ maxLen ∧ ∀ j u, xs[j]? = some u → W.cell? ⟨g, j, none⟩ = some u := by
  obtain ⟨hl, h⟩ := h
  rcases h with ⟨_, h0⟩ | ⟨g, cap, cur, hv, hb, hh, hc, hm, hs, ht⟩
  · omega
  · refine ⟨g, cap, hv, hb, (Array.getElem?_eq_some_iff.1 hh).1, hc, hm, fun j u hu => ?_⟩
    rw [cell_of_row W g j cur _ (0, 0) hh]
    rw [← ht] at hu
    rw [List.getElem?_take] at hu
    split at hu
    · simpa using hu
    · cases hu
theorem own_cell {W : World} {B n g cap : Nat} {xs : List Value} (h : W.ownsRow B 32 3 (.slice (some ⟨g, 0, none⟩) n cap) n xs) (j : Nat) (u : Value) (hu : xs[j]? = some u) : W.cell? ⟨g, j, none⟩ = some u := by
  rcases Nat.eq_zero_or_pos n with rfl | hn
  · have := h.1
    rw [Nat.zero_mul] at this
    rw [List.eq_nil_of_length_eq_zero this] at hu; cases hu
  · obtain ⟨g', cap', e, _, _, _, _, hc⟩ := own_at h hn
    injection e with e _ _
    injection e with e
    injection e with e
    subst e
    exact hc j u hu
theorem tell (s : ByteArray) (ws : List Wd) (x a : Int) (h1 : allW s = ws) (h2 : allE s = x) (h3 : allA s = a) (hs : s.size ≤ maxLen) (w : World) :
    Calls Try.prog 10 #[.string s] w fun e w' => ∃ v : Value, e = .returned (.tuple #[v, .int .i64 x, .int .i64 a]) ∧ w'.ownsRow w.heap.size 32 3 v ws.length (cellsW ws) ∧ Below w.heap.size w w' := by
  have := all_any s w hs
  unfold AllSaid at this
  rw [h1, h2, h3] at this
  exact this
def t1 : ByteArray := ⟨#[97, 60, 61, 98, 32, 47, 47, 32, 99, 10, 32, 34, 120, 92, 110, 34]⟩
def t2 : ByteArray := ⟨#[97, 98, 32, 63]⟩
def t3 : ByteArray := ⟨#[97, 32, 34, 98]⟩
def t4 : ByteArray := ⟨#[97, 32, 255, 32, 63]⟩
def ws1 : List Wd := [⟨1, [97], 0⟩, ⟨4, [60, 61], 1⟩, ⟨1, [98], 3⟩, ⟨3, [120, 10], 11⟩]
theorem t1_is : allW t1 = ws1 ∧ allE t1 = 0 ∧ allA t1 = 0 := by decide +kernel
theorem t2_is : allW t2 = [] ∧ allE t2 = 2 ∧ allA t2 = 3 := by decide +kernel
theorem t3_is : allW t3 = [] ∧ allE t3 = 2 ∧ allA t3 = 2 := by decide +kernel
theorem t4_is : allW t4 = [] ∧ allE t4 = 2 ∧ allA t4 = 2 := by decide +kernel
set_option maxRecDepth 100000 in
set_option maxHeartbeats 4000000 in
theorem told2_any (w : World) : Calls Try.prog 9 #[] w fun e w' => e = .returned (.bool true) ∧ Below w.heap.size w w' := by
  have H1 : Hid (∀ w : World, _) := fun w => tell t1 ws1 0 0 t1_is.1 t1_is.2.1 t1_is.2.2 (by decide) w
  have H2 : Hid (∀ w : World, _) := fun w => tell t2 [] 2 3 t2_is.1 t2_is.2.1 t2_is.2.2 (by decide) w
  have H3 : Hid (∀ w : World, _) := fun w => tell t3 [] 2 2 t3_is.1 t3_is.2.1 t3_is.2.2 (by decide) w
  have H4 : Hid (∀ w : World, _) := fun w => tell t4 [] 2 2 t4_is.1 t4_is.2.1 t4_is.2.2 (by decide) w
  go_enter Try.func9, Try.ntmps9
  go_wp2_with (go_at_call 10; refine (H1.out _).mono ?_; clear H1; rintro e w1 ⟨v, rfl, ho, hb⟩)
  change w1.ownsRow _ _ 3 v 4 _ at ho
  obtain ⟨g, cap, rfl, hB, hg, hcap, hm, _⟩ := own_at ho (by decide)
  go_wp2_with (go_at_call 10; refine (H2.out _).mono ?_; clear H2; rintro e w2 ⟨v2, rfl, ho2, hb2⟩; replace ho := own_next ho hb2; replace hb := hb.trans (hb2.mono hb.size); clear hb2 ho2)
  go_wp2_with (go_at_call 10; refine (H3.out _).mono ?_; clear H3; rintro e w3 ⟨v3, rfl, ho3, hb3⟩; replace ho := own_next ho hb3; replace hb := hb.trans (hb3.mono hb.size); clear hb3 ho3)
  go_wp2_with (go_at_call 10; refine (H4.out _).mono ?_; clear H4; rintro e w4 ⟨v4, rfl, ho4, hb4⟩; replace ho := own_next ho hb4; replace hb := hb.trans (hb4.mono hb.size); clear hb4 ho4; have c3 := own_cell ho 3 _ rfl; have c4 := own_cell ho 4 _ rfl; have c5 := own_cell ho 5 _ rfl; have c9 := own_cell ho 9 _ rfl; have c10 := own_cell ho 10 _ rfl; have c11 := own_cell ho 11 _ rfl; clear ho)
  go_ret
  exact ⟨rfl, hb⟩
end Go.Proofs.Ytolhanngkackcaa
