/- Statements of layer 2 as walks: the words are what the document says. -/
import Derived.Test.YtolhanngkackcaaLawW2
import Derived.Test.YtolhanngkackcaaRefZ
set_option linter.unusedSimpArgs false
set_option linter.unusedVariables false
namespace Go.Proofs.Ytolhanngkackcaa
open Go.RowKit

theorem rown_at {W : World} {B n : Nat} {v : Value} {xs : List Value} (h : W.ownsRow B 41 3 v n xs) (hn : 0 < n) :
    ∃ g cap, v = .slice (some ⟨g, 0, none⟩) n cap ∧ g < W.heap.size ∧ n ≤ cap ∧ ∀ j u, xs[j]? = some u → W.cell? ⟨g, j, none⟩ = some u := by
  obtain ⟨hl, h⟩ := h
  rcases h with ⟨_, h0⟩ | ⟨g, cap, cur, hv, hb, hh, hc, hm, hs, ht⟩
  · omega
  · refine ⟨g, cap, hv, (Array.getElem?_eq_some_iff.1 hh).1, hc, fun j u hu => ?_⟩
    rw [cell_of_row W g j cur _ (0, 0) hh]
    rw [← ht] at hu
    rw [List.getElem?_take] at hu
    split at hu
    · simpa using hu
    · cases hu
theorem rown_zero {W : World} {B : Nat} {v : Value} {xs : List Value} (h : W.ownsRow B 41 3 v 0 xs) : ∃ A c, v = .slice A 0 c := by
  rcases h.2 with ⟨e, _⟩ | ⟨g, cap, _, e, _⟩
  · exact ⟨_, _, e⟩
  · exact ⟨_, _, e⟩
theorem wown_zero {W : World} {B : Nat} {v : Value} {xs : List Value} (h : W.ownsRow B 32 3 v 0 xs) : ∃ A c, v = .slice A 0 c := by
  rcases h.2 with ⟨e, _⟩ | ⟨g, cap, _, e, _⟩
  · exact ⟨_, _, e⟩
  · exact ⟨_, _, e⟩
set_option maxRecDepth 100000 in
set_option maxHeartbeats 4000000 in
theorem same_words (ws : List Wd) (B1 B2 : Nat) (v1 v2 : Value) (w : World) (hl : ws.length ≤ 100000) (h1 : w.ownsRow B1 32 3 v1 ws.length (cellsW ws)) (h2 : w.ownsRow B2 41 3 v2 ws.length (cellsW ws)) :
    Calls Try.prog 12 #[v1, v2] w fun e w' => e = .returned (.bool true) ∧ Below w.heap.size w w' := by
  rcases Nat.eq_zero_or_pos ws.length with hz | hz
  · rw [hz] at h1 h2
    obtain ⟨A, c, rfl⟩ := wown_zero h1
    obtain ⟨A2, c2, rfl⟩ := rown_zero h2
    clear h1 h2
    go_enter Try.func12, Try.ntmps12
    go_wp2
    go_loop [5] (fun v => v = .int .i64 0) (fun v => 0)
    case atStart => rfl
    case round =>
      subst hrel
      go_wp2
      go_ret
      exact ⟨rfl, Below.refl _ _⟩
  · obtain ⟨g, cap, rfl, _, hg, hcap, _, hc1⟩ := own_at h1 hz
    obtain ⟨g2, cap2, rfl, hg2, hcap2, hc2⟩ := rown_at h2 hz
    have hl' : (ws.length : Int) ≤ 100000 := by omega
    have HC1 := Lib.hid hc1; have HC2 := Lib.hid hc2
    clear h1 h2 hc1 hc2
    go_enter Try.func12, Try.ntmps12
    go_wp2
    go_loopw [5] (fun v wr => ∃ j nd : Nat, v = .int .i64 j ∧ j ≤ ws.length ∧ wr = w.drewN nd) (fun v wr => ws.length - (intOf v).toNat)
    case atStart => exact ⟨0, 0, rfl, Nat.zero_le _, rfl⟩
    case round =>
      obtain ⟨j, nd, rfl, hj, rfl⟩ := hrel
      by_cases hlt : j < ws.length
      · obtain ⟨c0, c1, c2⟩ := cellsW_at ws j hlt
        have d0 := HC1.out _ _ c0
        have d1 := HC1.out _ _ c1
        have d2 := HC1.out _ _ c2
        have q0 := HC2.out _ _ c0
        have q1 := HC2.out _ _ c1
        have q2 := HC2.out _ _ c2
        obtain ⟨y, hy⟩ : ∃ y, ws[j] = y := ⟨_, rfl⟩
        rw [hy] at d0 d1 d2 q0 q1 q2
        clear c0 c1 c2 hy
        obtain ⟨yk, yt, ya⟩ := y
        simp only [] at d0 d1 d2 q0 q1 q2
        obtain ⟨tb, htb⟩ : ∃ tb : ByteArray, tb = ⟨yt.toArray⟩ := ⟨_, rfl⟩
        rw [← htb] at d1 q1
        clear htb
        go_wp2
        go_quiet (fail)
        go_wp2
        go_roundw
        case rel => exact ⟨j + 1, _, by go_num, by omega, rfl⟩
        case measure => simp [intOf]; omega
      · go_wp2
        go_ret
        exact ⟨rfl, below_drewN (Below.refl _ _) _⟩
theorem all_small (s : ByteArray) : 0 ≤ allE s ∧ allE s ≤ 5 ∧ -1 ≤ allA s ∧ allA s ≤ s.size := by
  have := wrong_range s
  unfold allE allA
  refine ⟨?_, ?_, ?_, ?_⟩ <;> (split <;> first | omega | (split <;> omega))
set_option maxRecDepth 100000 in
set_option maxHeartbeats 4000000 in
theorem lawWordAsks (s : ByteArray) (hs : s.size ≤ maxLen) (w : World) : Calls Try.prog 3 #[.string s] w fun e w' => e = .returned (.bool true) ∧ Below w.heap.size w w' := by
  by_cases h2 : 500 < s.size
  · have h2' : (500 : Int) < s.size := by omega
    go_enter Try.func3, Try.ntmps3
    go_wp2_with (go_at_call 9; refine (told2_any _).mono ?_; rintro e w1 ⟨rfl, hb⟩)
    go_ret
    exact ⟨rfl, hb⟩
  · have h2' : (s.size : Int) ≤ 500 := by omega
    have hlen := all_len s
    obtain ⟨x, hx⟩ : ∃ x, allE s = x := ⟨_, rfl⟩
    obtain ⟨a, ha⟩ : ∃ a, allA s = a := ⟨_, rfl⟩
    obtain ⟨ws, hws⟩ : ∃ ws, allW s = ws := ⟨_, rfl⟩
    have HA : Hid (∀ w : World, _) := fun w => tell s ws x a hws hx ha hs w
    have HR : Hid (∀ w, Calls Try.prog 11 #[.string s] w fun e w' => ∃ v : Value, e = .returned (.tuple #[v, .int .i64 x, .int .i64 a]) ∧ w'.ownsRow w.heap.size 41 3 v ws.length (cellsW ws) ∧ Below w.heap.size w w') := by
      show ∀ w, _
      intro w
      have := rall_any s w hs
      unfold RAllSaid at this
      rw [hx, ha, hws] at this
      exact this
    rw [hws] at hlen
    clear hx ha hws
    go_enter Try.func3, Try.ntmps3
    go_wp2_with (first
      | (go_at_call 10; refine (HA.out _).mono ?_; clear HA; rintro e w1 ⟨v1, rfl, ho1, hB⟩)
      | (go_at_call 11; refine (HR.out _).mono ?_; clear HR; rintro e w2 ⟨v2, rfl, ho2, hb2⟩; replace ho1 := own_next ho1 hb2; replace hB := hB.trans (hb2.mono hB.size); clear hb2)
      | (go_at_call 9; refine (told2_any _).mono ?_; rintro e w3 ⟨rfl, hb3⟩; replace ho1 := own_next ho1 hb3; replace ho2 := own_next ho2 hb3; replace hB := hB.trans (hb3.mono hB.size); clear hb3)
      | (go_at_call 12; refine (same_words ws _ _ _ _ _ (by omega) ho1 ho2).mono ?_; rintro e w4 ⟨rfl, hb4⟩; replace hB := hB.trans (hb4.mono hB.size); clear hb4))
    go_ret
    exact ⟨rfl, hB⟩
end Go.Proofs.Ytolhanngkackcaa
