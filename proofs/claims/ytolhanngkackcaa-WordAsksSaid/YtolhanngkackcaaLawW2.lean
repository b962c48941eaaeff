/- Statements of layer 2 as walks: words stand one behind the other. -/
import Derived.Test.YtolhanngkackcaaTold2
import Derived.Test.YtolhanngkackcaaWordG
import Derived.WalkSmall
set_option linter.unusedSimpArgs false
set_option linter.unusedVariables false
namespace Go.Proofs.Ytolhanngkackcaa
open Go.RowKit

theorem cellsW_at (l : List Wd) (k : Nat) (h : k < l.length) : (cellsW l)[k * 3]? = some (.int .i64 l[k].k) ∧ (cellsW l)[k * 3 + 1]? = some (.string ⟨l[k].t.toArray⟩) ∧ (cellsW l)[k * 3 + 2]? = some (.int .i64 l[k].a) := by
  induction l generalizing k with
  | nil => simp at h
  | cons x t ih =>
    cases k with
    | zero => exact ⟨rfl, rfl, rfl⟩
    | succ k =>
      have := ih k (by simpa using h)
      have e : cellsW (x :: t) = wcells x ++ cellsW t := rfl
      have hl : (wcells x).length = 3 := rfl
      rw [e]
      refine ⟨?_, ?_, ?_⟩
      · rw [List.getElem?_append_right (by omega), hl, show (k + 1) * 3 - 3 = k * 3 from by omega]; exact this.1
      · rw [List.getElem?_append_right (by omega), hl, show (k + 1) * 3 + 1 - 3 = k * 3 + 1 from by omega]; exact this.2.1
      · rw [List.getElem?_append_right (by omega), hl, show (k + 1) * 3 + 2 - 3 = k * 3 + 2 from by omega]; exact this.2.2
theorem chain_at (s : ByteArray) (l : List Wd) (k e : Nat) (h : k < l.length) (hc : chain s e (l.drop k)) :
    e ≤ l[k].a ∧ l[k].a < s.size ∧ 1 ≤ l[k].k ∧ l[k].k ≤ 4 ∧ ((l[k].k = 3 ∧ bt s l[k].a = 34 ∧ chain s (l[k].a + 1) (l.drop (k + 1))) ∨ (l[k].k ≠ 3 ∧ l[k].t ≠ [] ∧ l[k].a + l[k].t.length ≤ s.size ∧ sub s l[k].a l[k].t.length = l[k].t ∧ chain s (l[k].a + l[k].t.length) (l.drop (k + 1)))) := by
  rw [List.drop_eq_getElem_cons h] at hc; exact hc
set_option maxRecDepth 100000 in
set_option maxHeartbeats 4000000 in
theorem lawWordParts (s : ByteArray) (hs : s.size ≤ maxLen) (w : World) : Calls Try.prog 4 #[.string s] w fun e w' => e = .returned (.bool true) ∧ Below w.heap.size w w' := by
  by_cases h2 : 300 < s.size
  · have h2' : (300 : Int) < s.size := by omega
    go_enter Try.func4, Try.ntmps4
    go_wp2_with (go_at_call 9; refine (told2_any _).mono ?_; rintro e w1 ⟨rfl, hb⟩)
    go_ret
    exact ⟨rfl, hb⟩
  · have h2' : (s.size : Int) ≤ 300 := by omega
    by_cases h0 : allE s = 0
    · obtain ⟨ws, hws⟩ : ∃ ws, allW s = ws := ⟨_, rfl⟩
      obtain ⟨a, ha⟩ : ∃ a, allA s = a := ⟨_, rfl⟩
      have hch := all_chain s
      have hlen := all_len s
      rw [hws] at hch hlen
      have HA : Hid (∀ w : World, _) := fun w => tell s ws 0 a hws h0 ha hs w
      have HC := Lib.hid hch
      clear hch hws h0 ha
      have hlen' : (ws.length : Int) ≤ 300 := by omega
      go_enter Try.func4, Try.ntmps4
      go_wp2_with (go_at_call 10; refine (HA.out _).mono ?_; clear HA; rintro e w1 ⟨v, rfl, ho, hb⟩)
      rcases Nat.eq_zero_or_pos ws.length with hz | hz
      · obtain rfl : ws = [] := List.eq_nil_of_length_eq_zero hz
        have hv : v = .slice none 0 0 ∨ ∃ g cap, v = .slice (some ⟨g, 0, none⟩) 0 cap := by
          rcases ho.2 with ⟨e, _⟩ | ⟨g, cap, _, e, _⟩
          · exact .inl e
          · exact .inr ⟨g, cap, e⟩
        clear ho HC
        rcases hv with rfl | ⟨g, cap, rfl⟩
        all_goals
          go_wp2
          go_loop [7] (fun v7 => v7 = .int .i64 0) (fun v7 => 0)
          case atStart => rfl
          case round =>
            subst hrel
            go_wp2_with (go_at_call 9; refine (told2_any _).mono ?_; rintro e w2 ⟨rfl, hb2⟩)
            go_ret
            exact ⟨rfl, hb.trans (hb2.mono hb.size)⟩
      · obtain ⟨g, cap, rfl, hB1, hg, hcap, hm, _⟩ := own_at ho hz
        go_wp2
        go_loopw [6, 7] (fun v6 v7 wr => ∃ (k e : Nat), v7 = .int .i64 k ∧ v6 = .int .i64 e ∧ k ≤ ws.length ∧ e ≤ s.size ∧ chain s e (ws.drop k) ∧ wr.ownsRow w.heap.size 32 3 (.slice (some ⟨g, 0, none⟩) ws.length cap) ws.length (cellsW ws) ∧ Below w.heap.size w wr) (fun v6 v7 wr => ws.length - (intOf v7).toNat)
        case atStart => exact ⟨0, 0, rfl, rfl, Nat.zero_le _, Nat.zero_le _, HC.out, ho, hb⟩
        case round =>
          obtain ⟨k, e, rfl, rfl, hk, he, hch, hor, hbr⟩ := hrel
          clear ho hb
          by_cases hlt : k < ws.length
          · obtain ⟨c0, c1, c2⟩ := cellsW_at ws k hlt
            obtain ⟨x1, x2, x3, x4, x5⟩ := chain_at s ws k e hlt hch
            have d0 := own_cell hor _ _ c0
            have d1 := own_cell hor _ _ c1
            have d2 := own_cell hor _ _ c2
            obtain ⟨x, hx⟩ : ∃ x, ws[k] = x := ⟨_, rfl⟩
            rw [hx] at x1 x2 x3 x4 x5 d0 d1 d2
            clear c0 c1 c2 hx hch HC
            obtain ⟨xk, xt, xa⟩ := x
            simp only [] at x1 x2 x3 x4 x5 d0 d1 d2
            rcases x5 with ⟨y1, y2, y3⟩ | ⟨y1, y2, y3, y4, y5⟩
            · subst y1
              have HY := Lib.hid y3; clear y3
              have hbt := bt_eq s xa x2
              rw [y2] at hbt
              have z1 : (e : Int) ≤ xa := by omega
              have z2 : (xa : Int) < s.size := by omega
              clear y2
              go_wp2
              go_roundw
              case rel => exact ⟨k + 1, xa + 1, by go_num, by go_num, by omega, by omega, HY.out, hor.alloc _, hbr.alloc hbr.size _⟩
              case measure => simp [intOf]; omega
            · have HY := Lib.hid y5; clear y5
              have z1 : (e : Int) ≤ xa := by omega
              have z2 : (xa : Int) < s.size := by omega
              have z3 : 1 ≤ (xk : Int) := by omega
              have z4 : (xk : Int) ≤ 4 := by omega
              have z5 : ((xk : Int) == 3) = false := by rw [beq_eq_false_iff_ne]; omega
              obtain ⟨tb, htb⟩ : ∃ tb : ByteArray, tb = ⟨xt.toArray⟩ := ⟨_, rfl⟩
              have hsz : tb.size = xt.length := by rw [htb, size_list]
              have hsub : s.extract xa (xa + tb.size) = tb := by
                rw [htb, size_list]; apply ba_is; rw [extract_sub, show xa + xt.length - xa = xt.length from by omega]; exact y4
              have hne : tb.toList.isEmpty = false := ne_nil tb (by rw [hsz]; intro e; exact y2 (List.eq_nil_of_length_eq_zero e))
              rw [← htb] at d1
              rw [← hsz] at HY y3
              have z6 : (xa : Int) + tb.size ≤ s.size := by omega
              have hsl : ∀ w : World, (Instr.slice 9 (.string s) (some (.int .i64 (xa : Int))) (some (.int .i64 ((xa : Int) + (tb.size : Int)))) none).run Try.prog w = .ok (.string tb) w := by
                intro w
                have := run_slice_string (P := Try.prog) (w := w) 9 s .i64 .i64 (xa : Int) ((xa : Int) + (tb.size : Int)) Try.underlying9 (by omega) (by omega) (by omega)
                rw [show ((xa : Int) + (tb.size : Int)).toNat = xa + tb.size from by omega, Int.toNat_natCast, hsub] at this
                exact this
              clear y1 y2 y4 hsz hsub htb
              go_wp2
              go_quiet (fail)
              clear hsl
              go_wp2
              go_roundw
              case rel => exact ⟨k + 1, xa + tb.size, by go_num, by go_num, by omega, y3, HY.out, hor.alloc _, below_drewN (hbr.alloc hbr.size _) _⟩
              case measure => simp [intOf]; omega
          · go_wp2_with (go_at_call 9; refine (told2_any _).mono ?_; rintro e w2 ⟨rfl, hb2⟩)
            go_ret
            exact ⟨rfl, hbr.trans (hb2.mono hbr.size)⟩
    · obtain ⟨a1, a2, a3, a4⟩ := all_bad s (by omega) h0
      obtain ⟨a, ha⟩ : ∃ a, allA s = a := ⟨_, rfl⟩
      rw [ha] at a3 a4
      have HA : Hid (∀ w : World, _) := fun w => tell s [] 2 a a1 a2 ha hs w
      clear a1 a2 ha h0
      go_enter Try.func4, Try.ntmps4
      go_wp2_with (go_at_call 10; refine (HA.out _).mono ?_; clear HA; rintro e w1 ⟨v, rfl, ho, hb⟩)
      have hv : v = .slice none 0 0 ∨ ∃ g cap, v = .slice (some ⟨g, 0, none⟩) 0 cap := by
        rcases ho.2 with ⟨e, _⟩ | ⟨g, cap, _, e, _⟩
        · exact .inl e
        · exact .inr ⟨g, cap, e⟩
      clear ho
      rcases hv with rfl | ⟨g, cap, rfl⟩
      all_goals
        go_wp2_with (go_at_call 9; refine (told2_any _).mono ?_; rintro e w2 ⟨rfl, hb2⟩)
        go_ret
        exact ⟨rfl, hb.trans (hb2.mono hb.size)⟩
end Go.Proofs.Ytolhanngkackcaa
