/- word32: digits, Text; the document's own decimals. -/
import Derived.Test.YtinjlmkdhgaeeaaNwB0
import Derived.Test.YtinjlmkdhgaeeaaBxA
import Derived.WalkLawsBesides
import Derived.WalkSpells
set_option linter.unusedSimpArgs false
set_option linter.unusedVariables false
namespace Go.Proofs.Ytinjlmkdhgaeeaa
open Go.RowKit

theorem tmod10 (n : Nat) : ((n : Int)).tmod 10 = ((n % 10 : Nat) : Int) := by rw [Int.tmod_eq_emod_of_nonneg (by omega)]; omega
theorem tdiv10 (n : Nat) : ((n : Int)).tdiv 10 = ((n / 10 : Nat) : Int) := by rw [Int.tdiv_eq_ediv_of_nonneg (by omega)]; omega
def runesV (l : List Nat) : List Value := l.map fun d : Nat => .int .i32 (48 + (d : Int))
def DgP (l : List Nat) (w : World) (e : Ending) (w' : World) : Prop := ∃ v, e = .returned v ∧ w'.ownsRow w.heap.size 21 1 v l.length (runesV l) ∧ Below w.heap.size w w'
theorem Try.infoRune : (Try.prog.info? 21).map (fun i => (i.zero, i.size, i.bytes)) = some (some (.int .i32 0), 1, 4) := by kernel_rfl
theorem cell_one_newN (w : World) (x : Value) (t : TypeId) : ∀ (j : Nat) (u : Value), [x][j]? = some u → (w.alloc (.cells #[x] t)).cell? ((⟨w.heap.size, 0, none⟩ : Addr).add j) = some u := cell_one_new w x t
theorem below_ownN {B : Nat} {w a b : World} {base e size n : Nat} {v : Value} {xs : List Value} (h : Below B w a) (ho : a.ownsRow base e size v n xs) (hg : a.grownBy b v.ownBlock) (hB : B ≤ a.heap.size) (hb : B ≤ base) : Below B w b :=
  h.grown hg hB fun k hk => Nat.le_trans hb (ho.lt k hk).1
set_option maxHeartbeats 1000000 in
theorem digits_small (n : Nat) (hn : n < 10) (w : World) : Calls Try.prog 27 #[.int .i64 n] w (DgP [n] w) := by
  have h10 : ¬ (10 : Int) ≤ n := by omega
  have hm := tmod10 n
  have hmn : n % 10 = n := by omega
  rw [hmn] at hm
  obtain ⟨ii, hii, hiz, his, hib⟩ := info_parts Try.infoRune
  go_enter Try.func27, Try.ntmps27
  go_wp2_with (at_builtin; refine wpList_append_own _ rfl (.tmp 9) (.tmp 14) 47 rfl w.heap.size 21 ii _ 1 4 Try.underlying47 hii hiz his hib rfl (by decide) _ 0 [] rfl ((World.ownsRow_nil _ _ _ _).alloc _) ⟨w.heap.size, 0, none⟩ 1 1 [.int .i32 (48 + (n : Int))] rfl rfl (cell_one_newN _ _ _) ?c1 ?c2 ?c3 ?c4 ?_)
  case c1 => first | rfl | (intro u hu; simp at hu; subst hu; rfl)
  all_goals try first | (unfold maxLen; omega; done) | (simp; done)
  intro v' w7 hown7 hgrow _
  have hb7 : Below w.heap.size w w7 := below_ownN ((Below.refl _ _).alloc (Nat.le_refl _) _) ((World.ownsRow_nil w w.heap.size 21 1).alloc _) hgrow (by simp) (Nat.le_refl _)
  have HO := Lib.hid hown7
  clear hown7 hgrow
  go_wp2_with fail
  go_ret
  exact ⟨_, rfl, HO.out, hb7⟩
set_option maxHeartbeats 1000000 in
theorem digits_big (n q r : Nat) (l : List Nat) (hn : 10 ≤ n) (hq : ((n : Int)).tdiv 10 = (q : Int)) (hr : ((n : Int)).tmod 10 = (r : Int)) (hr9 : r ≤ 9) (hq0 : (q : Int) ≤ 1000000000000) (hl : l.length ≤ 20)
    (HC : Hid (∀ W, Calls Try.prog 27 #[.int .i64 q] W (DgP l W))) (w : World) : Calls Try.prog 27 #[.int .i64 n] w (DgP (l ++ [r]) w) := by
  have h10 : (10 : Int) ≤ n := by omega
  have hr1 : (r : Int) ≤ 9 := by omega
  have hlen : (l ++ [r]).length = l.length + 1 := by simp
  have hrun : runesV (l ++ [r]) = runesV l ++ [.int .i32 (48 + (r : Int))] := by simp [runesV]
  have H1 := Lib.hid hlen
  have H2 := Lib.hid hrun
  clear hlen hrun
  obtain ⟨ii, hii, hiz, his, hib⟩ := info_parts Try.infoRune
  go_enter Try.func27, Try.ntmps27
  go_wp2_with (first | (go_at_call 27; refine (HC.out _).mono ?_; rintro e w1 ⟨v, rfl, ho1, hb1⟩; have HO1 := Lib.hid ho1; clear ho1) | (at_builtin; refine wpList_append_own _ rfl (.tmp 9) (.tmp 14) 47 rfl w.heap.size 21 ii _ 1 4 Try.underlying47 hii hiz his hib rfl (by decide) _ l.length (runesV l) rfl (HO1.out.alloc _) ⟨w1.heap.size, 0, none⟩ 1 1 [.int .i32 (48 + (r : Int))] rfl rfl (cell_one_newN _ _ _) ?c1 ?c2 ?c3 ?c4 ?_))
  case c1 => first | rfl | (intro u hu; simp at hu; subst hu; rfl)
  case c2 => unfold maxLen; omega
  case c3 => omega
  case c4 => have := hb1.size; simp; omega
  intro v' w7 hown7 hgrow _
  have hb7 : Below w.heap.size w w7 := below_ownN (hb1.alloc hb1.size _) (HO1.out.alloc _) hgrow (by have := hb1.size; simp; omega) (Nat.le_refl _)
  have HO := Lib.hid hown7
  clear hown7 hgrow hb1
  go_wp2_with fail
  go_ret
  exact ⟨_, rfl, by rw [H1.out, H2.out]; exact HO.out, hb7⟩
theorem digits_any : ∀ (f n : Nat), dgOk f n → f ≤ 10 → ∀ w, Calls Try.prog 27 #[.int .i64 n] w (DgP (dgF f n) w) := by
  intro f
  induction f with
  | zero => intro n h _ w; rw [dgF_small 0 n (dgOk_zero h)]; exact digits_small n (dgOk_zero h) w
  | succ f ih =>
    intro n h hf w
    by_cases hn : 10 ≤ n
    · rw [dgF_big f n hn]
      have h12 : n ≤ 1000000000000 := by
        have : n < 10 ^ (f + 2) := h
        have h2 : (10 : Nat) ^ (f + 2) ≤ 10 ^ 12 := Nat.pow_le_pow_right (by decide) (by omega)
        have h3 : (10 : Nat) ^ 12 = 1000000000000 := by decide
        omega
      exact digits_big n (n / 10) (n % 10) _ hn (tdiv10 n) (tmod10 n) (by omega) (by omega) (by have := dgF_len f (n / 10); omega) (Lib.hid fun W => ih (n / 10) (dgOk_down h) (by omega) W) w
    · rw [dgF_small _ n (by omega)]; exact digits_small n (by omega) w
end Go.Proofs.Ytinjlmkdhgaeeaa
