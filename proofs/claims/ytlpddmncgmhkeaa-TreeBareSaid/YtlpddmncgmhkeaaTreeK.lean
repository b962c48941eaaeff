/- Contracts of what fits of statements. -/
import Derived.Test.YtlpddmncgmhkeaaTreeJ
set_option linter.unusedSimpArgs false
set_option linter.unusedVariables false
namespace Go.Proofs.Ytlpddmncgmhkeaa
open Go.RowKit
theorem settable_any (w : World) (k : Int) : Calls Try.prog 88 #[.int .i64 k] w fun e w' => e = .returned (.bool (setB k)) ∧ w = w' := by
  obtain ⟨r, hr⟩ : ∃ r, setB k = r := ⟨_, rfl⟩
  rw [hr]
  have HR := Lib.hid hr; clear hr
  go_enter Try.func88, Try.ntmps88
  go_wp2_with fail
  all_goals (go_ret; refine ⟨ret_bool ?_, rfl⟩; rw [← HR.out]; unfold setB; simp only [beq_iff_eq, beq_eq_false_iff_ne] at *; rw [Bool.eq_iff_iff]; simp only [decide_eq_true_eq, Bool.false_eq_true, true_iff, false_iff]; omega)
theorem callable_any (w : World) (k : Int) : Calls Try.prog 89 #[.int .i64 k] w fun e w' => e = .returned (.bool (calB k)) ∧ w = w' := by
  obtain ⟨r, hr⟩ : ∃ r, calB k = r := ⟨_, rfl⟩
  rw [hr]
  have HR := Lib.hid hr; clear hr
  go_enter Try.func89, Try.ntmps89
  go_wp2_with fail
  all_goals (go_ret; refine ⟨ret_bool ?_, rfl⟩; rw [← HR.out]; unfold calB; simp only [beq_iff_eq, beq_eq_false_iff_ne] at *; rw [Bool.eq_iff_iff]; simp only [decide_eq_true_eq, Bool.false_eq_true, true_iff, false_iff]; omega)
theorem Rw.cell0 {w : World} {A : Option Addr} {n cap : Nat} {l : List Nd} {t : Tg} (h : Rw w t (.slice A n cap) l) (ht : t = .ex ∨ t = .st) (k : Nat) (hk : k < n) : ∃ b o x, A = some ⟨b, o, none⟩ ∧ l[k]? = some x ∧ w.cell? ⟨b, o + k * t.sz, none⟩ = some (.int .i64 x.kind) := by
  obtain ⟨A', cap', hv, _, htg, hc⟩ := h
  injection hv with h1 h2 h3
  obtain ⟨b, o, hA, hcell⟩ := hc (by omega)
  have hl : k < l.length := by omega
  refine ⟨b, o, l[k], h1.trans hA, List.getElem?_eq_getElem hl, ?_⟩
  have htx := htg _ (List.getElem_mem hl)
  refine hcell k _ (List.getElem?_eq_getElem hl) 0 _ ?_
  generalize l[k] = x at htx ⊢
  cases x <;> rcases ht with rfl | rfl <;> first | rfl | (simp [Nd.tag] at htx)
theorem hasSup_drop {l : List Nd} {k : Nat} {x : Nd} (h : l[k]? = some x) : hasSup (l.drop k) = (x.kind == 11 || hasSup (l.drop (k + 1))) := by
  rw [drop_at _ _ h]; rfl
set_option maxRecDepth 100000 in
set_option maxHeartbeats 2000000 in
theorem hasSuper_any (w : World) (v : Value) (l : List Nd) (hr : Rw w .st v l) : Calls Try.prog 79 #[v] w fun e w' => e = .returned (.bool (hasSup l)) ∧ w = w' := by
  have hm : l.length ≤ maxLen := by obtain ⟨_, _, _, hm, _⟩ := hr; exact hm.1
  obtain ⟨A, cap, rfl⟩ := hr.form
  obtain ⟨n, hn⟩ : ∃ n, l.length = n := ⟨_, rfl⟩
  rw [hn] at hm hr ⊢
  have HAT := Lib.hid (hr.cell0 (.inr rfl))
  obtain ⟨r, hres⟩ : ∃ r, hasSup l = r := ⟨_, rfl⟩
  rw [hres]
  have H0 := Lib.hid (show hasSup (l.drop 0) = r from hres)
  have HN := Lib.hid hn
  clear hr hn hres
  unfold maxLen at hm
  go_enter Try.func79, Try.ntmps79
  go_wp2_with fail
  go_loop [6] (fun v6 => ∃ (k : Nat), v6 = .int .i64 k ∧ k ≤ n ∧ hasSup (l.drop k) = r) (fun v6 => n - (intOf v6).toNat)
  case atStart => exact ⟨0, rfl, Nat.zero_le _, H0.out⟩
  case round =>
    obtain ⟨k, rfl, hk, hd⟩ := hrel
    clear H0
    have HD := Lib.hid hd; clear hd
    by_cases hlt : k < n
    · obtain ⟨b, o, x, rfl, hx, c0⟩ := HAT.out k hlt
      simp only [Tg.sz] at c0
      have HE := Lib.hid ((hasSup_drop hx).symm.trans HD.out)
      obtain ⟨kd, hkd⟩ : ∃ kd, x.kind = kd := ⟨_, rfl⟩
      rw [hkd] at HE c0
      clear HD hx hkd
      by_cases h11 : kd = 11
      · subst h11
        have HF := Lib.hid (show r = true by rw [← HE.out]; rfl)
        go_wp2_with fail
        go_ret
        exact ⟨by rw [HF.out]; rfl, rfl⟩
      · have hq : ((kd : Int) == 11) = false := by rw [beq_eq_false_iff_ne]; exact h11
        have HF := Lib.hid (show hasSup (l.drop (k + 1)) = r by rw [← HE.out, hq]; rfl)
        go_wp2_with fail
        go_round
        case rel => exact ⟨k + 1, by go_num, by omega, HF.out⟩
        case measure => simp [intOf]; omega
    · have HF := Lib.hid (show r = false by rw [← HD.out, List.drop_of_length_le (by rw [HN.out]; omega)]; rfl)
      go_wp2_with fail
      go_ret
      exact ⟨by rw [HF.out]; rfl, rfl⟩
theorem Rw.drop1 {w : World} {b o n cap c : Nat} {l : List Nd} (h : Rw w .st (.slice (some ⟨b, o, none⟩) (n + 1) cap) l) (a : Nat) (ha : a = o + 9 ∨ n = 0) (hcc : n ≤ c) : Rw w .st (.slice (some ⟨b, a, none⟩) n c) (l.drop 1) := by
  obtain ⟨A', cap', hv, hm, ht, hc⟩ := h
  injection hv with h1 h2 h3
  have hl : (l.drop 1).length = n := by rw [List.length_drop]; omega
  refine ⟨some ⟨b, a, none⟩, c, by rw [hl], by rw [hl]; omega, fun x hx => ht x (List.mem_of_mem_drop hx), fun hn => ⟨b, a, rfl, fun i x hx j u hu => ?_⟩⟩
  rw [hl] at hn
  obtain ⟨b', o', hA, hcell⟩ := hc (by omega)
  rw [← h1] at hA
  injection hA with hA
  injection hA with hb ho
  subst hb; subst ho
  have hx' : l[i + 1]? = some x := by rw [List.getElem?_drop] at hx; rw [Nat.add_comm]; exact hx
  have := hcell (i + 1) x hx' j u hu
  have e : a + i * Tg.st.sz + j = o + (i + 1) * Tg.st.sz + j := by
    rcases ha with ha | ha
    · subst ha; simp only [Tg.sz]; omega
    · omega
  rw [e]; exact this
theorem Rw.empty (w : World) (t : Tg) (A : Option Addr) (c : Nat) : Rw w t (.slice A 0 c) [] := ⟨A, c, rfl, ⟨by unfold maxLen; simp, by simp⟩, by simp, fun h => by simp at h⟩
def BehindSaid (w : World) (l : List Nd) (e : Ending) (w' : World) : Prop := ∃ v', e = .returned v' ∧ Rw w .st v' l ∧ w = w'
theorem Rw.cap {w : World} {t : Tg} {A : Option Addr} {n cap : Nat} {l : List Nd} (h : Rw w t (.slice A n cap) l) : n ≤ cap := by
  obtain ⟨A', cap', hv, hm, _⟩ := h
  injection hv with h1 h2 h3
  omega
theorem Rw.some {w : World} {t : Tg} {A : Option Addr} {n cap : Nat} {l : List Nd} (h : Rw w t (.slice A (n + 1) cap) l) : ∃ b o, A = some ⟨b, o, none⟩ := by
  obtain ⟨A', cap', hv, hm, ht, hc⟩ := h
  injection hv with h1 h2 h3
  obtain ⟨b, o, hA, _⟩ := hc (by omega)
  exact ⟨b, o, h1.trans hA⟩
set_option maxRecDepth 100000 in
set_option maxHeartbeats 2000000 in
theorem behindFirst_any (w : World) (v : Value) (l : List Nd) (hr : Rw w .st v l) : Calls Try.prog 80 #[v] w (BehindSaid w (l.drop 1)) := by
  have hm : l.length ≤ maxLen := by obtain ⟨_, _, _, hm, _⟩ := hr; exact hm.1
  obtain ⟨A, cap, rfl⟩ := hr.form
  unfold maxLen at hm
  rcases Nat.eq_zero_or_pos l.length with h0 | h0
  · have hl0 : l = [] := List.eq_nil_of_length_eq_zero h0
    subst hl0
    clear hr
    simp only [List.length_nil, List.drop_nil] at *
    go_enter Try.func80, Try.ntmps80
    go_wp2_with fail
    all_goals (go_ret; exact ⟨_, rfl, Rw.empty _ _ _ _, rfl⟩)
  · obtain ⟨m, hlm⟩ : ∃ m, l.length = m + 1 := ⟨l.length - 1, by omega⟩
    rw [hlm] at hr hm ⊢
    obtain ⟨b, o, rfl⟩ := hr.some
    have HR := Lib.hid hr
    have hmin : min (1 : Int) ((m : Int) + 1) = 1 := by omega
    have hcap := hr.cap
    clear hr h0 hlm
    go_enter Try.func80, Try.ntmps80
    go_wp2_with fail
    all_goals go_ret
    · exact ⟨_, rfl, by have := HR.out.drop1 (c := 0) o (.inr (by omega)) (by omega); simpa using this, rfl⟩
    · exact ⟨_, rfl, by have := HR.out.drop1 (c := cap - 1) (o + 9) (.inl rfl) (by omega); simpa using this, rfl⟩
end Go.Proofs.Ytlpddmncgmhkeaa
