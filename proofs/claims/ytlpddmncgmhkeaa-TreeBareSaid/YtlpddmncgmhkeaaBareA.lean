/- Contracts of strings.Clone and of tree.renewed at its types. Written by wip/tools/gen_bare_a.py. -/
import Derived.Test.YtlpddmncgmhkeaaTreeR
import Derived.Laws.AppendOwnNone
set_option linter.unusedSimpArgs false
set_option linter.unusedVariables false
namespace Go.Proofs.Ytlpddmncgmhkeaa
open Go.RowKit
theorem clone_any (s : ByteArray) (w : World) (hs : s.size ≤ 281474976710656) : Calls Try.prog 37 #[.string s] w fun e w' => e = .returned (.string s) ∧ Below w.heap.size w w' := by
  go_enter Try.func37, Try.ntmps37
  go_wp2_with (go_at_call 53; refine (Try.stringslite_Clone _ _ hs).mono ?_; rintro e w1 ⟨rfl, hb⟩)
  go_ret
  exact ⟨rfl, hb⟩
theorem flat_cells {w : World} {b sz : Nat} : ∀ (l : List Nd) (o : Nat), (∀ x ∈ l, (cellsN x).length = sz) → (∀ i x, l[i]? = some x → ∀ j u, (cellsN x)[j]? = some u → w.cell? ⟨b, o + i * sz + j, none⟩ = some u) → ∀ j u, (l.flatMap cellsN)[j]? = some u → w.cell? ⟨b, o + j, none⟩ = some u
  | [], o, _, _, j, u, h => by simp at h
  | x :: l, o, hl, hc, j, u, h => by
    rw [List.flatMap_cons] at h
    have hx := hl x (by simp)
    by_cases hj : j < sz
    · rw [List.getElem?_append_left (by omega)] at h
      have := hc 0 x (by simp) j u h
      simpa using this
    · rw [List.getElem?_append_right (by omega), hx] at h
      have ih := flat_cells l (o + sz) (fun y hy => hl y (by simp [hy])) (fun i y hy j u hu => by
        have := hc (i + 1) y (by simpa using hy) j u hu
        rw [← this]; congr 2; rw [Nat.add_mul]; omega) (j - sz) u h
      have e : o + sz + (j - sz) = o + j := by omega
      rw [e] at ih; exact ih
theorem add_off (b o j : Nat) : (⟨b, o, none⟩ : Addr).add j = ⟨b, o + j, none⟩ := by unfold Addr.add; split <;> simp_all
theorem one_slice (A : Option Addr) (n c : Nat) : (Value.slice A n c).oneCell' = true := rfl
theorem cells_one {w : World} {x : Nd} (h : Kd w x) : ∀ u ∈ cellsN x, u.oneCell' = true := by
  intro u hu
  cases x <;> rw [Kd] at h <;> simp only [cellsN, List.mem_cons, List.not_mem_nil, or_false] at hu
  · obtain ⟨A, c, hv⟩ := h.2.1.form
    rcases hu with rfl | rfl | rfl | rfl | rfl | rfl | rfl | rfl <;> first | rfl | (rw [hv]; rfl)
  · obtain ⟨A, c, hv⟩ := h.2.1.1.form; obtain ⟨A1, c1, hv1⟩ := h.2.2.1.1.form; obtain ⟨A2, c2, hv2⟩ := h.2.2.2.1.1.form; obtain ⟨A3, c3, hv3⟩ := h.2.2.2.2.1.form
    rcases hu with rfl | rfl | rfl | rfl | rfl | rfl | rfl | rfl | rfl <;> first | rfl | (rw [hv]; rfl) | (rw [hv1]; rfl) | (rw [hv2]; rfl) | (rw [hv3]; rfl)
  · obtain ⟨A, c, hv⟩ := h.2.1.form
    rcases hu with rfl | rfl | rfl | rfl <;> first | rfl | (rw [hv]; rfl)
  · obtain ⟨A, c, hv⟩ := h.2.2.1.form; obtain ⟨A1, c1, hv1, _⟩ := h.2.1.form
    rcases hu with rfl | rfl | rfl | rfl | rfl | rfl <;> first | rfl | (rw [hv]; rfl) | (rw [hv1]; rfl)
  · obtain ⟨A, c, hv⟩ := h.2.1.1.form; obtain ⟨A1, c1, hv1⟩ := h.2.2.1.form
    rcases hu with rfl | rfl | rfl | rfl <;> first | rfl | (rw [hv]; rfl) | (rw [hv1]; rfl)
theorem flat_len {l : List Nd} {t : Tg} (h : ∀ x ∈ l, x.tag = t) : (l.flatMap cellsN).length = l.length * t.sz := by
  induction l with
  | nil => simp
  | cons x l ih =>
    rw [List.flatMap_cons, List.length_append, cells_len, h x (by simp), ih fun y hy => h y (by simp [hy]), List.length_cons, Nat.add_mul]; omega
theorem rw_flat {w : World} {t : Tg} {A : Option Addr} {n cap : Nat} {l : List Nd} (h : Rw w t (.slice A n cap) l) : (l.flatMap cellsN).length = n * t.sz ∧ ∀ ad, A = some ad → ∀ j u, (l.flatMap cellsN)[j]? = some u → w.cell? (ad.add j) = some u := by
  obtain ⟨A', cap', hv, _, ht, hc⟩ := h
  injection hv with h1 h2 h3
  refine ⟨by rw [flat_len ht, h2], fun ad hA j u hu => ?_⟩
  rcases Nat.eq_zero_or_pos l.length with h0 | h0
  · have : l = [] := List.eq_nil_of_length_eq_zero h0
    subst this; simp at hu
  · obtain ⟨b, o, hA', hcell⟩ := hc h0
    rw [← h1, hA] at hA'
    injection hA' with hA'
    subst hA'
    rw [add_off]
    exact flat_cells l o (fun x hx => by rw [cells_len, ht x hx]) hcell j u hu
theorem rw_none_nil {w : World} {t : Tg} {n cap : Nat} {l : List Nd} (h : Rw w t (.slice none n cap) l) : l = [] ∧ n = 0 := by
  obtain ⟨A', cap', hv, _, ht, hc⟩ := h
  injection hv with h1 h2 h3
  rcases Nat.eq_zero_or_pos l.length with h0 | h0
  · exact ⟨List.eq_nil_of_length_eq_zero h0, by omega⟩
  · obtain ⟨b, o, hA', _⟩ := hc h0
    rw [← h1] at hA'; cases hA'
def RenewSaid (w : World) (T : TypeId) (sz n : Nat) (xs : List Value) (e : Ending) (w' : World) : Prop := ∃ v', e = .returned v' ∧ w'.ownsRow w.heap.size T sz v' n xs ∧ Below w.heap.size w w'
theorem Try.infoOfExpr : (Try.prog.info? 41).map (fun i => (i.zero, i.size, i.bytes)) = some (some (.agg #[.int .i64 0, .int .i32 0, .string ⟨#[]⟩, .string ⟨#[]⟩, .string ⟨#[]⟩, .slice none 0 0, .string ⟨#[]⟩, .int .i64 0]), 8, 112) := by kernel_rfl
set_option maxRecDepth 100000 in
set_option maxHeartbeats 1000000 in
theorem renewed_ex (w : World) (v : Value) (l : List Nd) (hr : Rw w .ex v l) (hk : KdL w l) (hs : l.length ≤ 1000000) : Calls Try.prog 38 #[v] w (RenewSaid w 41 8 l.length (l.flatMap cellsN)) := by
  have hone : ∀ u ∈ (l.flatMap cellsN), u.oneCell' = true := by intro u hu; rw [List.mem_flatMap] at hu; obtain ⟨x, hx, hu⟩ := hu; exact cells_one (KdL_mem hk x hx) u hu
  obtain ⟨A, cap, rfl⟩ := hr.form
  obtain ⟨xs, hxs⟩ : ∃ xs, (l.flatMap cellsN) = xs := ⟨_, rfl⟩
  have hfl := rw_flat hr
  rw [hxs] at hone hfl ⊢
  obtain ⟨n, hn⟩ : ∃ n, l.length = n := ⟨_, rfl⟩
  rw [hn] at hs hfl hr ⊢
  obtain ⟨i0, hi, hz0, hz1, hz2⟩ := info_parts Try.infoOfExpr
  have hown := World.ownsRow_nil w w.heap.size 41 8
  cases A with
  | none =>
    obtain ⟨h1, h2⟩ := rw_none_nil hr
    subst h2
    have hxn : xs = [] := List.eq_nil_of_length_eq_zero (by have := hfl.1; simpa using this)
    subst hxn
    clear hr hfl hone hxs hn h1
    go_enter Try.func38, Try.ntmps38
    go_wp2_with fail
    go_ret
    exact ⟨_, rfl, by simpa using hown, Below.refl _ _⟩
  | some ad =>
    have HN := Lib.hid (hfl.2 ad rfl)
    have HL := Lib.hid hfl.1
    have HO := Lib.hid hone
    clear hr hfl hone hxs hn
    go_enter Try.func38, Try.ntmps38
    go_wp2_with (at_builtin; refine wpList_append_own_at _ rfl _ (.tmp 3) 34 rfl w.heap.size 41 i0 _ 8 112 Try.underlying34 hi hz0 hz1 hz2 rfl (by decide) _ _ _ rfl hown ad n cap xs rfl HL.out HN.out HO.out (by unfold maxLen; omega) (by omega) (Nat.le_refl _) ?_; intro v' w1 hown' hgrow _ _; have hfin : RenewSaid w 41 8 n xs (.returned v') w1 := ⟨v', rfl, by simpa using hown', (Below.refl _ w).grown hgrow (Nat.le_refl _) (fun k h => by have h' : (none : Option Nat) = some k := h; cases h')⟩; clear hown' hgrow)
    go_ret
    exact hfin
theorem Try.infoOfStmt : (Try.prog.info? 47).map (fun i => (i.zero, i.size, i.bytes)) = some (some (.agg #[.int .i64 0, .int .i32 0, .string ⟨#[]⟩, .string ⟨#[]⟩, .slice none 0 0, .slice none 0 0, .slice none 0 0, .slice none 0 0, .int .i64 0]), 9, 152) := by kernel_rfl
set_option maxRecDepth 100000 in
set_option maxHeartbeats 1000000 in
theorem renewed_st (w : World) (v : Value) (l : List Nd) (hr : Rw w .st v l) (hk : KdL w l) (hs : l.length ≤ 1000000) : Calls Try.prog 51 #[v] w (RenewSaid w 47 9 l.length (l.flatMap cellsN)) := by
  have hone : ∀ u ∈ (l.flatMap cellsN), u.oneCell' = true := by intro u hu; rw [List.mem_flatMap] at hu; obtain ⟨x, hx, hu⟩ := hu; exact cells_one (KdL_mem hk x hx) u hu
  obtain ⟨A, cap, rfl⟩ := hr.form
  obtain ⟨xs, hxs⟩ : ∃ xs, (l.flatMap cellsN) = xs := ⟨_, rfl⟩
  have hfl := rw_flat hr
  rw [hxs] at hone hfl ⊢
  obtain ⟨n, hn⟩ : ∃ n, l.length = n := ⟨_, rfl⟩
  rw [hn] at hs hfl hr ⊢
  obtain ⟨i0, hi, hz0, hz1, hz2⟩ := info_parts Try.infoOfStmt
  have hown := World.ownsRow_nil w w.heap.size 47 9
  cases A with
  | none =>
    obtain ⟨h1, h2⟩ := rw_none_nil hr
    subst h2
    have hxn : xs = [] := List.eq_nil_of_length_eq_zero (by have := hfl.1; simpa using this)
    subst hxn
    clear hr hfl hone hxs hn h1
    go_enter Try.func51, Try.ntmps51
    go_wp2_with fail
    go_ret
    exact ⟨_, rfl, by simpa using hown, Below.refl _ _⟩
  | some ad =>
    have HN := Lib.hid (hfl.2 ad rfl)
    have HL := Lib.hid hfl.1
    have HO := Lib.hid hone
    clear hr hfl hone hxs hn
    go_enter Try.func51, Try.ntmps51
    go_wp2_with (at_builtin; refine wpList_append_own_at _ rfl _ (.tmp 3) 37 rfl w.heap.size 47 i0 _ 9 152 Try.underlying37 hi hz0 hz1 hz2 rfl (by decide) _ _ _ rfl hown ad n cap xs rfl HL.out HN.out HO.out (by unfold maxLen; omega) (by omega) (Nat.le_refl _) ?_; intro v' w1 hown' hgrow _ _; have hfin : RenewSaid w 47 9 n xs (.returned v') w1 := ⟨v', rfl, by simpa using hown', (Below.refl _ w).grown hgrow (Nat.le_refl _) (fun k h => by have h' : (none : Option Nat) = some k := h; cases h')⟩; clear hown' hgrow)
    go_ret
    exact hfin
theorem Try.infoOfField : (Try.prog.info? 44).map (fun i => (i.zero, i.size, i.bytes)) = some (some (.agg #[.bool false, .string ⟨#[]⟩, .string ⟨#[]⟩, .slice none 0 0]), 4, 64) := by kernel_rfl
set_option maxRecDepth 100000 in
set_option maxHeartbeats 1000000 in
theorem renewed_fd (w : World) (v : Value) (l : List Nd) (hr : Rw w .fd v l) (hk : KdL w l) (hs : l.length ≤ 1000000) : Calls Try.prog 39 #[v] w (RenewSaid w 44 4 l.length (l.flatMap cellsN)) := by
  have hone : ∀ u ∈ (l.flatMap cellsN), u.oneCell' = true := by intro u hu; rw [List.mem_flatMap] at hu; obtain ⟨x, hx, hu⟩ := hu; exact cells_one (KdL_mem hk x hx) u hu
  obtain ⟨A, cap, rfl⟩ := hr.form
  obtain ⟨xs, hxs⟩ : ∃ xs, (l.flatMap cellsN) = xs := ⟨_, rfl⟩
  have hfl := rw_flat hr
  rw [hxs] at hone hfl ⊢
  obtain ⟨n, hn⟩ : ∃ n, l.length = n := ⟨_, rfl⟩
  rw [hn] at hs hfl hr ⊢
  obtain ⟨i0, hi, hz0, hz1, hz2⟩ := info_parts Try.infoOfField
  have hown := World.ownsRow_nil w w.heap.size 44 4
  cases A with
  | none =>
    obtain ⟨h1, h2⟩ := rw_none_nil hr
    subst h2
    have hxn : xs = [] := List.eq_nil_of_length_eq_zero (by have := hfl.1; simpa using this)
    subst hxn
    clear hr hfl hone hxs hn h1
    go_enter Try.func39, Try.ntmps39
    go_wp2_with fail
    go_ret
    exact ⟨_, rfl, by simpa using hown, Below.refl _ _⟩
  | some ad =>
    have HN := Lib.hid (hfl.2 ad rfl)
    have HL := Lib.hid hfl.1
    have HO := Lib.hid hone
    clear hr hfl hone hxs hn
    go_enter Try.func39, Try.ntmps39
    go_wp2_with (at_builtin; refine wpList_append_own_at _ rfl _ (.tmp 3) 30 rfl w.heap.size 44 i0 _ 4 64 Try.underlying30 hi hz0 hz1 hz2 rfl (by decide) _ _ _ rfl hown ad n cap xs rfl HL.out HN.out HO.out (by unfold maxLen; omega) (by omega) (Nat.le_refl _) ?_; intro v' w1 hown' hgrow _ _; have hfin : RenewSaid w 44 4 n xs (.returned v') w1 := ⟨v', rfl, by simpa using hown', (Below.refl _ w).grown hgrow (Nat.le_refl _) (fun k h => by have h' : (none : Option Nat) = some k := h; cases h')⟩; clear hown' hgrow)
    go_ret
    exact hfin
theorem Try.infoOfMethod : (Try.prog.info? 39).map (fun i => (i.zero, i.size, i.bytes)) = some (some (.agg #[.bool false, .bool false, .string ⟨#[]⟩, .string ⟨#[]⟩, .slice none 0 0, .slice none 0 0]), 6, 88) := by kernel_rfl
set_option maxRecDepth 100000 in
set_option maxHeartbeats 1000000 in
theorem renewed_mt (w : World) (v : Value) (l : List Nd) (hr : Rw w .mt v l) (hk : KdL w l) (hs : l.length ≤ 1000000) : Calls Try.prog 40 #[v] w (RenewSaid w 39 6 l.length (l.flatMap cellsN)) := by
  have hone : ∀ u ∈ (l.flatMap cellsN), u.oneCell' = true := by intro u hu; rw [List.mem_flatMap] at hu; obtain ⟨x, hx, hu⟩ := hu; exact cells_one (KdL_mem hk x hx) u hu
  obtain ⟨A, cap, rfl⟩ := hr.form
  obtain ⟨xs, hxs⟩ : ∃ xs, (l.flatMap cellsN) = xs := ⟨_, rfl⟩
  have hfl := rw_flat hr
  rw [hxs] at hone hfl ⊢
  obtain ⟨n, hn⟩ : ∃ n, l.length = n := ⟨_, rfl⟩
  rw [hn] at hs hfl hr ⊢
  obtain ⟨i0, hi, hz0, hz1, hz2⟩ := info_parts Try.infoOfMethod
  have hown := World.ownsRow_nil w w.heap.size 39 6
  cases A with
  | none =>
    obtain ⟨h1, h2⟩ := rw_none_nil hr
    subst h2
    have hxn : xs = [] := List.eq_nil_of_length_eq_zero (by have := hfl.1; simpa using this)
    subst hxn
    clear hr hfl hone hxs hn h1
    go_enter Try.func40, Try.ntmps40
    go_wp2_with fail
    go_ret
    exact ⟨_, rfl, by simpa using hown, Below.refl _ _⟩
  | some ad =>
    have HN := Lib.hid (hfl.2 ad rfl)
    have HL := Lib.hid hfl.1
    have HO := Lib.hid hone
    clear hr hfl hone hxs hn
    go_enter Try.func40, Try.ntmps40
    go_wp2_with (at_builtin; refine wpList_append_own_at _ rfl _ (.tmp 3) 31 rfl w.heap.size 39 i0 _ 6 88 Try.underlying31 hi hz0 hz1 hz2 rfl (by decide) _ _ _ rfl hown ad n cap xs rfl HL.out HN.out HO.out (by unfold maxLen; omega) (by omega) (Nat.le_refl _) ?_; intro v' w1 hown' hgrow _ _; have hfin : RenewSaid w 39 6 n xs (.returned v') w1 := ⟨v', rfl, by simpa using hown', (Below.refl _ w).grown hgrow (Nat.le_refl _) (fun k h => by have h' : (none : Option Nat) = some k := h; cases h')⟩; clear hown' hgrow)
    go_ret
    exact hfin
theorem Try.infoOfClass : (Try.prog.info? 33).map (fun i => (i.zero, i.size, i.bytes)) = some (some (.agg #[.string ⟨#[]⟩, .string ⟨#[]⟩, .slice none 0 0, .slice none 0 0]), 4, 80) := by kernel_rfl
set_option maxRecDepth 100000 in
set_option maxHeartbeats 1000000 in
theorem renewed_cl (w : World) (v : Value) (l : List Nd) (hr : Rw w .cl v l) (hk : KdL w l) (hs : l.length ≤ 1000000) : Calls Try.prog 21 #[v] w (RenewSaid w 33 4 l.length (l.flatMap cellsN)) := by
  have hone : ∀ u ∈ (l.flatMap cellsN), u.oneCell' = true := by intro u hu; rw [List.mem_flatMap] at hu; obtain ⟨x, hx, hu⟩ := hu; exact cells_one (KdL_mem hk x hx) u hu
  obtain ⟨A, cap, rfl⟩ := hr.form
  obtain ⟨xs, hxs⟩ : ∃ xs, (l.flatMap cellsN) = xs := ⟨_, rfl⟩
  have hfl := rw_flat hr
  rw [hxs] at hone hfl ⊢
  obtain ⟨n, hn⟩ : ∃ n, l.length = n := ⟨_, rfl⟩
  rw [hn] at hs hfl hr ⊢
  obtain ⟨i0, hi, hz0, hz1, hz2⟩ := info_parts Try.infoOfClass
  have hown := World.ownsRow_nil w w.heap.size 33 4
  cases A with
  | none =>
    obtain ⟨h1, h2⟩ := rw_none_nil hr
    subst h2
    have hxn : xs = [] := List.eq_nil_of_length_eq_zero (by have := hfl.1; simpa using this)
    subst hxn
    clear hr hfl hone hxs hn h1
    go_enter Try.func21, Try.ntmps21
    go_wp2_with fail
    go_ret
    exact ⟨_, rfl, by simpa using hown, Below.refl _ _⟩
  | some ad =>
    have HN := Lib.hid (hfl.2 ad rfl)
    have HL := Lib.hid hfl.1
    have HO := Lib.hid hone
    clear hr hfl hone hxs hn
    go_enter Try.func21, Try.ntmps21
    go_wp2_with (at_builtin; refine wpList_append_own_at _ rfl _ (.tmp 3) 22 rfl w.heap.size 33 i0 _ 4 80 Try.underlying22 hi hz0 hz1 hz2 rfl (by decide) _ _ _ rfl hown ad n cap xs rfl HL.out HN.out HO.out (by unfold maxLen; omega) (by omega) (Nat.le_refl _) ?_; intro v' w1 hown' hgrow _ _; have hfin : RenewSaid w 33 4 n xs (.returned v') w1 := ⟨v', rfl, by simpa using hown', (Below.refl _ w).grown hgrow (Nat.le_refl _) (fun k h => by have h' : (none : Option Nat) = some k := h; cases h')⟩; clear hown' hgrow)
    go_ret
    exact hfin
theorem Try.infoOfParam : (Try.prog.info? 97).map (fun i => (i.zero, i.size, i.bytes)) = some (some (.agg #[.string ⟨#[]⟩, .string ⟨#[]⟩]), 2, 32) := by kernel_rfl
def cellsP (l : List Prm) : List Value := l.flatMap fun p => [.string p.1, .string p.2]
theorem cellsP_len (l : List Prm) : (cellsP l).length = l.length * 2 := by
  unfold cellsP
  induction l with
  | nil => simp
  | cons x l ih => simp only [List.flatMap_cons, List.length_append, List.length_cons, ih, List.length_nil]; omega
theorem flat_cellsP {w : World} {b : Nat} : ∀ (l : List Prm) (o : Nat), (∀ i x, l[i]? = some x → w.cell? ⟨b, o + i * 2, none⟩ = some (.string x.1) ∧ w.cell? ⟨b, o + i * 2 + 1, none⟩ = some (.string x.2)) → ∀ j u, (cellsP l)[j]? = some u → w.cell? ⟨b, o + j, none⟩ = some u
  | [], o, _, j, u, h => by simp [cellsP] at h
  | x :: l, o, hc, j, u, h => by
    have ih := flat_cellsP l (o + 2) (fun i y hy => by
      have := hc (i + 1) y (by simpa using hy)
      have e : o + 2 + i * 2 = o + (i + 1) * 2 := by omega
      rw [e]; exact this)
    have h0 := hc 0 x (by simp)
    simp only [Nat.zero_mul, Nat.add_zero] at h0
    match j, h with
    | 0, h => simp [cellsP] at h; subst h; exact h0.1
    | 1, h => simp [cellsP] at h; subst h; exact h0.2
    | j + 2, h =>
      have h' : (cellsP l)[j]? = some u := by simpa [cellsP] using h
      have := ih j u h'
      have e : o + 2 + j = o + (j + 2) := by omega
      rw [e] at this; exact this
theorem pw_flat {w : World} {A : Option Addr} {n cap : Nat} {l : List Prm} (h : Pw w (.slice A n cap) l) : (cellsP l).length = n * 2 ∧ ∀ ad, A = some ad → ∀ j u, (cellsP l)[j]? = some u → w.cell? (ad.add j) = some u := by
  obtain ⟨A', cap', hv, _, _, hc⟩ := h
  injection hv with h1 h2 h3
  refine ⟨by rw [cellsP_len, h2], fun ad hA j u hu => ?_⟩
  rcases Nat.eq_zero_or_pos l.length with h0 | h0
  · have : l = [] := List.eq_nil_of_length_eq_zero h0
    subst this; simp [cellsP] at hu
  · obtain ⟨b, o, hA', hcell⟩ := hc h0
    rw [← h1, hA] at hA'
    injection hA' with hA'
    subst hA'
    rw [add_off]
    exact flat_cellsP l o hcell j u hu
theorem pw_none_nil {w : World} {n cap : Nat} {l : List Prm} (h : Pw w (.slice none n cap) l) : l = [] ∧ n = 0 := by
  obtain ⟨A', cap', hv, _, ht, hc⟩ := h
  injection hv with h1 h2 h3
  rcases Nat.eq_zero_or_pos l.length with h0 | h0
  · exact ⟨List.eq_nil_of_length_eq_zero h0, by omega⟩
  · obtain ⟨b, o, hA', _⟩ := hc h0
    rw [← h1] at hA'; cases hA'
set_option maxRecDepth 100000 in
set_option maxHeartbeats 1000000 in
theorem renewed_pm (w : World) (v : Value) (l : List Prm) (hr : Pw w v l) (hs : l.length ≤ 1000000) : Calls Try.prog 52 #[v] w (RenewSaid w 97 2 l.length (cellsP l)) := by
  have hone : ∀ u ∈ (cellsP l), u.oneCell' = true := by intro u hu; simp only [cellsP, List.mem_flatMap] at hu; obtain ⟨p, _, hu⟩ := hu; simp at hu; rcases hu with rfl | rfl <;> rfl
  obtain ⟨A, cap, rfl, _⟩ := hr.form
  obtain ⟨xs, hxs⟩ : ∃ xs, (cellsP l) = xs := ⟨_, rfl⟩
  have hfl := pw_flat hr
  rw [hxs] at hone hfl ⊢
  obtain ⟨n, hn⟩ : ∃ n, l.length = n := ⟨_, rfl⟩
  rw [hn] at hs hfl hr ⊢
  obtain ⟨i0, hi, hz0, hz1, hz2⟩ := info_parts Try.infoOfParam
  have hown := World.ownsRow_nil w w.heap.size 97 2
  cases A with
  | none =>
    obtain ⟨h1, h2⟩ := pw_none_nil hr
    subst h2
    have hxn : xs = [] := List.eq_nil_of_length_eq_zero (by have := hfl.1; simpa using this)
    subst hxn
    clear hr hfl hone hxs hn h1
    go_enter Try.func52, Try.ntmps52
    go_wp2_with fail
    go_ret
    exact ⟨_, rfl, by simpa using hown, Below.refl _ _⟩
  | some ad =>
    have HN := Lib.hid (hfl.2 ad rfl)
    have HL := Lib.hid hfl.1
    have HO := Lib.hid hone
    clear hr hfl hone hxs hn
    go_enter Try.func52, Try.ntmps52
    go_wp2_with (at_builtin; refine wpList_append_own_at _ rfl _ (.tmp 3) 36 rfl w.heap.size 97 i0 _ 2 32 Try.underlying36 hi hz0 hz1 hz2 rfl (by decide) _ _ _ rfl hown ad n cap xs rfl HL.out HN.out HO.out (by unfold maxLen; omega) (by omega) (Nat.le_refl _) ?_; intro v' w1 hown' hgrow _ _; have hfin : RenewSaid w 97 2 n xs (.returned v') w1 := ⟨v', rfl, by simpa using hown', (Below.refl _ w).grown hgrow (Nat.le_refl _) (fun k h => by have h' : (none : Option Nat) = some k := h; cases h')⟩; clear hown' hgrow)
    go_ret
    exact hfin
end Go.Proofs.Ytlpddmncgmhkeaa
