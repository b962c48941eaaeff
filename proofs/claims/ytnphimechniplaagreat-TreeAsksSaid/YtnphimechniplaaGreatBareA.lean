/- Contracts of strings.Clone and of tree.renewed at its types. Written by wip/tools/gen_bare_a.py. -/
import Derived.Test.YtnphimechniplaaGreatTreeR
import Derived.Laws.AppendOwnNone
import Derived.Deep.RegionHeld3
import Derived.Deep.DeepCutAuto
import Derived.Laws.IdiomCopy
set_option linter.unusedSimpArgs false
set_option linter.unusedVariables false
namespace Go.Proofs.YtnphimechniplaaGreat
open Go.RowKit
theorem clone_any (s : ByteArray) (w : World) (hs : s.size ≤ 281474976710656) : Calls Tryz.prog 56 #[.string s] w fun e w' => e = .returned (.string s) ∧ Below w.heap.size w w' := by
  go_enter Tryz.func56, Tryz.ntmps56
  go_wp2_with (go_at_call 82; refine (Tryz.stringslite_Clone _ _ hs).mono ?_; rintro e w1 ⟨rfl, hb⟩)
  go_ret
  exact ⟨rfl, hb⟩
theorem flat_cells {w : World} {b sz : Nat} : ∀ (l : List Nd) (o : Nat), (∀ x ∈ l, (cellsN x).length = sz) → (∀ i x, l[i]? = some x → ∀ j u, (cellsN x)[j]? = some u → w.cell? ⟨b, o + i * sz + j, none⟩ = some u) → ∀ j u, (l.flatMap cellsN)[j]? = some u → w.cell? ⟨b, o + j, none⟩ = some u
  | [], o, _, _, j, u, h => by simp at h
  | x :: l, o, hl, hc, j, u, h => by
    rw [List.flatMap_cons] at h
    have hx := hl x (by simp)
    by_cases hj : j < sz
    · rw [List.getElem?_append_left (by omega)] at h
      have := hc 0 x (by simp) j u h
      simpa using this
    · rw [List.getElem?_append_right (by omega), hx] at h
      have ih := flat_cells l (o + sz) (fun y hy => hl y (by simp [hy])) (fun i y hy j u hu => by
        have := hc (i + 1) y (by simpa using hy) j u hu
        rw [← this]; congr 2; rw [Nat.add_mul]; omega) (j - sz) u h
      have e : o + sz + (j - sz) = o + j := by omega
      rw [e] at ih; exact ih
theorem add_off (b o j : Nat) : (⟨b, o, none⟩ : Addr).add j = ⟨b, o + j, none⟩ := by unfold Addr.add; split <;> simp_all
theorem one_slice (A : Option Addr) (n c : Nat) : (Value.slice A n c).oneCell' = true := rfl
theorem cells_one {w : World} {x : Nd} (h : Kd w x) : ∀ u ∈ cellsN x, u.oneCell' = true := by
  intro u hu
  cases x <;> rw [Kd] at h <;> simp only [cellsN, List.mem_cons, List.not_mem_nil, or_false] at hu
  · obtain ⟨A, c, hv⟩ := h.2.1.form
    rcases hu with rfl | rfl | rfl | rfl | rfl | rfl | rfl | rfl <;> first | rfl | (rw [hv]; rfl)
  · obtain ⟨A, c, hv⟩ := h.2.1.1.form; obtain ⟨A1, c1, hv1⟩ := h.2.2.1.1.form; obtain ⟨A2, c2, hv2⟩ := h.2.2.2.1.1.form; obtain ⟨A3, c3, hv3⟩ := h.2.2.2.2.1.form
    rcases hu with rfl | rfl | rfl | rfl | rfl | rfl | rfl | rfl | rfl <;> first | rfl | (rw [hv]; rfl) | (rw [hv1]; rfl) | (rw [hv2]; rfl) | (rw [hv3]; rfl)
  · obtain ⟨A, c, hv⟩ := h.2.1.form
    rcases hu with rfl | rfl | rfl | rfl <;> first | rfl | (rw [hv]; rfl)
  · obtain ⟨A, c, hv⟩ := h.2.2.1.form; obtain ⟨A1, c1, hv1, _⟩ := h.2.1.form
    rcases hu with rfl | rfl | rfl | rfl | rfl | rfl <;> first | rfl | (rw [hv]; rfl) | (rw [hv1]; rfl)
  · obtain ⟨A, c, hv⟩ := h.2.1.1.form; obtain ⟨A1, c1, hv1⟩ := h.2.2.1.form
    rcases hu with rfl | rfl | rfl | rfl <;> first | rfl | (rw [hv]; rfl) | (rw [hv1]; rfl)
theorem flat_len {l : List Nd} {t : Tg} (h : ∀ x ∈ l, x.tag = t) : (l.flatMap cellsN).length = l.length * t.sz := by
  induction l with
  | nil => simp
  | cons x l ih =>
    rw [List.flatMap_cons, List.length_append, cells_len, h x (by simp), ih fun y hy => h y (by simp [hy]), List.length_cons, Nat.add_mul]; omega
theorem rw_flat {w : World} {t : Tg} {A : Option Addr} {n cap : Nat} {l : List Nd} (h : Rw w t (.slice A n cap) l) : (l.flatMap cellsN).length = n * t.sz ∧ ∀ ad, A = some ad → ∀ j u, (l.flatMap cellsN)[j]? = some u → w.cell? (ad.add j) = some u := by
  obtain ⟨A', cap', hv, _, ht, hc⟩ := h
  injection hv with h1 h2 h3
  refine ⟨by rw [flat_len ht, h2], fun ad hA j u hu => ?_⟩
  rcases Nat.eq_zero_or_pos l.length with h0 | h0
  · have : l = [] := List.eq_nil_of_length_eq_zero h0
    subst this; simp at hu
  · obtain ⟨b, o, hA', hcell⟩ := hc h0
    rw [← h1, hA] at hA'
    injection hA' with hA'
    subst hA'
    rw [add_off]
    exact flat_cells l o (fun x hx => by rw [cells_len, ht x hx]) hcell j u hu
theorem rw_none_nil {w : World} {t : Tg} {n cap : Nat} {l : List Nd} (h : Rw w t (.slice none n cap) l) : l = [] ∧ n = 0 := by
  obtain ⟨A', cap', hv, _, ht, hc⟩ := h
  injection hv with h1 h2 h3
  rcases Nat.eq_zero_or_pos l.length with h0 | h0
  · exact ⟨List.eq_nil_of_length_eq_zero h0, by omega⟩
  · obtain ⟨b, o, hA', _⟩ := hc h0
    rw [← h1] at hA'; cases hA'
def RenewSaid (w : World) (T : TypeId) (sz n : Nat) (xs : List Value) (e : Ending) (w' : World) : Prop := ∃ v', e = .returned v' ∧ w'.ownsRow w.heap.size T sz v' n xs ∧ Below w.heap.size w w'
theorem Tryz.infoOfExpr : (Tryz.prog.info? 43).map (fun i => (i.zero, i.size, i.bytes)) = some (some (.agg #[.int .i64 0, .int .i32 0, .string ⟨#[]⟩, .string ⟨#[]⟩, .string ⟨#[]⟩, .slice none 0 0, .string ⟨#[]⟩, .int .i64 0]), 8, 112) := by kernel_rfl
set_option maxRecDepth 100000 in
set_option maxHeartbeats 1000000 in
theorem renewed_ex (w : World) (v : Value) (l : List Nd) (hr : Rw w .ex v l) (hk : KdL w l) (hs : l.length ≤ 1000000) : Calls Tryz.prog 57 #[v] w (RenewSaid w 43 8 l.length (l.flatMap cellsN)) := by
  have hone : ∀ u ∈ (l.flatMap cellsN), u.oneCell' = true := by intro u hu; rw [List.mem_flatMap] at hu; obtain ⟨x, hx, hu⟩ := hu; exact cells_one (KdL_mem hk x hx) u hu
  obtain ⟨A, cap, rfl⟩ := hr.form
  obtain ⟨xs, hxs⟩ : ∃ xs, (l.flatMap cellsN) = xs := ⟨_, rfl⟩
  have hfl := rw_flat hr
  rw [hxs] at hone hfl ⊢
  obtain ⟨n, hn⟩ : ∃ n, l.length = n := ⟨_, rfl⟩
  rw [hn] at hs hfl hr ⊢
  obtain ⟨i0, hi, hz0, hz1, hz2⟩ := info_parts Tryz.infoOfExpr
  have hown := World.ownsRow_nil w w.heap.size 43 8
  cases A with
  | none =>
    obtain ⟨h1, h2⟩ := rw_none_nil hr
    subst h2
    have hxn : xs = [] := List.eq_nil_of_length_eq_zero (by have := hfl.1; simpa using this)
    subst hxn
    clear hr hfl hone hxs hn h1
    go_enter Tryz.func57, Tryz.ntmps57
    go_wp2_with fail
    go_ret
    exact ⟨_, rfl, by simpa using hown, Below.refl _ _⟩
  | some ad =>
    have HN := Lib.hid (hfl.2 ad rfl)
    have HL := Lib.hid hfl.1
    have HO := Lib.hid hone
    clear hr hfl hone hxs hn
    go_enter Tryz.func57, Tryz.ntmps57
    go_wp2_with (at_builtin; refine wpList_append_own_at _ rfl _ (.tmp 3) 34 rfl w.heap.size 43 i0 _ 8 112 Tryz.underlying34 hi hz0 hz1 hz2 rfl (by decide) _ _ _ rfl hown ad n cap xs rfl HL.out HN.out HO.out (by unfold maxLen; omega) (by omega) (Nat.le_refl _) ?_; intro v' w1 hown' hgrow _ _; have hfin : RenewSaid w 43 8 n xs (.returned v') w1 := ⟨v', rfl, by simpa using hown', (Below.refl _ w).grown hgrow (Nat.le_refl _) (fun k h => by have h' : (none : Option Nat) = some k := h; cases h')⟩; clear hown' hgrow)
    go_ret
    exact hfin
theorem Tryz.infoOfStmt : (Tryz.prog.info? 45).map (fun i => (i.zero, i.size, i.bytes)) = some (some (.agg #[.int .i64 0, .int .i32 0, .string ⟨#[]⟩, .string ⟨#[]⟩, .slice none 0 0, .slice none 0 0, .slice none 0 0, .slice none 0 0, .int .i64 0]), 9, 152) := by kernel_rfl
set_option maxRecDepth 100000 in
set_option maxHeartbeats 1000000 in
theorem renewed_st (w : World) (v : Value) (l : List Nd) (hr : Rw w .st v l) (hk : KdL w l) (hs : l.length ≤ 1000000) : Calls Tryz.prog 80 #[v] w (RenewSaid w 45 9 l.length (l.flatMap cellsN)) := by
  have hone : ∀ u ∈ (l.flatMap cellsN), u.oneCell' = true := by intro u hu; rw [List.mem_flatMap] at hu; obtain ⟨x, hx, hu⟩ := hu; exact cells_one (KdL_mem hk x hx) u hu
  obtain ⟨A, cap, rfl⟩ := hr.form
  obtain ⟨xs, hxs⟩ : ∃ xs, (l.flatMap cellsN) = xs := ⟨_, rfl⟩
  have hfl := rw_flat hr
  rw [hxs] at hone hfl ⊢
  obtain ⟨n, hn⟩ : ∃ n, l.length = n := ⟨_, rfl⟩
  rw [hn] at hs hfl hr ⊢
  obtain ⟨i0, hi, hz0, hz1, hz2⟩ := info_parts Tryz.infoOfStmt
  have hown := World.ownsRow_nil w w.heap.size 45 9
  cases A with
  | none =>
    obtain ⟨h1, h2⟩ := rw_none_nil hr
    subst h2
    have hxn : xs = [] := List.eq_nil_of_length_eq_zero (by have := hfl.1; simpa using this)
    subst hxn
    clear hr hfl hone hxs hn h1
    go_enter Tryz.func80, Tryz.ntmps80
    go_wp2_with fail
    go_ret
    exact ⟨_, rfl, by simpa using hown, Below.refl _ _⟩
  | some ad =>
    have HN := Lib.hid (hfl.2 ad rfl)
    have HL := Lib.hid hfl.1
    have HO := Lib.hid hone
    clear hr hfl hone hxs hn
    go_enter Tryz.func80, Tryz.ntmps80
    go_wp2_with (at_builtin; refine wpList_append_own_at _ rfl _ (.tmp 3) 39 rfl w.heap.size 45 i0 _ 9 152 Tryz.underlying39 hi hz0 hz1 hz2 rfl (by decide) _ _ _ rfl hown ad n cap xs rfl HL.out HN.out HO.out (by unfold maxLen; omega) (by omega) (Nat.le_refl _) ?_; intro v' w1 hown' hgrow _ _; have hfin : RenewSaid w 45 9 n xs (.returned v') w1 := ⟨v', rfl, by simpa using hown', (Below.refl _ w).grown hgrow (Nat.le_refl _) (fun k h => by have h' : (none : Option Nat) = some k := h; cases h')⟩; clear hown' hgrow)
    go_ret
    exact hfin
theorem Tryz.infoOfField : (Tryz.prog.info? 36).map (fun i => (i.zero, i.size, i.bytes)) = some (some (.agg #[.bool false, .string ⟨#[]⟩, .string ⟨#[]⟩, .slice none 0 0]), 4, 64) := by kernel_rfl
set_option maxRecDepth 100000 in
set_option maxHeartbeats 1000000 in
theorem renewed_fd (w : World) (v : Value) (l : List Nd) (hr : Rw w .fd v l) (hk : KdL w l) (hs : l.length ≤ 1000000) : Calls Tryz.prog 58 #[v] w (RenewSaid w 36 4 l.length (l.flatMap cellsN)) := by
  have hone : ∀ u ∈ (l.flatMap cellsN), u.oneCell' = true := by intro u hu; rw [List.mem_flatMap] at hu; obtain ⟨x, hx, hu⟩ := hu; exact cells_one (KdL_mem hk x hx) u hu
  obtain ⟨A, cap, rfl⟩ := hr.form
  obtain ⟨xs, hxs⟩ : ∃ xs, (l.flatMap cellsN) = xs := ⟨_, rfl⟩
  have hfl := rw_flat hr
  rw [hxs] at hone hfl ⊢
  obtain ⟨n, hn⟩ : ∃ n, l.length = n := ⟨_, rfl⟩
  rw [hn] at hs hfl hr ⊢
  obtain ⟨i0, hi, hz0, hz1, hz2⟩ := info_parts Tryz.infoOfField
  have hown := World.ownsRow_nil w w.heap.size 36 4
  cases A with
  | none =>
    obtain ⟨h1, h2⟩ := rw_none_nil hr
    subst h2
    have hxn : xs = [] := List.eq_nil_of_length_eq_zero (by have := hfl.1; simpa using this)
    subst hxn
    clear hr hfl hone hxs hn h1
    go_enter Tryz.func58, Tryz.ntmps58
    go_wp2_with fail
    go_ret
    exact ⟨_, rfl, by simpa using hown, Below.refl _ _⟩
  | some ad =>
    have HN := Lib.hid (hfl.2 ad rfl)
    have HL := Lib.hid hfl.1
    have HO := Lib.hid hone
    clear hr hfl hone hxs hn
    go_enter Tryz.func58, Tryz.ntmps58
    go_wp2_with (at_builtin; refine wpList_append_own_at _ rfl _ (.tmp 3) 29 rfl w.heap.size 36 i0 _ 4 64 Tryz.underlying29 hi hz0 hz1 hz2 rfl (by decide) _ _ _ rfl hown ad n cap xs rfl HL.out HN.out HO.out (by unfold maxLen; omega) (by omega) (Nat.le_refl _) ?_; intro v' w1 hown' hgrow _ _; have hfin : RenewSaid w 36 4 n xs (.returned v') w1 := ⟨v', rfl, by simpa using hown', (Below.refl _ w).grown hgrow (Nat.le_refl _) (fun k h => by have h' : (none : Option Nat) = some k := h; cases h')⟩; clear hown' hgrow)
    go_ret
    exact hfin
theorem Tryz.infoOfMethod : (Tryz.prog.info? 41).map (fun i => (i.zero, i.size, i.bytes)) = some (some (.agg #[.bool false, .bool false, .string ⟨#[]⟩, .string ⟨#[]⟩, .slice none 0 0, .slice none 0 0]), 6, 88) := by kernel_rfl
set_option maxRecDepth 100000 in
set_option maxHeartbeats 1000000 in
theorem renewed_mt (w : World) (v : Value) (l : List Nd) (hr : Rw w .mt v l) (hk : KdL w l) (hs : l.length ≤ 1000000) : Calls Tryz.prog 59 #[v] w (RenewSaid w 41 6 l.length (l.flatMap cellsN)) := by
  have hone : ∀ u ∈ (l.flatMap cellsN), u.oneCell' = true := by intro u hu; rw [List.mem_flatMap] at hu; obtain ⟨x, hx, hu⟩ := hu; exact cells_one (KdL_mem hk x hx) u hu
  obtain ⟨A, cap, rfl⟩ := hr.form
  obtain ⟨xs, hxs⟩ : ∃ xs, (l.flatMap cellsN) = xs := ⟨_, rfl⟩
  have hfl := rw_flat hr
  rw [hxs] at hone hfl ⊢
  obtain ⟨n, hn⟩ : ∃ n, l.length = n := ⟨_, rfl⟩
  rw [hn] at hs hfl hr ⊢
  obtain ⟨i0, hi, hz0, hz1, hz2⟩ := info_parts Tryz.infoOfMethod
  have hown := World.ownsRow_nil w w.heap.size 41 6
  cases A with
  | none =>
    obtain ⟨h1, h2⟩ := rw_none_nil hr
    subst h2
    have hxn : xs = [] := List.eq_nil_of_length_eq_zero (by have := hfl.1; simpa using this)
    subst hxn
    clear hr hfl hone hxs hn h1
    go_enter Tryz.func59, Tryz.ntmps59
    go_wp2_with fail
    go_ret
    exact ⟨_, rfl, by simpa using hown, Below.refl _ _⟩
  | some ad =>
    have HN := Lib.hid (hfl.2 ad rfl)
    have HL := Lib.hid hfl.1
    have HO := Lib.hid hone
    clear hr hfl hone hxs hn
    go_enter Tryz.func59, Tryz.ntmps59
    go_wp2_with (at_builtin; refine wpList_append_own_at _ rfl _ (.tmp 3) 30 rfl w.heap.size 41 i0 _ 6 88 Tryz.underlying30 hi hz0 hz1 hz2 rfl (by decide) _ _ _ rfl hown ad n cap xs rfl HL.out HN.out HO.out (by unfold maxLen; omega) (by omega) (Nat.le_refl _) ?_; intro v' w1 hown' hgrow _ _; have hfin : RenewSaid w 41 6 n xs (.returned v') w1 := ⟨v', rfl, by simpa using hown', (Below.refl _ w).grown hgrow (Nat.le_refl _) (fun k h => by have h' : (none : Option Nat) = some k := h; cases h')⟩; clear hown' hgrow)
    go_ret
    exact hfin
theorem Tryz.infoOfClass : (Tryz.prog.info? 32).map (fun i => (i.zero, i.size, i.bytes)) = some (some (.agg #[.string ⟨#[]⟩, .string ⟨#[]⟩, .slice none 0 0, .slice none 0 0]), 4, 80) := by kernel_rfl
set_option maxRecDepth 100000 in
set_option maxHeartbeats 1000000 in
theorem renewed_cl (w : World) (v : Value) (l : List Nd) (hr : Rw w .cl v l) (hk : KdL w l) (hs : l.length ≤ 1000000) : Calls Tryz.prog 32 #[v] w (RenewSaid w 32 4 l.length (l.flatMap cellsN)) := by
  have hone : ∀ u ∈ (l.flatMap cellsN), u.oneCell' = true := by intro u hu; rw [List.mem_flatMap] at hu; obtain ⟨x, hx, hu⟩ := hu; exact cells_one (KdL_mem hk x hx) u hu
  obtain ⟨A, cap, rfl⟩ := hr.form
  obtain ⟨xs, hxs⟩ : ∃ xs, (l.flatMap cellsN) = xs := ⟨_, rfl⟩
  have hfl := rw_flat hr
  rw [hxs] at hone hfl ⊢
  obtain ⟨n, hn⟩ : ∃ n, l.length = n := ⟨_, rfl⟩
  rw [hn] at hs hfl hr ⊢
  obtain ⟨i0, hi, hz0, hz1, hz2⟩ := info_parts Tryz.infoOfClass
  have hown := World.ownsRow_nil w w.heap.size 32 4
  cases A with
  | none =>
    obtain ⟨h1, h2⟩ := rw_none_nil hr
    subst h2
    have hxn : xs = [] := List.eq_nil_of_length_eq_zero (by have := hfl.1; simpa using this)
    subst hxn
    clear hr hfl hone hxs hn h1
    go_enter Tryz.func32, Tryz.ntmps32
    go_wp2_with fail
    go_ret
    exact ⟨_, rfl, by simpa using hown, Below.refl _ _⟩
  | some ad =>
    have HN := Lib.hid (hfl.2 ad rfl)
    have HL := Lib.hid hfl.1
    have HO := Lib.hid hone
    clear hr hfl hone hxs hn
    go_enter Tryz.func32, Tryz.ntmps32
    go_wp2_with (at_builtin; refine wpList_append_own_at _ rfl _ (.tmp 3) 22 rfl w.heap.size 32 i0 _ 4 80 Tryz.underlying22 hi hz0 hz1 hz2 rfl (by decide) _ _ _ rfl hown ad n cap xs rfl HL.out HN.out HO.out (by unfold maxLen; omega) (by omega) (Nat.le_refl _) ?_; intro v' w1 hown' hgrow _ _; have hfin : RenewSaid w 32 4 n xs (.returned v') w1 := ⟨v', rfl, by simpa using hown', (Below.refl _ w).grown hgrow (Nat.le_refl _) (fun k h => by have h' : (none : Option Nat) = some k := h; cases h')⟩; clear hown' hgrow)
    go_ret
    exact hfin
theorem Tryz.infoOfParam : (Tryz.prog.info? 79).map (fun i => (i.zero, i.size, i.bytes)) = some (some (.agg #[.string ⟨#[]⟩, .string ⟨#[]⟩]), 2, 32) := by kernel_rfl
def cellsP (l : List Prm) : List Value := l.flatMap fun p => [.string p.1, .string p.2]
theorem cellsP_len (l : List Prm) : (cellsP l).length = l.length * 2 := by
  unfold cellsP
  induction l with
  | nil => simp
  | cons x l ih => simp only [List.flatMap_cons, List.length_append, List.length_cons, ih, List.length_nil]; omega
theorem flat_cellsP {w : World} {b : Nat} : ∀ (l : List Prm) (o : Nat), (∀ i x, l[i]? = some x → w.cell? ⟨b, o + i * 2, none⟩ = some (.string x.1) ∧ w.cell? ⟨b, o + i * 2 + 1, none⟩ = some (.string x.2)) → ∀ j u, (cellsP l)[j]? = some u → w.cell? ⟨b, o + j, none⟩ = some u
  | [], o, _, j, u, h => by simp [cellsP] at h
  | x :: l, o, hc, j, u, h => by
    have ih := flat_cellsP l (o + 2) (fun i y hy => by
      have := hc (i + 1) y (by simpa using hy)
      have e : o + 2 + i * 2 = o + (i + 1) * 2 := by omega
      rw [e]; exact this)
    have h0 := hc 0 x (by simp)
    simp only [Nat.zero_mul, Nat.add_zero] at h0
    match j, h with
    | 0, h => simp [cellsP] at h; subst h; exact h0.1
    | 1, h => simp [cellsP] at h; subst h; exact h0.2
    | j + 2, h =>
      have h' : (cellsP l)[j]? = some u := by simpa [cellsP] using h
      have := ih j u h'
      have e : o + 2 + j = o + (j + 2) := by omega
      rw [e] at this; exact this
theorem pw_flat {w : World} {A : Option Addr} {n cap : Nat} {l : List Prm} (h : Pw w (.slice A n cap) l) : (cellsP l).length = n * 2 ∧ ∀ ad, A = some ad → ∀ j u, (cellsP l)[j]? = some u → w.cell? (ad.add j) = some u := by
  obtain ⟨A', cap', hv, _, _, hc⟩ := h
  injection hv with h1 h2 h3
  refine ⟨by rw [cellsP_len, h2], fun ad hA j u hu => ?_⟩
  rcases Nat.eq_zero_or_pos l.length with h0 | h0
  · have : l = [] := List.eq_nil_of_length_eq_zero h0
    subst this; simp [cellsP] at hu
  · obtain ⟨b, o, hA', hcell⟩ := hc h0
    rw [← h1, hA] at hA'
    injection hA' with hA'
    subst hA'
    rw [add_off]
    exact flat_cellsP l o hcell j u hu
theorem pw_none_nil {w : World} {n cap : Nat} {l : List Prm} (h : Pw w (.slice none n cap) l) : l = [] ∧ n = 0 := by
  obtain ⟨A', cap', hv, _, ht, hc⟩ := h
  injection hv with h1 h2 h3
  rcases Nat.eq_zero_or_pos l.length with h0 | h0
  · exact ⟨List.eq_nil_of_length_eq_zero h0, by omega⟩
  · obtain ⟨b, o, hA', _⟩ := hc h0
    rw [← h1] at hA'; cases hA'
set_option maxRecDepth 100000 in
set_option maxHeartbeats 1000000 in
theorem renewed_pm (w : World) (v : Value) (l : List Prm) (hr : Pw w v l) (hs : l.length ≤ 1000000) : Calls Tryz.prog 81 #[v] w (RenewSaid w 79 2 l.length (cellsP l)) := by
  have hone : ∀ u ∈ (cellsP l), u.oneCell' = true := by intro u hu; simp only [cellsP, List.mem_flatMap] at hu; obtain ⟨p, _, hu⟩ := hu; simp at hu; rcases hu with rfl | rfl <;> rfl
  obtain ⟨A, cap, rfl, _⟩ := hr.form
  obtain ⟨xs, hxs⟩ : ∃ xs, (cellsP l) = xs := ⟨_, rfl⟩
  have hfl := pw_flat hr
  rw [hxs] at hone hfl ⊢
  obtain ⟨n, hn⟩ : ∃ n, l.length = n := ⟨_, rfl⟩
  rw [hn] at hs hfl hr ⊢
  obtain ⟨i0, hi, hz0, hz1, hz2⟩ := info_parts Tryz.infoOfParam
  have hown := World.ownsRow_nil w w.heap.size 79 2
  cases A with
  | none =>
    obtain ⟨h1, h2⟩ := pw_none_nil hr
    subst h2
    have hxn : xs = [] := List.eq_nil_of_length_eq_zero (by have := hfl.1; simpa using this)
    subst hxn
    clear hr hfl hone hxs hn h1
    go_enter Tryz.func81, Tryz.ntmps81
    go_wp2_with fail
    go_ret
    exact ⟨_, rfl, by simpa using hown, Below.refl _ _⟩
  | some ad =>
    have HN := Lib.hid (hfl.2 ad rfl)
    have HL := Lib.hid hfl.1
    have HO := Lib.hid hone
    clear hr hfl hone hxs hn
    go_enter Tryz.func81, Tryz.ntmps81
    go_wp2_with (at_builtin; refine wpList_append_own_at _ rfl _ (.tmp 3) 38 rfl w.heap.size 79 i0 _ 2 32 Tryz.underlying38 hi hz0 hz1 hz2 rfl (by decide) _ _ _ rfl hown ad n cap xs rfl HL.out HN.out HO.out (by unfold maxLen; omega) (by omega) (Nat.le_refl _) ?_; intro v' w1 hown' hgrow _ _; have hfin : RenewSaid w 79 2 n xs (.returned v') w1 := ⟨v', rfl, by simpa using hown', (Below.refl _ w).grown hgrow (Nat.le_refl _) (fun k h => by have h' : (none : Option Nat) = some k := h; cases h')⟩; clear hown' hgrow)
    go_ret
    exact hfin
end Go.Proofs.YtnphimechniplaaGreat
/- Contract of tree.bareExpr. -/
set_option linter.unusedSimpArgs false
set_option linter.unusedVariables false
namespace Go.Proofs.YtnphimechniplaaGreat
open Go.RowKit
theorem Bx.get_4 {w : World} {b : Nat} {x0 x1 x2 x3 : Value} {T : TypeId} (h : Bx w b #[x0, x1, x2, x3] T) : w.cell? ⟨b, 0, none⟩ = some x0 ∧ w.cell? ⟨b, 1, none⟩ = some x1 ∧ w.cell? ⟨b, 2, none⟩ = some x2 ∧ w.cell? ⟨b, 3, none⟩ = some x3 :=
  ⟨h.cell 0, h.cell 1, h.cell 2, h.cell 3⟩
theorem Bx.get_6 {w : World} {b : Nat} {x0 x1 x2 x3 x4 x5 : Value} {T : TypeId} (h : Bx w b #[x0, x1, x2, x3, x4, x5] T) : w.cell? ⟨b, 0, none⟩ = some x0 ∧ w.cell? ⟨b, 1, none⟩ = some x1 ∧ w.cell? ⟨b, 2, none⟩ = some x2 ∧ w.cell? ⟨b, 3, none⟩ = some x3 ∧ w.cell? ⟨b, 4, none⟩ = some x4 ∧ w.cell? ⟨b, 5, none⟩ = some x5 :=
  ⟨h.cell 0, h.cell 1, h.cell 2, h.cell 3, h.cell 4, h.cell 5⟩
theorem Bx.get_8 {w : World} {b : Nat} {x0 x1 x2 x3 x4 x5 x6 x7 : Value} {T : TypeId} (h : Bx w b #[x0, x1, x2, x3, x4, x5, x6, x7] T) : w.cell? ⟨b, 0, none⟩ = some x0 ∧ w.cell? ⟨b, 1, none⟩ = some x1 ∧ w.cell? ⟨b, 2, none⟩ = some x2 ∧ w.cell? ⟨b, 3, none⟩ = some x3 ∧ w.cell? ⟨b, 4, none⟩ = some x4 ∧ w.cell? ⟨b, 5, none⟩ = some x5 ∧ w.cell? ⟨b, 6, none⟩ = some x6 ∧ w.cell? ⟨b, 7, none⟩ = some x7 :=
  ⟨h.cell 0, h.cell 1, h.cell 2, h.cell 3, h.cell 4, h.cell 5, h.cell 6, h.cell 7⟩
theorem Bx.get_9 {w : World} {b : Nat} {x0 x1 x2 x3 x4 x5 x6 x7 x8 : Value} {T : TypeId} (h : Bx w b #[x0, x1, x2, x3, x4, x5, x6, x7, x8] T) : w.cell? ⟨b, 0, none⟩ = some x0 ∧ w.cell? ⟨b, 1, none⟩ = some x1 ∧ w.cell? ⟨b, 2, none⟩ = some x2 ∧ w.cell? ⟨b, 3, none⟩ = some x3 ∧ w.cell? ⟨b, 4, none⟩ = some x4 ∧ w.cell? ⟨b, 5, none⟩ = some x5 ∧ w.cell? ⟨b, 6, none⟩ = some x6 ∧ w.cell? ⟨b, 7, none⟩ = some x7 ∧ w.cell? ⟨b, 8, none⟩ = some x8 :=
  ⟨h.cell 0, h.cell 1, h.cell 2, h.cell 3, h.cell 4, h.cell 5, h.cell 6, h.cell 7, h.cell 8⟩
theorem set_2 {B b : Nat} {W w : World} (h : Below B W w) (hb : B ≤ b) (u0 u1 : Value) : Below B W ((w.setCell ⟨b, 0, none⟩ u0).setCell ⟨b, 1, none⟩ u1) := ((h.setCell hb _).setCell hb _)
theorem set_6 {B b : Nat} {W w : World} (h : Below B W w) (hb : B ≤ b) (u0 u1 u2 u3 u4 u5 : Value) : Below B W ((((((w.setCell ⟨b, 0, none⟩ u0).setCell ⟨b, 1, none⟩ u1).setCell ⟨b, 2, none⟩ u2).setCell ⟨b, 3, none⟩ u3).setCell ⟨b, 4, none⟩ u4).setCell ⟨b, 5, none⟩ u5) := ((((((h.setCell hb _).setCell hb _).setCell hb _).setCell hb _).setCell hb _).setCell hb _)
theorem set_8 {B b : Nat} {W w : World} (h : Below B W w) (hb : B ≤ b) (u0 u1 u2 u3 u4 u5 u6 u7 : Value) : Below B W ((((((((w.setCell ⟨b, 0, none⟩ u0).setCell ⟨b, 1, none⟩ u1).setCell ⟨b, 2, none⟩ u2).setCell ⟨b, 3, none⟩ u3).setCell ⟨b, 4, none⟩ u4).setCell ⟨b, 5, none⟩ u5).setCell ⟨b, 6, none⟩ u6).setCell ⟨b, 7, none⟩ u7) := ((((((((h.setCell hb _).setCell hb _).setCell hb _).setCell hb _).setCell hb _).setCell hb _).setCell hb _).setCell hb _)
theorem set_9 {B b : Nat} {W w : World} (h : Below B W w) (hb : B ≤ b) (u0 u1 u2 u3 u4 u5 u6 u7 u8 : Value) : Below B W (((((((((w.setCell ⟨b, 0, none⟩ u0).setCell ⟨b, 1, none⟩ u1).setCell ⟨b, 2, none⟩ u2).setCell ⟨b, 3, none⟩ u3).setCell ⟨b, 4, none⟩ u4).setCell ⟨b, 5, none⟩ u5).setCell ⟨b, 6, none⟩ u6).setCell ⟨b, 7, none⟩ u7).setCell ⟨b, 8, none⟩ u8) := (((((((((h.setCell hb _).setCell hb _).setCell hb _).setCell hb _).setCell hb _).setCell hb _).setCell hb _).setCell hb _).setCell hb _)
theorem own_set_2 {w : World} {b base e sz n : Nat} {v : Value} {xs : List Value} (h : w.ownsRow base e sz v n xs) (hb : b < base) (u0 u1 : Value) : ((w.setCell ⟨b, 0, none⟩ u0).setCell ⟨b, 1, none⟩ u1).ownsRow base e sz v n xs := (ownsRow_setCell_below (ownsRow_setCell_below h hb _) hb _)
theorem Bx.set_6 {w : World} {b : Nat} {T : TypeId} {x0 x1 x2 x3 x4 x5 : Value} (h : Bx w b #[x0, x1, x2, x3, x4, x5] T) (u0 u1 u2 u3 u4 u5 : Value) : Bx ((((((w.setCell ⟨b, 0, none⟩ u0).setCell ⟨b, 1, none⟩ u1).setCell ⟨b, 2, none⟩ u2).setCell ⟨b, 3, none⟩ u3).setCell ⟨b, 4, none⟩ u4).setCell ⟨b, 5, none⟩ u5) b #[u0, u1, u2, u3, u4, u5] T := by
  have := ((((((h.set 0 u0).set 1 u1).set 2 u2).set 3 u3).set 4 u4).set 5 u5)
  simpa using this
theorem own_set_6 {w : World} {b base e sz n : Nat} {v : Value} {xs : List Value} (h : w.ownsRow base e sz v n xs) (hb : b < base) (u0 u1 u2 u3 u4 u5 : Value) : ((((((w.setCell ⟨b, 0, none⟩ u0).setCell ⟨b, 1, none⟩ u1).setCell ⟨b, 2, none⟩ u2).setCell ⟨b, 3, none⟩ u3).setCell ⟨b, 4, none⟩ u4).setCell ⟨b, 5, none⟩ u5).ownsRow base e sz v n xs := (ownsRow_setCell_below (ownsRow_setCell_below (ownsRow_setCell_below (ownsRow_setCell_below (ownsRow_setCell_below (ownsRow_setCell_below h hb _) hb _) hb _) hb _) hb _) hb _)
theorem Bx.set_8 {w : World} {b : Nat} {T : TypeId} {x0 x1 x2 x3 x4 x5 x6 x7 : Value} (h : Bx w b #[x0, x1, x2, x3, x4, x5, x6, x7] T) (u0 u1 u2 u3 u4 u5 u6 u7 : Value) : Bx ((((((((w.setCell ⟨b, 0, none⟩ u0).setCell ⟨b, 1, none⟩ u1).setCell ⟨b, 2, none⟩ u2).setCell ⟨b, 3, none⟩ u3).setCell ⟨b, 4, none⟩ u4).setCell ⟨b, 5, none⟩ u5).setCell ⟨b, 6, none⟩ u6).setCell ⟨b, 7, none⟩ u7) b #[u0, u1, u2, u3, u4, u5, u6, u7] T := by
  have := ((((((((h.set 0 u0).set 1 u1).set 2 u2).set 3 u3).set 4 u4).set 5 u5).set 6 u6).set 7 u7)
  simpa using this
theorem own_set_8 {w : World} {b base e sz n : Nat} {v : Value} {xs : List Value} (h : w.ownsRow base e sz v n xs) (hb : b < base) (u0 u1 u2 u3 u4 u5 u6 u7 : Value) : ((((((((w.setCell ⟨b, 0, none⟩ u0).setCell ⟨b, 1, none⟩ u1).setCell ⟨b, 2, none⟩ u2).setCell ⟨b, 3, none⟩ u3).setCell ⟨b, 4, none⟩ u4).setCell ⟨b, 5, none⟩ u5).setCell ⟨b, 6, none⟩ u6).setCell ⟨b, 7, none⟩ u7).ownsRow base e sz v n xs := (ownsRow_setCell_below (ownsRow_setCell_below (ownsRow_setCell_below (ownsRow_setCell_below (ownsRow_setCell_below (ownsRow_setCell_below (ownsRow_setCell_below (ownsRow_setCell_below h hb _) hb _) hb _) hb _) hb _) hb _) hb _) hb _)
theorem Bx.set_9 {w : World} {b : Nat} {T : TypeId} {x0 x1 x2 x3 x4 x5 x6 x7 x8 : Value} (h : Bx w b #[x0, x1, x2, x3, x4, x5, x6, x7, x8] T) (u0 u1 u2 u3 u4 u5 u6 u7 u8 : Value) : Bx (((((((((w.setCell ⟨b, 0, none⟩ u0).setCell ⟨b, 1, none⟩ u1).setCell ⟨b, 2, none⟩ u2).setCell ⟨b, 3, none⟩ u3).setCell ⟨b, 4, none⟩ u4).setCell ⟨b, 5, none⟩ u5).setCell ⟨b, 6, none⟩ u6).setCell ⟨b, 7, none⟩ u7).setCell ⟨b, 8, none⟩ u8) b #[u0, u1, u2, u3, u4, u5, u6, u7, u8] T := by
  have := (((((((((h.set 0 u0).set 1 u1).set 2 u2).set 3 u3).set 4 u4).set 5 u5).set 6 u6).set 7 u7).set 8 u8)
  simpa using this
theorem own_set_9 {w : World} {b base e sz n : Nat} {v : Value} {xs : List Value} (h : w.ownsRow base e sz v n xs) (hb : b < base) (u0 u1 u2 u3 u4 u5 u6 u7 u8 : Value) : (((((((((w.setCell ⟨b, 0, none⟩ u0).setCell ⟨b, 1, none⟩ u1).setCell ⟨b, 2, none⟩ u2).setCell ⟨b, 3, none⟩ u3).setCell ⟨b, 4, none⟩ u4).setCell ⟨b, 5, none⟩ u5).setCell ⟨b, 6, none⟩ u6).setCell ⟨b, 7, none⟩ u7).setCell ⟨b, 8, none⟩ u8).ownsRow base e sz v n xs := (ownsRow_setCell_below (ownsRow_setCell_below (ownsRow_setCell_below (ownsRow_setCell_below (ownsRow_setCell_below (ownsRow_setCell_below (ownsRow_setCell_below (ownsRow_setCell_below (ownsRow_setCell_below h hb _) hb _) hb _) hb _) hb _) hb _) hb _) hb _) hb _)
def BareE (w : World) (k n : Int) (tx nm ty : ByteArray) (l : List Nd) (e : Ending) (w' : World) : Prop :=
  ∃ v', e = .returned (.agg #[.int .i64 k, .int .i32 n, .string tx, .string nm, .string ty, v', .string ⟨#[]⟩, .int .i64 0]) ∧ w'.ownsRow w.heap.size 43 8 v' l.length (l.flatMap cellsN) ∧ Below w.heap.size w w'
set_option maxRecDepth 100000 in
set_option maxHeartbeats 4000000 in
theorem bareExpr_any (w : World) (k n : Int) (tx nm ty : ByteArray) (v : Value) (l : List Nd) (own : ByteArray) (nth : Int) (h1 : tx.size ≤ 281474976710656) (h2 : nm.size ≤ 281474976710656) (h3 : ty.size ≤ 281474976710656) (hr : Rw w .ex v l) (hk : KdL w l) (hs : l.length ≤ 1000000) :
    Calls Tryz.prog 53 #[.agg #[.int .i64 k, .int .i32 n, .string tx, .string nm, .string ty, v, .string own, .int .i64 nth]] w (BareE w k n tx nm ty l) := by
  have HC : Hid (∀ (s : ByteArray) (w1 : World), s.size ≤ 281474976710656 → Calls Tryz.prog 56 #[.string s] w1 fun e w' => e = .returned (.string s) ∧ Below w1.heap.size w1 w') := fun s w1 h => clone_any s w1 h
  go_enter Tryz.func53, Tryz.ntmps53
  go_wp2_with fail
  have hx1 : Bx ((w.alloc (.cells #[.int .i64 k, .int .i32 n, .string tx, .string nm, .string ty, v, .string own, .int .i64 nth] 43)).alloc (.cells #[.int .i64 0, .int .i32 0, .string ⟨#[]⟩, .string ⟨#[]⟩, .string ⟨#[]⟩, .slice none 0 0, .string ⟨#[]⟩, .int .i64 0] 43)) w.heap.size #[.int .i64 k, .int .i32 n, .string tx, .string nm, .string ty, v, .string own, .int .i64 nth] 43 := (Bx.new _ _ _).next ((Below.refl _ _).alloc (Nat.le_refl _) _)
  have hx2 : Bx ((w.alloc (.cells #[.int .i64 k, .int .i32 n, .string tx, .string nm, .string ty, v, .string own, .int .i64 nth] 43)).alloc (.cells #[.int .i64 0, .int .i32 0, .string ⟨#[]⟩, .string ⟨#[]⟩, .string ⟨#[]⟩, .slice none 0 0, .string ⟨#[]⟩, .int .i64 0] 43)) (w.heap.size + 1) #[.int .i64 0, .int .i32 0, .string ⟨#[]⟩, .string ⟨#[]⟩, .string ⟨#[]⟩, .slice none 0 0, .string ⟨#[]⟩, .int .i64 0] 43 := by simpa using Bx.new (w.alloc (.cells #[.int .i64 k, .int .i32 n, .string tx, .string nm, .string ty, v, .string own, .int .i64 nth] 43)) _ _
  have hw : Below w.heap.size w ((w.alloc (.cells #[.int .i64 k, .int .i32 n, .string tx, .string nm, .string ty, v, .string own, .int .i64 nth] 43)).alloc (.cells #[.int .i64 0, .int .i32 0, .string ⟨#[]⟩, .string ⟨#[]⟩, .string ⟨#[]⟩, .slice none 0 0, .string ⟨#[]⟩, .int .i64 0] 43)) := ((Below.refl _ w).alloc (Nat.le_refl _) _).alloc (by simp) _
  generalize (w.alloc (.cells #[.int .i64 k, .int .i32 n, .string tx, .string nm, .string ty, v, .string own, .int .i64 nth] 43)).alloc (.cells #[.int .i64 0, .int .i32 0, .string ⟨#[]⟩, .string ⟨#[]⟩, .string ⟨#[]⟩, .slice none 0 0, .string ⟨#[]⟩, .int .i64 0] 43) = W1 at hx1 hx2 hw ⊢
  have hl1 := hx1.lt
  have hl2 := hx2.lt
  have HS : Hid (∀ w', Below (w.heap.size + 1) W1 w' → w'.cell? ⟨w.heap.size, 0, none⟩ = some (.int .i64 k) ∧ w'.cell? ⟨w.heap.size, 1, none⟩ = some (.int .i32 n) ∧ w'.cell? ⟨w.heap.size, 2, none⟩ = some (.string tx) ∧ w'.cell? ⟨w.heap.size, 3, none⟩ = some (.string nm) ∧ w'.cell? ⟨w.heap.size, 4, none⟩ = some (.string ty) ∧ w'.cell? ⟨w.heap.size, 5, none⟩ = some v) := by
    show ∀ w', _
    intro w' hb
    obtain ⟨c0, c1, c2, c3, c4, c5, _, _⟩ := (hx1.below hb (by omega)).get_8
    exact ⟨c0, c1, c2, c3, c4, c5⟩
  have HR : Hid (∀ w', Below w.heap.size w w' → Calls Tryz.prog 57 #[v] w' (RenewSaid w' 43 8 l.length (l.flatMap cellsN))) := by
    show ∀ w', _
    intro w' hb
    exact renewed_ex w' v l (hr.keep (Keep.below hb)) (KdL.keep (Keep.below hb) _ hk) hs
  have HX2 := Lib.hid hx2
  have HW := Lib.hid hw
  have hle : w.heap.size + 1 ≤ W1.heap.size := by omega
  have hz : w.heap.size + 1 ≤ w.heap.size + 1 := Nat.le_refl _
  have hb0 : Below (w.heap.size + 1) W1 W1.drew := (Below.refl _ W1).drew
  have hB0 : Below W1.heap.size W1 W1.drew := (Below.refl _ W1).drew
  clear hx1 hx2 hw hr hk
  go_region_held3 (fun w' => w'.cell? ⟨w.heap.size, 0, none⟩ = some (.int .i64 k) ∧ w'.cell? ⟨w.heap.size, 1, none⟩ = some (.int .i32 n) ∧ w'.cell? ⟨w.heap.size, 2, none⟩ = some (.string tx) ∧ w'.cell? ⟨w.heap.size, 3, none⟩ = some (.string nm) ∧ w'.cell? ⟨w.heap.size, 4, none⟩ = some (.string ty) ∧ w'.cell? ⟨w.heap.size, 5, none⟩ = some v)
    (first | with_reducible exact HS.out _ hb0 | with_reducible exact HS.out _ hb1 | with_reducible exact HS.out _ hb2 | with_reducible exact HS.out _ hb3 | with_reducible exact HS.out _ hb4 | with_reducible exact HS.out _ (set_8 hb4 hz _ _ _ _ _ _ _ _))
    ((first
      | (go_at_call_of 56 (Value.string tx); refine (HC.out tx _ h1).mono ?_; rintro e w2 ⟨rfl, hc1⟩; have hB1 := hB0.trans (hc1.mono hB0.size); have hb1 := hB1.mono hle; clear hc1)
      | (go_at_call_of 56 (Value.string nm); refine (HC.out nm _ h2).mono ?_; rintro e w3 ⟨rfl, hc2⟩; have hB2 := hB1.trans (hc2.mono hB1.size); have hb2 := hB2.mono hle; clear hc2)
      | (go_at_call_of 56 (Value.string ty); refine (HC.out ty _ h3).mono ?_; rintro e w4 ⟨rfl, hc3⟩; have hB3 := hB2.trans (hc3.mono hB2.size); have hb3 := hB3.mono hle; clear hc3)
      | (go_at_call 57; refine (HR.out _ (HW.out.trans (hB3.mono HW.out.size))).mono ?_; rintro e w5 ⟨v5, rfl, ho5, hc4⟩; obtain ⟨A5, cap5, rfl, _⟩ := own_form ho5; have hB4 := hB3.trans (hc4.mono hB3.size); have hb4 := hB4.mono hle; have HO5 := Lib.hid ho5; have HS4 := Lib.hid hB3.size; have hx5 := HX2.out.below hB4 hl2; obtain ⟨r0, r1, r2, r3, r4, r5, r6, r7⟩ := hx5.get_8; have f0 := hx5.fro 0; have f1 := hx5.fro 1; have f2 := hx5.fro 2; have f3 := hx5.fro 3; have f4 := hx5.fro 4; have f5 := hx5.fro 5; have f6 := hx5.fro 6; have f7 := hx5.fro 7; have HXF := Lib.hid (hx5.set_8 (.int .i64 k) (.int .i32 n) (.string tx) (.string nm) (.string ty) (.slice A5 l.length cap5) (.string ⟨#[]⟩) (.int .i64 0)); clear hx5 ho5 hc4)))
  obtain ⟨z0, z1, z2, z3, z4, z5, z6, z7⟩ := HXF.out.get_8
  have HFO := Lib.hid (own_set_8 (b := w.heap.size + 1) HO5.out (by have := HS4.out; omega) (.int .i64 k) (.int .i32 n) (.string tx) (.string nm) (.string ty) (.slice A5 l.length cap5) (.string ⟨#[]⟩) (.int .i64 0))
  have HFB := Lib.hid (set_8 (HW.out.trans (hB4.mono HW.out.size)) (Nat.le_succ w.heap.size) (.int .i64 k) (.int .i32 n) (.string tx) (.string nm) (.string ty) (.slice A5 l.length cap5) (.string ⟨#[]⟩) (.int .i64 0))
  have hle4 : w.heap.size ≤ w4.heap.size := by have := HS4.out; omega
  go_wp2_with fail
  refine bodyPost_ret (v := .agg #[.int .i64 k, .int .i32 n, .string tx, .string nm, .string ty, .slice A5 l.length cap5, .string ⟨#[]⟩, .int .i64 0]) (by simp [results, Tryz.results53, go_sem, z0, z1, z2, z3, z4, z5, z6, z7]) rfl ?_
  exact ⟨_, rfl, own_mono HFO.out hle4, HFB.out⟩
end Go.Proofs.YtnphimechniplaaGreat
/- Contract of tree.bareStmt. Written by wip/tools/gen_bare_c.py. -/
set_option linter.unusedSimpArgs false
set_option linter.unusedVariables false
namespace Go.Proofs.YtnphimechniplaaGreat
open Go.RowKit
/-- Four new rows, one behind the other. -/
def Four (w w' : World) (v1 v2 v3 v4 : Value) (l1 l2 l3 l4 : List Nd) : Prop :=
  ∃ B1 B2 B3, w.heap.size ≤ B1 ∧ B1 ≤ B2 ∧ B2 ≤ B3 ∧ w'.ownsRow w.heap.size 43 8 v1 l1.length (l1.flatMap cellsN) ∧ (∀ k, v1.ownBlock = some k → k < B1) ∧ w'.ownsRow B1 45 9 v2 l2.length (l2.flatMap cellsN) ∧ (∀ k, v2.ownBlock = some k → k < B2) ∧ w'.ownsRow B2 45 9 v3 l3.length (l3.flatMap cellsN) ∧ (∀ k, v3.ownBlock = some k → k < B3) ∧ w'.ownsRow B3 45 9 v4 l4.length (l4.flatMap cellsN)
def BareS (w : World) (k n : Int) (ty nm : ByteArray) (le la lb lc : List Nd) (e : Ending) (w' : World) : Prop :=
  ∃ v1 v2 v3 v4, e = .returned (.agg #[.int .i64 k, .int .i32 n, .string ty, .string nm, v1, v2, v3, v4, .int .i64 0]) ∧ Four w w' v1 v2 v3 v4 le la lb lc ∧ Below w.heap.size w w'
set_option maxRecDepth 100000 in
set_option maxHeartbeats 8000000 in
theorem bareStmt_any (w : World) (k n : Int) (ty nm : ByteArray) (ve va vb vc : Value) (le la lb lc : List Nd) (nth : Int) (h1 : ty.size ≤ 281474976710656) (h2 : nm.size ≤ 281474976710656)
    (hre : Rw w .ex ve le) (hke : KdL w le) (hse : le.length ≤ 1000000) (hra : Rw w .st va la) (hka : KdL w la) (hsa : la.length ≤ 1000000) (hrb : Rw w .st vb lb) (hkb : KdL w lb) (hsb : lb.length ≤ 1000000) (hrc : Rw w .st vc lc) (hkc : KdL w lc) (hsc : lc.length ≤ 1000000) :
    Calls Tryz.prog 54 #[.agg #[.int .i64 k, .int .i32 n, .string ty, .string nm, ve, va, vb, vc, .int .i64 nth]] w (BareS w k n ty nm le la lb lc) := by
  have HC : Hid (∀ (s : ByteArray) (w1 : World), s.size ≤ 281474976710656 → Calls Tryz.prog 56 #[.string s] w1 fun e w' => e = .returned (.string s) ∧ Below w1.heap.size w1 w') := fun s w1 h => clone_any s w1 h
  have HRE : Hid (∀ w', Below w.heap.size w w' → Calls Tryz.prog 57 #[ve] w' (RenewSaid w' 43 8 le.length (le.flatMap cellsN))) := fun w' hb => renewed_ex w' ve le (hre.keep (Keep.below hb)) (KdL.keep (Keep.below hb) _ hke) hse
  have HRA : Hid (∀ w', Below w.heap.size w w' → Calls Tryz.prog 80 #[va] w' (RenewSaid w' 45 9 la.length (la.flatMap cellsN))) := fun w' hb => renewed_st w' va la (hra.keep (Keep.below hb)) (KdL.keep (Keep.below hb) _ hka) hsa
  have HRB : Hid (∀ w', Below w.heap.size w w' → Calls Tryz.prog 80 #[vb] w' (RenewSaid w' 45 9 lb.length (lb.flatMap cellsN))) := fun w' hb => renewed_st w' vb lb (hrb.keep (Keep.below hb)) (KdL.keep (Keep.below hb) _ hkb) hsb
  have HRC : Hid (∀ w', Below w.heap.size w w' → Calls Tryz.prog 80 #[vc] w' (RenewSaid w' 45 9 lc.length (lc.flatMap cellsN))) := fun w' hb => renewed_st w' vc lc (hrc.keep (Keep.below hb)) (KdL.keep (Keep.below hb) _ hkc) hsc
  clear hre hke hse hra hka hsa hrb hkb hsb hrc hkc hsc
  go_enter Tryz.func54, Tryz.ntmps54
  go_wp2_with fail
  have hx1 : Bx ((w.alloc (.cells #[.int .i64 k, .int .i32 n, .string ty, .string nm, ve, va, vb, vc, .int .i64 nth] 45)).alloc (.cells #[.int .i64 0, .int .i32 0, .string ⟨#[]⟩, .string ⟨#[]⟩, .slice none 0 0, .slice none 0 0, .slice none 0 0, .slice none 0 0, .int .i64 0] 45)) w.heap.size #[.int .i64 k, .int .i32 n, .string ty, .string nm, ve, va, vb, vc, .int .i64 nth] 45 := (Bx.new _ _ _).next ((Below.refl _ _).alloc (Nat.le_refl _) _)
  have hx2 : Bx ((w.alloc (.cells #[.int .i64 k, .int .i32 n, .string ty, .string nm, ve, va, vb, vc, .int .i64 nth] 45)).alloc (.cells #[.int .i64 0, .int .i32 0, .string ⟨#[]⟩, .string ⟨#[]⟩, .slice none 0 0, .slice none 0 0, .slice none 0 0, .slice none 0 0, .int .i64 0] 45)) (w.heap.size + 1) #[.int .i64 0, .int .i32 0, .string ⟨#[]⟩, .string ⟨#[]⟩, .slice none 0 0, .slice none 0 0, .slice none 0 0, .slice none 0 0, .int .i64 0] 45 := by simpa using Bx.new (w.alloc (.cells #[.int .i64 k, .int .i32 n, .string ty, .string nm, ve, va, vb, vc, .int .i64 nth] 45)) _ _
  have hw : Below w.heap.size w ((w.alloc (.cells #[.int .i64 k, .int .i32 n, .string ty, .string nm, ve, va, vb, vc, .int .i64 nth] 45)).alloc (.cells #[.int .i64 0, .int .i32 0, .string ⟨#[]⟩, .string ⟨#[]⟩, .slice none 0 0, .slice none 0 0, .slice none 0 0, .slice none 0 0, .int .i64 0] 45)) := ((Below.refl _ w).alloc (Nat.le_refl _) _).alloc (by simp) _
  generalize ((w.alloc (.cells #[.int .i64 k, .int .i32 n, .string ty, .string nm, ve, va, vb, vc, .int .i64 nth] 45)).alloc (.cells #[.int .i64 0, .int .i32 0, .string ⟨#[]⟩, .string ⟨#[]⟩, .slice none 0 0, .slice none 0 0, .slice none 0 0, .slice none 0 0, .int .i64 0] 45)) = W1 at hx1 hx2 hw ⊢
  have hl1 := hx1.lt
  have hl2 := hx2.lt
  have HS : Hid (∀ w', Below (w.heap.size + 1) W1 w' → w'.cell? ⟨w.heap.size, 0, none⟩ = some (.int .i64 k) ∧ w'.cell? ⟨w.heap.size, 1, none⟩ = some (.int .i32 n) ∧ w'.cell? ⟨w.heap.size, 2, none⟩ = some (.string ty) ∧ w'.cell? ⟨w.heap.size, 3, none⟩ = some (.string nm) ∧ w'.cell? ⟨w.heap.size, 4, none⟩ = some (ve) ∧ w'.cell? ⟨w.heap.size, 5, none⟩ = some (va) ∧ w'.cell? ⟨w.heap.size, 6, none⟩ = some (vb) ∧ w'.cell? ⟨w.heap.size, 7, none⟩ = some (vc)) := by
    show ∀ w', _
    intro w' hb
    obtain ⟨c0, c1, c2, c3, c4, c5, c6, c7, _⟩ := (hx1.below hb (by omega)).get_9
    exact ⟨c0, c1, c2, c3, c4, c5, c6, c7⟩
  have HX2 := Lib.hid hx2
  have HW := Lib.hid hw
  have hle : w.heap.size + 1 ≤ W1.heap.size := by omega
  have hz : w.heap.size + 1 ≤ w.heap.size + 1 := Nat.le_refl _
  have hb0 : Below (w.heap.size + 1) W1 W1.drew := (Below.refl _ W1).drew
  have hB0 : Below W1.heap.size W1 W1.drew := (Below.refl _ W1).drew
  clear hx1 hx2 hw
  go_region_held3 (fun w' => w'.cell? ⟨w.heap.size, 0, none⟩ = some (.int .i64 k) ∧ w'.cell? ⟨w.heap.size, 1, none⟩ = some (.int .i32 n) ∧ w'.cell? ⟨w.heap.size, 2, none⟩ = some (.string ty) ∧ w'.cell? ⟨w.heap.size, 3, none⟩ = some (.string nm) ∧ w'.cell? ⟨w.heap.size, 4, none⟩ = some (ve) ∧ w'.cell? ⟨w.heap.size, 5, none⟩ = some (va) ∧ w'.cell? ⟨w.heap.size, 6, none⟩ = some (vb) ∧ w'.cell? ⟨w.heap.size, 7, none⟩ = some (vc))
    (first | with_reducible exact HS.out _ hb0 | with_reducible exact HS.out _ hb1 | with_reducible exact HS.out _ hb2 | with_reducible exact HS.out _ hb3 | with_reducible exact HS.out _ hb4 | with_reducible exact HS.out _ hb5 | with_reducible exact HS.out _ hb6 | with_reducible exact HS.out _ (set_9 hb6 hz _ _ _ _ _ _ _ _ _))
    ((first
      | (go_at_call_of 56 (Value.string ty); refine (HC.out ty _ h1).mono ?_; rintro e w2 ⟨rfl, hc1⟩; have hB1 := hB0.trans (hc1.mono hB0.size); have hb1 := hB1.mono hle; clear hc1)
      | (go_at_call_of 56 (Value.string nm); refine (HC.out nm _ h2).mono ?_; rintro e w3 ⟨rfl, hc2⟩; have hB2 := hB1.trans (hc2.mono hB1.size); have hb2 := hB2.mono hle; clear hc2)
      | (go_at_call 57; refine (HRE.out _ (HW.out.trans (hB2.mono HW.out.size))).mono ?_; rintro e w4 ⟨v4, rfl, ho4, hc3⟩; obtain ⟨Ae, ce, rfl, _⟩ := own_form ho4; have hB3 := hB2.trans (hc3.mono hB2.size); have hb3 := hB3.mono hle; have HO1 := Lib.hid ho4; have HL1 := Lib.hid ho4.lt; have HS1 := Lib.hid hB2.size; have HSX := Lib.hid hc3.size; clear ho4 hc3)
      | (go_at_call_of 80 va; refine (HRA.out _ (HW.out.trans (hB3.mono HW.out.size))).mono ?_; rintro e w5 ⟨v5, rfl, ho5, hc4⟩; obtain ⟨Aa, ca, rfl, _⟩ := own_form ho5; have hB4 := hB3.trans (hc4.mono hB3.size); have hb4 := hB4.mono hle; have HO2 := Lib.hid ho5; have HL2 := Lib.hid ho5.lt; have HO1b := Lib.hid (own_next HO1.out hc4); have HS2 := Lib.hid hc4.size; clear ho5 hc4)
      | (go_at_call_of 80 vb; refine (HRB.out _ (HW.out.trans (hB4.mono HW.out.size))).mono ?_; rintro e w6 ⟨v6, rfl, ho6, hc5⟩; obtain ⟨Ab, cb, rfl, _⟩ := own_form ho6; have hB5 := hB4.trans (hc5.mono hB4.size); have hb5 := hB5.mono hle; have HO3 := Lib.hid ho6; have HL3 := Lib.hid ho6.lt; have HO1c := Lib.hid (own_next HO1b.out hc5); have HO2b := Lib.hid (own_next HO2.out hc5); have HS3 := Lib.hid hc5.size; clear ho6 hc5)
      | (go_at_call_of 80 vc; refine (HRC.out _ (HW.out.trans (hB5.mono HW.out.size))).mono ?_; rintro e w7 ⟨v7, rfl, ho7, hc6⟩; obtain ⟨Ac, cc, rfl, _⟩ := own_form ho7; have hB6 := hB5.trans (hc6.mono hB5.size); have hb6 := hB6.mono hle; have HO4 := Lib.hid ho7; have HO1d := Lib.hid (own_next HO1c.out hc6); have HO2c := Lib.hid (own_next HO2b.out hc6); have HO3b := Lib.hid (own_next HO3.out hc6); have HS5 := Lib.hid hc6.size; have hx5 := HX2.out.below hB6 hl2; obtain ⟨r0, r1, r2, r3, r4, r5, r6, r7, r8⟩ := hx5.get_9; have f0 := hx5.fro 0; have f1 := hx5.fro 1; have f2 := hx5.fro 2; have f3 := hx5.fro 3; have f4 := hx5.fro 4; have f5 := hx5.fro 5; have f6 := hx5.fro 6; have f7 := hx5.fro 7; have f8 := hx5.fro 8; have HXF := Lib.hid (hx5.set_9 (.int .i64 k) (.int .i32 n) (.string ty) (.string nm) (.slice Ae le.length ce) (.slice Aa la.length ca) (.slice Ab lb.length cb) (.slice Ac lc.length cc) (.int .i64 0)); clear hx5 ho7 hc6)))
  obtain ⟨z0, z1, z2, z3, z4, z5, z6, z7, z8⟩ := HXF.out.get_9
  have HFB := Lib.hid (set_9 (HW.out.trans (hB6.mono HW.out.size)) (Nat.le_succ w.heap.size) (.int .i64 k) (.int .i32 n) (.string ty) (.string nm) (.slice Ae le.length ce) (.slice Aa la.length ca) (.slice Ab lb.length cb) (.slice Ac lc.length cc) (.int .i64 0))
  have hq1 : w.heap.size + 1 < w3.heap.size := by have := HS1.out; omega
  have hq2 : w3.heap.size ≤ w4.heap.size := HSX.out
  have HF1 := Lib.hid (own_set_9 (b := w.heap.size + 1) HO1d.out hq1 (.int .i64 k) (.int .i32 n) (.string ty) (.string nm) (.slice Ae le.length ce) (.slice Aa la.length ca) (.slice Ab lb.length cb) (.slice Ac lc.length cc) (.int .i64 0))
  have HF2 := Lib.hid (own_set_9 (b := w.heap.size + 1) HO2c.out (by omega) (.int .i64 k) (.int .i32 n) (.string ty) (.string nm) (.slice Ae le.length ce) (.slice Aa la.length ca) (.slice Ab lb.length cb) (.slice Ac lc.length cc) (.int .i64 0))
  have HF3 := Lib.hid (own_set_9 (b := w.heap.size + 1) HO3b.out (by have := HS2.out; omega) (.int .i64 k) (.int .i32 n) (.string ty) (.string nm) (.slice Ae le.length ce) (.slice Aa la.length ca) (.slice Ab lb.length cb) (.slice Ac lc.length cc) (.int .i64 0))
  have HF4 := Lib.hid (own_set_9 (b := w.heap.size + 1) HO4.out (by have := HS2.out; have := HS3.out; omega) (.int .i64 k) (.int .i32 n) (.string ty) (.string nm) (.slice Ae le.length ce) (.slice Aa la.length ca) (.slice Ab lb.length cb) (.slice Ac lc.length cc) (.int .i64 0))
  have hq3 : w.heap.size ≤ w3.heap.size := by omega
  have hq4 : w.heap.size ≤ w4.heap.size := by omega
  go_wp2_with fail
  refine bodyPost_ret (v := .agg #[.int .i64 k, .int .i32 n, .string ty, .string nm, .slice Ae le.length ce, .slice Aa la.length ca, .slice Ab lb.length cb, .slice Ac lc.length cc, .int .i64 0]) (by simp [results, Tryz.results54, go_sem, z0, z1, z2, z3, z4, z5, z6, z7, z8]) rfl ?_
  exact ⟨_, _, _, _, rfl, ⟨w4.heap.size, w5.heap.size, w6.heap.size, hq4, HS2.out, HS3.out, own_mono HF1.out hq3, fun k hk => (HL1.out k hk).2, HF2.out, fun k hk => (HL2.out k hk).2, HF3.out, fun k hk => (HL3.out k hk).2, HF4.out⟩, HFB.out⟩
end Go.Proofs.YtnphimechniplaaGreat
/- Contract of tree.bareMethod. -/
set_option linter.unusedSimpArgs false
set_option linter.unusedVariables false
namespace Go.Proofs.YtnphimechniplaaGreat
open Go.RowKit
theorem set_same {α : Type} : ∀ (l : List α) (i : Nat) (a : α), l[i]? = some a → l.set i a = l
  | [], _, _, h => by simp at h
  | x :: l, 0, a, h => by simp at h; subst h; rfl
  | x :: l, i + 1, a, h => by simp only [List.set_cons_succ]; rw [set_same l i a (by simpa using h)]
theorem cellsP_get : ∀ (l : List Prm) (k : Nat) (x : Prm), l[k]? = some x → (cellsP l)[k * 2]? = some (.string x.1) ∧ (cellsP l)[k * 2 + 1]? = some (.string x.2)
  | [], _, _, h => by simp at h
  | y :: l, 0, x, h => by simp at h; subst h; simp [cellsP]
  | y :: l, k + 1, x, h => by
    have ih := cellsP_get l k x (by simpa using h)
    have e1 : (k + 1) * 2 = k * 2 + 2 := by omega
    have e2 : (k + 1) * 2 + 1 = (k * 2 + 1) + 2 := by omega
    rw [e1]
    have e3 : k * 2 + 2 + 1 = (k * 2 + 1) + 2 := by omega
    rw [e3]
    simpa [cellsP] using ih
/-- The loop over the parameters. -/
structure LM (w wr : World) (s c : Bool) (ty nm : ByteArray) (ps : List Prm) (vp v : Value) : Prop where
  bel : Below w.heap.size w wr
  box : Bx wr w.heap.size #[.bool s, .bool c, .string ty, .string nm, vp, v] 41
  res : Bx wr (w.heap.size + 1) #[.bool false, .bool false, .string ⟨#[]⟩, .string ⟨#[]⟩, .slice none 0 0, .slice none 0 0] 41
  own : wr.ownsRow (w.heap.size + 2) 79 2 vp ps.length (cellsP ps)
theorem grown_set_at (w : World) (g o : Nat) (u : Value) : w.grownBy (w.setCell ⟨g, o, none⟩ u) (some g) :=
  ⟨rfl, rfl, rfl, by simp, fun k hk hne => Below.heap_setCell w _ u k (fun e => hne (by rw [e]))⟩
theorem own_row {w : World} {B n : Nat} {e : TypeId} {v : Value} {xs : List Value} {sz : Nat} (h : w.ownsRow B e sz v n xs) (hn : 0 < n) : ∃ g cap, v = .slice (some ⟨g, 0, none⟩) n cap ∧ B ≤ g ∧ g < w.heap.size ∧ ∀ k u, xs[k]? = some u → w.cell? ⟨g, k, none⟩ = some u ∧ w.frozen? ⟨g, k, none⟩ = false := by
  obtain ⟨g, cap, rfl, hb, hl⟩ := h.form hn
  refine ⟨g, cap, rfl, hb, hl, fun k u hu => ⟨?_, h.frozenAt k⟩⟩
  have hc := h.cells (g := g) rfl k u hu
  rw [add_off] at hc
  simpa using hc
theorem LM.next {w wr w' : World} {s c : Bool} {ty nm : ByteArray} {ps : List Prm} {v : Value} {g n cap k : Nat} {x : Prm} (h : LM w wr s c ty nm ps (.slice (some ⟨g, 0, none⟩) n cap) v) (hg : wr.grownBy w' none) (hn : ps.length = n) (hgb : w.heap.size + 2 ≤ g) (hx : ps[k]? = some x) :
    LM w ((w'.setCell ⟨g, k * 2, none⟩ (.string x.1)).setCell ⟨g, k * 2 + 1, none⟩ (.string x.2)) s c ty nm ps (.slice (some ⟨g, 0, none⟩) n cap) v := by
  obtain ⟨e1, e2⟩ := cellsP_get ps k x hx
  have hb : Below wr.heap.size wr w' := ⟨hg.os, hg.tape, hg.output, hg.size, fun k hk => hg.block k hk (by simp)⟩
  have ho := own_next h.own hb
  rw [hn] at ho
  have o1 := (ho.stored (k * 2) (.string x.1)).1
  rw [set_same _ _ _ e1] at o1
  have o2 := (o1.stored (k * 2 + 1) (.string x.2)).1
  rw [set_same _ _ _ e2] at o2
  refine ⟨((h.bel.trans (hb.mono h.bel.size)).setCell (by simp; omega) _).setCell (by simp; omega) _, ?_, ?_, by rw [hn]; exact o2⟩
  · exact (Below.heap_setCell _ _ _ _ (by simp; omega)).trans ((Below.heap_setCell _ _ _ _ (by simp; omega)).trans (h.box.next hb))
  · exact (Below.heap_setCell _ _ _ _ (by simp; omega)).trans ((Below.heap_setCell _ _ _ _ (by simp; omega)).trans (h.res.next hb))
def BareM (w : World) (s c : Bool) (ty nm : ByteArray) (ps : List Prm) (l : List Nd) (e : Ending) (w' : World) : Prop :=
  ∃ vp' v' B1, e = .returned (.agg #[.bool s, .bool c, .string ty, .string nm, vp', v']) ∧ w.heap.size ≤ B1 ∧ w'.ownsRow w.heap.size 79 2 vp' ps.length (cellsP ps) ∧ (∀ k, vp'.ownBlock = some k → k < B1) ∧ w'.ownsRow B1 45 9 v' l.length (l.flatMap cellsN) ∧ Below w.heap.size w w'
set_option maxRecDepth 100000 in
set_option maxHeartbeats 4000000 in
theorem bareMethod_any (w : World) (s c : Bool) (ty nm : ByteArray) (vp : Value) (ps : List Prm) (v : Value) (l : List Nd) (h1 : ty.size ≤ 281474976710656) (h2 : nm.size ≤ 281474976710656)
    (hrp : Pw w vp ps) (hsp : ps.length ≤ 1000000) (hpp : ∀ p ∈ ps, p.1.size ≤ 281474976710656 ∧ p.2.size ≤ 281474976710656) (hr : Rw w .st v l) (hk : KdL w l) (hs : l.length ≤ 1000000) :
    Calls Tryz.prog 55 #[.agg #[.bool s, .bool c, .string ty, .string nm, vp, v]] w (BareM w s c ty nm ps l) := by
  have HC : Hid (∀ (s : ByteArray) (w1 : World), s.size ≤ 281474976710656 → Calls Tryz.prog 56 #[.string s] w1 fun e w' => e = .returned (.string s) ∧ Below w1.heap.size w1 w') := fun s w1 h => clone_any s w1 h
  have HRP : Hid (∀ w', Below w.heap.size w w' → Calls Tryz.prog 81 #[vp] w' (RenewSaid w' 79 2 ps.length (cellsP ps))) := fun w' hb => renewed_pm w' vp ps (hrp.keep (Keep.below hb)) hsp
  have HRV : Hid (∀ w', Below w.heap.size w w' → Calls Tryz.prog 80 #[v] w' (RenewSaid w' 45 9 l.length (l.flatMap cellsN))) := fun w' hb => renewed_st w' v l (hr.keep (Keep.below hb)) (KdL.keep (Keep.below hb) _ hk) hs
  clear hrp hr hk
  go_enter Tryz.func55, Tryz.ntmps55
  go_wp2_with fail
  have hx1 : Bx ((w.alloc (.cells #[.bool s, .bool c, .string ty, .string nm, vp, v] 41)).alloc (.cells #[.bool false, .bool false, .string ⟨#[]⟩, .string ⟨#[]⟩, .slice none 0 0, .slice none 0 0] 41)) w.heap.size #[.bool s, .bool c, .string ty, .string nm, vp, v] 41 := (Bx.new _ _ _).next ((Below.refl _ _).alloc (Nat.le_refl _) _)
  have hx2 : Bx ((w.alloc (.cells #[.bool s, .bool c, .string ty, .string nm, vp, v] 41)).alloc (.cells #[.bool false, .bool false, .string ⟨#[]⟩, .string ⟨#[]⟩, .slice none 0 0, .slice none 0 0] 41)) (w.heap.size + 1) #[.bool false, .bool false, .string ⟨#[]⟩, .string ⟨#[]⟩, .slice none 0 0, .slice none 0 0] 41 := by simpa using Bx.new (w.alloc (.cells #[.bool s, .bool c, .string ty, .string nm, vp, v] 41)) _ _
  have hw : Below w.heap.size w ((w.alloc (.cells #[.bool s, .bool c, .string ty, .string nm, vp, v] 41)).alloc (.cells #[.bool false, .bool false, .string ⟨#[]⟩, .string ⟨#[]⟩, .slice none 0 0, .slice none 0 0] 41)) := ((Below.refl _ w).alloc (Nat.le_refl _) _).alloc (by simp) _
  generalize (w.alloc (.cells #[.bool s, .bool c, .string ty, .string nm, vp, v] 41)).alloc (.cells #[.bool false, .bool false, .string ⟨#[]⟩, .string ⟨#[]⟩, .slice none 0 0, .slice none 0 0] 41) = W1 at hx1 hx2 hw ⊢
  have hl1 := hx1.lt
  have hl2 := hx2.lt
  have HX1 := Lib.hid hx1
  have HX2 := Lib.hid hx2
  have HW := Lib.hid hw
  have hB0 : Below W1.heap.size W1 W1.drew := (Below.refl _ W1).drew
  obtain ⟨c0, c1, c2, c3, c4, c5⟩ := hx1.get_6
  have f2 := hx1.fro 2; have f3 := hx1.fro 3
  clear hx1 hx2 hw
  go_cut [] (fun wx => Below w.heap.size w wx ∧ Bx wx w.heap.size #[.bool s, .bool c, .string ty, .string nm, vp, v] 41 ∧ Bx wx (w.heap.size + 1) #[.bool false, .bool false, .string ⟨#[]⟩, .string ⟨#[]⟩, .slice none 0 0, .slice none 0 0] 41)
  case first =>
    go_region_with (first
      | (go_at_call_of 56 (Value.string ty); refine (HC.out ty _ h1).mono ?_; rintro e w2 ⟨rfl, hc1⟩; have hB1 := hB0.trans (hc1.mono hB0.size); have HXa := HX1.out.below hB1 hl1; have d3 : w2.cell? ⟨w.heap.size, 3, none⟩ = some (.string nm) := HXa.cell 3; clear hc1 HXa)
      | (go_at_call_of 56 (Value.string nm); refine (HC.out nm _ h2).mono ?_; rintro e w3 ⟨rfl, hc2⟩; have hB2 := hB1.trans (hc2.mono hB1.size); have hxb := HX1.out.below hB2 hl1; have e2 : w3.cell? ⟨w.heap.size, 2, none⟩ = some (.string ty) := hxb.cell 2; have e3 : w3.cell? ⟨w.heap.size, 3, none⟩ = some (.string nm) := hxb.cell 3; have g2 := hxb.fro 2; have g3 := hxb.fro 3; have HXB := Lib.hid hxb; have HXC := Lib.hid (HX2.out.below hB2 hl2); clear hc2 hxb))
    all_goals
      go_wp2_with fail
      go_meet
      exact ⟨((HW.out.trans (hB2.mono HW.out.size)).setCell (Nat.le_refl _) _).setCell (Nat.le_refl _) _, by simpa using (HXB.out.set 2 (.string ty)).set 3 (.string nm), (Below.heap_setCell _ _ _ _ (by simp)).trans ((Below.heap_setCell _ _ _ _ (by simp)).trans HXC.out)⟩
  case rest =>
    obtain ⟨hw, hx1, hx2⟩ := hcut
    clear c0 c1 c2 c3 c4 c5 f2 f3 HX1 HX2 HW hB0
    have d4 : wc.cell? ⟨w.heap.size, 4, none⟩ = some vp := hx1.cell 4
    have HX1 := Lib.hid hx1
    have HX2 := Lib.hid hx2
    have hl2c := hx2.lt
    clear hx1 hx2
    go_wp2_with fail
    refine (HRP.out _ hw).mono ?_
    clear HRP
    rintro e w2 ⟨vp', rfl, hop, hc⟩
    obtain ⟨Ap, cp, rfl, _⟩ := own_form hop
    have hx1 := HX1.out.next hc
    have e4 : w2.cell? ⟨w.heap.size, 4, none⟩ = some vp := hx1.cell 4
    have g4 := hx1.fro 4
    have L0 : LM w (w2.setCell ⟨w.heap.size, 4, none⟩ (.slice Ap ps.length cp)) s c ty nm ps (.slice Ap ps.length cp) v :=
      ⟨(hw.trans (hc.mono hw.size)).setCell (Nat.le_refl _) _, by simpa using hx1.set 4 (.slice Ap ps.length cp), (Below.heap_setCell _ _ _ _ (by simp)).trans (HX2.out.next hc), own_mono (ownsRow_setCell_below hop (by simp; omega) _) (by omega)⟩
    have HL0 := Lib.hid L0
    have d40 : (w2.setCell ⟨w.heap.size, 4, none⟩ (.slice Ap ps.length cp)).cell? ⟨w.heap.size, 4, none⟩ = some (.slice Ap ps.length cp) := L0.box.cell 4
    obtain ⟨n, hn⟩ : ∃ n, ps.length = n := ⟨_, rfl⟩
    rw [hn] at hsp HL0 d40
    have HN := Lib.hid hn
    simp only [hn]
    clear hn hop hc hx1 HX1 HX2 L0 hw d4
    go_wp2_with fail
    generalize w2.setCell ⟨w.heap.size, 4, none⟩ (.slice Ap n cp) = w3 at HL0 d40 ⊢
    clear e4 g4
    go_loopw [20] (fun v20 wr => ∃ k : Nat, v20 = .int .i64 k ∧ k ≤ n ∧ LM w wr s c ty nm ps (.slice Ap n cp) v) (fun v20 wr => n - (intOf v20).toNat)
    case atStart => exact ⟨0, rfl, Nat.zero_le _, HL0.out⟩
    case round =>
      obtain ⟨k, rfl, hkn, hL⟩ := hrel
      clear HL0 d40
      by_cases hlt : k < n
      · have ho := hL.own
        rw [HN.out] at ho
        obtain ⟨g, cap, hv, hgb, hgl, hat⟩ := own_row ho (by omega)
        injection hv with hv1 hv2 hv3
        subst hv1; subst hv3
        clear hv2
        have hkl : k < ps.length := by rw [HN.out]; exact hlt
        obtain ⟨x, hx⟩ : ∃ x, ps[k]? = some x := ⟨_, List.getElem?_eq_getElem hkl⟩
        obtain ⟨p1, p2⟩ := cellsP_get ps k x hx
        obtain ⟨a0, b0⟩ := hat _ _ p1
        obtain ⟨a1, b1⟩ := hat _ _ p2
        have m4 : wr.cell? ⟨w.heap.size, 4, none⟩ = some (.slice (some ⟨g, 0, none⟩) n cp) := hL.box.cell 4
        have hxs := hpp x (List.mem_of_getElem? hx)
        have hxs1 := hxs.1
        have hxs2 := hxs.2
        have HLL := Lib.hid hL
        have HX := Lib.hid hx
        have hgn : g ≠ w.heap.size := by omega
        clear hat p1 p2 hxs hL hx ho
        have hbx := Bx.new wr #[.string x.1, .string x.2] 79
        go_wp2_with fail
        have HS : Hid (∀ w', (wr.alloc (.cells #[.string x.1, .string x.2] 79)).grownBy w' (some g) → w'.cell? ⟨w.heap.size, 4, none⟩ = some (.slice (some ⟨g, 0, none⟩) n cp) ∧ w'.cell? ⟨wr.heap.size, 0, none⟩ = some (.string x.1) ∧ w'.cell? ⟨wr.heap.size, 1, none⟩ = some (.string x.2)) := by
          show ∀ w', _
          intro w' hg
          have hbl := hbx.lt
          refine ⟨?_, ?_, ?_⟩
          · rw [← m4]
            exact World.cell?_of_block ((hg.block w.heap.size (by simp; omega) (by simp; omega)).trans (Below.heap_alloc _ _ _ (show w.heap.size < wr.heap.size by omega)))
          · rw [World.cell?_of_block (w := wr.alloc (.cells #[.string x.1, .string x.2] 79)) (hg.block _ (by simp) (by simp; omega)), hbx.cell 0]; rfl
          · rw [World.cell?_of_block (w := wr.alloc (.cells #[.string x.1, .string x.2] 79)) (hg.block _ (by simp) (by simp; omega)), hbx.cell 1]; rfl
        have a0 : (wr.alloc (.cells #[.string x.1, .string x.2] 79)).cell? ⟨g, k * 2, none⟩ = some (.string x.1) := keep_alloc _ _ _ _ a0
        have a1 : (wr.alloc (.cells #[.string x.1, .string x.2] 79)).cell? ⟨g, k * 2 + 1, none⟩ = some (.string x.2) := keep_alloc _ _ _ _ a1
        have b0 : (wr.alloc (.cells #[.string x.1, .string x.2] 79)).frozen? ⟨g, k * 2, none⟩ = false := (World.frozen?_of_block (w := wr) (Below.heap_alloc _ _ _ hgl)).trans b0
        have b1 : (wr.alloc (.cells #[.string x.1, .string x.2] 79)).frozen? ⟨g, k * 2 + 1, none⟩ = false := (World.frozen?_of_block (w := wr) (Below.heap_alloc _ _ _ hgl)).trans b1
        have HGA := Lib.hid (World.grownBy_alloc wr (.cells #[.string x.1, .string x.2] 79) none)
        have hgl2 : g < (wr.alloc (.cells #[.string x.1, .string x.2] 79)).heap.size := by simp; omega
        clear hbx m4
        generalize wr.alloc (.cells #[.string x.1, .string x.2] 79) = w4 at HS a0 a1 b0 b1 HGA hgl2 ⊢
        have hG0 : w4.grownBy w4.drew (some g) := ⟨rfl, rfl, rfl, Nat.le_refl _, fun _ _ _ => rfl⟩
        have hB0 : Below w4.heap.size w4 w4.drew := (Below.refl _ w4).drew
        have hi0 : (0 : Int) ≤ (k : Int) := by omega
        have hi1 : (k : Int) < (n : Int) := by omega
        go_region_held3 (fun w' => w'.cell? ⟨w.heap.size, 4, none⟩ = some (.slice (some ⟨g, 0, none⟩) n cp) ∧ w'.cell? ⟨wr.heap.size, 0, none⟩ = some (.string x.1) ∧ w'.cell? ⟨wr.heap.size, 1, none⟩ = some (.string x.2))
          (first | with_reducible exact HS.out _ hG0 | with_reducible exact HS.out _ hG1 | with_reducible exact HS.out _ hG2 | with_reducible exact HS.out _ (hG2.trans (grown_set_at _ _ _ _)) | with_reducible exact HS.out _ ((hG2.trans (grown_set_at _ _ _ _)).trans (grown_set_at _ _ _ _)))
          ((first
            | (go_at_call_of 56 (Value.string x.1); refine (HC.out x.1 _ hxs1).mono ?_; rintro e w5 ⟨rfl, hc1⟩; have hB1 := hB0.trans (hc1.mono hB0.size); have hG1 : w4.grownBy w5 (some g) := hG0.trans (grown_below hc1); clear hc1)
            | (go_at_call_of 56 (Value.string x.2); refine (HC.out x.2 _ hxs2).mono ?_; rintro e w6 ⟨rfl, hc2⟩; have hB2 := hB1.trans (hc2.mono hB1.size); have hG2 : w4.grownBy w6 (some g) := hG1.trans (grown_below hc2); have e0 := (hB2.cell (p := ⟨g, k * 2, none⟩) hgl2).trans a0; have e1 := (hB2.cell (p := ⟨g, k * 2 + 1, none⟩) hgl2).trans a1; have q0 := (hB2.frozen (p := ⟨g, k * 2, none⟩) hgl2).trans b0; have q1 := (hB2.frozen (p := ⟨g, k * 2 + 1, none⟩) hgl2).trans b1; clear hc2)))
        all_goals
          have HLN := Lib.hid (HLL.out.next (HGA.out.trans (grown_below hB2)) HN.out hgb HX.out)
          go_wp2_with fail
          go_roundw
          case rel => exact ⟨k + 1, by go_num, by omega, HLN.out⟩
          case measure => simp [intOf]; omega
      · have HLL := Lib.hid hL
        have hx1 := hL.box
        have m5 : wr.cell? ⟨w.heap.size, 5, none⟩ = some v := hx1.cell 5
        have hbw := hL.bel
        have HRVV := Lib.hid (HRV.out wr hbw)
        clear hL hx1
        go_wp2_with fail
        refine HRVV.out.mono ?_
        clear HRVV
        rintro e w5 ⟨v5, rfl, ho5, hc5⟩
        obtain ⟨A5, c5, rfl, _⟩ := own_form ho5
        have hbx := HLL.out.box.next hc5
        obtain ⟨z0, z1, z2, z3, z4, z5⟩ := hbx.get_6
        have g5 := hbx.fro 5
        have hrx := HLL.out.res.next hc5
        obtain ⟨y0, y1, y2, y3, y4, y5⟩ := hrx.get_6
        have f0 := hrx.fro 0; have f1 := hrx.fro 1; have f2 := hrx.fro 2; have f3 := hrx.fro 3; have f4 := hrx.fro 4; have f5 := hrx.fro 5
        have hop := own_next HLL.out.own hc5
        have hbf := hbw.trans (hc5.mono hbw.size)
        have hsz := hbw.size
        have hszb := HLL.out.res.lt
        have hlv := HLL.out.own.lt
        have HFIN : Hid (∀ W, W = ((((((w5.setCell ⟨w.heap.size, 5, none⟩ (.slice A5 l.length c5)).setCell ⟨w.heap.size + 1, 0, none⟩ (.bool s)).setCell ⟨w.heap.size + 1, 1, none⟩ (.bool c)).setCell ⟨w.heap.size + 1, 2, none⟩ (.string ty)).setCell ⟨w.heap.size + 1, 3, none⟩ (.string nm)).setCell ⟨w.heap.size + 1, 4, none⟩ (.slice Ap n cp)).setCell ⟨w.heap.size + 1, 5, none⟩ (.slice A5 l.length c5) →
            BareM w s c ty nm ps l (.returned (.agg #[.bool s, .bool c, .string ty, .string nm, .slice Ap n cp, .slice A5 l.length c5])) W) := by
          show ∀ W, _
          rintro W rfl
          refine ⟨_, _, wr.heap.size, rfl, hsz, own_mono (own_set_6 (ownsRow_setCell_below hop (by simp) _) (by omega) _ _ _ _ _ _) (by omega), fun k hk => (hlv k hk).2, own_set_6 (ownsRow_setCell_below ho5 (by simp; omega) _) (by omega) _ _ _ _ _ _, set_6 (hbf.setCell (Nat.le_refl _) _) (Nat.le_succ _) _ _ _ _ _ _⟩
        clear hbx hrx hop hbf hlv ho5 hc5
        go_wp2_with fail
        refine bodyPost_ret (v := .agg #[.bool s, .bool c, .string ty, .string nm, .slice Ap n cp, .slice A5 l.length c5]) (by simp [results, Tryz.results55, go_sem, z0, z1, z2, z3, z4, z5, y0, y1, y2, y3, y4, y5]) rfl ?_
        exact HFIN.out _ rfl
end Go.Proofs.YtnphimechniplaaGreat
/- Contract of tree.addWithin of a node in new memory. Written by wip/tools/gen_bare_e.py. -/
set_option linter.unusedSimpArgs false
set_option linter.unusedVariables false
namespace Go.Proofs.YtnphimechniplaaGreat
open Go.RowKit
theorem Grew.of_drewN {w w' : World} {v v' : Value} {n : Nat} (h : Grew (w.drewN n) w' v v') : Grew w w' v v' := ⟨⟨h.1.os, h.1.tape, h.1.output, h.1.size, h.1.block⟩, h.2⟩
set_option maxRecDepth 100000 in
set_option maxHeartbeats 2000000 in
theorem gwithin_ex (B : Nat) (w : World) (v : Value) (ps : List Pt) (b o : Nat) (k n : Int) (tx nm ty : ByteArray) (nv : Value) (l : List Nd) (own : ByteArray) (nth : Int) (hB : B ≤ w.heap.size)
    (hown : w.ownsRow B 69 1 v ps.length (ps.map ptV)) (hp : ∀ w' v', Grew w w' v v' → Pt.at_ w' ⟨b, o, .ex k n tx nm ty nv l own nth⟩) (hs : ps.length + (l.length) ≤ 1000000) :
    Calls Tryz.prog 38 #[v, .iface 64 (.pointer (some ⟨b, o, none⟩))] w (AddSaid w B v (ps ++ kidsP (.ex k n tx nm ty nv l own nth))) := by
  have HP := Lib.hid hp
  have hk := (hp w v (Grew.refl w v)).2; rw [Kd] at hk
  have hl0 := ptsV_len (hk.2.1)
  have HG0 := Lib.hid (Grew.refl w v)
  clear hk hp
  go_enter Tryz.func38, Tryz.ntmps38
  have c0 : w.cell? ⟨b, o + 5, none⟩ = some nv := (HP.out w v HG0.out).cell 5 rfl
  have hk0 := (HP.out w v HG0.out).2; rw [Kd] at hk0
  have H0 := Lib.hid (add_ex w B v (ps) nv l hB hown (hk0.2.1) (by omega))
  clear hk0
  go_wp2_with fail
  refine (H0.out).mono ?_
  clear H0
  rintro e0 w1 ⟨v1, rfl, ho1, hg1⟩
  have HG1 := Lib.hid (HG0.out.trans hg1)
  have hB1 : B ≤ w1.heap.size := Nat.le_trans hB hg1.size
  clear c0 hg1
  go_wp2_with fail
  go_ret
  exact said_mk ho1 HG1.out (by simp [kidsP])
set_option maxRecDepth 100000 in
set_option maxHeartbeats 2000000 in
theorem gwithin_st (B : Nat) (w : World) (v : Value) (ps : List Pt) (b o : Nat) (k n : Int) (ty nm : ByteArray) (ve va vb vc : Value) (e a b' c : List Nd) (nth : Int) (hB : B ≤ w.heap.size)
    (hown : w.ownsRow B 69 1 v ps.length (ps.map ptV)) (hp : ∀ w' v', Grew w w' v v' → Pt.at_ w' ⟨b, o, .st k n ty nm ve va vb vc e a b' c nth⟩) (hs : ps.length + (e.length + a.length + b'.length + c.length) ≤ 1000000) :
    Calls Tryz.prog 38 #[v, .iface 84 (.pointer (some ⟨b, o, none⟩))] w (AddSaid w B v (ps ++ kidsP (.st k n ty nm ve va vb vc e a b' c nth))) := by
  have HP := Lib.hid hp
  have hk := (hp w v (Grew.refl w v)).2; rw [Kd] at hk
  have hl0 := ptsV_len (hk.2.1.1)
  have hl1 := ptsV_len (hk.2.2.1.1)
  have hl2 := ptsV_len (hk.2.2.2.1.1)
  have hl3 := ptsV_len (hk.2.2.2.2.1)
  have HG0 := Lib.hid (Grew.refl w v)
  clear hk hp
  go_enter Tryz.func38, Tryz.ntmps38
  have c0 : w.cell? ⟨b, o + 4, none⟩ = some ve := (HP.out w v HG0.out).cell 4 rfl
  have hk0 := (HP.out w v HG0.out).2; rw [Kd] at hk0
  have H0 := Lib.hid (add_ex w B v (ps) ve e hB hown (hk0.2.1.1) (by omega))
  clear hk0
  go_wp2_with fail
  refine (H0.out).mono ?_
  clear H0
  rintro e0 w1 ⟨v1, rfl, ho1, hg1⟩
  have HG1 := Lib.hid (HG0.out.trans hg1)
  have hB1 : B ≤ w1.heap.size := Nat.le_trans hB hg1.size
  clear c0 hg1
  have c1 : w1.cell? ⟨b, o + 5, none⟩ = some va := (HP.out w1 v1 HG1.out).cell 5 rfl
  have hk1 := (HP.out w1 v1 HG1.out).2; rw [Kd] at hk1
  have H1 := Lib.hid (add_st w1 B v1 (ps ++ ptsV .ex ve e) va a hB1 ho1 (hk1.2.2.1.1) (by simp only [List.length_append]; omega))
  clear hk1
  go_wp2_with fail
  refine (H1.out).mono ?_
  clear H1
  rintro e1 w2 ⟨v2, rfl, ho2, hg2⟩
  have HG2 := Lib.hid (HG1.out.trans hg2)
  have hB2 : B ≤ w2.heap.size := Nat.le_trans hB1 hg2.size
  clear c1 hg2
  have c2 : w2.cell? ⟨b, o + 6, none⟩ = some vb := (HP.out w2 v2 HG2.out).cell 6 rfl
  have hk2 := (HP.out w2 v2 HG2.out).2; rw [Kd] at hk2
  have H2 := Lib.hid (add_st w2 B v2 (ps ++ ptsV .ex ve e ++ ptsV .st va a) vb b' hB2 ho2 (hk2.2.2.2.1.1) (by simp only [List.length_append]; omega))
  clear hk2
  go_wp2_with fail
  refine (H2.out).mono ?_
  clear H2
  rintro e2 w3 ⟨v3, rfl, ho3, hg3⟩
  have HG3 := Lib.hid (HG2.out.trans hg3)
  have hB3 : B ≤ w3.heap.size := Nat.le_trans hB2 hg3.size
  clear c2 hg3
  have c3 : w3.cell? ⟨b, o + 7, none⟩ = some vc := (HP.out w3 v3 HG3.out).cell 7 rfl
  have hk3 := (HP.out w3 v3 HG3.out).2; rw [Kd] at hk3
  have H3 := Lib.hid (add_st w3 B v3 (ps ++ ptsV .ex ve e ++ ptsV .st va a ++ ptsV .st vb b') vc c hB3 ho3 (hk3.2.2.2.2.1) (by simp only [List.length_append]; omega))
  clear hk3
  go_wp2_with fail
  refine (H3.out).mono ?_
  clear H3
  rintro e3 w4 ⟨v4, rfl, ho4, hg4⟩
  have HG4 := Lib.hid (HG3.out.trans hg4)
  have hB4 : B ≤ w4.heap.size := Nat.le_trans hB3 hg4.size
  clear c3 hg4
  go_wp2_with fail
  go_ret
  exact said_mk ho4 HG4.out (by simp [kidsP])
set_option maxRecDepth 100000 in
set_option maxHeartbeats 2000000 in
theorem gwithin_mt (B : Nat) (w : World) (v : Value) (ps : List Pt) (b o : Nat) (s c : Bool) (ty nm : ByteArray) (vp : Value) (qs : List (ByteArray × ByteArray)) (nv : Value) (l : List Nd) (hB : B ≤ w.heap.size)
    (hown : w.ownsRow B 69 1 v ps.length (ps.map ptV)) (hp : ∀ w' v', Grew w w' v v' → Pt.at_ w' ⟨b, o, .mt s c ty nm vp qs nv l⟩) (hs : ps.length + (l.length) ≤ 1000000) :
    Calls Tryz.prog 38 #[v, .iface 89 (.pointer (some ⟨b, o, none⟩))] w (AddSaid w B v (ps ++ kidsP (.mt s c ty nm vp qs nv l))) := by
  have HP := Lib.hid hp
  have hk := (hp w v (Grew.refl w v)).2; rw [Kd] at hk
  have hl0 := ptsV_len (hk.2.2.1)
  have HG0 := Lib.hid (Grew.refl w v)
  clear hk hp
  go_enter Tryz.func38, Tryz.ntmps38
  have c0 : w.cell? ⟨b, o + 5, none⟩ = some nv := (HP.out w v HG0.out).cell 5 rfl
  have hk0 := (HP.out w v HG0.out).2; rw [Kd] at hk0
  have H0 := Lib.hid (add_st w B v (ps) nv l hB hown (hk0.2.2.1) (by omega))
  clear hk0
  go_wp2_with fail
  refine (H0.out).mono ?_
  clear H0
  rintro e0 w1 ⟨v1, rfl, ho1, hg1⟩
  have HG1 := Lib.hid (HG0.out.trans hg1)
  have hB1 : B ≤ w1.heap.size := Nat.le_trans hB hg1.size
  clear c0 hg1
  go_wp2_with fail
  go_ret
  exact said_mk ho1 HG1.out (by simp [kidsP])
set_option maxRecDepth 100000 in
set_option maxHeartbeats 2000000 in
theorem gwithin_fd (B : Nat) (w : World) (v : Value) (ps : List Pt) (b o : Nat) (s : Bool) (ty nm : ByteArray) (nv : Value) (l : List Nd) (hB : B ≤ w.heap.size)
    (hown : w.ownsRow B 69 1 v ps.length (ps.map ptV)) (hp : ∀ w' v', Grew w w' v v' → Pt.at_ w' ⟨b, o, .fd s ty nm nv l⟩) (hs : ps.length + (l.length) ≤ 1000000) :
    Calls Tryz.prog 38 #[v, .iface 92 (.pointer (some ⟨b, o, none⟩))] w (AddSaid w B v (ps ++ kidsP (.fd s ty nm nv l))) := by
  have HP := Lib.hid hp
  have hk := (hp w v (Grew.refl w v)).2; rw [Kd] at hk
  have hl0 := ptsV_len (hk.2.1)
  have HG0 := Lib.hid (Grew.refl w v)
  clear hk hp
  go_enter Tryz.func38, Tryz.ntmps38
  have c0 : w.cell? ⟨b, o + 3, none⟩ = some nv := (HP.out w v HG0.out).cell 3 rfl
  have hk0 := (HP.out w v HG0.out).2; rw [Kd] at hk0
  have H0 := Lib.hid (add_ex w B v (ps) nv l hB hown (hk0.2.1) (by omega))
  clear hk0
  go_wp2_with fail
  refine (H0.out).mono ?_
  clear H0
  rintro e0 w1 ⟨v1, rfl, ho1, hg1⟩
  have HG1 := Lib.hid (HG0.out.trans hg1)
  have hB1 : B ≤ w1.heap.size := Nat.le_trans hB hg1.size
  clear c0 hg1
  go_wp2_with fail
  go_ret
  exact said_mk ho1 HG1.out (by simp [kidsP])
set_option maxRecDepth 100000 in
set_option maxHeartbeats 2000000 in
theorem gwithin_cl (B : Nat) (w : World) (v : Value) (ps : List Pt) (b o : Nat) (nm sp : ByteArray) (vf vm : Value) (f m : List Nd) (hB : B ≤ w.heap.size)
    (hown : w.ownsRow B 69 1 v ps.length (ps.map ptV)) (hp : ∀ w' v', Grew w w' v v' → Pt.at_ w' ⟨b, o, .cl nm sp vf vm f m⟩) (hs : ps.length + (f.length + m.length) ≤ 1000000) :
    Calls Tryz.prog 38 #[v, .iface 58 (.pointer (some ⟨b, o, none⟩))] w (AddSaid w B v (ps ++ kidsP (.cl nm sp vf vm f m))) := by
  have HP := Lib.hid hp
  have hk := (hp w v (Grew.refl w v)).2; rw [Kd] at hk
  have hl0 := ptsV_len hk.2.1.1
  have c2 : w.cell? ⟨b, o + 2, none⟩ = some vf := (hp w v (Grew.refl w v)).cell 2 rfl
  have c3 : w.cell? ⟨b, o + 3, none⟩ = some vm := (hp w v (Grew.refl w v)).cell 3 rfl
  have R0 := Lib.hid hk.2.1.1
  have H0 : Hid (∀ k, Calls Tryz.prog 68 #[v, vf] (w.drewN k) (AddSaid (w.drewN k) B v (ps ++ ptsV .fd vf f))) := by
    show ∀ k, _
    intro k
    exact add_fd (w.drewN k) B v ps vf f hB hown (Rw.keep (w := w) (w' := w.drewN k) (fun _ _ h => h) R0.out) (by omega)
  have H1 : Hid (∀ w1 v1, Grew w w1 v v1 → w1.ownsRow B 69 1 v1 (ps ++ ptsV .fd vf f).length ((ps ++ ptsV .fd vf f).map ptV) → Calls Tryz.prog 67 #[v1, vm] w1 (AddSaid w1 B v1 (ps ++ ptsV .fd vf f ++ ptsV .mt vm m))) := by
    show ∀ w1 v1, _
    intro w1 v1 hg h2
    have hk1 := (HP.out w1 v1 hg).2; rw [Kd] at hk1
    exact add_mt w1 B v1 _ vm m (Nat.le_trans hB hg.size) h2 hk1.2.2.1 (by simp only [List.length_append]; omega)
  clear hk hp
  go_enter Tryz.func38, Tryz.ntmps38
  go_wp2_with fail
  go_region_with (first | (go_at_call 68; refine (H0.out 1).mono ?_; clear H0; rintro e1 w1 ⟨v1, rfl, ho1, hg1⟩; have HG1 := Lib.hid hg1.of_drewN; have c3b : w1.cell? ⟨b, o + 3, none⟩ = some vm := (HP.out w1 v1 HG1.out).cell 3 rfl; clear hg1) | (go_at_call 67; refine (H1.out _ _ HG1.out ho1).mono ?_; clear H1; rintro e2 w2 ⟨v2, rfl, ho2, hg2⟩))
  all_goals go_wp2_with fail
  all_goals go_ret
  all_goals exact said_mk ho2 (HG1.out.trans hg2) (by simp [kidsP])
theorem gwithin_any (B : Nat) (w : World) (v : Value) (ps : List Pt) (p : Pt) (hB : B ≤ w.heap.size) (hown : w.ownsRow B 69 1 v ps.length (ps.map ptV)) (hp : ∀ w' v', Grew w w' v v' → p.at_ w') (hs : ps.length + (kidsP p.x).length ≤ 1000000) :
    Calls Tryz.prog 38 #[v, ptV p] w (AddSaid w B v (ps ++ kidsP p.x)) := by
  obtain ⟨b, o, x⟩ := p
  have hk := (hp w v (Grew.refl w v)).2
  cases x <;> rw [Kd] at hk <;> simp only [kidsP, List.length_append] at hs
  · exact gwithin_ex B w v ps b o _ _ _ _ _ _ _ _ _ hB hown hp (by rw [← ptsV_len hk.2.1]; omega)
  · exact gwithin_st B w v ps b o _ _ _ _ _ _ _ _ _ _ _ _ _ hB hown hp (by rw [← ptsV_len hk.2.1.1, ← ptsV_len hk.2.2.1.1, ← ptsV_len hk.2.2.2.1.1, ← ptsV_len hk.2.2.2.2.1]; omega)
  · exact gwithin_fd B w v ps b o _ _ _ _ _ hB hown hp (by rw [← ptsV_len hk.2.1]; omega)
  · exact gwithin_mt B w v ps b o _ _ _ _ _ _ _ _ hB hown hp (by rw [← ptsV_len hk.2.2.1]; omega)
  · exact gwithin_cl B w v ps b o _ _ _ _ _ _ hB hown hp (by rw [← ptsV_len hk.2.1.1, ← ptsV_len hk.2.2.1]; omega)
end Go.Proofs.YtnphimechniplaaGreat
/- What is bare; what stands in new rows. -/
set_option linter.unusedSimpArgs false
set_option linter.unusedVariables false
namespace Go.Proofs.YtnphimechniplaaGreat
open Go.RowKit
mutual
def bareN : Nd → Nd
  | .ex k n tx nm ty _ l _ _ => .ex k n tx nm ty (.slice none 0 0) (bareL l) ⟨#[]⟩ 0
  | .st k n ty nm _ _ _ _ e a b c _ => .st k n ty nm (.slice none 0 0) (.slice none 0 0) (.slice none 0 0) (.slice none 0 0) (bareL e) (bareL a) (bareL b) (bareL c) 0
  | .fd s ty nm _ l => .fd s ty nm (.slice none 0 0) (bareL l)
  | .mt s c ty nm _ ps _ l => .mt s c ty nm (.slice none 0 0) ps (.slice none 0 0) (bareL l)
  | .cl nm sp _ _ f m => .cl nm sp (.slice none 0 0) (.slice none 0 0) (bareL f) (bareL m)
def bareL : List Nd → List Nd
  | [] => []
  | x :: l => bareN x :: bareL l
end
theorem bareL_map (l : List Nd) : bareL l = l.map bareN := by
  induction l with
  | nil => rfl
  | cons x l ih => simp [bareL, ih]
theorem tag_bare (x : Nd) : (bareN x).tag = x.tag := by cases x <;> rfl
theorem tag_of_bare {x y : Nd} (h : bareN x = bareN y) : x.tag = y.tag := by rw [← tag_bare x, h, tag_bare y]
def ntH : Nd → Prop
  | .ex _ _ _ _ _ _ _ own nth => own = ⟨#[]⟩ ∧ nth = 0
  | .st _ _ _ _ _ _ _ _ _ _ _ _ nth => nth = 0
  | _ => True
/-- No target in it. -/
inductive NT : Nd → Prop where
  | mk (x : Nd) (h : ntH x) (k : ∀ y ∈ x.kids, NT y) : NT x
def smH : Nd → Prop
  | .ex _ _ tx nm ty _ _ _ _ => tx.size ≤ 281474976710656 ∧ nm.size ≤ 281474976710656 ∧ ty.size ≤ 281474976710656
  | .st _ _ ty nm _ _ _ _ _ _ _ _ _ => ty.size ≤ 281474976710656 ∧ nm.size ≤ 281474976710656
  | .fd _ ty nm _ _ => ty.size ≤ 281474976710656 ∧ nm.size ≤ 281474976710656
  | .mt _ _ ty nm _ ps _ _ => (ty.size ≤ 281474976710656 ∧ nm.size ≤ 281474976710656) ∧ ps.length ≤ 1000000 ∧ ∀ p ∈ ps, p.1.size ≤ 281474976710656 ∧ p.2.size ≤ 281474976710656
  | .cl nm sp _ _ _ _ => nm.size ≤ 281474976710656 ∧ sp.size ≤ 281474976710656
/-- Its texts are no longer than memory can be. -/
inductive Sm : Nd → Prop where
  | mk (x : Nd) (h : smH x) (k : ∀ y ∈ x.kids, Sm y) : Sm x
theorem Sm.head {x : Nd} (h : Sm x) : smH x := by cases h; assumption
theorem Sm.kid {x : Nd} (h : Sm x) : ∀ y ∈ x.kids, Sm y := by cases h; assumption

/-- The cells of a part stand where it says, and may be written. -/
def Raw (w : World) (p : Pt) : Prop := ∀ j u, (cellsN p.x)[j]? = some u → w.cell? ⟨p.b, p.o + j, none⟩ = some u ∧ w.frozen? ⟨p.b, p.o + j, none⟩ = false
def apart (p q : Pt) : Prop := p.b ≠ q.b ∨ p.o + p.x.tag.sz ≤ q.o ∨ q.o + q.x.tag.sz ≤ p.o
def inFoot (p : Pt) (k j : Nat) : Prop := p.b = k ∧ p.o ≤ j ∧ j < p.o + p.x.tag.sz
/-- What a row of the new memory is. -/
structure Seg (w : World) (B : Nat) (t : Tg) (v : Value) (l : List Nd) : Prop where
  form : ∃ A cap, v = .slice A l.length cap ∧ l.length ≤ cap ∧ (0 < l.length → ∃ g, A = some ⟨g, 0, none⟩)
  raw : ∀ q ∈ ptsV t v l, Raw w q ∧ B ≤ q.b ∧ q.b < w.heap.size ∧ v.ownBlock = some q.b
  dis : (ptsV t v l).Pairwise apart
  xs : (ptsV t v l).map Pt.x = l
  tags : ∀ x ∈ l, x.tag = t
theorem flat_get {t : Tg} : ∀ (l : List Nd) (i j : Nat) (x : Nd), (∀ y ∈ l, y.tag = t) → l[i]? = some x → j < t.sz → (l.flatMap cellsN)[i * t.sz + j]? = (cellsN x)[j]?
  | [], i, j, x, _, h, _ => by simp at h
  | y :: l, 0, j, x, ht, h, hj => by
    simp at h; subst h
    rw [List.flatMap_cons, Nat.zero_mul, Nat.zero_add, List.getElem?_append_left (by rw [cells_len, ht y (by simp)]; exact hj)]
  | y :: l, i + 1, j, x, ht, h, hj => by
    have ih := flat_get l i j x (fun z hz => ht z (by simp [hz])) (by simpa using h) hj
    have hy : (cellsN y).length = t.sz := by rw [cells_len, ht y (by simp)]
    rw [List.flatMap_cons, List.getElem?_append_right (by rw [hy, Nat.add_mul]; omega), hy, ← ih]
    congr 1; rw [Nat.add_mul]; omega
theorem pts_apart (g : Nat) {t : Tg} : ∀ (l : List Nd) (o : Nat), (∀ x ∈ l, x.tag = t) → (pts g o t.sz l).Pairwise apart
  | [], _, _ => List.Pairwise.nil
  | x :: l, o, ht => by
    refine List.Pairwise.cons (fun q hq => ?_) (pts_apart g l (o + t.sz) fun y hy => ht y (by simp [hy]))
    obtain ⟨i, hi⟩ := List.getElem?_of_mem hq
    rw [pts_get] at hi
    cases hx : l[i]? with
    | none => simp [hx] at hi
    | some y =>
      simp only [hx, Option.map_some, Option.some.injEq] at hi
      subst hi
      right; left
      show o + x.tag.sz ≤ _
      rw [ht x (by simp)]
      simp only; omega
theorem seg_of {w : World} {B : Nat} {t : Tg} {el : TypeId} {v : Value} {l : List Nd} (ho : w.ownsRow B el t.sz v l.length (l.flatMap cellsN)) (ht : ∀ x ∈ l, x.tag = t) : Seg w B t v l := by
  rcases Nat.eq_zero_or_pos l.length with h0 | h0
  · have hl : l = [] := List.eq_nil_of_length_eq_zero h0
    subst hl
    obtain ⟨A, cap, rfl, hc⟩ := own_form ho
    have hp : ptsV t (.slice A ([] : List Nd).length cap) [] = [] := by cases A <;> rfl
    exact ⟨⟨A, cap, rfl, hc, fun h => by simp at h⟩, by rw [hp]; simp, by rw [hp]; exact List.Pairwise.nil, by rw [hp]; rfl, by simp⟩
  · obtain ⟨g, cap, rfl, hB, hg, hat⟩ := own_row ho h0
    obtain ⟨A', cap', hv, hc⟩ := own_form ho
    injection hv with _ _ hv3
    subst hv3
    refine ⟨⟨_, cap, rfl, hc, fun _ => ⟨g, rfl⟩⟩, ?_, pts_apart g l 0 ht, pts_x _ _ _ _, ht⟩
    intro q hq
    obtain ⟨i, hi⟩ := List.getElem?_of_mem hq
    simp only [ptsV] at hi
    rw [pts_get] at hi
    cases hx : l[i]? with
    | none => simp [hx] at hi
    | some x =>
      simp only [hx, Option.map_some, Option.some.injEq] at hi
      subst hi
      refine ⟨fun j u hu => ?_, hB, hg, rfl⟩
      have hxt := ht x (List.mem_of_getElem? hx)
      have hj : j < t.sz := by rw [← hxt, ← cells_len]; exact (List.getElem?_eq_some_iff.1 hu).1
      have := hat (i * t.sz + j) u (by rw [flat_get l i j x ht hx hj]; exact hu)
      simpa using this
theorem Raw.keep {w w' : World} {p : Pt} (h : Raw w p) (hb : w'.heap[p.b]? = w.heap[p.b]?) : Raw w' p := fun j u hu =>
  ⟨(World.cell?_of_block hb).trans (h j u hu).1, (World.frozen?_of_block hb).trans (h j u hu).2⟩
theorem Raw.lt {w : World} {p : Pt} (h : Raw w p) : p.b < w.heap.size := by
  have : 0 < (cellsN p.x).length := by rw [cells_len]; cases p.x.tag <;> simp [Tg.sz]
  exact World.block_lt_of_cell? w _ (h 0 _ (List.getElem?_eq_getElem this)).1
/-- A part is finished: a bare one stands there. -/
def Fin' (w : World) (p : Pt) : Prop := ∃ x, Pt.at_ w ⟨p.b, p.o, x⟩ ∧ NT x ∧ bareN x = bareN p.x
theorem fin_list {w : World} {b sz : Nat} : ∀ (l : List Nd) (o : Nat), (∀ p ∈ pts b o sz l, Fin' w p) → ∃ l', l'.length = l.length ∧ bareL l' = bareL l ∧ (∀ x ∈ l', NT x ∧ Kd w x) ∧ ∀ i x, l'[i]? = some x → ∀ j u, (cellsN x)[j]? = some u → w.cell? ⟨b, o + i * sz + j, none⟩ = some u
  | [], o, _ => ⟨[], rfl, rfl, by simp, by simp⟩
  | x :: l, o, h => by
    obtain ⟨x', hat, hnt, hb⟩ := h ⟨b, o, x⟩ (by simp [pts])
    obtain ⟨l', h1, h2, h3, h4⟩ := fin_list (w := w) (b := b) (sz := sz) l (o + sz) fun p hp => h p (List.mem_cons_of_mem _ hp)
    refine ⟨x' :: l', by simp [h1], by simp only [bareL]; rw [hb, h2], fun y hy => ?_, fun i y hy j u hu => ?_⟩
    · rcases List.mem_cons.1 hy with rfl | hy
      · exact ⟨hnt, hat.2⟩
      · exact h3 y hy
    · cases i with
      | zero => simp at hy; subst hy; simpa using hat.1 j u hu
      | succ i =>
        have := h4 i y (by simpa using hy) j u hu
        have e : o + sz + i * sz + j = o + (i + 1) * sz + j := by rw [Nat.add_mul]; omega
        rw [e] at this; exact this
theorem tags_of {t : Tg} : ∀ {l' l : List Nd}, bareL l' = bareL l → (∀ x ∈ l, x.tag = t) → ∀ x ∈ l', x.tag = t
  | [], _, _, _, x, hx => by simp at hx
  | y :: l', [], h, _, x, hx => by simp [bareL] at h
  | y :: l', z :: l, h, ht, x, hx => by
    simp only [bareL, List.cons.injEq] at h
    rcases List.mem_cons.1 hx with rfl | hx
    · rw [tag_of_bare h.1]; exact ht z (by simp)
    · exact tags_of h.2 (fun y hy => ht y (by simp [hy])) x hx
/-- A row whose parts are finished. -/
theorem fin_seg {w w0 : World} {B : Nat} {t : Tg} {v : Value} {l : List Nd} (hs : Seg w0 B t v l) (hm : l.length ≤ 1000000) (h : ∀ p ∈ ptsV t v l, Fin' w p) : ∃ l', Rw w t v l' ∧ KdL w l' ∧ (∀ x ∈ l', NT x) ∧ bareL l' = bareL l := by
  obtain ⟨A, cap, rfl, hc, hA⟩ := hs.form
  rcases Nat.eq_zero_or_pos l.length with h0 | h0
  · have hl : l = [] := List.eq_nil_of_length_eq_zero h0
    subst hl
    exact ⟨[], Rw.empty w t A cap, trivial, by simp, rfl⟩
  · obtain ⟨g, rfl⟩ := hA h0
    obtain ⟨l', h1, h2, h3, h4⟩ := fin_list l 0 h
    refine ⟨l', ⟨_, cap, by rw [h1], by rw [h1]; exact ⟨by unfold maxLen; omega, hc⟩, tags_of h2 hs.tags, fun _ => ⟨g, 0, rfl, h4⟩⟩, KdL_of fun x hx => (h3 x hx).2, fun x hx => (h3 x hx).1, h2⟩
end Go.Proofs.YtnphimechniplaaGreat
/- What strip leaves of a part, and what follows from it: no program. -/
set_option linter.unusedSimpArgs false
set_option linter.unusedVariables false
namespace Go.Proofs.YtnphimechniplaaGreat
open Go.RowKit
def keptNew (w w' w'' : World) : Prop := ∀ k, w.heap.size ≤ k → k < w'.heap.size → w''.heap[k]? = w'.heap[k]?
/-- What is known of the kids of a part that has been stripped. -/
structure KidsOk (w w' : World) (b o : Nat) (x x' : Nd) : Prop where
  kraw : ∀ q ∈ kidsP x', Raw w' q ∧ w.heap.size ≤ q.b ∧ q.b < w'.heap.size
  kdis : (kidsP x').Pairwise apart
  kxs : (kidsP x').map Pt.x = x.kids
  tag : x'.tag = x.tag
  kd : ∀ w'', keptNew w w' w'' → (∀ y ∈ x.kids, Kd w'' y) → Kd w'' x'
  fin : ∀ ws, (∀ j u, (cellsN x')[j]? = some u → ws.cell? ⟨b, o + j, none⟩ = some u) → (∀ q ∈ kidsP x', Fin' ws q) → (∀ k j u, w.heap.size ≤ k → w'.cell? ⟨k, j, none⟩ = some u → (∀ q ∈ kidsP x', q.b ≠ k) → ws.cell? ⟨k, j, none⟩ = some u) → Fin' ws ⟨b, o, x⟩
theorem Seg.rw {w w' w'' : World} {B : Nat} {t : Tg} {v : Value} {l : List Nd} (hs : Seg w' B t v l) (hm : l.length ≤ 1000000) (hB : w.heap.size ≤ B) (hk : keptNew w w' w'') : Rw w'' t v l := by
  obtain ⟨A, cap, rfl, hc, hA⟩ := hs.form
  refine ⟨A, cap, rfl, ⟨by unfold maxLen; omega, hc⟩, hs.tags, fun h0 => ?_⟩
  obtain ⟨g, rfl⟩ := hA h0
  refine ⟨g, 0, rfl, fun i x hx j u hu => ?_⟩
  have hq : (⟨g, 0 + i * t.sz, x⟩ : Pt) ∈ ptsV t (.slice (some ⟨g, 0, none⟩) l.length cap) l := by
    refine List.mem_of_getElem? (i := i) ?_
    simp only [ptsV]
    rw [pts_get, hx]; rfl
  obtain ⟨hr, hb, hl, _⟩ := hs.raw _ hq
  have hkk := hk g (Nat.le_trans hB hb) hl
  exact (World.cell?_of_block hkk).trans (hr j u hu).1
theorem Seg.kraw {w w' : World} {B : Nat} {t : Tg} {v : Value} {l : List Nd} (hs : Seg w' B t v l) (hB : w.heap.size ≤ B) : ∀ q ∈ ptsV t v l, Raw w' q ∧ w.heap.size ≤ q.b ∧ q.b < w'.heap.size := fun q hq => by
  obtain ⟨h1, h2, h3, _⟩ := hs.raw q hq
  exact ⟨h1, Nat.le_trans hB h2, h3⟩
/-- Two rows, one behind the other, do not meet. -/
theorem Seg.cross {w' w2 : World} {B B' : Nat} {t t' : Tg} {v v' : Value} {l l' : List Nd} (hs : Seg w' B t v l) (hs' : Seg w2 B' t' v' l') (h : ∀ k, v.ownBlock = some k → k < B') : ∀ p ∈ ptsV t v l, ∀ q ∈ ptsV t' v' l', apart p q := fun p hp q hq => by
  obtain ⟨_, _, _, h4⟩ := hs.raw p hp
  obtain ⟨_, h5, _, _⟩ := hs'.raw q hq
  have := h _ h4
  left; omega
theorem ok_ex {w w' : World} {b o : Nat} {k n : Int} {tx nm ty : ByteArray} {v v' : Value} {l : List Nd} {own : ByteArray} {nth : Int} (hs : Seg w' w.heap.size .ex v' l) (hm : l.length ≤ 1000000) (hz : tx.size ≤ maxLen ∧ nm.size ≤ maxLen ∧ ty.size ≤ maxLen) :
    KidsOk w w' b o (.ex k n tx nm ty v l own nth) (.ex k n tx nm ty v' l ⟨#[]⟩ 0) := by
  refine ⟨hs.kraw (Nat.le_refl _), hs.dis, hs.xs, rfl, fun w'' hk hy => ?_, fun ws hc hf _ => ?_⟩
  · rw [Kd]; exact ⟨hz, hs.rw hm (Nat.le_refl _) hk, KdL_of hy⟩
  · obtain ⟨l', h1, h2, h3, h4⟩ := fin_seg hs hm hf
    exact ⟨.ex k n tx nm ty v' l' ⟨#[]⟩ 0, ⟨hc, by rw [Kd]; exact ⟨hz, h1, h2⟩⟩, NT.mk _ ⟨rfl, rfl⟩ h3, by simp only [bareN, h4]⟩
theorem ok_fd {w w' : World} {b o : Nat} {s : Bool} {ty nm : ByteArray} {v v' : Value} {l : List Nd} (hs : Seg w' w.heap.size .ex v' l) (hm : l.length ≤ 1000000) (hz : ty.size ≤ maxLen ∧ nm.size ≤ maxLen) :
    KidsOk w w' b o (.fd s ty nm v l) (.fd s ty nm v' l) := by
  refine ⟨hs.kraw (Nat.le_refl _), hs.dis, hs.xs, rfl, fun w'' hk hy => ?_, fun ws hc hf _ => ?_⟩
  · rw [Kd]; exact ⟨hz, hs.rw hm (Nat.le_refl _) hk, KdL_of hy⟩
  · obtain ⟨l', h1, h2, h3, h4⟩ := fin_seg hs hm hf
    exact ⟨.fd s ty nm v' l', ⟨hc, by rw [Kd]; exact ⟨hz, h1, h2⟩⟩, NT.mk _ trivial h3, by simp only [bareN, h4]⟩
theorem ok_cl {w w' : World} {b o B1 : Nat} {nm sp : ByteArray} {vf vm vf' vm' : Value} {f m : List Nd} (hs : Seg w' w.heap.size .fd vf' f) (hs' : Seg w' B1 .mt vm' m) (hB : w.heap.size ≤ B1) (hv : ∀ k, vf'.ownBlock = some k → k < B1) (hm : f.length ≤ 1000000) (hm' : m.length ≤ 1000000) (hz : nm.size ≤ maxLen ∧ sp.size ≤ maxLen) :
    KidsOk w w' b o (.cl nm sp vf vm f m) (.cl nm sp vf' vm' f m) := by
  refine ⟨fun q hq => ?_, ?_, ?_, rfl, fun w'' hk hy => ?_, fun ws hc hf _ => ?_⟩
  · rcases List.mem_append.1 hq with hq | hq
    · exact hs.kraw (Nat.le_refl _) q hq
    · exact hs'.kraw hB q hq
  · exact List.pairwise_append.2 ⟨hs.dis, hs'.dis, hs.cross hs' hv⟩
  · simp only [kidsP, Nd.kids, List.map_append, hs.xs, hs'.xs]
  · rw [Kd]
    exact ⟨hz, ⟨hs.rw hm (Nat.le_refl _) hk, KdL_of fun y h => hy y (by simp [Nd.kids, h])⟩, hs'.rw hm' hB hk, KdL_of fun y h => hy y (by simp [Nd.kids, h])⟩
  · obtain ⟨l1, h1, h2, h3, h4⟩ := fin_seg hs hm fun p hp => hf p (by simp [kidsP, hp])
    obtain ⟨l2, g1, g2, g3, g4⟩ := fin_seg hs' hm' fun p hp => hf p (by simp [kidsP, hp])
    refine ⟨.cl nm sp vf' vm' l1 l2, ⟨hc, by rw [Kd]; exact ⟨hz, ⟨h1, h2⟩, g1, g2⟩⟩, NT.mk _ trivial fun y hy => ?_, by simp only [bareN, h4, g4]⟩
    rcases List.mem_append.1 hy with hy | hy
    · exact h3 y hy
    · exact g3 y hy
theorem ok_st {w w' : World} {b o B1 B2 B3 : Nat} {k n : Int} {ty nm : ByteArray} {ve va vb vc ve' va' vb' vc' : Value} {e a b' c : List Nd} {nth : Int} (h1 : Seg w' w.heap.size .ex ve' e) (h2 : Seg w' B1 .st va' a) (h3 : Seg w' B2 .st vb' b') (h4 : Seg w' B3 .st vc' c)
    (hB1 : w.heap.size ≤ B1) (hB2 : B1 ≤ B2) (hB3 : B2 ≤ B3) (hv1 : ∀ k, ve'.ownBlock = some k → k < B1) (hv2 : ∀ k, va'.ownBlock = some k → k < B2) (hv3 : ∀ k, vb'.ownBlock = some k → k < B3)
    (m1 : e.length ≤ 1000000) (m2 : a.length ≤ 1000000) (m3 : b'.length ≤ 1000000) (m4 : c.length ≤ 1000000) (hz : ty.size ≤ maxLen ∧ nm.size ≤ maxLen) :
    KidsOk w w' b o (.st k n ty nm ve va vb vc e a b' c nth) (.st k n ty nm ve' va' vb' vc' e a b' c 0) := by
  refine ⟨fun q hq => ?_, ?_, ?_, rfl, fun w'' hk hy => ?_, fun ws hc hf _ => ?_⟩
  · simp only [kidsP, List.mem_append] at hq
    rcases hq with ((hq | hq) | hq) | hq
    · exact h1.kraw (Nat.le_refl _) q hq
    · exact h2.kraw hB1 q hq
    · exact h3.kraw (Nat.le_trans hB1 hB2) q hq
    · exact h4.kraw (Nat.le_trans (Nat.le_trans hB1 hB2) hB3) q hq
  · have c12 := h1.cross h2 hv1
    have c13 := h1.cross h3 (fun k hk => Nat.lt_of_lt_of_le (hv1 k hk) hB2)
    have c14 := h1.cross h4 (fun k hk => Nat.lt_of_lt_of_le (hv1 k hk) (Nat.le_trans hB2 hB3))
    have c23 := h2.cross h3 hv2
    have c24 := h2.cross h4 (fun k hk => Nat.lt_of_lt_of_le (hv2 k hk) hB3)
    have c34 := h3.cross h4 hv3
    refine List.pairwise_append.2 ⟨List.pairwise_append.2 ⟨List.pairwise_append.2 ⟨h1.dis, h2.dis, c12⟩, h3.dis, ?_⟩, h4.dis, ?_⟩
    · intro p hp q hq
      rcases List.mem_append.1 hp with hp | hp
      · exact c13 p hp q hq
      · exact c23 p hp q hq
    · intro p hp q hq
      rcases List.mem_append.1 hp with hp | hp
      · rcases List.mem_append.1 hp with hp | hp
        · exact c14 p hp q hq
        · exact c24 p hp q hq
      · exact c34 p hp q hq
  · simp only [kidsP, Nd.kids, List.map_append, h1.xs, h2.xs, h3.xs, h4.xs]
  · rw [Kd]
    exact ⟨hz, ⟨h1.rw m1 (Nat.le_refl _) hk, KdL_of fun y h => hy y (by simp [Nd.kids, h])⟩, ⟨h2.rw m2 hB1 hk, KdL_of fun y h => hy y (by simp [Nd.kids, h])⟩, ⟨h3.rw m3 (Nat.le_trans hB1 hB2) hk, KdL_of fun y h => hy y (by simp [Nd.kids, h])⟩, h4.rw m4 (Nat.le_trans (Nat.le_trans hB1 hB2) hB3) hk, KdL_of fun y h => hy y (by simp [Nd.kids, h])⟩
  · obtain ⟨l1, a1, a2, a3, a4⟩ := fin_seg h1 m1 fun p hp => hf p (by simp [kidsP, hp])
    obtain ⟨l2, b1, b2, b3, b4⟩ := fin_seg h2 m2 fun p hp => hf p (by simp [kidsP, hp])
    obtain ⟨l3, c1, c2, c3, c4⟩ := fin_seg h3 m3 fun p hp => hf p (by simp [kidsP, hp])
    obtain ⟨l4, d1, d2, d3, d4⟩ := fin_seg h4 m4 fun p hp => hf p (by simp [kidsP, hp])
    refine ⟨.st k n ty nm ve' va' vb' vc' l1 l2 l3 l4 0, ⟨hc, by rw [Kd]; exact ⟨hz, ⟨a1, a2⟩, ⟨b1, b2⟩, ⟨c1, c2⟩, d1, d2⟩⟩, NT.mk _ rfl fun y hy => ?_, by simp only [bareN, a4, b4, c4, d4]⟩
    simp only [Nd.kids, List.mem_append] at hy
    rcases hy with ((hy | hy) | hy) | hy
    · exact a3 y hy
    · exact b3 y hy
    · exact c3 y hy
    · exact d3 y hy
theorem ok_mt {w w' : World} {b o B1 : Nat} {s c : Bool} {ty nm : ByteArray} {vp vp' v v' : Value} {ps : List Prm} {l : List Nd} (ho : w'.ownsRow w.heap.size 79 2 vp' ps.length (cellsP ps)) (hv : ∀ k, vp'.ownBlock = some k → k < B1) (hs : Seg w' B1 .st v' l) (hB : w.heap.size ≤ B1)
    (hm : l.length ≤ 1000000) (hp : ps.length ≤ 1000000) (hps : ∀ x ∈ ps, x.1.size ≤ maxLen ∧ x.2.size ≤ maxLen) (hz : ty.size ≤ maxLen ∧ nm.size ≤ maxLen) :
    KidsOk w w' b o (.mt s c ty nm vp ps v l) (.mt s c ty nm vp' ps v' l) := by
  have hpw : ∀ ws, (∀ k j u, w.heap.size ≤ k → vp'.ownBlock = some k → w'.cell? ⟨k, j, none⟩ = some u → ws.cell? ⟨k, j, none⟩ = some u) → Pw ws vp' ps := by
    intro ws hk
    rcases Nat.eq_zero_or_pos ps.length with h0 | h0
    · have hl : ps = [] := List.eq_nil_of_length_eq_zero h0
      subst hl
      obtain ⟨A, cap, rfl, _⟩ := own_form ho
      exact ⟨A, cap, rfl, by unfold maxLen; simp, by simp, fun h => by simp at h⟩
    · obtain ⟨g, cap, rfl, hgb, hgl, hat⟩ := own_row ho h0
      refine ⟨_, cap, rfl, by unfold maxLen; omega, hps, fun _ => ⟨g, 0, rfl, fun i x hx => ?_⟩⟩
      obtain ⟨e1, e2⟩ := cellsP_get ps i x hx
      simp only [Nat.zero_add]
      exact ⟨hk g _ _ hgb rfl (hat _ _ e1).1, hk g _ _ hgb rfl (hat _ _ e2).1⟩
  refine ⟨hs.kraw hB, hs.dis, hs.xs, rfl, fun w'' hk hy => ?_, fun ws hc hf hn => ?_⟩
  · rw [Kd]
    refine ⟨hz, hpw w'' fun k j u hkb hkk hu => ?_, hs.rw hm hB hk, KdL_of hy⟩
    exact (World.cell?_of_block (hk k hkb (ho.lt k hkk).2)).trans hu
  · obtain ⟨l', h1, h2, h3, h4⟩ := fin_seg hs hm hf
    have hpf : Pw ws vp' ps := hpw ws fun k j u hkb hkk hu => hn k j u hkb hu fun q hq => by
      obtain ⟨_, hq2, _, _⟩ := hs.raw q hq
      have := hv k hkk
      omega
    exact ⟨.mt s c ty nm vp' ps v' l', ⟨hc, by rw [Kd]; exact ⟨hz, hpf, h1, h2⟩⟩, NT.mk _ trivial h3, by simp only [bareN, h4]⟩
theorem own_setCells {b base e sz n : Nat} {v : Value} {xs : List Value} : ∀ (us : List Value) (o : Nat) {w : World}, w.ownsRow base e sz v n xs → b < base → (w.setCells b o us).ownsRow base e sz v n xs
  | [], _, _, h, _ => h
  | u :: us, o, w, h, hb => own_setCells us (o + 1) (ownsRow_setCell_below h (by simpa using hb) u) hb
theorem grown_setCells (b : Nat) : ∀ (us : List Value) (o : Nat) (w : World), w.grownBy (w.setCells b o us) (some b)
  | [], _, w => grown_refl w _
  | u :: us, o, w => (grown_set_at w b o u).trans (grown_setCells b us (o + 1) _)
def StripSaid (w : World) (b o : Nat) (x : Nd) (e : Ending) (w' : World) : Prop :=
  e = .returned (.tuple #[]) ∧ ∃ x', KidsOk w w' b o x x' ∧ w.grownBy w' (some b) ∧ (∀ j u, (cellsN x')[j]? = some u → w'.cell? ⟨b, o + j, none⟩ = some u) ∧ (∀ j, (j < o ∨ o + x.tag.sz ≤ j) → w'.cell? ⟨b, j, none⟩ = w.cell? ⟨b, j, none⟩) ∧ ∀ j, w'.frozen? ⟨b, j, none⟩ = w.frozen? ⟨b, j, none⟩
theorem strip_said {w w1 : World} {b o : Nat} {x x' : Nd} (hb : Below w.heap.size w w1) (hr : Raw w ⟨b, o, x⟩) (ht : x'.tag = x.tag) (hok : KidsOk w (w1.setCells b o (cellsN x')) b o x x') : StripSaid w b o x (.returned (.tuple #[])) (w1.setCells b o (cellsN x')) := by
  have hlt : b < w.heap.size := hr.lt
  have hl : (cellsN x').length = (cellsN x).length := by rw [cells_len, cells_len, ht]
  refine ⟨rfl, x', hok, (grown_below hb).trans (grown_setCells b _ o w1), fun j u hu => ?_, fun j hj => ?_, fun j => ?_⟩
  · obtain ⟨hj, e⟩ := List.getElem?_eq_some_iff.1 hu
    rw [World.cell?_setCells_in b (cellsN x') o w1 (fun i hi => ?_) j hj, e]
    rw [hb.cell (p := ⟨b, o + i, none⟩) hlt, (hr i _ (List.getElem?_eq_getElem (by rw [← hl]; exact hi))).1]; rfl
  · rw [World.cell?_setCells_out b _ o w1 _ (fun _ _ => by rw [hl, cells_len]; exact hj), hb.cell (p := ⟨b, j, none⟩) hlt]
  · rw [World.frozen?_setCells, hb.frozen (p := ⟨b, j, none⟩) hlt]
end Go.Proofs.YtnphimechniplaaGreat
