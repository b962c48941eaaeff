/- The document's sizes: changelingref1.Expr, exprs, Stmts. -/
import Derived.Test.YtnphimechniplaaGreatTreeI
import Derived.Deep.RegionHeld3
set_option linter.unusedSimpArgs false
set_option linter.unusedVariables false
namespace Go.Proofs.YtnphimechniplaaGreat
open Go.RowKit
/-- A row's node and its cells. -/
theorem Rw.get {w : World} {t : Tg} {A : Option Addr} {n cap : Nat} {l : List Nd} (h : Rw w t (.slice A n cap) l) {k : Nat} (hk : k < n) : ∃ b o x, A = some ⟨b, o, none⟩ ∧ l[k]? = some x ∧ x.tag = t ∧ ∀ j u, (cellsN x)[j]? = some u → w.cell? ⟨b, o + k * t.sz + j, none⟩ = some u := by
  obtain ⟨A', cap', hv, _, ht, hc⟩ := h
  injection hv with h1 h2 h3
  obtain ⟨b, o, hA, hcell⟩ := hc (by omega)
  have hl : k < l.length := by omega
  exact ⟨b, o, l[k], h1.trans hA, List.getElem?_eq_getElem hl, ht _ (List.getElem_mem hl), hcell k _ (List.getElem?_eq_getElem hl)⟩
theorem sizeL_take_succ {l : List Nd} {k : Nat} {x : Nd} (h : l[k]? = some x) : sizeL (l.take (k + 1)) = sizeL (l.take k) + x.size := by
  have hl := (List.getElem?_eq_some_iff.1 h)
  rw [List.take_add_one, h]
  simp [sizeL_append, sizeL]
theorem sizeL_take_le (l : List Nd) (k : Nat) : sizeL (l.take k) ≤ sizeL l := by
  have := sizeL_append (l.take k) (l.drop k)
  rw [List.take_append_drop] at this; omega
theorem KdL.mem_get {w : World} {l : List Nd} (h : KdL w l) {k : Nat} {x : Nd} (hx : l[k]? = some x) : Kd w x := KdL_mem h x (List.mem_of_getElem? hx)
def ExprsRef (s : Nat) : Prop := ∀ (w : World) (v : Value) (l : List Nd), sizeL l ≤ s → Rw w .ex v l → KdL w l → Calls Tryz.prog 21 #[v] w fun e w' => e = .returned (.int .i64 (sizeL l : Nat)) ∧ Below w.heap.size w w'
set_option maxRecDepth 100000 in
set_option maxHeartbeats 1000000 in
theorem ref_expr_of (s : Nat) (hs : s ≤ 1000000) (IH : ExprsRef s) (w : World) (k n : Int) (tx nm ty : ByteArray) (nv : Value) (l : List Nd) (own : ByteArray) (nth : Int) (hk : Kd w (.ex k n tx nm ty nv l own nth)) (hl : sizeL l ≤ s) :
    Calls Tryz.prog 36 #[.agg #[.int .i64 k, .int .i32 n, .string tx, .string nm, .string ty, nv, .string own, .int .i64 nth]] w fun e w' => e = .returned (.int .i64 ((Nd.ex k n tx nm ty nv l own nth).size : Nat)) ∧ Below w.heap.size w w' := by
  rw [Kd] at hk
  obtain ⟨A, cap, rfl⟩ := hk.2.1.form
  have K := keep_alloc w (.cells #[.int .i64 k, .int .i32 n, .string tx, .string nm, .string ty, .slice A l.length cap, .string own, .int .i64 nth] 43)
  have HI := Lib.hid (IH _ _ l hl (hk.2.1.keep K) (KdL.keep K _ hk.2.2))
  have c5 : (w.alloc (.cells #[.int .i64 k, .int .i32 n, .string tx, .string nm, .string ty, .slice A l.length cap, .string own, .int .i64 nth] 43)).cell? ⟨w.heap.size, 5, none⟩ = some (.slice A l.length cap) := by simp [go_sem]
  have hz : ((Nd.ex k n tx nm ty (.slice A l.length cap) l own nth).size : Int) = 1 + (sizeL l : Nat) := by simp [Nd.size]
  rw [hz]
  clear hk K IH hz
  go_enter Tryz.func36, Tryz.ntmps36
  go_wp2_with (go_at_call 21; refine HI.out.mono ?_; clear HI; rintro e w1 ⟨rfl, hb⟩)
  have hb2 := below_box hb
  go_ret
  exact ⟨rfl, hb2⟩
set_option maxRecDepth 100000 in
set_option maxHeartbeats 1000000 in
theorem ref_exprs_any : ∀ s, s ≤ 1000000 → ExprsRef s := by
  intro s
  induction s using Nat.strongRecOn with
  | ind s ih =>
    intro hs w v l hl hr hk
    obtain ⟨A, cap, rfl⟩ := hr.form
    obtain ⟨n, hn⟩ : ∃ n, l.length = n := ⟨_, rfl⟩
    obtain ⟨N, hN⟩ : ∃ N, sizeL l = N := ⟨_, rfl⟩
    have hm : n ≤ 1000000 := by have := len_sizeL l; omega
    rw [hn] at hr ⊢
    rw [hN] at hl ⊢
    have HR := Lib.hid hr; have HK := Lib.hid hk; have HN := Lib.hid hN; have HLN := Lib.hid hn
    clear hr hk hN hn
    go_enter Tryz.func21, Tryz.ntmps21
    go_wp2
    go_loopw [3, 4] (fun v3 v4 wr => ∃ k : Nat, v4 = .int .i64 k ∧ k ≤ n ∧ v3 = .int .i64 (sizeL (l.take k) : Nat) ∧ Below w.heap.size w wr) (fun v3 v4 wr => n - (intOf v4).toNat)
    case atStart => exact ⟨0, rfl, Nat.zero_le _, rfl, Below.refl _ _⟩
    case round =>
      obtain ⟨k, rfl, hkn, rfl, hB⟩ := hrel
      by_cases hlt : k < n
      · have K := Keep.below hB
        obtain ⟨b, o, x, rfl, hx, hxt, hc⟩ := (HR.out.keep K).get hlt
        have hxk := KdL.mem_get (KdL.keep K _ HK.out) hx
        cases x <;> first | (simp [Nd.tag] at hxt; done) | skip
        rename_i xk xn xtx xnm xty xv xl xown xnth
        have c0 := hc 0 _ rfl; have c1 := hc 1 _ rfl; have c2 := hc 2 _ rfl; have c3 := hc 3 _ rfl; have c4 := hc 4 _ rfl; have c5 := hc 5 _ rfl; have c6 := hc 6 _ rfl; have c7 := hc 7 _ rfl
        simp only [Tg.sz, Nat.add_zero] at c0 c1 c2 c3 c4 c5 c6 c7
        have hz := sizeL_take_succ hx
        have hle := sizeL_take_le l (k + 1)
        rw [HN.out] at hle
        have hsz : (Nd.ex xk xn xtx xnm xty xv xl xown xnth).size = 1 + sizeL xl := by simp [Nd.size]
        obtain ⟨m, hm'⟩ : ∃ m, sizeL (l.take k) = m := ⟨_, rfl⟩
        obtain ⟨q, hq⟩ : ∃ q, (Nd.ex xk xn xtx xnm xty xv xl xown xnth).size = q := ⟨_, rfl⟩
        have HX := Lib.hid (ref_expr_of (s - 1) (by omega) (ih (s - 1) (by omega) (by omega)) wr xk xn xtx xnm xty xv xl xown xnth hxk (by omega))
        rw [hq] at HX
        obtain ⟨xA, xcap, rfl⟩ := (by rw [Kd] at hxk; exact hxk.2.1.form : ∃ A cap, xv = .slice A xl.length cap)
        rw [hm', hq] at hz
        rw [hz] at hle
        rw [hm']
        have HZ := Lib.hid hz
        have HB := Lib.hid hB
        clear hc hxk hx hz hm' hq hsz hxt K hB ih
        go_wp2_with (go_at_call 36; refine HX.out.mono ?_; clear HX; rintro e w1 ⟨rfl, hb⟩)
        have hB1 := HB.out.trans (hb.mono HB.out.size)
        clear hb
        go_roundw
        case rel => exact ⟨k + 1, by go_num, by omega, by rw [HZ.out]; go_num, hB1⟩
        case measure => simp [intOf]; omega
      · have hkl : l.take k = l := List.take_of_length_le (by rw [HLN.out]; omega)
        rw [hkl, HN.out]
        clear ih hkl
        go_wp2
        go_ret
        exact ⟨rfl, hB⟩
theorem wrap5 (m e a b c : Nat) (h : m + (1 + (e + a + b + c)) ≤ 1000000) : IntKind.i64.wrap (IntKind.i64.wrap (IntKind.i64.wrap (IntKind.i64.wrap (IntKind.i64.wrap ((m : Int) + 1) + (e : Int)) + (a : Int)) + (b : Int)) + (c : Int)) = ((m + (1 + (e + a + b + c)) : Nat) : Int) := by
  have hw : ∀ z : Int, 0 ≤ z → z ≤ 2000000 → IntKind.i64.wrap z = z := by intro z h1 h2; rw [IntKind.wrap_i64]; omega
  rw [hw (m + 1) (by omega) (by omega), hw (m + 1 + e) (by omega) (by omega), hw (m + 1 + e + a) (by omega) (by omega), hw (m + 1 + e + a + b) (by omega) (by omega), hw (m + 1 + e + a + b + c) (by omega) (by omega)]
  omega
def StmtsRef (s : Nat) : Prop := ∀ (w : World) (v : Value) (l : List Nd), sizeL l ≤ s → Rw w .st v l → KdL w l → Calls Tryz.prog 22 #[v] w fun e w' => e = .returned (.int .i64 (sizeL l : Nat)) ∧ Below w.heap.size w w'
set_option maxRecDepth 100000 in
set_option maxHeartbeats 2000000 in
theorem ref_stmts_any : ∀ s, s ≤ 1000000 → StmtsRef s := by
  intro s
  induction s using Nat.strongRecOn with
  | ind s ih =>
    intro hs w v l hl hr hk
    obtain ⟨A, cap, rfl⟩ := hr.form
    obtain ⟨n, hn⟩ : ∃ n, l.length = n := ⟨_, rfl⟩
    obtain ⟨N, hN⟩ : ∃ N, sizeL l = N := ⟨_, rfl⟩
    have hm : n ≤ 1000000 := by have := len_sizeL l; omega
    rw [hn] at hr ⊢
    rw [hN] at hl ⊢
    have HR := Lib.hid hr; have HK := Lib.hid hk; have HN := Lib.hid hN; have HLN := Lib.hid hn
    clear hr hk hN hn
    go_enter Tryz.func22, Tryz.ntmps22
    go_wp2
    go_loopw [3, 4] (fun v3 v4 wr => ∃ k : Nat, v4 = .int .i64 k ∧ k ≤ n ∧ v3 = .int .i64 (sizeL (l.take k) : Nat) ∧ Below w.heap.size w wr) (fun v3 v4 wr => n - (intOf v4).toNat)
    case atStart => exact ⟨0, rfl, Nat.zero_le _, rfl, Below.refl _ _⟩
    case round =>
      obtain ⟨k, rfl, hkn, rfl, hB⟩ := hrel
      by_cases hlt : k < n
      · have K := Keep.below hB
        obtain ⟨b, o, x, rfl, hx, hxt, hc⟩ := (HR.out.keep K).get hlt
        have hxk := KdL.mem_get (KdL.keep K _ HK.out) hx
        cases x <;> first | (simp [Nd.tag] at hxt; done) | skip
        rename_i xk xn xty xnm ve va vb vc e a b' c nth
        have c4 := hc 4 _ rfl; have c5 := hc 5 _ rfl; have c6 := hc 6 _ rfl; have c7 := hc 7 _ rfl
        simp only [Tg.sz] at c4 c5 c6 c7
        have hz := sizeL_take_succ hx
        have hle := sizeL_take_le l (k + 1)
        rw [HN.out] at hle
        have hsz : (Nd.st xk xn xty xnm ve va vb vc e a b' c nth).size = 1 + (sizeL e + sizeL a + sizeL b' + sizeL c) := by simp [Nd.size]
        obtain ⟨m, hm'⟩ : ∃ m, sizeL (l.take k) = m := ⟨_, rfl⟩
        rw [Kd] at hxk
        have HE : Hid (∀ w', Below wr.heap.size wr w' → Calls Tryz.prog 21 #[ve] w' fun r w'' => r = .returned (.int .i64 (sizeL e : Nat)) ∧ Below w'.heap.size w' w'') := by
          show ∀ w', _
          intro w' hb; exact ref_exprs_any (sizeL e) (by omega) w' ve e (Nat.le_refl _) (hxk.2.1.1.keep (Keep.below hb)) (KdL.keep (Keep.below hb) _ hxk.2.1.2)
        have HA : Hid (∀ w', Below wr.heap.size wr w' → Calls Tryz.prog 22 #[va] w' fun r w'' => r = .returned (.int .i64 (sizeL a : Nat)) ∧ Below w'.heap.size w' w'') := by
          show ∀ w', _
          intro w' hb; exact ih (sizeL a) (by omega) (by omega) w' va a (Nat.le_refl _) (hxk.2.2.1.1.keep (Keep.below hb)) (KdL.keep (Keep.below hb) _ hxk.2.2.1.2)
        have HBb : Hid (∀ w', Below wr.heap.size wr w' → Calls Tryz.prog 22 #[vb] w' fun r w'' => r = .returned (.int .i64 (sizeL b' : Nat)) ∧ Below w'.heap.size w' w'') := by
          show ∀ w', _
          intro w' hb; exact ih (sizeL b') (by omega) (by omega) w' vb b' (Nat.le_refl _) (hxk.2.2.2.1.1.keep (Keep.below hb)) (KdL.keep (Keep.below hb) _ hxk.2.2.2.1.2)
        have HC : Hid (∀ w', Below wr.heap.size wr w' → Calls Tryz.prog 22 #[vc] w' fun r w'' => r = .returned (.int .i64 (sizeL c : Nat)) ∧ Below w'.heap.size w' w'') := by
          show ∀ w', _
          intro w' hb; exact ih (sizeL c) (by omega) (by omega) w' vc c (Nat.le_refl _) (hxk.2.2.2.2.1.keep (Keep.below hb)) (KdL.keep (Keep.below hb) _ hxk.2.2.2.2.2)
        rw [hsz, hm'] at hz
        rw [hz] at hle
        rw [hm']
        have HZ := Lib.hid hz
        have HB := Lib.hid hB
        have HS : Hid (∀ w', Below wr.heap.size wr w' → w'.cell? ⟨b, o + k * 9 + 4, none⟩ = some ve ∧ w'.cell? ⟨b, o + k * 9 + 5, none⟩ = some va ∧ w'.cell? ⟨b, o + k * 9 + 6, none⟩ = some vb ∧ w'.cell? ⟨b, o + k * 9 + 7, none⟩ = some vc) := by
          show ∀ w', _
          intro w' hb
          exact ⟨Keep.below hb _ _ c4, Keep.below hb _ _ c5, Keep.below hb _ _ c6, Keep.below hb _ _ c7⟩
        have hE := sizeL_append e []
        obtain ⟨se, hse⟩ : ∃ q, sizeL e = q := ⟨_, rfl⟩
        obtain ⟨sa, hsa⟩ : ∃ q, sizeL a = q := ⟨_, rfl⟩
        obtain ⟨sb, hsb⟩ : ∃ q, sizeL b' = q := ⟨_, rfl⟩
        obtain ⟨sc, hsc⟩ : ∃ q, sizeL c = q := ⟨_, rfl⟩
        rw [hse] at HE; rw [hsa] at HA; rw [hsb] at HBb; rw [hsc] at HC
        rw [hse, hsa, hsb, hsc] at HZ hle
        obtain ⟨Ae, ce, rfl⟩ := hxk.2.1.1.form
        obtain ⟨Aa, ca, rfl⟩ := hxk.2.2.1.1.form
        obtain ⟨Ab, cb, rfl⟩ := hxk.2.2.2.1.1.form
        obtain ⟨Ac, cc, rfl⟩ := hxk.2.2.2.2.1.form
        have hb0 : Below wr.heap.size wr wr.drew := (Below.refl _ wr).drew
        have hi0 : (0 : Int) ≤ (k : Int) := by omega
        have hi1 : (k : Int) < (n : Int) := by omega
        clear hc hxk hx hz hm' hsz hxt K hB ih c4 c5 c6 c7 hE hse hsa hsb hsc
        go_wp2_with fail
        go_region_held3 (fun w' => w'.cell? ⟨b, o + k * 9 + 4, none⟩ = some (.slice Ae e.length ce) ∧ w'.cell? ⟨b, o + k * 9 + 5, none⟩ = some (.slice Aa a.length ca) ∧ w'.cell? ⟨b, o + k * 9 + 6, none⟩ = some (.slice Ab b'.length cb) ∧ w'.cell? ⟨b, o + k * 9 + 7, none⟩ = some (.slice Ac c.length cc))
          (first | with_reducible exact HS.out _ hb0 | with_reducible exact HS.out _ hb1 | with_reducible exact HS.out _ hb2 | with_reducible exact HS.out _ hb3 | with_reducible exact HS.out _ hb4)
          ((first
            | (go_at_call 21; refine (HE.out _ hb0).mono ?_; rintro r w1 ⟨rfl, hc1⟩; have hb1 := hb0.trans (hc1.mono hb0.size); clear hc1)
            | (go_at_call_of 22 (Value.slice Aa a.length ca); refine (HA.out _ hb1).mono ?_; rintro r w2 ⟨rfl, hc2⟩; have hb2 := hb1.trans (hc2.mono hb1.size); clear hc2)
            | (go_at_call_of 22 (Value.slice Ab b'.length cb); refine (HBb.out _ hb2).mono ?_; rintro r w3 ⟨rfl, hc3⟩; have hb3 := hb2.trans (hc3.mono hb2.size); clear hc3)
            | (go_at_call_of 22 (Value.slice Ac c.length cc); refine (HC.out _ hb3).mono ?_; rintro r w4 ⟨rfl, hc4⟩; have hb4 := hb3.trans (hc4.mono hb3.size); clear hc4)))
        all_goals
          have hB1 := HB.out.trans (hb4.mono HB.out.size)
          go_wp2_with fail
          go_roundw
          case rel => exact ⟨k + 1, by go_num, by omega, by rw [HZ.out]; exact congrArg (Value.int .i64) (wrap5 _ _ _ _ _ (by omega)), hB1⟩
          case measure => simp [intOf]; omega
      · have hkl : l.take k = l := List.take_of_length_le (by rw [HLN.out]; omega)
        rw [hkl, HN.out]
        clear ih hkl
        go_wp2
        go_ret
        exact ⟨rfl, hB⟩
end Go.Proofs.YtnphimechniplaaGreat
