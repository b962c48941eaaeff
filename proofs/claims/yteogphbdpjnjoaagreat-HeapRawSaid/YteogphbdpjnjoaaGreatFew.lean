/- What is few: changelinglaw3.exprs, stmts, FewExpr, FewStmts. -/
import Derived.Test.YteogphbdpjnjoaaGreatSmN
import Derived.Test.YteogphbdpjnjoaaGreatRefPp
import Derived.Test.YteogphbdpjnjoaaGreatBxG
set_option linter.unusedSimpArgs false
set_option linter.unusedVariables false
namespace Go.Proofs.YteogphbdpjnjoaaGreat
open Go.RowKit
/-- The count of a list: what it says where it is few. -/
def FewE (l : List Nd) (r : Int) : Prop := 0 ≤ r ∧ r ≤ 401 ∧ (r ≤ 400 → (sizeL l : Int) = r ∧ ∀ x ∈ l, Sm x)
structure FR (l : List Nd) (k : Nat) (n : Int) : Prop where
  lo : 0 ≤ n
  hi : n ≤ 3000
  few : n ≤ 400 → (sizeL (l.take k) : Int) = n ∧ ∀ x ∈ l.take k, Sm x
theorem FR.zero (l : List Nd) : FR l 0 0 := ⟨Int.le_refl _, by omega, fun _ => ⟨by simp [sizeL], by simp⟩⟩
theorem FR.step {l : List Nd} {k : Nat} {n r : Int} {x : Nd} (h : FR l k n) (hn : n ≤ 400) (hx : l[k]? = some x) (hr : 0 ≤ r ∧ r ≤ 2000 ∧ (r ≤ 400 → (sizeL x.kids : Int) = r ∧ ∀ y ∈ x.kids, Sm y)) (hs : smH x) : FR l (k + 1) (n + 1 + r) := by
  obtain ⟨r0, r1, r2⟩ := hr
  refine ⟨by have := h.lo; omega, by omega, fun hf => ?_⟩
  obtain ⟨h1, h2⟩ := h.few hn
  obtain ⟨h3, h4⟩ := r2 (by have := h.lo; omega)
  refine ⟨?_, fun y hy => ?_⟩
  · rw [sizeL_take_succ hx, size_kids x]; omega
  · rw [List.take_add_one, hx, List.mem_append] at hy
    rcases hy with hy | hy
    · exact h2 y hy
    · simp at hy; subst hy; exact Sm.mk _ hs h4
theorem FR.done {l : List Nd} {k : Nat} {n : Int} (h : FR l k n) (hk : l.length ≤ k) (hn : n ≤ 400) : FewE l n := by
  obtain ⟨h1, h2⟩ := h.few hn
  rw [List.take_of_length_le hk] at h1 h2
  exact ⟨h.lo, by omega, fun _ => ⟨h1, h2⟩⟩
theorem few_401 (l : List Nd) : FewE l 401 := ⟨by omega, by omega, fun h => by omega⟩
theorem few_four {e a b c : List Nd} {re ra rb rc : Int} (he : FewE e re) (ha : FewE a ra) (hb : FewE b rb) (hc : FewE c rc) : 0 ≤ re + ra + rb + rc ∧ re + ra + rb + rc ≤ 2000 ∧ (re + ra + rb + rc ≤ 400 → (sizeL (e ++ a ++ b ++ c) : Int) = re + ra + rb + rc ∧ ∀ y ∈ e ++ a ++ b ++ c, Sm y) := by
  obtain ⟨e0, e1, e2⟩ := he; obtain ⟨a0, a1, a2⟩ := ha; obtain ⟨b0, b1, b2⟩ := hb; obtain ⟨c0, c1, c2⟩ := hc
  refine ⟨by omega, by omega, fun h => ?_⟩
  obtain ⟨e3, e4⟩ := e2 (by omega); obtain ⟨a3, a4⟩ := a2 (by omega); obtain ⟨b3, b4⟩ := b2 (by omega); obtain ⟨c3, c4⟩ := c2 (by omega)
  refine ⟨by simp only [sizeL_append]; omega, fun y hy => ?_⟩
  simp only [List.mem_append] at hy
  rcases hy with ((hy | hy) | hy) | hy
  · exact e4 y hy
  · exact a4 y hy
  · exact b4 y hy
  · exact c4 y hy
def FewSaid (l : List Nd) (w : World) (e : Ending) (w' : World) : Prop := ∃ r : Int, e = .returned (.int .i64 r) ∧ FewE l r ∧ w = w'
set_option maxRecDepth 100000 in
set_option maxHeartbeats 2000000 in
theorem few_exprs_any : ∀ (s : Nat) (w : World) (v : Value) (l : List Nd) (d : Int), sizeL l ≤ s → Rw w .ex v l → KdL w l → 0 ≤ d → d ≤ 100 → Calls Tryz.prog 15 #[v, .int .i64 d] w (FewSaid l w) := by
  intro s
  induction s using Nat.strongRecOn with
  | ind s ih =>
    intro w v l d hl hr hk hd0 hd1
    obtain ⟨A, cap, rfl⟩ := hr.form
    have hlen : l.length ≤ maxLen := by obtain ⟨_, _, _, h, _⟩ := hr; exact h.1
    unfold maxLen at hlen
    obtain ⟨n, hn⟩ : ∃ n, l.length = n := ⟨_, rfl⟩
    rw [hn] at hr hlen ⊢
    have HR := Lib.hid hr; have HK := Lib.hid hk; have HLN := Lib.hid hn; have HL := Lib.hid hl
    clear hr hk hn hl
    go_enter Tryz.func15, Tryz.ntmps15
    go_wp2
    go_loopw [5, 6] (fun v5 v6 wr => ∃ (k : Nat) (m : Int), v6 = .int .i64 k ∧ k ≤ n ∧ v5 = .int .i64 m ∧ FR l k m ∧ w = wr) (fun v5 v6 wr => n - (intOf v6).toNat)
    case atStart => exact ⟨0, 0, rfl, Nat.zero_le _, rfl, FR.zero _, rfl⟩
    case round =>
      obtain ⟨k, m, rfl, hkn, rfl, hF, rfl⟩ := hrel
      have hm0 := hF.lo; have hm1 := hF.hi
      by_cases hlt : k < n
      · by_cases hm4 : m < 401
        · obtain ⟨b, o, x, rfl, hx, hxt, hc⟩ := HR.out.get hlt
          have hxk := KdL.mem_get HK.out hx
          have hxs : x.size ≤ s := Nat.le_trans (size_mem (List.mem_of_getElem? hx)) HL.out
          cases x <;> first | (simp [Nd.tag] at hxt; done) | skip
          rename_i xk xn xtx xnm xty xv xl xown xnth
          have c2 := hc 2 _ rfl; have c3 := hc 3 _ rfl; have c4 := hc 4 _ rfl; have c5 := hc 5 _ rfl
          simp only [Tg.sz] at c2 c3 c4 c5
          have hsz : (Nd.ex xk xn xtx xnm xty xv xl xown xnth).size = 1 + sizeL xl := by simp [Nd.size]
          rw [Kd] at hxk
          have HIH : d ≤ 60 → Hid (Calls Tryz.prog 15 #[xv, .int .i64 (d + 1)] w (FewSaid xl w)) := fun hd => ih (sizeL xl) (by omega) w xv xl (d + 1) (Nat.le_refl _) hxk.2.1 hxk.2.2 (by omega) (by omega)
          have HF := Lib.hid hF; have HX := Lib.hid hx
          obtain ⟨A1, n1, rfl⟩ := hxk.2.1.form
          have hbt := hxk.1
          have hb2 := hbt.1; have hb3 := hbt.2.1; have hb4 := hbt.2.2
          unfold maxLen at hb2 hb3 hb4
          clear hc hxk hx hsz hxt hxs ih hF hbt
          by_cases hd : d ≤ 60
          · by_cases t1 : xtx.size ≤ 2000
            · by_cases t2 : xnm.size ≤ 100
              · by_cases t3 : xty.size ≤ 100
                · have HI := HIH hd
                  have t1' : (xtx.size : Int) ≤ 2000 := by omega
                  have t2' : (xnm.size : Int) ≤ 100 := by omega
                  have t3' : (xty.size : Int) ≤ 100 := by omega
                  clear HIH
                  go_wp2_with (go_at_call 15; refine HI.out.mono ?_; clear HI; rintro e w1 ⟨r, rfl, hr, rfl⟩; have hr0 := hr.1; have hr1 := hr.2.1)
                  go_roundw
                  case rel => exact ⟨k + 1, m + 1 + r, by go_num, by omega, by go_num, HF.out.step (by omega) HX.out ⟨hr0, by omega, hr.2.2⟩ ⟨by omega, by omega, by omega⟩, trivial⟩
                  case measure => simp [intOf]; omega
                · have t3' : 100 < (xty.size : Int) := by omega
                  have t1' : (xtx.size : Int) ≤ 2000 := by omega
                  have t2' : (xnm.size : Int) ≤ 100 := by omega
                  go_wp2
                  go_ret
                  exact ⟨401, rfl, few_401 l, rfl⟩
              · have t2' : 100 < (xnm.size : Int) := by omega
                have t1' : (xtx.size : Int) ≤ 2000 := by omega
                go_wp2
                go_ret
                exact ⟨401, rfl, few_401 l, rfl⟩
            · have t1' : 2000 < (xtx.size : Int) := by omega
              go_wp2
              go_ret
              exact ⟨401, rfl, few_401 l, rfl⟩
          · have hd' : 60 < d := by omega
            go_wp2
            go_ret
            exact ⟨401, rfl, few_401 l, rfl⟩
        · have hm4' : 401 ≤ m := by omega
          clear ih
          go_wp2
          all_goals go_ret
          all_goals first | exact ⟨401, by simp [Int.min_def]; try omega, few_401 l, rfl⟩ | (obtain rfl : m = 401 := by omega; exact ⟨401, by simp, few_401 l, rfl⟩)
      · clear ih
        by_cases hm4 : m < 401
        · go_wp2
          go_ret
          exact ⟨m, by simp [Int.min_def]; try omega, hF.done (by rw [HLN.out]; omega) (by omega), rfl⟩
        · have hm4' : 401 ≤ m := by omega
          go_wp2
          all_goals go_ret
          all_goals first | exact ⟨401, by simp [Int.min_def]; try omega, few_401 l, rfl⟩ | (obtain rfl : m = 401 := by omega; exact ⟨401, by simp, few_401 l, rfl⟩)
def FewSaidB (l : List Nd) (w : World) (e : Ending) (w' : World) : Prop := ∃ r : Int, e = .returned (.int .i64 r) ∧ FewE l r ∧ Below w.heap.size w w'
theorem wrap5i (m e a b c : Int) (h0 : 0 ≤ m) (hm : m ≤ 400) (he : 0 ≤ e ∧ e ≤ 401) (ha : 0 ≤ a ∧ a ≤ 401) (hb : 0 ≤ b ∧ b ≤ 401) (hc : 0 ≤ c ∧ c ≤ 401) : IntKind.i64.wrap (IntKind.i64.wrap (IntKind.i64.wrap (IntKind.i64.wrap (IntKind.i64.wrap (m + 1) + e) + a) + b) + c) = m + 1 + (e + a + b + c) := by
  have hw : ∀ z : Int, 0 ≤ z → z ≤ 2000000 → IntKind.i64.wrap z = z := by intro z h1 h2; rw [IntKind.wrap_i64]; omega
  rw [hw (m + 1) (by omega) (by omega), hw (m + 1 + e) (by omega) (by omega), hw (m + 1 + e + a) (by omega) (by omega), hw (m + 1 + e + a + b) (by omega) (by omega), hw (m + 1 + e + a + b + c) (by omega) (by omega)]
  omega
set_option maxRecDepth 100000 in
set_option maxHeartbeats 4000000 in
theorem few_stmts_any : ∀ (s : Nat) (w : World) (v : Value) (l : List Nd) (d : Int), sizeL l ≤ s → Rw w .st v l → KdL w l → 0 ≤ d → d ≤ 100 → Calls Tryz.prog 16 #[v, .int .i64 d] w (FewSaidB l w) := by
  intro s
  induction s using Nat.strongRecOn with
  | ind s ih =>
    intro w v l d hl hr hk hd0 hd1
    obtain ⟨A, cap, rfl⟩ := hr.form
    have hlen : l.length ≤ maxLen := by obtain ⟨_, _, _, h, _⟩ := hr; exact h.1
    unfold maxLen at hlen
    obtain ⟨n, hn⟩ : ∃ n, l.length = n := ⟨_, rfl⟩
    rw [hn] at hr hlen ⊢
    have HR := Lib.hid hr; have HK := Lib.hid hk; have HLN := Lib.hid hn; have HL := Lib.hid hl
    clear hr hk hn hl
    go_enter Tryz.func16, Tryz.ntmps16
    go_wp2
    go_loopw [5, 6] (fun v5 v6 wr => ∃ (k : Nat) (m : Int), v6 = .int .i64 k ∧ k ≤ n ∧ v5 = .int .i64 m ∧ FR l k m ∧ Below w.heap.size w wr) (fun v5 v6 wr => n - (intOf v6).toNat)
    case atStart => exact ⟨0, 0, rfl, Nat.zero_le _, rfl, FR.zero _, Below.refl _ _⟩
    case round =>
      obtain ⟨k, m, rfl, hkn, rfl, hF, hB⟩ := hrel
      have hm0 := hF.lo; have hm1 := hF.hi
      by_cases hlt : k < n
      · by_cases hm4 : m < 401
        · have K := Keep.below hB
          obtain ⟨b, o, x, rfl, hx, hxt, hc⟩ := (HR.out.keep K).get hlt
          have hxk := KdL.mem_get (KdL.keep K _ HK.out) hx
          have hxs : x.size ≤ s := Nat.le_trans (size_mem (List.mem_of_getElem? hx)) HL.out
          cases x <;> first | (simp [Nd.tag] at hxt; done) | skip
          rename_i xk xn xty xnm ve va vb vc e a b' c nth
          have c2 := hc 2 _ rfl; have c3 := hc 3 _ rfl; have c4 := hc 4 _ rfl; have c5 := hc 5 _ rfl; have c6 := hc 6 _ rfl; have c7 := hc 7 _ rfl
          simp only [Tg.sz] at c2 c3 c4 c5 c6 c7
          have hsz : (Nd.st xk xn xty xnm ve va vb vc e a b' c nth).size = 1 + (sizeL e + sizeL a + sizeL b' + sizeL c) := by simp [Nd.size]
          rw [Kd] at hxk
          have hwd : IntKind.i64.wrap (d + 1) = d + 1 := by rw [IntKind.wrap_i64]; omega
          have HE : Hid (∀ w', Below wr.heap.size wr w' → Calls Tryz.prog 15 #[ve, .int .i64 0] w' (FewSaid e w')) := by
            show ∀ w', _
            intro w' hb; exact few_exprs_any (sizeL e) w' ve e 0 (Nat.le_refl _) (hxk.2.1.1.keep (Keep.below hb)) (KdL.keep (Keep.below hb) _ hxk.2.1.2) (Int.le_refl _) (by omega)
          have HA : d ≤ 60 → Hid (∀ w', Below wr.heap.size wr w' → Calls Tryz.prog 16 #[va, .int .i64 (IntKind.i64.wrap (d + 1))] w' (FewSaidB a w')) := by
            intro hd; show ∀ w', _
            intro w' hb; rw [hwd]; exact ih (sizeL a) (by omega) w' va a (d + 1) (Nat.le_refl _) (hxk.2.2.1.1.keep (Keep.below hb)) (KdL.keep (Keep.below hb) _ hxk.2.2.1.2) (by omega) (by omega)
          have HBb : d ≤ 60 → Hid (∀ w', Below wr.heap.size wr w' → Calls Tryz.prog 16 #[vb, .int .i64 (IntKind.i64.wrap (d + 1))] w' (FewSaidB b' w')) := by
            intro hd; show ∀ w', _
            intro w' hb; rw [hwd]; exact ih (sizeL b') (by omega) w' vb b' (d + 1) (Nat.le_refl _) (hxk.2.2.2.1.1.keep (Keep.below hb)) (KdL.keep (Keep.below hb) _ hxk.2.2.2.1.2) (by omega) (by omega)
          have HC : d ≤ 60 → Hid (∀ w', Below wr.heap.size wr w' → Calls Tryz.prog 16 #[vc, .int .i64 (IntKind.i64.wrap (d + 1))] w' (FewSaidB c w')) := by
            intro hd; show ∀ w', _
            intro w' hb; rw [hwd]; exact ih (sizeL c) (by omega) w' vc c (d + 1) (Nat.le_refl _) (hxk.2.2.2.2.1.keep (Keep.below hb)) (KdL.keep (Keep.below hb) _ hxk.2.2.2.2.2) (by omega) (by omega)
          have HF := Lib.hid hF; have HX := Lib.hid hx
          have HB := Lib.hid hB
          have HS : Hid (∀ w', Below wr.heap.size wr w' → w'.cell? ⟨b, o + k * 9 + 4, none⟩ = some ve ∧ w'.cell? ⟨b, o + k * 9 + 5, none⟩ = some va ∧ w'.cell? ⟨b, o + k * 9 + 6, none⟩ = some vb ∧ w'.cell? ⟨b, o + k * 9 + 7, none⟩ = some vc) := by
            show ∀ w', _
            intro w' hb
            exact ⟨Keep.below hb _ _ c4, Keep.below hb _ _ c5, Keep.below hb _ _ c6, Keep.below hb _ _ c7⟩
          obtain ⟨Ae, ce, rfl⟩ := hxk.2.1.1.form
          obtain ⟨Aa, ca, rfl⟩ := hxk.2.2.1.1.form
          obtain ⟨Ab, cb, rfl⟩ := hxk.2.2.2.1.1.form
          obtain ⟨Ac, cc, rfl⟩ := hxk.2.2.2.2.1.form
          have hb0 : Below wr.heap.size wr wr.drew := (Below.refl _ wr).drew
          have hi0 : (0 : Int) ≤ (k : Int) := by omega
          have hi1 : (k : Int) < (n : Int) := by omega
          have hy2 := hxk.1.1; have hy3 := hxk.1.2
          unfold maxLen at hy2 hy3
          clear hwd hc hxk hx hsz hxt hxs ih hF K hB c4 c5 c6 c7
          by_cases hd : d ≤ 60
          · by_cases t2 : xnm.size ≤ 100
            · by_cases t3 : xty.size ≤ 100
              · replace HA := HA hd; replace HBb := HBb hd; replace HC := HC hd
                have t2' : (xnm.size : Int) ≤ 100 := by omega
                have t3' : (xty.size : Int) ≤ 100 := by omega
                go_wp2_with fail
                go_region_held3 (fun w' => w'.cell? ⟨b, o + k * 9 + 4, none⟩ = some (.slice Ae e.length ce) ∧ w'.cell? ⟨b, o + k * 9 + 5, none⟩ = some (.slice Aa a.length ca) ∧ w'.cell? ⟨b, o + k * 9 + 6, none⟩ = some (.slice Ab b'.length cb) ∧ w'.cell? ⟨b, o + k * 9 + 7, none⟩ = some (.slice Ac c.length cc))
                  (first | with_reducible exact HS.out _ hb0 | with_reducible exact HS.out _ hb1 | with_reducible exact HS.out _ hb2 | with_reducible exact HS.out _ hb3 | with_reducible exact HS.out _ hb4)
                  ((first
                    | (go_at_call 15; refine (HE.out _ hb0).mono ?_; rintro r w1 ⟨r1, rfl, hr1, rfl⟩; have hb1 := hb0)
                    | (go_at_call_of 16 (Value.slice Aa a.length ca); refine (HA.out _ hb1).mono ?_; rintro r w2 ⟨r2, rfl, hr2, hc2⟩; have hb2 := hb1.trans (hc2.mono hb1.size); clear hc2)
                    | (go_at_call_of 16 (Value.slice Ab b'.length cb); refine (HBb.out _ hb2).mono ?_; rintro r w3 ⟨r3, rfl, hr3, hc3⟩; have hb3 := hb2.trans (hc3.mono hb2.size); clear hc3)
                    | (go_at_call_of 16 (Value.slice Ac c.length cc); refine (HC.out _ hb3).mono ?_; rintro r w4 ⟨r4, rfl, hr4, hc4⟩; have hb4 := hb3.trans (hc4.mono hb3.size); clear hc4)))
                all_goals
                  have hB1 := HB.out.trans (hb4.mono HB.out.size)
                  have hw5 := wrap5i m r1 r2 r3 r4 hm0 (by omega) ⟨hr1.1, hr1.2.1⟩ ⟨hr2.1, hr2.2.1⟩ ⟨hr3.1, hr3.2.1⟩ ⟨hr4.1, hr4.2.1⟩
                  have HST := Lib.hid (HF.out.step (by omega) HX.out (few_four hr1 hr2 hr3 hr4) ⟨by omega, by omega⟩)
                  go_wp2_with fail
                  go_roundw
                  case rel => exact ⟨k + 1, _, by go_num, by omega, rfl, by rw [hw5]; exact HST.out, hB1⟩
                  case measure => simp [intOf]; omega
              · have t3' : 100 < (xty.size : Int) := by omega
                have t2' : (xnm.size : Int) ≤ 100 := by omega
                go_wp2
                go_ret
                exact ⟨401, rfl, few_401 l, HB.out⟩
            · have t2' : 100 < (xnm.size : Int) := by omega
              go_wp2
              go_ret
              exact ⟨401, rfl, few_401 l, HB.out⟩
          · have hd' : 60 < d := by omega
            go_wp2
            go_ret
            exact ⟨401, rfl, few_401 l, HB.out⟩
        · have hm4' : 401 ≤ m := by omega
          clear ih
          go_wp2
          all_goals go_ret
          all_goals first | exact ⟨401, by simp [Int.min_def]; try omega, few_401 l, hB⟩ | (obtain rfl : m = 401 := by omega; exact ⟨401, by simp, few_401 l, hB⟩)
      · clear ih
        by_cases hm4 : m < 401
        · go_wp2
          go_ret
          exact ⟨m, by simp [Int.min_def]; try omega, hF.done (by rw [HLN.out]; omega) (by omega), hB⟩
        · have hm4' : 401 ≤ m := by omega
          go_wp2
          all_goals go_ret
          all_goals first | exact ⟨401, by simp [Int.min_def]; try omega, few_401 l, hB⟩ | (obtain rfl : m = 401 := by omega; exact ⟨401, by simp, few_401 l, hB⟩)
end Go.Proofs.YteogphbdpjnjoaaGreat
