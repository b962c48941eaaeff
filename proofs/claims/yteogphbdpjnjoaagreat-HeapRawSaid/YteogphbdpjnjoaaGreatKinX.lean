/- The document's own answers for kin (ref6): Base, Find, Is, Super. -/
import Derived.Test.YteogphbdpjnjoaaGreatKinT0
set_option linter.unusedSimpArgs false
set_option linter.unusedVariables false
namespace Go.Proofs.YteogphbdpjnjoaaGreat
open Go.RowKit
def inB (s : ByteArray) (l : List ByteArray) : Bool := l.any fun x => decide (x = s)
theorem inB_iff {s : ByteArray} {l : List ByteArray} : inB s l = true ↔ s ∈ l := by
  unfold inB; rw [List.any_eq_true]
  constructor
  · rintro ⟨x, hx, e⟩; have := of_decide_eq_true e; rw [← this]; exact hx
  · intro h; exact ⟨s, h, decide_eq_true rfl⟩
theorem inB_no {s : ByteArray} {l : List ByteArray} (h : ¬ s ∈ l) : inB s l = false := by
  cases e : inB s l
  · rfl
  · exact absurd (inB_iff.1 e) h
set_option maxHeartbeats 4000000 in
theorem inK_any {w : World} {B : Nat} {v : Value} {l : List ByteArray} (ho : w.ownsRow B 9 1 v l.length (strsV l)) (hl : l.length ≤ 1000) (s : ByteArray) : Calls Tryz.prog 89 #[v, .string s] w fun e w' => e = .returned (.bool (inB s l)) ∧ w = w' := by
  have HO := Lib.hid ho
  obtain ⟨A, cap, rfl, hc⟩ := own_form ho
  obtain ⟨n, hn⟩ : ∃ n, l.length = n := ⟨_, rfl⟩
  have HN := Lib.hid hn
  rw [hn] at hl hc ⊢
  clear ho hn
  go_enter Tryz.func89, Tryz.ntmps89
  go_wp2_with fail
  go_loop [5] (fun v5 => ∃ k : Nat, v5 = .int .i64 k ∧ k ≤ n ∧ Hid (∀ j t, j < k → l[j]? = some t → t ≠ s)) (fun v5 => n - (intOf v5).toNat)
  case atStart => exact ⟨0, rfl, Nat.zero_le _, Lib.hid (fun j t h => by omega)⟩
  case round =>
    obtain ⟨k, rfl, hk, hall⟩ := hrel
    by_cases hlt : k < n
    · obtain ⟨x, hxk⟩ : ∃ x, l[k]? = some x := ⟨l[k]'(by rw [HN.out]; exact hlt), List.getElem?_eq_getElem _⟩
      obtain ⟨g, rfl⟩ : ∃ g, A = some ⟨g, 0, none⟩ := by
        rcases HO.out.2 with ⟨_, e⟩ | ⟨g, cap', cur, e, _⟩
        · have := HN.out; omega
        · injection e with e _ _; exact ⟨g, e⟩
      have hcell : w.cell? ⟨g, k, none⟩ = some (.string x) := by
        rw [HO.out.cellAt k (by rw [HN.out]; omega)]; exact strsV_at hxk
      have HK := Lib.hid hxk
      clear hxk
      by_cases hq : x = s
      · subst hq
        have hm : Hid (inB x l = true) := Lib.hid (inB_iff.2 (List.mem_of_getElem? HK.out))
        go_wp2_with fail
        go_ret
        exact ⟨ret_boolK hm.out.symm, rfl⟩
      · have hq2 := ba_ne hq
        have hq3 := Lib.hid hq
        clear hq
        go_wp2_with fail
        go_round
        case rel => exact ⟨k + 1, by simp, by omega, Lib.hid (fun j t h e => by
          by_cases h1 : j < k
          · exact hall.out j t h1 e
          · obtain rfl : j = k := by omega
            rw [HK.out] at e; injection e with e; rw [← e]; exact hq3.out)⟩
        case measure => simp [intOf]; omega
    · have hm : Hid (inB s l = false) := Lib.hid (inB_no fun hm => by
        obtain ⟨j, hj⟩ := List.getElem?_of_mem hm
        have hjl := (List.getElem?_eq_some_iff.1 hj).1
        exact hall.out j s (by have := HN.out; omega) hj rfl)
      go_wp2_with fail
      go_ret
      exact ⟨ret_boolK hm.out.symm, rfl⟩
def baseNames : List ByteArray := [kExc, kNul, kCas, kZer, kRan]
theorem plc_mem : ∀ (l : List Hdr) (s : ByteArray), plc l s < l.length ↔ s ∈ l.map (·.1)
  | [], s => by simp [plc]
  | x :: l, s => by
    unfold plc
    by_cases h : x.1 = s
    · simp [h]
    · rw [if_neg h]
      have := plc_mem l s
      simp only [List.length_cons, List.map_cons, List.mem_cons]
      constructor
      · intro h1; right; exact this.1 (by omega)
      · rintro (h1 | h1)
        · exact absurd h1.symm h
        · have := this.2 h1; omega
theorem plc_left {l r : List Hdr} {s : ByteArray} (h : plc l s < l.length) : plc (l ++ r) s = plc l s := by
  induction l with
  | nil => simp [plc] at h
  | cons x l ih =>
    unfold plc at h
    show (if x.1 = s then 0 else 1 + plc (l ++ r) s) = if x.1 = s then 0 else 1 + plc l s
    by_cases hx : x.1 = s
    · simp [hx]
    · rw [if_neg hx] at h ⊢
      rw [if_neg hx, ih (by simp at h; omega)]
theorem plc_right {l r : List Hdr} {s : ByteArray} (h : plc l s = l.length) : plc (l ++ r) s = l.length + plc r s := by
  induction l with
  | nil => simp
  | cons x l ih =>
    unfold plc at h
    show (if x.1 = s then 0 else 1 + plc (l ++ r) s) = _
    by_cases hx : x.1 = s
    · simp [hx] at h
    · rw [if_neg hx] at h ⊢
      rw [ih (by simp at h; omega)]; simp; omega
theorem base_isC (s : ByteArray) : inB s baseNames = isCk [] s := by
  unfold isCk; rw [Bool.eq_iff_iff, inB_iff, decide_eq_true_eq, plc_mem]
  rfl
theorem isC_split (cs : List Hdr) (s : ByteArray) : isCk cs s = (isCk [] s || decide (0 ≤ findI cs s)) := by
  have h1 : (isCk [] s = true) ↔ s ∈ basesL.map (·.1) := by unfold isCk; rw [decide_eq_true_eq, plc_mem]; simp [famL]
  have h2 : (0 ≤ findI cs s) ↔ s ∈ cs.map (·.1) := by
    rw [← plc_mem]; unfold findI; split <;> simp <;> omega
  rw [Bool.eq_iff_iff, Bool.or_eq_true, h1, decide_eq_true_eq, h2]
  unfold isCk; rw [decide_eq_true_eq, plc_mem]; simp [famL]
theorem isC_base {cs : List Hdr} {s : ByteArray} (h : isCk [] s = true) : plc (famL cs) s = plc basesL s ∧ plc basesL s < 5 := by
  unfold isCk at h
  have h := of_decide_eq_true h
  simp only [famL, List.append_nil] at h
  exact ⟨plc_left h, h⟩
theorem isC_own {cs : List Hdr} {s : ByteArray} (h : isCk [] s = false) : plc (famL cs) s = 5 + plc cs s := by
  unfold isCk at h
  have h := of_decide_eq_false h
  simp only [famL, List.append_nil] at h
  have := plc_le basesL s
  exact plc_right (by omega)
theorem superS_base {cs : List Hdr} {s : ByteArray} (h : isCk [] s = true) : superS cs s = if s = kExc then ⟨#[]⟩ else kExc := by
  have hm : s ∈ baseNames := inB_iff.1 (by rw [base_isC]; exact h)
  obtain ⟨e1, e2⟩ := isC_base (cs := cs) h
  unfold superS
  rw [e1]
  have e3 : (famL cs)[plc basesL s]? = basesL[plc basesL s]? := by unfold famL; rw [List.getElem?_append_left (by show _ < 5; omega)]
  rw [e3]
  have key : ∀ s ∈ baseNames, (match basesL[plc basesL s]? with | some h => h.2 | none => ⟨#[]⟩) = if s = kExc then ⟨#[]⟩ else kExc := by decide +kernel
  exact key s hm
theorem superS_own {cs : List Hdr} {s : ByteArray} (h : isCk [] s = false) {c : Hdr} (hc : cs[plc cs s]? = some c) : superS cs s = c.2 := by
  unfold superS; rw [isC_own h, famL_own, hc]
set_option maxHeartbeats 4000000 in
theorem rbaseK_any (s : ByteArray) (w : World) : Calls Tryz.prog 58 #[.string s] w fun e w' => e = .returned (.bool (isCk [] s)) ∧ Below w.heap.size w w' := by
  have ho : (w.alloc (.cells (strsV baseNames).toArray 9)).ownsRow w.heap.size 9 1 (.slice (some ⟨w.heap.size, 0, none⟩) baseNames.length baseNames.length) baseNames.length (strsV baseNames) := World.ownsRow_lit w _ 5 (Nat.le_refl _) (by decide) rfl
  have HI := Lib.hid (inK_any ho (by decide) s)
  rw [base_isC] at HI
  go_enter Tryz.func58, Tryz.ntmps58
  go_wp2_with (go_at_call 89; refine HI.out.mono ?_; rintro e w1 ⟨rfl, rfl⟩)
  go_ret
  exact ⟨rfl, (Below.refl _ _).alloc (Nat.le_refl _) _⟩
set_option maxRecDepth 100000 in
set_option maxHeartbeats 8000000 in
theorem rfindK_any {w : World} {v : Value} {cs : List Hdr} (h : Cl w v cs) (s : ByteArray) : Calls Tryz.prog 59 #[.agg #[v], .string s] w fun e w' => e = .returned (.int .i64 (findI cs s)) ∧ Below w.heap.size w w' := by
  have HX0 := Lib.hid (Bx.new w #[v] 24)
  have hb1 : Below w.heap.size w (w.alloc (.cells #[v] 24)) := (Below.refl _ _).alloc (Nat.le_refl _) _
  have HC := Lib.hid h
  obtain ⟨A, cap0, rfl, hcap0, h59, _⟩ := h
  obtain ⟨m, hm⟩ : ∃ m, cs.length = m := ⟨_, rfl⟩
  have HM := Lib.hid hm
  rw [hm] at HX0 hb1 hcap0 h59 ⊢
  have c0 := HX0.out.cell 0
  have HB1 := Lib.hid hb1
  clear hm hb1
  go_enter Tryz.func59, Tryz.ntmps59
  go_wp2_with fail
  go_loop [5] (fun v5 => ∃ k : Nat, v5 = .int .i64 k ∧ k ≤ m ∧ Hid (plc cs s = k + plc (cs.drop k) s)) (fun v5 => m - (intOf v5).toNat)
  case atStart => exact ⟨0, rfl, Nat.zero_le _, Lib.hid (by simp)⟩
  case round =>
    obtain ⟨k, rfl, hk, hE⟩ := hrel
    by_cases hlt : k < m
    · obtain ⟨c, hck⟩ : ∃ c, cs[k]? = some c := ⟨cs[k]'(by rw [HM.out]; exact hlt), List.getElem?_eq_getElem _⟩
      have HC2 := HC.out
      rw [HM.out] at HC2
      obtain ⟨b, o, A2, n2, k2, A3, n3, k3, e, a0, _⟩ := cl_cells HC2 hck
      subst e
      have a1 := KeepC.below HB1.out _ _ a0
      obtain ⟨x1, x2⟩ := c
      by_cases hq : x1 = s
      · have HP := Lib.hid (plc_hit hE.out hck hq)
        subst hq
        clear hck HC2 a0
        go_wp2_with fail
        go_ret
        refine ⟨?_, HB1.out⟩
        unfold findI
        rw [HP.out, if_pos (by rw [HM.out]; exact hlt)]; rfl
      · have HP := Lib.hid (plc_next hE.out hck hq)
        have hq2 := ba_ne hq
        clear hck HC2 a0 hq hE
        go_wp2_with fail
        go_round
        case rel => exact ⟨k + 1, by simp, by omega, HP⟩
        case measure => simp [intOf]; omega
    · have HP := Lib.hid (plc_end hE.out (by rw [HM.out]; omega) (by rw [HM.out]; exact hk))
      clear hE
      go_wp2_with fail
      go_ret
      refine ⟨?_, HB1.out⟩
      unfold findI
      rw [HP.out, if_neg (by omega)]; rfl
set_option maxRecDepth 100000 in
set_option maxHeartbeats 8000000 in
theorem risK_any {w : World} {v : Value} {cs : List Hdr} (h : Cl w v cs) (s : ByteArray) : Calls Tryz.prog 37 #[.agg #[v], .string s] w fun e w' => e = .returned (.bool (isCk cs s)) ∧ Below w.heap.size w w' := by
  have HX0 := Lib.hid (Bx.new w #[v] 24)
  have hb1 : Below w.heap.size w (w.alloc (.cells #[v] 24)) := (Below.refl _ _).alloc (Nat.le_refl _) _
  have HC := Lib.hid h
  have HE := Lib.hid (isC_split cs s)
  obtain ⟨A, cap0, rfl, hcap0, h59, _⟩ := h
  have HB1 := Lib.hid hb1
  rw [HE.out]
  obtain ⟨f, hf⟩ : ∃ f, findI cs s = f := ⟨_, rfl⟩
  have HF := Lib.hid hf
  rw [hf]
  obtain ⟨q, hq⟩ : ∃ q, isCk [] s = q := ⟨_, rfl⟩
  have HQ := Lib.hid hq
  rw [hq]
  clear hb1 hf hq
  have HBq : Hid (∀ w', Calls Tryz.prog 58 #[.string s] w' fun e w'' => e = .returned (.bool q) ∧ Below w'.heap.size w' w'') := Lib.hid fun w' => by rw [← HQ.out]; exact rbaseK_any s w'
  cases q
  · go_enter Tryz.func37, Tryz.ntmps37
    go_wp2_with (first
      | (go_at_call 58; refine (HBq.out _).mono ?_; rintro e w1 ⟨rfl, hb⟩; have hb2 := HB1.out.trans (hb.mono HB1.out.size); have c0 := (HX0.out.next hb).cell 0; clear hb)
      | (go_at_call 59; refine (rfindK_any (cl_below HC.out hb2) s).mono ?_; rintro e w2 ⟨rfl, hb⟩; rw [HF.out]; replace hb2 := hb2.trans (hb.mono hb2.size); clear hb))
    go_ret
    exact ⟨by simp, hb2⟩
  · go_enter Tryz.func37, Tryz.ntmps37
    go_wp2_with (go_at_call 58; refine (HBq.out _).mono ?_; rintro e w1 ⟨rfl, hb⟩; have hb2 := HB1.out.trans (hb.mono HB1.out.size))
    go_ret
    exact ⟨rfl, hb2⟩
set_option maxRecDepth 100000 in
set_option maxHeartbeats 8000000 in
theorem rsuperK_any {w : World} {v : Value} {cs : List Hdr} (h : Cl w v cs) (s : ByteArray) : Calls Tryz.prog 61 #[.agg #[v], .string s] w fun e w' => e = .returned (.string (superS cs s)) ∧ Below w.heap.size w w' := by
  have HX0 := Lib.hid (Bx.new w #[v] 24)
  have hb1 : Below w.heap.size w (w.alloc (.cells #[v] 24)) := (Below.refl _ _).alloc (Nat.le_refl _) _
  have HC := Lib.hid h
  obtain ⟨A, cap0, rfl, hcap0, h59, _⟩ := h
  have HB1 := Lib.hid hb1
  obtain ⟨t, ht⟩ : ∃ t, superS cs s = t := ⟨_, rfl⟩
  obtain ⟨f, hf⟩ : ∃ f, findI cs s = f := ⟨_, rfl⟩
  have HF := Lib.hid hf
  obtain ⟨q, hq⟩ : ∃ q, isCk [] s = q := ⟨_, rfl⟩
  have HQ := Lib.hid hq
  have HT := Lib.hid ht
  rw [ht]
  clear hb1 hf hq ht
  have HBq : Hid (∀ w', Calls Tryz.prog 58 #[.string s] w' fun e w'' => e = .returned (.bool q) ∧ Below w'.heap.size w' w'') := Lib.hid fun w' => by rw [← HQ.out]; exact rbaseK_any s w'
  cases q
  · by_cases hlt : plc cs s < cs.length
    · obtain ⟨c, hck⟩ : ∃ c, cs[plc cs s]? = some c := ⟨cs[plc cs s]'hlt, List.getElem?_eq_getElem _⟩
      have HE : Hid (t = c.2) := Lib.hid (by rw [← HT.out]; exact superS_own HQ.out hck)
      have hfe : f = (plc cs s : Int) := by rw [← HF.out]; unfold findI; rw [if_pos hlt]
      subst hfe
      obtain ⟨k, hk⟩ : ∃ k, plc cs s = k := ⟨_, rfl⟩
      rw [hk] at hck hlt HF
      obtain ⟨x1, x2⟩ := c
      have HCK := Lib.hid hck
      clear hck
      try rw [hk]
      clear hk
      go_enter Tryz.func61, Tryz.ntmps61
      go_wp2_with (first
        | (go_at_call 58; refine (HBq.out _).mono ?_; rintro e w1 ⟨rfl, hb⟩; have hb2 := HB1.out.trans (hb.mono HB1.out.size); have hx2 := HX0.out.next hb; have c0 := hx2.cell 0; clear hb)
        | (go_at_call 59; refine (rfindK_any (cl_below HC.out hb2) s).mono ?_; rintro e w2 ⟨rfl, hb⟩; rw [HF.out]; replace hb2 := hb2.trans (hb.mono hb2.size); have c1 := (hx2.next hb).cell 0; obtain ⟨b, o, A2, n2, k2, A3, n3, k3, e, a0, a1, _⟩ := cl_cells (cl_below HC.out hb2) HCK.out; subst e; clear hb c0 hx2 a0))
      go_ret
      exact ⟨by rw [HE.out]; rfl, hb2⟩
    · have HE : Hid (t = ⟨#[]⟩) := Lib.hid (by
        rw [← HT.out]; exact superS_none (by rw [isC_split, HQ.out]; simp; unfold findI; rw [if_neg hlt]; decide))
      have hfe : f = -1 := by rw [← HF.out]; unfold findI; rw [if_neg hlt]
      subst hfe
      go_enter Tryz.func61, Tryz.ntmps61
      go_wp2_with (first
        | (go_at_call 58; refine (HBq.out _).mono ?_; rintro e w1 ⟨rfl, hb⟩; have hb2 := HB1.out.trans (hb.mono HB1.out.size); have c0 := (HX0.out.next hb).cell 0; clear hb)
        | (go_at_call 59; refine (rfindK_any (cl_below HC.out hb2) s).mono ?_; rintro e w2 ⟨rfl, hb⟩; rw [HF.out]; replace hb2 := hb2.trans (hb.mono hb2.size); clear hb))
      go_ret
      exact ⟨by rw [HE.out]; rfl, hb2⟩
  · have HE : Hid (t = if s = kExc then ⟨#[]⟩ else kExc) := Lib.hid (by rw [← HT.out]; exact superS_base HQ.out)
    by_cases hx : s = kExc
    · have HE2 : Hid (t = ⟨#[]⟩) := Lib.hid (by rw [HE.out, if_pos hx])
      have hq1 : (s.toList == [69, 120, 99, 101, 112, 116, 105, 111, 110]) = true := by rw [hx]; decide +kernel
      clear hx
      go_enter Tryz.func61, Tryz.ntmps61
      go_wp2_with (go_at_call 58; refine (HBq.out _).mono ?_; rintro e w1 ⟨rfl, hb⟩; have hb2 := HB1.out.trans (hb.mono HB1.out.size))
      go_ret
      exact ⟨by rw [HE2.out]; rfl, hb2⟩
    · have HE2 : Hid (t = kExc) := Lib.hid (by rw [HE.out, if_neg hx])
      have hq1 : (s.toList == [69, 120, 99, 101, 112, 116, 105, 111, 110]) = false := ba_ne_l _ hx
      clear hx
      go_enter Tryz.func61, Tryz.ntmps61
      go_wp2_with (go_at_call 58; refine (HBq.out _).mono ?_; rintro e w1 ⟨rfl, hb⟩; have hb2 := HB1.out.trans (hb.mono HB1.out.size))
      go_ret
      exact ⟨by rw [HE2.out]; rfl, hb2⟩
end Go.Proofs.YteogphbdpjnjoaaGreat
