/- heap.New, as it landed: its places, and that there is a heap just where field.Check is silent; HeapRaw in any world; told of layer 15 by what its calls come to (XHfB). -/
import Derived.Test.YteogphbdpjnjoaaGreatHrN
import Derived.Test.YteogphbdpjnjoaaGreatHfB
import Derived.Test.YteogphbdpjnjoaaGreatOpenZ
set_option linter.unusedSimpArgs false
set_option linter.unusedVariables false
namespace Go.Proofs.YteogphbdpjnjoaaGreat
section
open Go.RowKit Go.Maps Go.WideMaps
theorem intE {a : Nat} (h : a < 1000000) : plainElem (H := Unit) Tryz.prog 3 (.int .i64 a) = some (.lit (.int .i64 a), []) := plainElem_int Tryz.underlying3 (by
  simp [Lit.wf, IntKind.min, IntKind.max, IntKind.bits, IntKind.signed]; omega)
set_option maxRecDepth 100000 in
set_option maxHeartbeats 4000000 in
theorem places_any (w : World) (A : Option Addr) (n cap : Nat) (hcap : n ≤ cap) (hbig : n ≤ 59) (h : PlN w A n) : Calls Tryz.prog 24 #[.agg #[.slice A n cap]] w fun e w' => ∃ m, e = .returned (.map (some m)) ∧ Below w.heap.size w w' := by
  have hX0 := Bx.new w #[.slice A n cap] 24
  have hb1 : Below w.heap.size w (w.alloc (.cells #[.slice A n cap] 24)) := (Below.refl _ _).alloc (Nat.le_refl _) _
  have HF := Lib.hid (h.below hb1)
  have hmm := fun (n : Nat) w => run_makeMap_hint (P := Tryz.prog) Tryz.underlying66 n w
  obtain ⟨W, hW⟩ : ∃ W, W = w.alloc (.cells #[.slice A n cap] 24) := ⟨_, rfl⟩
  rw [← hW] at hX0 hb1 HF
  have hWs : W.heap.size = w.heap.size + 1 := by rw [hW]; simp
  have HW := Lib.hid hW
  have HB1 := Lib.hid hb1
  have HX0 := Lib.hid hX0
  have c0 := hX0.cell 0
  clear hW hb1 hX0 h
  go_enter Tryz.func24, Tryz.ntmps24
  go_upto_region 1 with (fail)
  rw [← HW.out]
  go_wp2_with fail
  go_loopw [13] (fun v13 wr => ∃ (k : Nat) (D : DataW Unit), k ≤ n ∧ v13 = .int .i64 k ∧ wr.ownsMap Tryz.prog 9 (plainElem Tryz.prog 3) (w.heap.size + 1) k D ∧ Below W.heap.size W wr ∧ w.heap.size + 1 < wr.heap.size)
    (fun v13 _ => n - (intOf v13).toNat)
  case atStart => exact ⟨0, _, Nat.zero_le _, rfl, by rw [← hWs]; exact World.ownsMap_made _ _ _ _, (Below.refl _ _).alloc (Nat.le_refl _) _, by simp [hWs]⟩
  case round =>
    obtain ⟨k, D, hk, rfl, hown, hnx, hsz⟩ := hrel
    by_cases hlt : k < n
    · obtain ⟨b, o, e, hc⟩ := (HF.out.below hnx) (by omega)
      obtain ⟨s, s2, A2, n2, k2, A3, n3, k3, hsn, a0, a1, a2, a3⟩ := hc k hlt
      subst e
      clear hc
      have hkey := keyS hsn
      have hval := intE (a := k) (by omega)
      go_wp2_with (at_mapUpdate; refine wpList_mapUpdate_own _ rfl _ _ _ 66 rfl 9 3 lawS Tryz.underlying66 (plainElem (H := Unit) Tryz.prog 3) (w.heap.size + 1) k _ rfl (hown.alloc _) (by unfold maxLen; omega) _ _ _ rfl rfl hkey _ [] hval ?_; intro w1 hown1 hgrow1)
      have hs1 := hgrow1.size
      simp only [World.size_alloc] at hs1
      go_roundw
      case rel => exact ⟨k + 1, _, by omega, by go_num, hown1, (hnx.alloc hnx.size _).grown hgrow1 (by have := hnx.size; simp; omega) (fun j hj => by cases hj; omega), by omega⟩
      case measure => simp [intOf]; omega
    · have hke : k = n := by omega
      subst hke
      have HNX := Lib.hid hnx
      clear hown hsz hnx
      go_wp2_with fail
      go_ret
      exact ⟨_, rfl, HB1.out.trans (HNX.out.mono HB1.out.size)⟩
end
section
open Go.RowKit
theorem run_makeMap_bare (w : World) : (Instr.makeMap 69 none).run Tryz.prog w = .ok (.map (some w.heap.size)) (w.alloc (.map #[] 0)) := by simp [Instr.makeMap]
set_option maxRecDepth 100000 in
set_option maxHeartbeats 4000000 in
theorem new_any (w : World) (v : Value) (l : List Cls) (h : PgF w v l) (hz : Z48 l) : NewC l w v := by
  intro W' hb'
  have hX0 := Bx.new W' #[v] 24
  have hb1 : Below W'.heap.size W' (W'.alloc (.cells #[v] 24)) := (Below.refl _ _).alloc (Nat.le_refl _) _
  have hC := fieldCheck_any _ v l ((h.below hb').below hb1)
  have HP := Lib.hid (h.below hb')
  have HZ := Lib.hid hz
  obtain ⟨A, cap, rfl, hcap, hbig, _⟩ := h
  have HB1 := Lib.hid hb1
  have HX0 := Lib.hid hX0
  have HC := Lib.hid hC
  clear hC hb1 hX0 hz
  go_enter Tryz.func9, Tryz.ntmps9
  by_cases hF : FsOk l
  · have HF := Lib.hid hF
    clear hF
    go_wp2_with (first
      | (go_at_call 22; refine HC.out.mono ?_; clear HC; rintro e w2 ⟨a, b, rfl, ha, hb⟩; obtain rfl : a = 0 := ha.2 HF.out; have hB2 := HB1.out.trans (hb.mono HB1.out.size); have HX2 := Lib.hid (HX0.out.next hb); have c0 := HX2.out.cell 0; have HB2 := Lib.hid hB2; clear ha hb hB2)
      | (go_at_call 23; refine (plan_any w2 _ l (HP.out.below HB2.out) HZ.out).mono ?_; rintro e w3 ⟨A2, rfl, hpl, hb⟩; have HPL := Lib.hid hpl; have HB3 := Lib.hid (HB2.out.trans (hb.mono HB2.out.size)); clear hb hpl c0))
    obtain ⟨n, hn⟩ : ∃ n, l.length = n := ⟨_, rfl⟩
    rw [hn] at HPL hbig ⊢
    have HPC : Hid (∀ w', Below w3.heap.size w3 w' → Calls Tryz.prog 24 #[.agg #[.slice A2 n n]] w' fun e w'' => ∃ m, e = .returned (.map (some m)) ∧ Below w'.heap.size w' w'') := Lib.hid fun w' hb => places_any w' A2 n n (Nat.le_refl _) hbig (HPL.out.below hb)
    have hBa : Below w3.heap.size w3 (w3.alloc (.cells #[.slice A2 n n] 24)).drew := ((Below.refl _ w3).alloc (Nat.le_refl _) _).drew
    have hBb : Below w3.heap.size w3 ((w3.alloc (.cells #[.slice A2 n n] 24)).alloc (.map #[] 0)).drew := (((Below.refl _ w3).alloc (Nat.le_refl _) _).alloc (by simp) _).drew
    have hCa : Below (w3.alloc (.cells #[.slice A2 n n] 24)).heap.size (w3.alloc (.cells #[.slice A2 n n] 24)) (w3.alloc (.cells #[.slice A2 n n] 24)).drew := (Below.refl _ _).drew
    have hCb : Below (w3.alloc (.cells #[.slice A2 n n] 24)).heap.size (w3.alloc (.cells #[.slice A2 n n] 24)) ((w3.alloc (.cells #[.slice A2 n n] 24)).alloc (.map #[] 0)).drew := ((Below.refl _ _).alloc (Nat.le_refl _) _).drew
    have HX := Lib.hid (Bx.new w3 #[.slice A2 n n] 24)
    have d0 := HX.out.cell 0
    clear hn HPL
    have hmk := run_makeMap_bare
    go_region_with (go_at_call 24; refine (HPC.out _ (by first | with_reducible exact hBa | with_reducible exact hBb)).mono ?_; rintro e w5 ⟨mm, rfl, hc⟩; have d5 : w5.cell? ⟨w3.heap.size, 0, none⟩ = some (.slice A2 n n) := (by first | exact (HX.out.next (hCa.trans (hc.mono hCa.size))).cell 0 | exact (HX.out.next (hCb.trans (hc.mono hCb.size))).cell 0); have d6 : (w5.alloc (.map #[] 0)).cell? ⟨w3.heap.size, 0, none⟩ = some (.slice A2 n n) := Below.cell ((Below.refl _ w5).alloc (Nat.le_refl _) _) (World.block_lt_of_cell? w5 (a := ⟨w3.heap.size, 0, none⟩) d5) |>.trans d5; have hB5 : Below w3.heap.size w3 w5 := (by first | exact hBa.trans (hc.mono hBa.size) | exact hBb.trans (hc.mono hBb.size)); clear hc)
    all_goals
      have hb6 := HB3.out.trans (hB5.mono HB3.out.size)
      have hb7 := hb6.alloc hb6.size (.map #[] 0)
      go_wp2_with fail
      go_ret
      exact ⟨_, rfl, ⟨fun e => by simp at e, fun e => absurd HF.out e⟩, by first | exact hb6.alloc hb6.size _ | exact hb7.alloc hb7.size _⟩
  · have HF := Lib.hid hF
    clear hF
    go_wp2_with (go_at_call 22; refine HC.out.mono ?_; clear HC; rintro e w2 ⟨a, b, rfl, ha, hb⟩; have hz : (a != 0) = true := (by rw [bne_iff_ne]; exact fun e => HF.out (ha.1 e)); have HB2 := Lib.hid (HB1.out.trans (hb.mono HB1.out.size)); clear ha hb)
    go_ret
    exact ⟨_, rfl, ⟨fun _ => HF.out, fun _ => rfl⟩, HB2.out⟩
end
section
open Go.RowKit
theorem hr_told_any (w : World) : ToldH w := fun w' hb => answer hfG_ok (Checked.mixed Tryz.checked) hfX_ok hfKt_ok (l := .nil) (m := []) rfl hf_told w' (C := 0) (fun g hg => by cases hg)
theorem z48_of {l : List Nd} (ht : ∀ x ∈ l, x.tag = .cl) (hf : ∀ x ∈ l, ∀ y ∈ x.kids, Sz y) (hz : ∀ x ∈ l, Sz x) : Z48 (l.map clsOf) := by
  intro c hc
  obtain ⟨x, hx, rfl⟩ := List.mem_map.1 hc
  have h1 := ht x hx
  have h2 := (hz x hx).head
  have h3 := hf x hx
  cases x <;> first | (simp [Nd.tag] at h1; done) | skip
  refine ⟨h2.1, h2.2, fun f hfm => ?_⟩
  obtain ⟨y, hy, rfl⟩ := List.mem_map.1 hfm
  have hzy := (h3 y (by simp only [Nd.kids]; exact List.mem_append_left _ hy)).head
  cases y <;> first | exact hzy.1 | (show (⟨#[]⟩ : ByteArray).size ≤ _; decide)
theorem heapRaw_row (W : World) (v : Value) (l : List Nd) (hr : Rw W .cl v l) (hk : KdL W l) (hz : ∀ x ∈ l, Sz x) : Calls Tryz.prog 3 #[.agg #[v]] W fun e w' => e = .returned (.bool true) ∧ Below W.heap.size W w' :=
  heapRaw_of W v l hr hk (hr_told_any W) fun h => new_any W v _ h (z48_of (by obtain ⟨_, _, _, _, h, _⟩ := hr; exact h) (fun x hx => (hz x hx).kids) hz)
end
end Go.Proofs.YteogphbdpjnjoaaGreat
