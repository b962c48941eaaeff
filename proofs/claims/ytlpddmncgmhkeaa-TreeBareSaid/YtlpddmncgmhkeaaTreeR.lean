/- Contract of tree.May. -/
import Derived.Test.YtlpddmncgmhkeaaTreeQ
set_option linter.unusedSimpArgs false
set_option linter.unusedVariables false
namespace Go.Proofs.Ytlpddmncgmhkeaa
open Go.RowKit
/-- A program may have been read. -/
def mayB (l : List Nd) : Bool := decide (l.length ≤ 20) && (l.all (fun x => okT x 0) && decide (sizeL l ≤ 3000))
/-- The relation of May's loop. -/
structure MR (W0 : World) (c : Nat) (ps : List Pt) (k : Nat) (wr : World) : Prop where
  bel : Below W0.heap.size W0 wr
  bx : Bx wr c #[.int .i64 (3000 - (sizeP (ps.take k) : Nat))] 63
  ok : (ps.take k).all (fun q => okT q.x 0) = true
  pos : sizeP (ps.take k) ≤ 3000
theorem all_map_x (ps : List Pt) (f : Nd → Bool) : (ps.map Pt.x).all f = ps.all fun q => f q.x := by rw [List.all_map]; rfl
theorem MR.step {W0 w' wr : World} {c : Nat} {ps : List Pt} {q : Pt} {k : Nat} (h : MR W0 c ps k wr) (hc : W0.heap.size ≤ c) (hq : ps[k]? = some q)
    (hs : TakesSaid wr c (3000 - (sizeP (ps.take k) : Nat)) true q.x.size (.returned (.bool true)) w') (hr : (okT q.x 0 && decide ((q.x.size : Int) ≤ 3000 - (sizeP (ps.take k) : Nat))) = true) : MR W0 c ps (k + 1) w' := by
  obtain ⟨_, hg, m', hbx, hm⟩ := hs
  rw [Bool.and_eq_true, decide_eq_true_eq] at hr
  have e1 : (3000 - (sizeP (ps.take k) : Nat) : Int) - q.x.size = 3000 - (sizeP (ps.take (k + 1)) : Nat) := by
    rw [take_more hq, sizeP_append, sizeP_one]; omega
  refine ⟨below_grown h.bel hg hc, ?_, ?_, ?_⟩
  · rw [← e1, ← hm rfl]; exact hbx
  · rw [take_more hq, List.all_append, Bool.and_eq_true]; exact ⟨h.ok, by simpa using hr.1⟩
  · omega
theorem MR.fail {W0 wr : World} {c : Nat} {ps : List Pt} {q : Pt} {k : Nat} (h : MR W0 c ps k wr) (hq : ps[k]? = some q)
    (hr : (okT q.x 0 && decide ((q.x.size : Int) ≤ 3000 - (sizeP (ps.take k) : Nat))) = false) : mayB (ps.map Pt.x) = false := by
  unfold mayB
  rw [Bool.and_eq_false_iff, Bool.and_eq_false_iff]
  right
  rw [Bool.and_eq_false_iff] at hr
  rcases hr with hr | hr
  · left
    rw [all_map_x, List.all_eq_false]
    exact ⟨q, List.mem_of_getElem? hq, by rw [hr]; simp⟩
  · right
    rw [decide_eq_false_iff_not] at hr ⊢
    show ¬ sizeP ps ≤ 3000
    have h1 : sizeP ps = sizeP (ps.take (k + 1)) + sizeP (ps.drop (k + 1)) := by rw [← sizeP_append, List.take_append_drop]
    rw [h1, take_more hq, sizeP_append, sizeP_one]
    omega
theorem MR.all {W0 wr : World} {c : Nat} {ps : List Pt} {k : Nat} (h : MR W0 c ps k wr) (hn : ps.length ≤ k) (h20 : ps.length ≤ 20) : mayB (ps.map Pt.x) = true := by
  have ht : ps.take k = ps := List.take_of_length_le hn
  have h2 := h.ok; have h3 := h.pos
  rw [ht] at h2 h3
  unfold mayB
  rw [Bool.and_eq_true, Bool.and_eq_true, decide_eq_true_eq, decide_eq_true_eq, all_map_x]
  exact ⟨by simpa using h20, h2, h3⟩
set_option maxRecDepth 100000 in
set_option maxHeartbeats 4000000 in
theorem may_any (w : World) (v : Value) (l : List Nd) (hr : Rw w .cl v l) (hk : KdL w l) (hs : sizeL l ≤ 1000000) (r : Bool) (hres : mayB l = r) :
    Calls Try.prog 11 #[.agg #[v]] w fun e w' => e = .returned (.bool r) ∧ Below w.heap.size w w' := by
  have hm : l.length ≤ maxLen := by obtain ⟨_, _, _, hm, _⟩ := hr; exact hm.1
  unfold maxLen at hm
  obtain ⟨A, cap, rfl⟩ := hr.form
  obtain ⟨n, hn⟩ : ∃ n, l.length = n := ⟨_, rfl⟩
  by_cases h20 : n ≤ 20
  · have K := keep_alloc w (.cells #[.slice A l.length cap] 24)
    have hr1 := hr.keep K
    have hk1 := KdL.keep K _ hk
    have c0 : (w.alloc (.cells #[.slice A n cap] 24)).cell? ⟨w.heap.size, 0, none⟩ = some (.slice A n cap) := by simp [go_sem]
    have hb0 : Below w.heap.size w (w.alloc (.cells #[.slice A n cap] 24)) := (Below.refl _ _).alloc (Nat.le_refl _) _
    have hsz0 : (w.alloc (.cells #[.slice A n cap] 24)).heap.size = w.heap.size + 1 := by simp
    rw [hn] at hr1 hk1
    have hat := ptsV_at hr1 hk1
    have hpx := ptsV_x hr1
    have hpl := ptsV_len hr1
    have HAT1 := Lib.hid hr1.at
    have hbx := Bx.new (w.alloc (.cells #[.slice A n cap] 24)) #[.int .i64 3000] 63
    rw [hsz0] at hbx
    rw [hn] at hm ⊢
    clear hr hk K hr1 hk1
    have h20' : (n : Int) ≤ 20 := by omega
    go_enter Try.func11, Try.ntmps11
    go_wp2_with fail
    obtain ⟨W0, hW0⟩ : ∃ W0, w.alloc (.cells #[.slice A n cap] 24) = W0 := ⟨_, rfl⟩
    obtain ⟨ps, hps⟩ : ∃ ps, ptsV .cl (.slice A n cap) l = ps := ⟨_, rfl⟩
    rw [hW0] at c0 hb0 hsz0 hat hbx ⊢
    rw [hps] at hat hpx hpl
    have HAT2 : Hid (∀ k, k < n → ∃ b o x, A = some ⟨b, o, none⟩ ∧ x.tag = .cl ∧ ps[k]? = some ⟨b, o + k * 4, x⟩) := by
      show ∀ k, _
      intro k hk
      obtain ⟨b, o, x, h1, h2, h3, h4⟩ := HAT1.out.2 k hk
      rw [hps] at h4
      exact ⟨b, o, x, h1, h3, h4⟩
    have hres2 : mayB (ps.map Pt.x) = r := by rw [hpx]; exact hres
    have hsz2 : sizeP ps ≤ 1000000 := by rw [sizeP, hpx]; exact hs
    have HRES := Lib.hid hres2
    have HSZ := Lib.hid hsz2
    have HAT3 := Lib.hid hat
    have hpn : ps.length = n := hpl.trans hn
    have HPN := Lib.hid hpn
    have M0 : MR W0 (w.heap.size + 1) ps 0 (W0.alloc (.cells #[.int .i64 3000] 63)) := ⟨(Below.refl _ W0).alloc (Nat.le_refl _) _, by simpa [sizeP, sizeL] using hbx, by simp, by simp [sizeP, sizeL]⟩
    have HM0 := Lib.hid M0
    have HW := Lib.hid hW0
    have HB0 := Lib.hid hb0
    have hcW : W0.heap.size ≤ w.heap.size + 1 := by omega
    have hcl : w.heap.size < W0.heap.size := by omega
    clear hbx hs hres hn hat hpx hpl HAT1 hps hres2 hsz2 hpn M0 hW0 hsz0 hb0
    go_loopw [13] (fun v13 wr => ∃ k : Nat, v13 = .int .i64 k ∧ k ≤ n ∧ MR W0 (w.heap.size + 1) ps k wr) (fun v13 wr => n - (intOf v13).toNat)
    case atStart => exact ⟨0, rfl, Nat.zero_le _, HM0.out⟩
    case round =>
      obtain ⟨k, rfl, hkn, hM⟩ := hrel
      clear HM0
      by_cases hlt : k < n
      · obtain ⟨b, o, x, rfl, hxt, hq⟩ := HAT2.out k hlt
        have d0 := (Keep.below hM.bel) _ _ c0
        have hbxk := hM.bx
        obtain ⟨mk, hmk⟩ : ∃ mk : Int, (3000 - (sizeP (ps.take k) : Nat) : Int) = mk := ⟨_, rfl⟩
        rw [hmk] at hbxk
        have hposk := hM.pos
        have hpq := HAT3.out _ (List.mem_of_getElem? hq)
        have hqs : x.size ≤ sizeP ps := size_mem (List.mem_map_of_mem (List.mem_of_getElem? hq))
        obtain ⟨s, hs⟩ : ∃ s, (okT x 0 && decide ((x.size : Int) ≤ mk)) = s := ⟨_, rfl⟩
        have hcl2 : W0.heap.size ≤ w.heap.size + 1 := hcW
        have HIH := Lib.hid (takes_any x.size W0 wr (w.heap.size + 1) mk ⟨b, o + k * 4, x⟩ 0 0 (Nat.le_refl _) (show x.size ≤ 1000000 by have := HSZ.out; omega) hpq hM.bel hcl2 hbxk (by omega) (by omega) (by omega) rfl)
        simp only [hs, ptV, hxt, Tg.ptr] at HIH
        have HQ := Lib.hid hq
        have HMM := Lib.hid hM
        have HS1 := Lib.hid (show (okT x 0 && decide ((x.size : Int) ≤ 3000 - (sizeP (ps.take k) : Nat))) = s by rw [hmk]; exact hs)
        have HMK := Lib.hid hmk
        clear hM hbxk hmk hposk hpq hqs hs hq hxt
        cases s
        · have HX := Lib.hid (show r = false by rw [← HRES.out]; exact HMM.out.fail HQ.out HS1.out)
          go_wp2_with fail
          refine HIH.out.mono ?_
          clear HIH
          rintro e w5 ⟨rfl, hg5, m5, hbx5, _⟩
          have HB5 := Lib.hid (HB0.out.trans ((below_grown HMM.out.bel hg5 hcW).mono HB0.out.size))
          clear hg5 hbx5
          go_wp2_with fail
          go_ret
          exact ⟨ret_bool HX.out.symm, HB5.out⟩
        · go_wp2_with fail
          refine HIH.out.mono ?_
          clear HIH
          rintro e w5 ⟨rfl, hg5, m5, hbx5, hm5⟩
          have HM5 := Lib.hid (HMM.out.step (w' := w5) hcW HQ.out ⟨rfl, hg5, m5, hbx5, by rw [HMK.out]; exact hm5⟩ HS1.out)
          clear hg5 hbx5 hm5
          go_wp2_with fail
          go_roundw
          case rel => exact ⟨k + 1, by go_num, by omega, HM5.out⟩
          case measure => simp [intOf]; omega
      · have HX := Lib.hid (show r = true by rw [← HRES.out]; exact hM.all (by rw [HPN.out]; omega) (by rw [HPN.out]; omega))
        have hbf := HB0.out.trans (hM.bel.mono HB0.out.size)
        clear hM
        go_wp2_with fail
        go_ret
        exact ⟨ret_bool HX.out.symm, hbf⟩
  · have hT : r = false := by rw [← hres]; unfold mayB; rw [hn, decide_eq_false h20]; simp
    subst hT
    rw [hn] at hm ⊢
    have h20' : (20 : Int) < n := by omega
    clear hr hk hs hres hn
    go_enter Try.func11, Try.ntmps11
    go_wp2_with fail
    go_ret
    exact ⟨rfl, (Below.refl _ _).alloc (Nat.le_refl _) _⟩
end Go.Proofs.Ytlpddmncgmhkeaa
