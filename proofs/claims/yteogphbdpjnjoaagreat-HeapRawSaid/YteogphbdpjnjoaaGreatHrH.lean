/- A program that came in, as classes with their fields; who is not few by its classes; HeapRaw's walk. -/
import Derived.Test.YteogphbdpjnjoaaGreatHrG
import Derived.Test.YteogphbdpjnjoaaGreatFewP
set_option linter.unusedSimpArgs false
set_option linter.unusedVariables false
namespace Go.Proofs.YteogphbdpjnjoaaGreat
open Go.RowKit
def fldOf : Nd → Fld
  | .fd _ ty nm _ _ => (ty, nm)
  | _ => (⟨#[]⟩, ⟨#[]⟩)
def clsOf : Nd → Cls
  | .cl nm sp _ _ f _ => ((nm, sp), f.map fldOf)
  | _ => ((⟨#[]⟩, ⟨#[]⟩), [])
theorem sizeL_takeH (l : List Nd) (k : Nat) : sizeL (l.take k) ≤ sizeL l := by
  have h := congrArg sizeL (List.take_append_drop k l)
  rw [sizeL_append] at h
  omega
theorem frv_of {w : World} {v : Value} {f : List Nd} (hr : Rw w .fd v f) (hk : KdL w f) (hs : sizeL f ≤ 425) : FrV w v (f.map fldOf) := by
  have hl := len_sizeL f
  obtain ⟨A, cap, rfl, ⟨_, hc⟩, ht, hx⟩ := hr
  refine ⟨A, cap, by rw [List.length_map], by rw [List.length_map]; exact hc, by rw [List.length_map]; omega, ?_, ?_⟩
  · intro y hy
    obtain ⟨x, hm, rfl⟩ := List.mem_map.1 hy
    have h1 := KdL_mem hk x hm
    have h2 := ht x hm
    cases x <;> first | (simp [Nd.tag] at h2; done) | skip
    rw [Kd] at h1
    exact h1.1
  · intro h0
    rw [List.length_map] at h0
    obtain ⟨b, o, hA, hg⟩ := hx h0
    refine ⟨b, o, hA, fun i y hy => ?_⟩
    rw [List.getElem?_map] at hy
    obtain ⟨x, hxi, rfl⟩ := Option.map_eq_some_iff.1 hy
    have hm := List.mem_of_getElem? hxi
    have h1 := KdL_mem hk x hm
    have h2 := ht x hm
    have h3 := hg i x hxi
    cases x <;> first | (simp [Nd.tag] at h2; done) | skip
    rename_i st ty nm vv l
    rw [Kd] at h1
    obtain ⟨A3, k3, rfl⟩ := h1.2.1.form
    exact ⟨st, A3, l.length, k3, h3 0 _ rfl, h3 1 _ rfl, h3 2 _ rfl, h3 3 _ rfl⟩
theorem pgf_of {w : World} {v : Value} {l : List Nd} (hr : Rw w .cl v l) (hk : KdL w l) (h25 : l.length ≤ 25) (hs : sizeL l ≤ 425) : PgF w v (l.map clsOf) := by
  obtain ⟨A, cap, rfl, ⟨_, hc⟩, ht, hx⟩ := hr
  refine ⟨A, cap, by rw [List.length_map], by rw [List.length_map]; exact hc, by rw [List.length_map]; omega, ?_, ?_⟩
  · intro y hy
    obtain ⟨x, hm, rfl⟩ := List.mem_map.1 hy
    have h1 := KdL_mem hk x hm
    have h2 := ht x hm
    cases x <;> first | (simp [Nd.tag] at h2; done) | skip
    rw [Kd] at h1
    exact h1.1
  · intro h0
    rw [List.length_map] at h0
    obtain ⟨b, o, hA, hg⟩ := hx h0
    refine ⟨b, o, hA, fun i y hy => ?_⟩
    rw [List.getElem?_map] at hy
    obtain ⟨x, hxi, rfl⟩ := Option.map_eq_some_iff.1 hy
    have hm := List.mem_of_getElem? hxi
    have h1 := KdL_mem hk x hm
    have h2 := ht x hm
    have h3 := hg i x hxi
    have h4 := sizeL_take_succ hxi
    have h5 : sizeL (l.take (i + 1)) ≤ sizeL l := sizeL_takeH l (i + 1)
    cases x <;> first | (simp [Nd.tag] at h2; done) | skip
    rename_i nm sp vf vm f m
    rw [Kd] at h1
    have h6 : (Nd.cl nm sp vf vm f m).size = 1 + (sizeL f + sizeL m) := by simp [Nd.size]
    have hfr := frv_of h1.2.1.1 h1.2.1.2 (by omega)
    obtain ⟨A2, k2, rfl⟩ := h1.2.1.1.form
    obtain ⟨A3, k3, rfl⟩ := h1.2.2.1.form
    exact ⟨h3 0 _ rfl, h3 1 _ rfl, A2, f.length, k2, A3, m.length, k3, h3 2 _ rfl, hfr, h3 3 _ rfl⟩
set_option maxHeartbeats 4000000 in
theorem few_many (w : World) (v : Value) (l : List Nd) (hr : Rw w .cl v l) (h : 25 < l.length) : Calls Tryz.prog 6 #[.agg #[v]] w fun e w' => e = .returned (.bool false) ∧ Below w.heap.size w w' := by
  obtain ⟨A, cap, rfl⟩ := hr.form
  have hlen : l.length ≤ maxLen := by obtain ⟨_, _, _, h, _⟩ := hr; exact h.1
  unfold maxLen at hlen
  have hb0 : Below w.heap.size w (w.alloc (.cells #[.slice A l.length cap] 24)) := (Below.refl _ w).alloc (Nat.le_refl _) _
  have h' : 25 < (l.length : Int) := by omega
  go_enter Tryz.func6, Tryz.ntmps6
  go_wp2_with fail
  go_ret
  exact ⟨rfl, hb0⟩
/-- heap.New gives a heap just where all is silent. -/
def NewC (l : List Cls) (W : World) (v : Value) : Prop := ∀ W', Below W.heap.size W W' → Calls Tryz.prog 9 #[.agg #[v]] W' fun e w' => ∃ p : Option Addr, e = .returned (.pointer p) ∧ (p = none ↔ ¬ FsOk l) ∧ Below W'.heap.size W' w'
def ToldH (W : World) : Prop := ∀ W', Below W.heap.size W W' → Calls Tryz.prog 7 #[] W' fun e w' => e = .returned (.bool true) ∧ Below W'.heap.size W' w'
set_option maxRecDepth 100000 in
set_option maxHeartbeats 4000000 in
theorem heapRaw_of (w : World) (v : Value) (l : List Nd) (hr : Rw w .cl v l) (hk : KdL w l) (ht : ToldH w) (hn : PgF w v (l.map clsOf) → NewC (l.map clsOf) w v) :
    Calls Tryz.prog 3 #[.agg #[v]] w fun e w' => e = .returned (.bool true) ∧ Below w.heap.size w w' := by
  have hX0 := Bx.new w #[v] 24
  have hb1 : Below w.heap.size w (w.alloc (.cells #[v] 24)) := (Below.refl _ _).alloc (Nat.le_refl _) _
  obtain ⟨W, hW⟩ : ∃ W, W = w.alloc (.cells #[v] 24) := ⟨_, rfl⟩
  rw [← hW] at hX0 hb1
  have HW := Lib.hid hW
  have HB1 := Lib.hid hb1
  have HX0 := Lib.hid hX0
  have HT := Lib.hid ht
  have K := Keep.below hb1
  have hrW := hr.keep K
  have hkW := KdL.keep K _ hk
  have c0 := hX0.cell 0
  by_cases h25 : 25 < l.length
  · have HFW := Lib.hid (few_many W v l hrW h25)
    obtain ⟨A, cap, rfl⟩ := hr.form
    clear hb1 hX0 hW ht hn hrW hkW K hk hr
    go_enter Tryz.func3, Tryz.ntmps3
    go_upto_region 1 with (fail)
    rw [← HW.out]
    go_wp2_with (first
      | (go_at_call 6; refine HFW.out.mono ?_; clear HFW; rintro e w2 ⟨rfl, hb⟩; have HB2 := Lib.hid (HB1.out.trans (hb.mono HB1.out.size)); clear hb)
      | (go_at_call 7; refine (HT.out _ HB2.out).mono ?_; rintro e w3 ⟨rfl, hb⟩; have HB3 := Lib.hid (HB2.out.trans (hb.mono HB2.out.size)); clear hb))
    go_ret
    exact ⟨rfl, HB3.out⟩
  · have HFW := Lib.hid (few_prog_any W v l hrW hkW)
    unfold FewQ at HFW
    have HNW : Hid (sizeL l ≤ 425 → PgF w v (l.map clsOf)) := Lib.hid fun h => pgf_of hr hk (by omega) h
    have HN := Lib.hid hn
    obtain ⟨A, cap, rfl⟩ := hr.form
    clear hb1 hX0 hW ht hn hrW hkW K hk hr
    go_enter Tryz.func3, Tryz.ntmps3
    go_upto_region 1 with (fail)
    rw [← HW.out]
    go_upto_region 2 with (go_at_call 6; refine HFW.out.mono ?_; clear HFW; rintro e w2 ⟨q, rfl, hq, hb⟩; have HQ := Lib.hid hq; have HB2 := Lib.hid (HB1.out.trans (hb.mono HB1.out.size)); have c0' := (HX0.out.next hb).cell 0; have HX2 := Lib.hid (HX0.out.next hb); clear hb hq c0)
    · go_wp2_with (go_at_call 7; refine (HT.out _ HB2.out).mono ?_; rintro e w3 ⟨rfl, hb⟩; have HB3 := Lib.hid (HB2.out.trans (hb.mono HB2.out.size)); clear hb)
      go_ret
      exact ⟨rfl, HB3.out⟩
    · have hq : q = true := by
        have h : (!q) = false := by assumption
        simpa using h
      have hP := HNW.out (HQ.out hq)
      have hC := rcheckFields_any w2 _ _ (hP.below HB2.out)
      have HNC := Lib.hid (HN.out hP)
      refine hC.mono ?_
      rintro e w3 ⟨a, b, rfl, ha, hb⟩
      have HB3 := Lib.hid (HB2.out.trans (hb.mono HB2.out.size))
      have HX3 := Lib.hid (HX2.out.next hb)
      clear hC hb c0' hP
      by_cases hF : FsOk (l.map clsOf)
      · obtain rfl : a = 0 := ha.2 hF
        have HF := Lib.hid hF
        clear ha hF
        go_wp2_with (first
          | (go_at_call 7; refine (HT.out _ HB3.out).mono ?_; rintro e w4 ⟨rfl, hb⟩; have HB4 := Lib.hid (HB3.out.trans (hb.mono HB3.out.size)); have c0 := (HX3.out.next hb).cell 0; clear hb)
          | (go_at_call 9; refine (HNC.out _ HB4.out).mono ?_; rintro e w5 ⟨p, rfl, hp, hb⟩; obtain ⟨pa, rfl⟩ : ∃ x, p = some x := Option.ne_none_iff_exists'.1 (fun h => hp.1 h HF.out); have HB5 := Lib.hid (HB4.out.trans (hb.mono HB4.out.size)); clear hb hp))
        go_ret
        exact ⟨rfl, HB5.out⟩
      · have hz : (a == 0) = false := by rw [beq_eq_false_iff_ne]; exact fun h => hF (ha.1 h)
        have HF := Lib.hid hF
        clear ha hF
        go_wp2_with (first
          | (go_at_call 7; refine (HT.out _ HB3.out).mono ?_; rintro e w4 ⟨rfl, hb⟩; have HB4 := Lib.hid (HB3.out.trans (hb.mono HB3.out.size)); have c0 := (HX3.out.next hb).cell 0; clear hb)
          | (go_at_call 9; refine (HNC.out _ HB4.out).mono ?_; rintro e w5 ⟨p, rfl, hp, hb⟩; obtain rfl : p = none := hp.2 HF.out; have HB5 := Lib.hid (HB4.out.trans (hb.mono HB4.out.size)); clear hb hp))
        go_ret
        exact ⟨rfl, HB5.out⟩
end Go.Proofs.YteogphbdpjnjoaaGreat
