/- What is the same; contract of tree.same. -/
import Derived.Test.YtlpddmncgmhkeaaTreeG
import Derived.Deep.RegionWith
import Derived.Deep.LoopGhost
set_option linter.unusedSimpArgs false
set_option linter.unusedVariables false
namespace Go.Proofs.Ytlpddmncgmhkeaa
open Go.RowKit
/-- Two lists of nodes are the same, with all that stands within. -/
def sameL : List Nd → List Nd → Bool
  | [], [] => true
  | x :: l, y :: m => alikeB x y && (sameL x.kids y.kids && sameL l m)
  | [], _ :: _ => false
  | _ :: _, [] => false
termination_by l => sizeL l
decreasing_by
  · simp only [sizeL]; rw [size_kids x]; omega
  · simp only [sizeL]; have := size_pos x; omega
theorem sameL_nil : sameL [] [] = true := by rw [sameL]
theorem sameL_cons (x y : Nd) (l m : List Nd) : sameL (x :: l) (y :: m) = (alikeB x y && (sameL x.kids y.kids && sameL l m)) := by rw [sameL]
theorem sameL_ne : ∀ (l m : List Nd), l.length ≠ m.length → sameL l m = false
  | [], [], h => by simp at h
  | [], _ :: _, _ => by rw [sameL]
  | _ :: _, [], _ => by rw [sameL]
  | x :: l, y :: m, h => by rw [sameL_cons, sameL_ne l m (by simpa using h)]; simp
theorem sameL_append : ∀ (a b c d : List Nd), a.length = b.length → sameL (a ++ c) (b ++ d) = (sameL a b && sameL c d)
  | [], [], c, d, _ => by simp [sameL_nil]
  | [], _ :: _, _, _, h => by simp at h
  | _ :: _, [], _, _, h => by simp at h
  | x :: a, y :: b, c, d, h => by
    simp only [List.cons_append, sameL_cons]
    rw [sameL_append a b c d (by simpa using h)]
    simp only [Bool.and_assoc]
theorem sameL_one (x y : Nd) : sameL [x] [y] = (alikeB x y && sameL x.kids y.kids) := by rw [sameL_cons, sameL_nil]; simp

def sameP (a b : List Pt) : Bool := sameL (a.map Pt.x) (b.map Pt.x)
/-- Two stacks of parts beside each other. -/
structure Two (W0 w : World) (v1 : Value) (a : List Pt) (v2 : Value) (b : List Pt) : Prop where
  own1 : w.ownsRow W0.heap.size 71 1 v1 a.length (a.map ptV)
  own2 : w.ownsRow W0.heap.size 71 1 v2 b.length (b.map ptV)
  bel : Below W0.heap.size W0 w
  ne : v1.ownBlock = none ∨ v1.ownBlock ≠ v2.ownBlock
theorem Two.draws {W0 w : World} {v1 v2 : Value} {a b : List Pt} (h : Two W0 w v1 a v2 b) (n : Nat) : Two W0 (w.drewN n) v1 a v2 b := ⟨h.own1, h.own2, ⟨h.bel.os, h.bel.tape, h.bel.output, h.bel.size, h.bel.block⟩, h.ne⟩
theorem Two.left {W0 w w' : World} {v1 v2 v1' : Value} {a b a' : List Pt} (h : Two W0 w v1 a v2 b) (ho : w'.ownsRow W0.heap.size 71 1 v1' a'.length (a'.map ptV)) (hg : Grew w w' v1 v1') : Two W0 w' v1' a' v2 b := by
  refine ⟨ho, hg.other h.own2 ?_, grew_below h.bel h.own1 hg, ?_⟩
  · rcases h.ne with e | e
    · rw [e]; cases v2.ownBlock <;> simp
    · exact .inr (Ne.symm e)
  · rcases hg.2 with e | e
    · rw [e]; exact h.ne
    · cases hv : v1'.ownBlock with
      | none => exact .inl rfl
      | some k =>
        refine .inr fun e2 => ?_
        have := e k hv
        have := (h.own2.lt k e2.symm).2
        omega
theorem Two.right {W0 w w' : World} {v1 v2 v2' : Value} {a b b' : List Pt} (h : Two W0 w v1 a v2 b) (ho : w'.ownsRow W0.heap.size 71 1 v2' b'.length (b'.map ptV)) (hg : Grew w w' v2 v2') : Two W0 w' v1 a v2' b' := by
  refine ⟨hg.other h.own1 h.ne, ho, grew_below h.bel h.own2 hg, ?_⟩
  rcases hg.2 with e | e
  · rw [e]; exact h.ne
  · cases hv : v1.ownBlock with
    | none => exact .inl rfl
    | some k =>
      refine .inr fun e2 => ?_
      have := e k e2.symm
      have := (h.own1.lt k hv).2
      omega
theorem own_last_n {w : World} {B : Nat} {e : TypeId} {v : Value} {ps : List Pt} {x : Pt} {n : Nat} (hn : ps.length = n) (h : w.ownsRow B e 1 v (ps ++ [x]).length ((ps ++ [x]).map ptV)) :
    ∃ g cap, v = .slice (some ⟨g, 0, none⟩) (n + 1) cap ∧ n + 1 ≤ cap ∧ w.cell? ⟨g, n, none⟩ = some (ptV x) ∧ w.ownsRow B e 1 (.slice (some ⟨g, 0, none⟩) n cap) ps.length (ps.map ptV) := by
  subst hn; exact own_last h
/-- The relation of the loop. -/
structure SR (W0 : World) (r : Bool) (a b : List Pt) (v1 v2 : Value) (w : World) : Prop where
  two : Two W0 w v1 a v2 b
  at1 : ∀ p ∈ a, p.at_ W0
  at2 : ∀ p ∈ b, p.at_ W0
  len : a.length = b.length
  le1 : sizeP a ≤ 1000000
  le2 : sizeP b ≤ 1000000
  res : sameP a b = r
theorem sameP_snoc (a b : List Pt) (x y : Pt) (h : a.length = b.length) : sameP (a ++ [x]) (b ++ [y]) = (sameP a b && (alikeB x.x y.x && sameL x.x.kids y.x.kids)) := by
  simp only [sameP, List.map_append, List.map_cons, List.map_nil]
  rw [sameL_append _ _ _ _ (by simpa using h), sameL_one]
theorem SR.sizes {W0 w : World} {r : Bool} {a b : List Pt} {x y : Pt} {v1 v2 : Value} (h : SR W0 r (a ++ [x]) (b ++ [y]) v1 v2 w) : a.length + (kidsP x.x).length ≤ 1000000 ∧ b.length + (kidsP y.x).length ≤ 1000000 ∧ a.length ≤ 1000000 ∧ b.length ≤ 1000000 := by
  have hx := h.at1 x (by simp)
  have hy := h.at2 y (by simp)
  have h1 := h.le1; have h2 := h.le2
  rw [sizeP_append, sizeP_one, sizeP_kids hx.2] at h1
  rw [sizeP_append, sizeP_one, sizeP_kids hy.2] at h2
  have := len_sizeP a; have := len_sizeP b; have := len_sizeP (kidsP x.x); have := len_sizeP (kidsP y.x)
  omega
theorem SR.step {W0 w w' : World} {r : Bool} {a b : List Pt} {x y : Pt} {v1 v2 v1' v2' : Value} (h : SR W0 r (a ++ [x]) (b ++ [y]) v1 v2 w) (hal : alikeB x.x y.x = true) (ht : Two W0 w' v1' (a ++ kidsP x.x) v2' (b ++ kidsP y.x)) :
    SR W0 r (a ++ kidsP x.x) (b ++ kidsP y.x) v1' v2' w' ∧ sizeP (a ++ kidsP x.x) < sizeP (a ++ [x]) := by
  have hx := h.at1 x (by simp)
  have hy := h.at2 y (by simp)
  have h1 := h.le1; have h2 := h.le2; have h3 := h.len
  rw [sizeP_append, sizeP_one, sizeP_kids hx.2] at h1
  rw [sizeP_append, sizeP_one, sizeP_kids hy.2] at h2
  simp only [List.length_append, List.length_singleton] at h3
  have hkx := congrArg List.length (kidsP_x hx.2)
  have hky := congrArg List.length (kidsP_x hy.2)
  have hkk := alike_kids hal
  simp only [List.length_map] at hkx hky
  refine ⟨⟨ht, ?_, ?_, by simp only [List.length_append]; omega, by rw [sizeP_append]; omega, by rw [sizeP_append]; omega, ?_⟩, by rw [sizeP_append, sizeP_append, sizeP_one, sizeP_kids hx.2]; omega⟩
  · intro p hp
    rcases List.mem_append.1 hp with hp | hp
    · exact h.at1 p (by simp [hp])
    · exact kidsP_at hx.2 p hp
  · intro p hp
    rcases List.mem_append.1 hp with hp | hp
    · exact h.at2 p (by simp [hp])
    · exact kidsP_at hy.2 p hp
  · rw [← h.res, sameP_snoc a b x y (by omega), hal]
    simp only [sameP, List.map_append]
    rw [sameL_append _ _ _ _ (by simp; omega), kidsP_x hx.2, kidsP_x hy.2]
    simp
theorem SR.not {W0 w : World} {r : Bool} {a b : List Pt} {x y : Pt} {v1 v2 : Value} (h : SR W0 r (a ++ [x]) (b ++ [y]) v1 v2 w) (hal : alikeB x.x y.x = false) : r = false := by
  have h3 := h.len
  simp only [List.length_append, List.length_singleton] at h3
  rw [← h.res, sameP_snoc a b x y (by omega), hal]; simp
set_option maxRecDepth 100000 in
set_option maxHeartbeats 4000000 in
theorem same_any (W0 w : World) (v1 v2 : Value) (a b : List Pt) (ht : Two W0 w v1 a v2 b) (h1 : ∀ p ∈ a, p.at_ W0) (h2 : ∀ p ∈ b, p.at_ W0) (hs1 : sizeP a ≤ 1000000) (hs2 : sizeP b ≤ 1000000) :
    Calls Try.prog 26 #[v1, v2] w fun e w' => e = .returned (.bool (sameP a b)) ∧ Below W0.heap.size W0 w' := by
  obtain ⟨A, cap, rfl, _⟩ := own_form ht.own1
  obtain ⟨A', cap', rfl, _⟩ := own_form ht.own2
  have hla := len_sizeP a
  have hlb := len_sizeP b
  by_cases hl : a.length = b.length
  · obtain ⟨r, hr⟩ : ∃ r, sameP a b = r := ⟨_, rfl⟩
    rw [hr]
    have hS : SR W0 r a b _ _ w := ⟨ht, h1, h2, hl, hs1, hs2, hr⟩
    obtain ⟨n, hn⟩ : ∃ n, a.length = n := ⟨_, rfl⟩
    rw [← hl, hn] at hS ⊢
    rw [hn] at hla
    have HS := Lib.hid hS
    clear ht h1 h2 hr hl hn hS hlb hs1 hs2
    go_enter Try.func26, Try.ntmps26
    go_wp2_with fail
    go_loopg [0, 1] (sizeP a) (fun q v0 v1 wr => ∃ a1 b1, q = sizeP a1 ∧ SR W0 r a1 b1 v0 v1 wr)
    case atStart => exact ⟨a, b, rfl, HS.out⟩
    case round =>
      obtain ⟨a1, b1, rfl, hE⟩ := hrel
      clear HS hla
      rcases list_end a1 with rfl | ⟨c, x, rfl⟩
      · have hb0 : b1 = [] := List.eq_nil_of_length_eq_zero hE.len.symm
        subst hb0
        obtain ⟨A, cap, rfl, _⟩ := own_form hE.two.own1
        have hr : r = true := by rw [← hE.res]; simp [sameP, sameL_nil]
        have hbl := hE.two.bel
        clear hE
        subst hr
        go_wp2_with fail
        go_ret
        exact ⟨rfl, hbl⟩
      · rcases list_end b1 with rfl | ⟨d, y, rfl⟩
        · have := hE.len; simp at this
        · obtain ⟨z1, z2, z3, z4⟩ := hE.sizes
          have hlen : c.length = d.length := by have := hE.len; simpa using this
          obtain ⟨n, hn⟩ : ∃ n, c.length = n := ⟨_, rfl⟩
          obtain ⟨g, cap, rfl, hcap, hcell, ho1⟩ := own_last_n hn hE.two.own1
          obtain ⟨g', cap', rfl, hcap', hcell', ho2⟩ := own_last_n (hlen.symm.trans hn) hE.two.own2
          have hx := hE.at1 x (by simp)
          have hy := hE.at2 y (by simp)
          have T0 : Two W0 wr (.slice (some ⟨g, 0, none⟩) n cap) c (.slice (some ⟨g', 0, none⟩) n cap') d := ⟨ho1, ho2, hE.two.bel, by have := hE.two.ne; simpa [Value.ownBlock] using this⟩
          have HAL : Hid (∀ k, Calls Try.prog 43 #[ptV x, ptV y] (wr.drewN k) fun e w' => e = .returned (.bool (alikeB x.x y.x)) ∧ ∃ m, w' = (wr.drewN k).drewN m) := by
            show ∀ k, _
            intro k
            exact alike_any (wr.drewN k) x y (Pt.at_.keep (w := wr) (w' := wr.drewN k) (fun _ _ h => h) (hx.below hE.two.bel)) (Pt.at_.keep (w := wr) (w' := wr.drewN k) (fun _ _ h => h) (hy.below hE.two.bel))
          obtain ⟨s, hs⟩ : ∃ s, alikeB x.x y.x = s := ⟨_, rfl⟩
          rw [hs] at HAL
          have HE := Lib.hid hE
          have HSs := Lib.hid hs
          have HWA : Hid (∀ w1 v2 q2, Two W0 w1 (.slice (some ⟨g, 0, none⟩) n cap) c v2 q2 → Calls Try.prog 33 #[.slice (some ⟨g, 0, none⟩) n cap, ptV x] w1 (AddSaid w1 W0.heap.size (.slice (some ⟨g, 0, none⟩) n cap) (c ++ kidsP x.x))) := by
            show ∀ w1 v2 q2, _
            intro w1 v2 q2 h
            exact within_any W0 w1 _ c x h.bel h.own1 hx z1
          have HWB : Hid (∀ w1 v1 q1, Two W0 w1 v1 q1 (.slice (some ⟨g', 0, none⟩) n cap') d → Calls Try.prog 33 #[.slice (some ⟨g', 0, none⟩) n cap', ptV y] w1 (AddSaid w1 W0.heap.size (.slice (some ⟨g', 0, none⟩) n cap') (d ++ kidsP y.x))) := by
            show ∀ w1 v1 q1, _
            intro w1 v1 q1 h
            exact within_any W0 w1 _ d y h.bel h.own2 hy z2
          have HN := Lib.hid hn
          have HT := Lib.hid T0
          rw [hn] at z1 z3
          rw [hlen.symm.trans hn] at z2
          clear hE hs hx hy ho1 ho2 hlen hn T0
          have hi0 : (0 : Int) ≤ (n : Int) := by omega
          have hi1 : n < n + 1 := by omega
          have hi2 : (n : Int) < (n : Int) + 1 := by omega
          have hnn : (n : Int) + 1 ≤ 1000001 := by omega
          go_wp2_with fail
          go_quiet (fail)
          cases s
          · have HR := Lib.hid (HE.out.not HSs.out)
            have hbl := HT.out.bel
            go_wp2_with (go_at_call 43; refine (HAL.out _).mono ?_; clear HAL; rintro e w1 ⟨rfl, m, rfl⟩)
            go_ret
            exact ⟨by rw [HR.out]; rfl, (HT.out.draws _).bel⟩
          · go_wp2_with (go_at_call 43; refine (HAL.out _).mono ?_; clear HAL; rintro e w1 ⟨rfl, m, rfl⟩)
            have HW1 : Hid (∀ k, Calls Try.prog 33 #[.slice (some ⟨g, 0, none⟩) n cap, ptV x] (wr.drewN k) (AddSaid (wr.drewN k) W0.heap.size (.slice (some ⟨g, 0, none⟩) n cap) (c ++ kidsP x.x))) := by
              show ∀ k, _
              intro k; exact HWA.out _ _ _ (HT.out.draws k)
            clear HWA
            have hc1 : n ≤ cap := by omega
            have hc2 : n ≤ cap' := by omega
            clear hi1 hi2 hnn
            go_region_with (first | (go_at_call_of 33 (ptV x); refine (HW1.out _).mono ?_; clear HW1; rintro e wa ⟨va, rfl, hoa, hga⟩; have TA := Lib.hid ((HT.out.draws _).left hoa hga); clear hoa hga) | (go_at_call_of 33 (ptV y); refine (HWB.out _ _ _ TA.out).mono ?_; clear HWB; rintro e wb ⟨vb, rfl, hob, hgb⟩; have TB := Lib.hid (TA.out.right hob hgb); clear hob hgb))
            all_goals go_wp2_with fail
            all_goals
              have HF := Lib.hid (HE.out.step HSs.out TB.out)
              go_roundg (sizeP (c ++ kidsP x.x))
              case rel => exact ⟨_, _, rfl, HF.out.1⟩
              case measure => exact HF.out.2
  · have hr : sameP a b = false := sameL_ne _ _ (by simpa using hl)
    have hl' : ((a.length : Int) == b.length) = false := by rw [beq_eq_false_iff_ne]; omega
    have hl2 : (a.length == b.length) = false := by rw [beq_eq_false_iff_ne]; exact hl
    have hbl := ht.bel
    rw [hr]
    clear ht h1 h2 hr
    go_enter Try.func26, Try.ntmps26
    go_wp2_with fail
    go_ret
    exact ⟨rfl, hbl⟩
end Go.Proofs.Ytlpddmncgmhkeaa
