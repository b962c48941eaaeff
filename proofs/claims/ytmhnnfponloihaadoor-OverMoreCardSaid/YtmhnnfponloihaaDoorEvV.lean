/- A region that draws its order, a call: sound. No Go program in this text. -/
import Derived.Test.YtmhnnfponloihaaDoorEvU
set_option linter.unusedSimpArgs false
set_option linter.unusedVariables false
namespace Go.Proofs.YtmhnnfponloihaaDoor
open Go.RowKit
variable {P : Program} {N : Nat} {X call : Caller} {ops : Array Oper}

theorem good_nil {sl : T AV} {h : T AO} {nx : Nat} : Good ops N sl h nx [] ⟨sl, h, nx, [(ops.size, h)], []⟩ where
  ids := fun r hr => nomatch hr
  dif := .nil
  rng := fun r hr => nomatch hr
  nx := Nat.le_refl _
  apt := .nil
  sl1 := fun r hr => nomatch hr
  sl2 := fun t _ => rfl
  Ks := rfl
  mem := fun id x e => .inl ⟨_, _, _, rfl, e⟩
  pnd := fun r hr => nomatch hr
theorem stp_le {ρ ρ' : Map} {H H' : Heap} {w w' : World} {c c' d : Nat} (h : Stp ρ ρ' H H' w w' c c') (k : c' ≤ d) : Stp ρ ρ' H H' w w' c d :=
  { h with out := fun id hid => h.out id (by omega), nxle := Nat.le_trans h.nxle k }
theorem tells_v (S : Stat ops N) {sl0 : T AV} {H0 : T AO} {nx0 : Nat} {R : List Rec} {sF : PS} (G : Good ops N sl0 H0 nx0 R sF) (hR : RecsOk P X call N ops sl0 H0 R) (hall : ∀ j, j < ops.size → ∃ q ∈ R, q.i = j) {r : Rec} (hr : r ∈ R) :
    (tells S G hR hall).v r.i = r.v ∧ (tells S G hR hall).c r.i = r.c ∧ (tells S G hR hall).blk r.i = r.blk := by
  obtain ⟨a, b, h⟩ := List.append_of_mem hr
  have e := rec_at G.dif h
  exact ⟨by show (recOf R r.i).v = _; rw [e], by show (recOf R r.i).c = _; rw [e], by show (recOf R r.i).blk = _; rw [e]⟩
theorem drawG_ok {chk : Array Oper → Bool} {L : Array Oper → List Nat} (hk : ∀ ops, chk ops = true → statB ops N = true ∧ planB ops 0 (L ops) = true) (hm : P.follows .mixedOrders = true) (hX : ExtOk P X) (hC : CallOk P call) : DrawOk P N (evDrawG chk L P X call N) := by
  intro ops sl h nx sl' h' nx' e
  unfold evDrawG at e
  cases hb : chk ops with
  | false => rw [hb, cond_false] at e; cases e
  | true =>
    rw [hb, cond_true] at e
    obtain ⟨hb1, hb2⟩ := hk ops hb
    have S := stat_is hb1
    split at e
    · rename_i rs2 sF he
      cases e
      obtain ⟨R, G, hR, hall⟩ := plan_good (P := P) (X := X) (call := call) S (L ops) 0 [] rs2 _ sF he hb2 (fun j => by simp) good_nil trivial
      have hnx := G.nx
      refine ⟨hnx, fun F n id ρ a w Q hF hD hR0 hS hf hQ => wpIn_region_draw fun t => ?_⟩
      have hsch := schedule_sched hm (waits_is S) t
      refine drawn_run hF hD hX hC (tells S G hR hall) (ρ0 := ρ) (a0 := a) (w0 := w) ?_ _ (fun _ => False) ρ h.get a _ hsch ?_
      · intro S' ρ1 G1 a1 w1 hall' I
        obtain ⟨k, c1, c2, c3, c4⟩ := I.cnt
        -- all of the third kind are done
        have at_ : ∀ i, i < ops.size → ∃ a r b, R = a ++ r :: b ∧ r.i = i ∧ numL ops R i = cntL ops b := fun i hi => by
          obtain ⟨r, hr, rfl⟩ := hall i hi
          obtain ⟨a, b, h⟩ := List.append_of_mem hr
          exact ⟨a, r, b, h, rfl, num_at G.dif h⟩
        have hk : k = cntL ops R := by
          rcases Nat.lt_trichotomy k (cntL ops R) with hlt | heq | hgt
          · exfalso
            obtain ⟨c, q, d, h1, h2, h3⟩ := cnt_full R k hlt
            have hq : q ∈ R := by rw [h1]; simp
            have h4 := (c1 q.i (G.ids q hq) (chB_is.1 h2)).1 (hall' _ (G.ids q hq))
            have h5 : numL ops R q.i < k := h4
            rw [num_at G.dif h1] at h5; omega
          · exact heq
          · exfalso
            obtain ⟨l, hl, hl2, hln⟩ := c2 (cntL ops R) hgt
            obtain ⟨c, q, d, h1, rfl, h3⟩ := at_ l hl
            have h4 : numL ops R q.i = cntL ops R := hln
            have h5 := cnt_lt (ops := ops) (a := c) (b := d) (chB_is.2 hl2)
            rw [← h1] at h5; omega
        subst hk
        have hle : Heap.le sF.st.get G1 := by
          intro id x e
          rcases G.mem id x e with ⟨j, K, tl, h1, h2⟩ | ⟨r, hr, h1, h2⟩
          · have h3 : (KL ops h R)[0]? = some (j, K) := by rw [← G.Ks, h1]; rfl
            have h4 := (KL_get R 0 j K h3).2.1
            rw [Nat.sub_zero] at h4
            refine c3 id x ?_
            show (Kf ops h R (cntL ops R)).get id = some x
            rw [← h4]; exact h2
          · obtain ⟨h3, h4⟩ := G.pnd r hr
            obtain ⟨_, t2, t3⟩ := tells_v S G hR hall h3
            have := c4 r.i (G.ids r h3) (hall' _ (G.ids r h3)) (fun l hl hl2 _ hp => by
              obtain ⟨q, hq, rfl⟩ := hall l hl
              have h5 := h4 q hq (chB_is.2 hl2)
              rw [hp.2] at h5; cases h5) x (by rw [t3]; exact h2)
            rw [t2, h1] at this
            exact this
        refine hQ ρ1 a1 w1 (I.stp.sub hle) ⟨I.size, fun t v e => ?_⟩ I.defs
        by_cases hex : ∃ r ∈ R, opD ops r.i = some t
        · obtain ⟨r, hr, ht⟩ := hex
          have h1 := G.sl1 r hr t ht
          rw [h1] at e; cases e
          have h2 := I.out r.i (hall' _ (G.ids r hr)) (G.ids r hr) t ht
          rw [(tells_v S G hR hall hr).1] at h2
          exact ⟨(S.dst r.i (G.ids r hr) t ht).1, h2⟩
        · have hno : ∀ r ∈ R, opD ops r.i ≠ some t := fun r hr ht => hex ⟨r, hr, ht⟩
          rw [G.sl2 t hno] at e
          exact I.own t v (fun k hk _ hd => by obtain ⟨q, hq, rfl⟩ := hall k hk; exact hno q hq hd) e
      · have hw : Stp ρ ρ h.get h.get w { w with drawn := w.drawn + 1 } nx nx := Stp.same hR0 rfl rfl rfl rfl
        exact {
          stp := stp_le hw hnx
          size := hS.size
          defs := rfl
          own := fun t v _ e => hS.get t v e
          out := fun i hi => hi.elim
          fr := fun i hi _ id h1 h2 => by
            obtain ⟨g1, g2, g3⟩ := (tells S G hR hall).rng i hi
            exact hf id (Nat.le_trans g1 h1) (Nat.lt_of_lt_of_le h2 g3)
          cnt := ⟨0, fun i _ _ => ⟨fun h => h.elim, fun h => absurd h (Nat.not_lt_zero _)⟩, fun j hj => absurd hj (Nat.not_lt_zero _), fun id x e => by rw [(tells S G hR hall).kst] at e; exact e, fun i _ h => h.elim⟩
          dwn := fun i j h => h.elim }
    · cases e
theorem draw_ok (hm : P.follows .mixedOrders = true) (hX : ExtOk P X) (hC : CallOk P call) : DrawOk P N (evDraw P X call N) :=
  drawG_ok (chk := fun ops => statB ops N && planB ops 0 (planL ops)) (L := planL) (fun ops h => by rw [Bool.and_eq_true] at h; exact h) hm hX hC
/-- The calls of a closed run. -/
noncomputable def evC (P : Program) (X K : Caller) (n : Nat) : Caller := evCall P X K (fun call N => evDraw P X call N) n
theorem evC_ok {K : Caller} (hm : P.follows .mixedOrders = true) (hX : ExtOk P X) (hK : CallOk P K) (n : Nat) : CallOk P (evC P X K n) :=
  evCall_run hX hK _ (fun call N hC => draw_ok hm hX hC) n
def none_ : Map := fun _ => none
/-- A call out of no memory, within whatever world. -/
theorem evC_call {K : Caller} (hm : P.follows .mixedOrders = true) (hX : ExtOk P X) (hK : CallOk P K) {n : Nat} {f : FuncId} {l : AVs} {v : AV} {h' : T AO} {nx' : Nat} (e : evC P X K n (.fn f) l .nil 0 = .ok v h' nx') {m : List Value} (hl : VsRel none_ l m) (F : Fence) (k : Nat)
    (hF : ∀ f, F.fn f) (hD : F.depth = none) (hro : F.round = none) (w : World) : CallsIn F k P f m.toArray w fun e w' => ∃ ρ' u, Stp none_ ρ' nilH.get h'.get w w' 0 nx' ∧ e = .returned u ∧ VRel ρ' v u :=
  ((evC_ok hm hX hK n).fn _ _ _ _ _ _ _ e).2 F k none_ w m hF hD hro (rel_nil _ _) hl (fun _ _ _ => rfl)
/-- A call of a function without parameters whose answer is a bool: known. -/
noncomputable def knownB (f : FuncId) (b : Bool) : Caller := fun t l h nx => match t, l with
  | .fn g, .nil => bif Nat.beq g f then .ok (.b b) h nx else .bad
  | _, _ => .bad
theorem knownB_ok {K : Caller} (hm : P.follows .mixedOrders = true) (hX : ExtOk P X) (hK : CallOk P K) {n : Nat} {f : FuncId} {b : Bool} {h' : T AO} {nx' : Nat} (e : evC P X K n (.fn f) .nil .nil 0 = .ok (.b b) h' nx') : CallOk P (knownB f b) := by
  constructor
  · intro g l h nx v h1 nx1 e1
    unfold knownB at e1
    split at e1
    · rename_i t' l' g' ht
      cases ht
      obtain ⟨h2, e2⟩ := bif_ok e1
      rw [Nat.beq_eq] at h2
      subst h2
      cases e2
      refine ⟨Nat.le_refl _, fun F k ρ w m hF hD hro hR hl hf => ?_⟩
      simp only [VsRel] at hl; subst hl
      refine CallsIn.mono (evC_call hm hX hK e (m := []) rfl F k hF hD hro w) ?_
      rintro e w' ⟨ρ', u, s, rfl, hv⟩
      have hk : ∀ b, b < w.heap.size → w'.heap[b]? = w.heap[b]? := fun b hb => s.keep b hb fun id o C e1 => (nilH_get e1).elim
      refine ⟨ρ, u, ⟨⟨fun id o e1 => ?_, hR.inj⟩, .refl _, fun _ _ => rfl, Nat.le_refl _, s.os, s.tape, s.output, s.size, fun b hb _ => hk b hb, fun id o b C e1 e2 => .inr ⟨id, o, C, e1, e2⟩⟩, rfl, hv⟩
      obtain ⟨b, C, ob, k1, k2, k3⟩ := hR.has id o e1
      exact ⟨b, C, ob, k1, by rw [hk b (Array.getElem?_eq_some_iff.1 k2).1]; exact k2, k3⟩
    · cases e1
  · intro g l h nx v h1 nx1 e1; cases e1
def isT : R → Bool | .ok (.b true) _ _ => true | _ => false
theorem isT_is {r : R} (h : isT r = true) : ∃ h' nx', r = .ok (.b true) h' nx' := by
  unfold isT at h
  split at h
  · exact ⟨_, _, rfl⟩
  · cases h
end Go.Proofs.YtmhnnfponloihaaDoor
