/- A closed run, run quickly: code, functions. No Go program in this text. -/
import Derived.Test.YtmhnnfponloihaaDoorFvC
set_option linter.unusedSimpArgs false
set_option linter.unusedVariables false
namespace Go.Proofs.YtmhnnfponloihaaDoor
open Go.RowKit
variable {P : Program} {N : Nat} {G : FuncId → Bool} (hG : ∀ g, G g = true → fnOk P g = true)

/-- What it is that one code's answer says. -/
def C1Ok (P : Program) (N : Nat) (q : Bool) (c : Code) (f : T AV → T AO → Nat → RC) : Prop :=
  ∀ sl h nx x sl' h' nx', f sl h nx = .ok x sl' h' nx' → nx ≤ nx' ∧ ∀ (F : Fence) (n B : Nat) ρ a w (Q : Exit → Act → World → Prop), (∀ f, F.fn f) → F.depth = none → (q = true → F.round = none) → Rel ρ h.get w → SRel N ρ sl a → Fr ρ nx nx' → (q = true → Mk B h.get ρ w a.defers) →
    (∀ ρ' a' w', Stp ρ ρ' h.get h'.get w w' nx nx' → SRel N ρ' sl' a' → (q = true → Mk B h'.get ρ' w' a'.defers) → Q x.exit a' w') → c.wpIn F n P Q a w
noncomputable def lpF (f : T AV → T AO → Nat → RC) (n : Nat) : T AV → T AO → Nat → RC :=
  Nat.rec (motive := fun _ => T AV → T AO → Nat → RC) (fun _ _ _ => .bad) (fun _ ih sl h nx => (f sl h nx).on .bad fun e sl h nx => e.on (ih sl h nx) (.ok .ret sl h nx) fun j => .ok (.ex j) sl h nx) n
theorem lpF_succ (f : T AV → T AO → Nat → RC) (n : Nat) (sl : T AV) (h : T AO) (nx : Nat) : lpF f (n + 1) sl h nx = (f sl h nx).on .bad fun e sl h nx => e.on (lpF f n sl h nx) (.ok .ret sl h nx) fun j => .ok (.ex j) sl h nx := rfl
abbrev CF := Caller → Nat → T AV → T AO → Nat → RC
noncomputable def rsC (r : RS) : RC := r.on .bad fun sl h nx => .ok .nrm sl h nx
noncomputable def cC (P : Program) (X : Caller) (G : FuncId → Bool) (N : Nat) (q : Bool) : Code → Hd CF
  | .skip => .mk fun _ _ sl h nx => .ok .nrm sl h nx
  | .label _ => .mk fun _ _ sl h nx => .ok .nrm sl h nx
  | .exit id => .mk fun _ _ sl h nx => .ok (.ex id) sl h nx
  | .ret => .mk fun _ _ sl h nx => .ok .ret sl h nx
  | .seq x y => (cC P X G N q x).bind fun a => (cC P X G N q y).bind fun b => .mk fun call n sl h nx => (a call n sl h nx).on .bad fun e sl h nx => e.on (b call n sl h nx) (.ok .ret sl h nx) fun j => .ok (.ex j) sl h nx
  | .cond c x y => (cX c).bind fun g => (cC P X G N q x).bind fun a => (cC P X G N q y).bind fun b => .mk fun call n sl h nx => onO (g sl) .bad fun v => v.onB .bad fun t => onB t (a call n sl h nx) (b call n sl h nx)
  | .block id b => (cC P X G N q b).bind fun a => .mk fun call n sl h nx => (a call n sl h nx).on .bad fun e sl h nx => e.on (.ok .nrm sl h nx) (.ok .ret sl h nx) fun j => onB (Nat.beq j id) (.ok .nrm sl h nx) (.ok (.ex j) sl h nx)
  | .loop b => (cC P X G N q b).bind fun a => .mk fun call n => lpF (a call n) n
  | .region _ ops d => onB d ((cDraw P X G N ops).bind fun f => .mk fun call _ sl h nx => rsC (f call sl h nx)) ((cOps P X G N ops ops.toList).bind fun f => .mk fun call _ sl h nx => rsC (f call sl h nx))
  | .rangeFunc g ps asg bd => .mk fun call _ sl h nx => onB q (evRangeF P call N g ps asg bd sl h nx) .bad
  | _ => .mk fun _ _ _ _ _ => .bad
theorem c1_seq {q : Bool} {c1 c2 : Code} {f g : T AV → T AO → Nat → RC} (h1 : C1Ok P N q c1 f) (h2 : C1Ok P N q c2 g) : C1Ok P N q (.seq c1 c2) fun sl h nx => (f sl h nx).on .bad fun e sl h nx => e.on (g sl h nx) (.ok .ret sl h nx) fun j => .ok (.ex j) sl h nx := by
  intro sl h nx x sl' h' nx' e
  cases e1 : f sl h nx with
  | bad => simp only [e1] at e; cases e
  | ok y sl1 ha nx1 =>
    simp only [e1] at e
    obtain ⟨l1, r1⟩ := h1 _ _ _ _ _ _ _ e1
    cases y with
    | nrm =>
      have e : g sl1 ha nx1 = .ok x sl' h' nx' := e
      obtain ⟨l2, r2⟩ := h2 _ _ _ _ _ _ _ e
      refine ⟨Nat.le_trans l1 l2, fun F n B ρ a w Q hF hD hro hR hS hf hM hQ => wpIn_seq (r1 F n B ρ a w _ hF hD hro hR hS (hf.left l2) hM fun ρ1 a1 w1 hs1 hS1 hd1 => ?_)⟩
      exact r2 F n B ρ1 a1 w1 Q hF hD hro hs1.rel hS1 (hs1.fr hf) hd1 fun ρ2 a2 w2 hs2 hS2 hd2 => hQ ρ2 a2 w2 (hs1.trans hs2) hS2 hd2
    | ret =>
      cases e
      exact ⟨l1, fun F n B ρ a w Q hF hD hro hR hS hf hM hQ => wpIn_seq (r1 F n B ρ a w _ hF hD hro hR hS hf hM fun ρ1 a1 w1 hs1 hS1 hd1 => hQ ρ1 a1 w1 hs1 hS1 hd1)⟩
    | ex j =>
      cases e
      exact ⟨l1, fun F n B ρ a w Q hF hD hro hR hS hf hM hQ => wpIn_seq (r1 F n B ρ a w _ hF hD hro hR hS hf hM fun ρ1 a1 w1 hs1 hS1 hd1 => hQ ρ1 a1 w1 hs1 hS1 hd1)⟩
theorem c1_cond {q : Bool} {c : Operand} {c1 c2 : Code} {f g : T AV → T AO → Nat → RC} (h1 : C1Ok P N q c1 f) (h2 : C1Ok P N q c2 g) : C1Ok P N q (.cond c c1 c2) fun sl h nx => onO (evX sl c) .bad fun v => v.onB .bad fun t => onB t (f sl h nx) (g sl h nx) := by
  intro sl h nx x sl' h' nx' e
  cases hc : evX sl c with
  | none => simp only [hc] at e; cases e
  | some v =>
    simp only [hc] at e
    cases v <;> try (cases e; done)
    rename_i t
    cases t with
    | true =>
      obtain ⟨l1, r1⟩ := h1 _ _ _ _ _ _ _ e
      exact ⟨l1, fun F n B ρ a w Q hF hD hro hR hS hf hM hQ => wpIn_cond_true (evX_rel hS hc) (r1 F n B ρ a w Q hF hD hro hR hS hf hM hQ)⟩
    | false =>
      obtain ⟨l1, r1⟩ := h2 _ _ _ _ _ _ _ e
      exact ⟨l1, fun F n B ρ a w Q hF hD hro hR hS hf hM hQ => wpIn_cond_false (evX_rel hS hc) (r1 F n B ρ a w Q hF hD hro hR hS hf hM hQ)⟩
theorem c1_block {q : Bool} {id : Nat} {c : Code} {f : T AV → T AO → Nat → RC} (h1 : C1Ok P N q c f) : C1Ok P N q (.block id c) fun sl h nx => (f sl h nx).on .bad fun e sl h nx => e.on (.ok .nrm sl h nx) (.ok .ret sl h nx) fun j => onB (Nat.beq j id) (.ok .nrm sl h nx) (.ok (.ex j) sl h nx) := by
  intro sl h nx x sl' h' nx' e
  cases e1 : f sl h nx with
  | bad => simp only [e1] at e; cases e
  | ok y sl1 ha nx1 =>
    simp only [e1] at e
    obtain ⟨l1, r1⟩ := h1 _ _ _ _ _ _ _ e1
    cases y with
    | nrm =>
      cases e
      exact ⟨l1, fun F n B ρ a w Q hF hD hro hR hS hf hM hQ => wpIn_block (r1 F n B ρ a w _ hF hD hro hR hS hf hM fun ρ1 a1 w1 hs1 hS1 hd1 => hQ ρ1 a1 w1 hs1 hS1 hd1)⟩
    | ret =>
      cases e
      exact ⟨l1, fun F n B ρ a w Q hF hD hro hR hS hf hM hQ => wpIn_block (r1 F n B ρ a w _ hF hD hro hR hS hf hM fun ρ1 a1 w1 hs1 hS1 hd1 => hQ ρ1 a1 w1 hs1 hS1 hd1)⟩
    | ex j =>
      have e : onB (Nat.beq j id) (RC.ok .nrm sl1 ha nx1) (.ok (.ex j) sl1 ha nx1) = .ok x sl' h' nx' := e
      by_cases hj : j = id
      · rw [onB_eq, beq_t hj, cond_true] at e; cases e
        refine ⟨l1, fun F n B ρ a w Q hF hD hro hR hS hf hM hQ => wpIn_block (r1 F n B ρ a w _ hF hD hro hR hS hf hM fun ρ1 a1 w1 hs1 hS1 hd1 => ?_)⟩
        simp only [XT.exit, Exit.inBlock, hj, if_true]
        exact hQ ρ1 a1 w1 hs1 hS1 hd1
      · rw [onB_eq, beq_f hj, cond_false] at e; cases e
        refine ⟨l1, fun F n B ρ a w Q hF hD hro hR hS hf hM hQ => wpIn_block (r1 F n B ρ a w _ hF hD hro hR hS hf hM fun ρ1 a1 w1 hs1 hS1 hd1 => ?_)⟩
        simp only [XT.exit, Exit.inBlock, hj, if_false]
        exact hQ ρ1 a1 w1 hs1 hS1 hd1
theorem c1_loop {q : Bool} {b : Code} {f : T AV → T AO → Nat → RC} (hb : C1Ok P N q b f) (m : Nat) : C1Ok P N q (.loop b) (lpF f m) := by
  intro sl h nx x sl' h' nx' e
  have mono : ∀ k sl h nx, lpF f k sl h nx = .ok x sl' h' nx' → nx ≤ nx' := by
    intro k
    induction k with
    | zero => intro sl h nx e; cases e
    | succ k ihk =>
      intro sl h nx e
      rw [lpF_succ] at e
      cases e1 : f sl h nx with
      | bad => simp only [e1] at e; cases e
      | ok y sl1 h1 nx1 =>
        simp only [e1] at e
        have l1 := (hb _ _ _ _ _ _ _ e1).1
        cases y with
        | nrm => exact Nat.le_trans l1 (ihk _ _ _ e)
        | ret => cases e; exact l1
        | ex j => cases e; exact l1
  refine ⟨mono m _ _ _ e, fun F n B ρ a w Q hF hD hro hR hS hf hM hQ => ?_⟩
  refine wpIn_loop_g (fun k a1 w1 => ∃ ρ1 sl1 h1 nx1, lpF f k sl1 h1 nx1 = .ok x sl' h' nx' ∧ Stp ρ ρ1 h.get h1.get w w1 nx nx1 ∧ SRel N ρ1 sl1 a1 ∧ (q = true → Mk B h1.get ρ1 w1 a1.defers)) m
    ⟨ρ, sl, h, nx, e, Stp.refl hR, hS, hM⟩ ?_
  rintro k a1 w1 ⟨ρ1, sl1, h1, nx1, ek, hs1, hS1, hd1⟩
  cases k with
  | zero => cases ek
  | succ k =>
    have hfk := hs1.fr hf
    rw [lpF_succ] at ek
    cases e2 : f sl1 h1 nx1 with
    | bad => simp only [e2] at ek; cases ek
    | ok y sl2 h2 nx2 =>
      simp only [e2] at ek
      obtain ⟨l2, r2⟩ := hb _ _ _ _ _ _ _ e2
      cases y with
      | nrm =>
        have ek : lpF f k sl2 h2 nx2 = .ok x sl' h' nx' := ek
        have l3 := mono k _ _ _ ek
        refine r2 F n B ρ1 a1 w1 _ hF hD hro hs1.rel hS1 (hfk.left l3) hd1 fun ρ2 a2 w2 hs2 hS2 hd2 => ?_
        exact ⟨k, Nat.lt_succ_self _, ρ2, sl2, h2, nx2, ek, hs1.trans hs2, hS2, hd2⟩
      | ret =>
        cases ek
        exact r2 F n B ρ1 a1 w1 _ hF hD hro hs1.rel hS1 hfk hd1 fun ρ2 a2 w2 hs2 hS2 hd2 => hQ ρ2 a2 w2 (hs1.trans hs2) hS2 hd2
      | ex j =>
        cases ek
        exact r2 F n B ρ1 a1 w1 _ hF hD hro hs1.rel hS1 hfk hd1 fun ρ2 a2 w2 hs2 hS2 hd2 => hQ ρ2 a2 w2 (hs1.trans hs2) hS2 hd2
theorem rsC_ok {r : RS} {x : XT} {sl : T AV} {h : T AO} {nx : Nat} (e : rsC r = .ok x sl h nx) : r = .ok sl h nx ∧ x = .nrm := by
  cases r with
  | bad => cases e
  | ok a b c => cases e; exact ⟨rfl, rfl⟩
include hG in
theorem cC_ok {X call : Caller} (hm : P.follows .mixedOrders = true) (hX : ExtOk P X) (hC : CallOk P call) (q : Bool) (n : Nat) : ∀ c, C1Ok P N q c ((cC P X G N q c).un call n) := by
  have bad : ∀ c, C1Ok P N q c fun _ _ _ => .bad := fun c sl h nx x sl' h' nx' e => by cases e
  intro c
  induction c with
  | skip => intro sl h nx x sl' h' nx' e; cases e; exact ⟨Nat.le_refl _, fun F n B ρ a w Q hF hD hro hR hS hf hM hQ => wpIn_skip (hQ ρ a w (Stp.refl hR) hS hM)⟩
  | label l => intro sl h nx x sl' h' nx' e; cases e; exact ⟨Nat.le_refl _, fun F n B ρ a w Q hF hD hro hR hS hf hM hQ => wpIn_label (hQ ρ a w (Stp.refl hR) hS hM)⟩
  | exit l => intro sl h nx x sl' h' nx' e; cases e; exact ⟨Nat.le_refl _, fun F n B ρ a w Q hF hD hro hR hS hf hM hQ => wpIn_exit (hQ ρ a w (Stp.refl hR) hS hM)⟩
  | ret => intro sl h nx x sl' h' nx' e; cases e; exact ⟨Nat.le_refl _, fun F n B ρ a w Q hF hD hro hR hS hf hM hQ => wpIn_ret (hQ ρ a w (Stp.refl hR) hS hM)⟩
  | seq a b iha ihb =>
    simp only [cC, Hd.bind_eq, Hd.un_mk]
    exact c1_seq iha ihb
  | cond c a b iha ihb =>
    simp only [cC, Hd.bind_eq, Hd.un_mk, cX_eq]
    exact c1_cond iha ihb
  | block id b ihb =>
    simp only [cC, Hd.bind_eq, Hd.un_mk]
    exact c1_block ihb
  | loop b ihb =>
    simp only [cC, Hd.bind_eq, Hd.un_mk]
    exact c1_loop ihb n
  | region id ops d =>
    intro sl h nx x sl' h' nx' e
    cases d with
    | true =>
      simp only [cC, onB_eq, cond_true, Hd.bind_eq, Hd.un_mk, cDraw_eq hG] at e
      obtain ⟨e1, rfl⟩ := rsC_ok e
      obtain ⟨l1, r1⟩ := drawG_ok (chk := chkF N) (L := planF) (fun ops h => chkF_is h) hm hX hC _ _ _ _ _ _ _ e1
      exact ⟨l1, fun F n B ρ a w Q hF hD hro hR hS hf hM hQ => r1 F n id ρ a w Q hF hD hR hS hf fun ρ' a' w' hs hS' hd => hQ ρ' a' w' hs hS' fun hq => by rw [hd]; exact (hM hq).stp hs⟩
    | false =>
      simp only [cC, onB_eq, cond_false, Hd.bind_eq, Hd.un_mk, cOps_eq hG] at e
      obtain ⟨e1, rfl⟩ := rsC_ok e
      exact ⟨evOps_le e1, fun F n B ρ a w Q hF hD hro hR hS hf hM hQ => wpIn_region_list (evOps_run hF hD hX hC e1 hR hS hf fun ρ' a' w' hs hS' hd => hQ ρ' a' w' hs hS' fun hq => by rw [hd]; exact (hM hq).stp hs)⟩
  | rangeFunc f ps s b =>
    intro sl h nx x sl' h' nx' e
    cases q with
    | false => simp only [cC, Hd.un_mk, onB_eq, cond_false] at e; cases e
    | true =>
      simp only [cC, Hd.un_mk, onB_eq, cond_true] at e
      obtain ⟨l1, r1⟩ := rangeF_run hC e
      exact ⟨l1, fun F n B ρ a w Q hF hD hro hR hS hf hM hQ => r1 F n B ρ a w Q hF hD (hro rfl) hR hS hf (hM rfl) fun ρ' a' w' hs hS' hd => hQ ρ' a' w' hs hS' fun _ => hd⟩
  | scope b => exact bad _
  | goto l => exact bad _
  | refuse s => exact bad _
end Go.Proofs.YtmhnnfponloihaaDoor
