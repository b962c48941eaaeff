/- A closed run, run quickly: functions, calls. No Go program in this text. -/
import Derived.Test.YtmhnnfponloihaaDoorFvD
set_option linter.unusedSimpArgs false
set_option linter.unusedVariables false
namespace Go.Proofs.YtmhnnfponloihaaDoor
open Go.RowKit
variable {P : Program} {N : Nat} {G : FuncId → Bool} (hG : ∀ g, G g = true → fnOk P g = true)

noncomputable def cRes (P : Program) : List ResultVar → Hd (T AV → T AO → Option AVs)
  | [] => .mk fun _ _ => some .nil
  | .tmp t :: l => (T.getB t).bind fun g => (cRes P l).bind fun k => .mk fun sl h => onO (g sl) none fun v => onO (k sl h) none fun m => some (.cons v m)
  | .cell t ty :: l => (T.getB t).bind fun g => (cLd P ty).bind fun ld => (cRes P l).bind fun k => .mk fun sl h => onO (g sl) none fun x => onO (ldF ld h x) none fun v => onO (k sl h) none fun m => some (.cons v m)
theorem cRes_eq : ∀ (l : List ResultVar) (sl : T AV) (h : T AO), (cRes P l).un sl h = evRes P sl h l
  | [], _, _ => rfl
  | .tmp t :: l, sl, h => by
    simp only [cRes, evRes, Hd.bind_eq, Hd.un_mk, cRes_eq l, T.get_def]
    cases (T.getB t).un sl with
    | none => rfl
    | some v => simp only [onO_some]; cases evRes P sl h l <;> rfl
  | .cell t ty :: l, sl, h => by
    simp only [cRes, evRes, Hd.bind_eq, Hd.un_mk, cRes_eq l, T.get_def, ldF_eq]
    cases (T.getB t).un sl with
    | none => rfl
    | some x =>
      simp only [onO_some]
      cases evLoad P h ty x with
      | none => rfl
      | some v => simp only [onO_some]; cases evRes P sl h l <;> rfl
noncomputable def cRet (P : Program) (l : List ResultVar) : Hd (T AV → T AO → Option AV) :=
  match l with
  | [.tmp t] => (T.getB t).bind fun g => .mk fun sl _ => g sl
  | l => (cRes P l).bind fun k => .mk fun sl h => onO (k sl h) none fun m => some (evRet m)
theorem cRet_eq (l : List ResultVar) (sl : T AV) (h : T AO) : (cRet P l).un sl h = (evRes P sl h l).map evRet := by
  unfold cRet
  split
  · simp only [Hd.bind_eq, Hd.un_mk, evRes, T.get_def]
    cases (T.getB _).un sl <;> rfl
  · simp only [Hd.bind_eq, Hd.un_mk, cRes_eq]
    cases evRes P sl h l <;> rfl
noncomputable def ofF (l : AVs) : Nat → T AV → T AV := AVs.rec (motive_1 := fun _ => PUnit.{1}) (motive_2 := fun _ => Nat → T AV → T AV) (fun _ => ⟨⟩) (fun _ _ => ⟨⟩) (fun _ _ => ⟨⟩) (fun _ _ => ⟨⟩) ⟨⟩ (fun _ _ _ _ => ⟨⟩) (fun _ _ _ => ⟨⟩) (fun _ _ => ⟨⟩) ⟨⟩ (fun _ _ _ => ⟨⟩) ⟨⟩ (fun _ => ⟨⟩) (fun _ _ _ => ⟨⟩) (fun _ _ _ => ⟨⟩) ⟨⟩ (fun _ => ⟨⟩) ⟨⟩ (fun _ _ => ⟨⟩) (fun _ _ => ⟨⟩) (fun _ t => t) (fun a _ _ ih k t => (t.put k a).seq fun t => ih (Nat.succ k) t) l
theorem ofF_eq : ∀ (l : AVs) (k : Nat) (t : T AV), ofF l k t = ofA l k t
  | .nil, _, _ => rfl
  | .cons a l, k, t => by
    show (t.put k a).seq (fun t => ofF l (Nat.succ k) t) = _
    simp only [ofA, T.seq_eq, ofF_eq l]
theorem lenF_eq : ∀ l : AVs, lenF l = l.len
  | .nil => rfl
  | .cons a l => congrArg Nat.succ (lenF_eq l)
abbrev FnF := Caller → Nat → AVs → T AO → Nat → R
/-- A function. -/
noncomputable def cFn (P : Program) (X : Caller) (G : FuncId → Bool) (f : FuncId) : Hd FnF :=
  match P.funcs[f]? with
  | none => .mk fun _ _ _ _ _ => .bad
  | some fn => match fn.body with
    | none => .mk fun _ _ _ _ _ => .bad
    | some c => (cC P X G fn.ntmps true c).bind fun g => (cRet P fn.results.toList).bind fun r => .mk fun call n l h nx => onB (Nat.ble (lenF l) fn.ntmps)
        ((g call n (ofF l 0 .nil) h nx).on .bad fun x sl h nx => x.on (onO (r sl h) .bad fun v => .ok v h nx) (onO (r sl h) .bad fun v => .ok v h nx) fun _ => .bad) .bad
include hG in
theorem cFn_run {X call : Caller} (hm : P.follows .mixedOrders = true) (hX : ExtOk P X) (hC : CallOk P call) {n : Nat} {f : FuncId} {l : AVs} {h h' : T AO} {nx nx' : Nat} {v : AV} (e' : (cFn P X G f).un call n l h nx = .ok v h' nx') :
    nx ≤ nx' ∧ ∀ (F : Fence) (n : Nat) ρ w m, (∀ f, F.fn f) → F.depth = none → F.round = none → Rel ρ h.get w → VsRel ρ l m → Fr ρ nx nx' →
      CallsIn F n P f m.toArray w fun e w' => ∃ ρ' u, Stp ρ ρ' h.get h'.get w w' nx nx' ∧ e = .returned u ∧ VRel ρ' v u := by
  unfold cFn at e'
  split at e'
  · cases e'
  · rename_i fn hfn
    split at e'
    · cases e'
    · rename_i c hc
      simp only [Hd.bind_eq, Hd.un_mk, onB_eq, lenF_eq, ofF_eq, cRet_eq] at e'
      obtain ⟨hlen, e⟩ := bif_ok e'
      rw [Nat.ble_eq] at hlen
      cases e1 : (cC P X G fn.ntmps true c).un call n (ofA l 0 .nil) h nx with
      | bad => simp only [e1] at e; cases e
      | ok x sl1 h1 nx1 =>
        simp only [e1] at e
        obtain ⟨l1, r1⟩ := cC_ok hG hm hX hC true n c _ _ _ _ _ _ _ e1
        have fin : ∀ y, (XT.on y (onO ((evRes P sl1 h1 fn.results.toList).map evRet) R.bad fun v => .ok v h1 nx1) (onO ((evRes P sl1 h1 fn.results.toList).map evRet) R.bad fun v => .ok v h1 nx1) fun _ => .bad) = .ok v h' nx' → h1 = h' ∧ nx1 = nx' ∧ (∃ m, evRes P sl1 h1 fn.results.toList = some m ∧ evRet m = v) ∧ (y = XT.nrm ∨ y = .ret) := by
          intro y ey
          have key : onO ((evRes P sl1 h1 fn.results.toList).map evRet) R.bad (fun v => .ok v h1 nx1) = .ok v h' nx' → h1 = h' ∧ nx1 = nx' ∧ (∃ m, evRes P sl1 h1 fn.results.toList = some m ∧ evRet m = v) := by
            intro k
            cases hm : evRes P sl1 h1 fn.results.toList with
            | none => rw [hm] at k; cases k
            | some m => rw [hm] at k; cases k; exact ⟨rfl, rfl, m, rfl, rfl⟩
          cases y with
          | ex _ => cases ey
          | nrm => obtain ⟨a, b, c⟩ := key ey; exact ⟨a, b, c, .inl rfl⟩
          | ret => obtain ⟨a, b, c⟩ := key ey; exact ⟨a, b, c, .inr rfl⟩
        obtain ⟨rfl, rfl, ⟨m, hm, rfl⟩, hx⟩ := fin x e
        refine ⟨l1, fun F k ρ w mm hF hD hro hR hmm hf => callsIn_of_wp_marks hfn hc (hF f) ?_ hro⟩
        refine r1 F k w.heap.size ρ _ w _ hF hD (fun _ => hro) hR (start_rel hmm hlen) hf (fun _ => Mk.nil (Nat.le_refl _)) fun ρ' a' w' hs hS hd => ?_
        have hl : LeavesInM F k P fn a'.tmps (fun e w' => ∃ ρ' u, Stp ρ ρ' h.get h1.get w w' nx nx1 ∧ e = .returned u ∧ VRel ρ' (evRet m) u) a'.defers .returning w' :=
          leaves_marks (Nat.le_refl _) (fun w2 hs2 => by
            obtain ⟨u, hu, hv⟩ := results_run (P := P) hs2.rel hS hm
            exact ⟨u, hu, ρ', u, hs2, rfl, hv⟩) a'.defers w' hs (hd rfl)
        rcases hx with rfl | rfl
        · exact hl
        · exact hl
/-- A round of a range over a function. -/
noncomputable def cRound (P : Program) (X : Caller) (G : FuncId → Bool) (call : Caller) (n : Nat) (id : Nat) (l : AVs) (h : T AO) (nx : Nat) : R :=
  match h.get id with
  | some (.lp ps asg bd sl N none) => bif Nat.beq ps.size l.len && ps.toList.all (fun t => Nat.ble (Nat.succ t) N) then
      (h.del id).seq fun h0 => match (cC P X G N false asg).bind fun g => g call n (putPs ps.toList l sl) h0 nx with
      | .ok .nrm sl1 h1 nx1 => match (cC P X G N false bd).bind fun g => g call n sl1 h1 nx1 with
        | .ok x _ h2 nx2 => (h2.put id (.lp ps asg bd sl N (pendOf x))).seq fun h3 => .ok (.b (pendOf x).isNone) h3 nx2
        | .bad => .bad
      | _ => .bad
    else .bad
  | _ => .bad
include hG in
theorem cRound_run {X call : Caller} (hmx : P.follows .mixedOrders = true) (hX : ExtOk P X) (hC : CallOk P call) {n id : Nat} {l : AVs} {h h' : T AO} {nx nx' : Nat} {v : AV} (e : cRound P X G call n id l h nx = .ok v h' nx') :
    nx ≤ nx' ∧ ∀ (F : Fence) (n : Nat) ρ w m, (∀ f, F.fn f) → F.depth = none → Rel ρ h.get w → VsRel ρ l m → Fr ρ nx nx' → ∀ b C, ρ id = some (b, C) →
      ∃ f tmps asg bd, (Instr.yield b m.toArray).run P w = .ok (.round b f tmps asg bd) w ∧ RoundIn F n P b f tmps asg bd w fun e w' => ∃ ρ' u, Stp ρ ρ' h.get h'.get w w' nx nx' ∧ e = .returned u ∧ VRel ρ' v u := by
  unfold cRound at e
  split at e
  · rename_i ps asg bd sl N hid
    obtain ⟨hg, e2⟩ := bif_ok e
    clear e
    rw [Bool.and_eq_true, Nat.beq_eq] at hg
    obtain ⟨hg1, hg2⟩ := hg
    rw [T.seq_eq] at e2
    simp only [Hd.bind_eq] at e2
    split at e2
    · rename_i sl1 h1 nx1 ea
      split at e2
      · rename_i x sl2 h2 nx2 eb
        rw [T.seq_eq] at e2
        cases e2
        obtain ⟨l1, r1⟩ := cC_ok hG hmx hX hC false n _ _ _ _ _ _ _ _ ea
        obtain ⟨l2, r2⟩ := cC_ok hG hmx hX hC false n _ _ _ _ _ _ _ _ eb
        refine ⟨Nat.le_trans l1 l2, fun F k ρ w m hF hD hR hm hf b C hb => ?_⟩
        obtain ⟨b', C', ob, g1, g2, r, rfl, q1, q2, q3, q4, q5, q6, q7⟩ := hR.has id _ hid
        rw [hb] at g1; cases g1
        have hlen := hm.len
        have hblt := (Array.getElem?_eq_some_iff.1 g2).1
        refine ⟨r.fn, _, r.assign, r.body, run_yield g2 (by rw [q1]; simp; omega), roundIn_of_wpIn (hF _) ?_⟩
        have hS0 : SRel N ρ sl { tmps := r.tmps, defers := [] } := ⟨q6, q7⟩
        have hS1 := putPs_rel hS0 hm hg2
        have htm : (r.params.zip m.toArray).foldl (fun tmps (t, a) => tmps.setIfInBounds t a) r.tmps = (ps.toList.zip m).foldl (fun tmps (x : Nat × Value) => tmps.setIfInBounds x.1 x.2) r.tmps := by
          rw [q1, ← Array.foldl_toList, Array.toList_zip]
        have s0 : Stp ρ ρ h.get (h.del id).get w w nx nx := Stp.del hR hid hb w rfl rfl rfl rfl fun _ _ => rfl
        have hn0 : ∀ j o C', (h.del id).get j = some o → ρ j ≠ some (b, C') := fun j o C' e1 e2 => by
          rw [T.get_del] at e1
          split at e1
          · cases e1
          · rename_i hj
            exact hj (hR.inj j id o _ b C' C e1 hid e2 hb)
        rw [q2, q3]
        refine r1 (F.inRound b) k 0 ρ _ w _ hF hD (fun h => by cases h) s0.rel (by rw [htm]; exact hS1) (hf.left l2) (fun h => by cases h) fun ρ1 a1 w1 s1 S1 _ => ?_
        have s01 := s0.trans s1
        have hn1 := s1.away hblt hn0
        have k1 : w1.heap[b]? = some (.loop r) := by rw [s1.keep b hblt hn0]; exact g2
        have s02 : Stp ρ ρ1 h.get h1.get w (w1.putObj b (.loop { r with state := .busy })) nx nx1 := s01.poke (.inr ⟨id, _, C, hid, hb⟩) hn1 rfl rfl rfl World.putObj_size fun k hk => World.putObj_heap_other hk
        have hb1lt := (Array.getElem?_eq_some_iff.1 k1).1
        refine ⟨_, run_beginRound k1 (by rw [q4]; rfl), ?_⟩
        refine r2 (F.inRound b) k 0 ρ1 a1 _ _ hF hD (fun h => by cases h) s02.rel S1 (s01.fr hf) (fun h => by cases h) fun ρ2 a2 w3 s2 S2 _ => ?_
        have s03 := s02.trans s2
        have hb2lt : b < (w1.putObj b (.loop { r with state := .busy })).heap.size := by rw [World.putObj_size]; exact hb1lt
        have hn2 := s2.away hb2lt hn1
        have k2 : w3.heap[b]? = some (.loop { r with state := .busy }) := by
          rw [s2.keep b hb2lt hn1]
          simp [World.putObj, hb1lt]
        have hb3lt := (Array.getElem?_eq_some_iff.1 k2).1
        have fin : ∀ (p : Option (Option Nat)), (Instr.endRound b (p.map jmp)).run P w3 = .ok (.bool p.isNone) (w3.putObj b (.loop { r with state := if (p.map jmp).isNone then .ready else .done, pending := p.map jmp })) ∧
            Stp ρ ρ2 h.get (h2.put id (.lp ps asg bd sl N p)).get w (w3.putObj b (.loop { r with state := if (p.map jmp).isNone then .ready else .done, pending := p.map jmp })) nx nx' := fun p => by
          refine ⟨by rw [run_endRound _ k2]; cases p <;> rfl, Stp.back (o := .loop { r with state := if (p.map jmp).isNone then .ready else .done, pending := p.map jmp }) s03 hid hb hn2 ⟨_, rfl, q1, q2, q3, by cases p <;> rfl, rfl, q6, fun t v e => ⟨(q7 t v e).1, (q7 t v e).2.mono s03.le⟩⟩ rfl rfl rfl World.putObj_size (by simp [World.putObj, hb3lt]) fun k hk => World.putObj_heap_other hk⟩
        cases x with
        | nrm => exact ⟨_, _, (fin none).1, ρ2, _, (fin none).2, rfl, rfl⟩
        | ret => exact ⟨_, _, (fin (some none)).1, ρ2, _, (fin (some none)).2, rfl, rfl⟩
        | ex j => exact ⟨_, _, (fin (some (some j))).1, ρ2, _, (fin (some (some j))).2, rfl, rfl⟩
      · cases e2
    · cases e2
  · cases e
/-- A call. -/
noncomputable def cCall1 (P : Program) (X : Caller) (G : FuncId → Bool) (call : Caller) (n : Nat) (t : Tgt) (l : AVs) (h : T AO) (nx : Nat) : R :=
  Tgt.rec (motive := fun _ => R) (fun f => (cFn P X G f).bind fun g => g call n l h nx) (fun id => cRound P X G call n id l h nx) t
/-- K: calls that are known already. -/
noncomputable def fvC (P : Program) (X : Caller) (G : FuncId → Bool) (K : Caller) (n : Nat) : Caller :=
  Nat.rec (motive := fun _ => Caller) (fun _ _ _ _ => .bad) (fun n call t l h nx => (K t l h nx).on (cCall1 P X G call n t l h nx) fun v h nx => .ok v h nx) n
include hG in
theorem fvC_ok {X K : Caller} (hm : P.follows .mixedOrders = true) (hX : ExtOk P X) (hK : CallOk P K) : ∀ n, CallOk P (fvC P X G K n)
  | 0 => by constructor <;> (intro f l h nx v h' nx' e; cases e)
  | n + 1 => by
    have key : ∀ {t l h nx v h' nx'}, fvC P X G K (n + 1) t l h nx = .ok v h' nx' → K t l h nx = .ok v h' nx' ∨ cCall1 P X G (fvC P X G K n) n t l h nx = .ok v h' nx' := by
      intro t l h nx v h' nx' e
      have e' : (K t l h nx).on (cCall1 P X G (fvC P X G K n) n t l h nx) (fun v h nx => R.ok v h nx) = .ok v h' nx' := e
      cases hk : K t l h nx with
      | ok a b c => rw [hk] at e'; exact .inl e'
      | bad => rw [hk] at e'; exact .inr e'
    constructor
    · intro f l h nx v h' nx' e
      rcases key e with e | e
      · exact hK.fn _ _ _ _ _ _ _ e
      · have e : (cFn P X G f).bind (fun g => g (fvC P X G K n) n l h nx) = .ok v h' nx' := e
        rw [Hd.bind_eq] at e
        exact cFn_run hG hm hX (fvC_ok hm hX hK n) e
    · intro id l h nx v h' nx' e
      rcases key e with e | e
      · exact hK.yl _ _ _ _ _ _ _ e
      · exact cRound_run hG hm hX (fvC_ok hm hX hK n) (n := n) e
include hG in
/-- A call out of no memory, within whatever world. -/
theorem fvC_call {X K : Caller} (hm : P.follows .mixedOrders = true) (hX : ExtOk P X) (hK : CallOk P K) {n : Nat} {f : FuncId} {l : AVs} {v : AV} {h' : T AO} {nx' : Nat} (e : fvC P X G K n (.fn f) l .nil 0 = .ok v h' nx') {m : List Value} (hl : VsRel none_ l m) (F : Fence) (k : Nat)
    (hF : ∀ f, F.fn f) (hD : F.depth = none) (hro : F.round = none) (w : World) : CallsIn F k P f m.toArray w fun e w' => ∃ ρ' u, Stp none_ ρ' nilH.get h'.get w w' 0 nx' ∧ e = .returned u ∧ VRel ρ' v u :=
  ((fvC_ok hG hm hX hK n).fn _ _ _ _ _ _ _ e).2 F k none_ w m hF hD hro (rel_nil _ _) hl (fun _ _ _ => rfl)
include hG in
theorem knownF_ok {X K : Caller} (hm : P.follows .mixedOrders = true) (hX : ExtOk P X) (hK : CallOk P K) {n : Nat} {f : FuncId} {b : Bool} {h' : T AO} {nx' : Nat} (e : fvC P X G K n (.fn f) .nil .nil 0 = .ok (.b b) h' nx') : CallOk P (knownB f b) := by
  constructor
  · intro g l h nx v h1 nx1 e1
    unfold knownB at e1
    split at e1
    · rename_i t' l' g' ht
      cases ht
      obtain ⟨h2, e2⟩ := bif_ok e1
      rw [Nat.beq_eq] at h2
      subst h2
      cases e2
      refine ⟨Nat.le_refl _, fun F k ρ w m hF hD hro hR hl hf => ?_⟩
      simp only [VsRel] at hl; subst hl
      refine CallsIn.mono (fvC_call hG hm hX hK e (m := []) rfl F k hF hD hro w) ?_
      rintro e w' ⟨ρ', u, s, rfl, hv⟩
      have hk : ∀ b, b < w.heap.size → w'.heap[b]? = w.heap[b]? := fun b hb => s.keep b hb fun id o C e1 => (nilH_get e1).elim
      refine ⟨ρ, u, ⟨⟨fun id o e1 => ?_, hR.inj⟩, .refl _, fun _ _ => rfl, Nat.le_refl _, s.os, s.tape, s.output, s.size, fun b hb _ => hk b hb, fun id o b C e1 e2 => .inr ⟨id, o, C, e1, e2⟩⟩, rfl, hv⟩
      obtain ⟨b, C, ob, k1, k2, k3⟩ := hR.has id o e1
      exact ⟨b, C, ob, k1, by rw [hk b (Array.getElem?_eq_some_iff.1 k2).1]; exact k2, k3⟩
    · cases e1
  · intro g l h nx v h1 nx1 e1; cases e1
noncomputable def isTF (r : R) : Bool := r.on false fun v _ _ => v.onB false fun b => b
theorem isTF_is {r : R} (h : isTF r = true) : ∃ h' nx', r = .ok (.b true) h' nx' := by
  cases r with
  | bad => cases h
  | ok v h' nx' =>
    cases v <;> try (cases h; done)
    rename_i b
    have : b = true := h
    subst this
    exact ⟨_, _, rfl⟩
end Go.Proofs.YtmhnnfponloihaaDoor
