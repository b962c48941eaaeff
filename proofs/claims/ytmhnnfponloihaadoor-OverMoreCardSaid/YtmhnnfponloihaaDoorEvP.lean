/- Code, calls of a closed run. No Go program in this text. -/
import Derived.Test.YtmhnnfponloihaaDoorEvO
import Derived.RangeFuncLeaves
import Derived.RangeFuncRecord
set_option linter.unusedSimpArgs false
set_option linter.unusedVariables false
namespace Go.Proofs.YtmhnnfponloihaaDoor
open Go.RowKit
variable {P : Program} {N : Nat}

/-- How code is left. -/
inductive XT where
  | nrm
  | ret
  | ex (id : Nat)
def XT.exit : XT → Exit
  | .nrm => .normal
  | .ret => .ret
  | .ex id => .exit id
inductive RC where
  | ok (x : XT) (sl : T AV) (h : T AO) (nx : Nat)
  | bad
abbrev Coder := Code → T AV → T AO → Nat → RC
noncomputable def evSeq (rec : Coder) (x y : Code) (sl : T AV) (h : T AO) (nx : Nat) : RC :=
  match rec x sl h nx with
  | .ok .nrm sl h nx => rec y sl h nx
  | r => r
noncomputable def evCond (rec : Coder) (c : Operand) (x y : Code) (sl : T AV) (h : T AO) (nx : Nat) : RC :=
  match evX sl c with
  | some (.b true) => rec x sl h nx
  | some (.b false) => rec y sl h nx
  | _ => .bad
noncomputable def evBlock (rec : Coder) (id : Nat) (b : Code) (sl : T AV) (h : T AO) (nx : Nat) : RC :=
  match rec b sl h nx with
  | .ok (.ex j) sl h nx => bif Nat.beq j id then .ok .nrm sl h nx else .ok (.ex j) sl h nx
  | r => r
noncomputable def evLoop (rec : Coder) (b : Code) (sl : T AV) (h : T AO) (nx : Nat) : RC :=
  match rec b sl h nx with
  | .ok .nrm sl h nx => rec (.loop b) sl h nx
  | r => r
abbrev Drawer := Array Oper → T AV → T AO → Nat → RS
noncomputable def evRegion (P : Program) (X call : Caller) (D : Drawer) (N : Nat) (ops : Array Oper) (d : Bool) (sl : T AV) (h : T AO) (nx : Nat) : RC :=
  match (bif d then D ops sl h nx else evOps P X call N ops ops.toList sl h nx) with
  | .ok sl h nx => .ok .nrm sl h nx
  | .bad => .bad
/-- What a range over a function leaves. -/
def pendX : Option (Option Nat) → XT
  | none => .nrm
  | some none => .ret
  | some (some id) => .ex id
def pendOf : XT → Option (Option Nat)
  | .nrm => none
  | .ret => some none
  | .ex id => some (some id)
noncomputable def evRangeF (P : Program) (call : Caller) (N : Nat) (g : Operand) (ps : Array Tmp) (asg bd : Code) (sl : T AV) (h : T AO) (nx : Nat) : RC :=
  match evX sl g with
  | some (.fn f caps) => bif fnOk P f then
      (h.put nx (.lp ps asg bd sl N none)).seq fun h0 => match call (.fn f) (.cons (.yl nx) caps) h0 (Nat.succ nx) with
      | .ok _ h1 nx1 => match h1.get nx with
        | some (.lp _ _ _ _ _ pend) => (h1.del nx).seq fun h2 => .ok (pendX pend) sl h2 nx1
        | _ => .bad
      | .bad => .bad
    else .bad
  | _ => .bad
noncomputable def evCode1 (P : Program) (X call : Caller) (D : Drawer) (N : Nat) (q : Bool) (rec : Coder) (c : Code) (sl : T AV) (h : T AO) (nx : Nat) : RC :=
  match c with
  | .skip => .ok .nrm sl h nx
  | .label _ => .ok .nrm sl h nx
  | .seq x y => evSeq rec x y sl h nx
  | .cond c x y => evCond rec c x y sl h nx
  | .block id b => evBlock rec id b sl h nx
  | .loop b => evLoop rec b sl h nx
  | .exit id => .ok (.ex id) sl h nx
  | .ret => .ok .ret sl h nx
  | .region _ ops d => evRegion P X call D N ops d sl h nx
  | .rangeFunc g ps asg bd => bif q then evRangeF P call N g ps asg bd sl h nx else .bad
  | _ => .bad
noncomputable def evCode (P : Program) (X call : Caller) (D : Drawer) (N : Nat) (q : Bool) (n : Nat) : Coder :=
  Nat.rec (motive := fun _ => Coder) (fun _ _ _ _ => .bad) (fun _ rec => evCode1 P X call D N q rec) n
theorem evCode_succ {X call : Caller} {D : Drawer} {q : Bool} {n : Nat} {c : Code} {sl : T AV} {h : T AO} {nx : Nat} : evCode P X call D N q (n + 1) c sl h nx = evCode1 P X call D N q (evCode P X call D N q n) c sl h nx := rfl
/-- The marks of deferred calls that an activation bears. -/
structure Mk (B : Nat) (H : Heap) (ρ : Map) (w : World) (ds : List Deferred) : Prop where
  low : B ≤ w.heap.size
  dif : ds.Pairwise fun x y => x.target ≠ y.target
  all : ∀ d ∈ ds, ∃ r, d.target = .collected r ∧ B ≤ r ∧ w.heap[r]? = some (.deferred (some [])) ∧ ∀ id o C, H id = some o → ρ id ≠ some (r, C)
theorem Mk.stp {B : Nat} {H H' : Heap} {ρ ρ' : Map} {w w' : World} {ds : List Deferred} {n n' : Nat} (h : Mk B H ρ w ds) (s : Stp ρ ρ' H H' w w' n n') : Mk B H' ρ' w' ds where
  low := Nat.le_trans h.low s.size
  dif := h.dif
  all := fun d hd => by
    obtain ⟨r, h1, h2, h3, h4⟩ := h.all d hd
    have hlt := (Array.getElem?_eq_some_iff.1 h3).1
    exact ⟨r, h1, h2, by rw [s.keep r hlt h4]; exact h3, s.away hlt h4⟩
theorem Mk.nil {B : Nat} {H : Heap} {ρ : Map} {w : World} (h : B ≤ w.heap.size) : Mk B H ρ w [] := ⟨h, .nil, fun d hd => nomatch hd⟩
/-- A function leaves: its marks are taken. -/
theorem leaves_marks {F : Fence} {n B : Nat} {fn : Func} {tmps : Array Value} {R : Ending → World → Prop} {ρ0 ρ : Map} {H0 H : Heap} {w0 : World} {c c' : Nat} (hB : w0.heap.size ≤ B) (go : ∀ w, Stp ρ0 ρ H0 H w0 w c c' → ∃ v, (results fn tmps).run P w = .ok v w ∧ R (.returned v) w) :
    ∀ (ds : List Deferred) (w : World), Stp ρ0 ρ H0 H w0 w c c' → Mk B H ρ w ds → LeavesInM F n P fn tmps R ds .returning w
  | [], w, s, _ => by unfold LeavesInM LeavesIn; exact go w s
  | d :: ds, w, s, m => by
    obtain ⟨r, h1, h2, h3, h4⟩ := m.all d (List.mem_cons_self ..)
    unfold LeavesInM
    have hd := List.pairwise_cons.1 m.dif
    refine ⟨by simp, .inl ⟨r, w.putObj r (.deferred none), h1, run_takeDeferred h3, leaves_marks hB go ds _ (s.poke (b := r) (.inl (Nat.le_trans hB h2)) h4 rfl rfl rfl World.putObj_size fun k hk => World.putObj_heap_other hk) ⟨by rw [World.putObj_size]; exact m.low, hd.2, fun e he => ?_⟩⟩⟩
    obtain ⟨r', k1, k2, k3, k4⟩ := m.all e (List.mem_cons_of_mem _ he)
    have hne : r' ≠ r := by
      rintro rfl
      exact hd.1 e he (h1.trans k1.symm)
    exact ⟨r', k1, k2, by rw [World.putObj_heap_other hne]; exact k3, k4⟩
/-- What a drawer must keep. -/
def DrawOk (P : Program) (N : Nat) (D : Drawer) : Prop :=
  ∀ ops sl h nx sl' h' nx', D ops sl h nx = .ok sl' h' nx' → nx ≤ nx' ∧ ∀ (F : Fence) (n : Nat) id ρ a w (Q : Exit → Act → World → Prop), (∀ f, F.fn f) → F.depth = none → Rel ρ h.get w → SRel N ρ sl a → Fr ρ nx nx' →
    (∀ ρ' a' w', Stp ρ ρ' h.get h'.get w w' nx nx' → SRel N ρ' sl' a' → a'.defers = a.defers → Q .normal a' w') → (Code.region id ops true).wpIn F n P Q a w
theorem wpIn_loop_g {F : Fence} {n : Nat} {Q : Exit → Act → World → Prop} {a : Act} {w : World} {c : Code} (I : Nat → Act → World → Prop) (m : Nat) (h0 : I m a w)
    (round : ∀ m a w, I m a w → c.wpIn F n P (Exit.then (fun a' w' => ∃ m', m' < m ∧ I m' a' w') Q) a w) : (Code.loop c).wpIn F n P Q a w := by
  intro b k cs hro hb hr
  have key : ∀ j a w, I j a w → ∃ e a' w', Q e a' w' ∧ ArrivesIn (Machine.fenced P F) P (lone (b.atR a (.code c :: .inLoop c :: k)) cs w) b k cs e a' w' := by
    intro j
    induction j using Nat.strongRecOn with
    | _ j ih =>
      intro a w hI
      obtain ⟨e, a₁, w₁, hq, harr⟩ := round j a w hI b (.inLoop c :: k) cs hro hb hr
      cases e with
      | normal =>
        obtain ⟨m', hlt, hI₁⟩ := hq
        obtain ⟨e₂, a₂, w₂, hq₂, harr₂⟩ := ih m' hlt a₁ w₁ hI₁
        exact ⟨e₂, a₂, w₂, hq₂, .of_steps (StepsIn.trans harr (.one (fenced_calm hb hr rfl) stepR_inLoop)) harr₂⟩
      | exit id => exact ⟨_, a₁, w₁, hq, .pass (x := .inLoop c) rfl (fun _ _ => .inl (by simp)) harr⟩
      | goto l => exact ⟨_, a₁, w₁, hq, .pass (x := .inLoop c) rfl (fun _ _ => .inl (by simp)) harr⟩
      | ret => exact ⟨_, a₁, w₁, hq, .pass (x := .inLoop c) rfl (fun _ _ => .inl (by simp)) harr⟩
      | panic ch => exact ⟨_, a₁, w₁, hq, .pass (x := .inLoop c) rfl (fun _ _ => .inl (by simp)) harr⟩
      | outgrown => exact ⟨_, a₁, w₁, hq, .pass (x := .inLoop c) rfl (fun _ _ => .inl (by simp)) harr⟩
  obtain ⟨e, a', w', hq, harr⟩ := key m a w h0
  exact ⟨e, a', w', hq, .of_steps (.one (fenced_calm hb hr rfl) stepR_loop) harr⟩
def CodeOk (P : Program) (N : Nat) (q : Bool) (rec : Coder) : Prop :=
  ∀ c sl h nx x sl' h' nx', rec c sl h nx = .ok x sl' h' nx' → nx ≤ nx' ∧ ∀ (F : Fence) (n B : Nat) ρ a w (Q : Exit → Act → World → Prop), (∀ f, F.fn f) → F.depth = none → (q = true → F.round = none) → Rel ρ h.get w → SRel N ρ sl a → Fr ρ nx nx' → (q = true → Mk B h.get ρ w a.defers) →
    (∀ ρ' a' w', Stp ρ ρ' h.get h'.get w w' nx nx' → SRel N ρ' sl' a' → (q = true → Mk B h'.get ρ' w' a'.defers) → Q x.exit a' w') → c.wpIn F n P Q a w
theorem rangeF_run {call : Caller} (hC : CallOk P call) {g : Operand} {ps : Array Tmp} {asg bd : Code} {sl sl' : T AV} {h h' : T AO} {nx nx' : Nat} {x : XT} (e : evRangeF P call N g ps asg bd sl h nx = .ok x sl' h' nx') :
    nx ≤ nx' ∧ ∀ (F : Fence) (n B : Nat) ρ a w (Q : Exit → Act → World → Prop), (∀ f, F.fn f) → F.depth = none → F.round = none → Rel ρ h.get w → SRel N ρ sl a → Fr ρ nx nx' → Mk B h.get ρ w a.defers →
      (∀ ρ' a' w', Stp ρ ρ' h.get h'.get w w' nx nx' → SRel N ρ' sl' a' → Mk B h'.get ρ' w' a'.defers → Q x.exit a' w') → (Code.rangeFunc g ps asg bd).wpIn F n P Q a w := by
  unfold evRangeF at e
  split at e
  · rename_i f caps hg
    cases hok : fnOk P f with
    | false => rw [hok, cond_false] at e; cases e
    | true =>
      rw [hok, cond_true, T.seq_eq] at e
      split at e
      · rename_i v h1 nx1 hc
        split at e
        · rename_i ps2 as2 bd2 sl2 N2 pend hp
          rw [T.seq_eq] at e
          cases e
          obtain ⟨hle, hcall⟩ := hC.fn _ _ _ _ _ _ _ hc
          refine ⟨by omega, fun F n B ρ a w Q hF hD hro hR hS hf hM hQ => wpIn_rangeFunc fun fn hfn => ?_⟩
          obtain ⟨cv, hgv, hcaps⟩ := evX_rel hS hg
          have hgv' : a.eval g = .func (.func f) #[] cv := hgv
          -- two blocks are laid
          have s1 : Stp ρ ρ h.get h.get w (w.alloc (.deferred (some []))) nx nx := Stp.push hR (.deferred (some [])) rfl rfl rfl rfl
          have hfx : ρ nx = none := hf nx (Nat.le_refl _) (by omega)
          obtain ⟨w2, hw2⟩ : ∃ x, x = (w.alloc (.deferred (some []))).alloc (.loop { state := .ready, pending := none, fn, tmps := a.tmps, params := ps, assign := asg, body := bd, defers := w.heap.size }) := ⟨_, rfl⟩
          have s2 : Stp ρ (ρ.set nx ((w.alloc (.deferred (some []))).heap.size, 0)) h.get (h.put nx (.lp ps asg bd sl N none)).get (w.alloc (.deferred (some []))) w2 nx (nx + 1) :=
            Stp.new_ s1.rel hfx (.loop { state := .ready, pending := none, fn, tmps := a.tmps, params := ps, assign := asg, body := bd, defers := w.heap.size }) (.lp ps asg bd sl N none) 0
              ⟨_, rfl, rfl, rfl, rfl, rfl, rfl, hS.size, fun t v e => ⟨(hS.get t v e).1, (hS.get t v e).2.mono (Map.set_le hfx)⟩⟩ w2 (by rw [hw2]; rfl) (by rw [hw2]; rfl) (by rw [hw2]; rfl) (by rw [hw2]; rfl)
          have hsz : (w.alloc (.deferred (some []))).heap.size = w.heap.size + 1 := World.size_alloc ..
          have s12 := s1.trans s2
          refine ⟨w.heap.size + 1, [{ target := .collected w.heap.size, args := #[] }], w2, { target := .fn (.func f) cv, args := #[.func (.yield (w.heap.size + 1)) #[] #[]] }, w2, f, (.func (.yield (w.heap.size + 1)) #[] #[] :: cv.toList).toArray, w2, by rw [hro, hw2]; exact run_enterLoop_outer .., ?_, fun f' _ => hF f', ?_, fun hd => by simp [hD] at hd, ?_⟩
          · have hcv : ∀ v, a.eval (.const v) = v := fun _ => rfl
            simp [resolve, rangeCall, hgv', hcv, Deferred.ofValue]
          · have hexec : ∀ w', (invoke (.fn (.func f) cv) #[.func (.yield (w.heap.size + 1)) #[] #[]]).run P w' = (callFunc f (Value.func (.yield (w.heap.size + 1)) #[] #[] :: cv.toList).toArray).run P w' := fun w' => by
              have : (Value.func (.yield (w.heap.size + 1)) #[] #[] :: cv.toList).toArray = #[Value.func (.yield (w.heap.size + 1)) #[] #[]] ++ cv := by apply Array.ext'; simp
              rw [this]; rfl
            show (invoke (.fn (.func f) cv) #[.func (.yield (w.heap.size + 1)) #[] #[]]).run P w2 = _
            rw [hexec]
            unfold fnOk at hok
            cases hfn : P.funcs[f]? with
            | none => simp [hfn] at hok
            | some fn' =>
              simp only [hfn, Bool.and_eq_true, Bool.not_eq_true'] at hok
              have hb1 : fn'.body.isNone = false := by cases hbb : fn'.body <;> simp [hbb] at hok ⊢
              simp only [callFunc, Sem.run_bind, Sem.run_pure, Result.andThen_ok, run_program, hfn, hok.2, Bool.false_eq_true, if_false, hb1]
          · have hm : VsRel (ρ.set nx ((w.alloc (.deferred (some []))).heap.size, 0)) (.cons (.yl nx) caps) (.func (.yield (w.heap.size + 1)) #[] #[] :: cv.toList) :=
              ⟨_, _, rfl, ⟨_, 0, set_self .., by rw [hsz]⟩, hcaps.mono' (Map.set_le hfx)⟩
            have M2 : Mk B (h.put nx (.lp ps asg bd sl N none)).get (ρ.set nx ((w.alloc (.deferred (some []))).heap.size, 0)) w2 ([{ target := .collected w.heap.size, args := #[] }] ++ a.defers) := by
              have M1 := hM.stp s12
              refine ⟨M1.low, List.pairwise_cons.2 ⟨fun d hd => ?_, M1.dif⟩, fun d hd => ?_⟩
              · obtain ⟨r, k1, k2, k3, k4⟩ := hM.all d hd
                have hlt := (Array.getElem?_eq_some_iff.1 k3).1
                rw [k1]
                intro e
                cases e
                omega
              · rcases List.mem_cons.1 hd with rfl | hd
                · refine ⟨_, rfl, hM.low, ?_, fun id o C e1 e2 => ?_⟩
                  · rw [s2.keep w.heap.size (by omega) fun id o C e1 e2 => ?_]
                    · exact World.alloc_heap_new ..
                    · obtain ⟨b, C', ob, g1, g2, _⟩ := hR.has id o e1
                      rw [g1] at e2; cases e2
                      have := (Array.getElem?_eq_some_iff.1 g2).1; omega
                  · rcases s2.new id o _ C e1 e2 with h5 | ⟨j, o', D, h5, h6⟩
                    · omega
                    · obtain ⟨b, C', ob, g1, g2, _⟩ := hR.has j o' h5
                      rw [g1] at h6; cases h6
                      have := (Array.getElem?_eq_some_iff.1 g2).1; omega
                · exact M1.all d hd
            refine CallsIn.mono (hcall F (n - 1) _ _ _ hF hD hro s12.rel hm (s12.fr hf)) ?_
            rintro e w3 ⟨ρ3, u, hs3, rfl, _⟩
            obtain ⟨b, C, ob, g1, g2, r, rfl, q1, q2, q3, q4, q5, q6, q7⟩ := hs3.rel.has nx _ hp
            have g3 := hs3.le _ _ (set_self ρ nx ((w.alloc (.deferred (some []))).heap.size, 0))
            rw [g1] at g3
            cases g3
            rw [hsz] at g2 g1
            have s4 : Stp ρ3 ρ3 h1.get (h1.del nx).get w3 (w3.putObj (w.heap.size + 1) (.loop { r with state := .exhausted })) nx' nx' := Stp.del hs3.rel hp g1 _ rfl rfl rfl World.putObj_size fun k hk => World.putObj_heap_other hk
            have hS4 := hs3.trans s4
            have S := s12.trans hS4
            refine ⟨r.pending, _, run_endLoop g2 (by rw [q4]; cases pend <;> simp), ?_⟩
            have hfin := fun (a' : Act) (ha : a' = { a with defers := [{ target := .collected w.heap.size, args := #[] }] ++ a.defers }) => hQ ρ3 a' _ S (by subst ha; exact { size := hS.size, get := fun t v e => (hS.mono S.le).get t v e }) (by subst ha; exact M2.stp hS4)
            rw [q5] at hfin
            rw [q5]
            cases pend with
            | none => exact hfin _ rfl
            | some j =>
              cases j with
              | none => exact wpIn_ret (hfin _ rfl)
              | some j => exact wpIn_exit (hfin _ rfl)
        · cases e
      · cases e
  · cases e
theorem evCode_run {X call : Caller} (hX : ExtOk P X) (hC : CallOk P call) {D : Drawer} (hDr : DrawOk P N D) (q : Bool) : ∀ n, CodeOk P N q (evCode P X call D N q n)
  | 0 => fun c sl h nx x sl' h' nx' e => by cases e
  | m + 1 => fun c sl h nx x sl' h' nx' e => by
    have ih : ∀ j, j < m + 1 → CodeOk P N q (evCode P X call D N q j) := fun j hj => evCode_run hX hC hDr q j
    have ihm := ih m (Nat.lt_succ_self _)
    rw [evCode_succ] at e
    cases c with
    | skip => cases e; exact ⟨Nat.le_refl _, fun F n B ρ a w Q hF hD hro hR hS hf hM hQ => wpIn_skip (hQ ρ a w (Stp.refl hR) hS hM)⟩
    | label l => cases e; exact ⟨Nat.le_refl _, fun F n B ρ a w Q hF hD hro hR hS hf hM hQ => wpIn_label (hQ ρ a w (Stp.refl hR) hS hM)⟩
    | exit l => cases e; exact ⟨Nat.le_refl _, fun F n B ρ a w Q hF hD hro hR hS hf hM hQ => wpIn_exit (hQ ρ a w (Stp.refl hR) hS hM)⟩
    | ret => cases e; exact ⟨Nat.le_refl _, fun F n B ρ a w Q hF hD hro hR hS hf hM hQ => wpIn_ret (hQ ρ a w (Stp.refl hR) hS hM)⟩
    | seq c1 c2 =>
      simp only [evCode1, evSeq] at e
      split at e
      · rename_i sl1 h1 nx1 e1
        obtain ⟨l1, r1⟩ := ihm _ _ _ _ _ _ _ _ e1
        obtain ⟨l2, r2⟩ := ihm _ _ _ _ _ _ _ _ e
        refine ⟨Nat.le_trans l1 l2, fun F n B ρ a w Q hF hD hro hR hS hf hM hQ => wpIn_seq (r1 F n B ρ a w _ hF hD hro hR hS (hf.left l2) hM fun ρ1 a1 w1 hs1 hS1 hd1 => ?_)⟩
        exact r2 F n B ρ1 a1 w1 Q hF hD hro hs1.rel hS1 (hs1.fr hf) hd1 fun ρ2 a2 w2 hs2 hS2 hd2 => hQ ρ2 a2 w2 (hs1.trans hs2) hS2 hd2
      · rename_i hne
        obtain ⟨l1, r1⟩ := ihm _ _ _ _ _ _ _ _ e
        refine ⟨l1, fun F n B ρ a w Q hF hD hro hR hS hf hM hQ => wpIn_seq (r1 F n B ρ a w _ hF hD hro hR hS hf hM fun ρ1 a1 w1 hs1 hS1 hd1 => ?_)⟩
        have := hQ ρ1 a1 w1 hs1 hS1 hd1
        cases x with
        | nrm => exact absurd e (hne _ _ _)
        | ret => exact this
        | ex id => exact this
    | cond c x1 y1 =>
      simp only [evCode1, evCond] at e
      split at e
      · rename_i hc
        obtain ⟨l1, r1⟩ := ihm _ _ _ _ _ _ _ _ e
        exact ⟨l1, fun F n B ρ a w Q hF hD hro hR hS hf hM hQ => wpIn_cond_true (evX_rel hS hc) (r1 F n B ρ a w Q hF hD hro hR hS hf hM hQ)⟩
      · rename_i hc
        obtain ⟨l1, r1⟩ := ihm _ _ _ _ _ _ _ _ e
        exact ⟨l1, fun F n B ρ a w Q hF hD hro hR hS hf hM hQ => wpIn_cond_false (evX_rel hS hc) (r1 F n B ρ a w Q hF hD hro hR hS hf hM hQ)⟩
      · cases e
    | block id b =>
      simp only [evCode1, evBlock] at e
      split at e
      · rename_i j sl1 h1 nx1 e1
        obtain ⟨l1, r1⟩ := ihm _ _ _ _ _ _ _ _ e1
        by_cases hj : j = id
        · rw [beq_t hj, cond_true] at e; cases e
          refine ⟨l1, fun F n B ρ a w Q hF hD hro hR hS hf hM hQ => wpIn_block (r1 F n B ρ a w _ hF hD hro hR hS hf hM fun ρ1 a1 w1 hs1 hS1 hd1 => ?_)⟩
          simp only [XT.exit, Exit.inBlock, hj, if_true]
          exact hQ ρ1 a1 w1 hs1 hS1 hd1
        · rw [beq_f hj, cond_false] at e; cases e
          refine ⟨l1, fun F n B ρ a w Q hF hD hro hR hS hf hM hQ => wpIn_block (r1 F n B ρ a w _ hF hD hro hR hS hf hM fun ρ1 a1 w1 hs1 hS1 hd1 => ?_)⟩
          simp only [XT.exit, Exit.inBlock, hj, if_false]
          exact hQ ρ1 a1 w1 hs1 hS1 hd1
      · rename_i hne
        obtain ⟨l1, r1⟩ := ihm _ _ _ _ _ _ _ _ e
        refine ⟨l1, fun F n B ρ a w Q hF hD hro hR hS hf hM hQ => wpIn_block (r1 F n B ρ a w _ hF hD hro hR hS hf hM fun ρ1 a1 w1 hs1 hS1 hd1 => ?_)⟩
        have := hQ ρ1 a1 w1 hs1 hS1 hd1
        cases x with
        | nrm => exact this
        | ret => exact this
        | ex j => exact absurd e (hne _ _ _ _)
    | loop b =>
      -- the rounds, by what is left
      have mono : ∀ k, k ≤ m + 1 → ∀ sl h nx, evCode P X call D N q k (.loop b) sl h nx = .ok x sl' h' nx' → nx ≤ nx' := by
        intro k
        induction k with
        | zero => intro _ sl h nx e; cases e
        | succ k ihk =>
          intro hk sl h nx e
          rw [evCode_succ] at e
          simp only [evCode1, evLoop] at e
          split at e
          · rename_i sl1 h1 nx1 e1
            exact Nat.le_trans (ih k (by omega) _ _ _ _ _ _ _ _ e1).1 (ihk (by omega) _ _ _ e)
          · exact (ih k (by omega) _ _ _ _ _ _ _ _ e).1
      refine ⟨mono (m + 1) (Nat.le_refl _) _ _ _ (by rw [evCode_succ]; exact e), fun F n B ρ a w Q hF hD hro hR hS hf hM hQ => ?_⟩
      refine wpIn_loop_g (fun k a1 w1 => k ≤ m + 1 ∧ ∃ ρ1 sl1 h1 nx1, evCode P X call D N q k (.loop b) sl1 h1 nx1 = .ok x sl' h' nx' ∧ Stp ρ ρ1 h.get h1.get w w1 nx nx1 ∧ SRel N ρ1 sl1 a1 ∧ (q = true → Mk B h1.get ρ1 w1 a1.defers)) (m + 1)
        ⟨Nat.le_refl _, ρ, sl, h, nx, by rw [evCode_succ]; exact e, Stp.refl hR, hS, hM⟩ ?_
      rintro k a1 w1 ⟨hk, ρ1, sl1, h1, nx1, ek, hs1, hS1, hd1⟩
      cases k with
      | zero => cases ek
      | succ k =>
        have hfk := hs1.fr hf
        rw [evCode_succ] at ek
        simp only [evCode1, evLoop] at ek
        split at ek
        · rename_i sl2 h2 nx2 e2
          obtain ⟨l2, r2⟩ := ih k (by omega) _ _ _ _ _ _ _ _ e2
          have l3 := mono k (by omega) _ _ _ ek
          refine r2 F n B ρ1 a1 w1 _ hF hD hro hs1.rel hS1 (hfk.left l3) hd1 fun ρ2 a2 w2 hs2 hS2 hd2 => ?_
          exact ⟨k, Nat.lt_succ_self _, by omega, ρ2, sl2, h2, nx2, ek, hs1.trans hs2, hS2, hd2⟩
        · rename_i hne
          obtain ⟨l2, r2⟩ := ih k (by omega) _ _ _ _ _ _ _ _ ek
          refine r2 F n B ρ1 a1 w1 _ hF hD hro hs1.rel hS1 hfk hd1 fun ρ2 a2 w2 hs2 hS2 hd2 => ?_
          have := hQ ρ2 a2 w2 (hs1.trans hs2) hS2 hd2
          cases x with
          | nrm => exact absurd ek (hne _ _ _)
          | ret => exact this
          | ex j => exact this
    | region id ops d =>
      simp only [evCode1, evRegion] at e
      split at e
      · rename_i sl1 h1 nx1 e1
        cases e
        cases d with
        | true =>
          rw [cond_true] at e1
          obtain ⟨l1, r1⟩ := hDr _ _ _ _ _ _ _ e1
          exact ⟨l1, fun F n B ρ a w Q hF hD hro hR hS hf hM hQ => r1 F n id ρ a w Q hF hD hR hS hf fun ρ' a' w' hs hS' hd => hQ ρ' a' w' hs hS' fun hq => by rw [hd]; exact (hM hq).stp hs⟩
        | false =>
          rw [cond_false] at e1
          exact ⟨evOps_le e1, fun F n B ρ a w Q hF hD hro hR hS hf hM hQ => wpIn_region_list (evOps_run hF hD hX hC e1 hR hS hf fun ρ' a' w' hs hS' hd => hQ ρ' a' w' hs hS' fun hq => by rw [hd]; exact (hM hq).stp hs)⟩
      · cases e
    | rangeFunc f ps s b =>
      simp only [evCode1] at e
      cases q with
      | false => cases e
      | true =>
        rw [cond_true] at e
        obtain ⟨l1, r1⟩ := rangeF_run hC e
        exact ⟨l1, fun F n B ρ a w Q hF hD hro hR hS hf hM hQ => r1 F n B ρ a w Q hF hD (hro rfl) hR hS hf (hM rfl) fun ρ' a' w' hs hS' hd => hQ ρ' a' w' hs hS' fun _ => hd⟩
    | scope b => cases e
    | goto l => cases e
    | refuse s => cases e
/-- What a function hands back. -/
noncomputable def evRes (P : Program) (sl : T AV) (h : T AO) : List ResultVar → Option AVs
  | [] => some .nil
  | .tmp t :: l => match sl.get t with
    | some v => (match evRes P sl h l with | some m => some (.cons v m) | none => none)
    | none => none
  | .cell t ty :: l => match sl.get t with
    | some x => match evLoad P h ty x with
      | some v => (match evRes P sl h l with | some m => some (.cons v m) | none => none)
      | none => none
    | none => none
noncomputable def evRet (l : AVs) : AV := match l with
  | .cons v .nil => v
  | l => .tup l
theorem evRes_run {ρ : Map} {h : T AO} {w : World} {a : Act} {sl : T AV} (hR : Rel ρ h.get w) (hS : SRel N ρ sl a) : ∀ {l : List ResultVar} {m : AVs}, evRes P sl h l = some m →
    ∃ vs, (l.mapM (m := Sem) fun | .tmp t => (pure (a.tmps.getD t undef) : Sem Value) | .cell c t => do loadVar t (← asAddr (a.tmps.getD c undef))).run P w = .ok vs w ∧ VsRel ρ m vs
  | [], m, e => by simp only [evRes] at e; cases e; exact ⟨[], by simp, rfl⟩
  | .tmp t :: l, m, e => by
    simp only [evRes] at e
    split at e
    · rename_i v hv
      split at e <;> cases e
      rename_i m' hm'
      obtain ⟨vs, h1, h2⟩ := evRes_run hR hS hm'
      exact ⟨_ :: vs, by simp only [List.mapM_cons, Sem.run_bind, Sem.run_pure, Result.andThen_ok, h1], _, _, rfl, (hS.get _ _ hv).2, h2⟩
    · cases e
  | .cell t ty :: l, m, e => by
    simp only [evRes] at e
    split at e
    · rename_i x hx
      split at e
      · rename_i v hv
        split at e <;> cases e
        rename_i m' hm'
        obtain ⟨vs, h1, h2⟩ := evRes_run hR hS hm'
        have hxr := (hS.get _ _ hx).2
        obtain ⟨u, k1, k2⟩ := evLoad_run (P := P) hR hxr hv
        have hp : ∃ ad, a.tmps.getD t undef = .pointer (some ad) ∧ (loadVar ty ad).run P w = .ok u w := by
          unfold evLoad at hv
          split at hv
          · obtain ⟨b, C, _, hb⟩ := hxr
            rw [hb] at k1
            exact ⟨_, hb, by simpa [Instr.loadAt, Instr.sureAddr] using k1⟩
          · cases hv
        obtain ⟨ad, hb, k3⟩ := hp
        have ha : (asAddr (.pointer (some ad))).run P w = .ok ad w := rfl
        exact ⟨u :: vs, by simp only [List.mapM_cons, Sem.run_bind, Sem.run_pure, Result.andThen_ok, hb, ha, k3, h1], u, vs, rfl, k2, h2⟩
      · cases e
    · cases e
theorem results_run {ρ : Map} {h : T AO} {w : World} {a : Act} {sl : T AV} (hR : Rel ρ h.get w) (hS : SRel N ρ sl a) {fn : Func} {m : AVs} (e : evRes P sl h fn.results.toList = some m) :
    ∃ u, (results fn a.tmps).run P w = .ok u w ∧ VRel ρ (evRet m) u := by
  obtain ⟨vs, h1, h2⟩ := evRes_run (P := P) hR hS e
  have hl := h2.len
  have hrun : (fn.results.mapM (m := Sem) fun | .tmp t => (pure (a.tmps.getD t undef) : Sem Value) | .cell c t => do loadVar t (← asAddr (a.tmps.getD c undef))).run P w = .ok vs.toArray w := by
    rw [Array.mapM_eq_mapM_toList, Sem.run_map, h1]; rfl
  have key : (results fn a.tmps).run P w = .ok (if h : vs.toArray.size = 1 then vs.toArray[0] else .tuple vs.toArray) w := by
    unfold results
    rw [Sem.run_bind]
    exact congrArg (fun r => Result.andThen r fun (vs : Array Value) w' => (Pure.pure (if h : vs.size = 1 then vs[0] else Value.tuple vs) : Sem Value).run P w') hrun
  rw [key]
  clear key hrun h1 e
  cases m with
  | nil =>
    simp only [VsRel] at h2; subst h2
    exact ⟨_, rfl, _, rfl, rfl⟩
  | cons v m =>
    obtain ⟨u, r, rfl, hv, hr⟩ := h2
    cases m with
    | nil =>
      simp only [VsRel] at hr; subst hr
      exact ⟨u, by simp, hv⟩
    | cons x l =>
      obtain ⟨y, q, rfl, hy, hq⟩ := hr
      exact ⟨.tuple (u :: y :: q).toArray, by simp, _, rfl, u, _, rfl, hv, y, q, rfl, hy, hq⟩
/-- Yield's arguments, in the round's slots. -/
noncomputable def putPs : List Nat → AVs → T AV → T AV
  | p :: ps, .cons v l, t => (t.put p v).seq fun t => putPs ps l t
  | _, _, t => t
/-- A round of a range over a function. -/
noncomputable def evRound (P : Program) (X call : Caller) (D : Caller → Nat → Drawer) (n : Nat) (id : Nat) (l : AVs) (h : T AO) (nx : Nat) : R :=
  match h.get id with
  | some (.lp ps asg bd sl N none) => bif Nat.beq ps.size l.len && ps.toList.all (fun t => Nat.ble (Nat.succ t) N) then
      (h.del id).seq fun h0 => match evCode P X call (D call N) N false n asg (putPs ps.toList l sl) h0 nx with
      | .ok .nrm sl1 h1 nx1 => match evCode P X call (D call N) N false n bd sl1 h1 nx1 with
        | .ok x _ h2 nx2 => (h2.put id (.lp ps asg bd sl N (pendOf x))).seq fun h3 => .ok (.b (pendOf x).isNone) h3 nx2
        | .bad => .bad
      | _ => .bad
    else .bad
  | _ => .bad
/-- A call. -/
noncomputable def evFn (P : Program) (X call : Caller) (D : Caller → Nat → Drawer) (n : Nat) (f : FuncId) (l : AVs) (h : T AO) (nx : Nat) : R :=
  match P.funcs[f]? with
  | none => .bad
  | some fn => match fn.body with
    | none => .bad
    | some c => bif Nat.ble l.len fn.ntmps then
        match evCode P X call (D call fn.ntmps) fn.ntmps true n c (ofA l 0 .nil) h nx with
        | .ok x sl h nx => match x with
          | .ex _ => .bad
          | _ => match evRes P sl h fn.results.toList with
            | some m => .ok (evRet m) h nx
            | none => .bad
        | .bad => .bad
      else .bad
noncomputable def evCall1 (P : Program) (X call : Caller) (D : Caller → Nat → Drawer) (n : Nat) (t : Tgt) (l : AVs) (h : T AO) (nx : Nat) : R :=
  match t with
  | .fn f => evFn P X call D n f l h nx
  | .yl id => evRound P X call D n id l h nx
/-- K: calls that are known already. -/
noncomputable def evCall (P : Program) (X K : Caller) (D : Caller → Nat → Drawer) (n : Nat) : Caller :=
  Nat.rec (motive := fun _ => Caller) (fun _ _ _ _ => .bad) (fun n call t l h nx => match K t l h nx with | .ok v h nx => .ok v h nx | .bad => evCall1 P X call D n t l h nx) n
theorem putPs_rel {ρ : Map} {ds : List Deferred} : ∀ {ps : List Nat} {l : AVs} {m : List Value} {tmps : Array Value} {sl : T AV}, SRel N ρ sl { tmps := tmps, defers := ds } → VsRel ρ l m → ps.all (fun t => Nat.ble (Nat.succ t) N) = true →
    SRel N ρ (putPs ps l sl) { tmps := (ps.zip m).foldl (fun tmps (x : Nat × Value) => tmps.setIfInBounds x.1 x.2) tmps, defers := ds }
  | [], l, m, tmps, sl, hS, hm, hp => by cases l <;> exact hS
  | p :: ps, .nil, m, tmps, sl, hS, hm, hp => by simp only [VsRel] at hm; subst hm; exact hS
  | p :: ps, .cons v l, m, tmps, sl, hS, hm, hp => by
    obtain ⟨u, r, rfl, hv, hr⟩ := hm
    simp only [List.all_cons, Bool.and_eq_true, Nat.ble_eq] at hp
    simp only [putPs, T.seq_eq, List.zip_cons_cons, List.foldl_cons]
    exact putPs_rel (hS.put hp.1 hv) hr hp.2
theorem start_rel {ρ : Map} {l : AVs} {m : List Value} (hm : VsRel ρ l m) {n : Nat} (hn : l.len ≤ n) : SRel n ρ (ofA l 0 .nil) { tmps := m.toArray ++ Array.replicate (n - m.toArray.size) undef, defers := [] } := by
  have hl := hm.len
  refine ⟨by simp; omega, fun t v e => ?_⟩
  rw [ofA_get, T.get_nil] at e
  split at e
  · rename_i ht
    obtain ⟨u, hu, hv⟩ := hm.at e
    refine ⟨by omega, ?_⟩
    have : (m.toArray ++ Array.replicate (n - m.toArray.size) undef).getD t undef = u := by
      rw [Array.getD_eq_getD_getElem?, Array.getElem?_append, if_pos (by simp; omega)]
      simp at hu; simp [hu]
    rw [this]; exact hv
  · cases e
theorem evFn_run {X call : Caller} (hX : ExtOk P X) (hC : CallOk P call) (D : Caller → Nat → Drawer) (hDr : ∀ call N, CallOk P call → DrawOk P N (D call N)) {n : Nat} {f : FuncId} {l : AVs} {h h' : T AO} {nx nx' : Nat} {v : AV} (e' : evFn P X call D n f l h nx = .ok v h' nx') :
    nx ≤ nx' ∧ ∀ (F : Fence) (n : Nat) ρ w m, (∀ f, F.fn f) → F.depth = none → F.round = none → Rel ρ h.get w → VsRel ρ l m → Fr ρ nx nx' →
      CallsIn F n P f m.toArray w fun e w' => ∃ ρ' u, Stp ρ ρ' h.get h'.get w w' nx nx' ∧ e = .returned u ∧ VRel ρ' v u := by
  unfold evFn at e'
  split at e'
  · cases e'
  · rename_i fn hfn
    split at e'
    · cases e'
    · rename_i c hc
      obtain ⟨hlen, e⟩ := bif_ok e'
      rw [Nat.ble_eq] at hlen
      split at e
      · rename_i x sl1 h1 nx1 e1
        obtain ⟨l1, r1⟩ := evCode_run hX hC (hDr _ fn.ntmps hC) true n _ _ _ _ _ _ _ _ e1
        have fin : ∀ y, (match y with | .ex _ => R.bad | _ => (match evRes P sl1 h1 fn.results.toList with | some m => R.ok (evRet m) h1 nx1 | none => .bad)) = .ok v h' nx' → h1 = h' ∧ nx1 = nx' ∧ (∃ m, evRes P sl1 h1 fn.results.toList = some m ∧ evRet m = v) ∧ (y = XT.nrm ∨ y = .ret) := by
          intro y ey
          cases y with
          | ex _ => cases ey
          | nrm =>
            simp only at ey
            split at ey <;> cases ey
            rename_i m hm
            exact ⟨rfl, rfl, ⟨m, hm, rfl⟩, .inl rfl⟩
          | ret =>
            simp only at ey
            split at ey <;> cases ey
            rename_i m hm
            exact ⟨rfl, rfl, ⟨m, hm, rfl⟩, .inr rfl⟩
        obtain ⟨rfl, rfl, ⟨m, hm, rfl⟩, hx⟩ := fin x e
        refine ⟨l1, fun F k ρ w mm hF hD hro hR hmm hf => callsIn_of_wp_marks hfn hc (hF f) ?_ hro⟩
        refine r1 F k w.heap.size ρ _ w _ hF hD (fun _ => hro) hR (start_rel hmm hlen) hf (fun _ => Mk.nil (Nat.le_refl _)) fun ρ' a' w' hs hS hd => ?_
        have hl : LeavesInM F k P fn a'.tmps (fun e w' => ∃ ρ' u, Stp ρ ρ' h.get h1.get w w' nx nx1 ∧ e = .returned u ∧ VRel ρ' (evRet m) u) a'.defers .returning w' :=
          leaves_marks (Nat.le_refl _) (fun w2 hs2 => by
            obtain ⟨u, hu, hv⟩ := results_run (P := P) hs2.rel hS hm
            exact ⟨u, hu, ρ', u, hs2, rfl, hv⟩) a'.defers w' hs (hd rfl)
        rcases hx with rfl | rfl
        · exact hl
        · exact hl
      · cases e
theorem evRound_run {X call : Caller} (hX : ExtOk P X) (hC : CallOk P call) (D : Caller → Nat → Drawer) (hDr : ∀ call N, CallOk P call → DrawOk P N (D call N)) {n id : Nat} {l : AVs} {h h' : T AO} {nx nx' : Nat} {v : AV} (e : evRound P X call D n id l h nx = .ok v h' nx') :
    nx ≤ nx' ∧ ∀ (F : Fence) (n : Nat) ρ w m, (∀ f, F.fn f) → F.depth = none → Rel ρ h.get w → VsRel ρ l m → Fr ρ nx nx' → ∀ b C, ρ id = some (b, C) →
      ∃ f tmps asg bd, (Instr.yield b m.toArray).run P w = .ok (.round b f tmps asg bd) w ∧ RoundIn F n P b f tmps asg bd w fun e w' => ∃ ρ' u, Stp ρ ρ' h.get h'.get w w' nx nx' ∧ e = .returned u ∧ VRel ρ' v u := by
  unfold evRound at e
  split at e
  · rename_i ps asg bd sl N hid
    obtain ⟨hg, e2⟩ := bif_ok e
    clear e
    rw [Bool.and_eq_true, Nat.beq_eq] at hg
    obtain ⟨hg1, hg2⟩ := hg
    rw [T.seq_eq] at e2
    split at e2
    · rename_i sl1 h1 nx1 ea
      split at e2
      · rename_i x sl2 h2 nx2 eb
        rw [T.seq_eq] at e2
        cases e2
        obtain ⟨l1, r1⟩ := evCode_run hX hC (hDr _ N hC) false n _ _ _ _ _ _ _ _ ea
        obtain ⟨l2, r2⟩ := evCode_run hX hC (hDr _ N hC) false n _ _ _ _ _ _ _ _ eb
        refine ⟨Nat.le_trans l1 l2, fun F k ρ w m hF hD hR hm hf b C hb => ?_⟩
        obtain ⟨b', C', ob, g1, g2, r, rfl, q1, q2, q3, q4, q5, q6, q7⟩ := hR.has id _ hid
        rw [hb] at g1; cases g1
        have hlen := hm.len
        have hblt := (Array.getElem?_eq_some_iff.1 g2).1
        refine ⟨r.fn, _, r.assign, r.body, run_yield g2 (by rw [q1]; simp; omega), roundIn_of_wpIn (hF _) ?_⟩
        have hS0 : SRel N ρ sl { tmps := r.tmps, defers := [] } := ⟨q6, q7⟩
        have hS1 := putPs_rel hS0 hm hg2
        have htm : (r.params.zip m.toArray).foldl (fun tmps (t, a) => tmps.setIfInBounds t a) r.tmps = (ps.toList.zip m).foldl (fun tmps (x : Nat × Value) => tmps.setIfInBounds x.1 x.2) r.tmps := by
          rw [q1, ← Array.foldl_toList, Array.toList_zip]
        have s0 : Stp ρ ρ h.get (h.del id).get w w nx nx := Stp.del hR hid hb w rfl rfl rfl rfl fun _ _ => rfl
        have hn0 : ∀ j o C', (h.del id).get j = some o → ρ j ≠ some (b, C') := fun j o C' e1 e2 => by
          rw [T.get_del] at e1
          split at e1
          · cases e1
          · rename_i hj
            exact hj (hR.inj j id o _ b C' C e1 hid e2 hb)
        rw [q2, q3]
        refine r1 (F.inRound b) k 0 ρ _ w _ hF hD (fun h => by cases h) s0.rel (by rw [htm]; exact hS1) (hf.left l2) (fun h => by cases h) fun ρ1 a1 w1 s1 S1 _ => ?_
        have s01 := s0.trans s1
        have hn1 := s1.away hblt hn0
        have k1 : w1.heap[b]? = some (.loop r) := by rw [s1.keep b hblt hn0]; exact g2
        have s02 : Stp ρ ρ1 h.get h1.get w (w1.putObj b (.loop { r with state := .busy })) nx nx1 := s01.poke (.inr ⟨id, _, C, hid, hb⟩) hn1 rfl rfl rfl World.putObj_size fun k hk => World.putObj_heap_other hk
        have hb1lt := (Array.getElem?_eq_some_iff.1 k1).1
        refine ⟨_, run_beginRound k1 (by rw [q4]; rfl), ?_⟩
        refine r2 (F.inRound b) k 0 ρ1 a1 _ _ hF hD (fun h => by cases h) s02.rel S1 (s01.fr hf) (fun h => by cases h) fun ρ2 a2 w3 s2 S2 _ => ?_
        have s03 := s02.trans s2
        have hb2lt : b < (w1.putObj b (.loop { r with state := .busy })).heap.size := by rw [World.putObj_size]; exact hb1lt
        have hn2 := s2.away hb2lt hn1
        have k2 : w3.heap[b]? = some (.loop { r with state := .busy }) := by
          rw [s2.keep b hb2lt hn1]
          simp [World.putObj, hb1lt]
        have hb3lt := (Array.getElem?_eq_some_iff.1 k2).1
        have fin : ∀ (p : Option (Option Nat)), (Instr.endRound b (p.map jmp)).run P w3 = .ok (.bool p.isNone) (w3.putObj b (.loop { r with state := if (p.map jmp).isNone then .ready else .done, pending := p.map jmp })) ∧
            Stp ρ ρ2 h.get (h2.put id (.lp ps asg bd sl N p)).get w (w3.putObj b (.loop { r with state := if (p.map jmp).isNone then .ready else .done, pending := p.map jmp })) nx nx' := fun p => by
          refine ⟨by rw [run_endRound _ k2]; cases p <;> rfl, Stp.back (o := .loop { r with state := if (p.map jmp).isNone then .ready else .done, pending := p.map jmp }) s03 hid hb hn2 ⟨_, rfl, q1, q2, q3, by cases p <;> rfl, rfl, q6, fun t v e => ⟨(q7 t v e).1, (q7 t v e).2.mono s03.le⟩⟩ rfl rfl rfl World.putObj_size (by simp [World.putObj, hb3lt]) fun k hk => World.putObj_heap_other hk⟩
        cases x with
        | nrm => exact ⟨_, _, (fin none).1, ρ2, _, (fin none).2, rfl, rfl⟩
        | ret => exact ⟨_, _, (fin (some none)).1, ρ2, _, (fin (some none)).2, rfl, rfl⟩
        | ex j => exact ⟨_, _, (fin (some (some j))).1, ρ2, _, (fin (some (some j))).2, rfl, rfl⟩
      · cases e2
    · cases e2
  · cases e
theorem evCall_run {X K : Caller} (hX : ExtOk P X) (hK : CallOk P K) (D : Caller → Nat → Drawer) (hDr : ∀ call N, CallOk P call → DrawOk P N (D call N)) : ∀ n, CallOk P (evCall P X K D n)
  | 0 => by constructor <;> (intro f l h nx v h' nx' e; cases e)
  | n + 1 => by
    have key : ∀ {t l h nx v h' nx'}, evCall P X K D (n + 1) t l h nx = .ok v h' nx' → K t l h nx = .ok v h' nx' ∨ evCall1 P X (evCall P X K D n) D n t l h nx = .ok v h' nx' := by
      intro t l h nx v h' nx' e
      have e' : (match K t l h nx with | .ok v h nx => R.ok v h nx | .bad => evCall1 P X (evCall P X K D n) D n t l h nx) = .ok v h' nx' := e
      split at e'
      · rename_i hk; exact .inl (hk.trans e')
      · exact .inr e'
    constructor
    · intro f l h nx v h' nx' e
      rcases key e with e | e
      · exact hK.fn _ _ _ _ _ _ _ e
      · exact evFn_run hX (evCall_run hX hK D hDr n) D hDr (n := n) e
    · intro id l h nx v h' nx' e
      rcases key e with e | e
      · exact hK.yl _ _ _ _ _ _ _ e
      · exact evRound_run hX (evCall_run hX hK D hDr n) D hDr (n := n) e
theorem known_none : CallOk P (fun _ _ _ _ => .bad) := by constructor <;> (intro f l h nx v h' nx' e; cases e)
end Go.Proofs.YtmhnnfponloihaaDoor
