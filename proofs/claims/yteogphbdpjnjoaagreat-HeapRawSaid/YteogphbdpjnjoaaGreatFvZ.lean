/- A closed run whose arguments hold numbers that may be any, by places far behind all that is made (so that what is known of calls keeps its numbers); a run that is parted within a function's body, its first part run once for many ends. No Go program in this text. -/
import Derived.Test.YteogphbdpjnjoaaGreatEw6
set_option linter.unusedSimpArgs false
set_option linter.unusedVariables false
namespace Go.Proofs.YteogphbdpjnjoaaGreat
open Go.RowKit
variable {P : Program}

/-- Where the places begin that stand for numbers that may be any. -/
abbrev zB : Nat := 1000000
def mapZ (C : Nat) (ys : List (Nat × Nat)) : Map := fun id => if id < zB then map0 C id else ys[id - zB]?
theorem mapZ_lt {C : Nat} {ys : List (Nat × Nat)} {id : Nat} (h : id < zB) : mapZ C ys id = map0 C id := if_pos h
theorem mapZ_at {C : Nat} {ys : List (Nat × Nat)} {i : Nat} {x : Nat × Nat} (h : ys[i]? = some x) : mapZ C ys (zB + i) = some x := by
  unfold mapZ
  rw [if_neg (by omega), Nat.add_sub_cancel_left, h]
theorem map0_ltZ {C id : Nat} {x : Nat × Nat} (e : map0 C id = some x) : id < zB := by
  obtain ⟨g, hg, rfl, _⟩ := map0_is e
  show 0 < 1000000
  decide
theorem map0_leZ (C : Nat) (ys : List (Nat × Nat)) : (map0 C).le (mapZ C ys) := fun id x e => by rw [mapZ_lt (map0_ltZ e)]; exact e
/-- A number of any kind. -/
theorem num_relZ {C : Nat} {ys : List (Nat × Nat)} {i : Nat} {k : IntKind} {z : Int} (h : ys[i]? = some (encI z, 0)) : VRel (mapZ C ys) (.y (.i k (zB + i))) (.int k z) :=
  ⟨_, _, mapZ_at h, by rw [decI_encI]⟩
theorem relZ {C : Nat} {ys : List (Nat × Nat)} {w : World} (hw : GlW C w) : Rel (mapZ C ys) heap0.get w :=
  ⟨fun id o e => by
    obtain ⟨b, C', ob, h1, h2, h3⟩ := (rel0 hw).has id o e
    exact ⟨b, C', ob, map0_leZ _ _ _ _ h1, h2, h3.mono (map0_leZ C ys)⟩,
   fun i j o o' b C D e1 e2 _ _ => by
    obtain ⟨_, _, rfl, _⟩ := heap0_get e1
    obtain ⟨_, _, rfl, _⟩ := heap0_get e2
    rfl⟩
theorem frZ (C : Nat) (ys : List (Nat × Nat)) {n : Nat} (hn : n ≤ zB) : Fr (mapZ C ys) nx0 n :=
  ⟨fun id h1 h2 => by
    rw [mapZ_lt (by omega)]
    exact (fr0 C n).at_ id h1 h2,
   fun g hg => ⟨C, map0_leZ _ _ _ _ (map0_get hg)⟩⟩
theorem staysZ {C : Nat} {ys : List (Nat × Nat)} {ρ' : Map} {h' : T AO} {w w' : World} {n n' : Nat} (hw : GlW C w) (s : Stp (mapZ C ys) ρ' heap0.get h'.get w w' n n') (e' : isG0 h' = true) {b : Nat} (hb : b < w.heap.size) : w'.heap[b]? = w.heap[b]? := by
  by_cases hq : ∃ g, glob = some g ∧ b = g
  · obtain ⟨g, hg, rfl⟩ := hq
    obtain ⟨b', C', ob', k1, k2, rfl⟩ := s.rel.has 0 _ (isG0_is e' hg)
    rw [s.le _ _ (map0_leZ _ _ _ _ (map0_get hg))] at k1; cases k1
    rw [k2, hw _ hg]
  · refine s.keep b hb fun id o D e1 e2 => ?_
    obtain ⟨g, hg, rfl, _⟩ := heap0_get e1
    rw [mapZ_lt (by show 0 < 1000000; decide), map0_get hg] at e2
    cases e2
    exact hq ⟨_, hg, rfl⟩
/-- It comes to true, and not too far. -/
noncomputable def isTZ (r : R) : Bool := r.on false fun v h nx => v.onB false fun b => and b (and (isG0 h) (Nat.ble nx zB))
theorem isTZ_is {r : R} (h : isTZ r = true) : ∃ h' nx', r = .ok (.b true) h' nx' ∧ isG0 h' = true ∧ nx' ≤ zB := by
  cases r with
  | bad => cases h
  | ok v h' nx' =>
    cases v <;> try (cases h; done)
    rename_i b
    have h : (b && (isG0 h' && Nat.ble nx' zB)) = true := h
    rw [Bool.and_eq_true, Bool.and_eq_true, Nat.ble_eq] at h
    obtain ⟨rfl, h, k⟩ := h
    exact ⟨_, _, rfl, h, k⟩
/-- What a run comes to whose arguments hold numbers that may be any. -/
theorem answerZ {X K : Caller} {G : FuncId → Bool} (hG : ∀ g, G g = true → fnOk P g = true) (hm : P.follows .mixedOrders = true) (hX : ExtOk P X) (hK : CallOk P K) {n : Nat} {f : FuncId} {l : AVs} {m : List Value} {C : Nat} {ys : List (Nat × Nat)} (hl : VsRel (mapZ C ys) l m)
    (h : isTZ (fvC P X G K n (.fn f) l heap0 nx0) = true) (w : World) (hw : GlW C w) :
    Calls P f m.toArray w fun e w' => e = .returned (.bool true) ∧ Below w.heap.size w w' := by
  obtain ⟨h', nx', e, g0, hz⟩ := isTZ_is h
  refine callsIn_wide.1 (CallsIn.mono (((fvC_ok hG hm hX hK n).fn _ _ _ _ _ _ _ e).2 Fence.wide 0 (mapZ C ys) w m (fun _ => trivial) ⟨rfl, rfl⟩ rfl (relZ hw) hl (frZ C ys hz)) ?_)
  rintro e1 w' ⟨ρ', u, s, rfl, hv⟩
  cases hv
  exact ⟨rfl, s.os, s.tape, s.output, s.size, fun k hk => staysZ hw s g0 hk⟩

/-- The code behind the first k + 1 parts of a row of codes. -/
def sufC : Nat → Code → Code
  | 0, .seq _ y => y
  | k + 1, .seq _ y => sufC k y
  | _, c => c
/-- The first k + 1 parts. -/
noncomputable def preF (P : Program) (X : Caller) (G : FuncId → Bool) (N : Nat) (q : Bool) : Nat → Code → Hd CF
  | 0, .seq x _ => cC P X G N q x
  | k + 1, .seq x y => (cC P X G N q x).bind fun a => (preF P X G N q k y).bind fun b => .mk fun call n sl h nx => RC.rec (motive := fun _ => RC) (fun e sl h nx => XT.rec (motive := fun _ => RC) (b call n sl h nx) .bad (fun _ => .bad) e) .bad (a call n sl h nx)
  | _, _ => .mk fun _ _ _ _ _ => .bad
/-- What the first parts' answer says. -/
def PreOk (P : Program) (N : Nat) (q : Bool) (c c' : Code) (f : T AV → T AO → Nat → RC) : Prop :=
  ∀ sl h nx sl' h' nx', f sl h nx = .ok .nrm sl' h' nx' → nx ≤ nx' ∧ ∀ (F : Fence) (n B : Nat) ρ a w (Q : Exit → Act → World → Prop), (∀ f, F.fn f) → Calm F → (q = true → F.round = none) → Rel ρ h.get w → SRel N ρ sl a → Fr ρ nx nx' → (q = true → Mk B h.get ρ w a.defers) →
    (∀ ρ' a' w', Stp ρ ρ' h.get h'.get w w' nx nx' → SRel N ρ' sl' a' → (q = true → Mk B h'.get ρ' w' a'.defers) → c'.wpIn F n P Q a' w') → c.wpIn F n P Q a w
theorem preF_ok {X call : Caller} {G : FuncId → Bool} {N : Nat} (hG : ∀ g, G g = true → fnOk P g = true) (hm : P.follows .mixedOrders = true) (hX : ExtOk P X) (hC : CallOk P call) (q : Bool) (n : Nat) : ∀ (k : Nat) (c : Code), PreOk P N q c (sufC k c) ((preF P X G N q k c).un call n) := by
  have bad : ∀ c c', PreOk P N q c c' fun _ _ _ => .bad := fun c c' sl h nx sl' h' nx' e => by cases e
  intro k
  induction k with
  | zero =>
    intro c
    cases c with
    | seq x y =>
      intro sl h nx sl' h' nx' e
      obtain ⟨l1, r1⟩ := cC_ok hG hm hX hC q n x _ _ _ _ _ _ _ (show (cC P X G N q x).un call n sl h nx = _ from e)
      exact ⟨l1, fun F n B ρ a w Q hF hD hro hR hS hf hM hQ => wpIn_seq (r1 F n B ρ a w _ hF hD hro hR hS hf hM fun ρ1 a1 w1 hs1 hS1 hd1 => hQ ρ1 a1 w1 hs1 hS1 hd1)⟩
    | _ => exact bad _ _
  | succ k ih =>
    intro c
    cases c with
    | seq x y =>
      intro sl h nx sl' h' nx' e
      simp only [preF, Hd.bind_eq, Hd.un_mk] at e
      cases e1 : (cC P X G N q x).un call n sl h nx with
      | bad => simp only [e1] at e; cases e
      | ok z sl1 h1 nx1 =>
        simp only [e1] at e
        obtain ⟨l1, r1⟩ := cC_ok hG hm hX hC q n x _ _ _ _ _ _ _ e1
        cases z with
        | ret => cases e
        | ex j => cases e
        | nrm =>
          have e : (preF P X G N q k y).un call n sl1 h1 nx1 = .ok .nrm sl' h' nx' := e
          obtain ⟨l2, r2⟩ := ih y _ _ _ _ _ _ e
          refine ⟨Nat.le_trans l1 l2, fun F n B ρ a w Q hF hD hro hR hS hf hM hQ => wpIn_seq (r1 F n B ρ a w _ hF hD hro hR hS (hf.left l2) hM fun ρ1 a1 w1 hs1 hS1 hd1 => ?_)⟩
          exact r2 F n B ρ1 a1 w1 Q hF hD hro hs1.rel hS1 (hs1.fr hf) hd1 fun ρ2 a2 w2 hs2 hS2 hd2 => hQ ρ2 a2 w2 (hs1.trans hs2) hS2 hd2
    | _ => exact bad _ _
/-- A number that may be any: the slot that holds it, the rests that it may have, by which number, the place that stands for it. -/
structure Any1 where
  t : Nat
  is : List Nat
  m : Nat
  id : Nat
/-- What is asked of all slots, for each choice of the rests. -/
noncomputable def allC (chk : T AV → Bool) : List Any1 → T AV → Bool
  | [], sl => chk sl
  | x :: ts, sl => and (onO (sl.get x.t) false fun v => eqV v (.y (.i .i64 x.id))) (allF (fun i => allC chk ts (sl.put x.t (.r false x.m i))) x.is)
/-- What a code's answer comes to, with the function's results. -/
noncomputable def outF (r : T AV → T AO → Option AV) (c : RC) : R := c.on .bad fun x sl h nx => x.on (onO (r sl h) .bad fun v => .ok v h nx) (onO (r sl h) .bad fun v => .ok v h nx) fun _ => .bad
/-- What is asked of a run of a function's body behind its first k + 1 parts. -/
noncomputable def restsF (P : Program) (X : Caller) (G : FuncId → Bool) (f : FuncId) (k : Nat) (ts : List Any1) : Hd (Caller → Nat → AVs → T AO → Nat → Bool) :=
  match P.funcs[f]? with
  | none => .mk fun _ _ _ _ _ => false
  | some fn => match fn.body with
    | none => .mk fun _ _ _ _ _ => false
    | some c => (preF P X G fn.ntmps true k c).bind fun p => (cC P X G fn.ntmps true (sufC k c)).bind fun s => (cRet P fn.results.toList).bind fun r => .mk fun call n l h nx => onB (Nat.ble (lenF l) fn.ntmps)
        ((p call n (ofF l 0 .nil) h nx).on false fun x sl h nx => x.on (and (Nat.ble nx zB) (allC (fun sl => isTZ (outF r (s call n sl h nx))) ts sl)) false fun _ => false) false
/-- A memory behind a run, whatever it is. -/
def Some1 (ρ : Map) (H : Heap) (nx : Nat) (w w' : World) : Prop := ∃ ρ' h' nx', Stp ρ ρ' H (T.get h') w w' nx nx' ∧ isG0 h' = true
/-- The rest of a number is one of these. -/
def Any1.In (x : Any1) (ρ : Map) : Prop := ∃ b C i, ρ x.id = some (b, C) ∧ i ∈ x.is ∧ VRel none_ (.r false x.m i) (.int .i64 (decI b))
theorem allC_rel {N : Nat} {ρ : Map} {a : Act} {chk : T AV → Bool} : ∀ {ts : List Any1} {sl : T AV}, SRel N ρ sl a → allC chk ts sl = true → (∀ x ∈ ts, x.In ρ) → ∃ sl', chk sl' = true ∧ SRel N ρ sl' a
  | [], sl, hS, e, _ => ⟨sl, e, hS⟩
  | x :: ts, sl, hS, e, hx => by
    have e : ((onO (sl.get x.t) false fun v => eqV v (.y (.i .i64 x.id))) && (allF (fun i => allC chk ts (sl.put x.t (.r false x.m i))) x.is)) = true := e
    rw [Bool.and_eq_true] at e
    obtain ⟨ey, ea⟩ := e
    have ey : sl.get x.t = some (.y (.i .i64 x.id)) := by
      cases hg : sl.get x.t with
      | none => rw [hg] at ey; cases ey
      | some v => rw [hg, onO_some] at ey; rw [eqV_eq _ _ ey]
    rw [allF_eq, List.all_eq_true] at ea
    obtain ⟨b, C, i, hid, hi, hr⟩ := hx x (List.mem_cons_self ..)
    refine allC_rel (ts := ts) ⟨hS.size, fun s v g => ?_⟩ (ea i hi) fun y hy => hx y (List.mem_cons_of_mem _ hy)
    rw [T.get_put] at g
    split at g
    · rename_i hst
      cases g; subst hst
      obtain ⟨q1, b', C', q2, q3⟩ := hS.get _ _ ey
      refine ⟨q1, ?_⟩
      rw [hid] at q2
      cases q2
      rw [q3]
      exact hr.mono (none_le _)
    · exact hS.get _ _ g
theorem rests_run {X call : Caller} {G : FuncId → Bool} (hG : ∀ g, G g = true → fnOk P g = true) (hm : P.follows .mixedOrders = true) (hX : ExtOk P X) (hC : CallOk P call) {n : Nat} {f : FuncId} {k : Nat} {ts : List Any1} {l : AVs} {h : T AO} {nx : Nat}
    (e : (restsF P X G f k ts).un call n l h nx = true) (F : Fence) (n' : Nat) (ρ : Map) (w : World) (mm : List Value) (hF : ∀ f, F.fn f) (hD : Calm F) (hro : F.round = none) (hR : Rel ρ h.get w) (hmm : VsRel ρ l mm) (hf : Fr ρ nx zB) (hts : ∀ x ∈ ts, x.In ρ) :
    CallsIn F n' P f mm.toArray w fun e w' => Some1 ρ h.get nx w w' ∧ e = .returned (.bool true) := by
  unfold restsF at e
  split at e
  · cases e
  · rename_i fn hfn
    split at e
    · cases e
    · rename_i c hc
      simp only [Hd.bind_eq, Hd.un_mk, onB_eq, lenF_eq, ofF_eq] at e
      obtain ⟨hlen, e⟩ : Nat.ble l.len fn.ntmps = true ∧ _ = true := by
        cases hb : Nat.ble l.len fn.ntmps with
        | false => rw [hb, cond_false] at e; cases e
        | true => rw [hb, cond_true] at e; exact ⟨rfl, e⟩
      rw [Nat.ble_eq] at hlen
      cases e1 : (preF P X G fn.ntmps true k c).un call n (ofA l 0 .nil) h nx with
      | bad => rw [e1] at e; cases e
      | ok x sl1 h1 nx1 =>
        rw [e1] at e
        cases x with
        | ret => cases e
        | ex j => cases e
        | nrm =>
          have e : (Nat.ble nx1 zB && allC (fun sl => isTZ (outF (cRet P fn.results.toList).un ((cC P X G fn.ntmps true (sufC k c)).un call n sl h1 nx1))) ts sl1) = true := e
          rw [Bool.and_eq_true, Nat.ble_eq] at e
          obtain ⟨hz1, ea⟩ := e
          obtain ⟨l1, r1⟩ := preF_ok hG hm hX hC true n k c _ _ _ _ _ _ e1
          refine callsIn_of_wp_marks hfn hc (hF f) ?_ hro
          refine r1 F n' w.heap.size ρ _ w _ hF hD (fun _ => hro) hR (start_rel hmm hlen) (hf.left hz1) (fun _ => Mk.nil (Nat.le_refl _)) fun ρ1 a1 w1 hs1 hS1 hd1 => ?_
          obtain ⟨sl', ec, hS2⟩ := allC_rel hS1 ea fun x hx => by
            obtain ⟨b, C, i, h1, h2, h3⟩ := hts x hx
            exact ⟨b, C, i, hs1.le _ _ h1, h2, h3⟩
          obtain ⟨h', nx', e2, g0, hz⟩ := isTZ_is ec
          cases e3 : (cC P X G fn.ntmps true (sufC k c)).un call n sl' h1 nx1 with
          | bad => rw [e3] at e2; cases e2
          | ok y sl2 h2 nx2 =>
            rw [e3] at e2
            obtain ⟨l2, r2⟩ := cC_ok hG hm hX hC true n _ _ _ _ _ _ _ _ e3
            have fin : h2 = h' ∧ nx2 = nx' ∧ (∃ q, evRes P sl2 h2 fn.results.toList = some q ∧ evRet q = .b true) ∧ (y = XT.nrm ∨ y = .ret) := by
              have key : onO ((cRet P fn.results.toList).un sl2 h2) R.bad (fun v => .ok v h2 nx2) = .ok (.b true) h' nx' → h2 = h' ∧ nx2 = nx' ∧ (∃ q, evRes P sl2 h2 fn.results.toList = some q ∧ evRet q = .b true) := by
                intro kk
                rw [cRet_eq] at kk
                cases hq : evRes P sl2 h2 fn.results.toList with
                | none => rw [hq] at kk; cases kk
                | some q =>
                  rw [hq] at kk
                  have kk : R.ok (evRet q) h2 nx2 = .ok (.b true) h' nx' := kk
                  injection kk with k1 k2 k3
                  exact ⟨k2, k3, q, rfl, k1⟩
              cases y with
              | ex _ => cases e2
              | nrm => obtain ⟨a, b, c⟩ := key e2; exact ⟨a, b, c, .inl rfl⟩
              | ret => obtain ⟨a, b, c⟩ := key e2; exact ⟨a, b, c, .inr rfl⟩
            obtain ⟨rfl, rfl, ⟨q, hq, hqv⟩, hx⟩ := fin
            refine r2 F n' w.heap.size ρ1 a1 w1 _ hF hD (fun _ => hro) hs1.rel hS2 (hs1.fr (hf.left hz)) hd1 fun ρ2 a2 w2 hs2 hS3 hd2 => ?_
            have hs := hs1.trans hs2
            have hl : LeavesInM F n' P fn a2.tmps (fun e w' => Some1 ρ h.get nx w w' ∧ e = .returned (.bool true)) a2.defers .returning w2 :=
              leaves_marks (Nat.le_refl _) (fun w3 hs3 => by
                obtain ⟨u, hu, hv⟩ := results_run (P := P) hs3.rel hS3 hq
                rw [hqv] at hv
                cases hv
                exact ⟨_, hu, ⟨ρ2, h2, nx2, hs3, g0⟩, rfl⟩) a2.defers w2 hs (hd2 rfl)
            rcases hx with rfl | rfl
            · exact hl
            · exact hl
/-- A statement whose run is parted: what it comes to. ys: the numbers that may be any. -/
theorem answerP {X K : Caller} {G : FuncId → Bool} (hG : ∀ g, G g = true → fnOk P g = true) (hm : P.follows .mixedOrders = true) (hX : ExtOk P X) (hK : CallOk P K) {n k : Nat} {f : FuncId} {ts : List Any1} {l : AVs} {m : List Value} {C : Nat} {ys : List (Nat × Nat)} (hl : VsRel (mapZ C ys) l m)
    (h : (restsF P X G f k ts).un (fvC P X G K n) n l heap0 nx0 = true) (hts : ∀ x ∈ ts, x.In (mapZ C ys)) (w : World) (hw : GlW C w) :
    Calls P f m.toArray w fun e w' => e = .returned (.bool true) ∧ Below w.heap.size w w' := by
  refine callsIn_wide.1 (CallsIn.mono (rests_run hG hm hX (fvC_ok hG hm hX hK n) h Fence.wide 0 (mapZ C ys) w _ (fun _ => trivial) ⟨rfl, rfl⟩ rfl (relZ hw) hl (frZ C _ (Nat.le_refl _)) hts) ?_)
  rintro e1 w' ⟨⟨ρ', h', nx', s, g0⟩, rfl⟩
  exact ⟨rfl, s.os, s.tape, s.output, s.size, fun k hk => staysZ hw s g0 hk⟩
/-- A number that may be any, by its place and by its rest. -/
theorem any1_in {C : Nat} {ys : List (Nat × Nat)} {z : Int} {t m j i : Nat} {is : List Nat} (h : ys[j]? = some (encI z, 0)) (hr : VRel none_ (.r false m i) (.int .i64 z)) (hi : i ∈ is) : Any1.In ⟨t, is, m, zB + j⟩ (mapZ C ys) :=
  ⟨_, _, i, mapZ_at h, hi, by rw [decI_encI]; exact hr⟩
end Go.Proofs.YteogphbdpjnjoaaGreat
