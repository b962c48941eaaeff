/- Rows that are made, copied, seen as texts; what lies outside. No Go program in this text. -/
import Derived.Test.YtmhnnfponloihaaDoorEvM2
import Derived.Lib.Builder
import Derived.Lib.UnsafeStr
import Derived.Lib.ConvBytes
import Derived.Laws.StructEq
set_option linter.unusedSimpArgs false
set_option linter.unusedVariables false
namespace Go.Proofs.YtmhnnfponloihaaDoor
open Go.RowKit
variable {ρ : Map} {P : Program} {N : Nat} {sl : T AV} {a : Act} {h : T AO} {w : World} {nx : Nat}

/-- A row that is made. -/
def makeTy (P : Program) (t : TypeId) : Option (TypeId × Nat × Nat × AV) := match rowTy P t with | some (e, n, z) => (match P.info? e with | some i => some (e, n, i.bytes, z) | none => none) | none => none
noncomputable def evMake (P : Program) (h : T AO) (nx : Nat) (t : TypeId) (len cap : AV) : R :=
  match makeTy P t, len, cap with
  | some (e, n, b, z), .i _ x, .i _ y => match natOf x, natOf y with
    | some l, some c => bif Nat.ble l c && (Nat.ble (Nat.mul b c) 281474976710656 && Nat.ble c 16777216) then
        (h.put nx (.cells (ofA (repl c z.cells) 0 .nil) (repl c z.cells).len e)).seq fun h => .ok (.sl nx 0 l c) h (Nat.succ nx)
      else .bad
    | _, _ => .bad
  | _, _, _ => .bad
theorem evMake_run (hR : Rel ρ h.get w) {t : TypeId} {x y : AV} {x' y' : Value} (hx : VRel ρ x x') (hy : VRel ρ y y') {r : AV} {h' : T AO} {nx' : Nat} (e : evMake P h nx t x y = .ok r h' nx') (hf : Fr ρ nx nx') :
    ∃ ρ' u w', (Instr.makeSlice t x' y').run P w = .ok u w' ∧ VRel ρ' r u ∧ Stp ρ ρ' h.get h'.get w w' nx nx' := by
  unfold evMake at e
  split at e
  · rename_i el n b z k1 x1 k2 y1 hT
    split at e
    · rename_i l c hl hc
      obtain ⟨h1, e⟩ := bif_ok e
      rw [Bool.and_eq_true, Bool.and_eq_true, Nat.ble_eq, Nat.ble_eq, Nat.ble_eq] at h1
      obtain ⟨hlc, hb, hc16⟩ := h1
      rw [T.seq_eq] at e; cases e
      have e1 := natOf_eq hl; have e2 := natOf_eq hc
      subst e1; subst e2
      cases hx; cases hy
      have hf' : ρ nx = none := hf nx (Nat.le_refl _) (Nat.lt_succ_self _)
      unfold makeTy at hT
      split at hT
      · rename_i e' n' z' hrow
        split at hT <;> cases hT
        rename_i i hi
        obtain ⟨hu, hn, hz, hzl, hn0⟩ := rowTy_is hrow
        obtain ⟨zv, hzr, hzv⟩ := zero_run (ρ := ρ) hz
        have hzc := hzv.cells
        have hzs : zv.cells.size = n := by have := hzc.len; rw [hzl] at this; simpa using this.symm
        have hsz : i.size = n := by unfold sizeTy at hn; simpa [hi] using hn
        have hrr := repl_rel hzc c
        have hw1 : IntKind.i64.wrap (l : Int) = l := IntWalk.i64_in _ (by omega)
        have hw2 : IntKind.i64.wrap (c : Int) = c := IntWalk.i64_in _ (by omega)
        have hbb : i.bytes * c ≤ 281474976710656 := hb
        have hbl : i.bytes * l ≤ 281474976710656 := Nat.le_trans (Nat.mul_le_mul_left _ hlc) hbb
        have hb1 : ¬ ((281474976710656 : Int) < (i.bytes : Int) * (c : Int)) := by
          have : ((i.bytes * c : Nat) : Int) ≤ ((281474976710656 : Nat) : Int) := Int.ofNat_le.mpr hbb
          rw [Int.natCast_mul] at this; omega
        have hnl : ¬ ((c : Int) < (l : Int)) := by omega
        by_cases hc0 : c * n = 0
        · have hc00 : c = 0 := by rcases Nat.mul_eq_zero.1 hc0 with h | h; exact h; omega
          subst hc00
          have hl0 : l = 0 := by omega
          subst hl0
          refine ⟨ρ.set nx (w.heap.size, 0), .slice (some ⟨w.heap.size, 0, none⟩) 0 0, w.alloc (.cells #[] el), ?_, ⟨w.heap.size, 0, set_self _ _ _, rfl⟩, new_stp hR hf' el (m := []) (by simp [repl, VsRel]) #[] (fun k hk => by simp) rfl _ rfl rfl rfl rfl⟩
          simp [Instr.makeSlice, run_underlying hu, asInt, asIntOf, typeInfo, hi, sizeOf, newRow, World.alloc_eq, IntWalk.i64_in 0 (by omega)]
          simp [Array.range_zero']
        · have hcells : ((Array.range (c * n)).map (fun i => zv.cells[i % zv.cells.size]!)).toList = (List.replicate c zv.cells.toList).flatten := by rw [← hzs]; exact rangeZ zv.cells c (by omega)
          refine ⟨ρ.set nx (w.heap.size, 0), .slice (some ⟨w.heap.size, 0, none⟩) l c, w.alloc (.cells ((Array.range (c * n)).map (fun i => zv.cells[i % zv.cells.size]!)) el), ?_, ⟨w.heap.size, 0, set_self _ _ _, rfl⟩,
            new_stp hR hf' el hrr _ (fun k hk => by rw [← hcells]; exact Array.getElem?_toList.symm) (by rw [← hcells, Array.length_toList]) _ rfl rfl rfl rfl⟩
          simp only [Instr.makeSlice, Sem.run_bind, run_underlying hu, Result.andThen_ok, asInt, asIntOf, Sem.run_pure, typeInfo, run_program, hi, hw1, hw2]
          have hcn : ¬ ((c : Int) < 0) := by omega
          have hln : ¬ ((l : Int) < 0) := by omega
          simp [hcn, hln, hb1, hnl, sizeOf, typeInfo, hi, hsz, hc0, hzr, newRow, World.alloc_eq]
      · cases hT
    · cases e
  · cases e
/-- A row copied onto another one. -/
noncomputable def evCopy (P : Program) (h : T AO) (nx : Nat) (t : TypeId) (d s : AV) : R :=
  match rowTy P t with
  | some (e, z, _) => match evNews h z s with
    | some (n, l) => bif (match s with | .s _ _ => Nat.beq z 1 | _ => true) && l.ones then match d with
      | .sl id off len _ => match h.get id with
        | some o => match o.tr with
          | some tr => bif Nat.ble n len then (match writeN l off tr with
            | some t' => (h.put id (o.setTr t')).seq fun h => .ok (.i .i64 (.ofNat n)) h nx
            | none => .bad) else .bad
          | none => .bad
        | none => .bad
      | .gs _ len => bif Nat.beq n 0 then .ok (.i .i64 (.ofNat 0)) h nx else .bad
      | .ns => bif Nat.beq n 0 then .ok (.i .i64 (.ofNat 0)) h nx else .bad
      | _ => .bad
      else .bad
    | none => .bad
  | none => .bad
theorem evCopy_run (hR : Rel ρ h.get w) {t u ty : TypeId} {d s : AV} {d' s' : Value} (hd : VRel ρ d d') (hs : VRel ρ s s') {r : AV} {h' : T AO} {nx' : Nat} (e : evCopy P h nx t d s = .ok r h' nx') :
    ∃ v w', (Builtin.copy_ #[t, u] ty #[d', s']).run P w = .ok v w' ∧ VRel ρ r v ∧ Stp ρ ρ h.get h'.get w w' nx nx' := by
  unfold evCopy at e
  split at e
  · rename_i el z zv hrow
    obtain ⟨hu, hn, hz, hzl, hn0⟩ := rowTy_is hrow
    split at e
    · rename_i n l hl
      obtain ⟨hxz, e2⟩ := bif_ok e
      clear e; have e := e2; clear e2
      rw [Bool.and_eq_true] at hxz
      obtain ⟨m, hm, hmr, hlen, hfirst⟩ := evNews_run (P := P) hR hs hl (by rintro ⟨k, d, rfl⟩; simpa [Nat.beq_eq] using hxz.1)
      have hll := hmr.len
      split at e
      · rename_i id off len cap
        obtain ⟨b, C, hb, rfl⟩ := hd
        split at e
        · rename_i o hid
          split at e
          · rename_i tr htr
            obtain ⟨hle, e⟩ := bif_ok e
            rw [Nat.ble_eq] at hle
            split at e
            · rename_i t' ht'
              rw [T.seq_eq] at e; cases e
              obtain ⟨w', hst, hstp⟩ := write_stp (P := P) (nx := nx) hR hid htr hb hmr hxz.2 ht'
              have hmin : Nat.min n len = n := Nat.min_eq_left hle
              refine ⟨.int .i64 n, w', ?_, rfl, hstp⟩
              simp only [Builtin.copy_, List.getElem?_toArray, List.getElem?_cons_zero, List.getElem?_cons_succ, Sem.run_bind, run_underlying hu, Result.andThen_ok, hlen, sizeOf_run hn, hmin, hfirst w rfl, hst, Sem.run_pure, goInt]
            · cases e
          · cases e
        · cases e
      · rename_i id len
        obtain ⟨b, C, hb, rfl, _⟩ := hd
        obtain ⟨hn0', e⟩ := bif_ok e
        rw [Nat.beq_eq] at hn0'
        subst hn0'
        cases e
        have hm0 : m = [] := List.eq_nil_of_length_eq_zero (by omega)
        subst hm0
        have hmin : Nat.min 0 len = 0 := Nat.zero_min _
        refine ⟨.int .i64 (0 : Nat), w, ?_, rfl, Stp.refl hR⟩
        simp only [Builtin.copy_, List.getElem?_toArray, List.getElem?_cons_zero, List.getElem?_cons_succ, Sem.run_bind, run_underlying hu, Result.andThen_ok, hlen, sizeOf_run hn, hmin, hfirst w rfl, storeCells, Sem.run_pure, goInt]
      · cases hd
        obtain ⟨hn0', e⟩ := bif_ok e
        rw [Nat.beq_eq] at hn0'
        subst hn0'
        cases e
        have hm0 : m = [] := List.eq_nil_of_length_eq_zero (by omega)
        subst hm0
        have hmin : Nat.min 0 0 = 0 := rfl
        refine ⟨.int .i64 (0 : Nat), w, ?_, rfl, Stp.refl hR⟩
        simp only [Builtin.copy_, List.getElem?_toArray, List.getElem?_cons_zero, List.getElem?_cons_succ, Sem.run_bind, run_underlying hu, Result.andThen_ok, hlen, sizeOf_run hn, hmin, hfirst w rfl, Sem.run_pure, goInt]
      · cases e
    · cases e
  · cases e
/-- Bytes as a text's number. -/
noncomputable def bytesNum : AVs → Option Nat
  | .nil => some 0
  | .cons (.i .u8 (.ofNat k)) l => bif ltN k 256 then (match bytesNum l with | some d => some (Nat.add k (Nat.mul 256 d)) | none => none) else none
  | _ => none
theorem bytesNum_rel : ∀ {l : AVs} {d : Nat} {m : List Value}, bytesNum l = some d → VsRel ρ l m → ∃ bs : List UInt8, m = bs.map (fun b => Value.int .u8 b.toNat) ∧ numOf bs = d
  | .nil, d, m, e, h => by simp only [bytesNum] at e; cases e; simp only [VsRel] at h; subst h; exact ⟨[], rfl, rfl⟩
  | .cons a l, d, m, e, ⟨v, r, hm, hv, hr⟩ => by
    subst hm
    cases a with
    | i kd n =>
      cases kd with
      | u8 =>
        cases n with
        | ofNat k =>
          simp only [bytesNum] at e
          obtain ⟨h1, e⟩ := bif_some' e
          rw [ltN_eq, decide_eq_true_iff] at h1
          split at e <;> cases e
          rename_i d' hd
          obtain ⟨bs, rfl, h3⟩ := bytesNum_rel hd hr
          cases hv
          refine ⟨UInt8.ofNat k :: bs, ?_, ?_⟩
          · simp only [List.map_cons, ofNat_toNat h1]; rfl
          · simp only [numOf, ofNat_toNat h1, h3]; rfl
        | negSucc k => simp [bytesNum] at e
      | _ => simp [bytesNum] at e
    | _ => simp [bytesNum] at e
/-- A row of bytes seen as a text; it is not asked for again. -/
def ptrTy (P : Program) (t : TypeId) : Option TypeId := match P.underlying t with | some (.pointer e) => bif Nat.beq (P.cellsOf e) 1 then some e else none | _ => none
noncomputable def evUStr (P : Program) (h : T AO) (nx : Nat) (t : TypeId) (x n : AV) : R :=
  match x, n with
  | .np, .i .i64 k => bif eqI k 0 then .ok (.s 0 0) h nx else .bad
  | .p id off, .i .i64 k => bif eqI k 0 then .ok (.s 0 0) h nx else match natOf k, ptrTy P t with
    | some n, some e => bif Nat.beq off 0 && Nat.ble n 9223372036854775807 then match h.get id with
      | some o => match o.tr with
        | some tr => bif Nat.beq o.ty e then match readN tr n 0 with
          | some l => match bytesNum l with
            | some d => (h.del id).seq fun h => .ok (.s n d) h nx
            | none => .bad
          | none => .bad
          else .bad
        | none => .bad
      | none => .bad
      else .bad
    | _, _ => .bad
  | _, _ => .bad
theorem evUStr_run (hR : Rel ρ h.get w) {t it ty : TypeId} {x n : AV} {x' n' : Value} (hx : VRel ρ x x') (hn : VRel ρ n n') {r : AV} {h' : T AO} {nx' : Nat} (e : evUStr P h nx t x n = .ok r h' nx') :
    ∃ v w', (Builtin.unsafeString_ #[t, it] ty #[x', n']).run P w = .ok v w' ∧ VRel ρ r v ∧ Stp ρ ρ h.get h'.get w w' nx nx' := by
  unfold evUStr at e
  split at e
  · rename_i k
    cases hx; cases hn
    obtain ⟨h1, e⟩ := bif_ok e
    rw [eqI_eq, decide_eq_true_iff] at h1
    subst h1; cases e
    exact ⟨_, w, Lib.run_unsafeString_none w _ _ _ _, ⟨.empty, rfl, rfl, by simp⟩, Stp.refl hR⟩
  · rename_i id off k
    obtain ⟨b, C, hb, rfl⟩ := hx
    cases hn
    by_cases hk : k = 0
    · subst hk
      have : eqI 0 0 = true := rfl
      rw [this, cond_true] at e; cases e
      exact ⟨_, w, Lib.run_unsafeString_none w _ _ _ _, ⟨.empty, rfl, rfl, by simp⟩, Stp.refl hR⟩
    · have : eqI k 0 = false := by rw [eqI_eq]; exact decide_eq_false hk
      rw [this, cond_false] at e
      split at e
      · rename_i m el hm hel
        have := natOf_eq hm; subst this
        obtain ⟨h1, e2⟩ := bif_ok e
        clear e; have e := e2; clear e2
        rw [Bool.and_eq_true, Nat.beq_eq, Nat.ble_eq] at h1
        obtain ⟨hoff, h63⟩ := h1
        subst hoff
        split at e
        · rename_i o hid
          split at e
          · rename_i tr htr
            obtain ⟨hty, e2⟩ := bif_ok e
            clear e; have e := e2; clear e2
            rw [Nat.beq_eq] at hty
            split at e
            · rename_i l hl
              split at e
              · rename_i d hd
                rw [T.seq_eq] at e; cases e
                obtain ⟨cc, hblk, hc⟩ := rel_block hR hid htr hb
                obtain ⟨ml, hml, hmr, hcell, _⟩ := readN_run (P := P) hblk hc hl
                have hle := readN_le hc _ _ hl (by omega)
                obtain ⟨bs, rfl, hnum⟩ := bytesNum_rel hd hmr
                have hbl : bs.length = m := by simpa using hml
                have hptr : P.underlying t = some (.pointer el) ∧ P.cellsOf el = 1 := by
                  unfold ptrTy at hel
                  split at hel
                  · obtain ⟨q1, q2⟩ := bif_some hel
                    cases q2
                    rw [Nat.beq_eq] at q1
                    rename_i hq
                    exact ⟨hq, q1⟩
                  · cases hel
                have hsh : w.shape? b = some (el, cc.size) := by rw [← hty]; simp [World.shape?, hblk]
                have hrun := Lib.run_unsafeString_row (P := P) w t it ty el hptr.1 hptr.2 b cc.size hsh bs (by intro q; subst q; simp at hbl; omega) (by omega) (by omega) (fun j x hj => hcell j _ (by simp [hj]))
                rw [hbl] at hrun
                refine ⟨_, _, hrun, ⟨_, rfl, ?_⟩, Stp.del hR hid hb _ ?_ ?_ ?_ ?_ ?_⟩
                · refine ⟨?_, ?_⟩
                  · show bs = _
                    rw [← hnum, ← hbl, bytesOf_numOf]
                  · rw [← hnum, ← hbl]; exact numOf_lt bs
                all_goals unfold World.freeze
                · split <;> rfl
                · split <;> rfl
                · split <;> rfl
                · split <;> simp
                · intro k hk
                  split
                  · rfl
                  · simp only [Array.getElem?_modify]
                    rw [if_neg (Ne.symm hk)]
              · cases e
            · cases e
          · cases e
        · cases e
      · cases e
  · cases e
noncomputable def evSData (x : AV) : Option AV :=
  match x with
  | .ns => some .np
  | .sl id off _ cap => bif Nat.ble 1 cap then some (.p id off) else none
  | .gs id len => bif Nat.ble 1 len then some (.p id 0) else none
  | _ => none
theorem sdata_run {ts : Array TypeId} {ty : TypeId} {ad : Addr} {n c : Nat} (hc : c ≠ 0) (w : World) : (Builtin.unsafeSliceData_ ts ty #[.slice (some ad) n c]).run P w = .ok (.pointer (some ad)) w := by
  have hdef : Builtin.unsafeSliceData_ ts ty #[.slice (some ad) n c] =
      (do
        if c ≠ 0 then pure (.pointer (some ad))
        else if (← viewAt ad.block).isSome then pure (.pointer (some ad))
        else pure (.pointer (some ⟨← newObj (.view ad (← elemOf ty)), 0, none⟩))) := rfl
  rw [hdef, if_pos hc]; rfl
theorem evSData_run {x : AV} {x' : Value} (hx : VRel ρ x x') {ts : Array TypeId} {ty : TypeId} {v : AV} (e : evSData x = some v) : ∃ u, (∀ w, (Builtin.unsafeSliceData_ ts ty #[x']).run P w = .ok u w) ∧ VRel ρ v u := by
  unfold evSData at e
  split at e
  · cases hx; cases e; exact ⟨_, fun w => rfl, rfl⟩
  · obtain ⟨b, C, hb, rfl⟩ := hx
    obtain ⟨h1, rfl⟩ := bif_some e
    rw [Nat.ble_eq] at h1
    exact ⟨_, fun w => sdata_run (by omega) w, b, C, hb, rfl⟩
  · obtain ⟨b, C, hb, rfl, hle⟩ := hx
    obtain ⟨h1, rfl⟩ := bif_some e
    rw [Nat.ble_eq] at h1
    exact ⟨_, fun w => sdata_run (by omega) w, b, C, hb, rfl⟩
  · cases e
/-- A text as a row of bytes that is only read. -/
def sbTy (P : Program) (s d : TypeId) : Option TypeId :=
  match P.underlying s, P.underlying d with
  | some .string, some (.slice e) => match P.underlying e with | some (.int .u8) => some e | _ => none
  | _, _ => none
noncomputable def evSBytes (P : Program) (h : T AO) (nx : Nat) (s d : TypeId) (x : AV) : R :=
  match sbTy P s d, x with
  | some _, .s n k => (h.put nx (.ro (ofA (bytesAV n k) 0 .nil))).seq fun h => .ok (.su nx 0 n) h (Nat.succ nx)
  | _, _ => .bad
theorem evSBytes_run (hR : Rel ρ h.get w) {s d : TypeId} {x : AV} {x' : Value} (hx : VRel ρ x x') {r : AV} {h' : T AO} {nx' : Nat} (e : evSBytes P h nx s d x = .ok r h' nx') (hf : Fr ρ nx nx') :
    ∃ ρ' u w', (convert s d x').run P w = .ok u w' ∧ VRel ρ' r u ∧ Stp ρ ρ' h.get h'.get w w' nx nx' := by
  unfold evSBytes at e
  split at e
  · rename_i el n k hT
    rw [T.seq_eq] at e; cases e
    obtain ⟨st, rfl, hs⟩ := hx
    have hf' : ρ nx = none := hf nx (Nat.le_refl _) (Nat.lt_succ_self _)
    have hty : P.underlying s = some .string ∧ P.underlying d = some (.slice el) ∧ P.underlying el = some (.int .u8) := by
      unfold sbTy at hT
      split at hT
      · rename_i e' h1 h2
        split at hT <;> cases hT
        rename_i h3
        exact ⟨h1, h2, h3⟩
      · cases hT
    obtain ⟨t1, t2, t3⟩ := hty
    have hge : st.size ≤ grownCap w st.size 0 el := grownCap_ge _ _ _ _
    have hsz := hs.size
    subst hsz
    have hrel := bytesAV_rel (ρ := ρ.set nx (w.heap.size, 0)) st.size k
    rw [← hs.by_] at hrel
    have hh : (Lib.bytesWorld w el st).heap = w.heap.push (.cells (Lib.bytesCells w el st) el ((Lib.bytesCells w el st).size, (Lib.bytesCells w el st).size + 1)) := by
      apply Array.ext_getElem?
      intro j
      rcases Nat.lt_trichotomy j w.heap.size with h1 | h1 | h1
      · rw [Lib.bytesWorld_at_old w el st j h1, Array.getElem?_push, if_neg (by omega)]
      · subst h1; rw [Lib.bytesWorld_at_new]; simp
      · have h2 := Lib.bytesWorld_size w el st
        rw [Array.getElem?_eq_none (by omega), Array.getElem?_eq_none (by simp; omega)]
    refine ⟨ρ.set nx (w.heap.size, 0), .slice (some ⟨w.heap.size, 0, none⟩) st.size (grownCap w st.size 0 el), Lib.bytesWorld w el st, Lib.run_convert_string_bytes w s d el st t1 t2 t3, ⟨w.heap.size, 0, 0, _, set_self _ _ _, rfl, hge, fun _ => rfl⟩,
      Stp.new_ hR hf' _ (.ro (ofA (bytesAV st.size k) 0 .nil)) 0 ⟨_, _, _, rfl, CRel.of_avs hrel fun j hj => ?_⟩ _ rfl rfl rfl hh⟩
    have hjn : j < st.data.size := by simpa using hj
    simp [Lib.bytesCells, Array.getElem?_append, hjn]
    try (intro hq; have : st.size = st.data.size := rfl; omega)
  · cases e
/-- A pointer to what is of no type, and back. -/
def unsTy (P : Program) (s d : TypeId) : Nat × TypeId :=
  match P.underlying s, P.underlying d with
  | some (.pointer t), some .unsafePointer => match sizeTy P t with | some n => (bif Nat.beq n 0 then 0 else 1, t) | none => (0, 0)
  | some .unsafePointer, some (.pointer u) => match sizeTy P u with | some _ => (2, u) | none => (0, 0)
  | _, _ => (0, 0)
noncomputable def evUns (P : Program) (h : T AO) (s d : TypeId) (x : AV) : Option AV :=
  match x with
  | .p id off => match h.get id with
    | some (.cells tr n e) => match unsTy P s d with
      | (1, _) => bif ltN off n then some (.p id off) else none
      | (2, u) => bif liesAt P P.depth e (n / P.cellsOf e) off u 1 then some (.p id off) else none
      | _ => none
    | _ => none
  | _ => none
theorem evUns_run (hR : Rel ρ h.get w) {s d : TypeId} {x : AV} {x' : Value} (hx : VRel ρ x x') {v : AV} (e : evUns P h s d x = some v) : ∃ u, (convert s d x').run P w = .ok u w ∧ VRel ρ v u := by
  unfold evUns at e
  split at e
  · rename_i id off
    obtain ⟨b, C, hb, rfl⟩ := hx
    split at e
    · rename_i tr n el hid
      obtain ⟨b', C', ob, k1, k2, k3⟩ := hR.has id _ hid
      rw [hb] at k1; cases k1
      obtain ⟨c, rfl, hsz, _⟩ := k3
      have hsh : w.shape? b = some (el, n) := by simp [World.shape?, k2, hsz]
      have hty : (∀ t, unsTy P s d = (1, t) → P.underlying s = some (.pointer t) ∧ P.underlying d = some .unsafePointer ∧ ∃ i, P.info? t = some i ∧ i.size ≠ 0) ∧ (∀ u, unsTy P s d = (2, u) → P.underlying s = some .unsafePointer ∧ P.underlying d = some (.pointer u) ∧ ∃ i, P.info? u = some i) := by
        unfold unsTy
        split
        · rename_i t h1 h2
          cases g : sizeTy P t with
          | none => simp [g]
          | some k =>
            have hi : ∃ i, P.info? t = some i ∧ i.size = k := by
              unfold sizeTy at g
              cases q : P.info? t with
              | none => simp [q] at g
              | some i => simp [q] at g; exact ⟨i, rfl, g⟩
            obtain ⟨i, hi1, hi2⟩ := hi
            by_cases hk : k = 0
            · simp [hk, beq_t]
            · simp only [beq_f hk, cond_false]
              refine ⟨fun t' ht => ?_, fun u hu => by cases hu⟩
              cases ht
              exact ⟨h1, h2, i, hi1, by omega⟩
        · rename_i u h1 h2
          cases g : sizeTy P u with
          | none => simp [g]
          | some k =>
            have hi : ∃ i, P.info? u = some i := by
              unfold sizeTy at g
              cases q : P.info? u with
              | none => simp [q] at g
              | some i => exact ⟨i, rfl⟩
            refine ⟨fun t' ht => (by cases ht), fun u' hu => ?_⟩
            cases hu
            exact ⟨h1, h2, hi⟩
        · simp
      split at e
      · rename_i t ht
        obtain ⟨h1, rfl⟩ := bif_some e
        rw [ltN_eq, decide_eq_true_iff] at h1
        obtain ⟨q1, q2, i, q3, q4⟩ := hty.1 _ ht
        exact ⟨_, Lib.run_to_unsafe w ⟨b, off, none⟩ q1 q2 q3 q4 hsh h1, b, C, hb, rfl⟩
      · rename_i u hu
        obtain ⟨h1, rfl⟩ := bif_some e
        obtain ⟨q1, q2, i, q3⟩ := hty.2 _ hu
        exact ⟨_, Lib.run_from_unsafe w ⟨b, off, none⟩ q1 q2 q3 hsh h1, b, C, hb, rfl⟩
      · cases e
    · cases e
  · cases e
/-- Two pointers into one block. -/
noncomputable def evPtr (P : Program) (op : BinOp) (t : TypeId) (x y : AV) : Option AV :=
  match x, y with
  | .p i o, .p j q => match P.underlying t with
    | some (.pointer e) => match sizeTy P e with
      | some n => bif Nat.beq i j && !(Nat.beq n 0) then (match op with | .eql => some (.b (Nat.beq o q)) | .neq => some (.b (!(Nat.beq o q))) | _ => none) else none
      | none => none
    | _ => none
  | _, _ => none
theorem evPtr_run {op : BinOp} {t : TypeId} {ox oy : Operand} {x y : AV} {x' y' : Value} (hx : VRel ρ x x') (hy : VRel ρ y y') {v : AV} (h : evPtr P op t x y = some v) :
    ∃ u, (∀ w, (do eqGuard op t ox oy x' y'; binOp op t x' y' : Sem Value).run P w = .ok u w) ∧ VRel ρ v u := by
  unfold evPtr at h
  split at h
  · rename_i i o j q
    obtain ⟨b, C, hb, rfl⟩ := hx
    obtain ⟨b2, C2, hb2, rfl⟩ := hy
    split at h
    · rename_i e hu
      split at h
      · rename_i n hn
        obtain ⟨h1, h2⟩ := bif_some' h
        clear h; have h := h2; clear h2
        rw [Bool.and_eq_true, Nat.beq_eq, Bool.not_eq_true', beq_eq, decide_eq_false_iff_not] at h1
        obtain ⟨rfl, hn0⟩ := h1
        rw [hb] at hb2; cases hb2
        have key : ∀ w, (Op.equal t (.pointer (some ⟨b, o, none⟩)) (.pointer (some ⟨b, q, none⟩))).run P w = .ok (decide (o = q)) w := by
          intro w
          have he : Op.equal t (.pointer (some ⟨b, o, none⟩)) (.pointer (some ⟨b, q, none⟩)) = Op.equalIn (9999 + 1) t (.pointer (some ⟨b, o, none⟩)) (.pointer (some ⟨b, q, none⟩)) := rfl
          rw [he]; clear he
          generalize 9999 = dp
          simp [Op.equalIn, run_underlying hu, sizeOf_run hn, hn0, sameAddr]
          rw [Bool.eq_iff_iff, beq_iff_eq, decide_eq_true_iff]; simp
        have hg : ∀ w, (eqGuard op t ox oy (.pointer (some ⟨b, o, none⟩)) (.pointer (some ⟨b, q, none⟩))).run P w = .ok () w := fun w => by cases op <;> rfl
        split at h <;> cases h
        · exact ⟨.bool (decide (o = q)), fun w => by simp only [Sem.run_bind, hg, Result.andThen_ok]; show ((do pure (.bool (← Op.equal t (.pointer (some ⟨b, o, none⟩)) (.pointer (some ⟨b, q, none⟩)))) : Sem Value)).run P w = _; simp [key], by rw [beq_eq]; rfl⟩
        · exact ⟨.bool (!decide (o = q)), fun w => by simp only [Sem.run_bind, hg, Result.andThen_ok]; show ((do pure (.bool (!(← Op.equal t (.pointer (some ⟨b, o, none⟩)) (.pointer (some ⟨b, q, none⟩))))) : Sem Value)).run P w = _; simp [key], by rw [beq_eq]; rfl⟩
      · cases h
    · cases h
  · cases h
/-- Two of one plain type. -/
noncomputable def evScal (P : Program) (t : TypeId) (x y : AV) : Option Bool :=
  match P.underlying t, x, y with
  | some (.int _), .i j a, .i k b => bif eqK j k then some (eqI a b) else none
  | some .bool, .b a, .b b => some (a == b)
  | some .string, .s n d, .s m e => some (Nat.beq n m && Nat.beq d e)
  | _, _, _ => none
theorem evScal_run {t : TypeId} {x y : AV} {x' y' : Value} (hx : VRel ρ x x') (hy : VRel ρ y y') {r : Bool} (h : evScal P t x y = some r) (d : Nat) (w : World) : (Op.equalIn (d + 1) t x' y').run P w = .ok r w := by
  unfold evScal at h
  split at h
  · rename_i kk j a k b hu
    obtain ⟨h1, h2⟩ := bif_some h
    have := eqK_eq h1; subst this
    cases hx; cases hy
    subst h2
    rw [run_equalIn_int w d t _ kk a b hu, eqI_eq]
    congr 1
  · rename_i a b hu
    cases h; cases hx; cases hy
    exact run_equalIn_bool' w d t a b hu
  · rename_i n1 d1 m1 e1 hu
    cases h
    obtain ⟨s1, rfl, h1⟩ := hx
    obtain ⟨s2, rfl, h2⟩ := hy
    rw [run_equalIn_string w d t s1 s2 hu, h1.beq h2]
  · cases h
noncomputable def evFields (P : Program) (l m : AVs) : List Field → Option Bool
  | [] => some true
  | f :: fs => bif f.name == "_" then none else match evPart P f.type l f.offset, evPart P f.type m f.offset with
    | some x, some y => match evScal P f.type x y with
      | some true => evFields P l m fs
      | some false => some false
      | none => none
    | _, _ => none
theorem evFields_run {l m : AVs} {c d : Array Value} (hc : VsRel ρ l c.toList) (hd : VsRel ρ m d.toList) (k : Nat) (w : World) : ∀ {fs : List Field} {r : Bool}, evFields P l m fs = some r → (Op.eqFields (k + 1) c d fs).run P w = .ok r w
  | [], r, e => by simp only [evFields] at e; cases e; rfl
  | f :: fs, r, e => by
    simp only [evFields] at e
    cases hn : f.name == "_" with
    | true => simp [hn] at e
    | false =>
      rw [hn, cond_false] at e
      have hne : f.name ≠ "_" := by simpa using hn
      split at e
      · rename_i x y hx hy
        obtain ⟨u, hu1, hu2⟩ := evPart_run hc hx
        obtain ⟨v, hv1, hv2⟩ := evPart_run hd hy
        split at e
        · rename_i hs
          have := evScal_run (P := P) hu2 hv2 hs k w
          simp only [Op.eqFields, if_pos hne, Sem.run_bind, hu1 w, Result.andThen_ok, hv1 w, this]
          simpa using evFields_run hc hd k w e
        · rename_i hs
          cases e
          have := evScal_run (P := P) hu2 hv2 hs k w
          simp only [Op.eqFields, if_pos hne, Sem.run_bind, hu1 w, Result.andThen_ok, hv1 w, this]
          simp
        · cases e
      · cases e
/-- Two structs. -/
def structTy (P : Program) (t : TypeId) : Bool :=
  (match P.underlying t with | some (.struct _) => true | _ => false) && (!P.stoodInHeld t && !P.eqGuardType P.depth t)
noncomputable def evStructEq (P : Program) (op : BinOp) (t : TypeId) (x y : AV) : Option AV :=
  match x, y with
  | .agg l, .agg m => bif structTy P t then match evFields P l m (P.fieldsOf t).toList with
    | some r => (match op with | .eql => some (.b r) | .neq => some (.b (!r)) | _ => none)
    | none => none else none
  | _, _ => none
theorem evStructEq_run {op : BinOp} {t : TypeId} {ox oy : Operand} {x y : AV} {x' y' : Value} (hx : VRel ρ x x') (hy : VRel ρ y y') {v : AV} (h : evStructEq P op t x y = some v) :
    ∃ u, (∀ w, (do eqGuard op t ox oy x' y'; binOp op t x' y' : Sem Value).run P w = .ok u w) ∧ VRel ρ v u := by
  unfold evStructEq at h
  split at h
  · rename_i l m
    obtain ⟨c, rfl, hc⟩ := hx
    obtain ⟨d, rfl, hd⟩ := hy
    obtain ⟨h1, h2⟩ := bif_some' h
    clear h; have h := h2; clear h2
    unfold structTy at h1
    rw [Bool.and_eq_true, Bool.and_eq_true, Bool.not_eq_true', Bool.not_eq_true'] at h1
    obtain ⟨hs, hp, hg⟩ := h1
    have ht : P.underlying t = some (.struct (P.fieldsOf t)) := by
      unfold Program.fieldsOf
      split at hs
      · rename_i fs hu; simp [hu]
      · cases hs
    split at h
    · rename_i r hr
      have key : ∀ w, (Op.equalIn 10000 t (.agg c) (.agg d)).run P w = .ok r w := fun w => by
        rw [run_equalIn_struct w 9999 t c d ht hp]
        exact evFields_run hc hd 9998 w hr
      have hg' : ∀ w, (eqGuard op t ox oy (.agg c) (.agg d)).run P w = .ok () w := fun w => run_eqGuard_agg w op t ox oy c d hg
      split at h <;> cases h
      · exact ⟨.bool r, fun w => by simp only [Sem.run_bind, hg', Result.andThen_ok, run_eql_struct, key], rfl⟩
      · exact ⟨.bool (!r), fun w => by simp only [Sem.run_bind, hg', Result.andThen_ok, run_neq_struct, key], rfl⟩
    · cases h
  · cases h
end Go.Proofs.YtmhnnfponloihaaDoor
