/- Contract of tree.bareMethod. -/
import Derived.Test.YtlpddmncgmhkeaaBareB
import Derived.Deep.DeepCutAuto
import Derived.Deep.RegionHeld3
set_option linter.unusedSimpArgs false
set_option linter.unusedVariables false
namespace Go.Proofs.Ytlpddmncgmhkeaa
open Go.RowKit
theorem set_same {α : Type} : ∀ (l : List α) (i : Nat) (a : α), l[i]? = some a → l.set i a = l
  | [], _, _, h => by simp at h
  | x :: l, 0, a, h => by simp at h; subst h; rfl
  | x :: l, i + 1, a, h => by simp only [List.set_cons_succ]; rw [set_same l i a (by simpa using h)]
theorem cellsP_get : ∀ (l : List Prm) (k : Nat) (x : Prm), l[k]? = some x → (cellsP l)[k * 2]? = some (.string x.1) ∧ (cellsP l)[k * 2 + 1]? = some (.string x.2)
  | [], _, _, h => by simp at h
  | y :: l, 0, x, h => by simp at h; subst h; simp [cellsP]
  | y :: l, k + 1, x, h => by
    have ih := cellsP_get l k x (by simpa using h)
    have e1 : (k + 1) * 2 = k * 2 + 2 := by omega
    have e2 : (k + 1) * 2 + 1 = (k * 2 + 1) + 2 := by omega
    rw [e1]
    have e3 : k * 2 + 2 + 1 = (k * 2 + 1) + 2 := by omega
    rw [e3]
    simpa [cellsP] using ih
/-- The loop over the parameters. -/
structure LM (w wr : World) (s c : Bool) (ty nm : ByteArray) (ps : List Prm) (vp v : Value) : Prop where
  bel : Below w.heap.size w wr
  box : Bx wr w.heap.size #[.bool s, .bool c, .string ty, .string nm, vp, v] 39
  res : Bx wr (w.heap.size + 1) #[.bool false, .bool false, .string ⟨#[]⟩, .string ⟨#[]⟩, .slice none 0 0, .slice none 0 0] 39
  own : wr.ownsRow (w.heap.size + 2) 97 2 vp ps.length (cellsP ps)
theorem grown_set_at (w : World) (g o : Nat) (u : Value) : w.grownBy (w.setCell ⟨g, o, none⟩ u) (some g) :=
  ⟨rfl, rfl, rfl, by simp, fun k hk hne => Below.heap_setCell w _ u k (fun e => hne (by rw [e]))⟩
theorem own_row {w : World} {B n : Nat} {e : TypeId} {v : Value} {xs : List Value} {sz : Nat} (h : w.ownsRow B e sz v n xs) (hn : 0 < n) : ∃ g cap, v = .slice (some ⟨g, 0, none⟩) n cap ∧ B ≤ g ∧ g < w.heap.size ∧ ∀ k u, xs[k]? = some u → w.cell? ⟨g, k, none⟩ = some u ∧ w.frozen? ⟨g, k, none⟩ = false := by
  obtain ⟨g, cap, rfl, hb, hl⟩ := h.form hn
  refine ⟨g, cap, rfl, hb, hl, fun k u hu => ⟨?_, h.frozenAt k⟩⟩
  have hc := h.cells (g := g) rfl k u hu
  rw [add_off] at hc
  simpa using hc
theorem LM.next {w wr w' : World} {s c : Bool} {ty nm : ByteArray} {ps : List Prm} {v : Value} {g n cap k : Nat} {x : Prm} (h : LM w wr s c ty nm ps (.slice (some ⟨g, 0, none⟩) n cap) v) (hg : wr.grownBy w' none) (hn : ps.length = n) (hgb : w.heap.size + 2 ≤ g) (hx : ps[k]? = some x) :
    LM w ((w'.setCell ⟨g, k * 2, none⟩ (.string x.1)).setCell ⟨g, k * 2 + 1, none⟩ (.string x.2)) s c ty nm ps (.slice (some ⟨g, 0, none⟩) n cap) v := by
  obtain ⟨e1, e2⟩ := cellsP_get ps k x hx
  have hb : Below wr.heap.size wr w' := ⟨hg.os, hg.tape, hg.output, hg.size, fun k hk => hg.block k hk (by simp)⟩
  have ho := own_next h.own hb
  rw [hn] at ho
  have o1 := (ho.stored (k * 2) (.string x.1)).1
  rw [set_same _ _ _ e1] at o1
  have o2 := (o1.stored (k * 2 + 1) (.string x.2)).1
  rw [set_same _ _ _ e2] at o2
  refine ⟨((h.bel.trans (hb.mono h.bel.size)).setCell (by simp; omega) _).setCell (by simp; omega) _, ?_, ?_, by rw [hn]; exact o2⟩
  · exact (Below.heap_setCell _ _ _ _ (by simp; omega)).trans ((Below.heap_setCell _ _ _ _ (by simp; omega)).trans (h.box.next hb))
  · exact (Below.heap_setCell _ _ _ _ (by simp; omega)).trans ((Below.heap_setCell _ _ _ _ (by simp; omega)).trans (h.res.next hb))
def BareM (w : World) (s c : Bool) (ty nm : ByteArray) (ps : List Prm) (l : List Nd) (e : Ending) (w' : World) : Prop :=
  ∃ vp' v' B1, e = .returned (.agg #[.bool s, .bool c, .string ty, .string nm, vp', v']) ∧ w.heap.size ≤ B1 ∧ w'.ownsRow w.heap.size 97 2 vp' ps.length (cellsP ps) ∧ (∀ k, vp'.ownBlock = some k → k < B1) ∧ w'.ownsRow B1 47 9 v' l.length (l.flatMap cellsN) ∧ Below w.heap.size w w'
set_option maxRecDepth 100000 in
set_option maxHeartbeats 4000000 in
theorem bareMethod_any (w : World) (s c : Bool) (ty nm : ByteArray) (vp : Value) (ps : List Prm) (v : Value) (l : List Nd) (h1 : ty.size ≤ 281474976710656) (h2 : nm.size ≤ 281474976710656)
    (hrp : Pw w vp ps) (hsp : ps.length ≤ 1000000) (hpp : ∀ p ∈ ps, p.1.size ≤ 281474976710656 ∧ p.2.size ≤ 281474976710656) (hr : Rw w .st v l) (hk : KdL w l) (hs : l.length ≤ 1000000) :
    Calls Try.prog 36 #[.agg #[.bool s, .bool c, .string ty, .string nm, vp, v]] w (BareM w s c ty nm ps l) := by
  have HC : Hid (∀ (s : ByteArray) (w1 : World), s.size ≤ 281474976710656 → Calls Try.prog 37 #[.string s] w1 fun e w' => e = .returned (.string s) ∧ Below w1.heap.size w1 w') := fun s w1 h => clone_any s w1 h
  have HRP : Hid (∀ w', Below w.heap.size w w' → Calls Try.prog 52 #[vp] w' (RenewSaid w' 97 2 ps.length (cellsP ps))) := fun w' hb => renewed_pm w' vp ps (hrp.keep (Keep.below hb)) hsp
  have HRV : Hid (∀ w', Below w.heap.size w w' → Calls Try.prog 51 #[v] w' (RenewSaid w' 47 9 l.length (l.flatMap cellsN))) := fun w' hb => renewed_st w' v l (hr.keep (Keep.below hb)) (KdL.keep (Keep.below hb) _ hk) hs
  clear hrp hr hk
  go_enter Try.func36, Try.ntmps36
  go_wp2_with fail
  have hx1 : Bx ((w.alloc (.cells #[.bool s, .bool c, .string ty, .string nm, vp, v] 39)).alloc (.cells #[.bool false, .bool false, .string ⟨#[]⟩, .string ⟨#[]⟩, .slice none 0 0, .slice none 0 0] 39)) w.heap.size #[.bool s, .bool c, .string ty, .string nm, vp, v] 39 := (Bx.new _ _ _).next ((Below.refl _ _).alloc (Nat.le_refl _) _)
  have hx2 : Bx ((w.alloc (.cells #[.bool s, .bool c, .string ty, .string nm, vp, v] 39)).alloc (.cells #[.bool false, .bool false, .string ⟨#[]⟩, .string ⟨#[]⟩, .slice none 0 0, .slice none 0 0] 39)) (w.heap.size + 1) #[.bool false, .bool false, .string ⟨#[]⟩, .string ⟨#[]⟩, .slice none 0 0, .slice none 0 0] 39 := by simpa using Bx.new (w.alloc (.cells #[.bool s, .bool c, .string ty, .string nm, vp, v] 39)) _ _
  have hw : Below w.heap.size w ((w.alloc (.cells #[.bool s, .bool c, .string ty, .string nm, vp, v] 39)).alloc (.cells #[.bool false, .bool false, .string ⟨#[]⟩, .string ⟨#[]⟩, .slice none 0 0, .slice none 0 0] 39)) := ((Below.refl _ w).alloc (Nat.le_refl _) _).alloc (by simp) _
  generalize (w.alloc (.cells #[.bool s, .bool c, .string ty, .string nm, vp, v] 39)).alloc (.cells #[.bool false, .bool false, .string ⟨#[]⟩, .string ⟨#[]⟩, .slice none 0 0, .slice none 0 0] 39) = W1 at hx1 hx2 hw ⊢
  have hl1 := hx1.lt
  have hl2 := hx2.lt
  have HX1 := Lib.hid hx1
  have HX2 := Lib.hid hx2
  have HW := Lib.hid hw
  have hB0 : Below W1.heap.size W1 W1.drew := (Below.refl _ W1).drew
  obtain ⟨c0, c1, c2, c3, c4, c5⟩ := hx1.get_6
  have f2 := hx1.fro 2; have f3 := hx1.fro 3
  clear hx1 hx2 hw
  go_cut [] (fun wx => Below w.heap.size w wx ∧ Bx wx w.heap.size #[.bool s, .bool c, .string ty, .string nm, vp, v] 39 ∧ Bx wx (w.heap.size + 1) #[.bool false, .bool false, .string ⟨#[]⟩, .string ⟨#[]⟩, .slice none 0 0, .slice none 0 0] 39)
  case first =>
    go_region_with (first
      | (go_at_call_of 37 (Value.string ty); refine (HC.out ty _ h1).mono ?_; rintro e w2 ⟨rfl, hc1⟩; have hB1 := hB0.trans (hc1.mono hB0.size); have HXa := HX1.out.below hB1 hl1; have d3 : w2.cell? ⟨w.heap.size, 3, none⟩ = some (.string nm) := HXa.cell 3; clear hc1 HXa)
      | (go_at_call_of 37 (Value.string nm); refine (HC.out nm _ h2).mono ?_; rintro e w3 ⟨rfl, hc2⟩; have hB2 := hB1.trans (hc2.mono hB1.size); have hxb := HX1.out.below hB2 hl1; have e2 : w3.cell? ⟨w.heap.size, 2, none⟩ = some (.string ty) := hxb.cell 2; have e3 : w3.cell? ⟨w.heap.size, 3, none⟩ = some (.string nm) := hxb.cell 3; have g2 := hxb.fro 2; have g3 := hxb.fro 3; have HXB := Lib.hid hxb; have HXC := Lib.hid (HX2.out.below hB2 hl2); clear hc2 hxb))
    all_goals
      go_wp2_with fail
      go_meet
      exact ⟨((HW.out.trans (hB2.mono HW.out.size)).setCell (Nat.le_refl _) _).setCell (Nat.le_refl _) _, by simpa using (HXB.out.set 2 (.string ty)).set 3 (.string nm), (Below.heap_setCell _ _ _ _ (by simp)).trans ((Below.heap_setCell _ _ _ _ (by simp)).trans HXC.out)⟩
  case rest =>
    obtain ⟨hw, hx1, hx2⟩ := hcut
    clear c0 c1 c2 c3 c4 c5 f2 f3 HX1 HX2 HW hB0
    have d4 : wc.cell? ⟨w.heap.size, 4, none⟩ = some vp := hx1.cell 4
    have HX1 := Lib.hid hx1
    have HX2 := Lib.hid hx2
    have hl2c := hx2.lt
    clear hx1 hx2
    go_wp2_with fail
    refine (HRP.out _ hw).mono ?_
    clear HRP
    rintro e w2 ⟨vp', rfl, hop, hc⟩
    obtain ⟨Ap, cp, rfl, _⟩ := own_form hop
    have hx1 := HX1.out.next hc
    have e4 : w2.cell? ⟨w.heap.size, 4, none⟩ = some vp := hx1.cell 4
    have g4 := hx1.fro 4
    have L0 : LM w (w2.setCell ⟨w.heap.size, 4, none⟩ (.slice Ap ps.length cp)) s c ty nm ps (.slice Ap ps.length cp) v :=
      ⟨(hw.trans (hc.mono hw.size)).setCell (Nat.le_refl _) _, by simpa using hx1.set 4 (.slice Ap ps.length cp), (Below.heap_setCell _ _ _ _ (by simp)).trans (HX2.out.next hc), own_mono (ownsRow_setCell_below hop (by simp; omega) _) (by omega)⟩
    have HL0 := Lib.hid L0
    have d40 : (w2.setCell ⟨w.heap.size, 4, none⟩ (.slice Ap ps.length cp)).cell? ⟨w.heap.size, 4, none⟩ = some (.slice Ap ps.length cp) := L0.box.cell 4
    obtain ⟨n, hn⟩ : ∃ n, ps.length = n := ⟨_, rfl⟩
    rw [hn] at hsp HL0 d40
    have HN := Lib.hid hn
    simp only [hn]
    clear hn hop hc hx1 HX1 HX2 L0 hw d4
    go_wp2_with fail
    generalize w2.setCell ⟨w.heap.size, 4, none⟩ (.slice Ap n cp) = w3 at HL0 d40 ⊢
    clear e4 g4
    go_loopw [20] (fun v20 wr => ∃ k : Nat, v20 = .int .i64 k ∧ k ≤ n ∧ LM w wr s c ty nm ps (.slice Ap n cp) v) (fun v20 wr => n - (intOf v20).toNat)
    case atStart => exact ⟨0, rfl, Nat.zero_le _, HL0.out⟩
    case round =>
      obtain ⟨k, rfl, hkn, hL⟩ := hrel
      clear HL0 d40
      by_cases hlt : k < n
      · have ho := hL.own
        rw [HN.out] at ho
        obtain ⟨g, cap, hv, hgb, hgl, hat⟩ := own_row ho (by omega)
        injection hv with hv1 hv2 hv3
        subst hv1; subst hv3
        clear hv2
        have hkl : k < ps.length := by rw [HN.out]; exact hlt
        obtain ⟨x, hx⟩ : ∃ x, ps[k]? = some x := ⟨_, List.getElem?_eq_getElem hkl⟩
        obtain ⟨p1, p2⟩ := cellsP_get ps k x hx
        obtain ⟨a0, b0⟩ := hat _ _ p1
        obtain ⟨a1, b1⟩ := hat _ _ p2
        have m4 : wr.cell? ⟨w.heap.size, 4, none⟩ = some (.slice (some ⟨g, 0, none⟩) n cp) := hL.box.cell 4
        have hxs := hpp x (List.mem_of_getElem? hx)
        have hxs1 := hxs.1
        have hxs2 := hxs.2
        have HLL := Lib.hid hL
        have HX := Lib.hid hx
        have hgn : g ≠ w.heap.size := by omega
        clear hat p1 p2 hxs hL hx ho
        have hbx := Bx.new wr #[.string x.1, .string x.2] 97
        go_wp2_with fail
        have HS : Hid (∀ w', (wr.alloc (.cells #[.string x.1, .string x.2] 97)).grownBy w' (some g) → w'.cell? ⟨w.heap.size, 4, none⟩ = some (.slice (some ⟨g, 0, none⟩) n cp) ∧ w'.cell? ⟨wr.heap.size, 0, none⟩ = some (.string x.1) ∧ w'.cell? ⟨wr.heap.size, 1, none⟩ = some (.string x.2)) := by
          show ∀ w', _
          intro w' hg
          have hbl := hbx.lt
          refine ⟨?_, ?_, ?_⟩
          · rw [← m4]
            exact World.cell?_of_block ((hg.block w.heap.size (by simp; omega) (by simp; omega)).trans (Below.heap_alloc _ _ _ (show w.heap.size < wr.heap.size by omega)))
          · rw [World.cell?_of_block (w := wr.alloc (.cells #[.string x.1, .string x.2] 97)) (hg.block _ (by simp) (by simp; omega)), hbx.cell 0]; rfl
          · rw [World.cell?_of_block (w := wr.alloc (.cells #[.string x.1, .string x.2] 97)) (hg.block _ (by simp) (by simp; omega)), hbx.cell 1]; rfl
        have a0 : (wr.alloc (.cells #[.string x.1, .string x.2] 97)).cell? ⟨g, k * 2, none⟩ = some (.string x.1) := keep_alloc _ _ _ _ a0
        have a1 : (wr.alloc (.cells #[.string x.1, .string x.2] 97)).cell? ⟨g, k * 2 + 1, none⟩ = some (.string x.2) := keep_alloc _ _ _ _ a1
        have b0 : (wr.alloc (.cells #[.string x.1, .string x.2] 97)).frozen? ⟨g, k * 2, none⟩ = false := (World.frozen?_of_block (w := wr) (Below.heap_alloc _ _ _ hgl)).trans b0
        have b1 : (wr.alloc (.cells #[.string x.1, .string x.2] 97)).frozen? ⟨g, k * 2 + 1, none⟩ = false := (World.frozen?_of_block (w := wr) (Below.heap_alloc _ _ _ hgl)).trans b1
        have HGA := Lib.hid (World.grownBy_alloc wr (.cells #[.string x.1, .string x.2] 97) none)
        have hgl2 : g < (wr.alloc (.cells #[.string x.1, .string x.2] 97)).heap.size := by simp; omega
        clear hbx m4
        generalize wr.alloc (.cells #[.string x.1, .string x.2] 97) = w4 at HS a0 a1 b0 b1 HGA hgl2 ⊢
        have hG0 : w4.grownBy w4.drew (some g) := ⟨rfl, rfl, rfl, Nat.le_refl _, fun _ _ _ => rfl⟩
        have hB0 : Below w4.heap.size w4 w4.drew := (Below.refl _ w4).drew
        have hi0 : (0 : Int) ≤ (k : Int) := by omega
        have hi1 : (k : Int) < (n : Int) := by omega
        go_region_held3 (fun w' => w'.cell? ⟨w.heap.size, 4, none⟩ = some (.slice (some ⟨g, 0, none⟩) n cp) ∧ w'.cell? ⟨wr.heap.size, 0, none⟩ = some (.string x.1) ∧ w'.cell? ⟨wr.heap.size, 1, none⟩ = some (.string x.2))
          (first | with_reducible exact HS.out _ hG0 | with_reducible exact HS.out _ hG1 | with_reducible exact HS.out _ hG2 | with_reducible exact HS.out _ (hG2.trans (grown_set_at _ _ _ _)) | with_reducible exact HS.out _ ((hG2.trans (grown_set_at _ _ _ _)).trans (grown_set_at _ _ _ _)))
          ((first
            | (go_at_call_of 37 (Value.string x.1); refine (HC.out x.1 _ hxs1).mono ?_; rintro e w5 ⟨rfl, hc1⟩; have hB1 := hB0.trans (hc1.mono hB0.size); have hG1 : w4.grownBy w5 (some g) := hG0.trans (grown_below hc1); clear hc1)
            | (go_at_call_of 37 (Value.string x.2); refine (HC.out x.2 _ hxs2).mono ?_; rintro e w6 ⟨rfl, hc2⟩; have hB2 := hB1.trans (hc2.mono hB1.size); have hG2 : w4.grownBy w6 (some g) := hG1.trans (grown_below hc2); have e0 := (hB2.cell (p := ⟨g, k * 2, none⟩) hgl2).trans a0; have e1 := (hB2.cell (p := ⟨g, k * 2 + 1, none⟩) hgl2).trans a1; have q0 := (hB2.frozen (p := ⟨g, k * 2, none⟩) hgl2).trans b0; have q1 := (hB2.frozen (p := ⟨g, k * 2 + 1, none⟩) hgl2).trans b1; clear hc2)))
        all_goals
          have HLN := Lib.hid (HLL.out.next (HGA.out.trans (grown_below hB2)) HN.out hgb HX.out)
          go_wp2_with fail
          go_roundw
          case rel => exact ⟨k + 1, by go_num, by omega, HLN.out⟩
          case measure => simp [intOf]; omega
      · have HLL := Lib.hid hL
        have hx1 := hL.box
        have m5 : wr.cell? ⟨w.heap.size, 5, none⟩ = some v := hx1.cell 5
        have hbw := hL.bel
        have HRVV := Lib.hid (HRV.out wr hbw)
        clear hL hx1
        go_wp2_with fail
        refine HRVV.out.mono ?_
        clear HRVV
        rintro e w5 ⟨v5, rfl, ho5, hc5⟩
        obtain ⟨A5, c5, rfl, _⟩ := own_form ho5
        have hbx := HLL.out.box.next hc5
        obtain ⟨z0, z1, z2, z3, z4, z5⟩ := hbx.get_6
        have g5 := hbx.fro 5
        have hrx := HLL.out.res.next hc5
        obtain ⟨y0, y1, y2, y3, y4, y5⟩ := hrx.get_6
        have f0 := hrx.fro 0; have f1 := hrx.fro 1; have f2 := hrx.fro 2; have f3 := hrx.fro 3; have f4 := hrx.fro 4; have f5 := hrx.fro 5
        have hop := own_next HLL.out.own hc5
        have hbf := hbw.trans (hc5.mono hbw.size)
        have hsz := hbw.size
        have hszb := HLL.out.res.lt
        have hlv := HLL.out.own.lt
        have HFIN : Hid (∀ W, W = ((((((w5.setCell ⟨w.heap.size, 5, none⟩ (.slice A5 l.length c5)).setCell ⟨w.heap.size + 1, 0, none⟩ (.bool s)).setCell ⟨w.heap.size + 1, 1, none⟩ (.bool c)).setCell ⟨w.heap.size + 1, 2, none⟩ (.string ty)).setCell ⟨w.heap.size + 1, 3, none⟩ (.string nm)).setCell ⟨w.heap.size + 1, 4, none⟩ (.slice Ap n cp)).setCell ⟨w.heap.size + 1, 5, none⟩ (.slice A5 l.length c5) →
            BareM w s c ty nm ps l (.returned (.agg #[.bool s, .bool c, .string ty, .string nm, .slice Ap n cp, .slice A5 l.length c5])) W) := by
          show ∀ W, _
          rintro W rfl
          refine ⟨_, _, wr.heap.size, rfl, hsz, own_mono (own_set_6 (ownsRow_setCell_below hop (by simp) _) (by omega) _ _ _ _ _ _) (by omega), fun k hk => (hlv k hk).2, own_set_6 (ownsRow_setCell_below ho5 (by simp; omega) _) (by omega) _ _ _ _ _ _, set_6 (hbf.setCell (Nat.le_refl _) _) (Nat.le_succ _) _ _ _ _ _ _⟩
        clear hbx hrx hop hbf hlv ho5 hc5
        go_wp2_with fail
        refine bodyPost_ret (v := .agg #[.bool s, .bool c, .string ty, .string nm, .slice Ap n cp, .slice A5 l.length c5]) (by simp [results, Try.results36, go_sem, z0, z1, z2, z3, z4, z5, y0, y1, y2, y3, y4, y5]) rfl ?_
        exact HFIN.out _ rfl
end Go.Proofs.Ytlpddmncgmhkeaa
