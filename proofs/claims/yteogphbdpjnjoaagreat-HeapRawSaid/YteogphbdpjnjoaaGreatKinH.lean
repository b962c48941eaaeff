/- kin: familyOf. -/
import Derived.Test.YteogphbdpjnjoaaGreatKinD
import Derived.Test.YteogphbdpjnjoaaGreatKinF
set_option linter.unusedSimpArgs false
set_option linter.unusedVariables false
namespace Go.Proofs.YteogphbdpjnjoaaGreat
open Go.RowKit
def ptrV (b o i : Nat) : Value := .iface 105 (.pointer (some ⟨b, o + i * 4, none⟩))
def partsV (b o k : Nat) : List Value := baseVs ++ (List.range k).map (ptrV b o)
theorem partsV_snoc (b o k : Nat) : partsV b o (k + 1) = partsV b o k ++ [ptrV b o k] := by simp [partsV, List.range_succ]
theorem partsV_len (b o k : Nat) : (partsV b o k).length = 5 + k := by simp [partsV, baseVs, basesL]; omega
structure FmR (w : World) (v : Value) (b o fb : Nat) (v3 : Value) (k : Nat) (wr : World) : Prop where
  bel : Below w.heap.size w wr
  own : wr.ownsRow (w.heap.size + 2) 198 1 v3 (5 + k) (partsV b o k)
  pbox : Bx wr w.heap.size #[v] 24
  rbox : Bx wr (w.heap.size + 1) #[.slice none 0 0, .int .i64 0, .map none] 163
  fbox : Bx wr fb #[.slice none 0 0, .int .i64 5, .map none] 163
  ne : v3.ownBlock ≠ some fb
  flt : w.heap.size + 2 ≤ fb
theorem FmR.more {w : World} {v : Value} {b o fb : Nat} {v3 : Value} {k : Nat} {W w3 : World} {ob : Obj} {v' : Value} (h : FmR w v b o fb v3 k W)
    (hown : w3.ownsRow (w.heap.size + 2) 198 1 v' (5 + k + 1) (partsV b o k ++ [ptrV b o k])) (hg : (W.alloc ob).grownBy w3 v3.ownBlock) (hat : v'.ownBlock = v3.ownBlock ∨ v'.ownBlock = some (W.heap.size + 1)) :
    FmR w v b o fb v' (k + 1) w3 := by
  have hA : Below W.heap.size W (W.alloc ob) := (Below.refl _ _).alloc (Nat.le_refl _) ob
  have hf := h.fbox.lt
  have hsz := h.bel.size
  refine ⟨(h.bel.alloc h.bel.size ob).grown hg (by simp; omega) (fun k hk => by have := (h.own.lt k hk).1; omega), ?_, ?_, ?_, ?_, ?_, h.flt⟩
  · rw [partsV_snoc]; exact hown
  · exact (h.pbox.next hA).grownK hg (fun e => by have := (h.own.lt _ e.symm).1; omega)
  · exact (h.rbox.next hA).grownK hg (fun e => by have := (h.own.lt _ e.symm).1; omega)
  · exact (h.fbox.next hA).grownK hg (fun e => h.ne e.symm)
  · rcases hat with e | e
    · rw [e]; exact h.ne
    · rw [e]; simp; omega
theorem pv_of {w : World} {v3 : Value} {cs : List Hdr} {W : World} {b o : Nat} (ho : W.ownsRow (w.heap.size + 2) 198 1 v3 (5 + cs.length) (partsV b o cs.length)) (hb : Below w.heap.size w W)
    (hc : 0 < cs.length → ∀ i h, cs[i]? = some h → w.cell? ⟨b, o + i * 4, none⟩ = some (.string h.1) ∧ w.cell? ⟨b, o + i * 4 + 1, none⟩ = some (.string h.2)) : Pv W v3 (famL cs) := by
  obtain ⟨A, cap, rfl, hcap⟩ := own_form ho
  have hA : ∃ g, A = some ⟨g, 0, none⟩ := by
    rcases ho.2 with ⟨_, e⟩ | ⟨g, c, cur, e, _⟩
    · omega
    · injection e with e _ _; exact ⟨g, e⟩
  obtain ⟨g, rfl⟩ := hA
  refine ⟨g, cap, by rw [famL_len], by rw [famL_len]; exact hcap, fun i x hx => ?_⟩
  have hi : i < 5 + cs.length := by rw [← famL_len]; exact (List.getElem?_eq_some_iff.1 hx).1
  have hcell := ho.cellAt i (by omega)
  by_cases h5 : i < 5
  · refine ⟨baseV x, ?_, .inl rfl⟩
    rw [hcell, partsV, List.getElem?_append_left (by simp [baseVs, basesL]; omega), baseVs, List.getElem?_map]
    have : (famL cs)[i]? = basesL[i]? := by unfold famL; rw [List.getElem?_append_left (by simp [basesL]; omega)]
    rw [← this, hx]; rfl
  · obtain ⟨j, rfl⟩ := Nat.exists_eq_add_of_le (Nat.le_of_not_lt h5)
    rw [famL_own] at hx
    obtain ⟨c0, c1⟩ := hc (by omega) j x hx
    refine ⟨ptrV b o j, ?_, .inr ⟨b, o + j * 4, rfl, KeepC.below hb _ _ c0, KeepC.below hb _ _ c1⟩⟩
    rw [hcell, partsV, List.getElem?_append_right (by simp [baseVs, basesL])]
    have : (5 + j) - baseVs.length = j := by simp [baseVs, basesL]
    rw [this, List.getElem?_map, List.getElem?_range (by omega)]; rfl
theorem FmR.end_ {w : World} {v : Value} {b o fb : Nat} {v3 : Value} {cs : List Hdr} {W : World} (h : FmR w v b o fb v3 cs.length W) (x y z u : Value)
    (hc : 0 < cs.length → ∀ i h, cs[i]? = some h → w.cell? ⟨b, o + i * 4, none⟩ = some (.string h.1) ∧ w.cell? ⟨b, o + i * 4 + 1, none⟩ = some (.string h.2)) :
    Pv ((((W.setCell ⟨fb, 0, none⟩ x).setCell ⟨w.heap.size + 1, 0, none⟩ y).setCell ⟨w.heap.size + 1, 1, none⟩ z).setCell ⟨w.heap.size + 1, 2, none⟩ u) v3 (famL cs) ∧
    Below w.heap.size w ((((W.setCell ⟨fb, 0, none⟩ x).setCell ⟨w.heap.size + 1, 0, none⟩ y).setCell ⟨w.heap.size + 1, 1, none⟩ z).setCell ⟨w.heap.size + 1, 2, none⟩ u) := by
  have hflt := h.flt
  have hB := ((((h.bel.setCell (p := ⟨fb, 0, none⟩) (by show w.heap.size ≤ fb; omega) x).setCell (p := ⟨w.heap.size + 1, 0, none⟩) (by show w.heap.size ≤ w.heap.size + 1; omega) y).setCell (p := ⟨w.heap.size + 1, 1, none⟩) (by show w.heap.size ≤ w.heap.size + 1; omega) z).setCell (p := ⟨w.heap.size + 1, 2, none⟩) (by show w.heap.size ≤ w.heap.size + 1; omega) u)
  have hne : v3.ownBlock ≠ some (w.heap.size + 1) := fun e => by have := (h.own.lt _ e).1; omega
  have hO := (((h.own.kept (grown_set_atK _ fb 0 x) (.inr h.ne)).kept (grown_set_atK _ (w.heap.size + 1) 0 y) (.inr hne)).kept (grown_set_atK _ (w.heap.size + 1) 1 z) (.inr hne)).kept (grown_set_atK _ (w.heap.size + 1) 2 u) (.inr hne)
  exact ⟨pv_of hO hB hc, hB⟩
def FamSaid (cs : List Hdr) (w : World) (e : Ending) (w' : World) : Prop := ∃ fv, e = .returned fv ∧ Fm w' fv (famL cs) ∧ Below w.heap.size w w'
theorem fam_said {w : World} {v : Value} {b o fb : Nat} {A3 : Option Addr} {c3 m : Nat} {cs : List Hdr} {W : World} (hm : cs.length = m) (h59 : m ≤ 59) (h : FmR w v b o fb (.slice A3 (5 + m) c3) m W)
    (hc : 0 < cs.length → ∀ i h, cs[i]? = some h → w.cell? ⟨b, o + i * 4, none⟩ = some (.string h.1) ∧ w.cell? ⟨b, o + i * 4 + 1, none⟩ = some (.string h.2)) (x y z u : Value) :
    FamSaid cs w (.returned (.agg #[.slice A3 (5 + m) c3, .int .i64 5, .map none])) ((((W.setCell ⟨fb, 0, none⟩ x).setCell ⟨w.heap.size + 1, 0, none⟩ y).setCell ⟨w.heap.size + 1, 1, none⟩ z).setCell ⟨w.heap.size + 1, 2, none⟩ u) := by
  subst hm
  obtain ⟨h1, h2⟩ := h.end_ x y z u hc
  exact ⟨_, rfl, ⟨_, rfl, h1, by rw [famL_len]; omega, by rw [famL_len]; omega⟩, h2⟩
set_option maxRecDepth 100000 in
set_option maxHeartbeats 8000000 in
theorem family_any {w : World} {v : Value} {cs : List Hdr} (h : Cl w v cs) : Calls Tryz.prog 90 #[.agg #[v]] w (FamSaid cs w) := by
  obtain ⟨A, cap, rfl, hcap, h59, hcl⟩ := h
  obtain ⟨b, o, hA, hcl2⟩ : ∃ b o, (0 < cs.length → A = some ⟨b, o, none⟩) ∧ (0 < cs.length → ∀ i h, cs[i]? = some h → w.cell? ⟨b, o + i * 4, none⟩ = some (.string h.1) ∧ w.cell? ⟨b, o + i * 4 + 1, none⟩ = some (.string h.2)) := by
    by_cases h0 : 0 < cs.length
    · obtain ⟨b, o, e, hx⟩ := hcl h0
      exact ⟨b, o, fun _ => e, fun _ i h hi => ⟨(hx i h hi).1, (hx i h hi).2.1⟩⟩
    · exact ⟨0, 0, fun h => absurd h h0, fun h => absurd h h0⟩
  obtain ⟨m, hm⟩ : ∃ m, cs.length = m := ⟨_, rfl⟩
  have HM := Lib.hid hm
  have HC := Lib.hid hcl2
  rw [hm] at hcap h59 hA ⊢
  have HA := Lib.hid hA
  clear hcl hcl2 hm hA
  obtain ⟨W1, hW1⟩ : ∃ W1, W1 = (w.alloc (.cells #[.slice A m cap] 24)).alloc (.cells #[.slice none 0 0, .int .i64 0, .map none] 163) := ⟨_, rfl⟩
  have hsz1 : W1.heap.size = w.heap.size + 2 := by rw [hW1]; simp
  have hb1 : Below w.heap.size w W1 := by rw [hW1]; exact ((Below.refl _ _).alloc (Nat.le_refl _) _).alloc (by simp) _
  have hP1 : Bx W1 w.heap.size #[.slice A m cap] 24 := by rw [hW1]; exact (Bx.new w _ _).next ((Below.refl _ _).alloc (Nat.le_refl _) _)
  have hR1 : Bx W1 (w.heap.size + 1) #[.slice none 0 0, .int .i64 0, .map none] 163 := by
    rw [hW1]; have := Bx.new (w.alloc (.cells #[.slice A m cap] 24)) #[.slice none 0 0, .int .i64 0, .map none] 163; simpa using this
  have HC1 : Hid (∀ w', Below W1.heap.size W1 w' → w'.cell? ⟨w.heap.size, 0, none⟩ = some (.slice A m cap)) := Lib.hid fun w' hb => (hP1.next hb).cell 0
  have hb0 : Below W1.heap.size W1 W1.drew := (Below.refl _ _).drew
  have HZ := Lib.hid hsz1
  have HP := Lib.hid hP1
  have HR := Lib.hid hR1
  clear hsz1 hP1 hR1
  go_enter Tryz.func90, Tryz.ntmps90
  go_upto_region 1 with (fail)
  rw [← hW1]
  clear hW1
  go_region_held3 (fun w' => w'.cell? ⟨w.heap.size, 0, none⟩ = some (.slice A m cap))
    (first | with_reducible exact HC1.out _ hb0)
    ((first
      | (go_at_call 126; refine (bases_any _).mono ?_; rintro e w2 ⟨gb, rfl, hob, hbb⟩; replace hob := own_baseK hob hb0.size; replace hb0 := hb0.trans (hbb.mono hb0.size); clear hbb)
      | (go_at_call 125; refine (grow_any hob hb0.size m h59).mono ?_; rintro e w3 ⟨vg, rfl, hog, hbb⟩; replace hb0 := hb0.trans (hbb.mono hb0.size); clear hbb)))
  all_goals
    obtain ⟨AG, cG, rfl, hcG⟩ := own_form hog
    have hP3 := HP.out.next hb0
    have hR3 := HR.out.next hb0
    have hs3 : w.heap.size + 2 ≤ w3.heap.size := by rw [← HZ.out]; exact hb0.size
    have hb3 : Below w.heap.size w w3 := hb1.trans (hb0.mono hb1.size)
    have hog2 := own_baseK hog (show w.heap.size + 2 ≤ W1.heap.size by rw [HZ.out]; exact Nat.le_refl _)
    have hF : FmR w (.slice A m cap) b o w3.heap.size (.slice AG 5 cG) 0 (w3.alloc (.cells #[.slice none 0 0, .int .i64 5, .map none] 163)) :=
      ⟨hb3.alloc hb3.size _, hog2.alloc _, hP3.next ((Below.refl _ _).alloc (Nat.le_refl _) _), hR3.next ((Below.refl _ _).alloc (Nat.le_refl _) _), Bx.new w3 _ _, fun e => by have := (hog.lt _ e).2; omega, hs3⟩
    have HF := Lib.hid hF
    have c0 := hF.pbox.cell 0
    clear hF hog hog2 hP3 hR3 hob hb0 hb1
    have hfb : w.heap.size + 1 < w3.heap.size := by omega
    obtain ⟨fb, hfbe⟩ : ∃ fb, fb = w3.heap.size := ⟨_, rfl⟩
    rw [← hfbe] at HF hfb
    go_upto_region 3 with (fail)
    refine gen_worldK (FmR w (.slice A m cap) b o fb (.slice AG 5 cG) 0) HF.out ?_
    rw [← hfbe]
    clear HF c0 hb3 hs3 hfbe
    intro W3 hF
    have HF := Lib.hid hF
    have c0 := hF.pbox.cell 0
    clear hF
    go_wp2_with fail
    go_loopw [3, 17] (fun v3 v17 wr => ∃ k : Nat, v17 = .int .i64 k ∧ k ≤ m ∧ FmR w (.slice A m cap) b o fb v3 k wr) (fun v3 v17 wr => m - (intOf v17).toNat)
    case atStart => exact ⟨0, rfl, Nat.zero_le _, HF.out⟩
    case round =>
      obtain ⟨k, rfl, hk, hR⟩ := hrel
      clear c0 HF
      by_cases hlt : k < m
      · obtain rfl : A = some ⟨b, o, none⟩ := HA.out (by omega)
        have c0 := hR.pbox.cell 0
        obtain ⟨ii, hii, hiz, his, hib⟩ := info_parts Tryz.infoPart
        have hsz := hR.bel.size
        go_wp2_with (at_builtin; refine wpList_append_own_at _ rfl (.tmp 20) (.tmp 26) 161 rfl (w.heap.size + 2) 198 ii _ 1 16 Tryz.underlying161 hii hiz his hib rfl (by decide) u3 (5 + k) (partsV b o k) rfl (hR.own.alloc _) ⟨wr.heap.size, 0, none⟩ 1 1 [ptrV b o k] rfl rfl (cell_one_newK _ _ _) ?c1 ?c2 ?c3 ?c4 ?_)
        case c1 => first | rfl | (intro u hu; simp at hu; subst hu; rfl)
        case c2 => unfold maxLen; omega
        case c3 => omega
        case c4 => have := (hR.fbox.lt); have := hR.flt; simp; omega
        intro v' w4 hown4 hgrow _ hat
        have hN := Lib.hid (hR.more hown4 hgrow hat)
        clear hown4 hgrow hat hR c0
        go_wp2_with fail
        go_roundw
        case rel => exact ⟨k + 1, by simp, by omega, hN.out⟩
        case measure => simp [intOf]; omega
      · obtain rfl : k = m := by omega
        obtain ⟨A3, c3, rfl, hc3⟩ := own_form hR.own
        have HR2 := Lib.hid hR
        have x0 := hR.fbox.cell 0
        have x1 := hR.fbox.cell 1
        have x2 := hR.fbox.cell 2
        have y0 := hR.rbox.cell 0
        have y1 := hR.rbox.cell 1
        have y2 := hR.rbox.cell 2
        have fx0 := hR.fbox.fro 0
        have fy0 := hR.rbox.fro 0
        have fy1 := hR.rbox.fro 1
        have fy2 := hR.rbox.fro 2
        clear hR
        go_wp2_with fail
        refine bodyPost_ret (v := .agg #[.slice A3 (5 + k) c3, .int .i64 5, .map none]) (by simp [results, Tryz.results90, go_sem, y0, y1, y2]) rfl ?_
        exact fam_said HM.out h59 HR2.out HC.out _ _ _ _
end Go.Proofs.YteogphbdpjnjoaaGreat
