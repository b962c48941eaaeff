/- The document's copies of fields and methods: changelingref17.copyField, copyMethod. -/
import Derived.Test.YtlpddmncgmhkeaaCopyA
import Derived.Test.YtlpddmncgmhkeaaFewQ
set_option linter.unusedSimpArgs false
set_option linter.unusedVariables false
namespace Go.Proofs.Ytlpddmncgmhkeaa
open Go.RowKit
theorem FkL.set_4 {B b : Nat} {w : World} {t : Tg} {v : Value} {l : List Nd} (h : FkL B w t v l) (hb : b < B) (u0 u1 u2 u3 : Value) : FkL B ((((w.setCell ⟨b, 0, none⟩ u0).setCell ⟨b, 1, none⟩ u1).setCell ⟨b, 2, none⟩ u2).setCell ⟨b, 3, none⟩ u3) t v l :=
  (((h.set hb 0 u0).set hb 1 u1).set hb 2 u2).set hb 3 u3
theorem FkL.set_6 {B b : Nat} {w : World} {t : Tg} {v : Value} {l : List Nd} (h : FkL B w t v l) (hb : b < B) (u0 u1 u2 u3 u4 u5 : Value) : FkL B ((((((w.setCell ⟨b, 0, none⟩ u0).setCell ⟨b, 1, none⟩ u1).setCell ⟨b, 2, none⟩ u2).setCell ⟨b, 3, none⟩ u3).setCell ⟨b, 4, none⟩ u4).setCell ⟨b, 5, none⟩ u5) t v l :=
  (((((h.set hb 0 u0).set hb 1 u1).set hb 2 u2).set hb 3 u3).set hb 4 u4).set hb 5 u5
theorem bset_4 {B b : Nat} {W w : World} (h : Below B W w) (hb : B ≤ b) (u0 u1 u2 u3 : Value) : Below B W ((((w.setCell ⟨b, 0, none⟩ u0).setCell ⟨b, 1, none⟩ u1).setCell ⟨b, 2, none⟩ u2).setCell ⟨b, 3, none⟩ u3) :=
  (((h.setCell hb _).setCell hb _).setCell hb _).setCell hb _
theorem bset_6 {B b : Nat} {W w : World} (h : Below B W w) (hb : B ≤ b) (u0 u1 u2 u3 u4 u5 : Value) : Below B W ((((((w.setCell ⟨b, 0, none⟩ u0).setCell ⟨b, 1, none⟩ u1).setCell ⟨b, 2, none⟩ u2).setCell ⟨b, 3, none⟩ u3).setCell ⟨b, 4, none⟩ u4).setCell ⟨b, 5, none⟩ u5) :=
  (((((h.setCell hb _).setCell hb _).setCell hb _).setCell hb _).setCell hb _).setCell hb _
theorem Bx.set_4 {w : World} {b : Nat} {T : TypeId} {x0 x1 x2 x3 : Value} (h : Bx w b #[x0, x1, x2, x3] T) (u0 u1 u2 u3 : Value) : Bx ((((w.setCell ⟨b, 0, none⟩ u0).setCell ⟨b, 1, none⟩ u1).setCell ⟨b, 2, none⟩ u2).setCell ⟨b, 3, none⟩ u3) b #[u0, u1, u2, u3] T := by
  have := ((((h.set 0 u0).set 1 u1).set 2 u2).set 3 u3)
  simpa using this
def CopyFdSaid (w : World) (s : Bool) (ty nm : ByteArray) (l : List Nd) (e : Ending) (w' : World) : Prop :=
  ∃ v' l', e = .returned (.agg #[.bool s, .string ty, .string nm, v']) ∧ FkL w.heap.size w' .ex v' l' ∧ bareL l' = bareL l ∧ Below w.heap.size w w'
set_option maxRecDepth 100000 in
set_option maxHeartbeats 2000000 in
theorem copy_field (w : World) (s : Bool) (ty nm : ByteArray) (v : Value) (l : List Nd) (hk : Kd w (.fd s ty nm v l)) (hl : sizeL l ≤ 1000000) :
    Calls Try.prog 19 #[.agg #[.bool s, .string ty, .string nm, v]] w (CopyFdSaid w s ty nm l) := by
  rw [Kd] at hk
  obtain ⟨A, cap, rfl⟩ := hk.2.1.form
  have HR := Lib.hid hk.2.1; have HK := Lib.hid hk.2.2
  clear hk
  go_enter Try.func19, Try.ntmps19
  go_wp2_with fail
  obtain ⟨W1, hW1, hx, hy, hw, hz1⟩ := two_new w #[.bool s, .string ty, .string nm, .slice A l.length cap] #[.bool false, .string ⟨#[]⟩, .string ⟨#[]⟩, .slice none 0 0] 44
  rw [← hW1]
  clear hW1
  refine (copies_ex_any 1000000 (Nat.le_refl _) W1 _ l hl (HR.out.keep (Keep.below hw)) (KdL.keep (Keep.below hw) _ HK.out)).mono ?_
  rintro e w2 ⟨v', l', rfl, hf, hbl, hc⟩
  obtain ⟨A', cap', rfl⟩ := fk_len hf
  have hx2 := hx.next hc
  have hy2 := hy.next hc
  have hb2 : Below w.heap.size w w2 := hw.trans (hc.mono hw.size)
  have hf2 : FkL (w.heap.size + 2) w2 .ex (.slice A' l'.length cap') l' := by rw [← hz1]; exact hf
  obtain ⟨x0, x1, x2, c3⟩ := hx2.get_4
  obtain ⟨r0, r1, r2, r3⟩ := hy2.get_4
  have f3 := hx2.fro 3
  have g0 := hy2.fro 0; have g1 := hy2.fro 1; have g2 := hy2.fro 2; have g3 := hy2.fro 3
  have HX2 := Lib.hid hx2; have HY2 := Lib.hid hy2; have HF2 := Lib.hid hf2; have HB2 := Lib.hid hb2; have HBL := Lib.hid hbl
  clear hf hc hx hy hw hz1 hf2 hb2 hx2 hy2 hbl
  go_wp2_with fail
  have hb1 : w.heap.size ≠ w.heap.size + 1 := by omega
  obtain ⟨z0, z1, z2, z3⟩ := ((HY2.out.off hb1 3 (.slice A' l'.length cap')).set_4 (.bool s) (.string ty) (.string nm) (.slice A' l'.length cap')).get_4
  refine bodyPost_ret (v := .agg #[.bool s, .string ty, .string nm, .slice A' l'.length cap']) (by simp [results, Try.results19, go_sem, z0, z1, z2, z3]) rfl ?_
  exact ⟨_, l', rfl, ((HF2.out.set (by omega) 3 _).set_4 (by omega) _ _ _ _).mono (by omega), HBL.out, bset_4 (HB2.out.setCell (Nat.le_refl _) _) (Nat.le_succ _) _ _ _ _⟩
/-- A row of parameters that lies from block B on. -/
def FkP (B : Nat) (w : World) (v : Value) (ps : List Prm) : Prop :=
  ∀ ws, (∀ k j u, B ≤ k → w.cell? ⟨k, j, none⟩ = some u → ws.cell? ⟨k, j, none⟩ = some u) → Pw ws v ps
theorem FkP.next {B : Nat} {w w' : World} {v : Value} {l : List Prm} (h : FkP B w v l) (hk : ∀ k j u, B ≤ k → w.cell? ⟨k, j, none⟩ = some u → w'.cell? ⟨k, j, none⟩ = some u) : FkP B w' v l :=
  fun ws hs => h ws fun k j u hB hu => hs k j u hB (hk k j u hB hu)
theorem FkP.mono {B C : Nat} {w : World} {v : Value} {l : List Prm} (h : FkP B w v l) (hB : C ≤ B) : FkP C w v l := fun ws hs => h ws fun k j u hk hu => hs k j u (Nat.le_trans hB hk) hu
theorem FkP.below {B : Nat} {w w' : World} {v : Value} {l : List Prm} (h : FkP B w v l) (hb : Below w.heap.size w w') : FkP B w' v l := h.next fun k j u _ hu => Keep.below hb _ _ hu
theorem FkP.set {B c : Nat} {w : World} {v : Value} {l : List Prm} (h : FkP B w v l) (hc : c < B) (j : Nat) (u : Value) : FkP B (w.setCell ⟨c, j, none⟩ u) v l :=
  h.next fun k i x hB hu => by rw [World.cell?_setCell_other _ _ _ _ (by simp <;> omega)]; exact hu
theorem FkP.set_6 {B b : Nat} {w : World} {v : Value} {l : List Prm} (h : FkP B w v l) (hb : b < B) (u0 u1 u2 u3 u4 u5 : Value) : FkP B ((((((w.setCell ⟨b, 0, none⟩ u0).setCell ⟨b, 1, none⟩ u1).setCell ⟨b, 2, none⟩ u2).setCell ⟨b, 3, none⟩ u3).setCell ⟨b, 4, none⟩ u4).setCell ⟨b, 5, none⟩ u5) v l :=
  (((((h.set hb 0 u0).set hb 1 u1).set hb 2 u2).set hb 3 u3).set hb 4 u4).set hb 5 u5
theorem cellsP_at (ps : List Prm) (k : Nat) (x : Prm) (h : ps[k]? = some x) : (cellsP ps)[k * 2]? = some (.string x.1) ∧ (cellsP ps)[k * 2 + 1]? = some (.string x.2) := by
  induction ps generalizing k with
  | nil => simp at h
  | cons p ps ih =>
    cases k with
    | zero => simp at h; subst h; simp [cellsP]
    | succ k =>
      have := ih k (by simpa using h)
      have e : cellsP (p :: ps) = .string p.1 :: .string p.2 :: cellsP ps := by simp [cellsP]
      rw [e]
      have e1 : (k + 1) * 2 = k * 2 + 2 := by omega
      rw [e1]
      simpa using this
theorem fkp_own {B : Nat} {w : World} {v : Value} {ps : List Prm} (ho : w.ownsRow B 97 2 v ps.length (cellsP ps)) (hz : ∀ x ∈ ps, x.1.size ≤ maxLen ∧ x.2.size ≤ maxLen) (hm : ps.length ≤ maxLen) : FkP B w v ps := by
  intro ws hs
  obtain ⟨A, cap, rfl, hc⟩ := own_form ho
  refine ⟨A, cap, rfl, hm, hz, fun hn => ?_⟩
  obtain ⟨g, cap', hv, hg, hl, hat⟩ := own_row ho hn
  injection hv with h1 h2 h3
  refine ⟨g, 0, h1, fun i x hx => ?_⟩
  obtain ⟨e1, e2⟩ := cellsP_at ps i x hx
  rw [Nat.zero_add]
  exact ⟨hs g _ _ hg (hat _ _ e1).1, hs g _ _ hg (hat _ _ e2).1⟩
end Go.Proofs.Ytlpddmncgmhkeaa
/- The document's copies of methods: changelingref17.copyMethod. Written by wip/tools/gen_copyd.py. -/
set_option linter.unusedSimpArgs false
set_option linter.unusedVariables false
namespace Go.Proofs.Ytlpddmncgmhkeaa
open Go.RowKit
def CopyMtSaid (w : World) (s c : Bool) (ty nm : ByteArray) (ps : List Prm) (l : List Nd) (e : Ending) (w' : World) : Prop :=
  ∃ vp' v' l', e = .returned (.agg #[.bool s, .bool c, .string ty, .string nm, vp', v']) ∧ FkP w.heap.size w' vp' ps ∧ FkL w.heap.size w' .st v' l' ∧ bareL l' = bareL l ∧ Below w.heap.size w w'
theorem prm_one (ps : List Prm) : ∀ u ∈ cellsP ps, u.oneCell' = true := by
  intro u hu; simp only [cellsP, List.mem_flatMap] at hu; obtain ⟨p, _, hu⟩ := hu; simp at hu; rcases hu with rfl | rfl <;> rfl
theorem three_new (w : World) (cs ds : Array Value) (T U : TypeId) : ∃ W, W = ((w.alloc (.cells cs T)).alloc (.cells ds T)).alloc (.cells #[] U) ∧ Bx W w.heap.size cs T ∧ Bx W (w.heap.size + 1) ds T ∧ Below w.heap.size w W ∧ W.heap.size = w.heap.size + 3 ∧ W.ownsRow (w.heap.size + 2) U 2 (.slice (some ⟨w.heap.size + 2, 0, none⟩) 0 0) 0 [] := by
  obtain ⟨W1, hW1, hx, hy, hw, hz⟩ := two_new w cs ds T
  rw [← hW1]
  refine ⟨_, rfl, hx.next ((Below.refl _ _).alloc (Nat.le_refl _) _), hy.next ((Below.refl _ _).alloc (Nat.le_refl _) _), hw.alloc (by omega) _, by simp [hz], ?_⟩
  have := World.ownsRow_lit (base := w.heap.size + 2) (e := U) (size := 2) W1 #[] 0 (by omega) (by unfold maxLen; omega) (by simp)
  rw [hz] at this; exact this
theorem fkp_nil (B : Nat) (w : World) (A : Option Addr) (n : Nat) : FkP B w (.slice A 0 n) [] := fun ws _ => ⟨A, n, rfl, by unfold maxLen; simp, by simp, fun h => by simp at h⟩
set_option maxRecDepth 100000 in
set_option maxHeartbeats 4000000 in
theorem copy_method (w : World) (s c : Bool) (ty nm : ByteArray) (vp : Value) (ps : List Prm) (v : Value) (l : List Nd) (hk : Kd w (.mt s c ty nm vp ps v l)) (hl : sizeL l ≤ 1000000) (hp : ps.length ≤ 1000000) :
    Calls Try.prog 20 #[.agg #[.bool s, .bool c, .string ty, .string nm, vp, v]] w (CopyMtSaid w s c ty nm ps l) := by
  rw [Kd] at hk
  obtain ⟨A, cap, rfl⟩ := hk.2.2.1.form
  obtain ⟨Ap, np, rfl, _⟩ := hk.2.1.form
  have HP := Lib.hid hk.2.1; have HR := Lib.hid hk.2.2.1; have HK := Lib.hid hk.2.2.2
  clear hk
  obtain ⟨i0, hi, hz0, hz1, hz2⟩ := info_parts Try.infoOfParam
  obtain ⟨w3, hW3, hx3, hy3, hb3, hz3, hown⟩ := three_new w #[.bool s, .bool c, .string ty, .string nm, .slice Ap ps.length np, .slice A l.length cap] #[.bool false, .bool false, .string ⟨#[]⟩, .string ⟨#[]⟩, .slice none 0 0, .slice none 0 0] 39 97
  have HW3 := Lib.hid hW3
  cases Ap with
  | none =>
    obtain ⟨hps, hn⟩ := pw_none_nil HP.out
    subst hps
    clear HP hown hn hx3 hy3 hb3 hz3 HW3 hW3
    obtain ⟨w4, hW4, hx4, hy4, hb4, hz4, _⟩ := three_new w #[.bool s, .bool c, .string ty, .string nm, .slice (some ⟨w.heap.size + 1 + 1, 0, none⟩) 0 0, .slice A l.length cap] #[.bool false, .bool false, .string ⟨#[]⟩, .string ⟨#[]⟩, .slice none 0 0, .slice none 0 0] 39 97
    have hp4 : FkP (w.heap.size + 2) w4 (.slice (some ⟨w.heap.size + 1 + 1, 0, none⟩) 0 0) [] := fkp_nil _ _ _ _
    have hs4 : w.heap.size + 2 ≤ w4.heap.size := by omega
    simp only [List.length_nil] at *
    go_enter Try.func20, Try.ntmps20
    go_wp2_with fail
    rw [← hW4]
    clear hW4 hz4
    refine (copies_st_any 1000000 (Nat.le_refl _) _ _ l hl (HR.out.keep (Keep.below hb4)) (KdL.keep (Keep.below hb4) _ HK.out)).mono ?_
    rintro e w5 ⟨v5, l5, rfl, hf5, hbl, hc5⟩
    obtain ⟨A5, n5, rfl⟩ := fk_len hf5
    have hx5 := hx4.next hc5
    have hy5 := hy4.next hc5
    have hp5 := hp4.below hc5
    have hb5 := hb4.trans (hc5.mono hb4.size)
    have hf5' := hf5.mono hs4
    clear hx4 hy4 hp4 hs4 hb4 hf5 hc5
    obtain ⟨x0, x1, x2, x3, x4, x5⟩ := hx5.get_6
    obtain ⟨r0, r1, r2, r3, r4, r5⟩ := hy5.get_6
    have f5 := hx5.fro 5
    have g0 := hy5.fro 0; have g1 := hy5.fro 1; have g2 := hy5.fro 2; have g3 := hy5.fro 3; have g4 := hy5.fro 4; have g5 := hy5.fro 5
    have HY := Lib.hid hy5; have HFP := Lib.hid hp5; have HFL := Lib.hid hf5'; have HBB := Lib.hid hb5; have HBL := Lib.hid hbl
    clear hx5 hy5 hp5 hf5' hb5 hbl
    go_wp2_with fail
    obtain ⟨z0, z1, z2, z3, z4, z5⟩ := ((HY.out.off (c := w.heap.size) (by omega) 5 (.slice A5 l5.length n5)).set_6 (.bool s) (.bool c) (.string ty) (.string nm) (.slice (some ⟨w.heap.size + 1 + 1, 0, none⟩) 0 0) (.slice A5 l5.length n5)).get_6
    refine bodyPost_ret (v := .agg #[.bool s, .bool c, .string ty, .string nm, (.slice (some ⟨w.heap.size + 1 + 1, 0, none⟩) 0 0), .slice A5 l5.length n5]) (by simp [results, Try.results20, go_sem, z0, z1, z2, z3, z4, z5]) rfl ?_
    exact ⟨_, _, l5, rfl, ((HFP.out.set (by omega) 5 _).set_6 (by omega) _ _ _ _ _ _).mono (by omega), ((HFL.out.set (by omega) 5 _).set_6 (by omega) _ _ _ _ _ _).mono (by omega), HBL.out, bset_6 (HBB.out.setCell (Nat.le_refl _) _) (Nat.le_succ _) _ _ _ _ _ _⟩
  | some ad =>
    have hfl := pw_flat (HP.out.keep (Keep.below hb3))
    have HN := Lib.hid (hfl.2 ad rfl)
    have HL := Lib.hid hfl.1
    clear hfl
    have HX3 := Lib.hid hx3; have HY3 := Lib.hid hy3; have HB3 := Lib.hid hb3; have HO := Lib.hid hown
    clear hx3 hy3 hb3 hown
    rw [hW3] at HN HO
    clear hW3
    go_enter Try.func20, Try.ntmps20
    go_wp2_with (at_builtin; refine wpList_append_own_at _ rfl (.tmp 3) (.tmp 5) 36 rfl (w.heap.size + 2) 97 i0 _ 2 32 Try.underlying36 hi hz0 hz1 hz2 rfl (by decide) _ _ _ rfl HO.out ad ps.length np (cellsP ps) rfl HL.out HN.out (prm_one ps) ?c3 ?c4 ?c5 ?_)
    case c3 => unfold maxLen; omega
    case c4 => omega
    case c5 => simp
    intro v2 w2 hown2 hgrow _ hat
    rw [← HW3.out] at hgrow
    have hg2 : Below (w.heap.size + 2) w3 w2 := (Below.refl _ _).grown hgrow (by omega) (fun k hk => by simp [Value.ownBlock] at hk; omega)
    have hx2 := HX3.out.below hg2 (by omega)
    have hy2 := HY3.out.below hg2 (by omega)
    have hb2 : Below w.heap.size w w2 := HB3.out.trans (hg2.mono (by omega))
    have hown2 : w2.ownsRow (w.heap.size + 2) 97 2 v2 ps.length (cellsP ps) := by simpa using hown2
    have hp2 : FkP (w.heap.size + 2) w2 v2 ps := fkp_own hown2 (by obtain ⟨_, _, _, _, h, _⟩ := HP.out; exact h) (by unfold maxLen; omega)
    obtain ⟨A2, n2, rfl, _⟩ := own_form hown2
    have hs2 := hg2.size
    clear hgrow hat hg2 hown2
    have hb4 : Below w.heap.size w (w2.setCell ⟨w.heap.size, 4, none⟩ (.slice A2 ps.length n2)) := hb2.setCell (Nat.le_refl _) _
    have hx4 : Bx (w2.setCell ⟨w.heap.size, 4, none⟩ (.slice A2 ps.length n2)) w.heap.size #[.bool s, .bool c, .string ty, .string nm, (.slice A2 ps.length n2), .slice A l.length cap] 39 := by simpa using hx2.set 4 (.slice A2 ps.length n2)
    have hy4 : Bx (w2.setCell ⟨w.heap.size, 4, none⟩ (.slice A2 ps.length n2)) (w.heap.size + 1) #[.bool false, .bool false, .string ⟨#[]⟩, .string ⟨#[]⟩, .slice none 0 0, .slice none 0 0] 39 := hy2.off (by omega) _ _
    have hp4 : FkP (w.heap.size + 2) (w2.setCell ⟨w.heap.size, 4, none⟩ (.slice A2 ps.length n2)) (.slice A2 ps.length n2) ps := hp2.set (by omega) _ _
    have hs4 : w.heap.size + 2 ≤ (w2.setCell ⟨w.heap.size, 4, none⟩ (.slice A2 ps.length n2)).heap.size := by simp; omega
    have c4 := hx2.cell 4; have c5 := hx2.cell 5; have f4 := hx2.fro 4; have f5 := hx2.fro 5
    clear hx2 hy2 hp2
    go_wp2_with fail
    clear c4 c5 f4 f5
    refine (copies_st_any 1000000 (Nat.le_refl _) _ _ l hl (HR.out.keep (Keep.below hb4)) (KdL.keep (Keep.below hb4) _ HK.out)).mono ?_
    rintro e w5 ⟨v5, l5, rfl, hf5, hbl, hc5⟩
    obtain ⟨A5, n5, rfl⟩ := fk_len hf5
    have hx5 := hx4.next hc5
    have hy5 := hy4.next hc5
    have hp5 := hp4.below hc5
    have hb5 := hb4.trans (hc5.mono hb4.size)
    have hf5' := hf5.mono hs4
    clear hx4 hy4 hp4 hs4 hb4 hf5 hc5
    obtain ⟨x0, x1, x2, x3, x4, x5⟩ := hx5.get_6
    obtain ⟨r0, r1, r2, r3, r4, r5⟩ := hy5.get_6
    have f5 := hx5.fro 5
    have g0 := hy5.fro 0; have g1 := hy5.fro 1; have g2 := hy5.fro 2; have g3 := hy5.fro 3; have g4 := hy5.fro 4; have g5 := hy5.fro 5
    have HY := Lib.hid hy5; have HFP := Lib.hid hp5; have HFL := Lib.hid hf5'; have HBB := Lib.hid hb5; have HBL := Lib.hid hbl
    clear hx5 hy5 hp5 hf5' hb5 hbl
    go_wp2_with fail
    obtain ⟨z0, z1, z2, z3, z4, z5⟩ := ((HY.out.off (c := w.heap.size) (by omega) 5 (.slice A5 l5.length n5)).set_6 (.bool s) (.bool c) (.string ty) (.string nm) (.slice A2 ps.length n2) (.slice A5 l5.length n5)).get_6
    refine bodyPost_ret (v := .agg #[.bool s, .bool c, .string ty, .string nm, (.slice A2 ps.length n2), .slice A5 l5.length n5]) (by simp [results, Try.results20, go_sem, z0, z1, z2, z3, z4, z5]) rfl ?_
    exact ⟨_, _, l5, rfl, ((HFP.out.set (by omega) 5 _).set_6 (by omega) _ _ _ _ _ _).mono (by omega), ((HFL.out.set (by omega) 5 _).set_6 (by omega) _ _ _ _ _ _).mono (by omega), HBL.out, bset_6 (HBB.out.setCell (Nat.le_refl _) _) (Nat.le_succ _) _ _ _ _ _ _⟩
end Go.Proofs.Ytlpddmncgmhkeaa
/- Copies of a program: rows of rows; no program. -/
set_option linter.unusedSimpArgs false
set_option linter.unusedVariables false
namespace Go.Proofs.Ytlpddmncgmhkeaa
open Go.RowKit
theorem KO.next {B : Nat} {r : Option Nat} {w w' : World} {l : List Nd} (h : KO B r w l) (hk : ∀ k j u, B ≤ k → some k ≠ r → w.cell? ⟨k, j, none⟩ = some u → w'.cell? ⟨k, j, none⟩ = some u) : KO B r w' l :=
  fun ws hs => h ws fun k j u hB hr hu => hs k j u hB hr (hk k j u hB hr hu)
/-- Copies so far, from block B on. -/
def AccB (t : Tg) (T : TypeId) (B : Nat) (l : List Nd) (k : Nat) (v : Value) (acc : List Nd) (wr : World) : Prop :=
  acc.length = k ∧ wr.ownsRow B T t.sz v acc.length (acc.flatMap cellsN) ∧ bareL acc = bareL (l.take k) ∧ (∀ x ∈ acc, x.tag = t) ∧ KO B v.ownBlock wr acc
theorem AccB.start (t : Tg) (T : TypeId) (B : Nat) (l : List Nd) (w : World) : AccB t T B l 0 (.slice none 0 0) [] w := ⟨rfl, World.ownsRow_nil _ _ _ _, rfl, by simp, KO.nil _ _ _⟩
theorem AccB.more {t : Tg} {T : TypeId} {B : Nat} {wr w1 w2 : World} {l : List Nd} {k : Nat} {v v2 : Value} {acc : List Nd} {x : Nd} (h : AccB t T B l k v acc wr) (hx : l[k]? = some x) (y : Nd) (hy : y.tag = t) (hby : bareN y = bareN x) (hBw : B ≤ wr.heap.size)
    (hf : ∀ ws, (∀ k j u, wr.heap.size ≤ k → w1.cell? ⟨k, j, none⟩ = some u → ws.cell? ⟨k, j, none⟩ = some u) → Kd ws y) (hb : Below wr.heap.size wr w1)
    (hown : w2.ownsRow B T t.sz v2 (acc.length + 1) (acc.flatMap cellsN ++ cellsN y)) (hg : w1.grownBy w2 v.ownBlock) (hat : v2.ownBlock = v.ownBlock ∨ v2.ownBlock = some w1.heap.size) :
    AccB t T B l (k + 1) v2 (acc ++ [y]) w2 := by
  obtain ⟨h1, h2, h3, h4, h5⟩ := h
  refine ⟨by simp [h1], ?_, bare_take h3 hx hby, ?_, KO.more h5 (own_lt h2) hBw hb hf hg hat⟩
  · rw [List.length_append, List.flatMap_append]; simpa using hown
  · intro x hx'
    rcases List.mem_append.1 hx' with hx' | hx'
    · exact h4 x hx'
    · simp at hx'; rw [hx']; exact hy
theorem AccB.done {t : Tg} {T : TypeId} {B : Nat} {wr : World} {l : List Nd} {k : Nat} {v : Value} {acc : List Nd} (h : AccB t T B l k v acc wr) (hk : l.take k = l) (hm : l.length ≤ 1000000) : FkL B wr t v acc ∧ bareL acc = bareL l := by
  obtain ⟨h1, h2, h3, h4, h5⟩ := h
  rw [hk] at h3
  exact ⟨fk_own (t := t) h2 h4 h5 (by rw [len_of_bare h3]; exact hm), h3⟩
/-- A store into a block below. -/
theorem AccB.set {t : Tg} {T : TypeId} {B c : Nat} {wr : World} {l : List Nd} {k : Nat} {v : Value} {acc : List Nd} (h : AccB t T B l k v acc wr) (hc : c < B) (hs : c < wr.heap.size) (j : Nat) (u : Value) : AccB t T B l k v acc (wr.setCell ⟨c, j, none⟩ u) := by
  obtain ⟨h1, h2, h3, h4, h5⟩ := h
  exact ⟨h1, ownsRow_setCell_below h2 hc u, h3, h4, h5.next fun k i x hB _ hu => by rw [World.cell?_setCell_other _ _ _ _ (by simp <;> omega)]; exact hu⟩
/-- Other memory has turned. -/
theorem AccB.kept {t : Tg} {T : TypeId} {B g : Nat} {wr w' : World} {l : List Nd} {k : Nat} {v : Value} {acc : List Nd} (h : AccB t T B l k v acc wr) (hg : wr.grownBy w' (some g)) (hgs : wr.heap.size ≤ g) : AccB t T B l k v acc w' := by
  obtain ⟨h1, h2, h3, h4, h5⟩ := h
  have hb : Below wr.heap.size wr w' := ⟨hg.os, hg.tape, hg.output, hg.size, fun k hk => hg.block k hk (by simp; omega)⟩
  exact ⟨h1, own_next h2 hb, h3, h4, h5.next fun k i x hB _ hu => Keep.below hb _ _ hu⟩
theorem grown_over {a b c : World} {r : Option Nat} {g : Nat} (h : a.grownBy b r) (k : b.grownBy c (some g)) (hg : a.heap.size ≤ g) : a.grownBy c r :=
  ⟨k.os.trans h.os, k.tape.trans h.tape, k.output.trans h.output, Nat.le_trans h.size k.size, fun i hi hne => (k.block i (Nat.lt_of_lt_of_le hi h.size) (by simp; omega)).trans (h.block i hi hne)⟩
theorem below_over {B : Nat} {a b c : World} {g : Nat} (h : Below B a b) (k : b.grownBy c (some g)) (hB : B ≤ b.heap.size) (hg : B ≤ g) : Below B a c := h.grown k hB (by rintro i ⟨rfl⟩; exact hg)
theorem grown_drew {a b : World} {r : Option Nat} (h : a.grownBy b r) : a.grownBy b.drew r := ⟨h.os, h.tape, h.output, h.size, h.block⟩
theorem Bx.kept {w w' : World} {b g : Nat} {cs : Array Value} {T : TypeId} (h : Bx w b cs T) (hg : w.grownBy w' (some g)) (hne : b ≠ g) : Bx w' b cs T := (hg.block b h.lt (by simpa using hne)).trans h
/-- A row within a class's box that grows. -/
structure InR (wr0 : World) (b : Nat) (cs : Value → Array Value) (t : Tg) (T : TypeId) (l : List Nd) (k : Nat) (v : Value) (acc : List Nd) (wx : World) : Prop where
  bx : Bx wx b (cs v) 33
  acc : AccB t T wr0.heap.size l k v acc wx
  gro : wr0.grownBy wx (some b)
theorem InR.step {wr0 wx w1 w2 : World} {b j : Nat} {cs : Value → Array Value} {t : Tg} {T : TypeId} {l : List Nd} {k : Nat} {v v2 : Value} {acc : List Nd} {x : Nd} (h : InR wr0 b cs t T l k v acc wx) (hb0 : b < wr0.heap.size) (hx : l[k]? = some x) (y : Nd) (hy : y.tag = t) (hby : bareN y = bareN x)
    (hf : ∀ ws, (∀ k j u, wx.heap.size ≤ k → w1.cell? ⟨k, j, none⟩ = some u → ws.cell? ⟨k, j, none⟩ = some u) → Kd ws y) (hb : Below wx.heap.size wx w1)
    (hown : w2.ownsRow wr0.heap.size T t.sz v2 (acc.length + 1) (acc.flatMap cellsN ++ cellsN y)) (hg : w1.grownBy w2 v.ownBlock) (hat : v2.ownBlock = v.ownBlock ∨ v2.ownBlock = some w1.heap.size) (hcs : (cs v).setIfInBounds j v2 = cs v2) :
    InR wr0 b cs t T l (k + 1) v2 (acc ++ [y]) (w2.setCell ⟨b, j, none⟩ v2) := by
  have hlo : ∀ i, v.ownBlock = some i → wr0.heap.size ≤ i := fun i hi => (h.acc.2.1.lt i hi).1
  have hbx1 := (h.bx.next hb)
  have hbx2 : Bx w2 b (cs v) 33 := (hg.block b hbx1.lt (fun e => by have := hlo b e.symm; omega)).trans hbx1
  have hgw : wr0.grownBy w2 (some b) := ⟨hg.os.trans (hb.os.trans h.gro.os), hg.tape.trans (hb.tape.trans h.gro.tape), hg.output.trans (hb.output.trans h.gro.output), Nat.le_trans h.gro.size (Nat.le_trans hb.size hg.size), fun i hi hne => by
    have h1 : i < wx.heap.size := Nat.lt_of_lt_of_le hi h.gro.size
    exact (hg.block i (Nat.lt_of_lt_of_le h1 hb.size) (fun e => by have := hlo i e.symm; omega)).trans ((hb.block i h1).trans (h.gro.block i hi hne))⟩
  refine ⟨?_, (h.acc.more hx y hy hby h.gro.size hf hb hown hg hat).set hb0 (Nat.lt_of_lt_of_le hb0 hgw.size) j v2, hgw.trans (grown_set_at _ _ _ _)⟩
  have := hbx2.set j v2
  rw [hcs] at this; exact this
end Go.Proofs.Ytlpddmncgmhkeaa
/- The document's copy of a program: changelingref17.Copy. Written by wip/tools/gen_copye.py. -/
set_option linter.unusedSimpArgs false
set_option linter.unusedVariables false
namespace Go.Proofs.Ytlpddmncgmhkeaa
open Go.RowKit
def CopyPrSaid (w : World) (l : List Nd) (e : Ending) (w' : World) : Prop := ∃ v' l', e = .returned (.agg #[v']) ∧ FkL w.heap.size w' .cl v' l' ∧ bareL l' = bareL l ∧ Below w.heap.size w w'
theorem boxes3 (w : World) (a b c : Array Value) (T U V : TypeId) : ∃ W, W = ((w.alloc (.cells a T)).alloc (.cells b U)).alloc (.cells c V) ∧ Bx W w.heap.size a T ∧ Bx W (w.heap.size + 1) b U ∧ Bx W (w.heap.size + 2) c V ∧ Below w.heap.size w W ∧ W.heap.size = w.heap.size + 3 := by
  have hx : Bx (w.alloc (.cells a T)) w.heap.size a T := Bx.new _ _ _
  have hy : Bx ((w.alloc (.cells a T)).alloc (.cells b U)) (w.heap.size + 1) b U := by simpa using Bx.new (w.alloc (.cells a T)) b U
  have hz : Bx (((w.alloc (.cells a T)).alloc (.cells b U)).alloc (.cells c V)) (w.heap.size + 2) c V := by simpa using Bx.new ((w.alloc (.cells a T)).alloc (.cells b U)) c V
  exact ⟨_, rfl, (hx.next ((Below.refl _ _).alloc (Nat.le_refl _) _)).next ((Below.refl _ _).alloc (Nat.le_refl _) _), hy.next ((Below.refl _ _).alloc (Nat.le_refl _) _), hz, (((Below.refl _ w).alloc (Nat.le_refl _) _).alloc (by simp) _).alloc (by simp <;> omega) _, by simp⟩
theorem fk_over {B g : Nat} {w w' : World} {t : Tg} {v : Value} {l : List Nd} (h : FkL B w t v l) (hg : w.grownBy w' (some g)) (hB : g < B) : FkL B w' t v l :=
  h.next fun k j u hk hu => (World.cell?_of_block (a := ⟨k, j, none⟩) (hg.block k (World.block_lt_of_cell? w (a := ⟨k, j, none⟩) hu) (by simp; omega))).trans hu
/-- The classes so far, in the box of the result. -/
structure OutR (w w3 : World) (l : List Nd) (i : Nat) (v : Value) (acc : List Nd) (wr : World) : Prop where
  q : Bx wr (w.heap.size + 2) #[v] 24
  acc : AccB .cl 33 (w.heap.size + 3) l i v acc wr
  gro : w3.grownBy wr (some (w.heap.size + 2))
theorem OutR.step {w w3 wr w1 w2 : World} {l : List Nd} {i : Nat} {v v2 : Value} {acc : List Nd} {x : Nd} (h : OutR w w3 l i v acc wr) (hz : w3.heap.size = w.heap.size + 3) (hx : l[i]? = some x) (y : Nd) (hy : y.tag = .cl) (hby : bareN y = bareN x)
    (hf : ∀ ws, (∀ k j u, wr.heap.size ≤ k → w1.cell? ⟨k, j, none⟩ = some u → ws.cell? ⟨k, j, none⟩ = some u) → Kd ws y) (hb : Below wr.heap.size wr w1)
    (hown : w2.ownsRow (w.heap.size + 3) 33 4 v2 (acc.length + 1) (acc.flatMap cellsN ++ cellsN y)) (hg : w1.grownBy w2 v.ownBlock) (hat : v2.ownBlock = v.ownBlock ∨ v2.ownBlock = some w1.heap.size) :
    OutR w w3 l (i + 1) v2 (acc ++ [y]) (w2.setCell ⟨w.heap.size + 2, 0, none⟩ v2) := by
  have hs := h.gro.size
  have hlo : ∀ k, v.ownBlock = some k → w.heap.size + 3 ≤ k := fun k hk => (h.acc.2.1.lt k hk).1
  have hq1 := h.q.next hb
  have hq2 : Bx w2 (w.heap.size + 2) #[v] 24 := (hg.block _ hq1.lt (fun e => by have := hlo _ e.symm; omega)).trans hq1
  have hgw : w3.grownBy w2 (some (w.heap.size + 2)) := ⟨hg.os.trans (hb.os.trans h.gro.os), hg.tape.trans (hb.tape.trans h.gro.tape), hg.output.trans (hb.output.trans h.gro.output), Nat.le_trans hs (Nat.le_trans hb.size hg.size), fun k hk hne => by
    have h1 : k < wr.heap.size := Nat.lt_of_lt_of_le hk hs
    exact (hg.block k (Nat.lt_of_lt_of_le h1 hb.size) (fun e => by have := hlo k e.symm; omega)).trans ((hb.block k h1).trans (h.gro.block k hk hne))⟩
  refine ⟨by simpa using hq2.set 0 v2, (h.acc.more hx y hy hby (by omega) hf hb hown hg hat).set (by omega) (by have := hgw.size; omega) 0 v2, hgw.trans (grown_set_at _ _ _ _)⟩
set_option maxRecDepth 100000 in
set_option maxHeartbeats 8000000 in
theorem copy_prog (w : World) (v : Value) (l : List Nd) (hr : Rw w .cl v l) (hk : KdL w l) (hl : sizeL l ≤ 1000000) (hp : ∀ x ∈ l, ∀ y ∈ x.kids, psN y) :
    Calls Try.prog 6 #[.agg #[v]] w (CopyPrSaid w l) := by
  obtain ⟨A, cap, rfl⟩ := hr.form
  obtain ⟨n, hn⟩ : ∃ n, l.length = n := ⟨_, rfl⟩
  have hm : n ≤ 1000000 := by have := len_sizeL l; omega
  obtain ⟨i1, hi1, ha1, hb1, hc1⟩ := info_parts Try.infoOfField
  obtain ⟨i2, hi2, ha2, hb2, hc2⟩ := info_parts Try.infoOfMethod
  obtain ⟨i3, hi3, ha3, hb3, hc3⟩ := info_parts Try.infoOfClass
  rw [hn] at hr ⊢
  have HR := Lib.hid hr; have HK := Lib.hid hk; have HLN := Lib.hid hn; have HP := Lib.hid hp
  clear hr hk hn hp
  obtain ⟨w3, hW3, hx3, hy3, hq3, hbw3, hz3⟩ := boxes3 w #[.slice A n cap] #[.slice none 0 0] #[.slice none 0 0] 24 24 24
  go_enter Try.func6, Try.ntmps6
  go_wp2_with fail
  rw [← hW3]
  clear hW3
  have HX3 := Lib.hid hx3; have HY3 := Lib.hid hy3; have HQ3 := Lib.hid hq3; have HBW := Lib.hid hbw3
  have HKP : Hid (∀ w', w3.grownBy w' (some (w.heap.size + 2)) → Keep w w') := by
    show ∀ w', _
    intro w' hg p u hu
    have hlt := World.block_lt_of_cell? w p hu
    exact ((World.cell?_of_block (hg.block p.block (by omega) (by simp; omega))).trans (hbw3.cell hlt)).trans hu
  clear hx3 hy3 hq3 hbw3
  go_loopw [4] (fun v4 wr => ∃ (i : Nat) (acc : List Nd) (v : Value), v4 = .int .i64 i ∧ i ≤ n ∧ OutR w w3 l i v acc wr) (fun v4 wr => n - (intOf v4).toNat)
  case atStart => exact ⟨0, [], .slice none 0 0, rfl, Nat.zero_le _, HQ3.out, AccB.start _ _ _ _ _, grown_refl _ _⟩
  case round =>
    obtain ⟨i, acc, v, rfl, hin, hO⟩ := hrel
    have HO := Lib.hid hO
    have hgw := hO.gro
    have hgs := hgw.size
    clear hO
    by_cases hlt : i < n
    · obtain ⟨b, o, x, rfl, hx, hxt, hc⟩ := HR.out.get hlt
      have hxk := KdL.mem_get HK.out hx
      have hxp := HP.out x (List.mem_of_getElem? hx)
      have hxz := size_mem (List.mem_of_getElem? hx)
      cases x <;> first | (simp [Nd.tag] at hxt; done) | skip
      rename_i xnm xsp vf vm f m
      have hsz : (Nd.cl xnm xsp vf vm f m).size = 1 + (sizeL f + sizeL m) := by simp [Nd.size]
      rw [Kd] at hxk
      obtain ⟨Af, nf, rfl⟩ := hxk.2.1.1.form
      obtain ⟨Am, nm, rfl⟩ := hxk.2.2.1.form
      have HC : Hid (∀ w', w3.grownBy w' (some (w.heap.size + 2)) → w'.cell? ⟨w.heap.size, 0, none⟩ = some (.slice (some ⟨b, o, none⟩) n cap) ∧ w'.cell? ⟨b, o + i * 4, none⟩ = some (.string xnm) ∧ w'.cell? ⟨b, o + i * 4 + 1, none⟩ = some (.string xsp) ∧ w'.cell? ⟨b, o + i * 4 + 2, none⟩ = some (.slice Af f.length nf) ∧ w'.cell? ⟨b, o + i * 4 + 3, none⟩ = some (.slice Am m.length nm)) := by
        show ∀ w', _
        intro w' hg
        have K := HKP.out _ hg
        exact ⟨(HX3.out.kept hg (by omega)).cell 0, K _ _ (hc 0 _ rfl), K _ _ (hc 1 _ rfl), K _ _ (hc 2 _ rfl), K _ _ (hc 3 _ rfl)⟩
      obtain ⟨fn, hfn⟩ : ∃ q, f.length = q := ⟨_, rfl⟩
      obtain ⟨mn, hmn⟩ : ∃ q, m.length = q := ⟨_, rfl⟩
      have hfm : fn ≤ 1000000 := by have := len_sizeL f; omega
      have hmm : mn ≤ 1000000 := by have := len_sizeL m; omega
      have HFS := Lib.hid (show sizeL f ≤ 1000000 by omega)
      have HMS := Lib.hid (show sizeL m ≤ 1000000 by omega)
      have HFK := Lib.hid hxk.2.1; have HMK := Lib.hid hxk.2.2; have HNS := Lib.hid hxk.1
      have HPS := Lib.hid (show ∀ y ∈ m, psN y from fun y hy => hxp y (by simp [Nd.kids, hy]))
      have HXG := Lib.hid hx
      rw [hfn, hmn] at HC
      rw [hfn] at HFK; rw [hmn] at HMK
      have HFN := Lib.hid hfn; have HMN := Lib.hid hmn
      clear hc hxk hx hxt hxp hxz hsz hfn hmn
      obtain ⟨b0, d0, d1, d2, d3⟩ := HC.out _ hgw
      have HCW : Hid (∀ w', Below wr.heap.size wr w' → w'.cell? ⟨w.heap.size, 0, none⟩ = some (.slice (some ⟨b, o, none⟩) n cap) ∧ w'.cell? ⟨b, o + i * 4, none⟩ = some (.string xnm) ∧ w'.cell? ⟨b, o + i * 4 + 1, none⟩ = some (.string xsp)) := by
        show ∀ w', _
        intro w' hb
        exact ⟨Keep.below hb _ _ b0, Keep.below hb _ _ d0, Keep.below hb _ _ d1⟩
      have hBd : Below wr.heap.size wr wr.drew := (Below.refl _ wr).drew
      have hBa := hBd.alloc (Nat.le_refl _) (.cells #[.string ⟨#[]⟩, .string ⟨#[]⟩, .slice none 0 0, .slice none 0 0] 33)
      have hBs := bset_4 hBa (Nat.le_refl wr.heap.size) (.string xnm) (.string xsp) (.slice none 0 0) (.slice none 0 0)
      have hx0 : Bx ((((((wr.drew).alloc (.cells #[.string ⟨#[]⟩, .string ⟨#[]⟩, .slice none 0 0, .slice none 0 0] 33)).setCell ⟨wr.heap.size, 0, none⟩ (.string xnm)).setCell ⟨wr.heap.size, 1, none⟩ (.string xsp)).setCell ⟨wr.heap.size, 2, none⟩ (.slice none 0 0)).setCell ⟨wr.heap.size, 3, none⟩ (.slice none 0 0)) wr.heap.size #[.string xnm, .string xsp, .slice none 0 0, .slice none 0 0] 33 := Bx.set_4 (Bx.new wr.drew #[.string ⟨#[]⟩, .string ⟨#[]⟩, .slice none 0 0, .slice none 0 0] 33) _ _ _ _
      have hzz : ((((((wr.drew).alloc (.cells #[.string ⟨#[]⟩, .string ⟨#[]⟩, .slice none 0 0, .slice none 0 0] 33)).setCell ⟨wr.heap.size, 0, none⟩ (.string xnm)).setCell ⟨wr.heap.size, 1, none⟩ (.string xsp)).setCell ⟨wr.heap.size, 2, none⟩ (.slice none 0 0)).setCell ⟨wr.heap.size, 3, none⟩ (.slice none 0 0)).heap.size = wr.heap.size + 1 := by simp
      go_wp2_with fail
      go_region_held3 (fun w' => w'.cell? ⟨w.heap.size, 0, none⟩ = some (.slice (some ⟨b, o, none⟩) n cap) ∧ w'.cell? ⟨b, o + i * 4, none⟩ = some (.string xnm) ∧ w'.cell? ⟨b, o + i * 4 + 1, none⟩ = some (.string xsp))
        (first | with_reducible exact HCW.out _ hBd | with_reducible exact HCW.out _ hBa | with_reducible exact HCW.out _ hBs | (simp [*, World.cell?_alloc_some, World.cell?_setCell_far]))
        (fail)
      all_goals
        go_wp2_with fail
        refine gen_world (fun W => Bx W wr.heap.size #[.string xnm, .string xsp, .slice none 0 0, .slice none 0 0] 33 ∧ Below wr.heap.size wr W ∧ W.heap.size = wr.heap.size + 1) ?_ ?_
        · exact ⟨Bx.new wr _ _, ((Below.refl _ wr).alloc (Nat.le_refl _) _).drew, by simp⟩
        · rintro wz ⟨hxz, hbz, hzz⟩
          obtain ⟨wo, rfl⟩ : ∃ q, q = wr := ⟨_, rfl⟩
          obtain ⟨b5, hb5⟩ : ∃ q, wo.heap.size = q := ⟨_, rfl⟩
          rw [hb5] at hxz hbz hzz hgs ⊢
          have hgz : w3.grownBy wz (some (w.heap.size + 2)) := hgw.trans (grown_below (by rw [hb5]; exact hbz))
          have hg5 : w3.heap.size ≤ b5 := hgs
          have HXZ := Lib.hid hxz; have HBZ := Lib.hid hbz; have HB5 := Lib.hid hb5
          clear hxz hbz hb5 b0 d0 d1 d2 d3 HCW hBd hBa hBs hx0
          go_loopw [6] (fun v6 wx => ∃ (k : Nat) (acc2 : List Nd) (v2 : Value), v6 = .int .i64 k ∧ k ≤ fn ∧ InR wz b5 (fun u => #[.string xnm, .string xsp, u, .slice none 0 0]) .fd 44 f k v2 acc2 wx) (fun v6 wx => fn - (intOf v6).toNat)
          case atStart => exact ⟨0, [], .slice none 0 0, rfl, Nat.zero_le _, HXZ.out, AccB.start _ _ _ _ _, grown_refl _ _⟩
          case round =>
            obtain ⟨k, acc2, v2, rfl, hkn, hI⟩ := hrel
            have HI := Lib.hid hI
            obtain ⟨A2, n2, rfl, _⟩ := own_form hI.acc.2.1
            have hgi := grown_over hgz hI.gro hg5
            obtain ⟨b0, d0, d1, d2, d3⟩ := HC.out _ hgi
            have c2 := hI.bx.cell 2
            have f2 := hI.bx.fro 2
            simp only [List.getElem?_toArray, List.getElem?_cons_succ, List.getElem?_cons_zero] at c2
            have hal := hI.acc.1
            have hwb := hI.gro.size
            have hown := hI.acc.2.1
            simp only [Tg.sz] at hown
            rw [hal] at hown
            by_cases hk : k < fn
            · have K := HKP.out _ hgi
              obtain ⟨b1, o1, y, rfl, hy, hyt, hcy⟩ := (HFK.out.1.keep K).get hk
              have hyk := KdL.mem_get (KdL.keep K _ HFK.out.2) hy
              have hyz := size_mem (List.mem_of_getElem? hy)
              cases y <;> first | (simp [Nd.tag] at hyt; done) | skip
              rename_i ys yty ynm yv yl
              have hys : sizeL yl ≤ 1000000 := by
                have h1 : (Nd.fd ys yty ynm yv yl).size = 1 + sizeL yl := by simp [Nd.size]
                have h2 := HFS.out; omega
              have HCF : Hid (∀ w', Below wr.heap.size wr w' → Calls Try.prog 19 #[.agg #[.bool ys, .string yty, .string ynm, yv]] w' (CopyFdSaid w' ys yty ynm yl)) := by
                show ∀ w', _
                intro w' hb; exact copy_field w' ys yty ynm yv yl (Kd.keep (Keep.below hb) _ hyk) hys
              have e0 := hcy 0 _ rfl; have e1 := hcy 1 _ rfl; have e2 := hcy 2 _ rfl; have e3 := hcy 3 _ rfl
              simp only [Tg.sz, Nat.add_zero] at e0 e1 e2 e3
              rw [Kd] at hyk
              have HYS := Lib.hid hyk.1
              obtain ⟨Ay, ny, rfl⟩ := hyk.2.1.form
              have HYG := Lib.hid hy
              have hBd : Below wr.heap.size wr wr.drew := (Below.refl _ wr).drew
              clear hcy hyk hy hyt hyz hI K
              go_wp2_with fail
              have HS : Hid (∀ w', Below wr.heap.size wr w' → w'.cell? ⟨w.heap.size, 0, none⟩ = some (.slice (some ⟨b, o, none⟩) n cap) ∧ w'.cell? ⟨b, o + i * 4 + 2, none⟩ = some (.slice (some ⟨b1, o1, none⟩) fn nf) ∧ w'.cell? ⟨b5, 2, none⟩ = some (.slice A2 acc2.length n2) ∧ w'.cell? ⟨b1, o1 + k * 4, none⟩ = some (.bool ys) ∧ w'.cell? ⟨b1, o1 + k * 4 + 1, none⟩ = some (.string yty) ∧ w'.cell? ⟨b1, o1 + k * 4 + 2, none⟩ = some (.string ynm) ∧ w'.cell? ⟨b1, o1 + k * 4 + 3, none⟩ = some (.slice Ay yl.length ny)) := by
                show ∀ w', _
                intro w' hb
                exact ⟨Keep.below hb _ _ b0, Keep.below hb _ _ d2, Keep.below hb _ _ c2, Keep.below hb _ _ e0, Keep.below hb _ _ e1, Keep.below hb _ _ e2, Keep.below hb _ _ e3⟩
              clear e0 e1 e2 e3 b0 d0 d1 d2 d3 c2 f2
              refine region_gen (fun ops hops => ?_)
              have k0 : Region.noSelect ops = true := by rw [hops]; decide +kernel
              have kn : ops.size = 16 := by rw [hops]; decide +kernel
              obtain ⟨_, _, _, zo0⟩ : ∃ ps af ty, ops[0]? = some { dst := some 39, op := Op.fieldAddr 33 (.tmp 5) 2, type := ty, pos := ps, after := af, guard := none } := by rw [hops]; exact ⟨_, _, _, rfl⟩
              obtain ⟨_, _, zo1⟩ : ∃ ps af, ops[1]? = some { dst := some 40, op := Op.load 30 (.tmp 39), type := 30, pos := ps, after := af, guard := none } := by rw [hops]; exact ⟨_, _, rfl⟩
              obtain ⟨_, _, _, zo2⟩ : ∃ ps af ty, ops[2]? = some { dst := some 41, op := Op.fieldAddr 24 (.tmp 1) 0, type := ty, pos := ps, after := af, guard := none } := by rw [hops]; exact ⟨_, _, _, rfl⟩
              obtain ⟨_, _, zo3⟩ : ∃ ps af, ops[3]? = some { dst := some 42, op := Op.load 22 (.tmp 41), type := 22, pos := ps, after := af, guard := none } := by rw [hops]; exact ⟨_, _, rfl⟩
              obtain ⟨_, _, _, zo4⟩ : ∃ ps af ty, ops[4]? = some { dst := some 43, op := Op.move (.tmp 4), type := ty, pos := ps, after := af, guard := none } := by rw [hops]; exact ⟨_, _, _, rfl⟩
              obtain ⟨_, _, _, zo5⟩ : ∃ ps af ty, ops[5]? = some { dst := some 44, op := Op.indexAddr 22 (.tmp 42) (.tmp 43), type := ty, pos := ps, after := af, guard := none } := by rw [hops]; exact ⟨_, _, _, rfl⟩
              obtain ⟨_, _, _, zo6⟩ : ∃ ps af ty, ops[6]? = some { dst := some 45, op := Op.fieldAddr 33 (.tmp 44) 2, type := ty, pos := ps, after := af, guard := none } := by rw [hops]; exact ⟨_, _, _, rfl⟩
              obtain ⟨_, _, zo7⟩ : ∃ ps af, ops[7]? = some { dst := some 46, op := Op.load 30 (.tmp 45), type := 30, pos := ps, after := af, guard := none } := by rw [hops]; exact ⟨_, _, rfl⟩
              obtain ⟨_, _, _, zo8⟩ : ∃ ps af ty, ops[8]? = some { dst := some 47, op := Op.move (.tmp 6), type := ty, pos := ps, after := af, guard := none } := by rw [hops]; exact ⟨_, _, _, rfl⟩
              obtain ⟨_, _, _, zo9⟩ : ∃ ps af ty, ops[9]? = some { dst := some 48, op := Op.indexAddr 30 (.tmp 46) (.tmp 47), type := ty, pos := ps, after := af, guard := none } := by rw [hops]; exact ⟨_, _, _, rfl⟩
              obtain ⟨_, _, zo10⟩ : ∃ ps af, ops[10]? = some { dst := some 49, op := Op.load 44 (.tmp 48), type := 44, pos := ps, after := af, guard := none } := by rw [hops]; exact ⟨_, _, rfl⟩
              obtain ⟨_, _, zo11⟩ : ∃ ps af, ops[11]? = some { dst := some 50, op := Op.call { callee := Callee.value (Operand.func 19), args := #[Operand.tmp 49], argTypes := #[44] }, type := 44, pos := ps, after := af, guard := none } := by rw [hops]; exact ⟨_, _, rfl⟩
              obtain ⟨_, _, zo12⟩ : ∃ ps af, ops[12]? = some { dst := some 51, op := Op.buildSlice 30 1 #[(0, Operand.tmp 50)], type := 30, pos := ps, after := af, guard := none } := by rw [hops]; exact ⟨_, _, rfl⟩
              obtain ⟨_, _, zo13⟩ : ∃ ps af, ops[13]? = some { dst := some 52, op := Op.call { callee := Callee.builtin Builtin.append, args := #[Operand.tmp 40, Operand.tmp 51], argTypes := #[30, 30] }, type := 30, pos := ps, after := af, guard := none } := by rw [hops]; exact ⟨_, _, rfl⟩
              obtain ⟨_, _, _, zo14⟩ : ∃ ps af ty, ops[14]? = some { dst := some 53, op := Op.fieldAddr 33 (.tmp 5) 2, type := ty, pos := ps, after := af, guard := none } := by rw [hops]; exact ⟨_, _, _, rfl⟩
              obtain ⟨_, _, _, zo15⟩ : ∃ ps af ty, ops[15]? = some { dst := none, op := Op.store 30 (.tmp 53) (.tmp 52), type := ty, pos := ps, after := af, guard := none } := by rw [hops]; exact ⟨_, _, _, rfl⟩
              have r0 : (Region.ready .any ops #[false, false, false, false, false, false, false, false, false, false, false, false, false, false, false, false]).contains 0 = true := by rw [hops]; decide +kernel
              have q0 : Region.free .any ops #[false, false, false, false, false, false, false, false, false, false, false, false, false, false, false, false] 0 = true := by rw [hops]; decide +kernel
              have r1 : (Region.ready .any ops #[true, false, false, false, false, false, false, false, false, false, false, false, false, false, false, false]).contains 1 = true := by rw [hops]; decide +kernel
              have q1 : Region.free .any ops #[true, false, false, false, false, false, false, false, false, false, false, false, false, false, false, false] 1 = true := by rw [hops]; decide +kernel
              have w1' : chainW .any ops 1 [13] = true := by rw [hops]; decide +kernel
              have r2 : (Region.ready .any ops #[true, true, false, false, false, false, false, false, false, false, false, false, false, false, false, false]).contains 2 = true := by rw [hops]; decide +kernel
              have q2 : Region.free .any ops #[true, true, false, false, false, false, false, false, false, false, false, false, false, false, false, false] 2 = true := by rw [hops]; decide +kernel
              have r3 : (Region.ready .any ops #[true, true, true, false, false, false, false, false, false, false, false, false, false, false, false, false]).contains 3 = true := by rw [hops]; decide +kernel
              have q3 : Region.free .any ops #[true, true, true, false, false, false, false, false, false, false, false, false, false, false, false, false] 3 = true := by rw [hops]; decide +kernel
              have w3' : chainW .any ops 3 [5, 6, 7, 9, 10, 11, 12, 13] = true := by rw [hops]; decide +kernel
              have r4 : (Region.ready .any ops #[true, true, true, true, false, false, false, false, false, false, false, false, false, false, false, false]).contains 4 = true := by rw [hops]; decide +kernel
              have q4 : Region.free .any ops #[true, true, true, true, false, false, false, false, false, false, false, false, false, false, false, false] 4 = true := by rw [hops]; decide +kernel
              have r5 : (Region.ready .any ops #[true, true, true, true, true, false, false, false, false, false, false, false, false, false, false, false]).contains 5 = true := by rw [hops]; decide +kernel
              have q5 : Region.free .any ops #[true, true, true, true, true, false, false, false, false, false, false, false, false, false, false, false] 5 = true := by rw [hops]; decide +kernel
              have r6 : (Region.ready .any ops #[true, true, true, true, true, true, false, false, false, false, false, false, false, false, false, false]).contains 6 = true := by rw [hops]; decide +kernel
              have q6 : Region.free .any ops #[true, true, true, true, true, true, false, false, false, false, false, false, false, false, false, false] 6 = true := by rw [hops]; decide +kernel
              have r7 : (Region.ready .any ops #[true, true, true, true, true, true, true, false, false, false, false, false, false, false, false, false]).contains 7 = true := by rw [hops]; decide +kernel
              have q7 : Region.free .any ops #[true, true, true, true, true, true, true, false, false, false, false, false, false, false, false, false] 7 = true := by rw [hops]; decide +kernel
              have w7' : chainW .any ops 7 [9, 10, 11, 12, 13] = true := by rw [hops]; decide +kernel
              have r8 : (Region.ready .any ops #[true, true, true, true, true, true, true, true, false, false, false, false, false, false, false, false]).contains 8 = true := by rw [hops]; decide +kernel
              have q8 : Region.free .any ops #[true, true, true, true, true, true, true, true, false, false, false, false, false, false, false, false] 8 = true := by rw [hops]; decide +kernel
              have r9 : (Region.ready .any ops #[true, true, true, true, true, true, true, true, true, false, false, false, false, false, false, false]).contains 9 = true := by rw [hops]; decide +kernel
              have q9 : Region.free .any ops #[true, true, true, true, true, true, true, true, true, false, false, false, false, false, false, false] 9 = true := by rw [hops]; decide +kernel
              have r10 : (Region.ready .any ops #[true, true, true, true, true, true, true, true, true, true, false, false, false, false, false, false]).contains 10 = true := by rw [hops]; decide +kernel
              have q10 : Region.free .any ops #[true, true, true, true, true, true, true, true, true, true, false, false, false, false, false, false] 10 = true := by rw [hops]; decide +kernel
              have w10' : chainW .any ops 10 [11, 12, 13] = true := by rw [hops]; decide +kernel
              have r11 : Region.ready .any ops #[true, true, true, true, true, true, true, true, true, true, true, false, false, false, false, false] = [11] := by rw [hops]; decide +kernel
              have r12 : Region.ready .any ops #[true, true, true, true, true, true, true, true, true, true, true, true, false, false, false, false] = [12] := by rw [hops]; decide +kernel
              have r13 : Region.ready .any ops #[true, true, true, true, true, true, true, true, true, true, true, true, true, false, false, false] = [13] := by rw [hops]; decide +kernel
              have r14 : (Region.ready .any ops #[true, true, true, true, true, true, true, true, true, true, true, true, true, true, false, false]).contains 14 = true := by rw [hops]; decide +kernel
              have q14 : Region.free .any ops #[true, true, true, true, true, true, true, true, true, true, true, true, true, true, false, false] 14 = true := by rw [hops]; decide +kernel
              have r15 : Region.ready .any ops #[true, true, true, true, true, true, true, true, true, true, true, true, true, true, true, false] = [15] := by rw [hops]; decide +kernel
              have rz : Region.ready .any ops #[true, true, true, true, true, true, true, true, true, true, true, true, true, true, true, true] = [] := by rw [hops]; decide +kernel
              clear hops
              obtain ⟨S, hSd⟩ : ∃ S : World → Prop, S = fun w' => w'.cell? ⟨w.heap.size, 0, none⟩ = some (.slice (some ⟨b, o, none⟩) n cap) ∧ w'.cell? ⟨b, o + i * 4 + 2, none⟩ = some (.slice (some ⟨b1, o1, none⟩) fn nf) ∧ w'.cell? ⟨b5, 2, none⟩ = some (.slice A2 acc2.length n2) ∧ w'.cell? ⟨b1, o1 + k * 4, none⟩ = some (.bool ys) ∧ w'.cell? ⟨b1, o1 + k * 4 + 1, none⟩ = some (.string yty) ∧ w'.cell? ⟨b1, o1 + k * 4 + 2, none⟩ = some (.string ynm) ∧ w'.cell? ⟨b1, o1 + k * 4 + 3, none⟩ = some (.slice Ay yl.length ny) := ⟨_, rfl⟩
              have HSE : Hid (∀ w', S w' → w'.cell? ⟨w.heap.size, 0, none⟩ = some (.slice (some ⟨b, o, none⟩) n cap) ∧ w'.cell? ⟨b, o + i * 4 + 2, none⟩ = some (.slice (some ⟨b1, o1, none⟩) fn nf) ∧ w'.cell? ⟨b5, 2, none⟩ = some (.slice A2 acc2.length n2) ∧ w'.cell? ⟨b1, o1 + k * 4, none⟩ = some (.bool ys) ∧ w'.cell? ⟨b1, o1 + k * 4 + 1, none⟩ = some (.string yty) ∧ w'.cell? ⟨b1, o1 + k * 4 + 2, none⟩ = some (.string ynm) ∧ w'.cell? ⟨b1, o1 + k * 4 + 3, none⟩ = some (.slice Ay yl.length ny)) := by
                show ∀ w', _
                intro w' h; rw [hSd] at h; exact h
              have HSI : Hid (∀ w', Below wr.heap.size wr w' → S w') := by
                show ∀ w', _
                intro w' h; rw [hSd]; exact HS.out _ h
              have hS0 : S wr.drew := HSI.out _ hBd
              clear hSd
              refine wp_region_stg S [13] 16 #[false, false, false, false, false, false, false, false, false, false, false, false, false, false, false, false] (by kernel_rfl) kn (by rfl) ?_
              refine stg_take' (i := 0) (v := ?va1) zo0 k0 q0 r0 (fun _ _ _ h => h) rfl (Or.inl ⟨by rfl, ?ya1⟩) (fun _ => hS0) ?ra1
              case ya1 => (intro wq; go_simp; try with_reducible rfl)
              clear zo0 q0 r0
              try simp only [Act.put, List.setIfInBounds_toArray, List.set_cons_zero, List.set_cons_succ]
              refine stg_chain (i := 1) (c := 13) (D := [13]) (v := ?va2) zo1 k0 q1 r1 (fun _ _ _ h => h) rfl rfl rfl w1' rfl (Or.inl ⟨by rfl, ?ya2⟩) hS0 ?ra2
              case ya2 => (intro wq hSw; have hSw' := HSE.out _ hSw; clear hSw; go_simp; try with_reducible rfl)
              clear zo1 q1 r1 w1'
              try simp only [Act.put, List.setIfInBounds_toArray, List.set_cons_zero, List.set_cons_succ]
              refine stg_take' (i := 2) (v := ?va3) zo2 k0 q2 r2 (fun _ _ _ h => h) rfl (Or.inl ⟨by rfl, ?ya3⟩) (fun _ => hS0) ?ra3
              case ya3 => (intro wq; go_simp; try with_reducible rfl)
              clear zo2 q2 r2
              try simp only [Act.put, List.setIfInBounds_toArray, List.set_cons_zero, List.set_cons_succ]
              refine stg_chain (i := 3) (c := 13) (D := [5, 6, 7, 9, 10, 11, 12, 13]) (v := ?va4) zo3 k0 q3 r3 (fun _ _ _ h => h) rfl rfl rfl w3' rfl (Or.inl ⟨by rfl, ?ya4⟩) hS0 ?ra4
              case ya4 => (intro wq hSw; have hSw' := HSE.out _ hSw; clear hSw; go_simp; try with_reducible rfl)
              clear zo3 q3 r3 w3'
              try simp only [Act.put, List.setIfInBounds_toArray, List.set_cons_zero, List.set_cons_succ]
              refine stg_take' (i := 4) (v := ?va5) zo4 k0 q4 r4 (fun _ _ _ h => h) rfl (Or.inl ⟨by rfl, ?ya5⟩) (fun _ => hS0) ?ra5
              case ya5 => (intro wq; go_simp; try with_reducible rfl)
              clear zo4 q4 r4
              try simp only [Act.put, List.setIfInBounds_toArray, List.set_cons_zero, List.set_cons_succ]
              refine stg_take' (i := 5) (v := ?va6) zo5 k0 q5 r5 (fun _ _ _ h => h) rfl (Or.inl ⟨by rfl, ?ya6⟩) (fun _ => hS0) ?ra6
              case ya6 => (intro wq; go_simp; try with_reducible rfl)
              clear zo5 q5 r5
              try simp only [Act.put, List.setIfInBounds_toArray, List.set_cons_zero, List.set_cons_succ]
              refine stg_take' (i := 6) (v := ?va7) zo6 k0 q6 r6 (fun _ _ _ h => h) rfl (Or.inl ⟨by rfl, ?ya7⟩) (fun _ => hS0) ?ra7
              case ya7 => (intro wq; go_simp; try with_reducible rfl)
              clear zo6 q6 r6
              try simp only [Act.put, List.setIfInBounds_toArray, List.set_cons_zero, List.set_cons_succ]
              refine stg_chain (i := 7) (c := 13) (D := [9, 10, 11, 12, 13]) (v := ?va8) zo7 k0 q7 r7 (fun _ _ _ h => h) rfl rfl rfl w7' rfl (Or.inl ⟨by rfl, ?ya8⟩) hS0 ?ra8
              case ya8 => (intro wq hSw; have hSw' := HSE.out _ hSw; clear hSw; go_simp; try with_reducible rfl)
              clear zo7 q7 r7 w7'
              try simp only [Act.put, List.setIfInBounds_toArray, List.set_cons_zero, List.set_cons_succ]
              refine stg_take' (i := 8) (v := ?va9) zo8 k0 q8 r8 (fun _ _ _ h => h) rfl (Or.inl ⟨by rfl, ?ya9⟩) (fun _ => hS0) ?ra9
              case ya9 => (intro wq; go_simp; try with_reducible rfl)
              clear zo8 q8 r8
              try simp only [Act.put, List.setIfInBounds_toArray, List.set_cons_zero, List.set_cons_succ]
              refine stg_take' (i := 9) (v := ?va10) zo9 k0 q9 r9 (fun _ _ _ h => h) rfl (Or.inl ⟨by rfl, ?ya10⟩) (fun _ => hS0) ?ra10
              case ya10 => (intro wq; go_simp; try with_reducible rfl)
              clear zo9 q9 r9
              try simp only [Act.put, List.setIfInBounds_toArray, List.set_cons_zero, List.set_cons_succ]
              refine stg_chain (i := 10) (c := 13) (D := [11, 12, 13]) (v := ?va11) zo10 k0 q10 r10 (fun _ _ _ h => h) rfl rfl rfl w10' rfl (Or.inl ⟨by rfl, ?ya11⟩) hS0 ?ra11
              case ya11 => (intro wq hSw; have hSw' := HSE.out _ hSw; clear hSw; go_simp; try with_reducible rfl)
              clear zo10 q10 r10 w10'
              try simp only [Act.put, List.setIfInBounds_toArray, List.set_cons_zero, List.set_cons_succ]
              refine stg_one (i := 11) r11 zo11 rfl (fun K hK => ?_)
              clear zo11 r11
              go_simp
              go_at_call 19
              refine (HCF.out _ hBd).mono ?_
              rintro r w1 ⟨v1, l1, rfl, hf1, hl1, hc1⟩
              obtain ⟨A1, n1, rfl⟩ := fk_len hf1
              have HF1 := Lib.hid (And.intro hf1 hl1)
              have hB1 := hBd.trans (hc1.mono hBd.size)
              have hB2 := hB1.alloc hB1.size (.cells #[.bool ys, .string yty, .string ynm, .slice A1 l1.length n1] 44)
              have hS0 := HSI.out _ hB1
              clear hc1 hf1 hl1
              refine hK.out _ _ (fun _ => hS0) ?_
              clear hK K
              try simp only [Act.put, List.setIfInBounds_toArray, List.set_cons_zero, List.set_cons_succ]
              refine stg_one (i := 12) r12 zo12 rfl (fun K hK => ?_)
              clear zo12 r12
              go_simp
              have hS0 := HSI.out _ hB2
              refine hK.out _ _ (fun _ => hS0) ?_
              clear hK K
              try simp only [Act.put, List.setIfInBounds_toArray, List.set_cons_zero, List.set_cons_succ]
              refine stg_one (i := 13) r13 zo13 rfl (fun K hK => ?_)
              clear zo13 r13
              refine wp_append_lies _ (.tmp 40) (.tmp 51) 30 rfl wz.heap.size 44 i1 _ 4 64 Try.underlying30 hi1 ha1 hb1 hc1 rfl (by decide) _ _ _ rfl (own_next hown hB2) ⟨w1.heap.size, 0, none⟩ 1 1 [.bool ys, .string yty, .string ynm, .slice A1 l1.length n1] rfl rfl (new_at w1 _ _) (by simp [one_slice, Value.oneCell']) ?hmf ?h6f ?hyf ?hsf _ rfl ?_
              case hmf => omega
              case h6f => (unfold maxLen; omega)
              case hyf => omega
              case hsf => (have := hB2.size; omega)
              intro g cp w2 hown2 hgrow hat hlt2
              have hbx2 : Bx w2 b5 _ _ := (hgrow.block b5 (by have := hB2.size; omega) (fun e => by have := (hown.lt b5 e.symm).1; omega)).trans (HI.out.bx.next hB2)
              have c2 := hbx2.cell 2
              have f2 := hbx2.fro 2
              simp only [List.getElem?_toArray, List.getElem?_cons_succ, List.getElem?_cons_zero] at c2
              have HN := Lib.hid (HI.out.step (j := 2) (by omega) HYG.out (.fd ys yty ynm (.slice A1 l1.length n1) l1) rfl (by simp [bareN, HF1.out.2]) (fun ws hs => by rw [Kd]; exact ⟨HYS.out, (HF1.out.1.below ((Below.refl _ w1).alloc (Nat.le_refl _) _)) ws hs⟩) hB2 (by rw [hal]; exact hown2) (by rw [hal]; exact hgrow) (by rw [hal]; rcases hat with h | h; exact .inl h.symm; exact .inr (by rw [← h]; rfl)) (by simp))
              clear hbx2 hown2 hgrow hat
              refine hK.out _ _ (by rintro ⟨c, hc, hu⟩; simp at hc; subst hc; simp at hu) ?_
              clear hK K
              try simp only [Act.put, List.setIfInBounds_toArray, List.set_cons_zero, List.set_cons_succ]
              refine stg_take' (i := 14) (v := ?va15) zo14 k0 q14 r14 (fun _ _ _ h => h) rfl (Or.inl ⟨by rfl, ?ya15⟩) (by rintro ⟨c, hc, hu⟩; simp at hc; subst hc; simp at hu) ?ra15
              case ya15 => (intro wq; go_simp; try with_reducible rfl)
              clear zo14 q14 r14
              try simp only [Act.put, List.setIfInBounds_toArray, List.set_cons_zero, List.set_cons_succ]
              refine stg_one (i := 15) r15 zo15 rfl (fun K hK => ?_)
              clear zo15 r15
              go_simp
              refine hK.out _ _ (by rintro ⟨c, hc, hu⟩; simp at hc; subst hc; simp at hu) ?_
              clear hK K
              try simp only [Act.put, List.setIfInBounds_toArray, List.set_cons_zero, List.set_cons_succ]
              refine stg_done rz ?_ _
              go_wp2_with fail
              go_roundw
              case rel => exact ⟨k + 1, _, _, by go_num, by omega, HN.out⟩
              case measure => simp [intOf]; omega
            · have hkl : f.take k = f := List.take_of_length_le (by rw [HFN.out]; omega)

              have HFE := Lib.hid (hI.acc.done hkl (by rw [HFN.out]; exact hfm))
              have hgf := hgi
              have HXF := Lib.hid hI.bx
              have HGZF := Lib.hid hI.gro
              have hz5f : b5 < wr.heap.size := by omega
              clear hkl hI HI hown hal
              obtain ⟨wf, rfl⟩ : ∃ q, q = wr := ⟨_, rfl⟩
              go_wp2_with fail
              go_loopw [7] (fun v6 wx => ∃ (k : Nat) (acc3 : List Nd) (v3 : Value), v6 = .int .i64 k ∧ k ≤ mn ∧ InR wf b5 (fun u => #[.string xnm, .string xsp, .slice A2 acc2.length n2, u]) .mt 39 m k v3 acc3 wx) (fun v6 wx => mn - (intOf v6).toNat)
              case atStart => exact ⟨0, [], .slice none 0 0, rfl, Nat.zero_le _, HXF.out, AccB.start _ _ _ _ _, grown_refl _ _⟩
              case round =>
                obtain ⟨k, acc3, v3, rfl, hkn, hI⟩ := hrel
                have HI := Lib.hid hI
                obtain ⟨A3, n3, rfl, _⟩ := own_form hI.acc.2.1
                have hgi := grown_over hgf hI.gro hg5
                obtain ⟨b0, d0, d1, d2, d3⟩ := HC.out _ hgi
                have c2 := hI.bx.cell 3
                have f2 := hI.bx.fro 3
                simp only [List.getElem?_toArray, List.getElem?_cons_succ, List.getElem?_cons_zero] at c2
                have hal := hI.acc.1
                have hwb := hI.gro.size
                have hown := hI.acc.2.1
                simp only [Tg.sz] at hown
                rw [hal] at hown
                by_cases hk : k < mn
                · have K := HKP.out _ hgi
                  obtain ⟨b1, o1, y, rfl, hy, hyt, hcy⟩ := (HMK.out.1.keep K).get hk
                  have hyk := KdL.mem_get (KdL.keep K _ HMK.out.2) hy
                  have hyz := size_mem (List.mem_of_getElem? hy)
                  cases y <;> first | (simp [Nd.tag] at hyt; done) | skip
                  rename_i ys yc yty ynm yvp yps yv yl
                  have hys : sizeL yl ≤ 1000000 := by
                    have h1 : (Nd.mt ys yc yty ynm yvp yps yv yl).size = 1 + sizeL yl := by simp [Nd.size]
                    have h2 := HMS.out; omega
                  have hyp : yps.length ≤ 20 := HPS.out _ (List.mem_of_getElem? hy)
                  have HCF : Hid (∀ w', Below wr.heap.size wr w' → Calls Try.prog 20 #[.agg #[.bool ys, .bool yc, .string yty, .string ynm, yvp, yv]] w' (CopyMtSaid w' ys yc yty ynm yps yl)) := by
                    show ∀ w', _
                    intro w' hb; exact copy_method w' ys yc yty ynm yvp yps yv yl (Kd.keep (Keep.below hb) _ hyk) hys (by omega)
                  have e0 := hcy 0 _ rfl; have e1 := hcy 1 _ rfl; have e2 := hcy 2 _ rfl; have e3 := hcy 3 _ rfl; have e4 := hcy 4 _ rfl; have e5 := hcy 5 _ rfl
                  simp only [Tg.sz, Nat.add_zero] at e0 e1 e2 e3 e4 e5
                  rw [Kd] at hyk
                  have HYS := Lib.hid hyk.1
                  obtain ⟨Ay, ny, rfl⟩ := hyk.2.2.1.form
                  obtain ⟨Ap, np, rfl, _⟩ := hyk.2.1.form
                  have HYG := Lib.hid hy
                  have hBd : Below wr.heap.size wr wr.drew := (Below.refl _ wr).drew
                  clear hcy hyk hy hyt hyz hI K
                  go_wp2_with fail
                  have HS : Hid (∀ w', Below wr.heap.size wr w' → w'.cell? ⟨w.heap.size, 0, none⟩ = some (.slice (some ⟨b, o, none⟩) n cap) ∧ w'.cell? ⟨b, o + i * 4 + 3, none⟩ = some (.slice (some ⟨b1, o1, none⟩) mn nm) ∧ w'.cell? ⟨b5, 3, none⟩ = some (.slice A3 acc3.length n3) ∧ w'.cell? ⟨b1, o1 + k * 6, none⟩ = some (.bool ys) ∧ w'.cell? ⟨b1, o1 + k * 6 + 1, none⟩ = some (.bool yc) ∧ w'.cell? ⟨b1, o1 + k * 6 + 2, none⟩ = some (.string yty) ∧ w'.cell? ⟨b1, o1 + k * 6 + 3, none⟩ = some (.string ynm) ∧ w'.cell? ⟨b1, o1 + k * 6 + 4, none⟩ = some (.slice Ap yps.length np) ∧ w'.cell? ⟨b1, o1 + k * 6 + 5, none⟩ = some (.slice Ay yl.length ny)) := by
                    show ∀ w', _
                    intro w' hb
                    exact ⟨Keep.below hb _ _ b0, Keep.below hb _ _ d3, Keep.below hb _ _ c2, Keep.below hb _ _ e0, Keep.below hb _ _ e1, Keep.below hb _ _ e2, Keep.below hb _ _ e3, Keep.below hb _ _ e4, Keep.below hb _ _ e5⟩
                  clear e0 e1 e2 e3 e4 e5 b0 d0 d1 d2 d3 c2 f2
                  refine region_gen (fun ops hops => ?_)
                  have k0 : Region.noSelect ops = true := by rw [hops]; decide +kernel
                  have kn : ops.size = 16 := by rw [hops]; decide +kernel
                  obtain ⟨_, _, _, zo0⟩ : ∃ ps af ty, ops[0]? = some { dst := some 65, op := Op.fieldAddr 33 (.tmp 5) 3, type := ty, pos := ps, after := af, guard := none } := by rw [hops]; exact ⟨_, _, _, rfl⟩
                  obtain ⟨_, _, zo1⟩ : ∃ ps af, ops[1]? = some { dst := some 66, op := Op.load 31 (.tmp 65), type := 31, pos := ps, after := af, guard := none } := by rw [hops]; exact ⟨_, _, rfl⟩
                  obtain ⟨_, _, _, zo2⟩ : ∃ ps af ty, ops[2]? = some { dst := some 67, op := Op.fieldAddr 24 (.tmp 1) 0, type := ty, pos := ps, after := af, guard := none } := by rw [hops]; exact ⟨_, _, _, rfl⟩
                  obtain ⟨_, _, zo3⟩ : ∃ ps af, ops[3]? = some { dst := some 68, op := Op.load 22 (.tmp 67), type := 22, pos := ps, after := af, guard := none } := by rw [hops]; exact ⟨_, _, rfl⟩
                  obtain ⟨_, _, _, zo4⟩ : ∃ ps af ty, ops[4]? = some { dst := some 69, op := Op.move (.tmp 4), type := ty, pos := ps, after := af, guard := none } := by rw [hops]; exact ⟨_, _, _, rfl⟩
                  obtain ⟨_, _, _, zo5⟩ : ∃ ps af ty, ops[5]? = some { dst := some 70, op := Op.indexAddr 22 (.tmp 68) (.tmp 69), type := ty, pos := ps, after := af, guard := none } := by rw [hops]; exact ⟨_, _, _, rfl⟩
                  obtain ⟨_, _, _, zo6⟩ : ∃ ps af ty, ops[6]? = some { dst := some 71, op := Op.fieldAddr 33 (.tmp 70) 3, type := ty, pos := ps, after := af, guard := none } := by rw [hops]; exact ⟨_, _, _, rfl⟩
                  obtain ⟨_, _, zo7⟩ : ∃ ps af, ops[7]? = some { dst := some 72, op := Op.load 31 (.tmp 71), type := 31, pos := ps, after := af, guard := none } := by rw [hops]; exact ⟨_, _, rfl⟩
                  obtain ⟨_, _, _, zo8⟩ : ∃ ps af ty, ops[8]? = some { dst := some 73, op := Op.move (.tmp 7), type := ty, pos := ps, after := af, guard := none } := by rw [hops]; exact ⟨_, _, _, rfl⟩
                  obtain ⟨_, _, _, zo9⟩ : ∃ ps af ty, ops[9]? = some { dst := some 74, op := Op.indexAddr 31 (.tmp 72) (.tmp 73), type := ty, pos := ps, after := af, guard := none } := by rw [hops]; exact ⟨_, _, _, rfl⟩
                  obtain ⟨_, _, zo10⟩ : ∃ ps af, ops[10]? = some { dst := some 75, op := Op.load 39 (.tmp 74), type := 39, pos := ps, after := af, guard := none } := by rw [hops]; exact ⟨_, _, rfl⟩
                  obtain ⟨_, _, zo11⟩ : ∃ ps af, ops[11]? = some { dst := some 76, op := Op.call { callee := Callee.value (Operand.func 20), args := #[Operand.tmp 75], argTypes := #[39] }, type := 39, pos := ps, after := af, guard := none } := by rw [hops]; exact ⟨_, _, rfl⟩
                  obtain ⟨_, _, zo12⟩ : ∃ ps af, ops[12]? = some { dst := some 77, op := Op.buildSlice 31 1 #[(0, Operand.tmp 76)], type := 31, pos := ps, after := af, guard := none } := by rw [hops]; exact ⟨_, _, rfl⟩
                  obtain ⟨_, _, zo13⟩ : ∃ ps af, ops[13]? = some { dst := some 78, op := Op.call { callee := Callee.builtin Builtin.append, args := #[Operand.tmp 66, Operand.tmp 77], argTypes := #[31, 31] }, type := 31, pos := ps, after := af, guard := none } := by rw [hops]; exact ⟨_, _, rfl⟩
                  obtain ⟨_, _, _, zo14⟩ : ∃ ps af ty, ops[14]? = some { dst := some 79, op := Op.fieldAddr 33 (.tmp 5) 3, type := ty, pos := ps, after := af, guard := none } := by rw [hops]; exact ⟨_, _, _, rfl⟩
                  obtain ⟨_, _, _, zo15⟩ : ∃ ps af ty, ops[15]? = some { dst := none, op := Op.store 31 (.tmp 79) (.tmp 78), type := ty, pos := ps, after := af, guard := none } := by rw [hops]; exact ⟨_, _, _, rfl⟩
                  have r0 : (Region.ready .any ops #[false, false, false, false, false, false, false, false, false, false, false, false, false, false, false, false]).contains 0 = true := by rw [hops]; decide +kernel
                  have q0 : Region.free .any ops #[false, false, false, false, false, false, false, false, false, false, false, false, false, false, false, false] 0 = true := by rw [hops]; decide +kernel
                  have r1 : (Region.ready .any ops #[true, false, false, false, false, false, false, false, false, false, false, false, false, false, false, false]).contains 1 = true := by rw [hops]; decide +kernel
                  have q1 : Region.free .any ops #[true, false, false, false, false, false, false, false, false, false, false, false, false, false, false, false] 1 = true := by rw [hops]; decide +kernel
                  have w1' : chainW .any ops 1 [13] = true := by rw [hops]; decide +kernel
                  have r2 : (Region.ready .any ops #[true, true, false, false, false, false, false, false, false, false, false, false, false, false, false, false]).contains 2 = true := by rw [hops]; decide +kernel
                  have q2 : Region.free .any ops #[true, true, false, false, false, false, false, false, false, false, false, false, false, false, false, false] 2 = true := by rw [hops]; decide +kernel
                  have r3 : (Region.ready .any ops #[true, true, true, false, false, false, false, false, false, false, false, false, false, false, false, false]).contains 3 = true := by rw [hops]; decide +kernel
                  have q3 : Region.free .any ops #[true, true, true, false, false, false, false, false, false, false, false, false, false, false, false, false] 3 = true := by rw [hops]; decide +kernel
                  have w3' : chainW .any ops 3 [5, 6, 7, 9, 10, 11, 12, 13] = true := by rw [hops]; decide +kernel
                  have r4 : (Region.ready .any ops #[true, true, true, true, false, false, false, false, false, false, false, false, false, false, false, false]).contains 4 = true := by rw [hops]; decide +kernel
                  have q4 : Region.free .any ops #[true, true, true, true, false, false, false, false, false, false, false, false, false, false, false, false] 4 = true := by rw [hops]; decide +kernel
                  have r5 : (Region.ready .any ops #[true, true, true, true, true, false, false, false, false, false, false, false, false, false, false, false]).contains 5 = true := by rw [hops]; decide +kernel
                  have q5 : Region.free .any ops #[true, true, true, true, true, false, false, false, false, false, false, false, false, false, false, false] 5 = true := by rw [hops]; decide +kernel
                  have r6 : (Region.ready .any ops #[true, true, true, true, true, true, false, false, false, false, false, false, false, false, false, false]).contains 6 = true := by rw [hops]; decide +kernel
                  have q6 : Region.free .any ops #[true, true, true, true, true, true, false, false, false, false, false, false, false, false, false, false] 6 = true := by rw [hops]; decide +kernel
                  have r7 : (Region.ready .any ops #[true, true, true, true, true, true, true, false, false, false, false, false, false, false, false, false]).contains 7 = true := by rw [hops]; decide +kernel
                  have q7 : Region.free .any ops #[true, true, true, true, true, true, true, false, false, false, false, false, false, false, false, false] 7 = true := by rw [hops]; decide +kernel
                  have w7' : chainW .any ops 7 [9, 10, 11, 12, 13] = true := by rw [hops]; decide +kernel
                  have r8 : (Region.ready .any ops #[true, true, true, true, true, true, true, true, false, false, false, false, false, false, false, false]).contains 8 = true := by rw [hops]; decide +kernel
                  have q8 : Region.free .any ops #[true, true, true, true, true, true, true, true, false, false, false, false, false, false, false, false] 8 = true := by rw [hops]; decide +kernel
                  have r9 : (Region.ready .any ops #[true, true, true, true, true, true, true, true, true, false, false, false, false, false, false, false]).contains 9 = true := by rw [hops]; decide +kernel
                  have q9 : Region.free .any ops #[true, true, true, true, true, true, true, true, true, false, false, false, false, false, false, false] 9 = true := by rw [hops]; decide +kernel
                  have r10 : (Region.ready .any ops #[true, true, true, true, true, true, true, true, true, true, false, false, false, false, false, false]).contains 10 = true := by rw [hops]; decide +kernel
                  have q10 : Region.free .any ops #[true, true, true, true, true, true, true, true, true, true, false, false, false, false, false, false] 10 = true := by rw [hops]; decide +kernel
                  have w10' : chainW .any ops 10 [11, 12, 13] = true := by rw [hops]; decide +kernel
                  have r11 : Region.ready .any ops #[true, true, true, true, true, true, true, true, true, true, true, false, false, false, false, false] = [11] := by rw [hops]; decide +kernel
                  have r12 : Region.ready .any ops #[true, true, true, true, true, true, true, true, true, true, true, true, false, false, false, false] = [12] := by rw [hops]; decide +kernel
                  have r13 : Region.ready .any ops #[true, true, true, true, true, true, true, true, true, true, true, true, true, false, false, false] = [13] := by rw [hops]; decide +kernel
                  have r14 : (Region.ready .any ops #[true, true, true, true, true, true, true, true, true, true, true, true, true, true, false, false]).contains 14 = true := by rw [hops]; decide +kernel
                  have q14 : Region.free .any ops #[true, true, true, true, true, true, true, true, true, true, true, true, true, true, false, false] 14 = true := by rw [hops]; decide +kernel
                  have r15 : Region.ready .any ops #[true, true, true, true, true, true, true, true, true, true, true, true, true, true, true, false] = [15] := by rw [hops]; decide +kernel
                  have rz : Region.ready .any ops #[true, true, true, true, true, true, true, true, true, true, true, true, true, true, true, true] = [] := by rw [hops]; decide +kernel
                  clear hops
                  obtain ⟨S, hSd⟩ : ∃ S : World → Prop, S = fun w' => w'.cell? ⟨w.heap.size, 0, none⟩ = some (.slice (some ⟨b, o, none⟩) n cap) ∧ w'.cell? ⟨b, o + i * 4 + 3, none⟩ = some (.slice (some ⟨b1, o1, none⟩) mn nm) ∧ w'.cell? ⟨b5, 3, none⟩ = some (.slice A3 acc3.length n3) ∧ w'.cell? ⟨b1, o1 + k * 6, none⟩ = some (.bool ys) ∧ w'.cell? ⟨b1, o1 + k * 6 + 1, none⟩ = some (.bool yc) ∧ w'.cell? ⟨b1, o1 + k * 6 + 2, none⟩ = some (.string yty) ∧ w'.cell? ⟨b1, o1 + k * 6 + 3, none⟩ = some (.string ynm) ∧ w'.cell? ⟨b1, o1 + k * 6 + 4, none⟩ = some (.slice Ap yps.length np) ∧ w'.cell? ⟨b1, o1 + k * 6 + 5, none⟩ = some (.slice Ay yl.length ny) := ⟨_, rfl⟩
                  have HSE : Hid (∀ w', S w' → w'.cell? ⟨w.heap.size, 0, none⟩ = some (.slice (some ⟨b, o, none⟩) n cap) ∧ w'.cell? ⟨b, o + i * 4 + 3, none⟩ = some (.slice (some ⟨b1, o1, none⟩) mn nm) ∧ w'.cell? ⟨b5, 3, none⟩ = some (.slice A3 acc3.length n3) ∧ w'.cell? ⟨b1, o1 + k * 6, none⟩ = some (.bool ys) ∧ w'.cell? ⟨b1, o1 + k * 6 + 1, none⟩ = some (.bool yc) ∧ w'.cell? ⟨b1, o1 + k * 6 + 2, none⟩ = some (.string yty) ∧ w'.cell? ⟨b1, o1 + k * 6 + 3, none⟩ = some (.string ynm) ∧ w'.cell? ⟨b1, o1 + k * 6 + 4, none⟩ = some (.slice Ap yps.length np) ∧ w'.cell? ⟨b1, o1 + k * 6 + 5, none⟩ = some (.slice Ay yl.length ny)) := by
                    show ∀ w', _
                    intro w' h; rw [hSd] at h; exact h
                  have HSI : Hid (∀ w', Below wr.heap.size wr w' → S w') := by
                    show ∀ w', _
                    intro w' h; rw [hSd]; exact HS.out _ h
                  have hS0 : S wr.drew := HSI.out _ hBd
                  clear hSd
                  refine wp_region_stg S [13] 16 #[false, false, false, false, false, false, false, false, false, false, false, false, false, false, false, false] (by kernel_rfl) kn (by rfl) ?_
                  refine stg_take' (i := 0) (v := ?vb1) zo0 k0 q0 r0 (fun _ _ _ h => h) rfl (Or.inl ⟨by rfl, ?yb1⟩) (fun _ => hS0) ?rb1
                  case yb1 => (intro wq; go_simp; try with_reducible rfl)
                  clear zo0 q0 r0
                  try simp only [Act.put, List.setIfInBounds_toArray, List.set_cons_zero, List.set_cons_succ]
                  refine stg_chain (i := 1) (c := 13) (D := [13]) (v := ?vb2) zo1 k0 q1 r1 (fun _ _ _ h => h) rfl rfl rfl w1' rfl (Or.inl ⟨by rfl, ?yb2⟩) hS0 ?rb2
                  case yb2 => (intro wq hSw; have hSw' := HSE.out _ hSw; clear hSw; go_simp; try with_reducible rfl)
                  clear zo1 q1 r1 w1'
                  try simp only [Act.put, List.setIfInBounds_toArray, List.set_cons_zero, List.set_cons_succ]
                  refine stg_take' (i := 2) (v := ?vb3) zo2 k0 q2 r2 (fun _ _ _ h => h) rfl (Or.inl ⟨by rfl, ?yb3⟩) (fun _ => hS0) ?rb3
                  case yb3 => (intro wq; go_simp; try with_reducible rfl)
                  clear zo2 q2 r2
                  try simp only [Act.put, List.setIfInBounds_toArray, List.set_cons_zero, List.set_cons_succ]
                  refine stg_chain (i := 3) (c := 13) (D := [5, 6, 7, 9, 10, 11, 12, 13]) (v := ?vb4) zo3 k0 q3 r3 (fun _ _ _ h => h) rfl rfl rfl w3' rfl (Or.inl ⟨by rfl, ?yb4⟩) hS0 ?rb4
                  case yb4 => (intro wq hSw; have hSw' := HSE.out _ hSw; clear hSw; go_simp; try with_reducible rfl)
                  clear zo3 q3 r3 w3'
                  try simp only [Act.put, List.setIfInBounds_toArray, List.set_cons_zero, List.set_cons_succ]
                  refine stg_take' (i := 4) (v := ?vb5) zo4 k0 q4 r4 (fun _ _ _ h => h) rfl (Or.inl ⟨by rfl, ?yb5⟩) (fun _ => hS0) ?rb5
                  case yb5 => (intro wq; go_simp; try with_reducible rfl)
                  clear zo4 q4 r4
                  try simp only [Act.put, List.setIfInBounds_toArray, List.set_cons_zero, List.set_cons_succ]
                  refine stg_take' (i := 5) (v := ?vb6) zo5 k0 q5 r5 (fun _ _ _ h => h) rfl (Or.inl ⟨by rfl, ?yb6⟩) (fun _ => hS0) ?rb6
                  case yb6 => (intro wq; go_simp; try with_reducible rfl)
                  clear zo5 q5 r5
                  try simp only [Act.put, List.setIfInBounds_toArray, List.set_cons_zero, List.set_cons_succ]
                  refine stg_take' (i := 6) (v := ?vb7) zo6 k0 q6 r6 (fun _ _ _ h => h) rfl (Or.inl ⟨by rfl, ?yb7⟩) (fun _ => hS0) ?rb7
                  case yb7 => (intro wq; go_simp; try with_reducible rfl)
                  clear zo6 q6 r6
                  try simp only [Act.put, List.setIfInBounds_toArray, List.set_cons_zero, List.set_cons_succ]
                  refine stg_chain (i := 7) (c := 13) (D := [9, 10, 11, 12, 13]) (v := ?vb8) zo7 k0 q7 r7 (fun _ _ _ h => h) rfl rfl rfl w7' rfl (Or.inl ⟨by rfl, ?yb8⟩) hS0 ?rb8
                  case yb8 => (intro wq hSw; have hSw' := HSE.out _ hSw; clear hSw; go_simp; try with_reducible rfl)
                  clear zo7 q7 r7 w7'
                  try simp only [Act.put, List.setIfInBounds_toArray, List.set_cons_zero, List.set_cons_succ]
                  refine stg_take' (i := 8) (v := ?vb9) zo8 k0 q8 r8 (fun _ _ _ h => h) rfl (Or.inl ⟨by rfl, ?yb9⟩) (fun _ => hS0) ?rb9
                  case yb9 => (intro wq; go_simp; try with_reducible rfl)
                  clear zo8 q8 r8
                  try simp only [Act.put, List.setIfInBounds_toArray, List.set_cons_zero, List.set_cons_succ]
                  refine stg_take' (i := 9) (v := ?vb10) zo9 k0 q9 r9 (fun _ _ _ h => h) rfl (Or.inl ⟨by rfl, ?yb10⟩) (fun _ => hS0) ?rb10
                  case yb10 => (intro wq; go_simp; try with_reducible rfl)
                  clear zo9 q9 r9
                  try simp only [Act.put, List.setIfInBounds_toArray, List.set_cons_zero, List.set_cons_succ]
                  refine stg_chain (i := 10) (c := 13) (D := [11, 12, 13]) (v := ?vb11) zo10 k0 q10 r10 (fun _ _ _ h => h) rfl rfl rfl w10' rfl (Or.inl ⟨by rfl, ?yb11⟩) hS0 ?rb11
                  case yb11 => (intro wq hSw; have hSw' := HSE.out _ hSw; clear hSw; go_simp; try with_reducible rfl)
                  clear zo10 q10 r10 w10'
                  try simp only [Act.put, List.setIfInBounds_toArray, List.set_cons_zero, List.set_cons_succ]
                  refine stg_one (i := 11) r11 zo11 rfl (fun K hK => ?_)
                  clear zo11 r11
                  go_simp
                  go_at_call 20
                  refine (HCF.out _ hBd).mono ?_
                  rintro r w1 ⟨vq, v1, l1, rfl, hfp, hf1, hl1, hc1⟩
                  obtain ⟨A1, n1, rfl⟩ := fk_len hf1
                  obtain ⟨Aq, nq, rfl, _⟩ := (hfp w1 fun _ _ _ _ h => h).form
                  have HF1 := Lib.hid (And.intro hf1 hl1); have HFP1 := Lib.hid hfp
                  have hB1 := hBd.trans (hc1.mono hBd.size)
                  have hB2 := hB1.alloc hB1.size (.cells #[.bool ys, .bool yc, .string yty, .string ynm, .slice Aq yps.length nq, .slice A1 l1.length n1] 39)
                  have hS0 := HSI.out _ hB1
                  clear hc1 hf1 hl1 hfp
                  refine hK.out _ _ (fun _ => hS0) ?_
                  clear hK K
                  try simp only [Act.put, List.setIfInBounds_toArray, List.set_cons_zero, List.set_cons_succ]
                  refine stg_one (i := 12) r12 zo12 rfl (fun K hK => ?_)
                  clear zo12 r12
                  go_simp
                  have hS0 := HSI.out _ hB2
                  refine hK.out _ _ (fun _ => hS0) ?_
                  clear hK K
                  try simp only [Act.put, List.setIfInBounds_toArray, List.set_cons_zero, List.set_cons_succ]
                  refine stg_one (i := 13) r13 zo13 rfl (fun K hK => ?_)
                  clear zo13 r13
                  refine wp_append_lies _ (.tmp 66) (.tmp 77) 31 rfl wf.heap.size 39 i2 _ 6 88 Try.underlying31 hi2 ha2 hb2 hc2 rfl (by decide) _ _ _ rfl (own_next hown hB2) ⟨w1.heap.size, 0, none⟩ 1 1 [.bool ys, .bool yc, .string yty, .string ynm, .slice Aq yps.length nq, .slice A1 l1.length n1] rfl rfl (new_at w1 _ _) (by simp [one_slice, Value.oneCell']) ?hmm ?h6m ?hym ?hsm _ rfl ?_
                  case hmm => omega
                  case h6m => (unfold maxLen; omega)
                  case hym => omega
                  case hsm => (have := hB2.size; omega)
                  intro g cp w2 hown2 hgrow hat hlt2
                  have hbx2 : Bx w2 b5 _ _ := (hgrow.block b5 (by have := hB2.size; omega) (fun e => by have := (hown.lt b5 e.symm).1; omega)).trans (HI.out.bx.next hB2)
                  have c2 := hbx2.cell 3
                  have f2 := hbx2.fro 3
                  simp only [List.getElem?_toArray, List.getElem?_cons_succ, List.getElem?_cons_zero] at c2
                  have HN := Lib.hid (HI.out.step (j := 3) (by omega) HYG.out (.mt ys yc yty ynm (.slice Aq yps.length nq) yps (.slice A1 l1.length n1) l1) rfl (by simp [bareN, HF1.out.2]) (fun ws hs => by rw [Kd]; exact ⟨HYS.out, (HFP1.out.below ((Below.refl _ w1).alloc (Nat.le_refl _) _)) ws hs, (HF1.out.1.below ((Below.refl _ w1).alloc (Nat.le_refl _) _)) ws hs⟩) hB2 (by rw [hal]; exact hown2) (by rw [hal]; exact hgrow) (by rw [hal]; rcases hat with h | h; exact .inl h.symm; exact .inr (by rw [← h]; rfl)) (by simp))
                  clear hbx2 hown2 hgrow hat
                  refine hK.out _ _ (by rintro ⟨c, hc, hu⟩; simp at hc; subst hc; simp at hu) ?_
                  clear hK K
                  try simp only [Act.put, List.setIfInBounds_toArray, List.set_cons_zero, List.set_cons_succ]
                  refine stg_take' (i := 14) (v := ?vb15) zo14 k0 q14 r14 (fun _ _ _ h => h) rfl (Or.inl ⟨by rfl, ?yb15⟩) (by rintro ⟨c, hc, hu⟩; simp at hc; subst hc; simp at hu) ?rb15
                  case yb15 => (intro wq; go_simp; try with_reducible rfl)
                  clear zo14 q14 r14
                  try simp only [Act.put, List.setIfInBounds_toArray, List.set_cons_zero, List.set_cons_succ]
                  refine stg_one (i := 15) r15 zo15 rfl (fun K hK => ?_)
                  clear zo15 r15
                  go_simp
                  refine hK.out _ _ (by rintro ⟨c, hc, hu⟩; simp at hc; subst hc; simp at hu) ?_
                  clear hK K
                  try simp only [Act.put, List.setIfInBounds_toArray, List.set_cons_zero, List.set_cons_succ]
                  refine stg_done rz ?_ _
                  go_wp2_with fail
                  go_roundw
                  case rel => exact ⟨k + 1, _, _, by go_num, by omega, HN.out⟩
                  case measure => simp [intOf]; omega
                · have hkl : m.take k = m := List.take_of_length_le (by rw [HMN.out]; omega)

                  have hME := hI.acc.done hkl (by rw [HMN.out]; exact hmm)
                  have hzf := HGZF.out.size
                  have hbo : Below wo.heap.size wo wr := by
                    rw [HB5.out]; exact below_over (below_over HBZ.out HGZF.out (by omega) (Nat.le_refl _)) hI.gro (by omega) (Nat.le_refl _)
                  have hFF := fk_over HFE.out.1 hI.gro (by omega)
                  have HBO := Lib.hid hbo
                  have HFF := Lib.hid hFF; have HME := Lib.hid hME
                  obtain ⟨Aq, nq, rfl, _⟩ := own_form HO.out.acc.2.1
                  have hq := HO.out.q.next hbo
                  have q0 := hq.cell 0
                  simp only [List.getElem?_toArray, List.getElem?_cons_zero] at q0
                  obtain ⟨y0, y1, y2, y3⟩ := hI.bx.get_4
                  have hownq := own_next HO.out.acc.2.1 hbo
                  simp only [Tg.sz] at hownq
                  have hai : acc.length ≤ 1000000 := by have := HO.out.acc.1; omega
                  have HQ := Lib.hid hq
                  have hbs := hbo.size
                  have h5o := HB5.out
                  clear hkl hI HI hown hME hbo hFF hq d0 d1 d2 c2 f2 hal
                  go_wp2_with (at_builtin; refine wpList_append_own_at _ rfl (.tmp 81) (.tmp 83) 22 rfl (w.heap.size + 3) 33 i3 _ 4 80 Try.underlying22 hi3 ha3 hb3 hc3 rfl (by decide) _ _ _ rfl (hownq.alloc _) ⟨wr.heap.size, 0, none⟩ 1 1 [.string xnm, .string xsp, .slice A2 acc2.length n2, .slice A3 acc3.length n3] rfl rfl ?zz1 ?zz2 ?zz3 ?zz4 ?zz5 ?_)
                  case zz1 => exact new_at wr _ _
                  case zz2 => simp [one_slice, Value.oneCell']
                  case zz3 => unfold maxLen; omega
                  case zz4 => omega
                  case zz5 => simp; omega
                  intro v2 w2 hown2 hgrow _ hat
                  obtain ⟨A4, n4, rfl, _⟩ := own_form hown2
                  have HBA := Lib.hid (HBO.out.alloc hbs (.cells #[.string xnm, .string xsp, .slice A2 acc2.length n2, .slice A3 acc3.length n3] 33))
                  have hq2 : Bx w2 (w.heap.size + 2) #[.slice Aq acc.length nq] 24 := (hgrow.block _ (by simp; omega) (fun e => by have := (hownq.lt _ e.symm).1; omega)).trans (HQ.out.next ((Below.refl _ _).alloc (Nat.le_refl _) _))
                  have q1 := hq2.cell 0
                  have g1 := hq2.fro 0
                  simp only [List.getElem?_toArray, List.getElem?_cons_zero] at q1
                  have HN := Lib.hid (HO.out.step hz3 HXG.out (.cl xnm xsp (.slice A2 acc2.length n2) (.slice A3 acc3.length n3) acc2 acc3) rfl (by simp [bareN, HFE.out.2, HME.out.2]) (fun ws hs => by
                    rw [Kd]
                    have ha := (Below.refl _ wr).alloc (Nat.le_refl _) (.cells #[.string xnm, .string xsp, .slice A2 acc2.length n2, .slice A3 acc3.length n3] 33)
                    exact ⟨HNS.out, ((HFF.out.mono (by omega)).below ha) ws hs, ((HME.out.1.mono (by omega)).below ha) ws hs⟩) HBA.out hown2 hgrow (by simpa using hat))
                  clear hq2 hown2 hgrow hat hownq q0 y0 y1 y2 y3
                  go_wp2_with fail
                  go_roundw
                  case rel => exact ⟨i + 1, _, _, by go_num, by omega, HN.out⟩
                  case measure => simp [intOf]; omega
    · have hkl : l.take i = l := List.take_of_length_le (by rw [HLN.out]; omega)
      have b0 := (HX3.out.kept hgw (by omega)).cell 0
      have q0 := HO.out.q.cell 0
      have hy0 := HY3.out.kept hgw (by omega)
      have y0 := hy0.cell 0
      have g0 := hy0.fro 0
      obtain ⟨hfk, hbare⟩ := HO.out.acc.done hkl (by rw [HLN.out]; exact hm)
      obtain ⟨A', c', rfl⟩ := fk_len hfk
      have HD : Hid (CopyPrSaid w l (.returned (.agg #[.slice A' acc.length c'])) (wr.setCell ⟨w.heap.size + 1, 0, none⟩ (.slice A' acc.length c'))) :=
        ⟨_, acc, rfl, (hfk.set (by omega) 0 _).mono (by omega), hbare, (below_over HBW.out hgw (by omega) (by omega)).setCell (by simp) _⟩
      have hyF : (wr.setCell ⟨w.heap.size + 1, 0, none⟩ (.slice A' acc.length c')).cell? ⟨w.heap.size + 1, 0, none⟩ = some (.slice A' acc.length c') := (hy0.set 0 _).cell 0
      clear hkl hfk hbare hy0
      go_wp2_with fail
      refine bodyPost_ret (v := .agg #[.slice A' acc.length c']) (by simp [results, Try.results6, go_sem, hyF]) rfl ?_
      exact HD.out
end Go.Proofs.Ytlpddmncgmhkeaa
