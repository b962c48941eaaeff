/- Contract of tree.each with strip; of tree.Bare. -/
import Derived.Test.YtnphimechniplaaBareH
import Derived.Test.YtnphimechniplaaBareI
import Derived.Test.YtnphimechniplaaBareJ
set_option linter.unusedSimpArgs false
set_option linter.unusedVariables false
namespace Go.Proofs.Ytnphimechniplaa
open Go.RowKit
theorem strip_any (w : World) (p : Pt) (hr : Raw w p) (hkd : Kd w p.x) (hsm : Sm p.x) (hm : p.x.size ≤ 1000000) : Calls Try.prog 38 #[ptV p] w (StripSaid w p.b p.o p.x) := by
  obtain ⟨b, o, x⟩ := p
  have hs := hm
  cases x <;> simp only [Nd.size] at hs
  · exact strip_ex w b o _ _ _ _ _ _ _ _ _ hr hkd hsm (by have := len_sizeL ‹List Nd›; omega)
  · rename_i k n ty nm ve va vb vc e a c d nth
    have := len_sizeL e; have := len_sizeL a; have := len_sizeL c; have := len_sizeL d
    exact strip_st w b o _ _ _ _ _ _ _ _ _ _ _ _ _ hr hkd hsm (by omega) (by omega) (by omega) (by omega)
  · exact strip_fd w b o _ _ _ _ _ hr hkd hsm (by have := len_sizeL ‹List Nd›; omega)
  · exact strip_mt w b o _ _ _ _ _ _ _ _ hr hkd hsm (by have := len_sizeL ‹List Nd›; omega)
  · rename_i nm sp vf vm f m
    have := len_sizeL f; have := len_sizeL m
    exact strip_cl w b o _ _ _ _ _ _ hr hkd hsm (by omega) (by omega)
def Kept (R : Nat) (w ws : World) (ps : List Pt) (v : Value) : Prop := ∀ k j u, k ≠ R → w.cell? ⟨k, j, none⟩ = some u → (∀ p ∈ ps, ¬ inFoot p k j) → some k ≠ v.ownBlock → ws.cell? ⟨k, j, none⟩ = some u
/-- The relation of the loop: what is still to be stripped, and what is known once it is. -/
structure BI (W0 : World) (G : World → Prop) (R : Nat) (O : Option Obj) (ps : List Pt) (v : Value) (w : World) : Prop where
  own : w.ownsRow W0.heap.size 78 1 v ps.length (ps.map ptV)
  bel : Below W0.heap.size W0 w
  raw : ∀ p ∈ ps, Raw w p ∧ Kd W0 p.x ∧ Sm p.x ∧ W0.heap.size ≤ p.b ∧ some p.b ≠ v.ownBlock ∧ p.b ≠ R
  res : w.heap[R]? = O
  rlt : R < w.heap.size
  rne : some R ≠ v.ownBlock
  dis : ps.Pairwise apart
  le : sizeP ps ≤ 1000000
  wand : ∀ ws, Kept R w ws ps v → (∀ p ∈ ps, Fin' ws p) → G ws
theorem apart_foot {p q : Pt} (h : apart p q) {k j : Nat} (hp : inFoot p k j) : ¬ inFoot q k j := by
  rintro ⟨h1, h2, h3⟩
  obtain ⟨g1, g2, g3⟩ := hp
  rcases h with h | h | h <;> omega
theorem apart_raw {w w' : World} {p q : Pt} (hr : Raw w p) (ha : apart p q) (hg : w.grownBy w' (some q.b)) (hf : ∀ j, (j < q.o ∨ q.o + q.x.tag.sz ≤ j) → w'.cell? ⟨q.b, j, none⟩ = w.cell? ⟨q.b, j, none⟩) (hfr : ∀ j, w'.frozen? ⟨q.b, j, none⟩ = w.frozen? ⟨q.b, j, none⟩) : Raw w' p := by
  by_cases e : p.b = q.b
  · intro j u hu
    have hj : j < p.x.tag.sz := by rw [← cells_len]; exact (List.getElem?_eq_some_iff.1 hu).1
    have ho : p.o + j < q.o ∨ q.o + q.x.tag.sz ≤ p.o + j := by
      rcases ha with h | h | h
      · exact absurd e h
      · left; omega
      · right; omega
    rw [e, hf _ ho, hfr, ← e]; exact hr j u hu
  · exact hr.keep (hg.block p.b hr.lt (by simpa using e))
/-- One part has been stripped, and what stands within it is on the stack. -/
theorem BI.step {W0 w w1 w2 : World} {G : World → Prop} {ps : List Pt} {p : Pt} {g cap : Nat} {v2 : Value} {x' : Nd} {R : Nat} {O : Option Obj} (h : BI W0 G R O (ps ++ [p]) (.slice (some ⟨g, 0, none⟩) (ps.length + 1) cap) w)
    (hok : KidsOk w w1 p.b p.o p.x x') (hg : w.grownBy w1 (some p.b)) (hc : ∀ j u, (cellsN x')[j]? = some u → w1.cell? ⟨p.b, p.o + j, none⟩ = some u) (hf : ∀ j, (j < p.o ∨ p.o + p.x.tag.sz ≤ j) → w1.cell? ⟨p.b, j, none⟩ = w.cell? ⟨p.b, j, none⟩) (hfr : ∀ j, w1.frozen? ⟨p.b, j, none⟩ = w.frozen? ⟨p.b, j, none⟩)
    (ho2 : w2.ownsRow W0.heap.size 78 1 v2 (ps ++ kidsP x').length ((ps ++ kidsP x').map ptV)) (hg2 : Grew w1 w2 (.slice (some ⟨g, 0, none⟩) ps.length cap) v2) :
    BI W0 G R O (ps ++ kidsP x') v2 w2 ∧ sizeP (ps ++ kidsP x') < sizeP (ps ++ [p]) := by
  obtain ⟨hr, hkd, hsm, hpb, hpn, hpR⟩ := h.raw p (by simp)
  have hRl := h.rlt
  have hRg : R ≠ g := by intro e; exact h.rne (by simp [Value.ownBlock, e])
  have hlt := hr.lt
  have hgl : g < w.heap.size := by have := (h.own.lt g rfl).2; exact this
  have hgp : p.b ≠ g := by intro e; exact hpn (by simp [Value.ownBlock, e])
  obtain ⟨hd1, _, hd3⟩ := List.pairwise_append.1 h.dis
  have hsk : sizeP (kidsP x') + 1 = p.x.size := by rw [sizeP, hok.kxs, size_kids p.x]; omega
  have hle := h.le
  rw [sizeP_append, sizeP_one] at hle
  have hs1 := hg.size
  -- blocks of the first world but the stack's and the part's
  have hold : ∀ k, k < w.heap.size → k ≠ p.b → k ≠ g → w2.heap[k]? = w.heap[k]? := fun k hk h1 h2 =>
    (hg2.1.block k (Nat.lt_of_lt_of_le hk hs1) (by simp [Value.ownBlock]; exact h2)).trans (hg.block k hk (by simpa using h1))
  have hpb2 : w2.heap[p.b]? = w1.heap[p.b]? := hg2.1.block p.b (Nat.lt_of_lt_of_le hlt hs1) (by simp [Value.ownBlock]; exact hgp)
  have hnew : ∀ k, w.heap.size ≤ k → k < w1.heap.size → w2.heap[k]? = w1.heap[k]? := fun k h1 h2 => hg2.1.block k h2 (by simp [Value.ownBlock]; omega)
  have hv2 : ∀ k, v2.ownBlock = some k → k = g ∨ w1.heap.size ≤ k := fun k hk => by
    rcases hg2.2 with e | e
    · left; rw [e] at hk; simp [Value.ownBlock] at hk; exact hk.symm
    · exact .inr (e k hk)
  refine ⟨⟨ho2, ?_, ?_, (hold R hRl (Ne.symm hpR) hRg).trans h.res, Nat.lt_of_lt_of_le hRl (Nat.le_trans hs1 hg2.size), fun e => by rcases hv2 R e.symm with e' | e' <;> omega, ?_, by rw [sizeP_append]; omega, ?_⟩, by rw [sizeP_append, sizeP_append, sizeP_one]; omega⟩
  · have h1 : Below W0.heap.size W0 w1 := h.bel.grown hg h.bel.size (by rintro k ⟨rfl⟩; exact hpb)
    exact h1.grown hg2.1 h1.size (by intro k hk; simp [Value.ownBlock] at hk; subst hk; exact (h.own.lt g rfl).1)
  · intro q hq
    rcases List.mem_append.1 hq with hq | hq
    · obtain ⟨r1, r2, r3, r4, r5, r6⟩ := h.raw q (by simp [hq])
      have hqg : q.b ≠ g := by intro e; exact r5 (by simp [Value.ownBlock, e])
      refine ⟨(apart_raw r1 (hd3 q hq p (by simp)) hg hf hfr).keep (hg2.1.block q.b (Nat.lt_of_lt_of_le r1.lt hs1) (by simp [Value.ownBlock]; exact hqg)), r2, r3, r4, fun e => ?_, r6⟩
      rcases hv2 q.b e.symm with e' | e'
      · exact hqg e'
      · have := r1.lt; omega
    · obtain ⟨r1, r2, r3⟩ := hok.kraw q hq
      have hxm : q.x ∈ p.x.kids := by rw [← hok.kxs]; exact List.mem_map_of_mem hq
      refine ⟨r1.keep (hnew q.b r2 r3), ?_, hsm.kid _ hxm, by have := h.bel.size; omega, fun e => ?_, by omega⟩
      · have hkk : (kidsP p.x).map Pt.x = p.x.kids := kidsP_x hkd
        rw [← hkk] at hxm
        obtain ⟨q', hq', e'⟩ := List.mem_map.1 hxm
        rw [← e']; exact (kidsP_at hkd q' hq').2
      · rcases hv2 q.b e.symm with e' | e'
        · omega
        · omega
  · refine List.pairwise_append.2 ⟨hd1, hok.kdis, fun q hq r hr' => ?_⟩
    have h1 := (h.raw q (by simp [hq])).1.lt
    have h2 := (hok.kraw r hr').2.1
    left; omega
  · intro ws hk hfin
    have hcell : ∀ j u, (cellsN x')[j]? = some u → ws.cell? ⟨p.b, p.o + j, none⟩ = some u := by
      intro j u hu
      have hj : j < p.x.tag.sz := by rw [← hok.tag, ← cells_len]; exact (List.getElem?_eq_some_iff.1 hu).1
      refine hk p.b (p.o + j) u hpR ((World.cell?_of_block hpb2).trans (hc j u hu)) (fun q hq => ?_) (fun e => ?_)
      · rcases List.mem_append.1 hq with hq | hq
        · intro hfo
          exact apart_foot (hd3 q hq p (by simp)) hfo ⟨rfl, by omega, by omega⟩
        · rintro ⟨e, _, _⟩
          have := (hok.kraw q hq).2.1; omega
      · rcases hv2 p.b e.symm with e' | e'
        · exact hgp e'
        · omega
    have hpfin : Fin' ws ⟨p.b, p.o, p.x⟩ := hok.fin ws hcell (fun q hq => hfin q (by simp [hq])) fun k j u hkb hu hne => by
      have hkl : k < w1.heap.size := World.block_lt_of_cell? w1 (a := ⟨k, j, none⟩) hu
      refine hk k j u (by omega) ((World.cell?_of_block (hnew k hkb hkl)).trans hu) (fun q hq => ?_) (fun e => ?_)
      · rcases List.mem_append.1 hq with hq | hq
        · rintro ⟨e, _, _⟩
          have := (h.raw q (by simp [hq])).1.lt; omega
        · rintro ⟨e, _, _⟩; exact hne q hq e
      · rcases hv2 k e.symm with e' | e' <;> omega
    refine h.wand ws (fun k j u hkR hu hnf hkg => ?_) fun q hq => ?_
    · have hkl : k < w.heap.size := World.block_lt_of_cell? w (a := ⟨k, j, none⟩) hu
      have hkg' : k ≠ g := by intro e; exact hkg (by simp [Value.ownBlock, e])
      refine hk k j u hkR ?_ (fun q hq => ?_) (fun e => ?_)
      · by_cases e : k = p.b
        · subst e
          have hnp := hnf p (by simp)
          have ho : j < p.o ∨ p.o + p.x.tag.sz ≤ j := by
            by_cases h1 : j < p.o
            · exact .inl h1
            · exact .inr (Nat.le_of_not_lt fun h2 => hnp ⟨rfl, by omega, h2⟩)
          rw [World.cell?_of_block hpb2, hf j ho]; exact hu
        · exact (World.cell?_of_block (hold k hkl e hkg')).trans hu
      · rcases List.mem_append.1 hq with hq | hq
        · exact hnf q (by simp [hq])
        · rintro ⟨e, _, _⟩
          have := (hok.kraw q hq).2.1; omega
      · rcases hv2 k e.symm with e' | e' <;> omega
    · rcases List.mem_append.1 hq with hq | hq
      · exact hfin q (by simp [hq])
      · simp at hq; subst hq; exact hpfin
set_option maxRecDepth 100000 in
set_option maxHeartbeats 4000000 in
theorem each_strip (W0 w : World) (G : World → Prop) (R : Nat) (O : Option Obj) (ps : List Pt) (v : Value) (h : BI W0 G R O ps v w) :
    Calls Try.prog 36 #[v, .func (.func 38) #[] #[]] w fun e w' => e = .returned (.tuple #[]) ∧ Below W0.heap.size W0 w' ∧ w'.heap[R]? = O ∧ ∃ v', some R ≠ v'.ownBlock ∧ ∀ ws, Kept R w' ws [] v' → G ws := by
  go_enter Try.func36, Try.ntmps36
  go_wp2_with fail
  go_loopg [0] (sizeP ps) (fun q v0 wr => ∃ ps1, q = sizeP ps1 ∧ BI W0 G R O ps1 v0 wr)
  case atStart => exact ⟨ps, rfl, h⟩
  case round =>
    obtain ⟨ps1, rfl, hE⟩ := hrel
    clear h
    rcases list_end ps1 with rfl | ⟨a, p, rfl⟩
    · obtain ⟨A, cap, rfl, _⟩ := own_form hE.own
      have HFIN := Lib.hid (show Below W0.heap.size W0 wr ∧ wr.heap[R]? = O ∧ ∃ v', some R ≠ v'.ownBlock ∧ ∀ ws, Kept R wr ws [] v' → G ws from ⟨hE.bel, hE.res, _, hE.rne, fun ws hk => hE.wand ws hk (by simp)⟩)
      clear hE
      go_wp2_with fail
      exact bodyPost_end (v := .tuple #[]) (by simp [results, Try.results36, go_sem]) rfl ⟨rfl, HFIN.out⟩
    · obtain ⟨g, cap, rfl, hcap, hcell, ho1⟩ := own_last hE.own
      obtain ⟨hr, hkd, hsm, hpb, hpn, _⟩ := hE.raw p (by simp)
      have hle := hE.le
      have hlen : a.length + 1 ≤ 1000000 := by have := len_sizeP (a ++ [p]); simp only [List.length_append, List.length_singleton] at this; omega
      rw [sizeP_append, sizeP_one] at hle
      have HST := Lib.hid (strip_any wr p hr (Kd.keep (Keep.below hE.bel) _ hkd) hsm (by omega))
      have HO1 := Lib.hid ho1
      have HE := Lib.hid hE
      have HKD := Lib.hid hkd
      have hgl : g < wr.heap.size := (ho1.lt g rfl).2
      have hgb : W0.heap.size ≤ g := (ho1.lt g rfl).1
      have hgp : p.b ≠ g := by intro e; exact hpn (by simp [Value.ownBlock, e])
      have hlt : p.b < wr.heap.size := hr.lt
      have hal := len_sizeP a
      have hsk := size_kids p.x
      clear hE hr hkd hsm hpn ho1
      have hnn : (a.length : Int) + 1 ≤ 1000000 := by omega
      have HLE := Lib.hid hle; have HSK := Lib.hid hsk
      clear hle hsk
      go_wp2_with fail
      refine HST.out.mono ?_
      clear HST
      rintro e w1 ⟨rfl, x', hok, hg, hc, hf, hfr⟩
      have hB1 : Below W0.heap.size W0 w1 := HE.out.bel.grown hg HE.out.bel.size (by rintro k ⟨rfl⟩; exact hpb)
      have hown1 : w1.ownsRow W0.heap.size 78 1 (.slice (some ⟨g, 0, none⟩) a.length cap) a.length (a.map ptV) := HO1.out.kept hg (.inr (by simp [Value.ownBlock]; exact fun e => hgp e.symm))
      have hpt : ptV ⟨p.b, p.o, x'⟩ = ptV p := by simp only [ptV]; rw [hok.tag]
      have hkl : (kidsP x').length = p.x.kids.length := by have := congrArg List.length hok.kxs; simpa using this
      have hs1 := hg.size
      have HW := Lib.hid (gwithin_any W0.heap.size w1 (.slice (some ⟨g, 0, none⟩) a.length cap) a ⟨p.b, p.o, x'⟩ hB1.size hown1 (fun w' v' hgr => by
        refine ⟨fun j u hu => ?_, hok.kd w' (fun k h1 h2 => hgr.1.block k h2 (by simp [Value.ownBlock]; omega)) fun y hy => ?_⟩
        · exact (World.cell?_of_block (hgr.1.block p.b (by omega) (by simp [Value.ownBlock]; exact hgp))).trans (hc j u hu)
        · have hb' : Below W0.heap.size W0 w' := hB1.grown hgr.1 hB1.size (by intro k hk; simp [Value.ownBlock] at hk; subst hk; exact hgb)
          rw [← kidsP_x HKD.out] at hy
          obtain ⟨q, hq, e⟩ := List.mem_map.1 hy
          subst e
          exact Kd.keep (Keep.below hb') _ (kidsP_at HKD.out q hq).2) (by
        have := HLE.out; have := HSK.out; have := len_sizeL p.x.kids
        show a.length + (kidsP x').length ≤ 1000000
        omega))
      rw [hpt] at HW
      have HS := Lib.hid (fun (w2 : World) (v2 : Value) (ho2 : w2.ownsRow W0.heap.size 78 1 v2 (a ++ kidsP x').length ((a ++ kidsP x').map ptV)) (hg2 : Grew w1 w2 (.slice (some ⟨g, 0, none⟩) a.length cap) v2) => HE.out.step hok hg hc hf hfr ho2 hg2)
      clear hok hg hc hf hfr hB1 hown1 hpt hkl hcell
      go_wp2_with fail
      refine HW.out.mono ?_
      clear HW
      rintro e w2 ⟨v2, rfl, ho2, hg2⟩
      have HE2 := Lib.hid (HS.out w2 v2 ho2 hg2)
      clear ho2 hg2
      go_wp2_with fail
      go_roundg (sizeP (a ++ kidsP x'))
      case rel => exact ⟨_, rfl, HE2.out.1⟩
      case measure => exact HE2.out.2
end Go.Proofs.Ytnphimechniplaa
