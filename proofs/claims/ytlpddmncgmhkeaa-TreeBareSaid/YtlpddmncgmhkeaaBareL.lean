/- Contract of tree.each with strip; of tree.Bare. -/
import Derived.Test.YtlpddmncgmhkeaaBareH
import Derived.Test.YtlpddmncgmhkeaaBareJ
set_option linter.unusedSimpArgs false
set_option linter.unusedVariables false
namespace Go.Proofs.Ytlpddmncgmhkeaa
open Go.RowKit
theorem strip_any (w : World) (p : Pt) (hr : Raw w p) (hkd : Kd w p.x) (hsm : Sm p.x) (hm : p.x.size ≤ 1000000) : Calls Try.prog 24 #[ptV p] w (StripSaid w p.b p.o p.x) := by
  obtain ⟨b, o, x⟩ := p
  have hs := hm
  cases x <;> simp only [Nd.size] at hs
  · exact strip_ex w b o _ _ _ _ _ _ _ _ _ hr hkd hsm (by have := len_sizeL ‹List Nd›; omega)
  · rename_i k n ty nm ve va vb vc e a c d nth
    have := len_sizeL e; have := len_sizeL a; have := len_sizeL c; have := len_sizeL d
    exact strip_st w b o _ _ _ _ _ _ _ _ _ _ _ _ _ hr hkd hsm (by omega) (by omega) (by omega) (by omega)
  · exact strip_fd w b o _ _ _ _ _ hr hkd hsm (by have := len_sizeL ‹List Nd›; omega)
  · exact strip_mt w b o _ _ _ _ _ _ _ _ hr hkd hsm (by have := len_sizeL ‹List Nd›; omega)
  · rename_i nm sp vf vm f m
    have := len_sizeL f; have := len_sizeL m
    exact strip_cl w b o _ _ _ _ _ _ hr hkd hsm (by omega) (by omega)
def Kept (R : Nat) (w ws : World) (ps : List Pt) (v : Value) : Prop := ∀ k j u, k ≠ R → w.cell? ⟨k, j, none⟩ = some u → (∀ p ∈ ps, ¬ inFoot p k j) → some k ≠ v.ownBlock → ws.cell? ⟨k, j, none⟩ = some u
/-- The relation of the loop: what is still to be stripped, and what is known once it is. -/
structure BI (W0 : World) (G : World → Prop) (R : Nat) (O : Option Obj) (ps : List Pt) (v : Value) (w : World) : Prop where
  own : w.ownsRow W0.heap.size 71 1 v ps.length (ps.map ptV)
  bel : Below W0.heap.size W0 w
  raw : ∀ p ∈ ps, Raw w p ∧ Kd W0 p.x ∧ Sm p.x ∧ W0.heap.size ≤ p.b ∧ some p.b ≠ v.ownBlock ∧ p.b ≠ R
  res : w.heap[R]? = O
  rlt : R < w.heap.size
  rne : some R ≠ v.ownBlock
  dis : ps.Pairwise apart
  le : sizeP ps ≤ 1000000
  wand : ∀ ws, Kept R w ws ps v → (∀ p ∈ ps, Fin' ws p) → G ws
theorem apart_foot {p q : Pt} (h : apart p q) {k j : Nat} (hp : inFoot p k j) : ¬ inFoot q k j := by
  rintro ⟨h1, h2, h3⟩
  obtain ⟨g1, g2, g3⟩ := hp
  rcases h with h | h | h <;> omega
theorem apart_raw {w w' : World} {p q : Pt} (hr : Raw w p) (ha : apart p q) (hg : w.grownBy w' (some q.b)) (hf : ∀ j, (j < q.o ∨ q.o + q.x.tag.sz ≤ j) → w'.cell? ⟨q.b, j, none⟩ = w.cell? ⟨q.b, j, none⟩) (hfr : ∀ j, w'.frozen? ⟨q.b, j, none⟩ = w.frozen? ⟨q.b, j, none⟩) : Raw w' p := by
  by_cases e : p.b = q.b
  · intro j u hu
    have hj : j < p.x.tag.sz := by rw [← cells_len]; exact (List.getElem?_eq_some_iff.1 hu).1
    have ho : p.o + j < q.o ∨ q.o + q.x.tag.sz ≤ p.o + j := by
      rcases ha with h | h | h
      · exact absurd e h
      · left; omega
      · right; omega
    rw [e, hf _ ho, hfr, ← e]; exact hr j u hu
  · exact hr.keep (hg.block p.b hr.lt (by simpa using e))
/-- One part has been stripped, and what stands within it is on the stack. -/
theorem BI.step {W0 w w1 w2 : World} {G : World → Prop} {ps : List Pt} {p : Pt} {g cap : Nat} {v2 : Value} {x' : Nd} {R : Nat} {O : Option Obj} (h : BI W0 G R O (ps ++ [p]) (.slice (some ⟨g, 0, none⟩) (ps.length + 1) cap) w)
    (hok : KidsOk w w1 p.b p.o p.x x') (hg : w.grownBy w1 (some p.b)) (hc : ∀ j u, (cellsN x')[j]? = some u → w1.cell? ⟨p.b, p.o + j, none⟩ = some u) (hf : ∀ j, (j < p.o ∨ p.o + p.x.tag.sz ≤ j) → w1.cell? ⟨p.b, j, none⟩ = w.cell? ⟨p.b, j, none⟩) (hfr : ∀ j, w1.frozen? ⟨p.b, j, none⟩ = w.frozen? ⟨p.b, j, none⟩)
    (ho2 : w2.ownsRow W0.heap.size 71 1 v2 (ps ++ kidsP x').length ((ps ++ kidsP x').map ptV)) (hg2 : Grew w1 w2 (.slice (some ⟨g, 0, none⟩) ps.length cap) v2) :
    BI W0 G R O (ps ++ kidsP x') v2 w2 ∧ sizeP (ps ++ kidsP x') < sizeP (ps ++ [p]) := by
  obtain ⟨hr, hkd, hsm, hpb, hpn, hpR⟩ := h.raw p (by simp)
  have hRl := h.rlt
  have hRg : R ≠ g := by intro e; exact h.rne (by simp [Value.ownBlock, e])
  have hlt := hr.lt
  have hgl : g < w.heap.size := by have := (h.own.lt g rfl).2; exact this
  have hgp : p.b ≠ g := by intro e; exact hpn (by simp [Value.ownBlock, e])
  obtain ⟨hd1, _, hd3⟩ := List.pairwise_append.1 h.dis
  have hsk : sizeP (kidsP x') + 1 = p.x.size := by rw [sizeP, hok.kxs, size_kids p.x]; omega
  have hle := h.le
  rw [sizeP_append, sizeP_one] at hle
  have hs1 := hg.size
  -- blocks of the first world but the stack's and the part's
  have hold : ∀ k, k < w.heap.size → k ≠ p.b → k ≠ g → w2.heap[k]? = w.heap[k]? := fun k hk h1 h2 =>
    (hg2.1.block k (Nat.lt_of_lt_of_le hk hs1) (by simp [Value.ownBlock]; exact h2)).trans (hg.block k hk (by simpa using h1))
  have hpb2 : w2.heap[p.b]? = w1.heap[p.b]? := hg2.1.block p.b (Nat.lt_of_lt_of_le hlt hs1) (by simp [Value.ownBlock]; exact hgp)
  have hnew : ∀ k, w.heap.size ≤ k → k < w1.heap.size → w2.heap[k]? = w1.heap[k]? := fun k h1 h2 => hg2.1.block k h2 (by simp [Value.ownBlock]; omega)
  have hv2 : ∀ k, v2.ownBlock = some k → k = g ∨ w1.heap.size ≤ k := fun k hk => by
    rcases hg2.2 with e | e
    · left; rw [e] at hk; simp [Value.ownBlock] at hk; exact hk.symm
    · exact .inr (e k hk)
  refine ⟨⟨ho2, ?_, ?_, (hold R hRl (Ne.symm hpR) hRg).trans h.res, Nat.lt_of_lt_of_le hRl (Nat.le_trans hs1 hg2.size), fun e => by rcases hv2 R e.symm with e' | e' <;> omega, ?_, by rw [sizeP_append]; omega, ?_⟩, by rw [sizeP_append, sizeP_append, sizeP_one]; omega⟩
  · have h1 : Below W0.heap.size W0 w1 := h.bel.grown hg h.bel.size (by rintro k ⟨rfl⟩; exact hpb)
    exact h1.grown hg2.1 h1.size (by intro k hk; simp [Value.ownBlock] at hk; subst hk; exact (h.own.lt g rfl).1)
  · intro q hq
    rcases List.mem_append.1 hq with hq | hq
    · obtain ⟨r1, r2, r3, r4, r5, r6⟩ := h.raw q (by simp [hq])
      have hqg : q.b ≠ g := by intro e; exact r5 (by simp [Value.ownBlock, e])
      refine ⟨(apart_raw r1 (hd3 q hq p (by simp)) hg hf hfr).keep (hg2.1.block q.b (Nat.lt_of_lt_of_le r1.lt hs1) (by simp [Value.ownBlock]; exact hqg)), r2, r3, r4, fun e => ?_, r6⟩
      rcases hv2 q.b e.symm with e' | e'
      · exact hqg e'
      · have := r1.lt; omega
    · obtain ⟨r1, r2, r3⟩ := hok.kraw q hq
      have hxm : q.x ∈ p.x.kids := by rw [← hok.kxs]; exact List.mem_map_of_mem hq
      refine ⟨r1.keep (hnew q.b r2 r3), ?_, hsm.kid _ hxm, by have := h.bel.size; omega, fun e => ?_, by omega⟩
      · have hkk : (kidsP p.x).map Pt.x = p.x.kids := kidsP_x hkd
        rw [← hkk] at hxm
        obtain ⟨q', hq', e'⟩ := List.mem_map.1 hxm
        rw [← e']; exact (kidsP_at hkd q' hq').2
      · rcases hv2 q.b e.symm with e' | e'
        · omega
        · omega
  · refine List.pairwise_append.2 ⟨hd1, hok.kdis, fun q hq r hr' => ?_⟩
    have h1 := (h.raw q (by simp [hq])).1.lt
    have h2 := (hok.kraw r hr').2.1
    left; omega
  · intro ws hk hfin
    have hcell : ∀ j u, (cellsN x')[j]? = some u → ws.cell? ⟨p.b, p.o + j, none⟩ = some u := by
      intro j u hu
      have hj : j < p.x.tag.sz := by rw [← hok.tag, ← cells_len]; exact (List.getElem?_eq_some_iff.1 hu).1
      refine hk p.b (p.o + j) u hpR ((World.cell?_of_block hpb2).trans (hc j u hu)) (fun q hq => ?_) (fun e => ?_)
      · rcases List.mem_append.1 hq with hq | hq
        · intro hfo
          exact apart_foot (hd3 q hq p (by simp)) hfo ⟨rfl, by omega, by omega⟩
        · rintro ⟨e, _, _⟩
          have := (hok.kraw q hq).2.1; omega
      · rcases hv2 p.b e.symm with e' | e'
        · exact hgp e'
        · omega
    have hpfin : Fin' ws ⟨p.b, p.o, p.x⟩ := hok.fin ws hcell (fun q hq => hfin q (by simp [hq])) fun k j u hkb hu hne => by
      have hkl : k < w1.heap.size := World.block_lt_of_cell? w1 (a := ⟨k, j, none⟩) hu
      refine hk k j u (by omega) ((World.cell?_of_block (hnew k hkb hkl)).trans hu) (fun q hq => ?_) (fun e => ?_)
      · rcases List.mem_append.1 hq with hq | hq
        · rintro ⟨e, _, _⟩
          have := (h.raw q (by simp [hq])).1.lt; omega
        · rintro ⟨e, _, _⟩; exact hne q hq e
      · rcases hv2 k e.symm with e' | e' <;> omega
    refine h.wand ws (fun k j u hkR hu hnf hkg => ?_) fun q hq => ?_
    · have hkl : k < w.heap.size := World.block_lt_of_cell? w (a := ⟨k, j, none⟩) hu
      have hkg' : k ≠ g := by intro e; exact hkg (by simp [Value.ownBlock, e])
      refine hk k j u hkR ?_ (fun q hq => ?_) (fun e => ?_)
      · by_cases e : k = p.b
        · subst e
          have hnp := hnf p (by simp)
          have ho : j < p.o ∨ p.o + p.x.tag.sz ≤ j := by
            by_cases h1 : j < p.o
            · exact .inl h1
            · exact .inr (Nat.le_of_not_lt fun h2 => hnp ⟨rfl, by omega, h2⟩)
          rw [World.cell?_of_block hpb2, hf j ho]; exact hu
        · exact (World.cell?_of_block (hold k hkl e hkg')).trans hu
      · rcases List.mem_append.1 hq with hq | hq
        · exact hnf q (by simp [hq])
        · rintro ⟨e, _, _⟩
          have := (hok.kraw q hq).2.1; omega
      · rcases hv2 k e.symm with e' | e' <;> omega
    · rcases List.mem_append.1 hq with hq | hq
      · exact hfin q (by simp [hq])
      · simp at hq; subst hq; exact hpfin
set_option maxRecDepth 100000 in
set_option maxHeartbeats 4000000 in
theorem each_strip (W0 w : World) (G : World → Prop) (R : Nat) (O : Option Obj) (ps : List Pt) (v : Value) (h : BI W0 G R O ps v w) :
    Calls Try.prog 22 #[v, .func (.func 24) #[] #[]] w fun e w' => e = .returned (.tuple #[]) ∧ Below W0.heap.size W0 w' ∧ w'.heap[R]? = O ∧ ∃ v', some R ≠ v'.ownBlock ∧ ∀ ws, Kept R w' ws [] v' → G ws := by
  go_enter Try.func22, Try.ntmps22
  go_wp2_with fail
  go_loopg [0] (sizeP ps) (fun q v0 wr => ∃ ps1, q = sizeP ps1 ∧ BI W0 G R O ps1 v0 wr)
  case atStart => exact ⟨ps, rfl, h⟩
  case round =>
    obtain ⟨ps1, rfl, hE⟩ := hrel
    clear h
    rcases list_end ps1 with rfl | ⟨a, p, rfl⟩
    · obtain ⟨A, cap, rfl, _⟩ := own_form hE.own
      have HFIN := Lib.hid (show Below W0.heap.size W0 wr ∧ wr.heap[R]? = O ∧ ∃ v', some R ≠ v'.ownBlock ∧ ∀ ws, Kept R wr ws [] v' → G ws from ⟨hE.bel, hE.res, _, hE.rne, fun ws hk => hE.wand ws hk (by simp)⟩)
      clear hE
      go_wp2_with fail
      exact bodyPost_end (v := .tuple #[]) (by simp [results, Try.results22, go_sem]) rfl ⟨rfl, HFIN.out⟩
    · obtain ⟨g, cap, rfl, hcap, hcell, ho1⟩ := own_last hE.own
      obtain ⟨hr, hkd, hsm, hpb, hpn, _⟩ := hE.raw p (by simp)
      have hle := hE.le
      have hlen : a.length + 1 ≤ 1000000 := by have := len_sizeP (a ++ [p]); simp only [List.length_append, List.length_singleton] at this; omega
      rw [sizeP_append, sizeP_one] at hle
      have HST := Lib.hid (strip_any wr p hr (Kd.keep (Keep.below hE.bel) _ hkd) hsm (by omega))
      have HO1 := Lib.hid ho1
      have HE := Lib.hid hE
      have HKD := Lib.hid hkd
      have hgl : g < wr.heap.size := (ho1.lt g rfl).2
      have hgb : W0.heap.size ≤ g := (ho1.lt g rfl).1
      have hgp : p.b ≠ g := by intro e; exact hpn (by simp [Value.ownBlock, e])
      have hlt : p.b < wr.heap.size := hr.lt
      have hal := len_sizeP a
      have hsk := size_kids p.x
      clear hE hr hkd hsm hpn ho1
      have hnn : (a.length : Int) + 1 ≤ 1000000 := by omega
      have HLE := Lib.hid hle; have HSK := Lib.hid hsk
      clear hle hsk
      go_wp2_with fail
      refine HST.out.mono ?_
      clear HST
      rintro e w1 ⟨rfl, x', hok, hg, hc, hf, hfr⟩
      have hB1 : Below W0.heap.size W0 w1 := HE.out.bel.grown hg HE.out.bel.size (by rintro k ⟨rfl⟩; exact hpb)
      have hown1 : w1.ownsRow W0.heap.size 71 1 (.slice (some ⟨g, 0, none⟩) a.length cap) a.length (a.map ptV) := HO1.out.kept hg (.inr (by simp [Value.ownBlock]; exact fun e => hgp e.symm))
      have hpt : ptV ⟨p.b, p.o, x'⟩ = ptV p := by simp only [ptV]; rw [hok.tag]
      have hkl : (kidsP x').length = p.x.kids.length := by have := congrArg List.length hok.kxs; simpa using this
      have hs1 := hg.size
      have HW := Lib.hid (gwithin_any W0.heap.size w1 (.slice (some ⟨g, 0, none⟩) a.length cap) a ⟨p.b, p.o, x'⟩ hB1.size hown1 (fun w' v' hgr => by
        refine ⟨fun j u hu => ?_, hok.kd w' (fun k h1 h2 => hgr.1.block k h2 (by simp [Value.ownBlock]; omega)) fun y hy => ?_⟩
        · exact (World.cell?_of_block (hgr.1.block p.b (by omega) (by simp [Value.ownBlock]; exact hgp))).trans (hc j u hu)
        · have hb' : Below W0.heap.size W0 w' := hB1.grown hgr.1 hB1.size (by intro k hk; simp [Value.ownBlock] at hk; subst hk; exact hgb)
          rw [← kidsP_x HKD.out] at hy
          obtain ⟨q, hq, e⟩ := List.mem_map.1 hy
          subst e
          exact Kd.keep (Keep.below hb') _ (kidsP_at HKD.out q hq).2) (by
        have := HLE.out; have := HSK.out; have := len_sizeL p.x.kids
        show a.length + (kidsP x').length ≤ 1000000
        omega))
      rw [hpt] at HW
      have HS := Lib.hid (fun (w2 : World) (v2 : Value) (ho2 : w2.ownsRow W0.heap.size 71 1 v2 (a ++ kidsP x').length ((a ++ kidsP x').map ptV)) (hg2 : Grew w1 w2 (.slice (some ⟨g, 0, none⟩) a.length cap) v2) => HE.out.step hok hg hc hf hfr ho2 hg2)
      clear hok hg hc hf hfr hB1 hown1 hpt hkl hcell
      go_wp2_with fail
      refine HW.out.mono ?_
      clear HW
      rintro e w2 ⟨v2, rfl, ho2, hg2⟩
      have HE2 := Lib.hid (HS.out w2 v2 ho2 hg2)
      clear ho2 hg2
      go_wp2_with fail
      go_roundg (sizeP (a ++ kidsP x'))
      case rel => exact ⟨_, rfl, HE2.out.1⟩
      case measure => exact HE2.out.2
end Go.Proofs.Ytlpddmncgmhkeaa
/- Contract of tree.Bare. -/
set_option linter.unusedSimpArgs false
set_option linter.unusedVariables false
namespace Go.Proofs.Ytlpddmncgmhkeaa
open Go.RowKit
def BareSaid (w : World) (l : List Nd) (e : Ending) (w' : World) : Prop :=
  ∃ v' l', e = .returned (.agg #[v']) ∧ Rw w' .cl v' l' ∧ KdL w' l' ∧ (∀ x ∈ l', NT x) ∧ bareL l' = bareL l ∧ Below w.heap.size w w'
set_option maxRecDepth 100000 in
set_option maxHeartbeats 4000000 in
theorem bare_any (w : World) (v : Value) (l : List Nd) (hr : Rw w .cl v l) (hk : KdL w l) (hsm : ∀ x ∈ l, Sm x) (hs : sizeL l ≤ 1000000) :
    Calls Try.prog 7 #[.agg #[v]] w (BareSaid w l) := by
  have hl := len_sizeL l
  have HRN : Hid (∀ w', Below w.heap.size w w' → Calls Try.prog 21 #[v] w' (RenewSaid w' 33 4 l.length (l.flatMap cellsN))) := fun w' hb => renewed_cl w' v l (hr.keep (Keep.below hb)) (KdL.keep (Keep.below hb) _ hk) (by omega)
  have HK := Lib.hid hk
  have HRR := Lib.hid hr
  have HSM := Lib.hid hsm
  have HSZ := Lib.hid hs
  have hlm : l.length ≤ 1000000 := by omega
  clear hr hk hsm hs hl
  go_enter Try.func7, Try.ntmps7
  go_wp2_with fail
  have hx1 : Bx ((w.alloc (.cells #[v] 24)).alloc (.cells #[.slice none 0 0] 24)) w.heap.size #[v] 24 := (Bx.new _ _ _).next ((Below.refl _ _).alloc (Nat.le_refl _) _)
  have hx2 : Bx ((w.alloc (.cells #[v] 24)).alloc (.cells #[.slice none 0 0] 24)) (w.heap.size + 1) #[.slice none 0 0] 24 := by simpa using Bx.new (w.alloc (.cells #[v] 24)) #[.slice none 0 0] 24
  have hw : Below w.heap.size w ((w.alloc (.cells #[v] 24)).alloc (.cells #[.slice none 0 0] 24)) := ((Below.refl _ w).alloc (Nat.le_refl _) _).alloc (by simp) _
  have hz1 : ((w.alloc (.cells #[v] 24)).alloc (.cells #[.slice none 0 0] 24)).heap.size = w.heap.size + 2 := by simp
  generalize (w.alloc (.cells #[v] 24)).alloc (.cells #[.slice none 0 0] 24) = W1 at hx1 hx2 hw hz1 ⊢
  refine (HRN.out _ hw).mono ?_
  clear HRN
  rintro e w2 ⟨v', rfl, ho, hc⟩
  obtain ⟨A, cap, rfl, _⟩ := own_form ho
  have hsz2 := hc.size
  have c0 : w2.cell? ⟨w.heap.size, 0, none⟩ = some v := (hx1.next hc).cell 0
  have f0 := (hx1.next hc).fro 0
  have hbx3 : Bx (w2.setCell ⟨w.heap.size, 0, none⟩ (.slice A l.length cap)) w.heap.size #[.slice A l.length cap] 24 := by simpa using (hx1.next hc).set 0 (.slice A l.length cap)
  have hrs3 : Bx (w2.setCell ⟨w.heap.size, 0, none⟩ (.slice A l.length cap)) (w.heap.size + 1) #[.slice none 0 0] 24 := (Below.heap_setCell _ _ _ _ (by simp)).trans (hx2.next hc)
  have hseg : Seg (w2.setCell ⟨w.heap.size, 0, none⟩ (.slice A l.length cap)) W1.heap.size .cl (.slice A l.length cap) l := seg_of (t := .cl) (ownsRow_setCell_below ho (by simp; omega) _) (by obtain ⟨_, _, _, _, ht, _⟩ := HRR.out; exact ht)
  have hb3 : Below w.heap.size w (w2.setCell ⟨w.heap.size, 0, none⟩ (.slice A l.length cap)) := (hw.trans (hc.mono hw.size)).setCell (Nat.le_refl _) _
  have d40 : (w2.setCell ⟨w.heap.size, 0, none⟩ (.slice A l.length cap)).cell? ⟨w.heap.size, 0, none⟩ = some (.slice A l.length cap) := hbx3.cell 0
  have hADD := add_cl (w2.setCell ⟨w.heap.size, 0, none⟩ (.slice A l.length cap)) w.heap.size (.slice none 0 0) [] (.slice A l.length cap) l hb3.size (by simpa using World.ownsRow_nil (w2.setCell ⟨w.heap.size, 0, none⟩ (.slice A l.length cap)) w.heap.size 71 1) (hseg.rw (w := W1) hlm (Nat.le_refl _) (fun _ _ _ => rfl)) (by simp only [List.length_nil]; omega)
  have HADD := Lib.hid hADD
  have HSEG := Lib.hid hseg
  have HBX := Lib.hid hbx3
  have HRS := Lib.hid hrs3
  have HB3 := Lib.hid hb3
  clear hADD hseg hbx3 hrs3 hb3 hx1 hx2 ho hc
  go_wp2_with fail
  generalize w2.setCell ⟨w.heap.size, 0, none⟩ (.slice A l.length cap) = w3 at HADD HSEG HBX HRS HB3 d40 ⊢
  refine HADD.out.mono ?_
  clear HADD d40 c0 f0
  rintro e w4 ⟨v4, rfl, ho4, hg4⟩
  have hb4 := hg4.of_nil rfl
  have hv4 : ∀ k, v4.ownBlock = some k → w3.heap.size ≤ k := by
    intro k hk
    rcases hg4.2 with e | e
    · rw [e] at hk; simp [Value.ownBlock] at hk
    · exact e k hk
  have hrl := HRS.out.lt
  have hbl := HBX.out.lt
  have hBI : BI w (fun ws => (∃ l', Rw ws .cl (.slice A l.length cap) l' ∧ KdL ws l' ∧ (∀ x ∈ l', NT x) ∧ bareL l' = bareL l) ∧ ws.cell? ⟨w.heap.size, 0, none⟩ = some (.slice A l.length cap)) (w.heap.size + 1) (some (.cells #[.slice none 0 0] 24 (0, 0))) (ptsV .cl (.slice A l.length cap) l) v4 w4 := by
    refine ⟨by simpa using ho4, HB3.out.trans (hb4.mono HB3.out.size), fun p hp => ?_, HRS.out.next hb4, Nat.lt_of_lt_of_le hrl hb4.size, fun e => by have := hv4 _ e.symm; omega, HSEG.out.dis, ?_, fun ws hkp hfin => ⟨fin_seg HSEG.out hlm hfin, ?_⟩⟩
    · obtain ⟨r1, r2, r3, _⟩ := HSEG.out.raw p hp
      have hxm : p.x ∈ l := by rw [← HSEG.out.xs]; exact List.mem_map_of_mem hp
      exact ⟨r1.keep (hb4.block p.b r3), KdL_mem HK.out _ hxm, HSM.out _ hxm, by omega, fun e => by have := hv4 _ e.symm; omega, by omega⟩
    · rw [sizeP, HSEG.out.xs]; exact HSZ.out
    · refine hkp w.heap.size 0 _ (by omega) ((HBX.out.next hb4).cell 0) (fun p hp => ?_) (fun e => by have := hv4 _ e.symm; omega)
      rintro ⟨e, _, _⟩
      obtain ⟨_, r2, _, _⟩ := HSEG.out.raw p hp
      omega
  have HEACH := Lib.hid (each_strip w w4 _ (w.heap.size + 1) _ _ v4 hBI)
  clear hBI ho4 hg4 hb4 hv4
  go_wp2_with fail
  refine HEACH.out.mono ?_
  clear HEACH
  rintro e w5 ⟨rfl, hb5, hr5, v5, hv5, hG⟩
  have hbx5 : Bx w5 (w.heap.size + 1) #[.slice none 0 0] 24 := hr5
  have e0 : w5.cell? ⟨w.heap.size, 0, none⟩ = some (.slice A l.length cap) := (hG w5 fun _ _ _ _ h _ _ => h).2
  have r0 : w5.cell? ⟨w.heap.size + 1, 0, none⟩ = some (.slice none 0 0) := hbx5.cell 0
  have g0 := hbx5.fro 0
  have HFIN : Hid (BareSaid w l (.returned (.agg #[.slice A l.length cap])) (w5.setCell ⟨w.heap.size + 1, 0, none⟩ (.slice A l.length cap))) := by
    obtain ⟨⟨l', h1, h2, h3, h4⟩, _⟩ := hG (w5.setCell ⟨w.heap.size + 1, 0, none⟩ (.slice A l.length cap)) fun k j u hkR hu _ _ => by
      rw [World.cell?_setCell_other _ _ _ _ (by simp <;> omega)]; exact hu
    exact ⟨_, l', rfl, h1, h2, h3, h4, hb5.setCell (by simp) _⟩
  have z0 : (w5.setCell ⟨w.heap.size + 1, 0, none⟩ (.slice A l.length cap)).cell? ⟨w.heap.size + 1, 0, none⟩ = some (.slice A l.length cap) := set_at r0
  clear hG hr5 hbx5
  go_wp2_with fail
  refine bodyPost_ret (v := .agg #[.slice A l.length cap]) (by simp [results, Try.results7, go_sem, z0]) rfl ?_
  exact HFIN.out
end Go.Proofs.Ytlpddmncgmhkeaa
