/- What strip leaves of a part, and what follows from it: no program. -/
import Derived.Test.YtlpddmncgmhkeaaBareF
import Derived.Laws.IdiomCopy
set_option linter.unusedSimpArgs false
set_option linter.unusedVariables false
namespace Go.Proofs.Ytlpddmncgmhkeaa
open Go.RowKit
def keptNew (w w' w'' : World) : Prop := ∀ k, w.heap.size ≤ k → k < w'.heap.size → w''.heap[k]? = w'.heap[k]?
/-- What is known of the kids of a part that has been stripped. -/
structure KidsOk (w w' : World) (b o : Nat) (x x' : Nd) : Prop where
  kraw : ∀ q ∈ kidsP x', Raw w' q ∧ w.heap.size ≤ q.b ∧ q.b < w'.heap.size
  kdis : (kidsP x').Pairwise apart
  kxs : (kidsP x').map Pt.x = x.kids
  tag : x'.tag = x.tag
  kd : ∀ w'', keptNew w w' w'' → (∀ y ∈ x.kids, Kd w'' y) → Kd w'' x'
  fin : ∀ ws, (∀ j u, (cellsN x')[j]? = some u → ws.cell? ⟨b, o + j, none⟩ = some u) → (∀ q ∈ kidsP x', Fin' ws q) → (∀ k j u, w.heap.size ≤ k → w'.cell? ⟨k, j, none⟩ = some u → (∀ q ∈ kidsP x', q.b ≠ k) → ws.cell? ⟨k, j, none⟩ = some u) → Fin' ws ⟨b, o, x⟩
theorem Seg.rw {w w' w'' : World} {B : Nat} {t : Tg} {v : Value} {l : List Nd} (hs : Seg w' B t v l) (hm : l.length ≤ 1000000) (hB : w.heap.size ≤ B) (hk : keptNew w w' w'') : Rw w'' t v l := by
  obtain ⟨A, cap, rfl, hc, hA⟩ := hs.form
  refine ⟨A, cap, rfl, ⟨by unfold maxLen; omega, hc⟩, hs.tags, fun h0 => ?_⟩
  obtain ⟨g, rfl⟩ := hA h0
  refine ⟨g, 0, rfl, fun i x hx j u hu => ?_⟩
  have hq : (⟨g, 0 + i * t.sz, x⟩ : Pt) ∈ ptsV t (.slice (some ⟨g, 0, none⟩) l.length cap) l := by
    refine List.mem_of_getElem? (i := i) ?_
    simp only [ptsV]
    rw [pts_get, hx]; rfl
  obtain ⟨hr, hb, hl, _⟩ := hs.raw _ hq
  have hkk := hk g (Nat.le_trans hB hb) hl
  exact (World.cell?_of_block hkk).trans (hr j u hu).1
theorem Seg.kraw {w w' : World} {B : Nat} {t : Tg} {v : Value} {l : List Nd} (hs : Seg w' B t v l) (hB : w.heap.size ≤ B) : ∀ q ∈ ptsV t v l, Raw w' q ∧ w.heap.size ≤ q.b ∧ q.b < w'.heap.size := fun q hq => by
  obtain ⟨h1, h2, h3, _⟩ := hs.raw q hq
  exact ⟨h1, Nat.le_trans hB h2, h3⟩
/-- Two rows, one behind the other, do not meet. -/
theorem Seg.cross {w' w2 : World} {B B' : Nat} {t t' : Tg} {v v' : Value} {l l' : List Nd} (hs : Seg w' B t v l) (hs' : Seg w2 B' t' v' l') (h : ∀ k, v.ownBlock = some k → k < B') : ∀ p ∈ ptsV t v l, ∀ q ∈ ptsV t' v' l', apart p q := fun p hp q hq => by
  obtain ⟨_, _, _, h4⟩ := hs.raw p hp
  obtain ⟨_, h5, _, _⟩ := hs'.raw q hq
  have := h _ h4
  left; omega
theorem ok_ex {w w' : World} {b o : Nat} {k n : Int} {tx nm ty : ByteArray} {v v' : Value} {l : List Nd} {own : ByteArray} {nth : Int} (hs : Seg w' w.heap.size .ex v' l) (hm : l.length ≤ 1000000) (hz : tx.size ≤ maxLen ∧ nm.size ≤ maxLen ∧ ty.size ≤ maxLen) :
    KidsOk w w' b o (.ex k n tx nm ty v l own nth) (.ex k n tx nm ty v' l ⟨#[]⟩ 0) := by
  refine ⟨hs.kraw (Nat.le_refl _), hs.dis, hs.xs, rfl, fun w'' hk hy => ?_, fun ws hc hf _ => ?_⟩
  · rw [Kd]; exact ⟨hz, hs.rw hm (Nat.le_refl _) hk, KdL_of hy⟩
  · obtain ⟨l', h1, h2, h3, h4⟩ := fin_seg hs hm hf
    exact ⟨.ex k n tx nm ty v' l' ⟨#[]⟩ 0, ⟨hc, by rw [Kd]; exact ⟨hz, h1, h2⟩⟩, NT.mk _ ⟨rfl, rfl⟩ h3, by simp only [bareN, h4]⟩
theorem ok_fd {w w' : World} {b o : Nat} {s : Bool} {ty nm : ByteArray} {v v' : Value} {l : List Nd} (hs : Seg w' w.heap.size .ex v' l) (hm : l.length ≤ 1000000) (hz : ty.size ≤ maxLen ∧ nm.size ≤ maxLen) :
    KidsOk w w' b o (.fd s ty nm v l) (.fd s ty nm v' l) := by
  refine ⟨hs.kraw (Nat.le_refl _), hs.dis, hs.xs, rfl, fun w'' hk hy => ?_, fun ws hc hf _ => ?_⟩
  · rw [Kd]; exact ⟨hz, hs.rw hm (Nat.le_refl _) hk, KdL_of hy⟩
  · obtain ⟨l', h1, h2, h3, h4⟩ := fin_seg hs hm hf
    exact ⟨.fd s ty nm v' l', ⟨hc, by rw [Kd]; exact ⟨hz, h1, h2⟩⟩, NT.mk _ trivial h3, by simp only [bareN, h4]⟩
theorem ok_cl {w w' : World} {b o B1 : Nat} {nm sp : ByteArray} {vf vm vf' vm' : Value} {f m : List Nd} (hs : Seg w' w.heap.size .fd vf' f) (hs' : Seg w' B1 .mt vm' m) (hB : w.heap.size ≤ B1) (hv : ∀ k, vf'.ownBlock = some k → k < B1) (hm : f.length ≤ 1000000) (hm' : m.length ≤ 1000000) (hz : nm.size ≤ maxLen ∧ sp.size ≤ maxLen) :
    KidsOk w w' b o (.cl nm sp vf vm f m) (.cl nm sp vf' vm' f m) := by
  refine ⟨fun q hq => ?_, ?_, ?_, rfl, fun w'' hk hy => ?_, fun ws hc hf _ => ?_⟩
  · rcases List.mem_append.1 hq with hq | hq
    · exact hs.kraw (Nat.le_refl _) q hq
    · exact hs'.kraw hB q hq
  · exact List.pairwise_append.2 ⟨hs.dis, hs'.dis, hs.cross hs' hv⟩
  · simp only [kidsP, Nd.kids, List.map_append, hs.xs, hs'.xs]
  · rw [Kd]
    exact ⟨hz, ⟨hs.rw hm (Nat.le_refl _) hk, KdL_of fun y h => hy y (by simp [Nd.kids, h])⟩, hs'.rw hm' hB hk, KdL_of fun y h => hy y (by simp [Nd.kids, h])⟩
  · obtain ⟨l1, h1, h2, h3, h4⟩ := fin_seg hs hm fun p hp => hf p (by simp [kidsP, hp])
    obtain ⟨l2, g1, g2, g3, g4⟩ := fin_seg hs' hm' fun p hp => hf p (by simp [kidsP, hp])
    refine ⟨.cl nm sp vf' vm' l1 l2, ⟨hc, by rw [Kd]; exact ⟨hz, ⟨h1, h2⟩, g1, g2⟩⟩, NT.mk _ trivial fun y hy => ?_, by simp only [bareN, h4, g4]⟩
    rcases List.mem_append.1 hy with hy | hy
    · exact h3 y hy
    · exact g3 y hy
theorem ok_st {w w' : World} {b o B1 B2 B3 : Nat} {k n : Int} {ty nm : ByteArray} {ve va vb vc ve' va' vb' vc' : Value} {e a b' c : List Nd} {nth : Int} (h1 : Seg w' w.heap.size .ex ve' e) (h2 : Seg w' B1 .st va' a) (h3 : Seg w' B2 .st vb' b') (h4 : Seg w' B3 .st vc' c)
    (hB1 : w.heap.size ≤ B1) (hB2 : B1 ≤ B2) (hB3 : B2 ≤ B3) (hv1 : ∀ k, ve'.ownBlock = some k → k < B1) (hv2 : ∀ k, va'.ownBlock = some k → k < B2) (hv3 : ∀ k, vb'.ownBlock = some k → k < B3)
    (m1 : e.length ≤ 1000000) (m2 : a.length ≤ 1000000) (m3 : b'.length ≤ 1000000) (m4 : c.length ≤ 1000000) (hz : ty.size ≤ maxLen ∧ nm.size ≤ maxLen) :
    KidsOk w w' b o (.st k n ty nm ve va vb vc e a b' c nth) (.st k n ty nm ve' va' vb' vc' e a b' c 0) := by
  refine ⟨fun q hq => ?_, ?_, ?_, rfl, fun w'' hk hy => ?_, fun ws hc hf _ => ?_⟩
  · simp only [kidsP, List.mem_append] at hq
    rcases hq with ((hq | hq) | hq) | hq
    · exact h1.kraw (Nat.le_refl _) q hq
    · exact h2.kraw hB1 q hq
    · exact h3.kraw (Nat.le_trans hB1 hB2) q hq
    · exact h4.kraw (Nat.le_trans (Nat.le_trans hB1 hB2) hB3) q hq
  · have c12 := h1.cross h2 hv1
    have c13 := h1.cross h3 (fun k hk => Nat.lt_of_lt_of_le (hv1 k hk) hB2)
    have c14 := h1.cross h4 (fun k hk => Nat.lt_of_lt_of_le (hv1 k hk) (Nat.le_trans hB2 hB3))
    have c23 := h2.cross h3 hv2
    have c24 := h2.cross h4 (fun k hk => Nat.lt_of_lt_of_le (hv2 k hk) hB3)
    have c34 := h3.cross h4 hv3
    refine List.pairwise_append.2 ⟨List.pairwise_append.2 ⟨List.pairwise_append.2 ⟨h1.dis, h2.dis, c12⟩, h3.dis, ?_⟩, h4.dis, ?_⟩
    · intro p hp q hq
      rcases List.mem_append.1 hp with hp | hp
      · exact c13 p hp q hq
      · exact c23 p hp q hq
    · intro p hp q hq
      rcases List.mem_append.1 hp with hp | hp
      · rcases List.mem_append.1 hp with hp | hp
        · exact c14 p hp q hq
        · exact c24 p hp q hq
      · exact c34 p hp q hq
  · simp only [kidsP, Nd.kids, List.map_append, h1.xs, h2.xs, h3.xs, h4.xs]
  · rw [Kd]
    exact ⟨hz, ⟨h1.rw m1 (Nat.le_refl _) hk, KdL_of fun y h => hy y (by simp [Nd.kids, h])⟩, ⟨h2.rw m2 hB1 hk, KdL_of fun y h => hy y (by simp [Nd.kids, h])⟩, ⟨h3.rw m3 (Nat.le_trans hB1 hB2) hk, KdL_of fun y h => hy y (by simp [Nd.kids, h])⟩, h4.rw m4 (Nat.le_trans (Nat.le_trans hB1 hB2) hB3) hk, KdL_of fun y h => hy y (by simp [Nd.kids, h])⟩
  · obtain ⟨l1, a1, a2, a3, a4⟩ := fin_seg h1 m1 fun p hp => hf p (by simp [kidsP, hp])
    obtain ⟨l2, b1, b2, b3, b4⟩ := fin_seg h2 m2 fun p hp => hf p (by simp [kidsP, hp])
    obtain ⟨l3, c1, c2, c3, c4⟩ := fin_seg h3 m3 fun p hp => hf p (by simp [kidsP, hp])
    obtain ⟨l4, d1, d2, d3, d4⟩ := fin_seg h4 m4 fun p hp => hf p (by simp [kidsP, hp])
    refine ⟨.st k n ty nm ve' va' vb' vc' l1 l2 l3 l4 0, ⟨hc, by rw [Kd]; exact ⟨hz, ⟨a1, a2⟩, ⟨b1, b2⟩, ⟨c1, c2⟩, d1, d2⟩⟩, NT.mk _ rfl fun y hy => ?_, by simp only [bareN, a4, b4, c4, d4]⟩
    simp only [Nd.kids, List.mem_append] at hy
    rcases hy with ((hy | hy) | hy) | hy
    · exact a3 y hy
    · exact b3 y hy
    · exact c3 y hy
    · exact d3 y hy
theorem ok_mt {w w' : World} {b o B1 : Nat} {s c : Bool} {ty nm : ByteArray} {vp vp' v v' : Value} {ps : List Prm} {l : List Nd} (ho : w'.ownsRow w.heap.size 97 2 vp' ps.length (cellsP ps)) (hv : ∀ k, vp'.ownBlock = some k → k < B1) (hs : Seg w' B1 .st v' l) (hB : w.heap.size ≤ B1)
    (hm : l.length ≤ 1000000) (hp : ps.length ≤ 1000000) (hps : ∀ x ∈ ps, x.1.size ≤ maxLen ∧ x.2.size ≤ maxLen) (hz : ty.size ≤ maxLen ∧ nm.size ≤ maxLen) :
    KidsOk w w' b o (.mt s c ty nm vp ps v l) (.mt s c ty nm vp' ps v' l) := by
  have hpw : ∀ ws, (∀ k j u, w.heap.size ≤ k → vp'.ownBlock = some k → w'.cell? ⟨k, j, none⟩ = some u → ws.cell? ⟨k, j, none⟩ = some u) → Pw ws vp' ps := by
    intro ws hk
    rcases Nat.eq_zero_or_pos ps.length with h0 | h0
    · have hl : ps = [] := List.eq_nil_of_length_eq_zero h0
      subst hl
      obtain ⟨A, cap, rfl, _⟩ := own_form ho
      exact ⟨A, cap, rfl, by unfold maxLen; simp, by simp, fun h => by simp at h⟩
    · obtain ⟨g, cap, rfl, hgb, hgl, hat⟩ := own_row ho h0
      refine ⟨_, cap, rfl, by unfold maxLen; omega, hps, fun _ => ⟨g, 0, rfl, fun i x hx => ?_⟩⟩
      obtain ⟨e1, e2⟩ := cellsP_get ps i x hx
      simp only [Nat.zero_add]
      exact ⟨hk g _ _ hgb rfl (hat _ _ e1).1, hk g _ _ hgb rfl (hat _ _ e2).1⟩
  refine ⟨hs.kraw hB, hs.dis, hs.xs, rfl, fun w'' hk hy => ?_, fun ws hc hf hn => ?_⟩
  · rw [Kd]
    refine ⟨hz, hpw w'' fun k j u hkb hkk hu => ?_, hs.rw hm hB hk, KdL_of hy⟩
    exact (World.cell?_of_block (hk k hkb (ho.lt k hkk).2)).trans hu
  · obtain ⟨l', h1, h2, h3, h4⟩ := fin_seg hs hm hf
    have hpf : Pw ws vp' ps := hpw ws fun k j u hkb hkk hu => hn k j u hkb hu fun q hq => by
      obtain ⟨_, hq2, _, _⟩ := hs.raw q hq
      have := hv k hkk
      omega
    exact ⟨.mt s c ty nm vp' ps v' l', ⟨hc, by rw [Kd]; exact ⟨hz, hpf, h1, h2⟩⟩, NT.mk _ trivial h3, by simp only [bareN, h4]⟩
theorem own_setCells {b base e sz n : Nat} {v : Value} {xs : List Value} : ∀ (us : List Value) (o : Nat) {w : World}, w.ownsRow base e sz v n xs → b < base → (w.setCells b o us).ownsRow base e sz v n xs
  | [], _, _, h, _ => h
  | u :: us, o, w, h, hb => own_setCells us (o + 1) (ownsRow_setCell_below h (by simpa using hb) u) hb
theorem grown_setCells (b : Nat) : ∀ (us : List Value) (o : Nat) (w : World), w.grownBy (w.setCells b o us) (some b)
  | [], _, w => grown_refl w _
  | u :: us, o, w => (grown_set_at w b o u).trans (grown_setCells b us (o + 1) _)
def StripSaid (w : World) (b o : Nat) (x : Nd) (e : Ending) (w' : World) : Prop :=
  e = .returned (.tuple #[]) ∧ ∃ x', KidsOk w w' b o x x' ∧ w.grownBy w' (some b) ∧ (∀ j u, (cellsN x')[j]? = some u → w'.cell? ⟨b, o + j, none⟩ = some u) ∧ (∀ j, (j < o ∨ o + x.tag.sz ≤ j) → w'.cell? ⟨b, j, none⟩ = w.cell? ⟨b, j, none⟩) ∧ ∀ j, w'.frozen? ⟨b, j, none⟩ = w.frozen? ⟨b, j, none⟩
theorem strip_said {w w1 : World} {b o : Nat} {x x' : Nd} (hb : Below w.heap.size w w1) (hr : Raw w ⟨b, o, x⟩) (ht : x'.tag = x.tag) (hok : KidsOk w (w1.setCells b o (cellsN x')) b o x x') : StripSaid w b o x (.returned (.tuple #[])) (w1.setCells b o (cellsN x')) := by
  have hlt : b < w.heap.size := hr.lt
  have hl : (cellsN x').length = (cellsN x).length := by rw [cells_len, cells_len, ht]
  refine ⟨rfl, x', hok, (grown_below hb).trans (grown_setCells b _ o w1), fun j u hu => ?_, fun j hj => ?_, fun j => ?_⟩
  · obtain ⟨hj, e⟩ := List.getElem?_eq_some_iff.1 hu
    rw [World.cell?_setCells_in b (cellsN x') o w1 (fun i hi => ?_) j hj, e]
    rw [hb.cell (p := ⟨b, o + i, none⟩) hlt, (hr i _ (List.getElem?_eq_getElem (by rw [← hl]; exact hi))).1]; rfl
  · rw [World.cell?_setCells_out b _ o w1 _ (fun _ _ => by rw [hl, cells_len]; exact hj), hb.cell (p := ⟨b, j, none⟩) hlt]
  · rw [World.frozen?_setCells, hb.frozen (p := ⟨b, j, none⟩) hlt]
end Go.Proofs.Ytlpddmncgmhkeaa
