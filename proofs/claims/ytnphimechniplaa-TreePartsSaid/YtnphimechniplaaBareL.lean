/- Contract of tree.Bare. -/
import Derived.Test.YtnphimechniplaaBareK
set_option linter.unusedSimpArgs false
set_option linter.unusedVariables false
namespace Go.Proofs.Ytnphimechniplaa
open Go.RowKit
def BareSaid (w : World) (l : List Nd) (e : Ending) (w' : World) : Prop :=
  ∃ v' l', e = .returned (.agg #[v']) ∧ Rw w' .cl v' l' ∧ KdL w' l' ∧ (∀ x ∈ l', NT x) ∧ bareL l' = bareL l ∧ Below w.heap.size w w'
set_option maxRecDepth 100000 in
set_option maxHeartbeats 4000000 in
theorem bare_any (w : World) (v : Value) (l : List Nd) (hr : Rw w .cl v l) (hk : KdL w l) (hsm : ∀ x ∈ l, Sm x) (hs : sizeL l ≤ 1000000) :
    Calls Try.prog 20 #[.agg #[v]] w (BareSaid w l) := by
  have hl := len_sizeL l
  have HRN : Hid (∀ w', Below w.heap.size w w' → Calls Try.prog 35 #[v] w' (RenewSaid w' 44 4 l.length (l.flatMap cellsN))) := fun w' hb => renewed_cl w' v l (hr.keep (Keep.below hb)) (KdL.keep (Keep.below hb) _ hk) (by omega)
  have HK := Lib.hid hk
  have HRR := Lib.hid hr
  have HSM := Lib.hid hsm
  have HSZ := Lib.hid hs
  have hlm : l.length ≤ 1000000 := by omega
  clear hr hk hsm hs hl
  go_enter Try.func20, Try.ntmps20
  go_wp2_with fail
  have hx1 : Bx ((w.alloc (.cells #[v] 36)).alloc (.cells #[.slice none 0 0] 36)) w.heap.size #[v] 36 := (Bx.new _ _ _).next ((Below.refl _ _).alloc (Nat.le_refl _) _)
  have hx2 : Bx ((w.alloc (.cells #[v] 36)).alloc (.cells #[.slice none 0 0] 36)) (w.heap.size + 1) #[.slice none 0 0] 36 := by simpa using Bx.new (w.alloc (.cells #[v] 36)) #[.slice none 0 0] 36
  have hw : Below w.heap.size w ((w.alloc (.cells #[v] 36)).alloc (.cells #[.slice none 0 0] 36)) := ((Below.refl _ w).alloc (Nat.le_refl _) _).alloc (by simp) _
  have hz1 : ((w.alloc (.cells #[v] 36)).alloc (.cells #[.slice none 0 0] 36)).heap.size = w.heap.size + 2 := by simp
  generalize (w.alloc (.cells #[v] 36)).alloc (.cells #[.slice none 0 0] 36) = W1 at hx1 hx2 hw hz1 ⊢
  refine (HRN.out _ hw).mono ?_
  clear HRN
  rintro e w2 ⟨v', rfl, ho, hc⟩
  obtain ⟨A, cap, rfl, _⟩ := own_form ho
  have hsz2 := hc.size
  have c0 : w2.cell? ⟨w.heap.size, 0, none⟩ = some v := (hx1.next hc).cell 0
  have f0 := (hx1.next hc).fro 0
  have hbx3 : Bx (w2.setCell ⟨w.heap.size, 0, none⟩ (.slice A l.length cap)) w.heap.size #[.slice A l.length cap] 36 := by simpa using (hx1.next hc).set 0 (.slice A l.length cap)
  have hrs3 : Bx (w2.setCell ⟨w.heap.size, 0, none⟩ (.slice A l.length cap)) (w.heap.size + 1) #[.slice none 0 0] 36 := (Below.heap_setCell _ _ _ _ (by simp)).trans (hx2.next hc)
  have hseg : Seg (w2.setCell ⟨w.heap.size, 0, none⟩ (.slice A l.length cap)) W1.heap.size .cl (.slice A l.length cap) l := seg_of (t := .cl) (ownsRow_setCell_below ho (by simp; omega) _) (by obtain ⟨_, _, _, _, ht, _⟩ := HRR.out; exact ht)
  have hb3 : Below w.heap.size w (w2.setCell ⟨w.heap.size, 0, none⟩ (.slice A l.length cap)) := (hw.trans (hc.mono hw.size)).setCell (Nat.le_refl _) _
  have d40 : (w2.setCell ⟨w.heap.size, 0, none⟩ (.slice A l.length cap)).cell? ⟨w.heap.size, 0, none⟩ = some (.slice A l.length cap) := hbx3.cell 0
  have hADD := add_cl (w2.setCell ⟨w.heap.size, 0, none⟩ (.slice A l.length cap)) w.heap.size (.slice none 0 0) [] (.slice A l.length cap) l hb3.size (by simpa using World.ownsRow_nil (w2.setCell ⟨w.heap.size, 0, none⟩ (.slice A l.length cap)) w.heap.size 78 1) (hseg.rw (w := W1) hlm (Nat.le_refl _) (fun _ _ _ => rfl)) (by simp only [List.length_nil]; omega)
  have HADD := Lib.hid hADD
  have HSEG := Lib.hid hseg
  have HBX := Lib.hid hbx3
  have HRS := Lib.hid hrs3
  have HB3 := Lib.hid hb3
  clear hADD hseg hbx3 hrs3 hb3 hx1 hx2 ho hc
  go_wp2_with fail
  generalize w2.setCell ⟨w.heap.size, 0, none⟩ (.slice A l.length cap) = w3 at HADD HSEG HBX HRS HB3 d40 ⊢
  refine HADD.out.mono ?_
  clear HADD d40 c0 f0
  rintro e w4 ⟨v4, rfl, ho4, hg4⟩
  have hb4 := hg4.of_nil rfl
  have hv4 : ∀ k, v4.ownBlock = some k → w3.heap.size ≤ k := by
    intro k hk
    rcases hg4.2 with e | e
    · rw [e] at hk; simp [Value.ownBlock] at hk
    · exact e k hk
  have hrl := HRS.out.lt
  have hbl := HBX.out.lt
  have hBI : BI w (fun ws => (∃ l', Rw ws .cl (.slice A l.length cap) l' ∧ KdL ws l' ∧ (∀ x ∈ l', NT x) ∧ bareL l' = bareL l) ∧ ws.cell? ⟨w.heap.size, 0, none⟩ = some (.slice A l.length cap)) (w.heap.size + 1) (some (.cells #[.slice none 0 0] 36 (0, 0))) (ptsV .cl (.slice A l.length cap) l) v4 w4 := by
    refine ⟨by simpa using ho4, HB3.out.trans (hb4.mono HB3.out.size), fun p hp => ?_, HRS.out.next hb4, Nat.lt_of_lt_of_le hrl hb4.size, fun e => by have := hv4 _ e.symm; omega, HSEG.out.dis, ?_, fun ws hkp hfin => ⟨fin_seg HSEG.out hlm hfin, ?_⟩⟩
    · obtain ⟨r1, r2, r3, _⟩ := HSEG.out.raw p hp
      have hxm : p.x ∈ l := by rw [← HSEG.out.xs]; exact List.mem_map_of_mem hp
      exact ⟨r1.keep (hb4.block p.b r3), KdL_mem HK.out _ hxm, HSM.out _ hxm, by omega, fun e => by have := hv4 _ e.symm; omega, by omega⟩
    · rw [sizeP, HSEG.out.xs]; exact HSZ.out
    · refine hkp w.heap.size 0 _ (by omega) ((HBX.out.next hb4).cell 0) (fun p hp => ?_) (fun e => by have := hv4 _ e.symm; omega)
      rintro ⟨e, _, _⟩
      obtain ⟨_, r2, _, _⟩ := HSEG.out.raw p hp
      omega
  have HEACH := Lib.hid (each_strip w w4 _ (w.heap.size + 1) _ _ v4 hBI)
  clear hBI ho4 hg4 hb4 hv4
  go_wp2_with fail
  refine HEACH.out.mono ?_
  clear HEACH
  rintro e w5 ⟨rfl, hb5, hr5, v5, hv5, hG⟩
  have hbx5 : Bx w5 (w.heap.size + 1) #[.slice none 0 0] 36 := hr5
  have e0 : w5.cell? ⟨w.heap.size, 0, none⟩ = some (.slice A l.length cap) := (hG w5 fun _ _ _ _ h _ _ => h).2
  have r0 : w5.cell? ⟨w.heap.size + 1, 0, none⟩ = some (.slice none 0 0) := hbx5.cell 0
  have g0 := hbx5.fro 0
  have HFIN : Hid (BareSaid w l (.returned (.agg #[.slice A l.length cap])) (w5.setCell ⟨w.heap.size + 1, 0, none⟩ (.slice A l.length cap))) := by
    obtain ⟨⟨l', h1, h2, h3, h4⟩, _⟩ := hG (w5.setCell ⟨w.heap.size + 1, 0, none⟩ (.slice A l.length cap)) fun k j u hkR hu _ _ => by
      rw [World.cell?_setCell_other _ _ _ _ (by simp <;> omega)]; exact hu
    exact ⟨_, l', rfl, h1, h2, h3, h4, hb5.setCell (by simp) _⟩
  have z0 : (w5.setCell ⟨w.heap.size + 1, 0, none⟩ (.slice A l.length cap)).cell? ⟨w.heap.size + 1, 0, none⟩ = some (.slice A l.length cap) := set_at r0
  clear hG hr5 hbx5
  go_wp2_with fail
  refine bodyPost_ret (v := .agg #[.slice A l.length cap]) (by simp [results, Try.results20, go_sem, z0]) rfl ?_
  exact HFIN.out
end Go.Proofs.Ytnphimechniplaa
