/- field.Check: it is silent just if kin is and all fields may be. -/
import Derived.Test.YteogphbdpjnjoaaGreatHrD
set_option linter.unusedSimpArgs false
set_option linter.unusedVariables false
namespace Go.Proofs.YteogphbdpjnjoaaGreat
open Go.RowKit Go.Maps Go.WideMaps
/-- All classes' fields may be. -/
def FsTo (cs : List Hdr) (l : List Cls) (k : Nat) : Prop := ∀ j c, j < k → l[j]? = some c → FOk cs c.2
theorem FsTo.step {cs : List Hdr} {l : List Cls} {k : Nat} {x : Cls} (h : FsTo cs l k) (hx : l[k]? = some x) (e : FOk cs x.2) : FsTo cs l (k + 1) := fun j d hj hd => by
  by_cases hk : j < k
  · exact h j d hk hd
  · obtain rfl : j = k := by omega
    rw [hx] at hd; injection hd with hd; rw [← hd]; exact e
def FsOk (l : List Cls) : Prop := GoodH (l.map (·.1)) ∧ FsTo (l.map (·.1)) l l.length
def FChP (l : List Cls) (w : World) (e : Ending) (w' : World) : Prop := ∃ a b : Int, e = .returned (.tuple #[.int .i64 a, .int .i64 b]) ∧ (a = 0 ↔ FsOk l) ∧ Below w.heap.size w w'
theorem fch_bad {l : List Cls} {w W : World} {a b : Int} (h : a ≠ 0) (hn : ¬ FsOk l) (hb : Below w.heap.size w W) : FChP l w (.returned (.tuple #[.int .i64 a, .int .i64 b])) W := ⟨a, b, rfl, ⟨fun e => absurd e h, fun g => absurd g hn⟩, hb⟩
set_option maxRecDepth 100000 in
set_option maxHeartbeats 8000000 in
theorem fieldCheck_any (w : World) (v : Value) (l : List Cls) (h : PgF w v l) : Calls Tryz.prog 22 #[.agg #[v]] w (FChP l w) := by
  have hX0 := Bx.new w #[v] 24
  have hb1 : Below w.heap.size w (w.alloc (.cells #[v] 24)) := (Below.refl _ _).alloc (Nat.le_refl _) _
  have HF := Lib.hid (h.below hb1)
  obtain ⟨A, cap, rfl, hcap, hbig, _, _⟩ := h
  obtain ⟨n, hn⟩ : ∃ n, l.length = n := ⟨_, rfl⟩
  have HN := Lib.hid hn
  rw [hn] at HF hcap hbig hX0 hb1 ⊢
  clear hn
  obtain ⟨W, hW⟩ : ∃ W, W = w.alloc (.cells #[.slice A n cap] 24) := ⟨_, rfl⟩
  rw [← hW] at hX0 hb1 HF
  have HW := Lib.hid hW
  have HB1 := Lib.hid hb1
  have HX0 := Lib.hid hX0
  have c0 := hX0.cell 0
  have HSO := Lib.hid (sound_any W (.slice A n cap) l HF.out)
  have HNA : Hid (∀ W', Below W.heap.size W W' → Calls Tryz.prog 39 #[.agg #[.slice A n cap]] W' fun e w' => ∃ m, e = .returned (.map (some m)) ∧ OwnsB w' m l.length (l.map (·.1.1)) ∧ m < w'.heap.size ∧ Below W'.heap.size W' w') := Lib.hid fun W' hb => names_any W' _ l (HF.out.below hb)
  clear hW hb1 hX0
  go_enter Tryz.func22, Tryz.ntmps22
  go_upto_region 1 with (fail)
  rw [← HW.out]
  go_upto_region 2 with (go_at_call 38; refine HSO.out.mono ?_; clear HSO; rintro e w2 ⟨q, rfl, hq, hb⟩; have HB2 := Lib.hid hb; have HQ := Lib.hid hq; have c0' := (HX0.out.next hb).cell 0; clear hb hq c0)
  · cases q
    · go_wp2_with fail
      go_ret2
      exact fch_bad (by decide) (fun g => by have := HQ.out.2 g.1; cases this) (HB1.out.trans (HB2.out.mono HB1.out.size))
    · rename_i hx; simp at hx
  · cases q
    · rename_i hx; simp at hx
    · have HGD : Hid (GoodH (l.map (·.1))) := Lib.hid (HQ.out.1 rfl)
      clear HQ
      refine (HNA.out _ HB2.out).mono ?_
      clear HNA
      rintro e w3 ⟨m, rfl, ho, hm, hb⟩
      have HO := Lib.hid ho
      have HB3 := Lib.hid (HB2.out.trans (hb.mono HB2.out.size))
      have hlc : l.map (·.1.1) = (l.map (·.1)).map (·.1) := by rw [List.map_map]; rfl
      have HLC := Lib.hid hlc
      clear ho hb hlc c0'
      have c0 := (HX0.out.next HB3.out).cell 0
      go_wp2_with fail
      go_loopw [15] (fun v15 wr => ∃ k : Nat, k ≤ n ∧ v15 = .int .i64 k ∧ Below w3.heap.size w3 wr ∧ Hid (FsTo (l.map (·.1)) l k)) (fun v15 _ => n - (intOf v15).toNat)
      case atStart => exact ⟨0, Nat.zero_le _, rfl, Below.refl _ _, Lib.hid (fun j x h => by omega)⟩
      case round =>
        obtain ⟨k, hk, rfl, hB, hT⟩ := hrel
        have hBW : Below W.heap.size W wr := HB3.out.trans (hB.mono HB3.out.size)
        clear c0
        have c0 := (HX0.out.next hBW).cell 0
        by_cases hlt : k < n
        · obtain ⟨x, hx⟩ : ∃ x, l[k]? = some x := ⟨l[k]'(by rw [HN.out]; exact hlt), List.getElem?_eq_getElem _⟩
          obtain ⟨b, o, e, _, a0, a1, A2, n2, k2, A3, n3, k3, a2, hfr, a3⟩ := (HF.out.below hBW).at_ hx
          subst e
          have HX := Lib.hid hx
          have HCK := Lib.hid (check_any wr b (o + k * 4) _ x.2 m l.length (l.map (·.1)) a2 hfr (by have := HO.out.below hB; rw [HLC.out] at this; exact this))
          unfold FCkP at HCK
          have HBk := Lib.hid hBW
          have HB4 := Lib.hid hB
          clear hx a0 a1 a2 a3 hfr hB hBW
          obtain ⟨p, hp⟩ : ∃ p, o + k * 4 = p := ⟨_, rfl⟩
          rw [hp] at HCK
          go_wp2_with (go_at_call 40; refine HCK.out.mono ?_; clear HCK; rintro e w6 ⟨a, rfl, ha, hb⟩; have HA := Lib.hid ha; have HB6 := Lib.hid (HB4.out.trans (hb.mono HB4.out.size)); clear ha hb)
          · have hz : (a != 0) = true := by assumption
            have hz2 : a ≠ 0 := by simpa using hz
            have h6 := HB3.out.trans (HB6.out.mono HB3.out.size)
            go_ret2
            exact fch_bad hz2 (fun g => hz2 (HA.out.2 (g.2 k x (by rw [HN.out]; exact hlt) HX.out))) (HB1.out.trans (h6.mono HB1.out.size))
          · have hz : (a != 0) = false := by assumption
            have hz2 : a = 0 := by simpa using hz
            have hN : Hid (FsTo (l.map (·.1)) l (k + 1)) := Lib.hid (hT.out.step HX.out (HA.out.1 hz2))
            first
              | exact ⟨⟨k + 1, by omega, by go_num, HB6.out, hN⟩, by simp [intOf]; omega⟩
              | (go_roundw
                 case rel => exact ⟨k + 1, by omega, by go_num, HB6.out, hN⟩
                 case measure => simp [intOf]; omega)
        · have HG : Hid (FsOk l) := Lib.hid ⟨HGD.out, by rw [show l.length = k by rw [HN.out]; omega]; exact hT.out⟩
          have HBk := Lib.hid hBW
          clear hT hB hBW
          go_wp2_with fail
          go_ret2
          exact ⟨0, 0, rfl, ⟨fun _ => HG.out, fun _ => rfl⟩, HB1.out.trans (HBk.out.mono HB1.out.size)⟩
end Go.Proofs.YteogphbdpjnjoaaGreat
