/- The document's own answers for kin (ref6): Chain, Check, Good. -/
import Derived.Test.YteogphbdpjnjoaaGreatKinX
set_option linter.unusedSimpArgs false
set_option linter.unusedVariables false
namespace Go.Proofs.YteogphbdpjnjoaaGreat
open Go.RowKit
structure RcR (ps : List Hdr) (i0 : Nat) (W : World) (v5 : Value) (pl : List Nat) (nm : ByteArray) (wr : World) : Prop where
  tx : TxR W v5 (namesL ps pl) wr
  way : Way ps i0 pl (plc ps nm)
  good : ∀ p ∈ pl, plc ps (nameOf ps p) = p
theorem name_plc {ps : List Hdr} {nm : ByteArray} (h : plc ps nm < ps.length) : nameOf ps (plc ps nm) = nm := by
  obtain ⟨x, h1, h2⟩ := plc_at ps nm h
  rw [nameOf_at h1, h2]
theorem RcR.mem {ps : List Hdr} {i0 : Nat} {W : World} {v5 : Value} {pl : List Nat} {nm : ByteArray} {wr : World} (h : RcR ps i0 W v5 pl nm wr) (hlt : plc ps nm < ps.length) : nm ∈ namesL ps pl ↔ plc ps nm ∈ pl := by
  unfold namesL
  rw [List.mem_map]
  constructor
  · rintro ⟨p, hp, e⟩
    have := h.good p hp
    rw [e] at this; rw [this]; exact hp
  · intro hp; exact ⟨_, hp, name_plc hlt⟩
theorem up_super {cs : List Hdr} {nm : ByteArray} (h : plc (famL cs) nm < (famL cs).length) : plc (famL cs) (superS cs nm) = upp (famL cs) (plc (famL cs) nm) := by
  obtain ⟨x, h1, h2⟩ := plc_at _ nm h
  rw [upp_at h1]; unfold superS; rw [h1]
def RChainP (cs : List Hdr) (i0 : Nat) (w : World) (e : Ending) (w' : World) : Prop := ∃ v pl i, e = .returned v ∧ w'.ownsRow w.heap.size 9 1 v pl.length (strsV (namesL (famL cs) pl)) ∧ Way (famL cs) i0 pl i ∧ ((famL cs).length ≤ i ∨ i ∈ pl) ∧ (∀ p ∈ pl, plc (famL cs) (nameOf (famL cs) p) = p) ∧ Below w.heap.size w w'
theorem rchain_said {cs : List Hdr} {i0 : Nat} {w W wr : World} {v : Value} {pl : List Nat} {nm : ByteArray} (hb : Below w.heap.size w W) (h : RcR (famL cs) i0 W v pl nm wr) (he : (famL cs).length ≤ plc (famL cs) nm ∨ plc (famL cs) nm ∈ pl) : RChainP cs i0 w (.returned v) wr := by
  refine ⟨v, pl, _, rfl, ?_, h.way, he, h.good, hb.trans (h.tx.bel.mono hb.size)⟩
  have := own_baseK h.tx.own hb.size
  rw [show (namesL (famL cs) pl).length = pl.length from by simp [namesL]] at this; exact this
set_option maxRecDepth 100000 in
set_option maxHeartbeats 8000000 in
theorem rchainK_any {w : World} {v : Value} {cs : List Hdr} (h : Cl w v cs) (s : ByteArray) : Calls Tryz.prog 60 #[.agg #[v], .string s] w (RChainP cs (plc (famL cs) s) w) := by
  have hX0 := Bx.new w #[v] 24
  have hb1 : Below w.heap.size w (w.alloc (.cells #[v] 24)) := (Below.refl _ _).alloc (Nat.le_refl _) _
  have HC := Lib.hid (cl_below h hb1)
  obtain ⟨A, cap0, rfl, hcap0, h59, _⟩ := h
  obtain ⟨W, hW⟩ : ∃ W, W = w.alloc (.cells #[.slice A cs.length cap0] 24) := ⟨_, rfl⟩
  rw [← hW] at hX0 hb1 HC
  have HX0 := Lib.hid hX0
  have HB1 := Lib.hid hb1
  obtain ⟨i0, hi0⟩ : ∃ i0, plc (famL cs) s = i0 := ⟨_, rfl⟩
  rw [hi0]
  have HI0 := Lib.hid hi0
  have HW := Lib.hid hW
  clear hX0 hb1 hi0 hW
  go_enter Tryz.func60, Tryz.ntmps60
  go_upto_region 1 with (fail)
  rw [← HW.out]
  go_wp2_with fail
  go_loopw [1, 5] (fun v1 v5 wr => ∃ (pl : List Nat) (nm : ByteArray), v1 = .string nm ∧ RcR (famL cs) i0 W v5 pl nm wr) (fun v1 v5 wr => (famL cs).length - lenOf v5)
  case atStart => exact ⟨[], s, rfl, ⟨⟨Below.refl _ _, World.ownsRow_nil _ _ _ _⟩, by rw [HI0.out]; exact Way.nil _ _, by simp⟩⟩
  case round =>
    obtain ⟨pl, nm, rfl, hR⟩ := hrel
    have hBW := hR.tx.bel
    have c0 := (HX0.out.next hBW).cell 0
    have HIS := Lib.hid (risK_any (cl_below HC.out hBW) nm)
    have hlen : pl.length ≤ 64 := by have := hR.way.len; rw [famL_len] at this; omega
    have hlen2 : (namesL (famL cs) pl).length ≤ 1000 := by simp [namesL]; omega
    cases hc : isCk cs nm
    · rw [hc] at HIS
      have HE : Hid ((famL cs).length ≤ plc (famL cs) nm) := Lib.hid (by unfold isCk at hc; have := of_decide_eq_false hc; omega)
      have HR := Lib.hid hR
      clear hR hc hBW
      go_wp2_with (go_at_call 37; refine HIS.out.mono ?_; rintro e w1 ⟨rfl, hb⟩; have HR2 : Hid (RcR (famL cs) i0 W u5 pl nm w1) := Lib.hid ⟨HR.out.tx.next hb, HR.out.way, HR.out.good⟩; clear hb)
      go_ret
      exact rchain_said HB1.out HR2.out (.inl HE.out)
    · rw [hc] at HIS
      have hlt : plc (famL cs) nm < (famL cs).length := by unfold isCk at hc; exact of_decide_eq_true hc
      obtain ⟨q, hq⟩ : ∃ q, inB nm (namesL (famL cs) pl) = q := ⟨_, rfl⟩
      have HQ := Lib.hid hq
      have HR := Lib.hid hR
      have hlt2 := Lib.hid hlt
      have hM := Lib.hid (own_lenOf hR.tx.own)
      clear hR hc hBW hq hlt
      cases q
      · have HIN : Hid (¬ plc (famL cs) nm ∈ pl) := Lib.hid (fun hm => by
          have := HQ.out
          rw [inB_iff.2 ((HR.out.mem hlt2.out).2 hm)] at this; cases this)
        have hway := Lib.hid (HR.out.way.step hlt2.out HIN.out)
        have hnm : Hid (namesL (famL cs) (pl ++ [plc (famL cs) nm]) = namesL (famL cs) pl ++ [nm]) := Lib.hid (by simp [namesL, name_plc hlt2.out])
        have hgd : Hid (∀ p ∈ pl ++ [plc (famL cs) nm], plc (famL cs) (nameOf (famL cs) p) = p) := Lib.hid (fun p hp => by
          rcases List.mem_append.1 hp with h | h
          · exact HR.out.good p h
          · rw [List.mem_singleton.1 h, name_plc hlt2.out])
        have hl64' := hway.out.len
        go_wp2_with (go_at_call 37; refine HIS.out.mono ?_; rintro e w1 ⟨rfl, hb⟩; have htx := HR.out.tx.next hb; clear hb c0)
        refine (inK_any htx.own hlen2 nm).mono ?_
        rintro e w1 ⟨rfl, rfl⟩
        rw [HQ.out]
        obtain ⟨nl, hnl⟩ : ∃ nl, namesL (famL cs) pl = nl := ⟨_, rfl⟩
        rw [hnl] at htx hnm hlen2 hM
        clear hnl
        obtain ⟨ii, hii, hiz, his, hib⟩ := info_parts Tryz.infoStrK
        go_wp2_with (at_builtin; refine wpList_append_own _ rfl (.tmp 15) (.tmp 17) 118 rfl W.heap.size 9 ii _ 1 16 Tryz.underlying118 hii hiz his hib rfl (by decide) u5 nl.length (strsV nl) rfl (htx.own.alloc _) ⟨w1.heap.size, 0, none⟩ 1 1 [.string nm] rfl rfl (cell_one_newK _ _ _) ?c1 ?c2 ?c3 ?c4 ?_)
        case c1 => first | rfl | (intro u hu; simp at hu; subst hu; rfl)
        case c2 => unfold maxLen; omega
        case c3 => omega
        case c4 => have := htx.bel.size; simp; omega
        intro v' w3 hown3 hgrow _
        have hN := htx.more hown3 hgrow
        clear hown3 hgrow htx
        have c0 := (HX0.out.next hN.bel).cell 0
        go_wp2_with (go_at_call 61; refine (rsuperK_any (cl_below HC.out hN.bel) nm).mono ?_; rintro e w4 ⟨rfl, hb4⟩)
        have hN4 := hN.next hb4
        rw [← hnm.out] at hN4
        go_roundw
        case rel => exact ⟨_, superS cs nm, rfl, ⟨hN4, by rw [up_super hlt2.out]; exact hway.out, hgd.out⟩⟩
        case measure => rw [hM.out, own_lenOf hN.own]; have := hnm.out; simp at hl64' ⊢; have e3 : nl.length = pl.length := by have := congrArg List.length hnm.out; simp [namesL] at this; omega
                        omega
      · have HIN : Hid (plc (famL cs) nm ∈ pl) := Lib.hid ((HR.out.mem hlt2.out).1 (inB_iff.1 HQ.out))
        go_wp2_with (go_at_call 37; refine HIS.out.mono ?_; rintro e w1 ⟨rfl, hb⟩; have htx := HR.out.tx.next hb; clear hb c0)
        refine (inK_any htx.own hlen2 nm).mono ?_
        rintro e w1 ⟨rfl, rfl⟩
        rw [HQ.out]
        have HR2 : Hid (RcR (famL cs) i0 W u5 pl nm w1) := Lib.hid ⟨htx, HR.out.way, HR.out.good⟩
        clear htx
        go_wp2_with fail
        go_ret
        exact rchain_said HB1.out HR2.out (.inr HIN.out)
end Go.Proofs.YteogphbdpjnjoaaGreat
