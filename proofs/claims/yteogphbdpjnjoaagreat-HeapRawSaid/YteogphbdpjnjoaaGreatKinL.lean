/- kin: Chain, Find. -/
import Derived.Test.YteogphbdpjnjoaaGreatKinK
set_option linter.unusedSimpArgs false
set_option linter.unusedVariables false
namespace Go.Proofs.YteogphbdpjnjoaaGreat
open Go.RowKit
theorem Tryz.infoStrK : (Tryz.prog.info? 9).map (fun i => (i.zero, i.size, i.bytes)) = some (some (.string ⟨#[]⟩), 1, 16) := by kernel_rfl
def nameOf (ps : List Hdr) (i : Nat) : ByteArray := match ps[i]? with
  | some h => h.1
  | none => ⟨#[]⟩
theorem nameOf_at {ps : List Hdr} {i : Nat} {h : Hdr} (hx : ps[i]? = some h) : nameOf ps i = h.1 := by unfold nameOf; rw [hx]
def strsV (l : List ByteArray) : List Value := l.map fun s => .string s
theorem strsV_snoc (l : List ByteArray) (s : ByteArray) : strsV (l ++ [s]) = strsV l ++ [.string s] := by simp [strsV]
theorem strsV_at {l : List ByteArray} {k : Nat} {s : ByteArray} (h : l[k]? = some s) : (strsV l)[k]? = some (.string s) := by simp [strsV, h]
def namesL (ps : List Hdr) (l : List Nat) : List ByteArray := l.map (nameOf ps)
def ChainP (cs : List Hdr) (s : ByteArray) (w : World) (e : Ending) (w' : World) : Prop := ∃ v l, e = .returned v ∧ Ch (famL cs) (plc (famL cs) s) l ∧ w'.ownsRow w.heap.size 9 1 v l.length (strsV (namesL (famL cs) l)) ∧ Below w.heap.size w w'
/-- Behind a world W a row of texts grows. -/
structure TxR (W : World) (v6 : Value) (l : List ByteArray) (wr : World) : Prop where
  bel : Below W.heap.size W wr
  own : wr.ownsRow W.heap.size 9 1 v6 l.length (strsV l)
theorem TxR.next {W : World} {v6 : Value} {l : List ByteArray} {wr w' : World} (h : TxR W v6 l wr) (hb : Below wr.heap.size wr w') : TxR W v6 l w' := ⟨h.bel.trans (hb.mono h.bel.size), own_next h.own hb⟩
theorem TxR.more {W : World} {v6 v' : Value} {l : List ByteArray} {wr w3 : World} {s : ByteArray} {o : Obj} (h : TxR W v6 l wr) (hown : w3.ownsRow W.heap.size 9 1 v' (l.length + 1) (strsV l ++ [.string s])) (hg : (wr.alloc o).grownBy w3 v6.ownBlock) : TxR W v' (l ++ [s]) w3 := by
  refine ⟨(h.bel.alloc h.bel.size o).grown hg (by have := h.bel.size; simp; omega) (fun k hk => (h.own.lt k hk).1), ?_⟩
  rw [strsV_snoc, List.length_append]; exact hown
set_option maxRecDepth 100000 in
set_option maxHeartbeats 8000000 in
theorem kchain_any {w : World} {v : Value} {cs : List Hdr} (h : Cl w v cs) (hs : SmK cs) (s : ByteArray) : Calls Tryz.prog 124 #[.agg #[v], .string s] w (ChainP cs s w) := by
  have hb1 : Below w.heap.size w (w.alloc (.cells #[v] 24)) := (Below.refl _ _).alloc (Nat.le_refl _) _
  have HC := Lib.hid h
  have HSm := Lib.hid hs.fam
  obtain ⟨A, cap0, rfl, _⟩ := h
  clear hs
  go_enter Tryz.func124, Tryz.ntmps124
  go_wp2_with (go_at_call 90; refine (family_any (cl_below HC.out hb1)).mono ?_; rintro e w1 ⟨fv, rfl, hF, hb⟩; replace hb1 := hb1.trans (hb.mono hb1.size); clear hb; obtain ⟨g, cap, rfl, hcap, h5, h64, hg, hx⟩ := fam_new hF; have HF := Lib.hid hF; have HX := Lib.hid hx; clear hF hx)
  have hbA : Below w1.heap.size w1 (w1.alloc (.cells #[.slice (some ⟨g, 0, none⟩) (famL cs).length cap, .int .i64 5, .map none] 163)) := (Below.refl _ _).alloc (Nat.le_refl _) _
  refine (chain_any (HF.out.keep (KeepC.below hbA)) s).mono ?_
  rintro e W ⟨vl, l, rfl, hol, hch, hb2⟩
  have hX := (Bx.new w1 #[.slice (some ⟨g, 0, none⟩) (famL cs).length cap, .int .i64 5, .map none] 163).next hb2
  have hbB : Below w1.heap.size w1 W := hbA.trans (hb2.mono hbA.size)
  have hb3 : Below w.heap.size w W := hb1.trans (hbB.mono hb1.size)
  have HXW : Hid (∀ i x, (famL cs)[i]? = some x → ∃ u, W.cell? ⟨g, i, none⟩ = some u ∧ HdV W u x) := Lib.hid fun i x hi => by
    obtain ⟨u, h1, h2⟩ := HX.out i x hi
    exact ⟨u, KeepC.below hbB _ _ h1, h2.keep (KeepC.below hbB)⟩
  have HOL := Lib.hid hol
  have HCH := Lib.hid hch
  have hsm := hch.small h64
  obtain ⟨Al, cl, rfl, hcl⟩ := own_form hol
  obtain ⟨m, hm⟩ : ∃ m, l.length = m := ⟨_, rfl⟩
  have HM := Lib.hid hm
  have hm100 : m ≤ 100 := by rw [← hm]; exact hsm.1
  have HB := Lib.hid hX
  rw [hm] at hcl ⊢
  clear hbA hb2 hb1 hbB hol hch hX hm hsm
  have c0 := HB.out.cell 0
  go_wp2_with fail
  go_loopw [6, 17] (fun v6 v17 wr => ∃ k : Nat, v17 = .int .i64 k ∧ k ≤ m ∧ TxR W v6 (namesL (famL cs) (l.take k)) wr) (fun v6 v17 wr => m - (intOf v17).toNat)
  case atStart => exact ⟨0, rfl, Nat.zero_le _, ⟨Below.refl _ _, World.ownsRow_nil _ _ _ _⟩⟩
  case round =>
    obtain ⟨k, rfl, hk, hR⟩ := hrel
    clear c0
    by_cases hlt : k < m
    · obtain ⟨x, hxk⟩ : ∃ x, l[k]? = some x := ⟨l[k]'(by rw [HM.out]; exact hlt), List.getElem?_eq_getElem _⟩
      have hxn : x < (famL cs).length := by
        have hl := (List.getElem?_eq_some_iff.1 hxk).1
        exact ((HCH.out.mem_iff (plc_le _ _)).1 (List.mem_of_getElem? hxk)).1
      obtain ⟨h, hxf⟩ : ∃ h, (famL cs)[x]? = some h := ⟨(famL cs)[x]'hxn, List.getElem?_eq_getElem _⟩
      obtain ⟨u, hu, hd⟩ := HXW.out x h hxf
      have hu2 := KeepC.below hR.bel _ _ hu
      have hsz : h.1.size ≤ 16777216 := by have := (HSm.out h (List.mem_of_getElem? hxf)).1; omega
      have HN : Hid (namesL (famL cs) (l.take (k + 1)) = namesL (famL cs) (l.take k) ++ [h.1]) := Lib.hid (by
        unfold namesL; rw [List.take_add_one, hxk]; simp [nameOf_at hxf])
      have hlen : (namesL (famL cs) (l.take k)).length ≤ 100 := by unfold namesL; simp; omega
      obtain ⟨gl, rfl⟩ : ∃ gl, Al = some ⟨gl, 0, none⟩ := by
        rcases HOL.out.2 with ⟨e, e2⟩ | ⟨gl, c', cur, e, _⟩
        · have := HM.out; omega
        · injection e with e _ _; exact ⟨gl, e⟩
      have e0 : wr.cell? ⟨gl, k, none⟩ = some (.int .i64 x) := by
        refine KeepC.below hR.bel _ _ ?_
        have hO := HOL.out
        rw [HM.out] at hO
        rw [hO.cellAt k (by omega)]; exact intsV_at hxk
      have hB := HB.out.next hR.bel
      have c0 := hB.cell 0
      obtain ⟨h1, h2⟩ := h
      have hd2 := Lib.hid (head_any (hd.keep (KeepC.below hR.bel)))
      have hxn2 : (x : Int) < (famL cs).length := by omega
      clear hxk hxf hd hu hB
      obtain ⟨nl, hnl⟩ : ∃ nl, namesL (famL cs) (l.take k) = nl := ⟨_, rfl⟩
      rw [hnl] at hR HN hlen
      clear hnl
      go_wp2_with (go_at_call 128; refine hd2.out.mono ?_; rintro e w5 ⟨rfl, hb5⟩; have hR5 := hR.next hb5; clear hb5 hR hd2)
      obtain ⟨ii, hii, hiz, his, hib⟩ := info_parts Tryz.infoStrK
      go_wp2_with (first | (go_at_call 29; refine (cloneK_any _ _ hsz).mono ?_; rintro e w6 ⟨rfl, hb6⟩; have hR6 := hR5.next hb6; clear hb6 hR5) | (at_builtin; refine wpList_append_own _ rfl (.tmp 30) (.tmp 33) 118 rfl W.heap.size 9 ii _ 1 16 Tryz.underlying118 hii hiz his hib rfl (by decide) _ nl.length (strsV nl) rfl (hR6.own.alloc _) ⟨w6.heap.size, 0, none⟩ 1 1 [.string h1] rfl rfl (cell_one_newK _ _ _) ?c1 ?c2 ?c3 ?c4 ?_))
      case c1 => first | rfl | (intro u hu; simp at hu; subst hu; rfl)
      case c2 => unfold maxLen; omega
      case c3 => omega
      case c4 => have := hR6.bel.size; simp; omega
      intro v' w7 hown7 hgrow _
      have hN := Lib.hid (hR6.more hown7 hgrow)
      clear hown7 hgrow hR6
      go_wp2_with fail
      go_roundw
      case rel => exact ⟨k + 1, by simp, by omega, by rw [HN.out]; exact hN.out⟩
      case measure => simp [intOf]; omega
    · have HT : Hid (l.take k = l) := Lib.hid (List.take_of_length_le (by rw [HM.out]; omega))
      rw [HT.out] at hR
      have HR := Lib.hid hR
      clear hR
      go_wp2_with fail
      go_ret
      exact ⟨_, l, rfl, HCH.out, by have := own_baseK HR.out.own hb3.size; rw [show (namesL (famL cs) l).length = l.length from by simp [namesL]] at this; exact this, hb3.trans (HR.out.bel.mono hb3.size)⟩
end Go.Proofs.YteogphbdpjnjoaaGreat
