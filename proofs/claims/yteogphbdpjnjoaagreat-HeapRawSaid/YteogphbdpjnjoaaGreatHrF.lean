/- The document's own answers for fields (ref6): class, OwnField, Type. -/
import Derived.Test.YteogphbdpjnjoaaGreatHrE
set_option linter.unusedSimpArgs false
set_option linter.unusedVariables false
namespace Go.Proofs.YteogphbdpjnjoaaGreat
open Go.RowKit Go.Maps Go.WideMaps
theorem below_set4 {B : Nat} {w w2 : World} (h : Below B w w2) {b : Nat} (hb : B ≤ b) (x y z u : Value) : Below B w ((((w2.setCell ⟨b, 0, none⟩ x).setCell ⟨b, 1, none⟩ y).setCell ⟨b, 2, none⟩ z).setCell ⟨b, 3, none⟩ u) := (((h.setCell hb _).setCell hb _).setCell hb _).setCell hb _
theorem good_find {cs : List Hdr} (g : GoodH cs) {i : Nat} {c : Hdr} (hc : cs[i]? = some c) : findI cs c.1 = (i : Int) := by
  have h5 := g.own i c hc
  have hb : isCk [] c.1 = false := by
    cases he : isCk [] c.1
    · rfl
    · obtain ⟨h1, h2⟩ := isC_base (cs := cs) he
      omega
  have h6 := isC_own (cs := cs) hb
  have hl := (List.getElem?_eq_some_iff.1 hc).1
  unfold findI
  rw [if_pos (by omega)]
  omega
set_option maxRecDepth 100000 in
set_option maxHeartbeats 8000000 in
theorem rclass_at (w : World) (v : Value) (l : List Cls) (h : PgF w v l) (s : ByteArray) (k : Nat) (c : Cls) (hf : findI (l.map (·.1)) s = (k : Int)) (hc : l[k]? = some c) :
    Calls Tryz.prog 36 #[.agg #[v], .string s] w fun e w' => ∃ (A2 : Option Addr) (n2 k2 : Nat) (A3 : Option Addr) (n3 k3 : Nat), e = .returned (.agg #[.string c.1.1, .string c.1.2, .slice A2 n2 k2, .slice A3 n3 k3]) ∧ FrV w' (.slice A2 n2 k2) c.2 ∧ Below w.heap.size w w' := by
  have hlt := (List.getElem?_eq_some_iff.1 hc).1
  have hX0 := Bx.new w #[v] 24
  have hb1 : Below w.heap.size w (w.alloc (.cells #[v] 24)) := (Below.refl _ _).alloc (Nat.le_refl _) _
  obtain ⟨W, hW⟩ : ∃ W, W = (w.alloc (.cells #[v] 24)).alloc (.cells #[.string ⟨#[]⟩, .string ⟨#[]⟩, .slice none 0 0, .slice none 0 0] 51) := ⟨_, rfl⟩
  have hbW : Below w.heap.size w W := by rw [hW]; exact hb1.alloc (by simp) _
  have hXW : Bx W w.heap.size #[v] 24 := by rw [hW]; exact hX0.next ((Below.refl _ _).alloc (Nat.le_refl _) _)
  have hYW : Bx W (w.heap.size + 1) #[.string ⟨#[]⟩, .string ⟨#[]⟩, .slice none 0 0, .slice none 0 0] 51 := by
    rw [hW]
    have := Bx.new (w.alloc (.cells #[v] 24)) #[.string ⟨#[]⟩, .string ⟨#[]⟩, .slice none 0 0, .slice none 0 0] 51
    simpa using this
  have HP := Lib.hid (h.below hbW)
  have HP0 := Lib.hid h
  obtain ⟨A, cap, rfl, hcap, hbig, _, _⟩ := h
  obtain ⟨n, hn⟩ : ∃ n, l.length = n := ⟨_, rfl⟩
  rw [hn] at HP HP0 hcap hbig hXW hlt hW ⊢
  have HFD := Lib.hid (rfindK_any HP.out.cl s)
  rw [hf] at HFD
  have HW := Lib.hid hW
  have HBW := Lib.hid hbW
  have HXW := Lib.hid hXW
  have HYW := Lib.hid hYW
  have HC := Lib.hid hc
  have c0 := hXW.cell 0
  clear hW hbW hYW hXW hX0 hb1 hc hf hn
  go_enter Tryz.func36, Tryz.ntmps36
  go_upto_region 1 with (fail)
  rw [← HW.out]
  go_upto_region 2 with (go_at_call 59; refine HFD.out.mono ?_; clear HFD; rintro e w2 ⟨rfl, hb⟩; have HB2 := Lib.hid hb; clear hb c0)
  have c0 := (HXW.out.next HB2.out).cell 0
  have HY2 := Lib.hid (HYW.out.next HB2.out)
  have HB3 := Lib.hid (HBW.out.trans (HB2.out.mono HBW.out.size))
  obtain ⟨b, o, e, _, a0', a1', A2, n2, k2, A3, n3, k3, a2', hfr, a3'⟩ := HP0.out.at_ HC.out
  subst e
  have HFR := Lib.hid hfr
  have a0 := KeepC.below HB3.out _ _ a0'
  have a1 := KeepC.below HB3.out _ _ a1'
  have a2 := KeepC.below HB3.out _ _ a2'
  have a3 := KeepC.below HB3.out _ _ a3'
  have g0 := HY2.out.fro 0
  have g1 := HY2.out.fro 1
  have g2 := HY2.out.fro 2
  have g3 := HY2.out.fro 3
  have y0 := HY2.out.cell 0
  have y1 := HY2.out.cell 1
  have y2 := HY2.out.cell 2
  have y3 := HY2.out.cell 3
  have hlY := HY2.out.lt
  have HWs : Hid (w.heap.size + 1 < w2.heap.size) := Lib.hid hlY
  clear hfr a0' a1' a2' a3'
  go_wp2_with fail
  have hfin := below_set4 HB3.out (b := w.heap.size + 1) (by omega) (.string c.1.1) (.string c.1.2) (.slice A2 n2 k2) (.slice A3 n3 k3)
  refine bodyPost_ret (v := .agg #[.string c.1.1, .string c.1.2, .slice A2 n2 k2, .slice A3 n3 k3]) (by simp [results, Tryz.results36, go_sem, y0, y1, y2, y3, g0, g1, g2, g3]) rfl ⟨A2, n2, k2, A3, n3, k3, rfl, HFR.out.below hfin, hfin⟩
/-- The place of the first field of that name; -1. -/
def fldH (fs : List Fld) : List Hdr := fs.map fun x => (x.2, x.1)
theorem fldH_len (fs : List Fld) : (fldH fs).length = fs.length := by simp [fldH]
theorem fldH_at {fs : List Fld} {k : Nat} {x : Fld} (h : fs[k]? = some x) : (fldH fs)[k]? = some (x.2, x.1) := by simp [fldH, h]
set_option maxRecDepth 100000 in
set_option maxHeartbeats 8000000 in
theorem rown_at (w : World) (v : Value) (l : List Cls) (h : PgF w v l) (s fn : ByteArray) (k : Nat) (c : Cls) (hf : findI (l.map (·.1)) s = (k : Int)) (hc : l[k]? = some c) :
    Calls Tryz.prog 20 #[.agg #[v], .string s, .string fn] w fun e w' => e = .returned (.int .i64 (findI (fldH c.2) fn)) ∧ Below w.heap.size w w' := by
  have hb1 : Below w.heap.size w (w.alloc (.cells #[v] 24)) := (Below.refl _ _).alloc (Nat.le_refl _) _
  have HCL := Lib.hid (rclass_at _ v l (h.below hb1) s k c hf hc)
  have HB1 := Lib.hid hb1
  have hX0 := Bx.new w #[v] 24
  obtain ⟨W, hW⟩ : ∃ W, W = w.alloc (.cells #[v] 24) := ⟨_, rfl⟩
  rw [← hW] at HCL HB1 hX0
  have c0 := hX0.cell 0
  have HW := Lib.hid hW
  obtain ⟨A, cap, rfl, _⟩ := h
  clear hb1 hW hX0
  go_enter Tryz.func20, Tryz.ntmps20
  go_upto_region 1 with (fail)
  rw [← HW.out]
  go_upto_region 2 with (go_at_call 36; refine HCL.out.mono ?_; clear HCL; rintro e w2 ⟨A2, n2, k2, A3, n3, k3, rfl, hfr, hb⟩; have HFR := Lib.hid hfr; have HB2 := Lib.hid (HB1.out.trans (hb.mono HB1.out.size)); clear hb hfr)
  have hX3 := Bx.new w2 #[.string c.1.1, .string c.1.2, .slice A2 n2 k2, .slice A3 n3 k3] 51
  have hb3 : Below w2.heap.size w2 (w2.alloc (.cells #[.string c.1.1, .string c.1.2, .slice A2 n2 k2, .slice A3 n3 k3] 51)) := (Below.refl _ _).alloc (Nat.le_refl _) _
  obtain ⟨W3, hW3⟩ : ∃ W3, W3 = w2.alloc (.cells #[.string c.1.1, .string c.1.2, .slice A2 n2 k2, .slice A3 n3 k3] 51) := ⟨_, rfl⟩
  rw [← hW3] at hX3 hb3 ⊢
  have HF3 := Lib.hid (HFR.out.below hb3)
  have HB3 := Lib.hid (HB2.out.trans (hb3.mono HB2.out.size))
  have d2 := hX3.cell 2
  have hlB := hX3.lt
  obtain ⟨fs, hfs⟩ : ∃ fs, c.2 = fs := ⟨_, rfl⟩
  have HFS := Lib.hid hfs
  rw [hfs] at HF3
  obtain ⟨A2', cap2, e2, hc2, hb2, _, _⟩ := HF3.out
  injection e2 with e21 e22 e23
  have e22' : n2 = fs.length := by omega
  obtain rfl : k2 = cap2 := by omega
  have HM : Hid (fs.length = n2) := Lib.hid e22'.symm
  rw [← e22'] at hc2 hb2
  clear hX3 hb3 hW3 e21 e22 e23 e22' c0 hfs
  go_wp2_with fail
  go_loopw [8] (fun v8 wr => wr = W3 ∧ ∃ j : Nat, v8 = .int .i64 j ∧ j ≤ n2 ∧ Hid (plc (fldH fs) fn = j + plc ((fldH fs).drop j) fn)) (fun v8 _ => n2 - (intOf v8).toNat)
  case atStart => exact ⟨rfl, 0, rfl, Nat.zero_le _, Lib.hid (by simp)⟩
  case round =>
    obtain ⟨hw, j, rfl, hj, hE⟩ := hrel
    subst hw
    by_cases hlt : j < n2
    · obtain ⟨x, hx⟩ : ∃ x, fs[j]? = some x := ⟨fs[j]'(by rw [HM.out]; exact hlt), List.getElem?_eq_getElem _⟩
      obtain ⟨b5, o5, e5, _, st, A5, n5, k5, f0, f1, f2, f3⟩ := HF3.out.at_ hx
      subst e5
      have hck := fldH_at hx
      obtain ⟨x1, x2⟩ := x
      by_cases hq : x2 = fn
      · have HP := Lib.hid (plc_hit hE.out hck hq)
        subst hq
        clear hck hx
        go_wp2_with fail
        go_ret
        refine ⟨?_, HB3.out⟩
        rw [HFS.out]
        unfold findI
        rw [HP.out, if_pos (by rw [fldH_len, HM.out]; exact hlt)]; rfl
      · have HP := Lib.hid (plc_next hE.out hck hq)
        have hq2 := ba_ne hq
        clear hck hx hq hE
        go_wp2_with fail
        go_roundw
        case rel => exact ⟨trivial, j + 1, by simp, by omega, HP⟩
        case measure => simp [intOf]; omega
    · have HP := Lib.hid (plc_end hE.out (by rw [fldH_len, HM.out]; omega) (by rw [fldH_len, HM.out]; exact hj))
      clear hE
      go_wp2_with fail
      go_ret
      refine ⟨?_, HB3.out⟩
      rw [HFS.out]
      unfold findI
      rw [HP.out, if_neg (by omega)]; rfl
set_option maxHeartbeats 4000000 in
theorem rtype_any {w : World} {v : Value} {cs : List Hdr} (h : Cl w v cs) (t : ByteArray) : Calls Tryz.prog 21 #[.agg #[v], .string t] w fun e w' => e = .returned (.bool (typeS cs t)) ∧ Below w.heap.size w w' := by
  have hX := Bx.new w #[v] 24
  have hb1 : Below w.heap.size w (w.alloc (.cells #[v] 24)) := (Below.refl _ _).alloc (Nat.le_refl _) _
  have HI := Lib.hid (risK_any (cl_below h hb1) t)
  have HB1 := Lib.hid hb1
  obtain ⟨A, cap, rfl, _⟩ := h
  obtain ⟨r, hr⟩ : ∃ r, isCk cs t = r := ⟨_, rfl⟩
  unfold typeS
  rw [hr] at HI ⊢
  clear hr hb1
  cases h1 : (t.toList == [105, 110, 116])
  · cases h2 : (t.toList == [98, 111, 111, 108, 101, 97, 110])
    · cases h3 : (t.toList == [83, 116, 114, 105, 110, 103])
      · go_enter Tryz.func21, Tryz.ntmps21
        go_wp2_with (go_at_call 37; refine HI.out.mono ?_; rintro e w1 ⟨rfl, hb⟩; have HB2 := Lib.hid hb; clear hb)
        go_ret
        exact ⟨by simp, HB1.out.trans (HB2.out.mono HB1.out.size)⟩
      · go_enter Tryz.func21, Tryz.ntmps21
        go_wp2_with fail
        go_ret
        exact ⟨by simp, HB1.out⟩
    · go_enter Tryz.func21, Tryz.ntmps21
      go_wp2_with fail
      go_ret
      exact ⟨by simp, HB1.out⟩
  · go_enter Tryz.func21, Tryz.ntmps21
    go_wp2_with fail
    go_ret
    exact ⟨by simp, HB1.out⟩
end Go.Proofs.YteogphbdpjnjoaaGreat
