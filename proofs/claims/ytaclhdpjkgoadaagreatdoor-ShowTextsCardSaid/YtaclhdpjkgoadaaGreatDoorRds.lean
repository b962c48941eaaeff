/- Parts of the proof: Rds. -/
import Derived.Test.YtaclhdpjkgoadaaGreatDoorP12
import Derived.Deep.Cut
set_option maxHeartbeats 8000000
set_option maxRecDepth 100000
set_option linter.unusedSimpArgs false
set_option linter.unusedVariables false
namespace Go.Proofs.YtaclhdpjkgoadaaGreatDoor
open Go.RowKit
theorem own_cap {w : World} {B sz n cap : Nat} {e : TypeId} {A : Option Addr} {xs : List Value} (h : w.ownsRow B e sz (.slice A n cap) n xs) : cap ≤ maxLen := by
 rcases h.2 with ⟨hv, _⟩ | ⟨g, c2, cur, hv, _, _, _, hc, _⟩
 · injection hv with _ _ h3; omega
 · injection hv with _ _ h3; omega
theorem all_few (s : ByteArray) : (allW s).length ≤ 8000 := by
 by_cases h : 8000 < s.size ∨ 0 ≤ wrongAt s
 · unfold allW; rw [if_pos h]; simp
 · have := all_len s; omega
theorem MkAt.done {w wr : World} {b0 : Nat} {s : ByteArray} {vw : Value} {A : Option Addr} {cap : Nat} (h : MkAt w b0 s.size (allE s) (allA s) (allW s) vw (allW s).length wr A cap) : Rd wr b0 (RS0 s) wr := by
 have ht : ((allW s).map plOf).take (allW s).length = (allW s).map plOf := by rw [List.take_of_length_le]; simp
 obtain ⟨hb, hx, ho, _, _, _⟩ := h
 rw [ht] at hx ho
 have hcap := own_cap ho
 refine ⟨⟨rfl, rfl, rfl, Nat.le_refl _, fun _ _ _ => rfl⟩, ⟨A, _, cap, _, _, _, _, _, _, hx⟩, _, ww_own ho ?_ ?_ ⟨A, _, cap, rfl, hcap⟩, hx⟩
 · show ((allW s).map plOf).length ≤ 1000000
   rw [List.length_map]
   unfold allW
   split
   · simp
   · rename_i hh
     have := all_len s
     unfold allW at this
     rw [if_neg hh] at this
     omega
 · intro x hx
   replace hx : x ∈ (allW s).map plOf := hx
   rw [List.mem_map] at hx
   obtain ⟨y, hy, rfl⟩ := hx
   have := all_texts s y hy
   show (partP y.k ⟨y.t.toArray⟩).text.size ≤ _
   rw [part_text]
   simp [ByteArray.size]; omega
theorem readerOf_any (w : World) (s : ByteArray) (hs : s.size ≤ maxLen) : Calls Tryz.prog 13 #[.string s] w fun e w' => ∃ c, e = .returned (.pointer (some ⟨c, 0, none⟩)) ∧ Rd w' c (RS0 s) w' ∧ w.heap.size ≤ c ∧ Below w.heap.size w w' := by
 have HA := Lib.hid (all_any s w hs)
 have hds : ∀ {wr b0 vw A cap}, MkAt w b0 s.size (allE s) (allA s) (allW s) vw (allW s).length wr A cap → Rd wr b0 (RS0 s) wr := fun h => h.done
 have htx := all_texts s
 have hal := all_few s
 obtain ⟨ws, hws⟩ : ∃ ws, allW s = ws := ⟨_, rfl⟩
 obtain ⟨ec, hec⟩ : ∃ ec, allE s = ec := ⟨_, rfl⟩
 obtain ⟨ea, hea⟩ : ∃ ea, allA s = ea := ⟨_, rfl⟩
 unfold AllSaid at HA
 rw [hws, hec, hea] at hds HA
 rw [hws] at htx hal
 obtain ⟨R0, hR0⟩ : ∃ R0, RS0 s = R0 := ⟨_, rfl⟩
 rw [hR0] at hds ⊢
 have HDS : Hid (∀ wr b0 vw A cap, MkAt w b0 s.size ec ea ws vw ws.length wr A cap → Rd wr b0 R0 wr) := by
   show ∀ wr b0 vw A cap, _
   intro wr b0 vw A cap h; exact hds h
 obtain ⟨sz, hsz⟩ : ∃ sz : Nat, s.size = sz := ⟨_, rfl⟩
 rw [hsz] at HDS hs
 have HTX := Lib.hid htx
 have hsI : (s.size : Int) = (sz : Int) := by rw [hsz]
 obtain ⟨i0, hi, hz0, hzz1, hzz2⟩ := info_parts Tryz.infoPl
 clear hds hws hec hea hR0 htx hsz
 go_enter Tryz.func13, Tryz.ntmps13
 go_wp2_with fail
 refine HA.out.mono ?_
 clear HA
 rintro e w1 ⟨v, rfl, ho, hb⟩
 obtain ⟨Aw, capw, rfl, _⟩ := own_form ho
 have HB1 := Lib.hid hb
 have hb2 : Below w1.heap.size w1 (w1.alloc (.cells #[.slice none 0 0, .int .i64 (sz : Int), .int .i64 0, .int .i64 ec, .int .i64 ea, .int .i64 0, .int .i64 0] 54)) := (Below.refl _ _).alloc (Nat.le_refl _) _
 have HK : Hid (MkAt w w1.heap.size (sz : Int) ec ea ws (.slice Aw ws.length capw) 0 (w1.alloc (.cells #[.slice none 0 0, .int .i64 (sz : Int), .int .i64 0, .int .i64 ec, .int .i64 ea, .int .i64 0, .int .i64 0] 54)) none 0) :=
   Lib.hid ⟨hb.trans (hb2.mono hb.size), Bx.new _ _ _, World.ownsRow_nil _ _ _ _, own_next ho hb2, fun g hg => (ho.lt g hg).2, hb.size⟩
 have hcw := own_cap ho
 have hsw : w.heap.size ≤ w1.heap.size := hb.size
 obtain ⟨n, hn⟩ : ∃ n, ws.length = n := ⟨_, rfl⟩
 rw [hn] at HK HDS hal ho ⊢
 have HN := Lib.hid hn
 have hnm : n ≤ 8000 := hal
 clear ho hb hb2 hn
 go_wp2_with fail
 go_loopw [24] (fun v24 wr => ∃ (k : Nat) (A : Option Addr) (cap : Nat), v24 = .int .i64 k ∧ k ≤ n ∧ MkAt w w1.heap.size (sz : Int) ec ea ws (.slice Aw n capw) k wr A cap) (fun v24 wr => n - (intOf v24).toNat)
 case atStart => exact ⟨0, none, 0, rfl, Nat.zero_le _, HK.out⟩
 case round =>
   obtain ⟨k, A, cap, rfl, hkn, hmk⟩ := hrel
   have HMK := Lib.hid hmk
   by_cases hlt : k < n
   · have hltI : (k : Int) < (n : Int) := by omega
     obtain ⟨x, hx⟩ : ∃ x, ws[k]? = some x := ⟨_, List.getElem?_eq_getElem (by rw [HN.out]; exact hlt)⟩
     have hrow := hmk.row
     rw [HN.out] at hrow
     obtain ⟨gw, cw, hv, hgw, hgl, hat⟩ := own_row hrow (by omega)
     injection hv with hv1 hv2 hv3
     subst hv1 hv3
     clear hv2
     have c0 := (hat (k * 3 + 0) (.int .i64 x.k) (by rw [wflat_get ws k 0 x hx (by omega)]; rfl)).1
     have c1 := (hat (k * 3 + 1) (.string ⟨x.t.toArray⟩) (by rw [wflat_get ws k 1 x hx (by omega)]; rfl)).1
     have c2 := (hat (k * 3 + 2) (.int .i64 x.a) (by rw [wflat_get ws k 2 x hx (by omega)]; rfl)).1
     rw [Nat.add_zero] at c0
     have htz : (⟨x.t.toArray⟩ : ByteArray).size ≤ 1000000 := by
       have := HTX.out x (List.mem_of_getElem? hx)
       simp [ByteArray.size]; omega
     have HX := Lib.hid hx
     obtain ⟨tx, htx⟩ : ∃ tx : ByteArray, (⟨x.t.toArray⟩ : ByteArray) = tx := ⟨_, rfl⟩
     obtain ⟨xk, hxk⟩ : ∃ xk : Nat, x.k = xk := ⟨_, rfl⟩
     obtain ⟨xa, hxa⟩ : ∃ xa : Int, (x.a : Int) = xa := ⟨_, rfl⟩
     have HPL : Hid (plOf x = (partP xk tx, xa)) := Lib.hid (by rw [plOf, htx, hxk, hxa])
     rw [htx] at c1 htz
     rw [hxk] at c0
     rw [hxa] at c2
     have HP : Hid (∀ w', Calls Tryz.prog 27 #[.agg #[.int .i64 xk, .string tx, .int .i64 xa]] w' fun e w'' => e = .returned (partP xk tx).V ∧ Below w'.heap.size w' w'') := by
       show ∀ w', _
       intro w'; exact part_any w' xk tx xa htz
     obtain ⟨uT, uv, hu⟩ : ∃ uT uv, (partP xk tx).V = .iface uT uv := by cases partP xk tx <;> exact ⟨_, _, rfl⟩
     rw [hu] at HP
     have HU := Lib.hid hu
     have hb2 : Below wr.heap.size wr (wr.alloc (.cells #[.int .i64 xk, .string tx, .int .i64 xa] 70)) := (Below.refl _ _).alloc (Nat.le_refl _) _
     have FACTS : MkAt w w1.heap.size (sz : Int) ec ea ws (.slice (some ⟨gw, 0, none⟩) n capw) k (wr.alloc (.cells #[.int .i64 xk, .string tx, .int .i64 xa] 70)) A cap ∧ Bx (wr.alloc (.cells #[.int .i64 xk, .string tx, .int .i64 xa] 70)) wr.heap.size #[.int .i64 xk, .string tx, .int .i64 xa] 70 := ⟨hmk.below hb2, Bx.new _ _ _⟩
     clear hat hrow hmk hx htx hxk hxa hu hb2 hgl hgw HTX
     go_upto_region 6 with (fail)
     refine gen_world (fun W => MkAt w w1.heap.size (sz : Int) ec ea ws (.slice (some ⟨gw, 0, none⟩) n capw) k W A cap ∧ Bx W wr.heap.size #[.int .i64 xk, .string tx, .int .i64 xa] 70) FACTS ?_
     clear FACTS
     rintro W ⟨hm, hw⟩
     have HMW := Lib.hid hm
     have HMD := Lib.hid (hm.below (Below.refl _ W).drew)
     have r0 := hm.bx.cell 0
     have y0 := hw.cell 0; have y1 := hw.cell 1; have y2 := hw.cell 2
     have HWD := Lib.hid (hw.next (Below.refl _ W).drew)
     simp only [List.getElem?_toArray, List.getElem?_cons_succ, List.getElem?_cons_zero] at r0 y0 y1 y2
     have hkl : ((ws.map plOf).take k).length = k := by simp [HN.out]; omega
     have HKL := Lib.hid hkl
     rw [hkl] at r0
     clear hm hw c0 c1 c2 hkl
     go_region_law (first
       | (refine step_append_lies _ rfl (.tmp 32) (.tmp 38) 50 rfl (w1.heap.size + 1) 74 i0 _ 2 24 Tryz.underlying50 hi hz0 hzz1 hzz2 rfl (by decide) _ _ _ rfl HO6.out ⟨w5.heap.size, 0, none⟩ 1 1 [.iface uT uv, .int .i64 xa] rfl (by simp) (new_at w5 [.iface uT uv, .int .i64 xa] 74) HON.out (by decide) (by unfold maxLen; first | omega | (simp; omega)) (by first | omega | (simp; omega)) HC6.out _ rfl ?_; intro g c3 w7 ho7 hg7 hat7 hlt7; have HX7 := Lib.hid (HP7.out w7 g c3 ho7 hg7); have d0 := HX7.out.1; have g0 := HX7.out.2.1; have HPUT := Lib.hid HX7.out.2.2; clear ho7 hg7 hat7 hlt7)
       | (go_simp; go_wp2_with (go_at_call 27; refine (HP.out _).mono ?_; rintro e w5 ⟨rfl, hb⟩; have HM5 := Lib.hid (HMD.out.below hb); have hb6 : Below w5.heap.size w5 (w5.alloc (.cells #[.iface uT uv, .int .i64 xa] 74)) := (Below.refl _ _).alloc (Nat.le_refl _) _; have HM6 := Lib.hid (HM5.out.below hb6); have HO6 := Lib.hid HM6.out.own; rw [HKL.out] at HO6; have HON : Hid (∀ v ∈ [Value.iface uT uv, Value.int .i64 xa], v.oneCell' = true) := Lib.hid (by have := pl_one [(partP xk tx, xa)]; rw [← HU.out]; simpa [plcells] using this); have HC6 := Lib.hid (show w1.heap.size + 1 ≤ (w5.alloc (.cells #[.iface uT uv, .int .i64 xa] 74)).heap.size from Nat.lt_of_lt_of_le HM5.out.bx.lt hb6.size); have b0 := HM5.out.bx.cell 0; have b1 := HM6.out.bx.cell 0; have bw := HWD.out.next hb; have y20 := bw.cell 2; simp only [List.getElem?_toArray, List.getElem?_cons_succ, List.getElem?_cons_zero] at b0 b1 y20; rw [HKL.out] at b0 b1; have HP7 : Hid (∀ (w7 : World) (g c3 : Nat), w7.ownsRow (w1.heap.size + 1) 74 2 (.slice (some ⟨g, 0, none⟩) (k + 1) c3) (k + 1) (((ws.map plOf).take k).flatMap plcells ++ [.iface uT uv, .int .i64 xa]) → (w5.alloc (.cells #[.iface uT uv, .int .i64 xa] 74)).grownBy w7 (Value.slice A k cap).ownBlock → w7.cell? ⟨w1.heap.size, 0, none⟩ = some (.slice A k cap) ∧ w7.frozen? ⟨w1.heap.size, 0, none⟩ = false ∧ MkAt w w1.heap.size (sz : Int) ec ea ws (.slice (some ⟨gw, 0, none⟩) n capw) (k + 1) (w7.setCell ⟨w1.heap.size, 0, none⟩ (.slice (some ⟨g, 0, none⟩) (k + 1) c3)) (some ⟨g, 0, none⟩) c3) := Lib.hid (by { intro w7 g c3 ho7 hg7; rw [← HKL.out] at hg7; have hbx : Bx w7 w1.heap.size _ _ := (hg7.block _ HM6.out.bx.lt (fun q => by have := (HM6.out.own.lt _ q.symm).1; omega)).trans HM6.out.bx; have hc := hbx.cell 0; simp only [List.getElem?_toArray, List.getElem?_cons_zero] at hc; rw [HKL.out] at hc; exact ⟨hc, hbx.fro 0, HM6.out.put HX.out (by rw [HPL.out, plcells, HU.out]; exact ho7) hg7 (by rw [List.take_add_one, List.length_append, HKL.out]; simp [HX.out])⟩ }); clear hb hb6 bw)))
     all_goals
       go_wp2_with fail
       go_roundw
       case rel => exact ⟨k + 1, _, _, by go_num, by omega, HPUT.out⟩
       case measure => simp [intOf]; omega
   · have hkn' : k = n := by omega
     have hleI : (n : Int) ≤ (k : Int) := by omega
     have HM2 : Hid (MkAt w w1.heap.size (sz : Int) ec ea ws (.slice Aw n capw) n wr A cap) := Lib.hid (by rw [hkn'] at hmk; exact hmk)
     clear hmk HMK hkn' hlt
     go_wp2_with fail
     go_ret
     exact ⟨_, rfl, HDS.out _ _ _ _ _ HM2.out, hsw, HM2.out.bel⟩
end Go.Proofs.YtaclhdpjkgoadaaGreatDoor
