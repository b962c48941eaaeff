/- Parts of the proof: RefEp, RefF0, RefF, ExE, Fol. -/
import Derived.Test.YtaclhdpjkgoadaaGreatDoorP16
import Derived.Test.YtaclhdpjkgoadaaGreatDoorP9
import Derived.Test.YtaclhdpjkgoadaaGreatDoorP22
import Derived.Deep.RegionWith
set_option maxHeartbeats 8000000
set_option maxRecDepth 100000
namespace Go.Proofs.YtaclhdpjkgoadaaGreatDoor
set_option linter.unusedSimpArgs false
set_option linter.unusedVariables false
section
open Go.RowKit
theorem rpart_any (s : ByteArray) (p : Nat) (w : World) (hs : s.size ≤ 16777216) (hp : p < s.size) : Calls Tryz.prog 19 #[.string s, .int .i64 p] w fun e w' => e = .returned (.tuple #[.string ⟨(Lib.encodeRune ((Utf8.decode s p).1 : Nat)).toArray⟩, .int .i64 ((Utf8.decode s p).2 : Nat)]) ∧ Below w.heap.size w w' := by
 have hw := wid_pos s p
 have hwl := wid_le s p hp
 go_enter Tryz.func19, Tryz.ntmps19
 cases hB : badAt s p
 · have HE : Hid (s.extract p (p + (Utf8.decode s p).2) = ⟨(Lib.encodeRune ((Utf8.decode s p).1 : Nat)).toArray⟩) := by
     show s.extract p (p + (Utf8.decode s p).2) = ⟨(Lib.encodeRune ((Utf8.decode s p).1 : Nat)).toArray⟩
     apply ba_of
     rw [extract_sub, enc_ok s p hp hB]
     congr 1; omega
   have h1 : IntKind.i64.wrap ((p : Int) + ((Utf8.decode s p).2 : Nat)) = (p : Int) + ((Utf8.decode s p).2 : Nat) := by rw [IntKind.wrap_i64]; omega
   go_wp2_with (go_at_call 10; refine (one_any s p _ hs hp).mono ?_; rintro e w1 ⟨rfl, hb1⟩)
   have h2 : 0 ≤ (p : Int) + ((Utf8.decode s p).2 : Nat) := by omega
   have h3 : ((p : Int) + ((Utf8.decode s p).2 : Nat)).toNat = p + (Utf8.decode s p).2 := by omega
   have h4 : (p : Int) + ((Utf8.decode s p).2 : Nat) ≤ s.size := by omega
   have h5 : (p : Int) ≤ (p : Int) + ((Utf8.decode s p).2 : Nat) := by omega
   go_quiet (fail)
   clear h1 h3
   go_wp2
   go_ret2
   exact ⟨by rw [← HE.out]; rfl, below_drewN (hb1.alloc hb1.size _) _⟩
 · have HE := Lib.hid (enc_bad s p hB)
   have HD := Lib.hid (badAt_eq hB)
   go_wp2_with (go_at_call 10; refine (one_any s p _ hs hp).mono ?_; rintro e w1 ⟨rfl, hb1⟩)
   go_ret2
   exact ⟨by rw [HE.out, HD.out]; rfl, hb1.alloc hb1.size _⟩
end
section
open Go.RowKit
theorem app_list (a b : ByteArray) : (a ++ b).data.toList = a.data.toList ++ b.data.toList := by simp [ByteArray.data_append]
theorem enc_is (r : Nat) (k : Nat) (hk : k < 128) (hr : okRune r) : (Lib.encodeRune (r : Int) == [k.toUInt8]) = decide (r = k) := by
 rw [Bool.eq_iff_iff, beq_iff_eq, decide_eq_true_iff]
 unfold okRune at hr
 constructor
 · intro e
   by_cases h1 : r < 128
   · rw [Lib.encodeRune, Lib.encodeRuneZ_one (by omega) (by omega)] at e
     simp at e
     have := congrArg UInt8.toNat e
     simp at this
     omega
   · exfalso
     have hl : (Lib.encodeRune (r : Int)).length = 1 := by rw [e]; rfl
     by_cases h2 : r < 2048
     · rw [Lib.encodeRune, Lib.encodeRuneZ_two (by omega) (by omega)] at hl; simp at hl
     · by_cases h3 : r < 65536
       · rw [Lib.encodeRune, Lib.encodeRuneZ_three (by omega)] at hl; simp at hl
       · rw [Lib.encodeRune, Lib.encodeRuneZ_four (by omega) (by omega)] at hl; simp at hl
 · rintro rfl
   rw [Lib.encodeRune, Lib.encodeRuneZ_one (by omega) (by omega)]; simp
theorem enc_tests (s : ByteArray) (p : Nat) (c : ByteArray) (hc : c.data.toList = Lib.encodeRune ((Utf8.decode s p).1 : Nat)) :
   (c.toList == [34]) = decide ((Utf8.decode s p).1 = 34) ∧ (c.toList == [92]) = decide ((Utf8.decode s p).1 = 92) ∧ (c.toList == [10]) = decide ((Utf8.decode s p).1 = 10) := by
 rw [Lib.toList_data, hc]
 exact ⟨enc_is _ 34 (by omega) (rune_ok s p), enc_is _ 92 (by omega) (rune_ok s p), enc_is _ 10 (by omega) (rune_ok s p)⟩
theorem ba_size (c : ByteArray) : c.size = c.data.toList.length := by simp
theorem rquote_step (s : ByteArray) (p : Nat) (h : p < s.size) (o c : ByteArray) (hc : c.data.toList = Lib.encodeRune ((Utf8.decode s p).1 : Nat)) (ho : o.data.toList ++ (quoteFrom s p ++ [34]) = quote s) (x : ByteArray)
   (hx : x = if (Utf8.decode s p).1 = 34 ∨ (Utf8.decode s p).1 = 92 then (⟨#[92]⟩ : ByteArray) ++ c else if (Utf8.decode s p).1 = 10 then ⟨#[92, 110]⟩ else c) :
   (o ++ x).data.toList ++ (quoteFrom s (p + (Utf8.decode s p).2) ++ [34]) = quote s := by
 rw [← ho, quoteFrom_step s p h, app_list, hx]
 by_cases h1 : (Utf8.decode s p).1 = 34 ∨ (Utf8.decode s p).1 = 92
 · have h10 : ¬ (Utf8.decode s p).1 = 10 := by omega
   rw [if_pos h1, app_list, hc]
   have hm : mustN (Utf8.decode s p).1 = true := by rcases h1 with e | e <;> rw [e] <;> decide
   have hl : letterN (Utf8.decode s p).1 = (Utf8.decode s p).1 := by rw [letterN, if_neg h10]
   rw [hm, hl]; simp
 · rw [if_neg h1]
   by_cases h2 : (Utf8.decode s p).1 = 10
   · have hm : mustN (Utf8.decode s p).1 = true := by rw [h2]; decide
     have hl : letterN (Utf8.decode s p).1 = 110 := by rw [letterN, if_pos h2]
     have e110 : Lib.encodeRune ((110 : Nat) : Int) = [110] := by decide
     rw [if_pos h2, hm, hl, e110]; simp
   · have hm : mustN (Utf8.decode s p).1 = false := by
       simp only [mustN, Bool.or_eq_false_iff, beq_eq_false_iff_ne]; omega
     have hl : letterN (Utf8.decode s p).1 = (Utf8.decode s p).1 := by rw [letterN, if_neg h2]
     rw [if_neg h2, hm, hl, hc]; simp
end
section
open Go.RowKit
theorem rquote_any (s : ByteArray) (w : World) (hs : s.size ≤ 1048576) : Calls Tryz.prog 7 #[.string s] w fun e w' => e = .returned (.string ⟨(quote s).toArray⟩) ∧ Below w.heap.size w w' := by
 go_enter Tryz.func7, Tryz.ntmps7
 go_wp2
 go_loopw [3, 4] (fun v3 v4 wr => ∃ (p : Nat) (o : ByteArray), v4 = .int .i64 p ∧ v3 = .string o ∧ p ≤ s.size ∧ o.size ≤ 1 + 8 * p ∧ o.data.toList ++ (quoteFrom s p ++ [34]) = quote s ∧ Below w.heap.size w wr) (fun v3 v4 wr => s.size - (intOf v4).toNat)
 case atStart => exact ⟨0, ⟨#[34]⟩, rfl, rfl, Nat.zero_le _, by decide, rfl, Below.refl _ _⟩
 case round =>
   obtain ⟨p, o, rfl, rfl, hp, hos, ho, hbw⟩ := hrel
   have hsz := hbw.size
   by_cases hlt : p < s.size
   · have hw := wid_pos s p
     have hwl := wid_le s p hlt
     obtain ⟨c, hcc⟩ : ∃ c : ByteArray, c = ⟨(Lib.encodeRune ((Utf8.decode s p).1 : Nat)).toArray⟩ := ⟨_, rfl⟩
     have hc : c.data.toList = Lib.encodeRune ((Utf8.decode s p).1 : Nat) := by rw [hcc]
     have hP := rpart_any s p
     rw [← hcc] at hP
     have HP := Lib.hid hP; clear hP hcc
     have hcs : c.size ≤ 4 := by rw [ba_size, hc]; exact (enc_len _).2
     obtain ⟨t1, t2, t3⟩ := enc_tests s p c hc
     have HS := Lib.hid (rquote_step s p hlt o c hc ho)
     clear hc ho
     have z1 : (⟨#[92]⟩ : ByteArray).size = 1 := rfl
     have z2 : (⟨#[92, 110]⟩ : ByteArray).size = 2 := rfl
     have Z1 := Lib.hid z1; clear z1
     have Z2 := Lib.hid z2; clear z2
     by_cases e34 : (Utf8.decode s p).1 = 34
     · rw [decide_eq_true e34] at t1
       have HX : Hid (((⟨#[92]⟩ : ByteArray) ++ c) = if (Utf8.decode s p).1 = 34 ∨ (Utf8.decode s p).1 = 92 then (⟨#[92]⟩ : ByteArray) ++ c else if (Utf8.decode s p).1 = 10 then ⟨#[92, 110]⟩ else c) := by
         show ((⟨#[92]⟩ : ByteArray) ++ c) = _
         rw [if_pos (Or.inl e34)]
       clear t2 t3 e34
       go_wp2_with (go_at_call 19; refine (HP.out _ (by omega) hlt).mono ?_; rintro e w1 ⟨rfl, hb1⟩)
       have hb2 := hbw.trans (hb1.mono hsz)
       go_roundw
       case rel => exact ⟨p + (Utf8.decode s p).2, o ++ ((⟨#[92]⟩ : ByteArray) ++ c), by go_num, rfl, hwl, by rw [ByteArray.size_append, ByteArray.size_append, Z1.out]; omega, HS.out _ HX.out, hb2⟩
       case measure => simp [intOf]; omega
     · by_cases e92 : (Utf8.decode s p).1 = 92
       · rw [decide_eq_false e34] at t1
         rw [decide_eq_true e92] at t2
         have HX : Hid (((⟨#[92]⟩ : ByteArray) ++ c) = if (Utf8.decode s p).1 = 34 ∨ (Utf8.decode s p).1 = 92 then (⟨#[92]⟩ : ByteArray) ++ c else if (Utf8.decode s p).1 = 10 then ⟨#[92, 110]⟩ else c) := by
           show ((⟨#[92]⟩ : ByteArray) ++ c) = _
           rw [if_pos (Or.inr e92)]
         clear t3 e34 e92
         go_wp2_with (go_at_call 19; refine (HP.out _ (by omega) hlt).mono ?_; rintro e w1 ⟨rfl, hb1⟩)
         have hb2 := hbw.trans (hb1.mono hsz)
         go_roundw
         case rel => exact ⟨p + (Utf8.decode s p).2, o ++ ((⟨#[92]⟩ : ByteArray) ++ c), by go_num, rfl, hwl, by rw [ByteArray.size_append, ByteArray.size_append, Z1.out]; omega, HS.out _ HX.out, hb2⟩
         case measure => simp [intOf]; omega
       · by_cases e10 : (Utf8.decode s p).1 = 10
         · rw [decide_eq_false e34] at t1
           rw [decide_eq_false e92] at t2
           rw [decide_eq_true e10] at t3
           have HX : Hid ((⟨#[92, 110]⟩ : ByteArray) = if (Utf8.decode s p).1 = 34 ∨ (Utf8.decode s p).1 = 92 then (⟨#[92]⟩ : ByteArray) ++ c else if (Utf8.decode s p).1 = 10 then ⟨#[92, 110]⟩ else c) := by
             show (⟨#[92, 110]⟩ : ByteArray) = _
             rw [if_neg (by omega), if_pos e10]
           clear e34 e92 e10
           go_wp2_with (go_at_call 19; refine (HP.out _ (by omega) hlt).mono ?_; rintro e w1 ⟨rfl, hb1⟩)
           have hb2 := hbw.trans (hb1.mono hsz)
           go_roundw
           case rel => exact ⟨p + (Utf8.decode s p).2, o ++ (⟨#[92, 110]⟩ : ByteArray), by go_num, rfl, hwl, by rw [ByteArray.size_append, Z2.out]; omega, HS.out _ HX.out, hb2⟩
           case measure => simp [intOf]; omega
         · rw [decide_eq_false e34] at t1
           rw [decide_eq_false e92] at t2
           rw [decide_eq_false e10] at t3
           have HX : Hid (c = if (Utf8.decode s p).1 = 34 ∨ (Utf8.decode s p).1 = 92 then (⟨#[92]⟩ : ByteArray) ++ c else if (Utf8.decode s p).1 = 10 then ⟨#[92, 110]⟩ else c) := by
             show c = _
             rw [if_neg (by omega), if_neg e10]
           clear e34 e92 e10
           go_wp2_with (go_at_call 19; refine (HP.out _ (by omega) hlt).mono ?_; rintro e w1 ⟨rfl, hb1⟩)
           have hb2 := hbw.trans (hb1.mono hsz)
           go_roundw
           case rel => exact ⟨p + (Utf8.decode s p).2, o ++ c, by go_num, rfl, hwl, by rw [ByteArray.size_append]; omega, HS.out _ HX.out, hb2⟩
           case measure => simp [intOf]; omega
   · have hq : o.data.toList ++ [34] = quote s := by have := ho; rw [quoteFrom_end s p hlt] at this; exact this
     have HQ : Hid (o ++ ⟨#[34]⟩ = ⟨(quote s).toArray⟩) := by
       show o ++ ⟨#[34]⟩ = ⟨(quote s).toArray⟩
       exact ba_of _ _ (by rw [app_list]; exact hq)
     clear hq ho
     go_wp2
     go_ret
     exact ⟨by rw [← HQ.out]; rfl, hbw⟩
end
section
open Go.RowKit
theorem Mv.box {W0 w : World} {c : Nat} {s : RS} (h : Rd W0 c s w) (o : Obj) : Mv W0 c s w (w.alloc o) := Mv.below ((Below.refl _ _).alloc (Nat.le_refl _) _) h
theorem signed_0 (n : Nat) (IH : SpecS n) (W0 w : World) (c : Nat) (s : RS) (hv : Vars W0) (h : Rd W0 c s w) (hn : enough (n + 1) .signed s) (h0 : s.sees 0 sMinus = true) : Calls Tryz.prog 40 #[.pointer (some ⟨c, 0, none⟩)] w (ExC W0 c w (run (n + 1) .signed s)) := by
 obtain ⟨r, hr⟩ : ∃ r, run n .signed (s.enter sMinus) = r := ⟨_, rfl⟩
 have hsig : signOf s = some sMinus := by simp [signOf, h0]
 have hR : run (n + 1) .signed s = ([mkE 18 0 E0 sMinus E0 [hdE r.1]], r.2.dec) := by simp only [run, hsig, hr]
 have hle := sees_len h0
 have hen : enough n .signed (s.enter sMinus) := by have := len_enter s sMinus; simp only [enough, Md.rank] at hn ⊢; omega
 have hlt := h.lt
 have hle0 := h.le
 have T0 : Hid (∀ w', Rd W0 c s w' → Calls Tryz.prog 70 #[.pointer (some ⟨c, 0, none⟩), .string sMinus] w' fun e w'' => e = .returned (.bool true) ∧ w' = w'') := by
   show ∀ w', _
   intro w' h'; have := sees_any W0 w' c s sMinus h'; rw [h0] at this; exact this
 have HEN : Hid (∀ w', Rd W0 c s w' → Calls Tryz.prog 71 #[.pointer (some ⟨c, 0, none⟩), .string sMinus] w' fun e w'' => e = .returned (.tuple #[]) ∧ Mv W0 c (s.enter sMinus) w' w'') := by
   show ∀ w', _
   intro w' h'; exact enter_any W0 w' c s sMinus h'
 have HX : Hid (∀ w', Rd W0 c (s.enter sMinus) w' → Calls Tryz.prog 40 #[.pointer (some ⟨c, 0, none⟩)] w' (ExC W0 c w' r)) := by
   show ∀ w', _
   intro w' h'; have := IH W0 w' c _ hv h' hen; rw [hr] at this; exact this
 have HRD := Lib.hid h
 rw [hR]
 clear hR hr hsig hen hn IH hv h h0 hle
 go_enter Tryz.func40, Tryz.ntmps40
 go_wp2_with fail
 refine gen_world (fun W => Bx W w.heap.size #[.int .i64 0, .int .i32 0, .string ⟨#[]⟩, .string ⟨#[]⟩, .string ⟨#[]⟩, .slice none 0 0, .string ⟨#[]⟩, .int .i64 0] 26 ∧ Mv W0 c s w W ∧ W.heap.size = w.heap.size + 1) ?_ ?_
 · exact ⟨Bx.new _ _ _, Mv.box HRD.out _, by simp⟩
 rintro W ⟨hx, hmv, hz⟩
 have HX0 := Lib.hid hx
 have HM0 := Lib.hid hmv
 clear hx hmv
 go_loopw [7] (fun v7 wr => ∃ j : Nat, v7 = .int .i64 j ∧ j ≤ 0 ∧ wr = W) (fun v7 wr => 0 - (intOf v7).toNat)
 case atStart => exact ⟨0, rfl, by omega, rfl⟩
 case round =>
   obtain ⟨j, rfl, hj, rfl⟩ := hrel
   have hjs : j = 0 := by omega
   rcases hjs with rfl
   · go_wp2_with (first | (go_at_call 70; refine (T0.out _ HM0.out.2).mono ?_; rintro e w1 ⟨rfl, rfl⟩) | (go_at_call 71; refine (HEN.out _ HM0.out.2).mono ?_; clear HEN; rintro e w2 ⟨rfl, hm⟩; have HM1 := Lib.hid hm; clear hm))
     refine (HX.out _ HM1.out.2).mono ?_
     clear HX
     rintro e w3 ⟨y, rfl, hk, hm⟩
     have HK := Lib.hid hk
     obtain ⟨k, m, tx, nm, ty, A, cap, l, rfl, hsz, _, hbe⟩ := hk
     have HBE := Lib.hid hbe
     have HM := Lib.hid ((HM0.out.trans HM1.out).trans hm)
     have hb1 := HM1.out.1.size
     have hb2 := hm.1.size
     have HBX : Hid (Bx w3 w.heap.size _ _) := (hm.1.block _ (by omega) (by simp; omega)).trans ((HM1.out.1.block _ (by omega) (by simp; omega)).trans HX0.out)
     obtain ⟨W4, hW4⟩ : ∃ W4, w3.alloc (.cells #[.int .i64 k, .int .i32 m, .string tx, .string nm, .string ty, .slice A l.length cap, .string ⟨#[]⟩, .int .i64 0] 26) = W4 := ⟨_, rfl⟩
     have hb4 : Below w3.heap.size w3 W4 := by rw [← hW4]; exact (Below.refl _ _).alloc (Nat.le_refl _) _
     have hy4 : Bx W4 w3.heap.size #[.int .i64 k, .int .i32 m, .string tx, .string nm, .string ty, .slice A l.length cap, .string ⟨#[]⟩, .int .i64 0] 26 := by rw [← hW4]; exact Bx.new _ _ _
     have hm4 : Mv W0 c r.2 w3 W4 := Mv.below hb4 hm.2
     obtain ⟨d2, f2⟩ := hm4.2.op
     obtain ⟨W5, hW5⟩ : ∃ W5, W4.setCell ⟨c, 2, none⟩ (.int .i64 (wrap64 (r.2.op - 1))) = W5 := ⟨_, rfl⟩
     have hm5 : Mv W0 c r.2.dec W4 W5 := by rw [← hW5]; exact hm4.2.dec
     have hy5 : Bx W5 w3.heap.size _ _ := (hm5.1.block _ hy4.lt (by simp; omega)).trans hy4
     obtain ⟨a0, a1, a2, a3, a4, a5, a6, a7⟩ := hy5.all_8
     obtain ⟨W6, hW6⟩ : ∃ W6, W5.alloc (.cells #[.int .i64 k, .int .i32 m, .string tx, .string nm, .string ty, .slice A l.length cap, .string ⟨#[]⟩, .int .i64 0] 26) = W6 := ⟨_, rfl⟩
     have hb6 : Below W5.heap.size W5 W6 := by rw [← hW6]; exact (Below.refl _ _).alloc (Nat.le_refl _) _
     have hs4 := hb4.size
     have hs5 := hm5.1.size
     have hs6 := hb6.size
     have HK5 := (HK.out.below hb4).grown hm5.1 (.inl (by omega))
     have HO6 := OwnE.one HK5 (by omega)
     simp only [cellsN] at HO6
     rw [hW6] at HO6
     have HBX6 := Lib.hid (Bx.next (Bx.grown (Bx.next HBX.out hb4) hm5.1 (by omega)) hb6)
     have hx2 := HBX6.out
     obtain ⟨r0, r1, r2, r3, r4, r5, r6, r7⟩ := hx2.all_8
     have g0 := hx2.fro 0; have g1 := hx2.fro 1; have g2 := hx2.fro 2; have g3 := hx2.fro 3; have g4 := hx2.fro 4; have g5 := hx2.fro 5; have g6 := hx2.fro 6; have g7 := hx2.fro 7
     have hg := grown_8 W6 w.heap.size (.int .i64 18) (.int .i32 0) (.string ⟨#[]⟩) (.string ⟨#[45]⟩) (.string ⟨#[]⟩) (.slice (some ⟨W5.heap.size, 0, none⟩) 1 1) (.string ⟨#[]⟩) (.int .i64 0)
     have HM6 := Lib.hid (((HM.out.trans hm4).trans hm5).trans (Mv.below hb6 hm5.2))
     have HO := Lib.hid HO6
     have HG := Lib.hid hg
     clear hm hbe hm4 hm5 hy4 hy5 hb4 hb6 hx2 hg HO6 HK5
     subst hW4
     simp only [cellsN]
     go_wp2_with fail
     obtain ⟨z0, z1, z2, z3, z4, z5, z6, z7⟩ := (HBX6.out.to_8 (.int .i64 18) (.int .i32 0) (.string ⟨#[]⟩) (.string ⟨#[45]⟩) (.string ⟨#[]⟩) (.slice (some ⟨W5.heap.size, 0, none⟩) 1 1) (.string ⟨#[]⟩) (.int .i64 0)).all_8
     (try simp only [Exit.inBlock, Exit.then])
     refine bodyPost_ret (v := .agg #[.int .i64 18, .int .i32 0, .string ⟨#[]⟩, .string ⟨#[45]⟩, .string ⟨#[]⟩, .slice (some ⟨W5.heap.size, 0, none⟩) 1 1, .string ⟨#[]⟩, .int .i64 0]) (by simp [results, Tryz.results40, go_sem, z0, z1, z2, z3, z4, z5, z6, z7]) rfl ?_
     exact ⟨.ex 18 0 ⟨#[]⟩ ⟨#[45]⟩ ⟨#[]⟩ (.slice (some ⟨W5.heap.size, 0, none⟩) 1 1) [_] ⟨#[]⟩ 0, rfl, ((HO.out.node 18 0 ⟨#[]⟩ ⟨#[45]⟩ ⟨#[]⟩ (by decide +kernel) (mk_bare (bare_one HBE.out) _ _ _ _ _)).grown HG.out (.inl (by omega))).mono (by omega), Mv.over (Below.refl _ _) HM6.out HG.out (Nat.le_refl _) hlt⟩
theorem signed_1 (n : Nat) (IH : SpecS n) (W0 w : World) (c : Nat) (s : RS) (hv : Vars W0) (h : Rd W0 c s w) (hn : enough (n + 1) .signed s) (h0 : s.sees 0 sMinus = false) (h1 : s.sees 0 sNot = true) : Calls Tryz.prog 40 #[.pointer (some ⟨c, 0, none⟩)] w (ExC W0 c w (run (n + 1) .signed s)) := by
 obtain ⟨r, hr⟩ : ∃ r, run n .signed (s.enter sNot) = r := ⟨_, rfl⟩
 have hsig : signOf s = some sNot := by simp [signOf, h0, h1]
 have hR : run (n + 1) .signed s = ([mkE 18 0 E0 sNot E0 [hdE r.1]], r.2.dec) := by simp only [run, hsig, hr]
 have hle := sees_len h1
 have hen : enough n .signed (s.enter sNot) := by have := len_enter s sNot; simp only [enough, Md.rank] at hn ⊢; omega
 have hlt := h.lt
 have hle0 := h.le
 have T0 : Hid (∀ w', Rd W0 c s w' → Calls Tryz.prog 70 #[.pointer (some ⟨c, 0, none⟩), .string sMinus] w' fun e w'' => e = .returned (.bool false) ∧ w' = w'') := by
   show ∀ w', _
   intro w' h'; have := sees_any W0 w' c s sMinus h'; rw [h0] at this; exact this
 have T1 : Hid (∀ w', Rd W0 c s w' → Calls Tryz.prog 70 #[.pointer (some ⟨c, 0, none⟩), .string sNot] w' fun e w'' => e = .returned (.bool true) ∧ w' = w'') := by
   show ∀ w', _
   intro w' h'; have := sees_any W0 w' c s sNot h'; rw [h1] at this; exact this
 have HEN : Hid (∀ w', Rd W0 c s w' → Calls Tryz.prog 71 #[.pointer (some ⟨c, 0, none⟩), .string sNot] w' fun e w'' => e = .returned (.tuple #[]) ∧ Mv W0 c (s.enter sNot) w' w'') := by
   show ∀ w', _
   intro w' h'; exact enter_any W0 w' c s sNot h'
 have HX : Hid (∀ w', Rd W0 c (s.enter sNot) w' → Calls Tryz.prog 40 #[.pointer (some ⟨c, 0, none⟩)] w' (ExC W0 c w' r)) := by
   show ∀ w', _
   intro w' h'; have := IH W0 w' c _ hv h' hen; rw [hr] at this; exact this
 have HRD := Lib.hid h
 rw [hR]
 clear hR hr hsig hen hn IH hv h h0 h1 hle
 go_enter Tryz.func40, Tryz.ntmps40
 go_wp2_with fail
 refine gen_world (fun W => Bx W w.heap.size #[.int .i64 0, .int .i32 0, .string ⟨#[]⟩, .string ⟨#[]⟩, .string ⟨#[]⟩, .slice none 0 0, .string ⟨#[]⟩, .int .i64 0] 26 ∧ Mv W0 c s w W ∧ W.heap.size = w.heap.size + 1) ?_ ?_
 · exact ⟨Bx.new _ _ _, Mv.box HRD.out _, by simp⟩
 rintro W ⟨hx, hmv, hz⟩
 have HX0 := Lib.hid hx
 have HM0 := Lib.hid hmv
 clear hx hmv
 go_loopw [7] (fun v7 wr => ∃ j : Nat, v7 = .int .i64 j ∧ j ≤ 1 ∧ wr = W) (fun v7 wr => 1 - (intOf v7).toNat)
 case atStart => exact ⟨0, rfl, by omega, rfl⟩
 case round =>
   obtain ⟨j, rfl, hj, rfl⟩ := hrel
   have hjs : j = 0 ∨ j = 1 := by omega
   rcases hjs with rfl | rfl
   · go_wp2_with (go_at_call 70; refine (T0.out _ HM0.out.2).mono ?_; rintro e w1 ⟨rfl, rfl⟩)
     go_roundw
     case rel => exact ⟨1, by go_num, by omega, by simp⟩
     case measure => simp [intOf]; try omega
   · go_wp2_with (first | (go_at_call 70; refine (T1.out _ HM0.out.2).mono ?_; rintro e w1 ⟨rfl, rfl⟩) | (go_at_call 71; refine (HEN.out _ HM0.out.2).mono ?_; clear HEN; rintro e w2 ⟨rfl, hm⟩; have HM1 := Lib.hid hm; clear hm))
     refine (HX.out _ HM1.out.2).mono ?_
     clear HX
     rintro e w3 ⟨y, rfl, hk, hm⟩
     have HK := Lib.hid hk
     obtain ⟨k, m, tx, nm, ty, A, cap, l, rfl, hsz, _, hbe⟩ := hk
     have HBE := Lib.hid hbe
     have HM := Lib.hid ((HM0.out.trans HM1.out).trans hm)
     have hb1 := HM1.out.1.size
     have hb2 := hm.1.size
     have HBX : Hid (Bx w3 w.heap.size _ _) := (hm.1.block _ (by omega) (by simp; omega)).trans ((HM1.out.1.block _ (by omega) (by simp; omega)).trans HX0.out)
     obtain ⟨W4, hW4⟩ : ∃ W4, w3.alloc (.cells #[.int .i64 k, .int .i32 m, .string tx, .string nm, .string ty, .slice A l.length cap, .string ⟨#[]⟩, .int .i64 0] 26) = W4 := ⟨_, rfl⟩
     have hb4 : Below w3.heap.size w3 W4 := by rw [← hW4]; exact (Below.refl _ _).alloc (Nat.le_refl _) _
     have hy4 : Bx W4 w3.heap.size #[.int .i64 k, .int .i32 m, .string tx, .string nm, .string ty, .slice A l.length cap, .string ⟨#[]⟩, .int .i64 0] 26 := by rw [← hW4]; exact Bx.new _ _ _
     have hm4 : Mv W0 c r.2 w3 W4 := Mv.below hb4 hm.2
     obtain ⟨d2, f2⟩ := hm4.2.op
     obtain ⟨W5, hW5⟩ : ∃ W5, W4.setCell ⟨c, 2, none⟩ (.int .i64 (wrap64 (r.2.op - 1))) = W5 := ⟨_, rfl⟩
     have hm5 : Mv W0 c r.2.dec W4 W5 := by rw [← hW5]; exact hm4.2.dec
     have hy5 : Bx W5 w3.heap.size _ _ := (hm5.1.block _ hy4.lt (by simp; omega)).trans hy4
     obtain ⟨a0, a1, a2, a3, a4, a5, a6, a7⟩ := hy5.all_8
     obtain ⟨W6, hW6⟩ : ∃ W6, W5.alloc (.cells #[.int .i64 k, .int .i32 m, .string tx, .string nm, .string ty, .slice A l.length cap, .string ⟨#[]⟩, .int .i64 0] 26) = W6 := ⟨_, rfl⟩
     have hb6 : Below W5.heap.size W5 W6 := by rw [← hW6]; exact (Below.refl _ _).alloc (Nat.le_refl _) _
     have hs4 := hb4.size
     have hs5 := hm5.1.size
     have hs6 := hb6.size
     have HK5 := (HK.out.below hb4).grown hm5.1 (.inl (by omega))
     have HO6 := OwnE.one HK5 (by omega)
     simp only [cellsN] at HO6
     rw [hW6] at HO6
     have HBX6 := Lib.hid (Bx.next (Bx.grown (Bx.next HBX.out hb4) hm5.1 (by omega)) hb6)
     have hx2 := HBX6.out
     obtain ⟨r0, r1, r2, r3, r4, r5, r6, r7⟩ := hx2.all_8
     have g0 := hx2.fro 0; have g1 := hx2.fro 1; have g2 := hx2.fro 2; have g3 := hx2.fro 3; have g4 := hx2.fro 4; have g5 := hx2.fro 5; have g6 := hx2.fro 6; have g7 := hx2.fro 7
     have hg := grown_8 W6 w.heap.size (.int .i64 18) (.int .i32 0) (.string ⟨#[]⟩) (.string ⟨#[33]⟩) (.string ⟨#[]⟩) (.slice (some ⟨W5.heap.size, 0, none⟩) 1 1) (.string ⟨#[]⟩) (.int .i64 0)
     have HM6 := Lib.hid (((HM.out.trans hm4).trans hm5).trans (Mv.below hb6 hm5.2))
     have HO := Lib.hid HO6
     have HG := Lib.hid hg
     clear hm hbe hm4 hm5 hy4 hy5 hb4 hb6 hx2 hg HO6 HK5
     subst hW4
     simp only [cellsN]
     go_wp2_with fail
     obtain ⟨z0, z1, z2, z3, z4, z5, z6, z7⟩ := (HBX6.out.to_8 (.int .i64 18) (.int .i32 0) (.string ⟨#[]⟩) (.string ⟨#[33]⟩) (.string ⟨#[]⟩) (.slice (some ⟨W5.heap.size, 0, none⟩) 1 1) (.string ⟨#[]⟩) (.int .i64 0)).all_8
     (try simp only [Exit.inBlock, Exit.then])
     refine bodyPost_ret (v := .agg #[.int .i64 18, .int .i32 0, .string ⟨#[]⟩, .string ⟨#[33]⟩, .string ⟨#[]⟩, .slice (some ⟨W5.heap.size, 0, none⟩) 1 1, .string ⟨#[]⟩, .int .i64 0]) (by simp [results, Tryz.results40, go_sem, z0, z1, z2, z3, z4, z5, z6, z7]) rfl ?_
     exact ⟨.ex 18 0 ⟨#[]⟩ ⟨#[33]⟩ ⟨#[]⟩ (.slice (some ⟨W5.heap.size, 0, none⟩) 1 1) [_] ⟨#[]⟩ 0, rfl, ((HO.out.node 18 0 ⟨#[]⟩ ⟨#[33]⟩ ⟨#[]⟩ (by decide +kernel) (mk_bare (bare_one HBE.out) _ _ _ _ _)).grown HG.out (.inl (by omega))).mono (by omega), Mv.over (Below.refl _ _) HM6.out HG.out (Nat.le_refl _) hlt⟩
theorem signed_2 (n : Nat) (IH : SpecS n) (W0 w : World) (c : Nat) (s : RS) (hv : Vars W0) (h : Rd W0 c s w) (hn : enough (n + 1) .signed s) (h0 : s.sees 0 sMinus = false) (h1 : s.sees 0 sNot = false) (h2 : s.sees 0 sLen = true) : Calls Tryz.prog 40 #[.pointer (some ⟨c, 0, none⟩)] w (ExC W0 c w (run (n + 1) .signed s)) := by
 obtain ⟨r, hr⟩ : ∃ r, run n .signed (s.enter sLen) = r := ⟨_, rfl⟩
 have hsig : signOf s = some sLen := by simp [signOf, h0, h1, h2]
 have hR : run (n + 1) .signed s = ([mkE 18 0 E0 sLen E0 [hdE r.1]], r.2.dec) := by simp only [run, hsig, hr]
 have hle := sees_len h2
 have hen : enough n .signed (s.enter sLen) := by have := len_enter s sLen; simp only [enough, Md.rank] at hn ⊢; omega
 have hlt := h.lt
 have hle0 := h.le
 have T0 : Hid (∀ w', Rd W0 c s w' → Calls Tryz.prog 70 #[.pointer (some ⟨c, 0, none⟩), .string sMinus] w' fun e w'' => e = .returned (.bool false) ∧ w' = w'') := by
   show ∀ w', _
   intro w' h'; have := sees_any W0 w' c s sMinus h'; rw [h0] at this; exact this
 have T1 : Hid (∀ w', Rd W0 c s w' → Calls Tryz.prog 70 #[.pointer (some ⟨c, 0, none⟩), .string sNot] w' fun e w'' => e = .returned (.bool false) ∧ w' = w'') := by
   show ∀ w', _
   intro w' h'; have := sees_any W0 w' c s sNot h'; rw [h1] at this; exact this
 have T2 : Hid (∀ w', Rd W0 c s w' → Calls Tryz.prog 70 #[.pointer (some ⟨c, 0, none⟩), .string sLen] w' fun e w'' => e = .returned (.bool true) ∧ w' = w'') := by
   show ∀ w', _
   intro w' h'; have := sees_any W0 w' c s sLen h'; rw [h2] at this; exact this
 have HEN : Hid (∀ w', Rd W0 c s w' → Calls Tryz.prog 71 #[.pointer (some ⟨c, 0, none⟩), .string sLen] w' fun e w'' => e = .returned (.tuple #[]) ∧ Mv W0 c (s.enter sLen) w' w'') := by
   show ∀ w', _
   intro w' h'; exact enter_any W0 w' c s sLen h'
 have HX : Hid (∀ w', Rd W0 c (s.enter sLen) w' → Calls Tryz.prog 40 #[.pointer (some ⟨c, 0, none⟩)] w' (ExC W0 c w' r)) := by
   show ∀ w', _
   intro w' h'; have := IH W0 w' c _ hv h' hen; rw [hr] at this; exact this
 have HRD := Lib.hid h
 rw [hR]
 clear hR hr hsig hen hn IH hv h h0 h1 h2 hle
 go_enter Tryz.func40, Tryz.ntmps40
 go_wp2_with fail
 refine gen_world (fun W => Bx W w.heap.size #[.int .i64 0, .int .i32 0, .string ⟨#[]⟩, .string ⟨#[]⟩, .string ⟨#[]⟩, .slice none 0 0, .string ⟨#[]⟩, .int .i64 0] 26 ∧ Mv W0 c s w W ∧ W.heap.size = w.heap.size + 1) ?_ ?_
 · exact ⟨Bx.new _ _ _, Mv.box HRD.out _, by simp⟩
 rintro W ⟨hx, hmv, hz⟩
 have HX0 := Lib.hid hx
 have HM0 := Lib.hid hmv
 clear hx hmv
 go_loopw [7] (fun v7 wr => ∃ j : Nat, v7 = .int .i64 j ∧ j ≤ 2 ∧ wr = W) (fun v7 wr => 2 - (intOf v7).toNat)
 case atStart => exact ⟨0, rfl, by omega, rfl⟩
 case round =>
   obtain ⟨j, rfl, hj, rfl⟩ := hrel
   have hjs : j = 0 ∨ j = 1 ∨ j = 2 := by omega
   rcases hjs with rfl | rfl | rfl
   · go_wp2_with (go_at_call 70; refine (T0.out _ HM0.out.2).mono ?_; rintro e w1 ⟨rfl, rfl⟩)
     go_roundw
     case rel => exact ⟨1, by go_num, by omega, by simp⟩
     case measure => simp [intOf]; try omega
   · go_wp2_with (go_at_call 70; refine (T1.out _ HM0.out.2).mono ?_; rintro e w1 ⟨rfl, rfl⟩)
     go_roundw
     case rel => exact ⟨2, by go_num, by omega, by simp⟩
     case measure => simp [intOf]; try omega
   · go_wp2_with (first | (go_at_call 70; refine (T2.out _ HM0.out.2).mono ?_; rintro e w1 ⟨rfl, rfl⟩) | (go_at_call 71; refine (HEN.out _ HM0.out.2).mono ?_; clear HEN; rintro e w2 ⟨rfl, hm⟩; have HM1 := Lib.hid hm; clear hm))
     refine (HX.out _ HM1.out.2).mono ?_
     clear HX
     rintro e w3 ⟨y, rfl, hk, hm⟩
     have HK := Lib.hid hk
     obtain ⟨k, m, tx, nm, ty, A, cap, l, rfl, hsz, _, hbe⟩ := hk
     have HBE := Lib.hid hbe
     have HM := Lib.hid ((HM0.out.trans HM1.out).trans hm)
     have hb1 := HM1.out.1.size
     have hb2 := hm.1.size
     have HBX : Hid (Bx w3 w.heap.size _ _) := (hm.1.block _ (by omega) (by simp; omega)).trans ((HM1.out.1.block _ (by omega) (by simp; omega)).trans HX0.out)
     obtain ⟨W4, hW4⟩ : ∃ W4, w3.alloc (.cells #[.int .i64 k, .int .i32 m, .string tx, .string nm, .string ty, .slice A l.length cap, .string ⟨#[]⟩, .int .i64 0] 26) = W4 := ⟨_, rfl⟩
     have hb4 : Below w3.heap.size w3 W4 := by rw [← hW4]; exact (Below.refl _ _).alloc (Nat.le_refl _) _
     have hy4 : Bx W4 w3.heap.size #[.int .i64 k, .int .i32 m, .string tx, .string nm, .string ty, .slice A l.length cap, .string ⟨#[]⟩, .int .i64 0] 26 := by rw [← hW4]; exact Bx.new _ _ _
     have hm4 : Mv W0 c r.2 w3 W4 := Mv.below hb4 hm.2
     obtain ⟨d2, f2⟩ := hm4.2.op
     obtain ⟨W5, hW5⟩ : ∃ W5, W4.setCell ⟨c, 2, none⟩ (.int .i64 (wrap64 (r.2.op - 1))) = W5 := ⟨_, rfl⟩
     have hm5 : Mv W0 c r.2.dec W4 W5 := by rw [← hW5]; exact hm4.2.dec
     have hy5 : Bx W5 w3.heap.size _ _ := (hm5.1.block _ hy4.lt (by simp; omega)).trans hy4
     obtain ⟨a0, a1, a2, a3, a4, a5, a6, a7⟩ := hy5.all_8
     obtain ⟨W6, hW6⟩ : ∃ W6, W5.alloc (.cells #[.int .i64 k, .int .i32 m, .string tx, .string nm, .string ty, .slice A l.length cap, .string ⟨#[]⟩, .int .i64 0] 26) = W6 := ⟨_, rfl⟩
     have hb6 : Below W5.heap.size W5 W6 := by rw [← hW6]; exact (Below.refl _ _).alloc (Nat.le_refl _) _
     have hs4 := hb4.size
     have hs5 := hm5.1.size
     have hs6 := hb6.size
     have HK5 := (HK.out.below hb4).grown hm5.1 (.inl (by omega))
     have HO6 := OwnE.one HK5 (by omega)
     simp only [cellsN] at HO6
     rw [hW6] at HO6
     have HBX6 := Lib.hid (Bx.next (Bx.grown (Bx.next HBX.out hb4) hm5.1 (by omega)) hb6)
     have hx2 := HBX6.out
     obtain ⟨r0, r1, r2, r3, r4, r5, r6, r7⟩ := hx2.all_8
     have g0 := hx2.fro 0; have g1 := hx2.fro 1; have g2 := hx2.fro 2; have g3 := hx2.fro 3; have g4 := hx2.fro 4; have g5 := hx2.fro 5; have g6 := hx2.fro 6; have g7 := hx2.fro 7
     have hg := grown_8 W6 w.heap.size (.int .i64 18) (.int .i32 0) (.string ⟨#[]⟩) (.string ⟨#[35]⟩) (.string ⟨#[]⟩) (.slice (some ⟨W5.heap.size, 0, none⟩) 1 1) (.string ⟨#[]⟩) (.int .i64 0)
     have HM6 := Lib.hid (((HM.out.trans hm4).trans hm5).trans (Mv.below hb6 hm5.2))
     have HO := Lib.hid HO6
     have HG := Lib.hid hg
     clear hm hbe hm4 hm5 hy4 hy5 hb4 hb6 hx2 hg HO6 HK5
     subst hW4
     simp only [cellsN]
     go_wp2_with fail
     obtain ⟨z0, z1, z2, z3, z4, z5, z6, z7⟩ := (HBX6.out.to_8 (.int .i64 18) (.int .i32 0) (.string ⟨#[]⟩) (.string ⟨#[35]⟩) (.string ⟨#[]⟩) (.slice (some ⟨W5.heap.size, 0, none⟩) 1 1) (.string ⟨#[]⟩) (.int .i64 0)).all_8
     (try simp only [Exit.inBlock, Exit.then])
     refine bodyPost_ret (v := .agg #[.int .i64 18, .int .i32 0, .string ⟨#[]⟩, .string ⟨#[35]⟩, .string ⟨#[]⟩, .slice (some ⟨W5.heap.size, 0, none⟩) 1 1, .string ⟨#[]⟩, .int .i64 0]) (by simp [results, Tryz.results40, go_sem, z0, z1, z2, z3, z4, z5, z6, z7]) rfl ?_
     exact ⟨.ex 18 0 ⟨#[]⟩ ⟨#[35]⟩ ⟨#[]⟩ (.slice (some ⟨W5.heap.size, 0, none⟩) 1 1) [_] ⟨#[]⟩ 0, rfl, ((HO.out.node 18 0 ⟨#[]⟩ ⟨#[35]⟩ ⟨#[]⟩ (by decide +kernel) (mk_bare (bare_one HBE.out) _ _ _ _ _)).grown HG.out (.inl (by omega))).mono (by omega), Mv.over (Below.refl _ _) HM6.out HG.out (Nat.le_refl _) hlt⟩
theorem signed_3 (n : Nat) (IH : SpecF n) (W0 w : World) (c : Nat) (s : RS) (hv : Vars W0) (h : Rd W0 c s w) (hn : enough (n + 1) .signed s) (h0 : s.sees 0 sMinus = false) (h1 : s.sees 0 sNot = false) (h2 : s.sees 0 sLen = false) : Calls Tryz.prog 40 #[.pointer (some ⟨c, 0, none⟩)] w (ExC W0 c w (run (n + 1) .signed s)) := by
 obtain ⟨r, hr⟩ : ∃ r, run n .followed s = r := ⟨_, rfl⟩
 have hsig : signOf s = none := by simp [signOf, h0, h1, h2]
 have hR : run (n + 1) .signed s = r := by simp only [run, hsig, hr]
 have hen : enough n .followed s := by simp only [enough, Md.rank] at hn ⊢; omega
 have hlt := h.lt
 have hle0 := h.le
 have T0 : Hid (∀ w', Rd W0 c s w' → Calls Tryz.prog 70 #[.pointer (some ⟨c, 0, none⟩), .string sMinus] w' fun e w'' => e = .returned (.bool false) ∧ w' = w'') := by
   show ∀ w', _
   intro w' h'; have := sees_any W0 w' c s sMinus h'; rw [h0] at this; exact this
 have T1 : Hid (∀ w', Rd W0 c s w' → Calls Tryz.prog 70 #[.pointer (some ⟨c, 0, none⟩), .string sNot] w' fun e w'' => e = .returned (.bool false) ∧ w' = w'') := by
   show ∀ w', _
   intro w' h'; have := sees_any W0 w' c s sNot h'; rw [h1] at this; exact this
 have T2 : Hid (∀ w', Rd W0 c s w' → Calls Tryz.prog 70 #[.pointer (some ⟨c, 0, none⟩), .string sLen] w' fun e w'' => e = .returned (.bool false) ∧ w' = w'') := by
   show ∀ w', _
   intro w' h'; have := sees_any W0 w' c s sLen h'; rw [h2] at this; exact this
 have HX : Hid (∀ w', Rd W0 c s w' → Calls Tryz.prog 72 #[.pointer (some ⟨c, 0, none⟩)] w' (ExC W0 c w' r)) := by
   show ∀ w', _
   intro w' h'; have := IH W0 w' c _ hv h' hen; rw [hr] at this; exact this
 have HRD := Lib.hid h
 rw [hR]
 clear hR hr hsig hen hn IH hv h h0 h1 h2
 go_enter Tryz.func40, Tryz.ntmps40
 go_wp2_with fail
 refine gen_world (fun W => Bx W w.heap.size #[.int .i64 0, .int .i32 0, .string ⟨#[]⟩, .string ⟨#[]⟩, .string ⟨#[]⟩, .slice none 0 0, .string ⟨#[]⟩, .int .i64 0] 26 ∧ Mv W0 c s w W ∧ W.heap.size = w.heap.size + 1) ?_ ?_
 · exact ⟨Bx.new _ _ _, Mv.box HRD.out _, by simp⟩
 rintro W ⟨hx, hmv, hz⟩
 have HX0 := Lib.hid hx
 have HM0 := Lib.hid hmv
 clear hx hmv
 go_loopw [7] (fun v7 wr => ∃ j : Nat, v7 = .int .i64 j ∧ j ≤ 3 ∧ wr = W) (fun v7 wr => 3 - (intOf v7).toNat)
 case atStart => exact ⟨0, rfl, by omega, rfl⟩
 case round =>
   obtain ⟨j, rfl, hj, rfl⟩ := hrel
   have hjs : j = 0 ∨ j = 1 ∨ j = 2 ∨ j = 3 := by omega
   rcases hjs with rfl | rfl | rfl | rfl
   · go_wp2_with (go_at_call 70; refine (T0.out _ HM0.out.2).mono ?_; rintro e w1 ⟨rfl, rfl⟩)
     go_roundw
     case rel => exact ⟨1, by go_num, by omega, by simp⟩
     case measure => simp [intOf]; try omega
   · go_wp2_with (go_at_call 70; refine (T1.out _ HM0.out.2).mono ?_; rintro e w1 ⟨rfl, rfl⟩)
     go_roundw
     case rel => exact ⟨2, by go_num, by omega, by simp⟩
     case measure => simp [intOf]; try omega
   · go_wp2_with (go_at_call 70; refine (T2.out _ HM0.out.2).mono ?_; rintro e w1 ⟨rfl, rfl⟩)
     go_roundw
     case rel => exact ⟨3, by go_num, by omega, by simp⟩
     case measure => simp [intOf]; try omega
   · go_wp2_with fail
     refine (HX.out _ HM0.out.2).mono ?_
     clear HX
     rintro e w2 ⟨y, rfl, hk, hm⟩
     have HK := Lib.hid hk
     obtain ⟨k, m, tx, nm, ty, A, cap, l, rfl, _, _, _⟩ := hk
     have HBX : Hid (Bx w2 w.heap.size _ _) := (hm.1.block _ (by omega) (by simp; omega)).trans HX0.out
     have hx2 := HBX.out
     obtain ⟨r0, r1, r2, r3, r4, r5, r6, r7⟩ := hx2.all_8
     have g0 := hx2.fro 0; have g1 := hx2.fro 1; have g2 := hx2.fro 2; have g3 := hx2.fro 3; have g4 := hx2.fro 4; have g5 := hx2.fro 5; have g6 := hx2.fro 6; have g7 := hx2.fro 7
     have hg := grown_8 w2 w.heap.size (.int .i64 k) (.int .i32 m) (.string tx) (.string nm) (.string ty) (.slice A l.length cap) (.string ⟨#[]⟩) (.int .i64 0)
     have HM := Lib.hid (HM0.out.trans hm)
     have HG := Lib.hid hg
     clear hm hx2 hg
     simp only [cellsN]
     go_wp2_with fail
     obtain ⟨z0, z1, z2, z3, z4, z5, z6, z7⟩ := (HBX.out.to_8 (.int .i64 k) (.int .i32 m) (.string tx) (.string nm) (.string ty) (.slice A l.length cap) (.string ⟨#[]⟩) (.int .i64 0)).all_8
     (try simp only [Exit.inBlock, Exit.then])
     refine bodyPost_ret (v := .agg #[.int .i64 k, .int .i32 m, .string tx, .string nm, .string ty, .slice A l.length cap, .string ⟨#[]⟩, .int .i64 0]) (by simp [results, Tryz.results40, go_sem, z0, z1, z2, z3, z4, z5, z6, z7]) rfl ?_
     exact ⟨_, rfl, (HK.out.grown HG.out (.inl (by omega))).mono (by omega), Mv.over (Below.refl _ _) HM.out HG.out (Nat.le_refl _) hlt⟩
end
section
open Go.RowKit
def FolAt (W0 w : World) (c b2 : Nat) (s : RS) (x : Nd) (k m : Int) (tx nm ty : ByteArray) (A : Option Addr) (cap : Nat) (l : List Nd) (w' : World) : Prop :=
 Mv W0 c s w w' ∧ Bx w' b2 #[.int .i64 k, .int .i32 m, .string tx, .string nm, .string ty, .slice A l.length cap, .string ⟨#[]⟩, .int .i64 0] 26 ∧ Bx w' w.heap.size #[.int .i64 0, .int .i32 0, .string ⟨#[]⟩, .string ⟨#[]⟩, .string ⟨#[]⟩, .slice none 0 0, .string ⟨#[]⟩, .int .i64 0] 26 ∧ ExK (w.heap.size + 1) (some b2) w' x (.ex k m tx nm ty (.slice A l.length cap) l ⟨#[]⟩ 0) ∧ w.heap.size < b2 ∧ c < w.heap.size ∧ W0.heap.size ≤ w.heap.size
section
variable {W0 w w' w'' : World} {c b2 : Nat} {s s2 : RS} {x : Nd} {k m : Int} {tx nm ty : ByteArray} {A : Option Addr} {cap : Nat} {l : List Nd}
theorem FolAt.below (h : FolAt W0 w c b2 s x k m tx nm ty A cap l w') (hb : Below w'.heap.size w' w'') : FolAt W0 w c b2 s x k m tx nm ty A cap l w'' :=
 ⟨h.1.trans (Mv.below hb h.1.2), h.2.1.next hb, h.2.2.1.next hb, h.2.2.2.1.below hb, h.2.2.2.2⟩
theorem FolAt.move (h : FolAt W0 w c b2 s x k m tx nm ty A cap l w') (hm : Mv W0 c s2 w' w'') : FolAt W0 w c b2 s2 x k m tx nm ty A cap l w'' :=
 have h1 := h.2.2.2.2.1
 have h2 := h.2.2.2.2.2
 ⟨h.1.trans hm, h.2.1.grown hm.1 (by omega), h.2.2.1.grown hm.1 (by omega), h.2.2.2.1.grown hm.1 (.inl (by omega)), h.2.2.2.2⟩
theorem ExK.bare {B : Nat} {r : Option Nat} {x y : Nd} (h : ExK B r w x y) : bareN y = bareN x := by obtain ⟨_, _, _, _, _, _, _, _, _, _, _, hb⟩ := h; exact hb
theorem FolAt.one (h : FolAt W0 w c b2 s x k m tx nm ty A cap l w') : OwnR (w.heap.size + 1) (some b2) (w'.alloc (.cells #[.int .i64 k, .int .i32 m, .string tx, .string nm, .string ty, .slice A l.length cap, .string ⟨#[]⟩, .int .i64 0] 26)) (.slice (some ⟨w'.heap.size, 0, none⟩) 1 1) [.ex k m tx nm ty (.slice A l.length cap) l ⟨#[]⟩ 0] := by
 have := OwnR.one h.2.2.2.1 (by have := h.2.1.lt; have := h.2.2.2.2.1; omega)
 simpa only [cellsN] using this
theorem FolAt.put {x' : Nd} {k' m' : Int} {tx' nm' ty' : ByteArray} {A' : Option Addr} {cap' : Nat} {l' : List Nd} (h : FolAt W0 w c b2 s x' k' m' tx' nm' ty' A' cap' l' w') (hk : ExK (w.heap.size + 1) (some b2) w' x (.ex k m tx nm ty (.slice A l.length cap) l ⟨#[]⟩ 0)) :
   FolAt W0 w c b2 s x k m tx nm ty A cap l ((((((((w'.setCell ⟨b2, 0, none⟩ (.int .i64 k)).setCell ⟨b2, 1, none⟩ (.int .i32 m)).setCell ⟨b2, 2, none⟩ (.string tx)).setCell ⟨b2, 3, none⟩ (.string nm)).setCell ⟨b2, 4, none⟩ (.string ty)).setCell ⟨b2, 5, none⟩ (.slice A l.length cap)).setCell ⟨b2, 6, none⟩ (.string ⟨#[]⟩)).setCell ⟨b2, 7, none⟩ (.int .i64 0)) := by
 have hg := grown_8 w' b2 (.int .i64 k) (.int .i32 m) (.string tx) (.string nm) (.string ty) (.slice A l.length cap) (.string ⟨#[]⟩) (.int .i64 0)
 have h1 := h.2.2.2.2.1
 have h3 := h.2.2.2.2.2.2
 exact ⟨Mv.over (Below.refl _ _) h.1 hg (by omega) h.2.2.2.2.2.1, h.2.1.to_8 (.int .i64 k) (.int .i32 m) (.string tx) (.string nm) (.string ty) (.slice A l.length cap) (.string ⟨#[]⟩) (.int .i64 0), h.2.2.1.grown hg (by omega), hk.grown hg (.inr rfl), h.2.2.2.2⟩
end
theorem followed_of (n : Nat) (IHA : SpecA n) (IHU : ∀ m, m ≤ n → SpecU m) : SpecF (n + 1) := by
 intro W0 w c s hv h hn
 obtain ⟨r, hr⟩ : ∃ r, run n .atom s = r := ⟨_, rfl⟩
 obtain ⟨RR, hRR⟩ : ∃ RR, run n (.loopF (hdE r.1)) r.2 = RR := ⟨_, rfl⟩
 have hR : run (n + 1) .followed s = RR := by simp only [run, hr, hRR]
 have hen : enough n .atom s := by simp only [enough, Md.rank] at hn ⊢; omega
 have hl1 : r.2.len ≤ s.len := by have := run_len n .atom s; rw [hr] at this; exact this
 have hen2 : enough n (.loopF (hdE r.1)) r.2 := by simp only [enough, Md.rank] at hn ⊢; omega
 have hlt := h.lt
 have hle0 := h.le
 obtain ⟨W1, hW1⟩ : ∃ W1, w.alloc (.cells #[.int .i64 0, .int .i32 0, .string ⟨#[]⟩, .string ⟨#[]⟩, .string ⟨#[]⟩, .slice none 0 0, .string ⟨#[]⟩, .int .i64 0] 26) = W1 := ⟨_, rfl⟩
 have hb : Below w.heap.size w W1 := by rw [← hW1]; exact (Below.refl _ w).alloc (Nat.le_refl _) _
 have hx : Bx W1 w.heap.size #[.int .i64 0, .int .i32 0, .string ⟨#[]⟩, .string ⟨#[]⟩, .string ⟨#[]⟩, .slice none 0 0, .string ⟨#[]⟩, .int .i64 0] 26 := by rw [← hW1]; exact Bx.new _ _ _
 have hz : W1.heap.size = w.heap.size + 1 := by rw [← hW1]; simp
 have HM0 := Lib.hid (Mv.below hb h)
 have HX0 := Lib.hid hx
 clear hb hx
 have HX := Lib.hid (IHA W0 W1 c s hv HM0.out.2 hen)
 rw [hr] at HX
 rw [hR]
 have HRR := Lib.hid hRR
 have HEN := Lib.hid hen2
 have HIH := Lib.hid IHU
 clear hR hRR hr hen hen2 hn h IHA IHU hl1
 go_enter Tryz.func72, Tryz.ntmps72
 go_wp2_with fail
 refine HX.out.mono ?_
 clear HX hW1
 rintro e w2 ⟨y, rfl, hk, hm⟩
 have hs2 := hm.1.size
 have HK := Lib.hid hk
 obtain ⟨k, m, tx, nm, ty, A, cap, l, rfl, _, _, _⟩ := hk
 have HF := Lib.hid (show FolAt W0 w c w2.heap.size r.2 (hdE r.1) k m tx nm ty A cap l (w2.alloc (.cells #[.int .i64 k, .int .i32 m, .string tx, .string nm, .string ty, .slice A l.length cap, .string ⟨#[]⟩, .int .i64 0] 26)) from
   ⟨(HM0.out.trans hm).trans (Mv.below ((Below.refl _ _).alloc (Nat.le_refl _) _) hm.2), Bx.new _ _ _, (Bx.grown HX0.out hm.1 (by omega)).next ((Below.refl _ _).alloc (Nat.le_refl _) _), (ExK.excl HK.out ((Below.refl _ _).alloc (Nat.le_refl _) _) (Nat.le_refl _)).mono (by omega), by omega, hlt, hle0⟩)
 clear hm HK HM0 HX0
 simp only [cellsN]
 go_wp2_with fail
 go_loopw [7] (fun v7 wr => ∃ (m : Nat) (x : Nd) (s' : RS) (k n' : Int) (tx nm ty : ByteArray) (A : Option Addr) (cap : Nat) (l : List Nd), m ≤ n ∧ run m (.loopF x) s' = RR ∧ enough m (.loopF x) s' ∧ FolAt W0 w c w2.heap.size s' x k n' tx nm ty A cap l wr) (fun v7 wr => lenAt wr c)
 case atStart => exact ⟨n, _, _, k, m, tx, nm, ty, A, cap, l, Nat.le_refl _, HRR.out, HEN.out, HF.out⟩
 case round =>
   obtain ⟨m, x, s', k, n', tx, nm, ty, A, cap, l, hmn, hrun, hen, hf⟩ := hrel
   obtain ⟨m, rfl⟩ : ∃ m', m = m' + 1 := ⟨m - 1, by simp only [enough, Md.rank] at hen; omega⟩
   have hla := lenAt_of hf.1.2
   have HF1 := Lib.hid hf
   have hb2 := hf.2.2.2.2.1
   have hlt2 : w2.heap.size < wr.heap.size := hf.2.1.lt
   cases h0 : s'.sees 0 sDot with
   | true =>
     have T0 := Lib.hid (take_true W0 wr c s' sDot hf.1.2 h0)
     obtain ⟨q, hq⟩ : ∃ q, run m (.used 7 10 E0 [x]) s'.skip = q := ⟨_, rfl⟩
     have hR : run (m + 1) (.loopF x) s' = run m (.loopF (hdE q.1)) q.2 := by simp only [run, h0, hq]; simp
     rw [hR] at hrun
     have h1 := sees_len h0
     have h2 := len_skip s'
     have h3 : q.2.len ≤ s'.skip.len := by have := run_len m (.used 7 10 E0 [x]) s'.skip; rw [hq] at this; exact this
     have hE : enough m (.used 7 10 E0 [x]) s'.skip := by simp only [enough, Md.rank] at hen ⊢; omega
     have hen2 : enough m (.loopF (hdE q.1)) q.2 := by simp only [enough, Md.rank] at hen ⊢; omega
     have HRUN := Lib.hid hrun
     have HEN2 := Lib.hid hen2
     have HU : Hid (∀ w', FolAt W0 w c w2.heap.size s'.skip x k n' tx nm ty A cap l w' → Calls Tryz.prog 119 #[.pointer (some ⟨c, 0, none⟩), .agg #[.int .i64 0, .int .i32 0, .string ⟨#[]⟩, .string ⟨#[]⟩, .string ⟨#[]⟩, .slice (some ⟨w'.heap.size, 0, none⟩) 1 1, .string ⟨#[]⟩, .int .i64 0], .int .i64 7, .int .i64 10] (w'.alloc (.cells #[.int .i64 k, .int .i32 n', .string tx, .string nm, .string ty, .slice A l.length cap, .string ⟨#[]⟩, .int .i64 0] 26)) (UsC W0 (w.heap.size + 1) (some w2.heap.size) c (w'.alloc (.cells #[.int .i64 k, .int .i32 n', .string tx, .string nm, .string ty, .slice A l.length cap, .string ⟨#[]⟩, .int .i64 0] 26)) q)) := by
       show ∀ w', _
       intro w' h'
       have hbw : Below w'.heap.size w' (w'.alloc (.cells #[.int .i64 k, .int .i32 n', .string tx, .string nm, .string ty, .slice A l.length cap, .string ⟨#[]⟩, .int .i64 0] 26)) := (Below.refl _ _).alloc (Nat.le_refl _) _
       have h'' := h'.below hbw
       have hll : w2.heap.size < w'.heap.size := h'.2.1.lt
       have hss := hbw.size
       have := HIH.out m (by omega) W0 _ (w.heap.size + 1) (some w2.heap.size) c s'.skip 7 10 E0 _ [x] _ hv h''.1.2 hE h'.one (bare_one (by obtain ⟨_, _, _, _, _, _, _, _, _, _, _, hb⟩ := h'.2.2.2.1; exact hb)) (by omega) (by omega) ⟨_, rfl⟩ (Nat.le_refl _) (Nat.zero_le _) (by
         intro g hg
         injection hg with hg
         subst hg
         exact ⟨by omega, by simp [Value.ownBlock]; omega⟩)
       rw [hq] at this
       exact this
     clear hR hrun hen hE hen2 hq hf h0
     go_wp2_with fail
     refine T0.out.mono ?_
     clear T0
     rintro e w3 ⟨rfl, hm⟩
     have HF2 := Lib.hid (HF1.out.move hm)
     obtain ⟨a0, a1, a2, a3, a4, a5, a6, a7⟩ := HF2.out.2.1.all_8
     clear hm
     go_wp2_with fail
     refine (HU.out _ HF2.out).mono ?_
     clear HU a0 a1 a2 a3 a4 a5 a6 a7
     rintro e w5 ⟨y, rfl, hk, hm⟩
     have HF3 := Lib.hid ((HF2.out.below ((Below.refl _ _).alloc (Nat.le_refl _) _)).move hm)
     have HK := Lib.hid hk
     obtain ⟨k3, m3, tx3, nm3, ty3, A3, cap3, l3, rfl, _, _, _⟩ := hk
     have HF4 := Lib.hid (HF3.out.put HK.out)
     obtain ⟨r0, r1, r2, r3, r4, r5, r6, r7⟩ := HF3.out.2.1.all_8
     have g0 := HF3.out.2.1.fro 0; have g1 := HF3.out.2.1.fro 1; have g2 := HF3.out.2.1.fro 2; have g3 := HF3.out.2.1.fro 3; have g4 := HF3.out.2.1.fro 4; have g5 := HF3.out.2.1.fro 5; have g6 := HF3.out.2.1.fro 6; have g7 := HF3.out.2.1.fro 7
     clear hm
     simp only [cellsN]
     go_wp2_with fail
     go_roundw
     case rel => exact ⟨m, _, _, _, _, _, _, _, _, _, _, by omega, HRUN.out, HEN2.out, HF4.out⟩
     case measure => rw [hla, lenAt_of HF4.out.1.2]; omega
   | false =>
     cases h1 : s'.sees 0 sAs with
     | true =>
       have T0 := Lib.hid (take_false W0 wr c s' sDot hf.1.2 h0)
       have T1 := Lib.hid (take_true W0 wr c s' sAs hf.1.2 h1)
       have hR : run (m + 1) (.loopF x) s' = run m (.loopF (mkE 15 0 E0 E0 s'.skip.classV [x])) s'.skip.class := by simp only [run, h0, h1]; simp
       rw [hR] at hrun
       have h7 := sees_len h1
       have h8 := len_skip s'
       have h9 := len_class s'.skip
       have hcl := class_len s'.skip
       have hen2 : enough m (.loopF (mkE 15 0 E0 E0 s'.skip.classV [x])) s'.skip.class := by simp only [enough, Md.rank] at hen ⊢; omega
       obtain ⟨cl, hcle⟩ : ∃ cl, s'.skip.classV = cl := ⟨_, rfl⟩
       have HC : Hid (∀ w', FolAt W0 w c w2.heap.size s'.skip x k n' tx nm ty A cap l w' → Calls Tryz.prog 57 #[.pointer (some ⟨c, 0, none⟩)] w' fun e w'' => e = .returned (.string cl) ∧ Mv W0 c s'.skip.class w' w'' ∧ FolAt W0 w c w2.heap.size s'.skip.class x k n' tx nm ty A cap l w'') := by
         show ∀ w', _
         intro w' h'
         refine (classR_any W0 w' c _ h'.1.2).mono ?_
         rintro e w'' ⟨rfl, hm⟩
         exact ⟨by rw [hcle], hm, h'.move hm⟩
       rw [hcle] at hcl hrun hen2
       have HRUN := Lib.hid hrun
       have HEN2 := Lib.hid hen2
       clear hR hrun hen hen2 hf hcle h0 h1
       go_wp2_with fail
       refine T0.out.mono ?_
       clear T0
       rintro e w0 ⟨rfl, rfl⟩
       go_wp2_with fail
       refine T1.out.mono ?_
       clear T1
       rintro e w3 ⟨rfl, hm⟩
       have HF2 := Lib.hid (HF1.out.move hm)
       have HFD : Hid (FolAt W0 w c w2.heap.size s'.skip x k n' tx nm ty A cap l w3.drew) := Lib.hid (HF2.out.below (Below.refl _ _).drew)
       have HFA := Lib.hid (HFD.out.below ((Below.refl _ _).alloc (Nat.le_refl _) (.cells #[.int .i64 k, .int .i32 n', .string tx, .string nm, .string ty, .slice A l.length cap, .string ⟨#[]⟩, .int .i64 0] 26)))
       have HOA := Lib.hid HFD.out.one
       obtain ⟨a0, a1, a2, a3, a4, a5, a6, a7⟩ := HF2.out.2.1.all_8
       have hlt3 : w2.heap.size < w3.drew.heap.size := HFD.out.2.1.lt
       clear hm
       go_wp2_with fail
       go_region_with (go_at_call 57; refine (HC.out _ (by first | exact HFD.out | exact HFA.out)).mono ?_; rintro e w4 ⟨rfl, hm, hf4⟩; have HMC := Lib.hid hm; have HF4 := Lib.hid hf4; obtain ⟨W5, hW5⟩ : ∃ W5, w4.alloc (.cells #[.int .i64 k, .int .i32 n', .string tx, .string nm, .string ty, .slice A l.length cap, .string ⟨#[]⟩, .int .i64 0] 26) = W5 := ⟨_, rfl⟩; have hb5 : Below w4.heap.size w4 W5 := by { rw [← hW5]; exact (Below.refl _ _).alloc (Nat.le_refl _) _ }; have HF5 := Lib.hid (hf4.below hb5); have HO5 := Lib.hid hf4.one; rw [hW5] at HO5; obtain ⟨b0, b1, b3, b4, b5, b6, b7, b8⟩ := hf4.2.1.all_8; obtain ⟨r0, r1, r2, r3, r4, r5, r6, r7⟩ := HF5.out.2.1.all_8; have d0 := hf4.2.1.fro 0; have d1 := hf4.2.1.fro 1; have d2 := hf4.2.1.fro 2; have d3 := hf4.2.1.fro 3; have d4 := hf4.2.1.fro 4; have d5 := hf4.2.1.fro 5; have d6 := hf4.2.1.fro 6; have d7 := hf4.2.1.fro 7; have g0 := HF5.out.2.1.fro 0; have g1 := HF5.out.2.1.fro 1; have g2 := HF5.out.2.1.fro 2; have g3 := HF5.out.2.1.fro 3; have g4 := HF5.out.2.1.fro 4; have g5 := HF5.out.2.1.fro 5; have g6 := HF5.out.2.1.fro 6; have g7 := HF5.out.2.1.fro 7; have hlt4 := hf4.2.1.lt; clear hm hf4 hb5)
       all_goals
         have HK6 : Hid (bareN (mkE 15 0 E0 E0 cl [x]) = .ex 15 0 ⟨#[]⟩ ⟨#[]⟩ cl (.slice none 0 0) (bareL [Nd.ex k n' tx nm ty (.slice A l.length cap) l ⟨#[]⟩ 0]) ⟨#[]⟩ 0) := Lib.hid (mk_bare (bare_one HF2.out.2.2.2.1.bare) _ _ _ _ _)
         have hnA : ∀ g, some w2.heap.size = some g → (Value.slice (some ⟨w3.drew.heap.size, 0, none⟩) 1 1).ownBlock ≠ some g := by intro g hg; injection hg with hg; subst hg; simp only [Value.ownBlock, ne_eq, Option.some.injEq]; omega
         have hn4 : ∀ g, some w2.heap.size = some g → (Value.slice (some ⟨w4.heap.size, 0, none⟩) 1 1).ownBlock ≠ some g := by intro g hg; injection hg with hg; subst hg; simp only [Value.ownBlock, ne_eq, Option.some.injEq]; omega
         have hcc : c < w.heap.size + 1 := by omega
         have hszz : (⟨#[]⟩ : ByteArray).size ≤ maxLen ∧ (⟨#[]⟩ : ByteArray).size ≤ maxLen ∧ cl.size ≤ maxLen := ⟨Nat.zero_le _, Nat.zero_le _, hcl⟩
         have hmn' : m ≤ n := by omega
         clear a0 a1 a2 a3 a4 a5 a6 a7
         go_wp2_with fail
         first
           | (have hk6 := (HOA.out.grown HMC.out.1 hcc).node hnA 15 0 ⟨#[]⟩ ⟨#[]⟩ cl hszz HK6.out
              have HF6 := Lib.hid (HF4.out.put (l := [_]) hk6)
              go_roundw
              case rel => exact ⟨m, _, _, _, _, _, _, _, _, _, _, hmn', HRUN.out, HEN2.out, HF6.out⟩
              case measure => (refine Nat.lt_of_le_of_lt (Nat.le_of_eq (lenAt_of HF6.out.1.2)) ?_; rw [hla]; omega))
           | (have hk6 := HO5.out.node hn4 15 0 ⟨#[]⟩ ⟨#[]⟩ cl hszz HK6.out
              have HF6 := Lib.hid (HF5.out.put (l := [_]) hk6)
              go_roundw
              case rel => exact ⟨m, _, _, _, _, _, _, _, _, _, _, hmn', HRUN.out, HEN2.out, HF6.out⟩
              case measure => (refine Nat.lt_of_le_of_lt (Nat.le_of_eq (lenAt_of HF6.out.1.2)) ?_; rw [hla]; omega))
     | false =>
       cases h2 : s'.sees 0 sIs with
       | true =>
         have T0 := Lib.hid (take_false W0 wr c s' sDot hf.1.2 h0)
         have T1 := Lib.hid (take_false W0 wr c s' sAs hf.1.2 h1)
         have T2 := Lib.hid (take_true W0 wr c s' sIs hf.1.2 h2)
         have hR : run (m + 1) (.loopF x) s' = run m (.loopF (mkE 16 0 E0 E0 s'.skip.classV [x])) s'.skip.class := by simp only [run, h0, h1, h2]; simp
         rw [hR] at hrun
         have h7 := sees_len h2
         have h8 := len_skip s'
         have h9 := len_class s'.skip
         have hcl := class_len s'.skip
         have hen2 : enough m (.loopF (mkE 16 0 E0 E0 s'.skip.classV [x])) s'.skip.class := by simp only [enough, Md.rank] at hen ⊢; omega
         obtain ⟨cl, hcle⟩ : ∃ cl, s'.skip.classV = cl := ⟨_, rfl⟩
         have HC : Hid (∀ w', FolAt W0 w c w2.heap.size s'.skip x k n' tx nm ty A cap l w' → Calls Tryz.prog 57 #[.pointer (some ⟨c, 0, none⟩)] w' fun e w'' => e = .returned (.string cl) ∧ Mv W0 c s'.skip.class w' w'' ∧ FolAt W0 w c w2.heap.size s'.skip.class x k n' tx nm ty A cap l w'') := by
           show ∀ w', _
           intro w' h'
           refine (classR_any W0 w' c _ h'.1.2).mono ?_
           rintro e w'' ⟨rfl, hm⟩
           exact ⟨by rw [hcle], hm, h'.move hm⟩
         rw [hcle] at hcl hrun hen2
         have HRUN := Lib.hid hrun
         have HEN2 := Lib.hid hen2
         clear hR hrun hen hen2 hf hcle h0 h1 h2
         go_wp2_with fail
         refine T0.out.mono ?_
         clear T0
         rintro e w0 ⟨rfl, rfl⟩
         go_wp2_with fail
         refine T1.out.mono ?_
         clear T1
         rintro e w0 ⟨rfl, rfl⟩
         go_wp2_with fail
         refine T2.out.mono ?_
         clear T2
         rintro e w3 ⟨rfl, hm⟩
         have HF2 := Lib.hid (HF1.out.move hm)
         have HFD : Hid (FolAt W0 w c w2.heap.size s'.skip x k n' tx nm ty A cap l w3.drew) := Lib.hid (HF2.out.below (Below.refl _ _).drew)
         have HFA := Lib.hid (HFD.out.below ((Below.refl _ _).alloc (Nat.le_refl _) (.cells #[.int .i64 k, .int .i32 n', .string tx, .string nm, .string ty, .slice A l.length cap, .string ⟨#[]⟩, .int .i64 0] 26)))
         have HOA := Lib.hid HFD.out.one
         obtain ⟨a0, a1, a2, a3, a4, a5, a6, a7⟩ := HF2.out.2.1.all_8
         have hlt3 : w2.heap.size < w3.drew.heap.size := HFD.out.2.1.lt
         clear hm
         go_wp2_with fail
         go_region_with (go_at_call 57; refine (HC.out _ (by first | exact HFD.out | exact HFA.out)).mono ?_; rintro e w4 ⟨rfl, hm, hf4⟩; have HMC := Lib.hid hm; have HF4 := Lib.hid hf4; obtain ⟨W5, hW5⟩ : ∃ W5, w4.alloc (.cells #[.int .i64 k, .int .i32 n', .string tx, .string nm, .string ty, .slice A l.length cap, .string ⟨#[]⟩, .int .i64 0] 26) = W5 := ⟨_, rfl⟩; have hb5 : Below w4.heap.size w4 W5 := by { rw [← hW5]; exact (Below.refl _ _).alloc (Nat.le_refl _) _ }; have HF5 := Lib.hid (hf4.below hb5); have HO5 := Lib.hid hf4.one; rw [hW5] at HO5; obtain ⟨b0, b1, b3, b4, b5, b6, b7, b8⟩ := hf4.2.1.all_8; obtain ⟨r0, r1, r2, r3, r4, r5, r6, r7⟩ := HF5.out.2.1.all_8; have d0 := hf4.2.1.fro 0; have d1 := hf4.2.1.fro 1; have d2 := hf4.2.1.fro 2; have d3 := hf4.2.1.fro 3; have d4 := hf4.2.1.fro 4; have d5 := hf4.2.1.fro 5; have d6 := hf4.2.1.fro 6; have d7 := hf4.2.1.fro 7; have g0 := HF5.out.2.1.fro 0; have g1 := HF5.out.2.1.fro 1; have g2 := HF5.out.2.1.fro 2; have g3 := HF5.out.2.1.fro 3; have g4 := HF5.out.2.1.fro 4; have g5 := HF5.out.2.1.fro 5; have g6 := HF5.out.2.1.fro 6; have g7 := HF5.out.2.1.fro 7; have hlt4 := hf4.2.1.lt; clear hm hf4 hb5)
         all_goals
           have HK6 : Hid (bareN (mkE 16 0 E0 E0 cl [x]) = .ex 16 0 ⟨#[]⟩ ⟨#[]⟩ cl (.slice none 0 0) (bareL [Nd.ex k n' tx nm ty (.slice A l.length cap) l ⟨#[]⟩ 0]) ⟨#[]⟩ 0) := Lib.hid (mk_bare (bare_one HF2.out.2.2.2.1.bare) _ _ _ _ _)
           have hnA : ∀ g, some w2.heap.size = some g → (Value.slice (some ⟨w3.drew.heap.size, 0, none⟩) 1 1).ownBlock ≠ some g := by intro g hg; injection hg with hg; subst hg; simp only [Value.ownBlock, ne_eq, Option.some.injEq]; omega
           have hn4 : ∀ g, some w2.heap.size = some g → (Value.slice (some ⟨w4.heap.size, 0, none⟩) 1 1).ownBlock ≠ some g := by intro g hg; injection hg with hg; subst hg; simp only [Value.ownBlock, ne_eq, Option.some.injEq]; omega
           have hcc : c < w.heap.size + 1 := by omega
           have hszz : (⟨#[]⟩ : ByteArray).size ≤ maxLen ∧ (⟨#[]⟩ : ByteArray).size ≤ maxLen ∧ cl.size ≤ maxLen := ⟨Nat.zero_le _, Nat.zero_le _, hcl⟩
           have hmn' : m ≤ n := by omega
           clear a0 a1 a2 a3 a4 a5 a6 a7
           go_wp2_with fail
           first
             | (have hk6 := (HOA.out.grown HMC.out.1 hcc).node hnA 16 0 ⟨#[]⟩ ⟨#[]⟩ cl hszz HK6.out
                have HF6 := Lib.hid (HF4.out.put (l := [_]) hk6)
                go_roundw
                case rel => exact ⟨m, _, _, _, _, _, _, _, _, _, _, hmn', HRUN.out, HEN2.out, HF6.out⟩
                case measure => (refine Nat.lt_of_le_of_lt (Nat.le_of_eq (lenAt_of HF6.out.1.2)) ?_; rw [hla]; omega))
             | (have hk6 := HO5.out.node hn4 16 0 ⟨#[]⟩ ⟨#[]⟩ cl hszz HK6.out
                have HF6 := Lib.hid (HF5.out.put (l := [_]) hk6)
                go_roundw
                case rel => exact ⟨m, _, _, _, _, _, _, _, _, _, _, hmn', HRUN.out, HEN2.out, HF6.out⟩
                case measure => (refine Nat.lt_of_le_of_lt (Nat.le_of_eq (lenAt_of HF6.out.1.2)) ?_; rw [hla]; omega))
       | false =>
         have T0 := Lib.hid (take_false W0 wr c s' sDot hf.1.2 h0)
         have T1 := Lib.hid (take_false W0 wr c s' sAs hf.1.2 h1)
         have T2 := Lib.hid (take_false W0 wr c s' sIs hf.1.2 h2)
         have hR : run (m + 1) (.loopF x) s' = ([x], s') := by simp only [run, h0, h1, h2]; simp
         rw [hR] at hrun
         subst hrun
         have HF3 := HF1
         clear hR hen hf h0 h1 h2
         go_wp2_with fail
         refine T0.out.mono ?_
         clear T0
         rintro e w0 ⟨rfl, rfl⟩
         go_wp2_with fail
         refine T1.out.mono ?_
         clear T1
         rintro e w0 ⟨rfl, rfl⟩
         go_wp2_with fail
         refine T2.out.mono ?_
         clear T2
         rintro e w0 ⟨rfl, rfl⟩
         have hx2 := HF3.out.2.2.1
         obtain ⟨r0, r1, r2, r3, r4, r5, r6, r7⟩ := hx2.all_8
         have g0 := hx2.fro 0; have g1 := hx2.fro 1; have g2 := hx2.fro 2; have g3 := hx2.fro 3; have g4 := hx2.fro 4; have g5 := hx2.fro 5; have g6 := hx2.fro 6; have g7 := hx2.fro 7
         obtain ⟨a0, a1, a2, a3, a4, a5, a6, a7⟩ := HF3.out.2.1.all_8
         have HG := Lib.hid (grown_8 wr w.heap.size (.int .i64 k) (.int .i32 n') (.string tx) (.string nm) (.string ty) (.slice A l.length cap) (.string ⟨#[]⟩) (.int .i64 0))
         clear hx2
         go_wp2_with fail
         obtain ⟨z0, z1, z2, z3, z4, z5, z6, z7⟩ := (HF3.out.2.2.1.to_8 (.int .i64 k) (.int .i32 n') (.string tx) (.string nm) (.string ty) (.slice A l.length cap) (.string ⟨#[]⟩) (.int .i64 0)).all_8
         (try simp only [Exit.inBlock, Exit.then])
         refine bodyPost_ret (v := .agg #[.int .i64 k, .int .i32 n', .string tx, .string nm, .string ty, .slice A l.length cap, .string ⟨#[]⟩, .int .i64 0]) (by simp [results, Tryz.results72, go_sem, z0, z1, z2, z3, z4, z5, z6, z7]) rfl ?_
         exact ⟨_, rfl, (HF3.out.2.2.2.1.free.grown HG.out (.inl (by omega))).mono (by omega), Mv.over (Below.refl _ _) HF3.out.1 HG.out (Nat.le_refl _) hlt⟩
end
end Go.Proofs.YtaclhdpjkgoadaaGreatDoor
