/- Parts of the proof: MayL, RefP, MayF, MayS0. -/
import Derived.Test.YtnbfajmdfkgebaaGreatDoorP12
import Derived.Test.YtnbfajmdfkgebaaGreatDoorP7
import Derived.Test.YtnbfajmdfkgebaaGreatDoorP9
import Derived.Test.YtnbfajmdfkgebaaGreatDoorP2
import Derived.Test.YtnbfajmdfkgebaaGreatDoorP19
import Derived.Deep.RegionHeld3
set_option maxHeartbeats 2000000
set_option maxRecDepth 100000
namespace Go.Proofs.YtnbfajmdfkgebaaGreatDoor
set_option linter.unusedSimpArgs false
set_option linter.unusedVariables false
section
open Go.RowKit
theorem ret_bool' {a b : Bool} (h : a = b) : Ending.returned (.bool a) = .returned (.bool b) := by rw [h]
theorem rtype_any (s : ByteArray) (w : World) (hs : s.size ≤ maxLen) : Calls Tryz.prog 19 #[.string s] w fun e w' => e = .returned (.bool (valT s)) ∧ w = w' := by
 have HC := Lib.hid (rclass_any s w hs)
 obtain ⟨q, hq⟩ : ∃ q, classOk s = q := ⟨_, rfl⟩
 rw [hq] at HC
 obtain ⟨q0, h0⟩ : ∃ q, (s.toList == [105, 110, 116]) = q := ⟨_, rfl⟩
 obtain ⟨q1, h1⟩ : ∃ q, (s.toList == [98, 111, 111, 108, 101, 97, 110]) = q := ⟨_, rfl⟩
 obtain ⟨q2, h2⟩ : ∃ q, (s.toList == [83, 116, 114, 105, 110, 103]) = q := ⟨_, rfl⟩
 have HR := Lib.hid (show valT s = (q0 || (q1 || (q2 || q))) by unfold valT; rw [h0, h1, h2, hq])
 rw [HR.out]
 go_enter Tryz.func19, Tryz.ntmps19
 go_wp2_with (go_at_call 18; refine HC.out.mono ?_; clear HC; rintro e w1 ⟨rfl, rfl⟩)
 all_goals go_ret
 all_goals exact ⟨ret_bool' (by simp_all), rfl⟩
theorem rleft_any (k : Int) (w : World) : Calls Tryz.prog 99 #[.int .i64 k] w fun e w' => e = .returned (.bool (setB k)) ∧ w = w' := by
 go_enter Tryz.func99, Tryz.ntmps99
 go_wp2_with fail
 all_goals go_ret
 all_goals exact ⟨ret_bool' (by rw [Bool.eq_iff_iff]; simp_all [setB] <;> omega), rfl⟩
theorem rcalled_any (k : Int) (w : World) : Calls Tryz.prog 100 #[.int .i64 k] w fun e w' => e = .returned (.bool (calB k)) ∧ w = w' := by
 go_enter Tryz.func100, Tryz.ntmps100
 go_wp2_with fail
 all_goals go_ret
 all_goals exact ⟨ret_bool' (by rw [Bool.eq_iff_iff]; simp_all [calB] <;> omega), rfl⟩
def hasNameB (k : Int) : Bool := decide (6 ≤ k ∧ k ≤ 13 ∨ k = 17 ∨ k = 18)
def hasClassB (k : Int) : Bool := decide (k = 9 ∨ k = 13 ∨ k = 14 ∨ k = 15 ∨ k = 16)
theorem hasName_any (k : Int) (w : World) : Calls Tryz.prog 46 #[.int .i64 k] w fun e w' => e = .returned (.bool (hasNameB k)) ∧ w = w' := by
 go_enter Tryz.func46, Tryz.ntmps46
 go_wp2_with fail
 all_goals go_ret
 all_goals exact ⟨ret_bool' (by rw [Bool.eq_iff_iff]; simp_all [hasNameB] <;> omega), rfl⟩
theorem hasClass_any (k : Int) (w : World) : Calls Tryz.prog 47 #[.int .i64 k] w fun e w' => e = .returned (.bool (hasClassB k)) ∧ w = w' := by
 go_enter Tryz.func47, Tryz.ntmps47
 go_wp2_with fail
 all_goals go_ret
 all_goals exact ⟨ret_bool' (by rw [Bool.eq_iff_iff]; simp_all [hasClassB] <;> omega), rfl⟩
theorem runary_any (s : ByteArray) (w : World) : Calls Tryz.prog 45 #[.string s] w fun e w' => e = .returned (.bool (unB s)) ∧ w = w' := by
 go_enter Tryz.func45, Tryz.ntmps45
 go_wp2_with fail
 all_goals (go_ret; exact ⟨by simp_all [unB, Bool.or_assoc], rfl⟩)
def binTexts : List ByteArray := [⟨#[43]⟩, ⟨#[45]⟩, ⟨#[42]⟩, ⟨#[47]⟩, ⟨#[37]⟩, ⟨#[64]⟩, ⟨#[60]⟩, ⟨#[60, 61]⟩, ⟨#[61, 61]⟩, ⟨#[33, 61]⟩, ⟨#[38, 38]⟩, ⟨#[124, 124]⟩]
theorem bin_in (s : ByteArray) : hasText binTexts s = binB s := by
 rw [Bool.eq_iff_iff]
 simp [hasText, binTexts, binB]
 rw [Lib.toList_data]
theorem rbinary_any (s : ByteArray) (w : World) : Calls Tryz.prog 44 #[.string s] w fun e w' => e = .returned (.bool (binB s)) ∧ Below w.heap.size w w' := by
 rw [← bin_in]
 go_enter Tryz.func44, Tryz.ntmps44
 go_wp2_with (go_at_call 66; refine (in_any _ _ _ _ binTexts _ _ rfl (by decide) (cells_lit _ _ _ _ rfl)).mono ?_; rintro e w' ⟨rfl, rfl⟩)
 go_ret
 exact ⟨rfl, (Below.refl _ w).alloc (Nat.le_refl _) _⟩
end
section
open Go.RowKit
def ExprsRef (s : Nat) : Prop := ∀ (w : World) (v : Value) (l : List Nd), sizeL l ≤ s → Rw w .ex v l → KdL w l → Calls Tryz.prog 37 #[v] w fun e w' => e = .returned (.int .i64 (sizeL l : Nat)) ∧ Below w.heap.size w w'
theorem ref_expr_of (s : Nat) (hs : s ≤ 1000000) (IH : ExprsRef s) (w : World) (k n : Int) (tx nm ty : ByteArray) (nv : Value) (l : List Nd) (own : ByteArray) (nth : Int) (hk : Kd w (.ex k n tx nm ty nv l own nth)) (hl : sizeL l ≤ s) :
   Calls Tryz.prog 64 #[.agg #[.int .i64 k, .int .i32 n, .string tx, .string nm, .string ty, nv, .string own, .int .i64 nth]] w fun e w' => e = .returned (.int .i64 ((Nd.ex k n tx nm ty nv l own nth).size : Nat)) ∧ Below w.heap.size w w' := by
 rw [Kd] at hk
 obtain ⟨A, cap, rfl⟩ := hk.2.1.form
 have K := keep_alloc w (.cells #[.int .i64 k, .int .i32 n, .string tx, .string nm, .string ty, .slice A l.length cap, .string own, .int .i64 nth] 36)
 have HI := Lib.hid (IH _ _ l hl (hk.2.1.keep K) (KdL.keep K _ hk.2.2))
 have c5 : (w.alloc (.cells #[.int .i64 k, .int .i32 n, .string tx, .string nm, .string ty, .slice A l.length cap, .string own, .int .i64 nth] 36)).cell? ⟨w.heap.size, 5, none⟩ = some (.slice A l.length cap) := by simp [go_sem]
 have hz : ((Nd.ex k n tx nm ty (.slice A l.length cap) l own nth).size : Int) = 1 + (sizeL l : Nat) := by simp [Nd.size]
 rw [hz]
 clear hk K IH hz
 go_enter Tryz.func64, Tryz.ntmps64
 go_wp2_with (go_at_call 37; refine HI.out.mono ?_; clear HI; rintro e w1 ⟨rfl, hb⟩)
 have hb2 := below_box hb
 go_ret
 exact ⟨rfl, hb2⟩
theorem ref_exprs_any : ∀ s, s ≤ 1000000 → ExprsRef s := by
 intro s
 induction s using Nat.strongRecOn with
 | ind s ih =>
   intro hs w v l hl hr hk
   obtain ⟨A, cap, rfl⟩ := hr.form
   obtain ⟨n, hn⟩ : ∃ n, l.length = n := ⟨_, rfl⟩
   obtain ⟨N, hN⟩ : ∃ N, sizeL l = N := ⟨_, rfl⟩
   have hm : n ≤ 1000000 := by have := len_sizeL l; omega
   rw [hn] at hr ⊢
   rw [hN] at hl ⊢
   have HR := Lib.hid hr; have HK := Lib.hid hk; have HN := Lib.hid hN; have HLN := Lib.hid hn
   clear hr hk hN hn
   go_enter Tryz.func37, Tryz.ntmps37
   go_wp2
   go_loopw [3, 4] (fun v3 v4 wr => ∃ k : Nat, v4 = .int .i64 k ∧ k ≤ n ∧ v3 = .int .i64 (sizeL (l.take k) : Nat) ∧ Below w.heap.size w wr) (fun v3 v4 wr => n - (intOf v4).toNat)
   case atStart => exact ⟨0, rfl, Nat.zero_le _, rfl, Below.refl _ _⟩
   case round =>
     obtain ⟨k, rfl, hkn, rfl, hB⟩ := hrel
     by_cases hlt : k < n
     · have K := Keep.below hB
       obtain ⟨b, o, x, rfl, hx, hxt, hc⟩ := (HR.out.keep K).get hlt
       have hxk := KdL.mem_get (KdL.keep K _ HK.out) hx
       cases x <;> first | (simp [Nd.tag] at hxt; done) | skip
       rename_i xk xn xtx xnm xty xv xl xown xnth
       have c0 := hc 0 _ rfl; have c1 := hc 1 _ rfl; have c2 := hc 2 _ rfl; have c3 := hc 3 _ rfl; have c4 := hc 4 _ rfl; have c5 := hc 5 _ rfl; have c6 := hc 6 _ rfl; have c7 := hc 7 _ rfl
       simp only [Tg.sz, Nat.add_zero] at c0 c1 c2 c3 c4 c5 c6 c7
       have hz := sizeL_take_succ hx
       have hle := sizeL_take_le l (k + 1)
       rw [HN.out] at hle
       have hsz : (Nd.ex xk xn xtx xnm xty xv xl xown xnth).size = 1 + sizeL xl := by simp [Nd.size]
       obtain ⟨m, hm'⟩ : ∃ m, sizeL (l.take k) = m := ⟨_, rfl⟩
       obtain ⟨q, hq⟩ : ∃ q, (Nd.ex xk xn xtx xnm xty xv xl xown xnth).size = q := ⟨_, rfl⟩
       have HX := Lib.hid (ref_expr_of (s - 1) (by omega) (ih (s - 1) (by omega) (by omega)) wr xk xn xtx xnm xty xv xl xown xnth hxk (by omega))
       rw [hq] at HX
       obtain ⟨xA, xcap, rfl⟩ := (by rw [Kd] at hxk; exact hxk.2.1.form : ∃ A cap, xv = .slice A xl.length cap)
       rw [hm', hq] at hz
       rw [hz] at hle
       rw [hm']
       have HZ := Lib.hid hz
       have HB := Lib.hid hB
       clear hc hxk hx hz hm' hq hsz hxt K hB ih
       go_wp2_with (go_at_call 64; refine HX.out.mono ?_; clear HX; rintro e w1 ⟨rfl, hb⟩)
       have hB1 := HB.out.trans (hb.mono HB.out.size)
       clear hb
       go_roundw
       case rel => exact ⟨k + 1, by go_num, by omega, by rw [HZ.out]; go_num, hB1⟩
       case measure => simp [intOf]; omega
     · have hkl : l.take k = l := List.take_of_length_le (by rw [HLN.out]; omega)
       rw [hkl, HN.out]
       clear ih hkl
       go_wp2
       go_ret
       exact ⟨rfl, hB⟩
theorem wrap5 (m e a b c : Nat) (h : m + (1 + (e + a + b + c)) ≤ 1000000) : IntKind.i64.wrap (IntKind.i64.wrap (IntKind.i64.wrap (IntKind.i64.wrap (IntKind.i64.wrap ((m : Int) + 1) + (e : Int)) + (a : Int)) + (b : Int)) + (c : Int)) = ((m + (1 + (e + a + b + c)) : Nat) : Int) := by
 have hw : ∀ z : Int, 0 ≤ z → z ≤ 2000000 → IntKind.i64.wrap z = z := by intro z h1 h2; rw [IntKind.wrap_i64]; omega
 rw [hw (m + 1) (by omega) (by omega), hw (m + 1 + e) (by omega) (by omega), hw (m + 1 + e + a) (by omega) (by omega), hw (m + 1 + e + a + b) (by omega) (by omega), hw (m + 1 + e + a + b + c) (by omega) (by omega)]
 omega
def StmtsRef (s : Nat) : Prop := ∀ (w : World) (v : Value) (l : List Nd), sizeL l ≤ s → Rw w .st v l → KdL w l → Calls Tryz.prog 38 #[v] w fun e w' => e = .returned (.int .i64 (sizeL l : Nat)) ∧ Below w.heap.size w w'
theorem ref_stmts_any : ∀ s, s ≤ 1000000 → StmtsRef s := by
 intro s
 induction s using Nat.strongRecOn with
 | ind s ih =>
   intro hs w v l hl hr hk
   obtain ⟨A, cap, rfl⟩ := hr.form
   obtain ⟨n, hn⟩ : ∃ n, l.length = n := ⟨_, rfl⟩
   obtain ⟨N, hN⟩ : ∃ N, sizeL l = N := ⟨_, rfl⟩
   have hm : n ≤ 1000000 := by have := len_sizeL l; omega
   rw [hn] at hr ⊢
   rw [hN] at hl ⊢
   have HR := Lib.hid hr; have HK := Lib.hid hk; have HN := Lib.hid hN; have HLN := Lib.hid hn
   clear hr hk hN hn
   go_enter Tryz.func38, Tryz.ntmps38
   go_wp2
   go_loopw [3, 4] (fun v3 v4 wr => ∃ k : Nat, v4 = .int .i64 k ∧ k ≤ n ∧ v3 = .int .i64 (sizeL (l.take k) : Nat) ∧ Below w.heap.size w wr) (fun v3 v4 wr => n - (intOf v4).toNat)
   case atStart => exact ⟨0, rfl, Nat.zero_le _, rfl, Below.refl _ _⟩
   case round =>
     obtain ⟨k, rfl, hkn, rfl, hB⟩ := hrel
     by_cases hlt : k < n
     · have K := Keep.below hB
       obtain ⟨b, o, x, rfl, hx, hxt, hc⟩ := (HR.out.keep K).get hlt
       have hxk := KdL.mem_get (KdL.keep K _ HK.out) hx
       cases x <;> first | (simp [Nd.tag] at hxt; done) | skip
       rename_i xk xn xty xnm ve va vb vc e a b' c nth
       have c4 := hc 4 _ rfl; have c5 := hc 5 _ rfl; have c6 := hc 6 _ rfl; have c7 := hc 7 _ rfl
       simp only [Tg.sz] at c4 c5 c6 c7
       have hz := sizeL_take_succ hx
       have hle := sizeL_take_le l (k + 1)
       rw [HN.out] at hle
       have hsz : (Nd.st xk xn xty xnm ve va vb vc e a b' c nth).size = 1 + (sizeL e + sizeL a + sizeL b' + sizeL c) := by simp [Nd.size]
       obtain ⟨m, hm'⟩ : ∃ m, sizeL (l.take k) = m := ⟨_, rfl⟩
       rw [Kd] at hxk
       have HE : Hid (∀ w', Below wr.heap.size wr w' → Calls Tryz.prog 37 #[ve] w' fun r w'' => r = .returned (.int .i64 (sizeL e : Nat)) ∧ Below w'.heap.size w' w'') := by
         show ∀ w', _
         intro w' hb; exact ref_exprs_any (sizeL e) (by omega) w' ve e (Nat.le_refl _) (hxk.2.1.1.keep (Keep.below hb)) (KdL.keep (Keep.below hb) _ hxk.2.1.2)
       have HA : Hid (∀ w', Below wr.heap.size wr w' → Calls Tryz.prog 38 #[va] w' fun r w'' => r = .returned (.int .i64 (sizeL a : Nat)) ∧ Below w'.heap.size w' w'') := by
         show ∀ w', _
         intro w' hb; exact ih (sizeL a) (by omega) (by omega) w' va a (Nat.le_refl _) (hxk.2.2.1.1.keep (Keep.below hb)) (KdL.keep (Keep.below hb) _ hxk.2.2.1.2)
       have HBb : Hid (∀ w', Below wr.heap.size wr w' → Calls Tryz.prog 38 #[vb] w' fun r w'' => r = .returned (.int .i64 (sizeL b' : Nat)) ∧ Below w'.heap.size w' w'') := by
         show ∀ w', _
         intro w' hb; exact ih (sizeL b') (by omega) (by omega) w' vb b' (Nat.le_refl _) (hxk.2.2.2.1.1.keep (Keep.below hb)) (KdL.keep (Keep.below hb) _ hxk.2.2.2.1.2)
       have HC : Hid (∀ w', Below wr.heap.size wr w' → Calls Tryz.prog 38 #[vc] w' fun r w'' => r = .returned (.int .i64 (sizeL c : Nat)) ∧ Below w'.heap.size w' w'') := by
         show ∀ w', _
         intro w' hb; exact ih (sizeL c) (by omega) (by omega) w' vc c (Nat.le_refl _) (hxk.2.2.2.2.1.keep (Keep.below hb)) (KdL.keep (Keep.below hb) _ hxk.2.2.2.2.2)
       rw [hsz, hm'] at hz
       rw [hz] at hle
       rw [hm']
       have HZ := Lib.hid hz
       have HB := Lib.hid hB
       have HS : Hid (∀ w', Below wr.heap.size wr w' → w'.cell? ⟨b, o + k * 9 + 4, none⟩ = some ve ∧ w'.cell? ⟨b, o + k * 9 + 5, none⟩ = some va ∧ w'.cell? ⟨b, o + k * 9 + 6, none⟩ = some vb ∧ w'.cell? ⟨b, o + k * 9 + 7, none⟩ = some vc) := by
         show ∀ w', _
         intro w' hb
         exact ⟨Keep.below hb _ _ c4, Keep.below hb _ _ c5, Keep.below hb _ _ c6, Keep.below hb _ _ c7⟩
       have hE := sizeL_append e []
       obtain ⟨se, hse⟩ : ∃ q, sizeL e = q := ⟨_, rfl⟩
       obtain ⟨sa, hsa⟩ : ∃ q, sizeL a = q := ⟨_, rfl⟩
       obtain ⟨sb, hsb⟩ : ∃ q, sizeL b' = q := ⟨_, rfl⟩
       obtain ⟨sc, hsc⟩ : ∃ q, sizeL c = q := ⟨_, rfl⟩
       rw [hse] at HE; rw [hsa] at HA; rw [hsb] at HBb; rw [hsc] at HC
       rw [hse, hsa, hsb, hsc] at HZ hle
       obtain ⟨Ae, ce, rfl⟩ := hxk.2.1.1.form
       obtain ⟨Aa, ca, rfl⟩ := hxk.2.2.1.1.form
       obtain ⟨Ab, cb, rfl⟩ := hxk.2.2.2.1.1.form
       obtain ⟨Ac, cc, rfl⟩ := hxk.2.2.2.2.1.form
       have hb0 : Below wr.heap.size wr wr.drew := (Below.refl _ wr).drew
       have hi0 : (0 : Int) ≤ (k : Int) := by omega
       have hi1 : (k : Int) < (n : Int) := by omega
       clear hc hxk hx hz hm' hsz hxt K hB ih c4 c5 c6 c7 hE hse hsa hsb hsc
       go_wp2_with fail
       go_region_held3 (fun w' => w'.cell? ⟨b, o + k * 9 + 4, none⟩ = some (.slice Ae e.length ce) ∧ w'.cell? ⟨b, o + k * 9 + 5, none⟩ = some (.slice Aa a.length ca) ∧ w'.cell? ⟨b, o + k * 9 + 6, none⟩ = some (.slice Ab b'.length cb) ∧ w'.cell? ⟨b, o + k * 9 + 7, none⟩ = some (.slice Ac c.length cc))
         (first | with_reducible exact HS.out _ hb0 | with_reducible exact HS.out _ hb1 | with_reducible exact HS.out _ hb2 | with_reducible exact HS.out _ hb3 | with_reducible exact HS.out _ hb4)
         ((first
           | (go_at_call 37; refine (HE.out _ hb0).mono ?_; rintro r w1 ⟨rfl, hc1⟩; have hb1 := hb0.trans (hc1.mono hb0.size); clear hc1)
           | (go_at_call_of 38 (Value.slice Aa a.length ca); refine (HA.out _ hb1).mono ?_; rintro r w2 ⟨rfl, hc2⟩; have hb2 := hb1.trans (hc2.mono hb1.size); clear hc2)
           | (go_at_call_of 38 (Value.slice Ab b'.length cb); refine (HBb.out _ hb2).mono ?_; rintro r w3 ⟨rfl, hc3⟩; have hb3 := hb2.trans (hc3.mono hb2.size); clear hc3)
           | (go_at_call_of 38 (Value.slice Ac c.length cc); refine (HC.out _ hb3).mono ?_; rintro r w4 ⟨rfl, hc4⟩; have hb4 := hb3.trans (hc4.mono hb3.size); clear hc4)))
       all_goals
         have hB1 := HB.out.trans (hb4.mono HB.out.size)
         go_wp2_with fail
         go_roundw
         case rel => exact ⟨k + 1, by go_num, by omega, by rw [HZ.out]; exact congrArg (Value.int .i64) (wrap5 _ _ _ _ _ (by omega)), hB1⟩
         case measure => simp [intOf]; omega
     · have hkl : l.take k = l := List.take_of_length_le (by rw [HLN.out]; omega)
       rw [hkl, HN.out]
       clear ih hkl
       go_wp2
       go_ret
       exact ⟨rfl, hB⟩
end
section
open Go.RowKit
def MayKids (w : World) (l : List Nd) (d : Nat) (dI : Int) : Prop := d ≤ 40 → ∀ x, x ∈ l → ∀ wr, Below w.heap.size w wr → ∃ xk xn xtx xnm xty xA xc xl xown xnth, x = .ex xk xn xtx xnm xty (.slice xA xl.length xc) xl xown xnth ∧
 Calls Tryz.prog 21 #[.agg #[.int .i64 xk, .int .i32 xn, .string xtx, .string xnm, .string xty, .slice xA xl.length xc, .string xown, .int .i64 xnth], .int .i64 (dI + 1)] wr fun e w' => e = .returned (.bool (okT x (d + 1))) ∧ Below wr.heap.size wr w'
theorem may_out {k n : Int} {tx nm ty : ByteArray} {len : Nat} (h : k < 1 ∨ 18 < k) : fitE k n tx nm ty len = false := by
 have : listE k len = false := listE_out k len h
 simp [fitE, this]
theorem okT_ex (k n : Int) (tx nm ty : ByteArray) (v : Value) (l : List Nd) (own : ByteArray) (nth : Int) (d : Nat) : okT (.ex k n tx nm ty v l own nth) d = (decide (d ≤ 40) && (fitE k n tx nm ty l.length && l.all fun y => okT y (d + 1))) := by
 rw [okT_eq]
 rfl
theorem all_take_succ {l : List Nd} {k : Nat} {x : Nd} (h : l[k]? = some x) (f : Nd → Bool) : (l.take (k + 1)).all f = ((l.take k).all f && f x) := by
 rw [List.take_add_one, h]; simp [List.all_append]
theorem all_false {l : List Nd} {k : Nat} {x : Nd} (h : l[k]? = some x) (f : Nd → Bool) (hf : f x = false) : l.all f = false := by
 rw [List.all_eq_false]; exact ⟨x, List.mem_of_getElem? h, by rw [hf]; simp⟩
end
section
open Go.RowKit
def lenS (k : Int) (la lb lc : Nat) : Bool := if k = 10 then true else if k = 4 then decide (lc = 0) else if k = 5 then (decide (lb = 0) && decide (lc = 0)) else (decide (la = 0) && (decide (lb = 0) && decide (lc = 0)))
def shpB (k n : Int) (ty nm : ByteArray) (e : List Nd) (la lb lc : Nat) : Bool := numS k n && (typeS k ty && (nameS k nm && (exprsS k e && lenS k la lb lc)))
end
end Go.Proofs.YtnbfajmdfkgebaaGreatDoor
