/- Parts of the proof: AnyC, Any, Cuts, MayE, MayS, RefN. -/
import Derived.Test.YtnbfajmdfkgebaaGreatDoorP0
import Derived.BigCall
import Derived.Deep.CutRange
import Derived.Test.YtnbfajmdfkgebaaGreatDoorP2
import Derived.Test.YtnbfajmdfkgebaaGreatDoorMayE1
import Derived.Test.YtnbfajmdfkgebaaGreatDoorMayE2
import Derived.Test.YtnbfajmdfkgebaaGreatDoorMayE3
import Derived.Test.YtnbfajmdfkgebaaGreatDoorMayE4
import Derived.Test.YtnbfajmdfkgebaaGreatDoorMayE5
import Derived.Test.YtnbfajmdfkgebaaGreatDoorMayS1
import Derived.Test.YtnbfajmdfkgebaaGreatDoorMayS2
import Derived.Test.YtnbfajmdfkgebaaGreatDoorMayS3
import Derived.Test.YtnbfajmdfkgebaaGreatDoorP13
import Derived.Test.YtnbfajmdfkgebaaGreatDoorP6
import Derived.Deep.RegionWith
set_option maxHeartbeats 4000000
set_option maxRecDepth 100000
namespace Go.Proofs.YtnbfajmdfkgebaaGreatDoor
set_option linter.unusedSimpArgs false
set_option linter.unusedVariables false
section
open Go.RowKit
def AnyC (s : ByteArray) (w : World) (e : Ending) (w' : World) : Prop :=
 ∃ (A : Option Addr) (n cap : Nat) (x a : Int), e = .returned (.tuple #[.agg #[.slice A n cap], .int .i64 x, .int .i64 a]) ∧ Below w.heap.size w w' ∧ 0 ≤ a ∧ a ≤ s.size ∧ (x ≠ 0 → n = 0) ∧ (x = 0 → a = 0 ∧ ∀ w'', Below w'.heap.size w' w'' → Calls Tryz.prog 8 #[.agg #[.slice A n cap]] w'' fun e w3 => e = .returned (.bool true) ∧ Below w''.heap.size w'' w3)
def ToldC (w : World) : Prop := Calls Tryz.prog 6 #[] w fun e w' => e = .returned (.bool true) ∧ Below w.heap.size w w'
end
section
open Go.RowKit
def wrapA : ByteArray := ⟨#[99, 108, 97, 115, 115, 32, 65, 32, 123, 32, 118, 111, 105, 100, 32, 102, 40, 41, 32, 123, 32]⟩
def wrapB : ByteArray := ⟨#[32, 125, 32, 125]⟩
theorem pany_of (w : World) (s : ByteArray) (b : Bool) (ht : ∀ w', Below w.heap.size w w' → ToldC w') (hp : ∀ t : ByteArray, t.size ≤ 400 → Calls Tryz.prog 7 #[.string t] w (AnyC t w)) : Calls Tryz.prog 3 #[.string s, .bool b] w fun e w' => e = .returned (.bool true) ∧ Below w.heap.size w w' := by
 have HT := Lib.hid ht
 have HP := Lib.hid hp
 clear ht hp
 by_cases h3 : 300 < s.size
 · have h3' : (300 : Int) < s.size := by omega
   go_enter Tryz.func3, Tryz.ntmps3
   go_wp2_with (go_at_call 6; refine (HT.out _ (Below.refl _ _)).mono ?_; rintro e w1 ⟨rfl, hb⟩; have HB1 := Lib.hid hb; clear hb)
   go_ret
   exact ⟨rfl, HB1.out⟩
 · have h3' : (s.size : Int) ≤ 300 := by omega
   have HS3 := Lib.hid h3'
   have hs1 : (wrapA ++ s).size = 21 + s.size := by rw [ByteArray.size_append]; rfl
   have hs2 : (wrapA ++ s ++ wrapB).size = 25 + s.size := by rw [ByteArray.size_append, hs1]; show 21 + s.size + 4 = _; omega
   have HS2 := Lib.hid hs2
   clear hs1 hs2
   go_enter Tryz.func3, Tryz.ntmps3
   go_upto_if 12 with (fail)
   go_cut [0] from 13 to 15 (fun v0 wx => ∃ t : ByteArray, v0 = .string t ∧ t.size ≤ 400 ∧ wx = w)
   case first =>
     cases b
     · go_wp2_with fail
       go_meet
       case rel => exact ⟨_, rfl, by have := HS3.out; omega, rfl⟩
     · go_wp2_with fail
       go_meet
       case rel => exact ⟨wrapA ++ s ++ wrapB, rfl, by have := HS3.out; rw [HS2.out]; omega, rfl⟩
   case rest =>
     obtain ⟨t, rfl, ht, rfl⟩ := hcut
     have HPT := Lib.hid (HP.out t ht)
     go_upto_if 23 with (go_at_call 7; refine HPT.out.mono ?_; rintro e w1 ⟨A, n, cap, x, a, rfl, hb, h0, h1, hA, hB⟩; have HB1 := Lib.hid hb; have HA := Lib.hid hA; have HB := Lib.hid hB; clear hb hA hB)
     have HE1 : Hid (Below wc.heap.size wc (w1.alloc (.cells #[.slice A n cap] 25))) := Lib.hid (HB1.out.alloc HB1.out.size _)
     have HX := Lib.hid (Bx.new w1 #[.slice A n cap] 25)
     have HT1 := Lib.hid (HT.out _ HE1.out)
     have HK1 : Hid (Below w1.heap.size w1 (w1.alloc (.cells #[.slice A n cap] 25))) := Lib.hid ((Below.refl _ _).alloc (Nat.le_refl _) _)
     by_cases hx : x = 0
     · subst hx
       obtain ⟨ha0, hm⟩ := HB.out rfl
       subst ha0
       have HM := Lib.hid hm
       clear hm HA HB h0 h1
       go_wp2_with (first
         | (go_at_call 6; refine HT1.out.mono ?_; rintro e w2 ⟨rfl, hb⟩; have hx2 := HX.out.next hb; have z0 := hx2.cell 0; simp only [List.getElem?_toArray, List.getElem?_cons_zero] at z0; have HB2 := Lib.hid hb; clear hb hx2)
         | (go_at_call 8; refine (HM.out _ (HK1.out.trans (HB2.out.mono HK1.out.size))).mono ?_; rintro e w3 ⟨rfl, hb⟩; have HB3 := Lib.hid hb; clear hb))
       go_ret
       have h2 := HE1.out.trans (HB2.out.mono HE1.out.size)
       exact ⟨rfl, h2.trans (HB3.out.mono h2.size)⟩
     · have hxb : (x != 0) = true := by simpa using hx
       obtain rfl : n = 0 := HA.out hx
       clear HA HB
       go_wp2_with (first
         | (go_at_call 6; refine HT1.out.mono ?_; rintro e w2 ⟨rfl, hb⟩; have hx2 := HX.out.next hb; have z0 := hx2.cell 0; simp only [List.getElem?_toArray, List.getElem?_cons_zero] at z0; have HB2 := Lib.hid hb; clear hb hx2))
       go_ret
       exact ⟨rfl, HE1.out.trans (HB2.out.mono HE1.out.size)⟩
end
section
open Go.RowKit
theorem pcuts_of (w : World) (v : Value) (cut : Int) (hl : Ll w v) (ht : ∀ w', Below w.heap.size w w' → ToldC w') (hp : ∀ w', Below w.heap.size w w' → ∀ t : ByteArray, t.size ≤ 5000 → Calls Tryz.prog 7 #[.string t] w' (AnyC t w')) : Calls Tryz.prog 4 #[v, .int .i64 cut] w fun e w' => e = .returned (.bool true) ∧ Below w.heap.size w w' := by
 have HT := Lib.hid ht
 have HP := Lib.hid hp
 have HSR := Lib.hid (source_any w v hl)
 clear ht hp
 go_enter Tryz.func4, Tryz.ntmps4
 go_upto_region 2 with (go_at_call 9; refine HSR.out.mono ?_; rintro e w0 ⟨⟨s, rfl, hs⟩, hb⟩; have HB0 := Lib.hid hb; clear hb)
 obtain ⟨xq, i, a1, a2, a3, a4, a5, a6⟩ := whichS cut (s.size + 1) (by omega) (by omega)
 have a2' : xq.tmod ((s.size : Int) + 1) = (i : Int) := by simpa using a2
 have a6' : IntKind.u64.wrap ((s.size : Int) + 1) = (s.size : Int) + 1 := by simpa using a6
 have his : (i : Int) ≤ s.size := by omega
 have hi0 : (0 : Int) ≤ i := by omega
 have hn0 : (((s.size : Int) + 1) == 0) = false := by simp; omega
 have hzt : (s.extract 0 i).size = i := by rw [ByteArray.size_extract]; omega
 have HZT := Lib.hid hzt
 have HPT := Lib.hid (HP.out w0 HB0.out (s.extract 0 i) (by omega))
 clear a2 a6 hzt
 go_upto_if 29 with (go_at_call 7; refine HPT.out.mono ?_; rintro e w1 ⟨A, n, cap, x, a, rfl, hb, h0, h1, hA, hB⟩; rw [HZT.out] at h1; have HB1 := Lib.hid (HB0.out.trans (hb.mono HB0.out.size)); have HA := Lib.hid hA; have HB := Lib.hid hB; clear hb hA hB)
 have HE1 : Hid (Below w.heap.size w (w1.alloc (.cells #[.slice A n cap] 25))) := Lib.hid (HB1.out.alloc HB1.out.size _)
 have HX := Lib.hid (Bx.new w1 #[.slice A n cap] 25)
 have HT1 := Lib.hid (HT.out _ HE1.out)
 have HK1 : Hid (Below w1.heap.size w1 (w1.alloc (.cells #[.slice A n cap] 25))) := Lib.hid ((Below.refl _ _).alloc (Nat.le_refl _) _)
 by_cases hx : x = 0
 · subst hx
   obtain ⟨ha0, hm⟩ := HB.out rfl
   subst ha0
   have HM := Lib.hid hm
   clear hm HA HB h0 h1
   go_wp2_with (first
     | (go_at_call 6; refine HT1.out.mono ?_; rintro e w2 ⟨rfl, hb⟩; have hx2 := HX.out.next hb; have z0 := hx2.cell 0; simp only [List.getElem?_toArray, List.getElem?_cons_zero] at z0; have HB2 := Lib.hid hb; clear hb hx2)
     | (go_at_call 8; refine (HM.out _ (HK1.out.trans (HB2.out.mono HK1.out.size))).mono ?_; rintro e w3 ⟨rfl, hb⟩; have HB3 := Lib.hid hb; clear hb))
   go_ret
   have h2 := HE1.out.trans (HB2.out.mono HE1.out.size)
   exact ⟨rfl, h2.trans (HB3.out.mono h2.size)⟩
 · have hxb : (x != 0) = true := by simpa using hx
   obtain rfl : n = 0 := HA.out hx
   clear HA HB
   go_wp2_with (first
     | (go_at_call 6; refine HT1.out.mono ?_; rintro e w2 ⟨rfl, hb⟩; have hx2 := HX.out.next hb; have z0 := hx2.cell 0; simp only [List.getElem?_toArray, List.getElem?_cons_zero] at z0; have HB2 := Lib.hid hb; clear hb hx2))
   go_ret
   exact ⟨rfl, HE1.out.trans (HB2.out.mono HE1.out.size)⟩
end
section
open Go.RowKit
theorem may_kout (w : World) (k n : Int) (h : k < 1 ∨ 18 < k) (tx nm ty : ByteArray) (A : Option Addr) (cap : Nat) (l : List Nd) (own : ByteArray) (nth : Int) (d : Nat) (dI : Int) :
   Calls Tryz.prog 21 #[.agg #[.int .i64 k, .int .i32 n, .string tx, .string nm, .string ty, .slice A l.length cap, .string own, .int .i64 nth], .int .i64 dI] w fun e w' => e = .returned (.bool (okT (.ex k n tx nm ty (.slice A l.length cap) l own nth) d)) ∧ Below w.heap.size w w' := by
 have HF := Lib.hid (show okT (.ex k n tx nm ty (.slice A l.length cap) l own nth) d = false by rw [okT_ex, may_out h]; simp)
 rw [HF.out]
 have hb : Below w.heap.size w (w.alloc (.cells #[.int .i64 k, .int .i32 n, .string tx, .string nm, .string ty, .slice A l.length cap, .string own, .int .i64 nth] 36)) := (Below.refl _ w).alloc (Nat.le_refl _) _
 have x0 : (w.alloc (.cells #[.int .i64 k, .int .i32 n, .string tx, .string nm, .string ty, .slice A l.length cap, .string own, .int .i64 nth] 36)).cell? ⟨w.heap.size, 0, none⟩ = some (.int .i64 k) := by simp [go_sem]
 have f1 := kne h 1 (by omega) (by omega)
 have f2 := kne h 2 (by omega) (by omega)
 have f3 := kne h 3 (by omega) (by omega)
 have f4 := kne h 4 (by omega) (by omega)
 have f5 := kne h 5 (by omega) (by omega)
 have f6 := kne h 6 (by omega) (by omega)
 have f7 := kne h 7 (by omega) (by omega)
 have f8 := kne h 8 (by omega) (by omega)
 have f9 := kne h 9 (by omega) (by omega)
 have f10 := kne h 10 (by omega) (by omega)
 have f11 := kne h 11 (by omega) (by omega)
 have f12 := kne h 12 (by omega) (by omega)
 have f13 := kne h 13 (by omega) (by omega)
 have f14 := kne h 14 (by omega) (by omega)
 have f15 := kne h 15 (by omega) (by omega)
 have f16 := kne h 16 (by omega) (by omega)
 have f17 := kne h 17 (by omega) (by omega)
 have f18 := kne h 18 (by omega) (by omega)
 go_enter Tryz.func21, Tryz.ntmps21
 go_wp2_with fail
 go_ret
 exact ⟨rfl, hb⟩
theorem may_ex : ∀ (s : Nat) (w : World) (k n : Int) (tx nm ty : ByteArray) (nv : Value) (l : List Nd) (own : ByteArray) (nth : Int) (d : Nat) (dI : Int), sizeL l ≤ s → s ≤ 1000000 → Kd w (.ex k n tx nm ty nv l own nth) → dI = d → d ≤ 1000 →
   Calls Tryz.prog 21 #[.agg #[.int .i64 k, .int .i32 n, .string tx, .string nm, .string ty, nv, .string own, .int .i64 nth], .int .i64 dI] w fun e w' => e = .returned (.bool (okT (.ex k n tx nm ty nv l own nth) d)) ∧ Below w.heap.size w w' := by
 intro s
 induction s using Nat.strongRecOn with
 | ind s ih =>
   intro w k n tx nm ty nv l own nth d dI hl hs hk hdI hd
   have hk0 := hk
   rw [Kd] at hk
   obtain ⟨A, cap, rfl⟩ := hk.2.1.form
   have hlen : l.length ≤ 1000000 := by have := len_sizeL l; omega
   have HIH : Hid (MayKids w l d dI) := by
     show MayKids w l d dI
     intro hd40 x hx wr hc
     have K := Keep.below hc
     have hxt : x.tag = .ex := by obtain ⟨_, _, _, _, ht, _⟩ := hk.2.1; exact ht x hx
     have hxk := Kd.keep K _ (KdL_mem hk.2.2 x hx)
     have hxs := size_mem hx
     cases x <;> first | (simp [Nd.tag] at hxt; done) | skip
     rename_i xk xn xtx xnm xty xv xl xown xnth
     have hsz : (Nd.ex xk xn xtx xnm xty xv xl xown xnth).size = 1 + sizeL xl := by simp [Nd.size]
     have hcall := ih (sizeL xl) (by omega) wr xk xn xtx xnm xty xv xl xown xnth (d + 1) (dI + 1) (Nat.le_refl _) (by omega) hxk (by omega) (by omega)
     rw [Kd] at hxk
     obtain ⟨xA, xc, rfl⟩ := hxk.2.1.form
     exact ⟨xk, xn, xtx, xnm, xty, xA, xc, xl, xown, xnth, rfl, hcall⟩
   rcases kall k with h | rfl | rfl | rfl | rfl | rfl | rfl | rfl | rfl | rfl | rfl | rfl | rfl | rfl | rfl | rfl | rfl | rfl | rfl
   · exact may_kout w k n h tx nm ty A cap l own nth d dI
   · exact may_k1 w n tx nm ty A cap l own nth d dI hk0 hlen hdI hd HIH
   · exact may_k2 w n tx nm ty A cap l own nth d dI hk0 hlen hdI hd HIH
   · exact may_k3 w n tx nm ty A cap l own nth d dI hk0 hlen hdI hd HIH
   · exact may_k4 w n tx nm ty A cap l own nth d dI hk0 hlen hdI hd HIH
   · exact may_k5 w n tx nm ty A cap l own nth d dI hk0 hlen hdI hd HIH
   · exact may_k6 w n tx nm ty A cap l own nth d dI hk0 hlen hdI hd HIH
   · exact may_k7 w n tx nm ty A cap l own nth d dI hk0 hlen hdI hd HIH
   · exact may_k8 w n tx nm ty A cap l own nth d dI hk0 hlen hdI hd HIH
   · exact may_k9 w n tx nm ty A cap l own nth d dI hk0 hlen hdI hd HIH
   · exact may_k10 w n tx nm ty A cap l own nth d dI hk0 hlen hdI hd HIH
   · exact may_k11 w n tx nm ty A cap l own nth d dI hk0 hlen hdI hd HIH
   · exact may_k12 w n tx nm ty A cap l own nth d dI hk0 hlen hdI hd HIH
   · exact may_k13 w n tx nm ty A cap l own nth d dI hk0 hlen hdI hd HIH
   · exact may_k14 w n tx nm ty A cap l own nth d dI hk0 hlen hdI hd HIH
   · exact may_k15 w n tx nm ty A cap l own nth d dI hk0 hlen hdI hd HIH
   · exact may_k16 w n tx nm ty A cap l own nth d dI hk0 hlen hdI hd HIH
   · exact may_k17 w n tx nm ty A cap l own nth d dI hk0 hlen hdI hd HIH
   · exact may_k18 w n tx nm ty A cap l own nth d dI hk0 hlen hdI hd HIH
end
section
open Go.RowKit
theorem stall (k : Int) : (k < 1 ∨ 11 < k) ∨ k = 1 ∨ k = 2 ∨ k = 3 ∨ k = 4 ∨ k = 5 ∨ k = 6 ∨ k = 7 ∨ k = 8 ∨ k = 9 ∨ k = 10 ∨ k = 11 := by omega
theorem shape_any (w : World) (k n : Int) (ty nm : ByteArray) (ve va vb vc : Value) (e a b c : List Nd) (nth : Int) (hk : Kd w (.st k n ty nm ve va vb vc e a b c nth)) (hs : (Nd.st k n ty nm ve va vb vc e a b c nth).size ≤ 1000000) :
   Calls Tryz.prog 68 #[.agg #[.int .i64 k, .int .i32 n, .string ty, .string nm, ve, va, vb, vc, .int .i64 nth]] w fun r w' => r = .returned (.bool (shpB k n ty nm e a.length b.length c.length)) ∧ Below w.heap.size w w' := by
 have hk0 := hk
 rw [Kd] at hk
 obtain ⟨Ae, ce, rfl⟩ := hk.2.1.1.form
 obtain ⟨Aa, ca, rfl⟩ := hk.2.2.1.1.form
 obtain ⟨Ab, cb, rfl⟩ := hk.2.2.2.1.1.form
 obtain ⟨Ac, cc, rfl⟩ := hk.2.2.2.2.1.form
 simp only [Nd.size] at hs
 have h1 : e.length ≤ 1000000 := by have := len_sizeL e; omega
 have h2 : a.length ≤ 1000000 := by have := len_sizeL a; omega
 have h3 : b.length ≤ 1000000 := by have := len_sizeL b; omega
 have h4 : c.length ≤ 1000000 := by have := len_sizeL c; omega
 rcases stall k with h | rfl | rfl | rfl | rfl | rfl | rfl | rfl | rfl | rfl | rfl | rfl
 · exact shape_kout w k h n ty nm Ae Aa Ab Ac ce ca cb cc e a b c nth hk0 h1 h2 h3 h4
 · exact shape_k1 w n ty nm Ae Aa Ab Ac ce ca cb cc e a b c nth hk0 h1 h2 h3 h4
 · exact shape_k2 w n ty nm Ae Aa Ab Ac ce ca cb cc e a b c nth hk0 h1 h2 h3 h4
 · exact shape_k3 w n ty nm Ae Aa Ab Ac ce ca cb cc e a b c nth hk0 h1 h2 h3 h4
 · exact shape_k4 w n ty nm Ae Aa Ab Ac ce ca cb cc e a b c nth hk0 h1 h2 h3 h4
 · exact shape_k5 w n ty nm Ae Aa Ab Ac ce ca cb cc e a b c nth hk0 h1 h2 h3 h4
 · exact shape_k6 w n ty nm Ae Aa Ab Ac ce ca cb cc e a b c nth hk0 h1 h2 h3 h4
 · exact shape_k7 w n ty nm Ae Aa Ab Ac ce ca cb cc e a b c nth hk0 h1 h2 h3 h4
 · exact shape_k8 w n ty nm Ae Aa Ab Ac ce ca cb cc e a b c nth hk0 h1 h2 h3 h4
 · exact shape_k9 w n ty nm Ae Aa Ab Ac ce ca cb cc e a b c nth hk0 h1 h2 h3 h4
 · exact shape_k10 w n ty nm Ae Aa Ab Ac ce ca cb cc e a b c nth hk0 h1 h2 h3 h4
 · exact shape_k11 w n ty nm Ae Aa Ab Ac ce ca cb cc e a b c nth hk0 h1 h2 h3 h4
theorem fits_st (k n : Int) (ty nm : ByteArray) (ve va vb vc : Value) (e a b c : List Nd) (nth : Int) : fitsB (.st k n ty nm ve va vb vc e a b c nth) = (shpB k n ty nm e a.length b.length c.length && !(hasSup a || (hasSup b || hasSup c))) := by
 simp only [fitsB, fitS, shpB, blocksS, lenS]
 cases numS k n <;> cases typeS k ty <;> cases nameS k nm <;> cases exprsS k e <;> cases (hasSup a || (hasSup b || hasSup c)) <;> simp
def stB (sup : Bool) (i : Nat) (d : Nat) (l : List Nd) : Bool := l.all (fun y => okT y d) && !hasSup (if sup && i == 0 then l.drop 1 else l)
theorem stB_nil (sup : Bool) (i d : Nat) : stB sup i d [] = true := by simp [stB, hasSup]
theorem stB_cons (sup : Bool) (i d : Nat) (x : Nd) (l : List Nd) : stB sup i d (x :: l) = (okT x d && (!(x.kind == 11 && (!sup || decide (0 < i))) && stB sup (i + 1) d l)) := by
 cases sup <;> cases i <;> simp [stB, hasSup, Bool.and_assoc, Bool.and_comm, Bool.and_left_comm]
theorem all_on {l : List Nd} {f g : Nd → Bool} (h : ∀ x ∈ l, f x = g x) : l.all f = l.all g := by
 induction l with
 | nil => rfl
 | cons x l ih => rw [List.all_cons, List.all_cons, h x (by simp), ih fun y hy => h y (by simp [hy])]
theorem okT_st (k n : Int) (ty nm : ByteArray) (ve va vb vc : Value) (e a b c : List Nd) (nth : Int) (d : Nat) (he : ∀ x ∈ e, x.tag = .ex) (ha : ∀ x ∈ a, x.tag = .st) (hb : ∀ x ∈ b, x.tag = .st) (hc : ∀ x ∈ c, x.tag = .st) :
   okT (.st k n ty nm ve va vb vc e a b c nth) d = (decide (d ≤ 40) && (shpB k n ty nm e a.length b.length c.length && (e.all (fun y => okT y d) && (stB false 0 (d + 1) a && (stB false 0 (d + 1) b && stB false 0 (d + 1) c))))) := by
 rw [okT_eq, fits_st]
 have hX : ∀ y : Nd, y.tag = .ex → stepN (.st k n ty nm ve va vb vc e a b c nth) y = 0 := fun y hy => by unfold stepN; rw [hy]; rfl
 have hS : ∀ y : Nd, y.tag = .st → stepN (.st k n ty nm ve va vb vc e a b c nth) y = 1 := fun y hy => by unfold stepN; rw [hy]; rfl
 have h1 : e.all (fun y => okT y (d + stepN (.st k n ty nm ve va vb vc e a b c nth) y)) = e.all (fun y => okT y d) := all_on fun x hx => by rw [hX x (he x hx)]; rfl
 have h2 : a.all (fun y => okT y (d + stepN (.st k n ty nm ve va vb vc e a b c nth) y)) = a.all (fun y => okT y (d + 1)) := all_on fun x hx => by rw [hS x (ha x hx)]
 have h3 : b.all (fun y => okT y (d + stepN (.st k n ty nm ve va vb vc e a b c nth) y)) = b.all (fun y => okT y (d + 1)) := all_on fun x hx => by rw [hS x (hb x hx)]
 have h4 : c.all (fun y => okT y (d + stepN (.st k n ty nm ve va vb vc e a b c nth) y)) = c.all (fun y => okT y (d + 1)) := all_on fun x hx => by rw [hS x (hc x hx)]
 simp only [Nd.kids, List.all_append, h1, h2, h3, h4, stB, Bool.false_and, Bool.false_eq_true, if_false]
 generalize decide (d ≤ 40) = u0; generalize shpB k n ty nm e a.length b.length c.length = u1; generalize hasSup a = u2; generalize hasSup b = u3; generalize hasSup c = u4
 generalize e.all (fun y => okT y d) = u5; generalize a.all (fun y => okT y (d + 1)) = u6; generalize b.all (fun y => okT y (d + 1)) = u7; generalize c.all (fun y => okT y (d + 1)) = u8
 cases u0 <;> cases u1 <;> cases u2 <;> cases u3 <;> cases u4 <;> cases u5 <;> cases u6 <;> cases u7 <;> cases u8 <;> rfl
end
section
open Go.RowKit
theorem ref_nodes_any (w : World) (v : Value) (l : List Nd) (hr : Rw w .cl v l) (hk : KdL w l) (hs : sizeL l ≤ 1000000) : Calls Tryz.prog 17 #[.agg #[v]] w fun e w' => e = .returned (.int .i64 (sizeL l : Nat)) ∧ Below w.heap.size w w' := by
 obtain ⟨A, cap, rfl⟩ := hr.form
 have hlen : l.length ≤ 1000000 := by have := len_sizeL l; omega
 obtain ⟨n, hn⟩ : ∃ n, l.length = n := ⟨_, rfl⟩
 obtain ⟨N, hN⟩ : ∃ N, sizeL l = N := ⟨_, rfl⟩
 rw [hn] at hr hlen ⊢
 rw [hN] at hs ⊢
 have hb0 : Below w.heap.size w (w.alloc (.cells #[.slice A n cap] 25)) := (Below.refl _ w).alloc (Nat.le_refl _) _
 have c0 : (w.alloc (.cells #[.slice A n cap] 25)).cell? ⟨w.heap.size, 0, none⟩ = some (.slice A n cap) := by simp [go_sem]
 have HR := Lib.hid hr; have HK := Lib.hid hk; have HLN := Lib.hid hn; have HN := Lib.hid hN
 clear hr hk hn hN
 go_enter Tryz.func17, Tryz.ntmps17
 go_wp2_with fail
 obtain ⟨W0, hW0⟩ : ∃ W0, w.alloc (.cells #[.slice A n cap] 25) = W0 := ⟨_, rfl⟩
 rw [hW0] at hb0 c0 ⊢
 have hsz0 : W0.heap.size = w.heap.size + 1 := by rw [← hW0]; simp
 have HB0 := Lib.hid hb0
 clear hW0 hb0
 go_loopw [3, 4] (fun v3 v4 wr => ∃ k : Nat, v4 = .int .i64 k ∧ k ≤ n ∧ v3 = .int .i64 (sizeL (l.take k) : Nat) ∧ Below W0.heap.size W0 wr) (fun v3 v4 wr => n - (intOf v4).toNat)
 case atStart => exact ⟨0, rfl, Nat.zero_le _, rfl, Below.refl _ _⟩
 case round =>
   obtain ⟨k, rfl, hkn, rfl, hB⟩ := hrel
   have d0 := (Keep.below hB) _ _ c0
   by_cases hlt : k < n
   · have K : Keep w wr := Keep.below (HB0.out.trans (hB.mono HB0.out.size))
     obtain ⟨b, o, x, rfl, hx, hxt, hc⟩ := (HR.out.keep K).get hlt
     have hxk := KdL.mem_get (KdL.keep K _ HK.out) hx
     cases x <;> first | (simp [Nd.tag] at hxt; done) | skip
     rename_i xnm xsp vf vm f mm
     have c0' := hc 0 _ rfl; have c1' := hc 1 _ rfl; have c2' := hc 2 _ rfl; have c3' := hc 3 _ rfl
     simp only [Tg.sz, Nat.add_zero] at c0' c1' c2' c3'
     rw [Kd] at hxk
     obtain ⟨A1, n1, rfl⟩ := hxk.2.1.1.form
     obtain ⟨A2, n2, rfl⟩ := hxk.2.2.1.form
     have hz := sizeL_take_succ hx
     have hxs : (Nd.cl xnm xsp (.slice A1 f.length n1) (.slice A2 mm.length n2) f mm).size = 1 + (sizeL f + sizeL mm) := by simp [Nd.size]
     rw [hxs] at hz
     have hle := sizeL_take_le l (k + 1)
     rw [HN.out] at hle
     obtain ⟨m, hm⟩ : ∃ m, sizeL (l.take k) = m := ⟨_, rfl⟩
     rw [hm] at hz ⊢
     obtain ⟨fs, hfs⟩ : ∃ q, sizeL f = q := ⟨_, rfl⟩
     obtain ⟨ms, hms⟩ : ∃ q, sizeL mm = q := ⟨_, rfl⟩
     rw [hfs, hms] at hz
     rw [hz] at hle
     have hfm : f.length ≤ 1000000 := by have := len_sizeL f; omega
     have hmm : mm.length ≤ 1000000 := by have := len_sizeL mm; omega
     have HZ := Lib.hid hz
     have HX := Lib.hid hxk
     have HB := Lib.hid hB
     have hlw := hB.size
     have HFS := Lib.hid hfs; have HMS := Lib.hid hms
     clear hz hxk hB hc hx hxs hxt K hm hfs hms
     obtain ⟨fn, hfn⟩ : ∃ q, f.length = q := ⟨_, rfl⟩
     obtain ⟨mn, hmn⟩ : ∃ q, mm.length = q := ⟨_, rfl⟩
     have HFN := Lib.hid hfn; have HMN := Lib.hid hmn
     rw [hfn] at hfm c2' HX; rw [hmn] at hmm c3' HX
     clear hfn hmn
     go_wp2_with fail
     obtain ⟨W1, hW1⟩ : ∃ W1, wr.alloc (.cells #[.string xnm, .string xsp, .slice A1 fn n1, .slice A2 mn n2] 44) = W1 := ⟨_, rfl⟩
     rw [hW1]
     have hb1 : Below wr.heap.size wr W1 := by rw [← hW1]; exact (Below.refl _ wr).alloc (Nat.le_refl _) _
     have hx1 : Bx W1 wr.heap.size #[.string xnm, .string xsp, .slice A1 fn n1, .slice A2 mn n2] 44 := by rw [← hW1]; exact Bx.new _ _ _
     have HS1 : Hid (∀ w', Below W1.heap.size W1 w' → w'.cell? ⟨w.heap.size, 0, none⟩ = some (.slice (some ⟨b, o, none⟩) n cap) ∧ w'.cell? ⟨wr.heap.size, 2, none⟩ = some (.slice A1 fn n1) ∧ w'.cell? ⟨wr.heap.size, 3, none⟩ = some (.slice A2 mn n2)) := by
       show ∀ w', _
       intro w' hb
       exact ⟨Keep.below (hb1.trans (hb.mono hb1.size)) _ _ d0, (hx1.next hb).cell 2, (hx1.next hb).cell 3⟩
     have HX1 : Hid (∀ w', Below W1.heap.size W1 w' → (Rw w' .fd (.slice A1 fn n1) f ∧ KdL w' f) ∧ Rw w' .mt (.slice A2 mn n2) mm ∧ KdL w' mm) := by
       show ∀ w', _
       intro w' hb
       have K := Keep.below (hb1.trans (hb.mono hb1.size))
       exact ⟨⟨HX.out.2.1.1.keep K, KdL.keep K _ HX.out.2.1.2⟩, HX.out.2.2.1.keep K, KdL.keep K _ HX.out.2.2.2⟩
     have HWr := Lib.hid (HB.out.trans (hb1.mono HB.out.size))
     clear hW1 hx1 hb1 c0' c1' c2' c3' d0 HX
     go_loopw [3, 6] (fun v3 v6 wx => ∃ j : Nat, v6 = .int .i64 j ∧ j ≤ fn ∧ v3 = .int .i64 ((m + 1 + sizeL (f.take j) : Nat) : Int) ∧ Below W1.heap.size W1 wx) (fun v3 v6 wx => fn - (intOf v6).toNat)
     case atStart => exact ⟨0, rfl, Nat.zero_le _, by simp [sizeL], Below.refl _ _⟩
     case round =>
       obtain ⟨j, rfl, hjn, rfl, hC⟩ := hrel
       obtain ⟨e0, e2, e3⟩ := HS1.out _ hC
       by_cases hjl : j < fn
       · obtain ⟨⟨hRf, hKf⟩, _, _⟩ := HX1.out _ hC
         obtain ⟨b1, o1, y, rfl, hy, hyt, hcy⟩ := hRf.get hjl
         have hyk := KdL.mem_get hKf hy
         cases y <;> first | (simp [Nd.tag] at hyt; done) | skip
         rename_i ys yty ynm yv yl
         have g3 := hcy 3 _ rfl
         simp only [Tg.sz] at g3
         rw [Kd] at hyk
         have hz1 := sizeL_take_succ hy
         have hyz : (Nd.fd ys yty ynm yv yl).size = 1 + sizeL yl := by simp [Nd.size]
         rw [hyz] at hz1
         have hle1 := sizeL_take_le f (j + 1)
         rw [HFS.out, hz1] at hle1
         have HE := Lib.hid (ref_exprs_any (sizeL yl) (by omega) _ yv yl (Nat.le_refl _) hyk.2.1 hyk.2.2)
         obtain ⟨A4, n4, rfl⟩ := hyk.2.1.form
         obtain ⟨z, hz2⟩ : ∃ z, sizeL yl = z := ⟨_, rfl⟩
         obtain ⟨q, hq⟩ : ∃ q, m + 1 + sizeL (f.take j) = q := ⟨_, rfl⟩
         rw [hz2] at HE hz1 hle1
         have hqz : q + 1 + z ≤ 1000000 := by omega
         have HQ := Lib.hid (show m + 1 + sizeL (f.take (j + 1)) = q + 1 + z by rw [hz1]; omega)
         rw [hq]
         clear hRf hKf hcy hyk hy hyt hyz hz1 hz2 hq hle1
         go_wp2_with (go_at_call 37; refine HE.out.mono ?_; clear HE; rintro e w1 ⟨rfl, hbr⟩)
         have hC1 := hC.trans (hbr.mono hC.size)
         go_roundw
         case rel => exact ⟨j + 1, by go_num, by omega, by rw [HQ.out]; go_num, hC1⟩
         case measure => simp [intOf]; omega
       · have hfl : f.take j = f := List.take_of_length_le (by rw [HFN.out]; omega)
         rw [hfl, HFS.out]
         clear hfl
         go_wp2_with fail
         go_loopw [3, 7] (fun v3 v7 wx => ∃ j : Nat, v7 = .int .i64 j ∧ j ≤ mn ∧ v3 = .int .i64 ((m + 1 + fs + sizeL (mm.take j) : Nat) : Int) ∧ Below W1.heap.size W1 wx) (fun v3 v7 wx => mn - (intOf v7).toNat)
         case atStart => exact ⟨0, rfl, Nat.zero_le _, by simp [sizeL], hC⟩
         case round =>
           obtain ⟨i, rfl, hin, rfl, hD⟩ := hrel
           clear hC e0 e2 e3
           obtain ⟨e0, e2, e3⟩ := HS1.out _ hD
           by_cases hil : i < mn
           · obtain ⟨_, hRm, hKm⟩ := HX1.out _ hD
             obtain ⟨b1, o1, y, rfl, hy, hyt, hcy⟩ := hRm.get hil
             have hyk := KdL.mem_get hKm hy
             cases y <;> first | (simp [Nd.tag] at hyt; done) | skip
             rename_i ys yc yty ynm yvp yps yv yl
             have g5 := hcy 5 _ rfl
             simp only [Tg.sz] at g5
             rw [Kd] at hyk
             have hz1 := sizeL_take_succ hy
             have hyz : (Nd.mt ys yc yty ynm yvp yps yv yl).size = 1 + sizeL yl := by simp [Nd.size]
             rw [hyz] at hz1
             have hle1 := sizeL_take_le mm (i + 1)
             rw [HMS.out, hz1] at hle1
             have HE := Lib.hid (ref_stmts_any (sizeL yl) (by omega) _ yv yl (Nat.le_refl _) hyk.2.2.1 hyk.2.2.2)
             obtain ⟨A4, n4, rfl⟩ := hyk.2.2.1.form
             obtain ⟨z, hz2⟩ : ∃ z, sizeL yl = z := ⟨_, rfl⟩
             obtain ⟨q, hq⟩ : ∃ q, m + 1 + fs + sizeL (mm.take i) = q := ⟨_, rfl⟩
             rw [hz2] at HE hz1 hle1
             have hqz : q + 1 + z ≤ 1000000 := by omega
             have HQ := Lib.hid (show m + 1 + fs + sizeL (mm.take (i + 1)) = q + 1 + z by rw [hz1]; omega)
             rw [hq]
             clear hRm hKm hcy hyk hy hyt hyz hz1 hz2 hq hle1
             go_wp2_with (go_at_call 38; refine HE.out.mono ?_; clear HE; rintro e w1 ⟨rfl, hbr⟩)
             have hD1 := hD.trans (hbr.mono hD.size)
             go_roundw
             case rel => exact ⟨i + 1, by go_num, by omega, by rw [HQ.out]; go_num, hD1⟩
             case measure => simp [intOf]; omega
           · have hml : mm.take i = mm := List.take_of_length_le (by rw [HMN.out]; omega)
             rw [hml, HMS.out]
             have HFIN := Lib.hid (show sizeL (l.take (k + 1)) = m + 1 + fs + ms by rw [HZ.out]; omega)
             have HDW := Lib.hid (HWr.out.trans (hD.mono HWr.out.size))
             clear hml
             go_wp2_with fail
             go_roundw
             case rel => exact ⟨k + 1, by go_num, by omega, by rw [HFIN.out], HDW.out⟩
             case measure => simp [intOf]; omega
   · have hkl : l.take k = l := List.take_of_length_le (by rw [HLN.out]; omega)
     rw [hkl, HN.out]
     have hfin := HB0.out.trans (hB.mono HB0.out.size)
     clear hkl
     go_wp2_with fail
     go_ret
     exact ⟨rfl, hfin⟩
end
end Go.Proofs.YtnbfajmdfkgebaaGreatDoor
