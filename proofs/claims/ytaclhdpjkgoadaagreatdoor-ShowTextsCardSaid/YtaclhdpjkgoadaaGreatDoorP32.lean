/- Parts of the proof: SxA, SxK, SxL, SxM, SxN, SxZ. -/
import Derived.Test.YtaclhdpjkgoadaaGreatDoorP29
import Derived.Test.YtaclhdpjkgoadaaGreatDoorPge
import Derived.Test.YtaclhdpjkgoadaaGreatDoorP33
import Derived.Test.YtaclhdpjkgoadaaGreatDoorP6
import Derived.Test.YtaclhdpjkgoadaaGreatDoorP12
import Derived.Test.YtaclhdpjkgoadaaGreatDoorP16
import Derived.Test.YtaclhdpjkgoadaaGreatDoorP17
import Derived.Test.YtaclhdpjkgoadaaGreatDoorP4
import Derived.BigCall
import Derived.Deep.CutRange
set_option maxHeartbeats 8000000
set_option maxRecDepth 100000
namespace Go.Proofs.YtaclhdpjkgoadaaGreatDoor
set_option linter.unusedSimpArgs false
set_option linter.unusedVariables false
section
open Go.RowKit
def plusL (s t : ByteArray) : List UInt8 := quote s ++ ([32, 43, 32] ++ quote t)
theorem first_plus (t : List UInt8) : firstL (43 :: (32 :: t)) = (4, [43], 1) := by
 have e1 : spanL digit (43 :: (32 :: t)) = 0 := by rw [span_cons]; rfl
 have e2 : spanL alnum (43 :: (32 :: t)) = 0 := by rw [span_cons]; rfl
 have e3 : textLen (43 :: (32 :: t)) = 0 := by
   rcases Nat.eq_zero_or_pos (textLen (43 :: (32 :: t))) with h | h
   · exact h
   · have := text_quote _ h; simp at this
 unfold firstL
 rw [e1, e2, e3, if_neg (by omega), if_neg (by omega), if_neg (by omega)]
 rfl
theorem gap_blankS (t : List UInt8) (h : gapL false t = 0) : gapL false (32 :: t) = 1 := by
 rw [gapL, if_neg (by decide), if_neg (by decide), if_pos (by decide), h]
theorem tx_len (s : ByteArray) : (quoteFrom s 0).length ≤ 8 * s.size := by
 rw [quoteFrom_is]
 have h1 : ∀ l : List Nat, (encs (l.flatMap qr)).length ≤ 8 * l.length := by
   intro l
   induction l with
   | nil => simp [encs]
   | cons r l ih =>
     rw [List.flatMap_cons, encs_append, List.length_append, List.length_cons]
     have : (encs (qr r)).length ≤ 8 := by
       unfold qr
       split
       · rw [encs_cons, encs_cons, encs_nil]; have a := enc_len ((92 : Nat) : Int); have b := enc_len ((letterN r : Nat) : Int); simp only [List.length_append, List.length_nil]; omega
       · rw [encs_cons, encs_nil]; have b := enc_len ((r : Nat) : Int); simp only [List.length_append, List.length_nil]; omega
     omega
 have h2 := h1 (runes s 0)
 have h3 : ∀ f p, (runesF s f p).length ≤ f := by
   intro f
   induction f with
   | zero => intro p; simp [runesF]
   | succ f ih => intro p; simp only [runesF]; split <;> simp; exact ih _
 have := h3 (s.size - 0) 0
 unfold runes at h2 ⊢
 omega
theorem quote_len2 (s : ByteArray) : (quote s).length = (quoteFrom s 0).length + 2 := by rw [quote_is]; simp
theorem plus_words (s t : ByteArray) (hs : bad s < 0) (ht : bad t < 0) (a : Nat) :
   wordsL (plusL s t) a = ([⟨3, s.data.toList, a⟩, ⟨4, [43], a + (quote s).length + 1⟩, ⟨3, t.data.toList, a + (quote s).length + 3⟩], -1) := by
 have el : plusL s t = 34 :: (quoteFrom s 0 ++ (34 :: (32 :: 43 :: 32 :: 34 :: (quoteFrom t 0 ++ (34 :: []))))) := by
   unfold plusL; rw [quote_is, quote_is]; simp
 have h1 := first_quote s (32 :: 43 :: 32 :: 34 :: (quoteFrom t 0 ++ (34 :: []))) hs
 have h2 := first_plus (34 :: (quoteFrom t 0 ++ (34 :: [])))
 have h3 := first_quote t [] ht
 have hd : (34 :: (quoteFrom s 0 ++ (34 :: (32 :: 43 :: 32 :: 34 :: (quoteFrom t 0 ++ (34 :: [])))))).drop ((quoteFrom s 0).length + 2) = 32 :: 43 :: 32 :: 34 :: (quoteFrom t 0 ++ (34 :: [])) := by
   rw [show (quoteFrom s 0).length + 2 = ((quoteFrom s 0).length + 1) + 1 from rfl, List.drop_succ_cons, List.drop_length_add_append]; rfl
 have hd2 : (34 :: (quoteFrom t 0 ++ (34 :: []))).drop ((quoteFrom t 0).length + 2) = [] := by
   rw [show (quoteFrom t 0).length + 2 = ((quoteFrom t 0).length + 1) + 1 from rfl, List.drop_succ_cons, List.drop_length_add_append]; rfl
 have g1 : gapL false (43 :: 32 :: 34 :: (quoteFrom t 0 ++ (34 :: []))) = 0 := gap_at 43 _ ⟨by decide, by decide, by decide⟩
 have g2 : gapL false (34 :: (quoteFrom t 0 ++ (34 :: []))) = 0 := gap_at 34 _ ⟨by decide, by decide, by decide⟩
 rw [el, words_step _ _ (by simp) (by rw [h1]; simp), h1]
 simp only []
 rw [hd, cutL, gap_blankS _ g1, List.drop_succ_cons, List.drop_zero, words_step _ _ (by simp) (by rw [h2]; decide), h2]
 simp only [List.drop_succ_cons, List.drop_zero]
 rw [cutL, gap_blankS _ g2, List.drop_succ_cons, List.drop_zero, words_step _ _ (by simp) (by rw [h3]; simp), h3]
 simp only []
 rw [hd2]
 rw [quote_len2]
 have : cutL [] (a + ((quoteFrom s 0).length + 2) + 1 + 1 + 1 + ((quoteFrom t 0).length + 2)) = ([], -1) := rfl
 rw [this]
theorem plus_size (s t : ByteArray) (hs : s.size ≤ 101) (ht : t.size ≤ 101) : (B (plusL s t)).size ≤ 1700 := by
 rw [B_size]; unfold plusL
 have := tx_len s; have := tx_len t
 simp only [List.length_append, quote_len2, List.length_cons, List.length_nil]; omega
theorem plus_bad (s t : ByteArray) : bad (B (plusL s t)) < 0 := by
 have e : plusL s t = encs ([34] ++ ((runes s 0).flatMap qr ++ ([34] ++ ([32] ++ ([43] ++ ([32] ++ ([34] ++ ((runes t 0).flatMap qr ++ [34])))))))) := by
   unfold plusL
   rw [quote_is, quote_is]
   simp only [encs_append, enc_small 34 (by decide), enc_small 32 (by decide), enc_small 43 (by decide)]
   rw [← quoteFrom_is, ← quoteFrom_is]
   simp [Nat.toUInt8]
 rw [e]
 have := (runes_of_encs ([34] ++ ((runes s 0).flatMap qr ++ ([34] ++ ([32] ++ ([43] ++ ([32] ++ ([34] ++ ((runes t 0).flatMap qr ++ [34])))))))) (by
   intro r hr
   simp only [List.mem_append, List.mem_singleton] at hr
   rcases hr with rfl | hr | rfl | rfl | rfl | rfl | rfl | hr | rfl
   · left; omega
   · exact ok_quoted s r hr
   · left; omega
   · left; omega
   · left; omega
   · left; omega
   · left; omega
   · exact ok_quoted t r hr
   · left; omega)).2
 show bad ⟨_⟩ < 0
 rw [this]; decide
theorem plus_all (s t : ByteArray) (hs : bad s < 0) (ht : bad t < 0) (zs : s.size ≤ 101) (zt : t.size ≤ 101) :
   allW (B (plusL s t)) = [⟨3, s.data.toList, 0⟩, ⟨4, [43], (quote s).length + 1⟩, ⟨3, t.data.toList, (quote s).length + 3⟩] ∧ allE (B (plusL s t)) = 0 ∧ allA (B (plusL s t)) = 0 := by
 have hz := plus_size s t zs zt
 apply all_fine
 · omega
 · have hg : gapL false (plusL s t) = 0 := by unfold plusL; rw [quote_is]; exact gap_at 34 _ ⟨by decide, by decide, by decide⟩
   rw [B_list, cutL, hg, List.drop_zero, plus_words s t hs ht]; simp
 · exact plus_bad s t
end
section
open Go.RowKit
def plusN (s t : ByteArray) : Nd := mkE 17 0 E0 ⟨#[43]⟩ E0 [mkE 3 0 s E0 E0 [], mkE 3 0 t E0 E0 []]
theorem plus_ws (s t : ByteArray) (hs : bad s < 0) (ht : bad t < 0) (zs : s.size ≤ 101) (zt : t.size ≤ 101) :
   ∃ a b c : Int, RS0 (B (plusL s t)) = ⟨[(.qu s, a), (.fx ⟨#[43]⟩, b), (.qu t, c)], ((B (plusL s t)).size : Int), 0, 0, 0, 0, 0⟩ := by
 obtain ⟨h1, h2, h3⟩ := plus_all s t hs ht zs zt
 refine ⟨0, ((quote s).length + 1 : Nat), ((quote s).length + 3 : Nat), ?_⟩
 unfold RS0
 rw [h1, h2, h3]
 rfl
theorem run_plus (s t : ByteArray) (a b c sz : Int) : ∃ r : RS, ex ⟨[(.qu s, a), (.fx ⟨#[43]⟩, b), (.qu t, c)], sz, 0, 0, 0, 0, 0⟩ = ([plusN s t], r) ∧ r.fin.wc = 0 := by
 refine ⟨⟨[], sz, 0, 0, 0, 0, 0⟩, ?_, rfl⟩
 kernel_rfl
theorem plus_read (s t : ByteArray) (hs : bad s < 0) (ht : bad t < 0) (zs : s.size ≤ 101) (zt : t.size ≤ 101) : exO (B (plusL s t)) = (0, 0) ∧ exT (B (plusL s t)) = plusN s t := by
 obtain ⟨a, b, c, e⟩ := plus_ws s t hs ht zs zt
 obtain ⟨r, e2, hr⟩ := run_plus s t a b c ((B (plusL s t)).size : Int)
 have hp : (plusN s t).size ≤ 3000 ∧ depthN (plusN s t) ≤ 40 := ⟨by simp [plusN, mkE, Nd.size, sizeL], by simp [plusN, mkE, depthN, depthL]⟩
 have ho : exO (B (plusL s t)) = (0, 0) := by
   unfold exO
   rw [e, e2]
   show (if r.fin.wc = 0 then (if (plusN s t).size ≤ 3000 ∧ depthN (plusN s t) ≤ 40 then ((0 : Int), (0 : Int)) else (5, 0)) else (r.fin.wc, r.fin.wa)) = (0, 0)
   rw [if_pos hr, if_pos hp]
 refine ⟨ho, ?_⟩
 unfold exT
 rw [ho, e, e2]
 rfl
end
section
open Go.RowKit
theorem showExpr_two (w : World) (n : Value) (tx nm ty own : Value) (nth : Value) (lb lo cap : Nat) (op s t : ByteArray) (h1 : TxE w lb lo s) (h2 : TxE w lb (lo + 8) t) (hlb : lb < w.heap.size)
   (hs : ∀ w, Calls Tryz.prog 127 #[.string s] w fun e w' => e = .returned (.string ⟨(quote s).toArray⟩) ∧ Below w.heap.size w w') (ht : ∀ w, Calls Tryz.prog 127 #[.string t] w fun e w' => e = .returned (.string ⟨(quote t).toArray⟩) ∧ Below w.heap.size w w')
   (hz : (denS op s t .two).length ≤ 1000000) :
   Calls Tryz.prog 8 #[.agg #[.int .i64 17, n, tx, .string op, ty, .slice (some ⟨lb, lo, none⟩) 2 cap, own, nth]] w fun e w' => e = .returned (.string ⟨(denS op s t .two).toArray⟩) ∧ Below w.heap.size w w' := by
 have hb1 : Below w.heap.size w (w.alloc (.cells #[.int .i64 17, n, tx, .string op, ty, .slice (some ⟨lb, lo, none⟩) 2 cap, own, nth] 26)) := (Below.refl _ _).alloc (Nat.le_refl _) _
 have hx := Bx.new w #[.int .i64 17, n, tx, .string op, ty, .slice (some ⟨lb, lo, none⟩) 2 cap, own, nth] 26
 have hT : TwoE (w.alloc (.cells #[.int .i64 17, n, tx, .string op, ty, .slice (some ⟨lb, lo, none⟩) 2 cap, own, nth] 26)) w.heap.size 0 lb lo op s t :=
   ⟨hx.cell 0, hx.cell 3, ⟨cap, hx.cell 5⟩, h1.below hb1 hlb, h2.below hb1 hlb, by simp, by simp; omega⟩
 have hb2 : Below (w.alloc (.cells #[.int .i64 17, n, tx, .string op, ty, .slice (some ⟨lb, lo, none⟩) 2 cap, own, nth] 26)).heap.size (w.alloc (.cells #[.int .i64 17, n, tx, .string op, ty, .slice (some ⟨lb, lo, none⟩) 2 cap, own, nth] 26)) ((w.alloc (.cells #[.int .i64 17, n, tx, .string op, ty, .slice (some ⟨lb, lo, none⟩) 2 cap, own, nth] 26)).alloc (.cells #[.iface 58 (.pointer (some ⟨w.heap.size, 0, none⟩))] 84)) := (Below.refl _ _).alloc (Nat.le_refl _) _
 have HT := Lib.hid (text_two _ w.heap.size 0 lb lo op s t (hT.next hb2) (w.heap.size + 1) 1 (by simp [ifV, valS]) (by simp) hs ht hz)
 have HB := Lib.hid (hb1.trans (hb2.mono (by simp)))
 clear hb1 hx hT hb2 hs ht h1 h2
 go_enter Tryz.func8, Tryz.ntmps8
 go_wp2_with (go_at_call 20; refine HT.out.mono ?_; clear HT; rintro e w3 ⟨rfl, hb⟩; have HB3 := Lib.hid hb; clear hb)
 go_ret
 exact ⟨rfl, HB.out.trans (HB3.out.mono (by simp; omega))⟩
end
section
open Go.RowKit
theorem den_plus (s t : ByteArray) : denS ⟨#[43]⟩ s t .two = plusL s t := rfl
theorem plus_text (s t : ByteArray) : ((⟨(quote s).toArray⟩ ++ ⟨#[32, 43, 32]⟩ : ByteArray) ++ ⟨(quote t).toArray⟩) = B (plusL s t) := by
 refine ba_of _ _ ?_
 simp [plusL]
theorem bad_q (s : ByteArray) (h : bad s < 0) : bad (s ++ ⟨#[113]⟩) < 0 := by
 have h1 := bad_put s.data.toList [113] [] (by decide) (by decide) (by intro b hb; simp at hb) (by rw [List.append_nil, B_of]; exact h)
 have e : B (s.data.toList ++ ([113] ++ [])) = s ++ ⟨#[113]⟩ := (ba_of _ _ (by simp)).symm
 rwa [e] at h1
theorem bare_tx {x : Nd} {s : ByteArray} (h : bareN x = mkE 3 0 s E0 E0 []) : ∃ v l own nth, x = .ex 3 0 s E0 E0 v l own nth := by
 cases x with
 | ex k n tx nm ty v l own nth =>
   simp only [bareN, mkE, Nd.ex.injEq] at h
   obtain ⟨rfl, rfl, rfl, rfl, rfl, _⟩ := h
   exact ⟨_, _, _, _, rfl⟩
 | _ => simp [bareN, mkE] at h
theorem plus_mem {Bd : Nat} {w : World} {s t : ByteArray} {y : Nd} (h : ExK Bd none w (plusN s t) y) :
   ∃ cap lb lo l, y = .ex 17 0 E0 ⟨#[43]⟩ E0 (.slice (some ⟨lb, lo, none⟩) 2 cap) l ⟨#[]⟩ 0 ∧ 2 ≤ cap ∧ TxE w lb lo s ∧ TxE w lb (lo + 8) t ∧ lb < w.heap.size := by
 have hn := h.now
 obtain ⟨k, n, tx, nm, ty, A, cap, l, rfl, _, _, hb⟩ := h
 simp only [plusN, mkE, bareN, bareL, Nd.ex.injEq] at hb
 obtain ⟨rfl, rfl, rfl, rfl, rfl, _, hl, _⟩ := hb
 rcases l with _ | ⟨x1, _ | ⟨x2, _ | ⟨x3, l⟩⟩⟩
 · simp [bareL] at hl
 · simp [bareL] at hl
 · simp only [bareL, List.cons.injEq, and_true] at hl
   obtain ⟨v1, l1, o1, n1, rfl⟩ := bare_tx (s := s) (by rw [hl.1]; rfl)
   obtain ⟨v2, l2, o2, n2, rfl⟩ := bare_tx (s := t) (by rw [hl.2]; rfl)
   rw [Kd] at hn
   obtain ⟨_, ⟨A', cap', hv, hc, _, hcell⟩, _⟩ := hn
   simp only [Value.slice.injEq] at hv
   obtain ⟨rfl, _, rfl⟩ := hv
   obtain ⟨lb, lo, rfl, hg⟩ := hcell (by simp)
   have g1 := hg 0 _ rfl
   have g2 := hg 1 _ rfl
   have e1 : lo + 1 * Tg.ex.sz = lo + 8 := rfl
   have e0 : lo + 0 * Tg.ex.sz = lo := by simp
   rw [e0] at g1
   rw [e1] at g2
   have a0 := g1 0 _ rfl
   refine ⟨_, lb, lo, _, rfl, ?_, ⟨a0, g1 2 _ rfl⟩, ⟨g2 0 _ rfl, g2 2 _ rfl⟩, World.block_lt_of_cell? w _ a0⟩
   simpa using hc.2
 · simp [bareL] at hl
end
section
open Go.RowKit
theorem kids_sizeS {k n : Int} {tx nm ty own : ByteArray} {v : Value} {l : List Nd} {nth : Int} {x : Nd} (hb : bareN (.ex k n tx nm ty v l own nth) = bareN x) (h : x.size ≤ 3000) : sizeL l ≤ 3000 := by
 have h1 := sizeL_of_bare (a := [Nd.ex k n tx nm ty v l own nth]) (b := [x]) (by simp only [bareL]; rw [hb])
 rw [sz_one, sz_one] at h1
 have h2 : (Nd.ex k n tx nm ty v l own nth).size = 1 + sizeL l := by simp [Nd.size]
 omega
theorem ExK.bareS {B : Nat} {r : Option Nat} {w : World} {x y : Nd} (h : ExK B r w x y) : bareN y = bareN x := by
 obtain ⟨_, _, _, _, _, _, _, _, _, _, _, hb⟩ := h
 exact hb
def PlusC (s t : ByteArray) (W : World) (e : Ending) (w' : World) : Prop :=
 ∃ cap lb lo l, e = .returned (.tuple #[.agg #[.int .i64 17, .int .i32 0, .string ⟨#[]⟩, .string ⟨#[43]⟩, .string ⟨#[]⟩, .slice (some ⟨lb, lo, none⟩) 2 cap, .string ⟨#[]⟩, .int .i64 0], .int .i64 0, .int .i64 0]) ∧
   ExK W.heap.size none w' (plusN s t) (.ex 17 0 E0 ⟨#[43]⟩ E0 (.slice (some ⟨lb, lo, none⟩) 2 cap) l ⟨#[]⟩ 0) ∧ 2 ≤ cap ∧ TxE w' lb lo s ∧ TxE w' lb (lo + 8) t ∧ lb < w'.heap.size ∧ Below W.heap.size W w'
theorem plus_any (s t : ByteArray) (hs : bad s < 0) (ht : bad t < 0) (zs : s.size ≤ 101) (zt : t.size ≤ 101) (W : World) (hv : Vars W) : Calls Tryz.prog 6 #[.string (B (plusL s t))] W (PlusC s t W) := by
 obtain ⟨h1, h2⟩ := plus_read s t hs ht zs zt
 have hz := plus_size s t zs zt
 refine (expr_text W (B (plusL s t)) hv (by unfold maxLen; omega)).mono ?_
 rintro e w' ⟨y, rfl, hk, hb⟩
 rw [h2] at hk
 obtain ⟨cap, lb, lo, l, rfl, hc, t1, t2, hl⟩ := plus_mem hk
 refine ⟨cap, lb, lo, l, ?_, hk, hc, t1, t2, hl, hb⟩
 rw [h1]
 rfl
theorem size_plusN (s t : ByteArray) : (plusN s t).size ≤ 3000 := by simp [plusN, mkE, Nd.size, sizeL]
theorem pshow_long (w : World) (s : ByteArray) (ht : ∀ w', Below w.heap.size w w' → Calls Tryz.prog 5 #[] w' fun e w'' => e = .returned (.bool true) ∧ Below w'.heap.size w' w'') (h : 100 < s.size) : Calls Tryz.prog 3 #[.string s] w fun e w' => e = .returned (.bool true) ∧ Below w.heap.size w w' := by
 have HT := Lib.hid ht
 have h3' : (100 : Int) < s.size := by omega
 clear ht
 go_enter Tryz.func3, Tryz.ntmps3
 go_wp2_with (go_at_call 5; refine (HT.out _ (Below.refl _ _)).mono ?_; rintro e w1 ⟨rfl, hb⟩; have HB1 := Lib.hid hb; clear hb)
 go_ret
 exact ⟨rfl, HB1.out⟩
theorem pshow_bad (w : World) (s : ByteArray) (ht : ∀ w', Below w.heap.size w w' → Calls Tryz.prog 5 #[] w' fun e w'' => e = .returned (.bool true) ∧ Below w'.heap.size w' w'') (h : s.size ≤ 100) (hb : ¬ bad s < 0) : Calls Tryz.prog 3 #[.string s] w fun e w' => e = .returned (.bool true) ∧ Below w.heap.size w w' := by
 have HT := Lib.hid ht
 have h3' : (s.size : Int) ≤ 100 := by omega
 have HBD := Lib.hid (rbad_any s w (by omega))
 obtain ⟨q, hq⟩ : ∃ q, bad s = q := ⟨_, rfl⟩
 rw [hq] at HBD hb
 have hq0 : 0 ≤ q := by omega
 clear ht hq hb
 go_enter Tryz.func3, Tryz.ntmps3
 go_wp2_with (first
   | (go_at_call 4; refine HBD.out.mono ?_; clear HBD; rintro e w1 ⟨rfl, hb⟩; have HB1 := Lib.hid hb; clear hb)
   | (go_at_call 5; refine (HT.out _ HB1.out).mono ?_; rintro e w2 ⟨rfl, hb⟩; have HB2 := Lib.hid hb; clear hb))
 go_ret
 exact ⟨rfl, HB1.out.trans (HB2.out.mono HB1.out.size)⟩
theorem pshow_main (w : World) (s : ByteArray) (hv : Vars w) (ht : ∀ w', Below w.heap.size w w' → Calls Tryz.prog 5 #[] w' fun e w'' => e = .returned (.bool true) ∧ Below w'.heap.size w' w'') (h : s.size ≤ 100) (hb : bad s < 0) : Calls Tryz.prog 3 #[.string s] w fun e w' => e = .returned (.bool true) ∧ Below w.heap.size w w' := by
 have HT := Lib.hid ht
 have h3' : (s.size : Int) ≤ 100 := by omega
 have hbq := bad_q s hb
 obtain ⟨t, htt⟩ : ∃ t, t = s ++ ⟨#[113]⟩ := ⟨_, rfl⟩
 have hts : t.size = s.size + 1 := by rw [htt, ByteArray.size_append]; rfl
 rw [← htt] at hbq
 obtain ⟨T, hTT⟩ : ∃ T, T = B (plusL s t) := ⟨_, rfl⟩
 obtain ⟨a, ha⟩ : ∃ a : ByteArray, a = ⟨(quote s).toArray⟩ := ⟨_, rfl⟩
 obtain ⟨b, hbb⟩ : ∃ b : ByteArray, b = ⟨(quote t).toArray⟩ := ⟨_, rfl⟩
 have hcat : (a ++ ⟨#[32, 43, 32]⟩ : ByteArray) ++ b = T := by rw [ha, hbb, hTT]; exact plus_text s t
 have HBD := Lib.hid (rbad_any s w (by omega))
 have HQS : Hid (∀ W, Calls Tryz.prog 7 #[.string s] W fun e w' => e = .returned (.string a) ∧ Below W.heap.size W w') := Lib.hid fun W => by rw [ha]; exact rquote_any s W (by omega)
 have HQT : Hid (∀ W, Calls Tryz.prog 7 #[.string (s ++ ⟨#[113]⟩)] W fun e w' => e = .returned (.string b) ∧ Below W.heap.size W w') := Lib.hid fun W => by rw [hbb, ← htt]; exact rquote_any t W (by omega)
 have HPE : Hid (∀ W, Below w.heap.size w W → Calls Tryz.prog 6 #[.string T] W (PlusC s t W)) := Lib.hid fun W hW => by rw [hTT]; exact plus_any s t hb hbq (by omega) (by omega) W (hv.keep (Keep.below hW))
 have HSE : Hid (∀ (W : World) (lb lo cap : Nat), TxE W lb lo s → TxE W lb (lo + 8) t → lb < W.heap.size → Calls Tryz.prog 8 #[.agg #[.int .i64 17, .int .i32 0, .string ⟨#[]⟩, .string ⟨#[43]⟩, .string ⟨#[]⟩, .slice (some ⟨lb, lo, none⟩) 2 cap, .string ⟨#[]⟩, .int .i64 0]] W fun e w' => e = .returned (.string T) ∧ Below W.heap.size W w') := Lib.hid fun W lb lo cap h1 h2 hl => by
   have hz := plus_size s t (by omega) (by omega)
   rw [B_size] at hz
   have := showExpr_two W (.int .i32 0) (.string ⟨#[]⟩) (.string ⟨#[]⟩) (.string ⟨#[]⟩) (.string ⟨#[]⟩) (.int .i64 0) lb lo cap ⟨#[43]⟩ s t h1 h2 hl (fun W => quote_any s W (by omega)) (fun W => quote_any t W (by omega)) (by rw [den_plus]; omega)
   rw [den_plus] at this
   rw [hTT]
   exact this
 have hza : a.size ≤ 1000 := by
   have := tx_len s
   rw [ha]
   show (quote s).toArray.size ≤ 1000
   rw [List.size_toArray, quote_len2]; omega
 have hzb : b.size ≤ 1000 := by
   have := tx_len t
   rw [hbb]
   show (quote t).toArray.size ≤ 1000
   rw [List.size_toArray, quote_len2]; omega
 have htx : s ++ ⟨#[113]⟩ = t := htt.symm
 have HCAT := Lib.hid hcat
 have HTX := Lib.hid htx
 obtain ⟨q, hq⟩ : ∃ q, bad s = q := ⟨_, rfl⟩
 rw [hq] at HBD hb
 have hq0 : ¬ 0 ≤ q := by omega
 have hn0 : ¬ 9223372036854775807 < s.size + 1 := by omega
 have hn1 : ¬ 9223372036854775807 < a.size + 3 := by omega
 have hn2 : ¬ 9223372036854775807 < (a ++ ⟨#[32, 43, 32]⟩ : ByteArray).size + b.size := by rw [ByteArray.size_append]; show ¬ 9223372036854775807 < a.size + 3 + b.size; omega
 clear ht hq hb hbq hTT ha hbb hcat htt hts htx hv
 go_enter Tryz.func3, Tryz.ntmps3
 go_upto_region 4 with (first
   | (go_at_call 4; refine HBD.out.mono ?_; clear HBD; rintro e w1 ⟨rfl, hb⟩; have HB1 := Lib.hid hb; clear hb)
   | (go_at_call 7; refine (HQS.out _).mono ?_; rintro e w2 ⟨rfl, hb⟩; have HB2 := Lib.hid (HB1.out.trans (hb.mono HB1.out.size)); clear hb HQS)
   | (go_at_call 7; refine (HQT.out _).mono ?_; rintro e w3 ⟨rfl, hb⟩; have HB3 := Lib.hid (HB2.out.trans (hb.mono HB2.out.size)); clear hb HQT)
   | (go_at_call 6; rw [HCAT.out]; refine (HPE.out _ HB3.out).mono ?_; rintro e w4 ⟨cap, lb, lo, l, rfl, hk, hc, t1, t2, hl, hb⟩; have HB4 := Lib.hid (HB3.out.trans (hb.mono HB3.out.size)); have HK4 := Lib.hid hk; have T1 := Lib.hid t1; have T2 := Lib.hid t2; have HL := Lib.hid hl; clear hb hk t1 t2 hl))
 refine gen_world (F := fun W => Bx W w4.heap.size #[.int .i64 17, .int .i32 0, .string ⟨#[]⟩, .string ⟨#[43]⟩, .string ⟨#[]⟩, .slice (some ⟨lb, lo, none⟩) 2 cap, .string ⟨#[]⟩, .int .i64 0] 26 ∧ Below w4.heap.size w4 W) ⟨Bx.new _ _ _, (Below.refl _ _).alloc (Nat.le_refl _) _⟩ ?_
 rintro W1 ⟨hx1, hb1⟩
 have HX1 := Lib.hid hx1
 have HW1 : Hid (Below w.heap.size w W1) := Lib.hid (HB4.out.trans (hb1.mono HB4.out.size))
 have HK1 : Hid (ExK w3.heap.size none W1 (plusN s t) (.ex 17 0 E0 ⟨#[43]⟩ E0 (.slice (some ⟨lb, lo, none⟩) 2 cap) l ⟨#[]⟩ 0)) := Lib.hid (HK4.out.below hb1)
 have T1' : Hid (TxE W1 lb lo s) := Lib.hid (T1.out.below hb1 HL.out)
 have T2' : Hid (TxE W1 lb (lo + 8) t) := Lib.hid (T2.out.below hb1 HL.out)
 have HL' : Hid (lb < W1.heap.size) := Lib.hid (Nat.lt_of_lt_of_le HL.out hb1.size)
 have u1 : W1.cell? ⟨lb, lo + 2, none⟩ = some (.string s) := T1'.out.2
 have u2 : W1.cell? ⟨lb, lo + 8 + 2, none⟩ = some (.string (s ++ ⟨#[113]⟩)) := by rw [HTX.out]; exact T2'.out.2
 have u3 : W1.cell? ⟨lb, lo + 10, none⟩ = some (.string (s ++ ⟨#[113]⟩)) := u2
 obtain ⟨a0, a1, a2, a3, a4, a5, a6, a7⟩ := hx1.all_8
 have hl1 := hx1.lt
 clear hx1 hb1 HK4 T1 T2 HL
 go_upto_region 7 with (first
   | (go_at_call 8; refine (HSE.out _ _ _ _ T1'.out T2'.out HL'.out).mono ?_; rintro e w5 ⟨rfl, hb⟩; have HB5 := Lib.hid (HW1.out.trans (hb.mono HW1.out.size)); have HBx5 := Lib.hid hb; clear hb)
   | (go_at_call 6; refine (HPE.out _ HB5.out).mono ?_; rintro e w6 ⟨cap2, lb2, lo2, l2, rfl, hk, hc2, t1, t2, hl, hb⟩; have HB6 := Lib.hid (HB5.out.trans (hb.mono HB5.out.size)); have HB56 := Lib.hid hb; have HK6 := Lib.hid hk; clear hb hk t1 t2 hl hc2))
 refine gen_world (F := fun W => Bx W w6.heap.size #[.int .i64 17, .int .i32 0, .string ⟨#[]⟩, .string ⟨#[43]⟩, .string ⟨#[]⟩, .slice (some ⟨lb2, lo2, none⟩) 2 cap2, .string ⟨#[]⟩, .int .i64 0] 26 ∧ Below w6.heap.size w6 W) ⟨Bx.new _ _ _, (Below.refl _ _).alloc (Nat.le_refl _) _⟩ ?_
 rintro W2 ⟨hx2, hb2⟩
 have HX2 := Lib.hid hx2
 have HW2 : Hid (Below w.heap.size w W2) := Lib.hid (HB6.out.trans (hb2.mono HB6.out.size))
 have H12 : Hid (Below W1.heap.size W1 W2) := by
   have h1 := HBx5.out.trans (HB56.out.mono HBx5.out.size)
   exact Lib.hid (h1.trans (hb2.mono h1.size))
 have HX1' : Hid (Bx W2 w4.heap.size #[.int .i64 17, .int .i32 0, .string ⟨#[]⟩, .string ⟨#[43]⟩, .string ⟨#[]⟩, .slice (some ⟨lb, lo, none⟩) 2 cap, .string ⟨#[]⟩, .int .i64 0] 26) := Lib.hid (HX1.out.next H12.out)
 have HK2 : Hid (ExK w5.heap.size none W2 (plusN s t) (.ex 17 0 E0 ⟨#[43]⟩ E0 (.slice (some ⟨lb2, lo2, none⟩) 2 cap2) l2 ⟨#[]⟩ 0)) := Lib.hid (HK6.out.below hb2)
 have HK1' : Hid (ExK w3.heap.size none W2 (plusN s t) (.ex 17 0 E0 ⟨#[43]⟩ E0 (.slice (some ⟨lb, lo, none⟩) 2 cap) l ⟨#[]⟩ 0)) := Lib.hid (HK1.out.below H12.out)
 have HTL := Lib.hid (HT.out _ HW2.out)
 have HSM : Hid (∀ W, Below W2.heap.size W2 W → Calls Tryz.prog 9 #[.agg #[.int .i64 17, .int .i32 0, .string ⟨#[]⟩, .string ⟨#[43]⟩, .string ⟨#[]⟩, .slice (some ⟨lb2, lo2, none⟩) 2 cap2, .string ⟨#[]⟩, .int .i64 0], .agg #[.int .i64 17, .int .i32 0, .string ⟨#[]⟩, .string ⟨#[43]⟩, .string ⟨#[]⟩, .slice (some ⟨lb, lo, none⟩) 2 cap, .string ⟨#[]⟩, .int .i64 0]] W fun e W' => e = .returned (.bool true) ∧ Below W.heap.size W W') :=
   Lib.hid fun W hb => by
     have k2 := HK2.out.below hb
     have k1 := HK1'.out.below hb
     have b2 := k2.bareS
     have b1 := k1.bareS
     exact ref_same_of 3000 (ref_sames_any 3000 (by decide)) W 17 0 E0 ⟨#[43]⟩ E0 _ l2 ⟨#[]⟩ 0 17 0 E0 ⟨#[43]⟩ E0 _ l ⟨#[]⟩ 0 k2.now k1.now (kids_sizeS b2 (size_plusN s t)) true (same_two b2 b1)
 clear a0 a1 a2 a3 a4 a5 a6 a7 hl1 hx2 hb2 u1 u2 u3 HX1 HK1 HK6 HT
 go_wp2_with (first
   | (go_at_call 5; refine HTL.out.mono ?_; rintro e w7 ⟨rfl, hb⟩; obtain ⟨a0, a1, a2, a3, a4, a5, a6, a7⟩ := (HX1'.out.next hb).all_8; obtain ⟨b0, b1, b2, b3, b4, b5, b6, b7⟩ := (HX2.out.next hb).all_8; have hl1 := (HX1'.out.next hb).lt; have hl2 := (HX2.out.next hb).lt; have HB7 := Lib.hid hb; clear hb)
   | (go_at_call 9; refine (HSM.out _ HB7.out).mono ?_; rintro e w8 ⟨rfl, hb⟩; have HB8 := Lib.hid hb; clear hb))
 go_ret
 have h3 := HW2.out.trans (HB7.out.mono HW2.out.size)
 exact ⟨rfl, h3.trans (HB8.out.mono h3.size)⟩
theorem pshow_any (w : World) (s : ByteArray) (hv : Vars w) (ht : ∀ w', Below w.heap.size w w' → Calls Tryz.prog 5 #[] w' fun e w'' => e = .returned (.bool true) ∧ Below w'.heap.size w' w'') : Calls Tryz.prog 3 #[.string s] w fun e w' => e = .returned (.bool true) ∧ Below w.heap.size w w' := by
 by_cases h : 100 < s.size
 · exact pshow_long w s ht h
 · by_cases hb : bad s < 0
   · exact pshow_main w s hv ht (by omega) hb
   · exact pshow_bad w s ht (by omega) hb
end
section
open Go.RowKit
theorem pshow_all (W : World) {C : Nat} (hW : GlW C W) (s : ByteArray) (hv : Vars W) : Calls Tryz.prog 3 #[.string s] W fun e w' => e = .returned (.bool true) ∧ Below W.heap.size W w' :=
 pshow_any W s hv fun w' hb => sx_told_any w' (hW.later hb)
end
end Go.Proofs.YtaclhdpjkgoadaaGreatDoor
