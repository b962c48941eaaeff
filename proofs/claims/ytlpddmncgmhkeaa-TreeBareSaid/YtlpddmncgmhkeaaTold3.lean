/- What is told of a few. -/
import Derived.Test.YtlpddmncgmhkeaaBareL
import Derived.Test.YtlpddmncgmhkeaaBareP
set_option linter.unusedSimpArgs false
set_option linter.unusedVariables false
namespace Go.Proofs.Ytlpddmncgmhkeaa
open Go.RowKit
structure T0 (n : Nat) (w W : World) : Prop where
  bel : Below w.heap.size w W
  b0 : Bx W (n + 0) #[.int .i64 1, .int .i32 1, .string ⟨#[]⟩, .string ⟨#[]⟩, .string ⟨#[]⟩, .slice none 0 0, .string ⟨#[]⟩, .int .i64 0] 41
  b1 : Bx W (n + 1) #[.int .i64 1, .int .i32 1, .string ⟨#[]⟩, .string ⟨#[]⟩, .string ⟨#[]⟩, .slice none 0 0, .string ⟨#[]⟩, .int .i64 0, .int .i64 1, .int .i32 1, .string ⟨#[]⟩, .string ⟨#[]⟩, .string ⟨#[]⟩, .slice none 0 0, .string ⟨#[]⟩, .int .i64 0] 41
  b2 : Bx W (n + 2) #[.int .i64 17, .int .i32 0, .string ⟨#[]⟩, .string ⟨#[43]⟩, .string ⟨#[]⟩, .slice (some ⟨n + 1, 0, none⟩) 2 2, .string ⟨#[]⟩, .int .i64 0] 41
  b3 : Bx W (n + 3) #[.int .i64 17, .int .i32 0, .string ⟨#[]⟩, .string ⟨#[43]⟩, .string ⟨#[]⟩, .slice (some ⟨n + 1, 0, none⟩) 2 2, .string ⟨#[]⟩, .int .i64 0] 41
  b4 : Bx W (n + 4) #[.bool false, .string ⟨#[105, 110, 116]⟩, .string ⟨#[120]⟩, .slice (some ⟨n + 3, 0, none⟩) 1 1] 44
  b5 : Bx W (n + 5) #[.int .i64 1, .int .i32 1, .string ⟨#[]⟩, .string ⟨#[]⟩, .string ⟨#[]⟩, .slice none 0 0, .string ⟨#[]⟩, .int .i64 0] 41
  b6 : Bx W (n + 6) #[.int .i64 6, .int .i32 0, .string ⟨#[]⟩, .string ⟨#[]⟩, .slice (some ⟨n + 5, 0, none⟩) 1 1, .slice none 0 0, .slice none 0 0, .slice none 0 0, .int .i64 0] 47
  b7 : Bx W (n + 7) #[.bool false, .bool false, .string ⟨#[105, 110, 116]⟩, .string ⟨#[102]⟩, .slice none 0 0, .slice (some ⟨n + 6, 0, none⟩) 1 1] 39
  b8 : Bx W (n + 8) #[.string ⟨#[65]⟩, .string ⟨#[]⟩, .slice (some ⟨n + 4, 0, none⟩) 1 1, .slice (some ⟨n + 7, 0, none⟩) 1 1] 33
  b9 : Bx W (n + 9) #[.slice (some ⟨n + 8, 0, none⟩) 1 1] 24
  b10 : Bx W (n + 10) #[.slice (some ⟨n + 11, 0, none⟩) 1 1] 24
  b11 : Bx W (n + 11) #[.string ⟨#[97]⟩, .string ⟨#[]⟩, .slice none 0 0, .slice none 0 0] 33
  b12 : Bx W (n + 12) #[.int .i64 17, .int .i32 0, .string ⟨#[]⟩, .string ⟨#[43]⟩, .string ⟨#[]⟩, .slice (some ⟨n + 1, 0, none⟩) 2 2, .string ⟨#[90]⟩, .int .i64 0] 41
theorem Bx.up {w : World} {b : Nat} {cs : Array Value} {T : TypeId} (h : Bx w b cs T) (o : Obj) : Bx (w.alloc o) b cs T := h.next ((Below.refl _ _).alloc (Nat.le_refl _) _)
theorem Bx.at_new {w : World} {b : Nat} {cs : Array Value} {T : TypeId} (hb : b = w.heap.size) : Bx (w.alloc (.cells cs T)) b cs T := by subst hb; exact Bx.new _ _ _

def ndOne : Nd := .ex 1 1 ⟨#[]⟩ ⟨#[]⟩ ⟨#[]⟩ (.slice none 0 0) [] ⟨#[]⟩ 0
def ndSum (n : Nat) : Nd := .ex 17 0 ⟨#[]⟩ ⟨#[43]⟩ ⟨#[]⟩ (.slice (some ⟨n + 1, 0, none⟩) 2 2) [ndOne, ndOne] ⟨#[]⟩ 0
def ndBnd (n : Nat) : Nd := .ex 17 0 ⟨#[]⟩ ⟨#[43]⟩ ⟨#[]⟩ (.slice (some ⟨n + 1, 0, none⟩) 2 2) [ndOne, ndOne] ⟨#[90]⟩ 0
def ndFld (n : Nat) : Nd := .fd false ⟨#[105, 110, 116]⟩ ⟨#[120]⟩ (.slice (some ⟨n + 3, 0, none⟩) 1 1) [ndSum n]
def ndRet (n : Nat) : Nd := .st 6 0 ⟨#[]⟩ ⟨#[]⟩ (.slice (some ⟨n + 5, 0, none⟩) 1 1) (.slice none 0 0) (.slice none 0 0) (.slice none 0 0) [ndOne] [] [] [] 0
def ndMet (n : Nat) : Nd := .mt false false ⟨#[105, 110, 116]⟩ ⟨#[102]⟩ (.slice none 0 0) [] (.slice (some ⟨n + 6, 0, none⟩) 1 1) [ndRet n]
def ndCls (n : Nat) : Nd := .cl ⟨#[65]⟩ ⟨#[]⟩ (.slice (some ⟨n + 4, 0, none⟩) 1 1) (.slice (some ⟨n + 7, 0, none⟩) 1 1) [ndFld n] [ndMet n]
def ndBad : Nd := .cl ⟨#[97]⟩ ⟨#[]⟩ (.slice none 0 0) (.slice none 0 0) [] []
theorem rw_bx {W : World} {b : Nat} {cs : Array Value} {T : TypeId} {t : Tg} {l : List Nd} {k : Nat} (h : Bx W b cs T) (hc : cs.toList = l.flatMap cellsN) (ht : ∀ x ∈ l, x.tag = t) (hk : l.length = k) (hm : k ≤ 1000) : Rw W t (.slice (some ⟨b, 0, none⟩) k k) l := by
  refine ⟨_, k, by rw [hk], by rw [hk]; exact ⟨by unfold maxLen; omega, Nat.le_refl _⟩, ht, fun _ => ⟨b, 0, rfl, fun i x hx j u hu => ?_⟩⟩
  have hxt := ht x (List.mem_of_getElem? hx)
  have hj : j < t.sz := by rw [← hxt, ← cells_len]; exact (List.getElem?_eq_some_iff.1 hu).1
  have := flat_get l i j x ht hx hj
  rw [← hc, hu] at this
  rw [h.cell, ← this]; simp
theorem sz_le {s : ByteArray} (h : s.size ≤ 100) : s.size ≤ maxLen := by unfold maxLen; omega
theorem kd_one (W : World) : Kd W ndOne := by
  unfold ndOne; rw [Kd]; exact ⟨⟨sz_le (by decide), sz_le (by decide), sz_le (by decide)⟩, Rw.empty _ _ _ _, trivial⟩
theorem kd_sum {n : Nat} {w W : World} (h : T0 n w W) : Kd W (ndSum n) := by
  unfold ndSum; rw [Kd]; exact ⟨⟨sz_le (by decide), sz_le (by decide), sz_le (by decide)⟩, rw_bx h.b1 rfl (by simp [ndOne, Nd.tag]) rfl (by decide), kd_one W, kd_one W, trivial⟩
theorem kd_bnd {n : Nat} {w W : World} (h : T0 n w W) : Kd W (ndBnd n) := by
  unfold ndBnd; rw [Kd]; exact ⟨⟨sz_le (by decide), sz_le (by decide), sz_le (by decide)⟩, rw_bx h.b1 rfl (by simp [ndOne, Nd.tag]) rfl (by decide), kd_one W, kd_one W, trivial⟩
theorem kd_ret {n : Nat} {w W : World} (h : T0 n w W) : Kd W (ndRet n) := by
  unfold ndRet; rw [Kd]; exact ⟨⟨sz_le (by decide), sz_le (by decide)⟩, ⟨rw_bx h.b5 rfl (by simp [ndOne, Nd.tag]) rfl (by decide), kd_one W, trivial⟩, ⟨Rw.empty _ _ _ _, trivial⟩, ⟨Rw.empty _ _ _ _, trivial⟩, Rw.empty _ _ _ _, trivial⟩
theorem kd_cls {n : Nat} {w W : World} (h : T0 n w W) : Kd W (ndCls n) := by
  have hf : Kd W (ndFld n) := by
    unfold ndFld; rw [Kd]; exact ⟨⟨sz_le (by decide), sz_le (by decide)⟩, rw_bx h.b3 rfl (by simp [ndSum, Nd.tag]) rfl (by decide), kd_sum h, trivial⟩
  have hm : Kd W (ndMet n) := by
    unfold ndMet; rw [Kd]; exact ⟨⟨sz_le (by decide), sz_le (by decide)⟩, ⟨none, 0, rfl, by unfold maxLen; simp, by simp, fun h => by simp at h⟩, rw_bx h.b6 rfl (by simp [ndRet, Nd.tag]) rfl (by decide), kd_ret h, trivial⟩
  unfold ndCls; rw [Kd]; exact ⟨⟨sz_le (by decide), sz_le (by decide)⟩, ⟨rw_bx h.b4 rfl (by simp [ndFld, Nd.tag]) rfl (by decide), hf, trivial⟩, rw_bx h.b7 rfl (by simp [ndMet, Nd.tag]) rfl (by decide), hm, trivial⟩
theorem kd_bad (W : World) : Kd W ndBad := by
  unfold ndBad; rw [Kd]; exact ⟨⟨sz_le (by decide), sz_le (by decide)⟩, ⟨Rw.empty _ _ _ _, trivial⟩, Rw.empty _ _ _ _, trivial⟩
theorem rw_p {n : Nat} {w W : World} (h : T0 n w W) : Rw W .cl (.slice (some ⟨n + 8, 0, none⟩) 1 1) [ndCls n] := rw_bx h.b8 rfl (by simp [ndCls, Nd.tag]) rfl (by decide)
theorem rw_q {n : Nat} {w W : World} (h : T0 n w W) : Rw W .cl (.slice (some ⟨n + 11, 0, none⟩) 1 1) [ndBad] := rw_bx h.b11 rfl (by simp [ndBad, Nd.tag]) rfl (by decide)
theorem rw_s {n : Nat} {w W : World} (h : T0 n w W) : Rw W .st (.slice (some ⟨n + 6, 0, none⟩) 1 1) [ndRet n] := rw_bx h.b6 rfl (by simp [ndRet, Nd.tag]) rfl (by decide)
theorem okT_of {x : Nd} {d : Nat} (h1 : d ≤ 40) (h2 : fitsB x = true) (h3 : (x.kids.all fun y => okT y (d + stepN x y)) = true) : okT x d = true := by rw [okT_eq, decide_eq_true h1, h2, h3]; rfl
theorem ok_one (d : Nat) (h : d ≤ 40) : okT ndOne d = true := okT_of h (by decide +kernel) rfl
theorem ok_sum (n d : Nat) (h : d + 1 ≤ 40) : okT (ndSum n) d = true :=
  okT_of (by omega) (show fitE 17 0 ⟨#[]⟩ ⟨#[43]⟩ ⟨#[]⟩ 2 = true by decide +kernel) (show (okT ndOne (d + 1) && (okT ndOne (d + 1) && true)) = true by rw [ok_one _ h]; rfl)
theorem cl1 : (valT ⟨#[105, 110, 116]⟩ && (nameOk ⟨#[120]⟩ && decide (1 ≤ 1))) = true := by decide +kernel
theorem cl2 : (classOk ⟨#[65]⟩ && ((emp ⟨#[]⟩ || classOk ⟨#[]⟩) && (decide (1 ≤ 30) && decide (1 ≤ 30)))) = true := by decide +kernel
theorem cl3 : (nameOk ⟨#[102]⟩) = true := by decide +kernel
theorem cl4 : valT ⟨#[105, 110, 116]⟩ = true := by decide +kernel
theorem cl5 : fitE 17 0 ⟨#[]⟩ ⟨#[43]⟩ ⟨#[]⟩ 2 = true := by decide +kernel
theorem cl6 : fitS 6 0 ⟨#[]⟩ ⟨#[]⟩ [ndOne] [] [] [] = true := by decide +kernel
theorem ok_fld (n d : Nat) (h : d + 2 ≤ 40) : okT (ndFld n) d = true :=
  okT_of (by omega) cl1 (show (okT (ndSum n) (d + 1) && true) = true by rw [ok_sum _ _ h]; rfl)
theorem ok_ret (n d : Nat) (h : d ≤ 40) : okT (ndRet n) d = true :=
  okT_of h cl6 (show (okT ndOne d && true) = true by rw [ok_one _ h]; rfl)
theorem ok_met (n d : Nat) (h : d + 1 ≤ 40) : okT (ndMet n) d = true :=
  okT_of (by omega) (show fitM false false ⟨#[105, 110, 116]⟩ ⟨#[102]⟩ [] [ndRet n] = true by
    have : hasSup [ndRet n] = false := rfl
    simp [fitM, this, cl3, cl4, fitP]) (show (okT (ndRet n) (d + 1) && true) = true by rw [ok_ret _ _ h]; rfl)
theorem ok_cls (n : Nat) : okT (ndCls n) 0 = true :=
  okT_of (by omega) cl2 (show (okT (ndFld n) 0 && (okT (ndMet n) 0 && true)) = true by rw [ok_fld _ _ (by omega), ok_met _ _ (by omega)]; rfl)
theorem size_p (n : Nat) : sizeL [ndCls n] = 8 := rfl
theorem may_p (n : Nat) : mayB [ndCls n] = true := by
  unfold mayB
  rw [size_p]
  simp [ok_cls]
theorem may_q : mayB [ndBad] = false := by
  have : okT ndBad 0 = false := by rw [okT_eq, show fitsB ndBad = false by decide +kernel]; rfl
  unfold mayB
  simp only [List.all_cons, List.all_nil, this]
  decide
theorem may_none : mayB [] = true := by decide
theorem same_pq (n : Nat) : sameL [ndCls n] [ndBad] = false := by rw [sameL_cons]; unfold ndCls ndBad; simp [alikeB]
theorem same_sb (n : Nat) : sameL [ndSum n] [ndBnd n] = true := by rw [sameL_of_bare (b := [ndBnd n]) (by simp [bareL, bareN, ndSum, ndBnd])]; exact sameL_refl _ _ (Nat.le_refl _)
theorem same_so (n : Nat) : sameL [ndSum n] [ndOne] = false := by rw [sameL_cons]; unfold ndSum ndOne; simp [alikeB]
theorem sm_one : Sm ndOne := Sm.mk _ ⟨by decide, by decide, by decide⟩ (by simp [ndOne, Nd.kids])
theorem sm_sum (n : Nat) : Sm (ndSum n) := Sm.mk _ ⟨by decide, by decide, by decide⟩ (by simp only [ndSum, Nd.kids]; intro y hy; simp at hy; subst hy; exact sm_one)
theorem sm_cls (n : Nat) : Sm (ndCls n) := by
  have h1 : Sm (ndRet n) := Sm.mk _ ⟨by decide, by decide⟩ (by simp only [ndRet, Nd.kids]; intro y hy; simp at hy; subst hy; exact sm_one)
  have h2 : Sm (ndFld n) := Sm.mk _ ⟨by decide, by decide⟩ (by simp only [ndFld, Nd.kids]; intro y hy; simp at hy; subst hy; exact sm_sum n)
  have h3 : Sm (ndMet n) := Sm.mk _ ⟨⟨by decide, by decide⟩, by simp, by simp⟩ (by simp only [ndMet, Nd.kids]; intro y hy; simp at hy; subst hy; exact h1)
  refine Sm.mk _ ⟨by decide, by decide⟩ ?_
  simp only [ndCls, Nd.kids]
  intro y hy
  simp at hy
  rcases hy with rfl | rfl
  · exact h2
  · exact h3
theorem C13_of {n : Nat} {w wn : World} {vb : Value} {lb : List Nd} (hr : Rw wn .cl vb lb) (hk : KdL wn lb) (he : bareL lb = bareL [ndCls n]) (h : T0 n w wn) :
    Hid (∀ w', Below wn.heap.size wn w' → Calls Try.prog 9 #[.agg #[vb], .agg #[.slice (some ⟨n + 8, 0, none⟩) 1 1]] w' fun e w'' => e = .returned (.bool true) ∧ Below w'.heap.size w' w'') := by
  show ∀ w', _
  intro w' hb
  have K := Keep.below hb
  exact same_prog_any w' _ _ lb [ndCls n] (hr.keep K) (KdL.keep K _ hk) ((rw_p h).keep K) ⟨Kd.keep K _ (kd_cls h), trivial⟩ (by rw [sizeL_of_bare he, size_p]; omega) (by rw [size_p]; omega) true (by rw [sameL_of_bare he]; exact sameL_refl _ _ (Nat.le_refl _))
set_option maxRecDepth 100000 in
set_option maxHeartbeats 8000000 in
theorem told_any (w : World) : Calls Try.prog 5 #[] w fun e w' => e = .returned (.bool true) ∧ Below w.heap.size w w' := by
  go_enter Try.func5, Try.ntmps5
  go_wp2_with fail
  refine gen_world (T0 w.heap.size w) ?_ ?_
  · refine ⟨?_, ?_, ?_, ?_, ?_, ?_, ?_, ?_, ?_, ?_, ?_, ?_, ?_, ?_⟩
    · repeat (first | exact Below.refl _ _ | refine Below.alloc ?_ (by simp <;> omega) _)
    · iterate 12 (refine Bx.up ?_ _)
      exact Bx.at_new (by simp)
    · iterate 11 (refine Bx.up ?_ _)
      exact Bx.at_new (by simp)
    · iterate 10 (refine Bx.up ?_ _)
      exact Bx.at_new (by simp)
    · iterate 9 (refine Bx.up ?_ _)
      exact Bx.at_new (by simp)
    · iterate 8 (refine Bx.up ?_ _)
      exact Bx.at_new (by simp)
    · iterate 7 (refine Bx.up ?_ _)
      exact Bx.at_new (by simp)
    · iterate 6 (refine Bx.up ?_ _)
      exact Bx.at_new (by simp)
    · iterate 5 (refine Bx.up ?_ _)
      exact Bx.at_new (by simp)
    · iterate 4 (refine Bx.up ?_ _)
      exact Bx.at_new (by simp)
    · iterate 3 (refine Bx.up ?_ _)
      exact Bx.at_new (by simp)
    · iterate 2 (refine Bx.up ?_ _)
      exact Bx.at_new (by simp)
    · iterate 1 (refine Bx.up ?_ _)
      exact Bx.at_new (by simp)
    · exact Bx.at_new (by simp)
  · intro W h
    have HK : Hid (∀ w', Below W.heap.size W w' → T0 w.heap.size w w') := by
      show ∀ w', _
      intro w' hb
      exact ⟨h.bel.trans (hb.mono h.bel.size), h.b0.next hb, h.b1.next hb, h.b2.next hb, h.b3.next hb, h.b4.next hb, h.b5.next hb, h.b6.next hb, h.b7.next hb, h.b8.next hb, h.b9.next hb, h.b10.next hb, h.b11.next hb, h.b12.next hb⟩
    have C1 : Hid (∀ w', Below W.heap.size W w' → Calls Try.prog 15 #[.agg #[.int .i64 17, .int .i32 0, .string ⟨#[]⟩, .string ⟨#[43]⟩, .string ⟨#[]⟩, .slice (some ⟨w.heap.size + 1, 0, none⟩) 2 2, .string ⟨#[]⟩, .int .i64 0]] w' fun e w'' => e = .returned (.int .i64 (3 : Nat)) ∧ Below w'.heap.size w' w'') := by
      show ∀ w', _
      intro w' hb
      have h := HK.out w' hb
      exact expr_any w' _ _ _ _ _ _ _ _ _ (kd_sum h) 3 rfl (by omega)
    have C2 : Hid (∀ w', Below W.heap.size W w' → Calls Try.prog 10 #[.agg #[.slice (some ⟨w.heap.size + 8, 0, none⟩) 1 1]] w' fun e w'' => e = .returned (.int .i64 (8 : Nat)) ∧ Below w'.heap.size w' w'') := by
      show ∀ w', _
      intro w' hb
      have h := HK.out w' hb
      exact nodes_any w' _ [ndCls w.heap.size] (rw_p h) ⟨kd_cls h, trivial⟩ 8 rfl (by omega)
    have C3 : Hid (∀ w', Below W.heap.size W w' → Calls Try.prog 16 #[.slice (some ⟨w.heap.size + 6, 0, none⟩) 1 1] w' fun e w'' => e = .returned (.int .i64 (2 : Nat)) ∧ Below w'.heap.size w' w'') := by
      show ∀ w', _
      intro w' hb
      have h := HK.out w' hb
      exact stmts_any w' _ [ndRet w.heap.size] (rw_s h) ⟨kd_ret h, trivial⟩ 2 rfl (by omega)
    have C4 : Hid (∀ w', Below W.heap.size W w' → Calls Try.prog 11 #[.agg #[.slice (some ⟨w.heap.size + 8, 0, none⟩) 1 1]] w' fun e w'' => e = .returned (.bool true) ∧ Below w'.heap.size w' w'') := by
      show ∀ w', _
      intro w' hb
      have h := HK.out w' hb
      exact may_any w' _ [ndCls w.heap.size] (rw_p h) ⟨kd_cls h, trivial⟩ (by rw [size_p]; omega) true (may_p _)
    have C5 : Hid (∀ w', Below W.heap.size W w' → Calls Try.prog 11 #[.agg #[.slice (some ⟨w.heap.size + 11, 0, none⟩) 1 1]] w' fun e w'' => e = .returned (.bool false) ∧ Below w'.heap.size w' w'') := by
      show ∀ w', _
      intro w' hb
      have h := HK.out w' hb
      exact may_any w' _ [ndBad] (rw_q h) ⟨kd_bad w', trivial⟩ (by decide) false may_q
    have C6 : Hid (∀ w', Below W.heap.size W w' → Calls Try.prog 11 #[.agg #[.slice none 0 0]] w' fun e w'' => e = .returned (.bool true) ∧ Below w'.heap.size w' w'') := by
      show ∀ w', _
      intro w' hb
      have h := HK.out w' hb
      exact may_any w' _ [] (Rw.empty _ _ _ _) trivial (by decide) true may_none
    have C7 : Hid (∀ w', Below W.heap.size W w' → Calls Try.prog 9 #[.agg #[.slice (some ⟨w.heap.size + 8, 0, none⟩) 1 1], .agg #[.slice (some ⟨w.heap.size + 8, 0, none⟩) 1 1]] w' fun e w'' => e = .returned (.bool true) ∧ Below w'.heap.size w' w'') := by
      show ∀ w', _
      intro w' hb
      have h := HK.out w' hb
      exact same_prog_any w' _ _ [ndCls w.heap.size] [ndCls w.heap.size] (rw_p h) ⟨kd_cls h, trivial⟩ (rw_p h) ⟨kd_cls h, trivial⟩ (by rw [size_p]; omega) (by rw [size_p]; omega) true (sameL_refl _ _ (Nat.le_refl _))
    have C8 : Hid (∀ w', Below W.heap.size W w' → Calls Try.prog 9 #[.agg #[.slice (some ⟨w.heap.size + 8, 0, none⟩) 1 1], .agg #[.slice (some ⟨w.heap.size + 11, 0, none⟩) 1 1]] w' fun e w'' => e = .returned (.bool false) ∧ Below w'.heap.size w' w'') := by
      show ∀ w', _
      intro w' hb
      have h := HK.out w' hb
      exact same_prog_any w' _ _ [ndCls w.heap.size] [ndBad] (rw_p h) ⟨kd_cls h, trivial⟩ (rw_q h) ⟨kd_bad w', trivial⟩ (by rw [size_p]; omega) (by decide) false (same_pq _)
    have C9 : Hid (∀ w', Below W.heap.size W w' → Calls Try.prog 17 #[.agg #[.int .i64 17, .int .i32 0, .string ⟨#[]⟩, .string ⟨#[43]⟩, .string ⟨#[]⟩, .slice (some ⟨w.heap.size + 1, 0, none⟩) 2 2, .string ⟨#[]⟩, .int .i64 0], .agg #[.int .i64 17, .int .i32 0, .string ⟨#[]⟩, .string ⟨#[43]⟩, .string ⟨#[]⟩, .slice (some ⟨w.heap.size + 1, 0, none⟩) 2 2, .string ⟨#[90]⟩, .int .i64 0]] w' fun e w'' => e = .returned (.bool true) ∧ Below w'.heap.size w' w'') := by
      show ∀ w', _
      intro w' hb
      have h := HK.out w' hb
      exact same_expr_any w' _ _ _ _ _ _ _ _ _ _ _ _ _ _ _ _ _ _ (kd_sum h) (kd_bnd h) (by show 3 ≤ 1000000; omega) (by show 3 ≤ 1000000; omega) true (same_sb _)
    have C10 : Hid (∀ w', Below W.heap.size W w' → Calls Try.prog 17 #[.agg #[.int .i64 17, .int .i32 0, .string ⟨#[]⟩, .string ⟨#[43]⟩, .string ⟨#[]⟩, .slice (some ⟨w.heap.size + 1, 0, none⟩) 2 2, .string ⟨#[]⟩, .int .i64 0], .agg #[.int .i64 1, .int .i32 1, .string ⟨#[]⟩, .string ⟨#[]⟩, .string ⟨#[]⟩, .slice none 0 0, .string ⟨#[]⟩, .int .i64 0]] w' fun e w'' => e = .returned (.bool false) ∧ Below w'.heap.size w' w'') := by
      show ∀ w', _
      intro w' hb
      have h := HK.out w' hb
      exact same_expr_any w' _ _ _ _ _ _ _ _ _ _ _ _ _ _ _ _ _ _ (kd_sum h) (kd_one w') (by show 3 ≤ 1000000; omega) (by show 1 ≤ 1000000; omega) false (same_so _)
    have C11 : Hid (∀ w', Below W.heap.size W w' → Calls Try.prog 18 #[.slice none 0 0, .slice none 0 0] w' fun e w'' => e = .returned (.bool true) ∧ Below w'.heap.size w' w'') := by
      show ∀ w', _
      intro w' hb
      have h := HK.out w' hb
      exact same_stmts_any w' _ _ [] [] (Rw.empty _ _ _ _) trivial (Rw.empty _ _ _ _) trivial (by decide) (by decide) true sameL_nil
    have C12 : Hid (∀ w', Below W.heap.size W w' → Calls Try.prog 7 #[.agg #[.slice (some ⟨w.heap.size + 8, 0, none⟩) 1 1]] w' (BareSaid w' [ndCls w.heap.size])) := by
      show ∀ w', _
      intro w' hb
      have h := HK.out w' hb
      exact bare_any w' _ [ndCls w.heap.size] (rw_p h) ⟨kd_cls h, trivial⟩ (by intro x hx; simp at hx; subst hx; exact sm_cls _) (by rw [size_p]; omega)
    have HS : Hid (∀ w', Below W.heap.size W w' → w'.cell? ⟨w.heap.size, 0, none⟩ = some (.int .i64 1) ∧ w'.cell? ⟨w.heap.size, 1, none⟩ = some (.int .i32 1) ∧ w'.cell? ⟨w.heap.size, 2, none⟩ = some (.string ⟨#[]⟩) ∧ w'.cell? ⟨w.heap.size, 3, none⟩ = some (.string ⟨#[]⟩) ∧ w'.cell? ⟨w.heap.size, 4, none⟩ = some (.string ⟨#[]⟩) ∧ w'.cell? ⟨w.heap.size, 5, none⟩ = some (.slice none 0 0) ∧ w'.cell? ⟨w.heap.size, 6, none⟩ = some (.string ⟨#[]⟩) ∧ w'.cell? ⟨w.heap.size, 7, none⟩ = some (.int .i64 0) ∧ w'.cell? ⟨w.heap.size + 2, 0, none⟩ = some (.int .i64 17) ∧ w'.cell? ⟨w.heap.size + 2, 1, none⟩ = some (.int .i32 0) ∧ w'.cell? ⟨w.heap.size + 2, 2, none⟩ = some (.string ⟨#[]⟩) ∧ w'.cell? ⟨w.heap.size + 2, 3, none⟩ = some (.string ⟨#[43]⟩) ∧ w'.cell? ⟨w.heap.size + 2, 4, none⟩ = some (.string ⟨#[]⟩) ∧ w'.cell? ⟨w.heap.size + 2, 5, none⟩ = some (.slice (some ⟨w.heap.size + 1, 0, none⟩) 2 2) ∧ w'.cell? ⟨w.heap.size + 2, 6, none⟩ = some (.string ⟨#[]⟩) ∧ w'.cell? ⟨w.heap.size + 2, 7, none⟩ = some (.int .i64 0) ∧ w'.cell? ⟨w.heap.size + 9, 0, none⟩ = some (.slice (some ⟨w.heap.size + 8, 0, none⟩) 1 1) ∧ w'.cell? ⟨w.heap.size + 10, 0, none⟩ = some (.slice (some ⟨w.heap.size + 11, 0, none⟩) 1 1) ∧ w'.cell? ⟨w.heap.size + 12, 0, none⟩ = some (.int .i64 17) ∧ w'.cell? ⟨w.heap.size + 12, 1, none⟩ = some (.int .i32 0) ∧ w'.cell? ⟨w.heap.size + 12, 2, none⟩ = some (.string ⟨#[]⟩) ∧ w'.cell? ⟨w.heap.size + 12, 3, none⟩ = some (.string ⟨#[43]⟩) ∧ w'.cell? ⟨w.heap.size + 12, 4, none⟩ = some (.string ⟨#[]⟩) ∧ w'.cell? ⟨w.heap.size + 12, 5, none⟩ = some (.slice (some ⟨w.heap.size + 1, 0, none⟩) 2 2) ∧ w'.cell? ⟨w.heap.size + 12, 6, none⟩ = some (.string ⟨#[90]⟩) ∧ w'.cell? ⟨w.heap.size + 12, 7, none⟩ = some (.int .i64 0) ∧ w'.cell? ⟨w.heap.size + 8, 3, none⟩ = some (.slice (some ⟨w.heap.size + 7, 0, none⟩) 1 1) ∧ w'.cell? ⟨w.heap.size + 7, 5, none⟩ = some (.slice (some ⟨w.heap.size + 6, 0, none⟩) 1 1)) := by
      show ∀ w', _
      intro w' hb
      have h := HK.out w' hb
      exact ⟨h.b0.cell 0, h.b0.cell 1, h.b0.cell 2, h.b0.cell 3, h.b0.cell 4, h.b0.cell 5, h.b0.cell 6, h.b0.cell 7, h.b2.cell 0, h.b2.cell 1, h.b2.cell 2, h.b2.cell 3, h.b2.cell 4, h.b2.cell 5, h.b2.cell 6, h.b2.cell 7, h.b9.cell 0, h.b10.cell 0, h.b12.cell 0, h.b12.cell 1, h.b12.cell 2, h.b12.cell 3, h.b12.cell 4, h.b12.cell 5, h.b12.cell 6, h.b12.cell 7, h.b8.cell 3, h.b7.cell 5⟩
    have HW := Lib.hid h.bel
    have hB : Below W.heap.size W W.drew := (Below.refl _ W).drew
    clear h
    simp only [Nat.add_assoc, Nat.reduceAdd]
    dsimp only [List.append]
    go_region_held3 (fun w' => w'.cell? ⟨w.heap.size, 0, none⟩ = some (.int .i64 1) ∧ w'.cell? ⟨w.heap.size, 1, none⟩ = some (.int .i32 1) ∧ w'.cell? ⟨w.heap.size, 2, none⟩ = some (.string ⟨#[]⟩) ∧ w'.cell? ⟨w.heap.size, 3, none⟩ = some (.string ⟨#[]⟩) ∧ w'.cell? ⟨w.heap.size, 4, none⟩ = some (.string ⟨#[]⟩) ∧ w'.cell? ⟨w.heap.size, 5, none⟩ = some (.slice none 0 0) ∧ w'.cell? ⟨w.heap.size, 6, none⟩ = some (.string ⟨#[]⟩) ∧ w'.cell? ⟨w.heap.size, 7, none⟩ = some (.int .i64 0) ∧ w'.cell? ⟨w.heap.size + 2, 0, none⟩ = some (.int .i64 17) ∧ w'.cell? ⟨w.heap.size + 2, 1, none⟩ = some (.int .i32 0) ∧ w'.cell? ⟨w.heap.size + 2, 2, none⟩ = some (.string ⟨#[]⟩) ∧ w'.cell? ⟨w.heap.size + 2, 3, none⟩ = some (.string ⟨#[43]⟩) ∧ w'.cell? ⟨w.heap.size + 2, 4, none⟩ = some (.string ⟨#[]⟩) ∧ w'.cell? ⟨w.heap.size + 2, 5, none⟩ = some (.slice (some ⟨w.heap.size + 1, 0, none⟩) 2 2) ∧ w'.cell? ⟨w.heap.size + 2, 6, none⟩ = some (.string ⟨#[]⟩) ∧ w'.cell? ⟨w.heap.size + 2, 7, none⟩ = some (.int .i64 0) ∧ w'.cell? ⟨w.heap.size + 9, 0, none⟩ = some (.slice (some ⟨w.heap.size + 8, 0, none⟩) 1 1) ∧ w'.cell? ⟨w.heap.size + 10, 0, none⟩ = some (.slice (some ⟨w.heap.size + 11, 0, none⟩) 1 1) ∧ w'.cell? ⟨w.heap.size + 12, 0, none⟩ = some (.int .i64 17) ∧ w'.cell? ⟨w.heap.size + 12, 1, none⟩ = some (.int .i32 0) ∧ w'.cell? ⟨w.heap.size + 12, 2, none⟩ = some (.string ⟨#[]⟩) ∧ w'.cell? ⟨w.heap.size + 12, 3, none⟩ = some (.string ⟨#[43]⟩) ∧ w'.cell? ⟨w.heap.size + 12, 4, none⟩ = some (.string ⟨#[]⟩) ∧ w'.cell? ⟨w.heap.size + 12, 5, none⟩ = some (.slice (some ⟨w.heap.size + 1, 0, none⟩) 2 2) ∧ w'.cell? ⟨w.heap.size + 12, 6, none⟩ = some (.string ⟨#[90]⟩) ∧ w'.cell? ⟨w.heap.size + 12, 7, none⟩ = some (.int .i64 0) ∧ w'.cell? ⟨w.heap.size + 8, 3, none⟩ = some (.slice (some ⟨w.heap.size + 7, 0, none⟩) 1 1) ∧ w'.cell? ⟨w.heap.size + 7, 5, none⟩ = some (.slice (some ⟨w.heap.size + 6, 0, none⟩) 1 1))
      (first | with_reducible exact HS.out _ hB)
      ((first
        | (go_at_call 15; refine (C1.out _ hB).mono ?_; rintro e wn ⟨rfl, hc⟩; have hB := hB.trans (hc.mono hB.size); clear hc)
        | (go_at_call 10; refine (C2.out _ hB).mono ?_; rintro e wn ⟨rfl, hc⟩; have hB := hB.trans (hc.mono hB.size); clear hc)
        | (go_at_call 16; refine (C3.out _ hB).mono ?_; rintro e wn ⟨rfl, hc⟩; have hB := hB.trans (hc.mono hB.size); clear hc)
        | (go_at_call 11; (with_reducible refine (C4.out _ hB).mono ?_); rintro e wn ⟨rfl, hc⟩; have hB := hB.trans (hc.mono hB.size); clear hc)
        | (go_at_call 11; (with_reducible refine (C5.out _ hB).mono ?_); rintro e wn ⟨rfl, hc⟩; have hB := hB.trans (hc.mono hB.size); clear hc)
        | (go_at_call 11; (with_reducible refine (C6.out _ hB).mono ?_); rintro e wn ⟨rfl, hc⟩; have hB := hB.trans (hc.mono hB.size); clear hc)
        | (go_at_call 9; (with_reducible refine (C8.out _ hB).mono ?_); rintro e wn ⟨rfl, hc⟩; have hB := hB.trans (hc.mono hB.size); clear hc)
        | (go_at_call 9; (with_reducible refine (C13.out _ hBn).mono ?_); rintro e wn ⟨rfl, hc⟩; have hB := hB.trans (hc.mono hB.size); clear hc)
        | (go_at_call 9; (with_reducible refine (C7.out _ hB).mono ?_); rintro e wn ⟨rfl, hc⟩; have hB := hB.trans (hc.mono hB.size); clear hc)
        | (go_at_call 17; (with_reducible refine (C9.out _ hB).mono ?_); rintro e wn ⟨rfl, hc⟩; have hB := hB.trans (hc.mono hB.size); clear hc)
        | (go_at_call 17; (with_reducible refine (C10.out _ hB).mono ?_); rintro e wn ⟨rfl, hc⟩; have hB := hB.trans (hc.mono hB.size); clear hc)
        | (go_at_call 18; refine (C11.out _ hB).mono ?_; rintro e wn ⟨rfl, hc⟩; have hB := hB.trans (hc.mono hB.size); clear hc)
        | (go_at_call 7; refine (C12.out _ hB).mono ?_; rintro e wn ⟨vb, lb, rfl, hrb, hkb, _, heq, hc⟩; have hB := hB.trans (hc.mono hB.size); have C13 : Hid (∀ w', Below wn.heap.size wn w' → Calls Try.prog 9 #[.agg #[vb], .agg #[.slice (some ⟨w.heap.size + 8, 0, none⟩) 1 1]] w' fun e w'' => e = .returned (.bool true) ∧ Below w'.heap.size w' w'') := C13_of hrb hkb heq (HK.out _ hB); have hBn := Below.refl wn.heap.size wn; clear hrb hkb heq hc)))
    all_goals
      have hfin := HW.out.trans (hB.mono HW.out.size)
      clear C1 C2 C3 C4 C5 C6 C7 C8 C9 C10 C11 C12 HS HK
      go_wp2_with fail
      go_ret
      exact ⟨rfl, hfin⟩
end Go.Proofs.Ytlpddmncgmhkeaa
