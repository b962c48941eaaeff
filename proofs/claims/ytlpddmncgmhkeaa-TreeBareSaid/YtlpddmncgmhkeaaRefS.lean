/- A row's nodes one by one: no program. -/
import Derived.Test.YtlpddmncgmhkeaaTreeI
import Derived.Deep.RegionHeld3
import Derived.Test.YtlpddmncgmhkeaaTreeJ
import Derived.Deep.RegionWith
set_option linter.unusedSimpArgs false
set_option linter.unusedVariables false
namespace Go.Proofs.Ytlpddmncgmhkeaa
open Go.RowKit
/-- A row's node and its cells. -/
theorem Rw.get {w : World} {t : Tg} {A : Option Addr} {n cap : Nat} {l : List Nd} (h : Rw w t (.slice A n cap) l) {k : Nat} (hk : k < n) : ∃ b o x, A = some ⟨b, o, none⟩ ∧ l[k]? = some x ∧ x.tag = t ∧ ∀ j u, (cellsN x)[j]? = some u → w.cell? ⟨b, o + k * t.sz + j, none⟩ = some u := by
  obtain ⟨A', cap', hv, _, ht, hc⟩ := h
  injection hv with h1 h2 h3
  obtain ⟨b, o, hA, hcell⟩ := hc (by omega)
  have hl : k < l.length := by omega
  exact ⟨b, o, l[k], h1.trans hA, List.getElem?_eq_getElem hl, ht _ (List.getElem_mem hl), hcell k _ (List.getElem?_eq_getElem hl)⟩
theorem sizeL_take_succ {l : List Nd} {k : Nat} {x : Nd} (h : l[k]? = some x) : sizeL (l.take (k + 1)) = sizeL (l.take k) + x.size := by
  have hl := (List.getElem?_eq_some_iff.1 h)
  rw [List.take_add_one, h]
  simp [sizeL_append, sizeL]
theorem sizeL_take_le (l : List Nd) (k : Nat) : sizeL (l.take k) ≤ sizeL l := by
  have := sizeL_append (l.take k) (l.drop k)
  rw [List.take_append_drop] at this; omega
theorem KdL.mem_get {w : World} {l : List Nd} (h : KdL w l) {k : Nat} {x : Nd} (hx : l[k]? = some x) : Kd w x := KdL_mem h x (List.mem_of_getElem? hx)
end Go.Proofs.Ytlpddmncgmhkeaa
/- The document's sameness: changelingref1.SameExpr, SameExprs, SameStmts. -/
set_option linter.unusedSimpArgs false
set_option linter.unusedVariables false
namespace Go.Proofs.Ytlpddmncgmhkeaa
open Go.RowKit
theorem sameL_head (x y : Nd) (l m : List Nd) : sameL (x :: l) (y :: m) = (sameL [x] [y] && sameL l m) := by rw [sameL_cons, sameL_one, Bool.and_assoc]
theorem sameL_drop {l l' : List Nd} {k : Nat} {x y : Nd} (h : l[k]? = some x) (h' : l'[k]? = some y) : sameL (l.drop k) (l'.drop k) = (sameL [x] [y] && sameL (l.drop (k + 1)) (l'.drop (k + 1))) := by
  obtain ⟨h1, h2⟩ := List.getElem?_eq_some_iff.1 h
  obtain ⟨h3, h4⟩ := List.getElem?_eq_some_iff.1 h'
  rw [List.drop_eq_getElem_cons h1, List.drop_eq_getElem_cons h3, h2, h4, sameL_head]
theorem same_ex (k n : Int) (tx nm ty : ByteArray) (nv : Value) (l : List Nd) (own : ByteArray) (nth : Int) (k' n' : Int) (tx' nm' ty' : ByteArray) (nv' : Value) (l' : List Nd) (own' : ByteArray) (nth' : Int) :
    sameL [.ex k n tx nm ty nv l own nth] [.ex k' n' tx' nm' ty' nv' l' own' nth'] = ((k == k') && ((n == n') && ((tx.toList == tx'.toList) && ((nm.toList == nm'.toList) && ((ty.toList == ty'.toList) && sameL l l'))))) := by
  rw [sameL_one]
  simp only [alikeB, Nd.kids]
  by_cases hl : l.length = l'.length
  · have : (l.length == l'.length) = true := by rw [beq_iff_eq]; exact hl
    rw [this]; simp only [Bool.and_true, Bool.and_assoc]
  · rw [sameL_ne _ _ hl]; simp
def ExSame (s : Nat) : Prop := ∀ (w : World) (v v' : Value) (l l' : List Nd), sizeL l ≤ s → Rw w .ex v l → KdL w l → Rw w .ex v' l' → KdL w l' → Calls Try.prog 54 #[v, v'] w fun e w' => e = .returned (.bool (sameL l l')) ∧ Below w.heap.size w w'
set_option maxRecDepth 100000 in
set_option maxHeartbeats 1000000 in
theorem ref_same_of (s : Nat) (IH : ExSame s) (w : World) (k n : Int) (tx nm ty : ByteArray) (nv : Value) (l : List Nd) (own : ByteArray) (nth : Int) (k' n' : Int) (tx' nm' ty' : ByteArray) (nv' : Value) (l' : List Nd) (own' : ByteArray) (nth' : Int)
    (hk : Kd w (.ex k n tx nm ty nv l own nth)) (hk' : Kd w (.ex k' n' tx' nm' ty' nv' l' own' nth')) (hl : sizeL l ≤ s) (r : Bool) (hr : sameL [.ex k n tx nm ty nv l own nth] [.ex k' n' tx' nm' ty' nv' l' own' nth'] = r) :
    Calls Try.prog 67 #[.agg #[.int .i64 k, .int .i32 n, .string tx, .string nm, .string ty, nv, .string own, .int .i64 nth], .agg #[.int .i64 k', .int .i32 n', .string tx', .string nm', .string ty', nv', .string own', .int .i64 nth']] w fun e w' => e = .returned (.bool r) ∧ Below w.heap.size w w' := by
  rw [Kd] at hk hk'
  obtain ⟨A, cap, rfl⟩ := hk.2.1.form
  obtain ⟨A', cap', rfl⟩ := hk'.2.1.form
  obtain ⟨W, hW⟩ : ∃ W, (w.alloc (.cells #[.int .i64 k, .int .i32 n, .string tx, .string nm, .string ty, .slice A l.length cap, .string own, .int .i64 nth] 41)).alloc (.cells #[.int .i64 k', .int .i32 n', .string tx', .string nm', .string ty', .slice A' l'.length cap', .string own', .int .i64 nth'] 41) = W := ⟨_, rfl⟩
  have hb : Below w.heap.size w W := by rw [← hW]; exact ((Below.refl _ w).alloc (Nat.le_refl _) _).alloc (by simp) _
  have hx : Bx W w.heap.size #[.int .i64 k, .int .i32 n, .string tx, .string nm, .string ty, .slice A l.length cap, .string own, .int .i64 nth] 41 := by rw [← hW]; exact (Bx.new _ _ _).next ((Below.refl _ _).alloc (Nat.le_refl _) _)
  have hy : Bx W (w.heap.size + 1) #[.int .i64 k', .int .i32 n', .string tx', .string nm', .string ty', .slice A' l'.length cap', .string own', .int .i64 nth'] 41 := by
    rw [← hW]
    have := Bx.new (w.alloc (.cells #[.int .i64 k, .int .i32 n, .string tx, .string nm, .string ty, .slice A l.length cap, .string own, .int .i64 nth] 41)) #[.int .i64 k', .int .i32 n', .string tx', .string nm', .string ty', .slice A' l'.length cap', .string own', .int .i64 nth'] 41
    simpa using this
  have K := Keep.below hb
  have HI := Lib.hid (IH W _ _ l l' hl (hk.2.1.keep K) (KdL.keep K _ hk.2.2) (hk'.2.1.keep K) (KdL.keep K _ hk'.2.2))
  have x0 := hx.cell 0; have x1 := hx.cell 1; have x2 := hx.cell 2; have x3 := hx.cell 3; have x4 := hx.cell 4; have x5 := hx.cell 5
  have y0 := hy.cell 0; have y1 := hy.cell 1; have y2 := hy.cell 2; have y3 := hy.cell 3; have y4 := hy.cell 4; have y5 := hy.cell 5
  simp only [List.getElem?_toArray, List.getElem?_cons_zero, List.getElem?_cons_succ] at x0 x1 x2 x3 x4 x5 y0 y1 y2 y3 y4 y5
  rw [same_ex] at hr
  obtain ⟨q, hq⟩ : ∃ q, sameL l l' = q := ⟨_, rfl⟩
  rw [hq] at HI hr
  have HB := Lib.hid hb
  obtain ⟨q0, h0⟩ : ∃ q, (k == k') = q := ⟨_, rfl⟩
  obtain ⟨q1, h1⟩ : ∃ q, (n == n') = q := ⟨_, rfl⟩
  obtain ⟨q2, h2⟩ : ∃ q, (tx.toList == tx'.toList) = q := ⟨_, rfl⟩
  obtain ⟨q3, h3⟩ : ∃ q, (nm.toList == nm'.toList) = q := ⟨_, rfl⟩
  obtain ⟨q4, h4⟩ : ∃ q, (ty.toList == ty'.toList) = q := ⟨_, rfl⟩
  rw [h0, h1, h2, h3, h4] at hr
  have HR := Lib.hid hr
  clear hk hk' K hx hy IH hq hr hb
  go_enter Try.func67, Try.ntmps67
  go_wp2_with (go_at_call 54; refine HI.out.mono ?_; clear HI; rintro e w1 ⟨rfl, hb1⟩)
  all_goals go_ret
  all_goals have hr := HR.out
  all_goals have hb := HB.out
  all_goals subst hr
  all_goals first
    | exact ⟨ret_bool (by simp only [*, Bool.true_and, Bool.false_and, Bool.not_eq_true] at *; try simp [*]), hb.trans (hb1.mono hb.size)⟩
    | exact ⟨ret_bool (by simp [*]), hb⟩
set_option maxRecDepth 100000 in
set_option maxHeartbeats 2000000 in
theorem ref_sames_any : ∀ s, s ≤ 1000000 → ExSame s := by
  intro s
  induction s using Nat.strongRecOn with
  | ind s ih =>
    intro hs w v v' l l' hl hr hk hr' hk'
    obtain ⟨A, cap, rfl⟩ := hr.form
    obtain ⟨A', cap', rfl⟩ := hr'.form
    have hlen : l.length ≤ 1000000 := by have := len_sizeL l; omega
    have hlen' : l'.length ≤ maxLen := by obtain ⟨_, _, _, h, _⟩ := hr'; exact h.1
    unfold maxLen at hlen'
    obtain ⟨q, hq⟩ : ∃ q, sameL l l' = q := ⟨_, rfl⟩
    rw [hq]
    by_cases hne : l.length = l'.length
    · obtain ⟨n, hn⟩ : ∃ n, l.length = n := ⟨_, rfl⟩
      have hn' : l'.length = n := hne ▸ hn
      rw [hn] at hr hlen ⊢
      rw [hn'] at hr' ⊢
      have HR := Lib.hid hr; have HK := Lib.hid hk; have HR' := Lib.hid hr'; have HK' := Lib.hid hk'
      have HLN := Lib.hid hn; have HLN' := Lib.hid hn'
      have HS0 := Lib.hid (show sameL (l.drop 0) (l'.drop 0) = q by simpa using hq)
      have HL := Lib.hid hl
      clear hr hk hr' hk' hn hn' hne hq hlen' hl
      go_enter Try.func54, Try.ntmps54
      go_wp2
      go_loopw [5] (fun v5 wr => ∃ k : Nat, v5 = .int .i64 k ∧ k ≤ n ∧ sameL (l.drop k) (l'.drop k) = q ∧ Below w.heap.size w wr) (fun v5 wr => n - (intOf v5).toNat)
      case atStart => exact ⟨0, rfl, Nat.zero_le _, HS0.out, Below.refl _ _⟩
      case round =>
        obtain ⟨k, rfl, hkn, hsk, hB⟩ := hrel
        clear HS0
        by_cases hlt : k < n
        · have K := Keep.below hB
          obtain ⟨b, o, x, rfl, hx, hxt, hc⟩ := (HR.out.keep K).get hlt
          obtain ⟨b', o', y, rfl, hy, hyt, hc'⟩ := (HR'.out.keep K).get hlt
          have hxk := KdL.mem_get (KdL.keep K _ HK.out) hx
          have hyk := KdL.mem_get (KdL.keep K _ HK'.out) hy
          rw [sameL_drop hx hy] at hsk
          have hxs : x.size ≤ s := Nat.le_trans (size_mem (List.mem_of_getElem? hx)) HL.out
          cases x <;> first | (simp [Nd.tag] at hxt; done) | skip
          rename_i xk xn xtx xnm xty xv xl xown xnth
          cases y <;> first | (simp [Nd.tag] at hyt; done) | skip
          rename_i yk yn ytx ynm yty yv yl yown ynth
          obtain ⟨t, ht⟩ : ∃ t, sameL [.ex xk xn xtx xnm xty xv xl xown xnth] [.ex yk yn ytx ynm yty yv yl yown ynth] = t := ⟨_, rfl⟩
          rw [ht] at hsk
          have hsz : (Nd.ex xk xn xtx xnm xty xv xl xown xnth).size = 1 + sizeL xl := by simp [Nd.size]
          have hb0 : Below wr.heap.size wr wr.drew := (Below.refl _ wr).drew
          have HX := Lib.hid (ref_same_of (s - 1) (ih (s - 1) (by omega) (by omega)) wr.drew xk xn xtx xnm xty xv xl xown xnth yk yn ytx ynm yty yv yl yown ynth (Kd.keep (Keep.below hb0) _ hxk) (Kd.keep (Keep.below hb0) _ hyk) (by omega) t ht)
          have x0 := hc 0 _ rfl; have x1 := hc 1 _ rfl; have x2 := hc 2 _ rfl; have x3 := hc 3 _ rfl; have x4 := hc 4 _ rfl; have x5 := hc 5 _ rfl; have x6 := hc 6 _ rfl; have x7 := hc 7 _ rfl
          have y0 := hc' 0 _ rfl; have y1 := hc' 1 _ rfl; have y2 := hc' 2 _ rfl; have y3 := hc' 3 _ rfl; have y4 := hc' 4 _ rfl; have y5 := hc' 5 _ rfl; have y6 := hc' 6 _ rfl; have y7 := hc' 7 _ rfl
          simp only [Tg.sz, Nat.add_zero] at x0 x1 x2 x3 x4 x5 x6 x7 y0 y1 y2 y3 y4 y5 y6 y7
          obtain ⟨xA, xcap, rfl⟩ := (by rw [Kd] at hxk; exact hxk.2.1.form : ∃ A cap, xv = .slice A xl.length cap)
          obtain ⟨yA, ycap, rfl⟩ := (by rw [Kd] at hyk; exact hyk.2.1.form : ∃ A cap, yv = .slice A yl.length cap)
          have HB := Lib.hid hB
          have HSK := Lib.hid hsk
          have hi0 : (0 : Int) ≤ (k : Int) := by omega
          have hi1 : (k : Int) < (n : Int) := by omega
          clear hc hc' hxk hyk hx hy ht hsz hxt hyt K hB hxs hsk ih
          go_wp2_with fail
          go_region_with (go_at_call 67; refine HX.out.mono ?_; clear HX; rintro e w1 ⟨rfl, hb⟩)
          all_goals
            have hB1 := (HB.out.drew).trans (hb.mono HB.out.size)
            have h2 := HSK.out
            clear hb
            cases t
            · go_wp2_with fail
              go_ret
              exact ⟨ret_bool (by rw [← h2]; simp), hB1⟩
            · go_wp2_with fail
              go_roundw
              case rel => exact ⟨k + 1, by go_num, by omega, by rw [← h2]; simp, hB1⟩
              case measure => simp [intOf]; omega
        · rw [List.drop_eq_nil_of_le (by rw [HLN.out]; omega), List.drop_eq_nil_of_le (by rw [HLN'.out]; omega), sameL_nil] at hsk
          clear ih
          go_wp2
          go_ret
          exact ⟨ret_bool hsk, hB⟩
    · have hf : q = false := by rw [← hq]; exact sameL_ne _ _ hne
      have hne2 : ((l.length : Int) != (l'.length : Int)) = true := by simp; omega
      clear hr hk hr' hk' hl hq ih
      go_enter Try.func54, Try.ntmps54
      go_wp2
      go_ret
      exact ⟨ret_bool hf.symm, Below.refl _ _⟩
end Go.Proofs.Ytlpddmncgmhkeaa
