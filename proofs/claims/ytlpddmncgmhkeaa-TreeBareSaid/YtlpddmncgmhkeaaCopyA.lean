/- Copies: rows that grow while what stands within lies elsewhere; no program. -/
import Derived.Test.YtlpddmncgmhkeaaBareP
import Derived.Test.YtlpddmncgmhkeaaRefS
import Derived.OrdersHeld
import Derived.Deep.RegionHeld3
set_option linter.unusedSimpArgs false
set_option linter.unusedVariables false
namespace Go.Proofs.Ytlpddmncgmhkeaa
open Go.RowKit
/-- Lies in memory from block B on. -/
def FkL (B : Nat) (w : World) (t : Tg) (v : Value) (l : List Nd) : Prop :=
  ∀ ws, (∀ k j u, B ≤ k → w.cell? ⟨k, j, none⟩ = some u → ws.cell? ⟨k, j, none⟩ = some u) → Rw ws t v l ∧ KdL ws l
theorem FkL.now {B : Nat} {w : World} {t : Tg} {v : Value} {l : List Nd} (h : FkL B w t v l) : Rw w t v l ∧ KdL w l := h w fun _ _ _ _ h => h
theorem FkL.mono {B C : Nat} {w : World} {t : Tg} {v : Value} {l : List Nd} (h : FkL B w t v l) (hB : C ≤ B) : FkL C w t v l := fun ws hs => h ws fun k j u hk hu => hs k j u (Nat.le_trans hB hk) hu
theorem FkL.next {B : Nat} {w w' : World} {t : Tg} {v : Value} {l : List Nd} (h : FkL B w t v l) (hk : ∀ k j u, B ≤ k → w.cell? ⟨k, j, none⟩ = some u → w'.cell? ⟨k, j, none⟩ = some u) : FkL B w' t v l :=
  fun ws hs => h ws fun k j u hB hu => hs k j u hB (hk k j u hB hu)
theorem FkL.keep {B : Nat} {w w' : World} {t : Tg} {v : Value} {l : List Nd} (h : FkL B w t v l) (K : Keep w w') : FkL B w' t v l := h.next fun k j u _ hu => K _ _ hu
theorem FkL.below {B : Nat} {w w' : World} {t : Tg} {v : Value} {l : List Nd} (h : FkL B w t v l) (hb : Below w.heap.size w w') : FkL B w' t v l := h.keep (Keep.below hb)
theorem FkL.set {B c : Nat} {w : World} {t : Tg} {v : Value} {l : List Nd} (h : FkL B w t v l) (hc : c < B) (j : Nat) (u : Value) : FkL B (w.setCell ⟨c, j, none⟩ u) t v l :=
  h.next fun k i x hB hu => by rw [World.cell?_setCell_other _ _ _ _ (by simp <;> omega)]; exact hu
theorem FkL.nil (B : Nat) (w : World) (t : Tg) : FkL B w t (.slice none 0 0) [] := fun ws _ => ⟨⟨none, 0, rfl, by unfold maxLen; simp, by simp, fun h => by simp at h⟩, trivial⟩
/-- A node whose parts lie from block B on, but for block r. -/
def KO (B : Nat) (r : Option Nat) (w : World) (l : List Nd) : Prop :=
  ∀ ws, (∀ k j u, B ≤ k → some k ≠ r → w.cell? ⟨k, j, none⟩ = some u → ws.cell? ⟨k, j, none⟩ = some u) → KdL ws l
theorem KO.nil (B : Nat) (r : Option Nat) (w : World) : KO B r w [] := fun _ _ => trivial
theorem KO.more {B : Nat} {v v2 : Value} {wr w1 w2 : World} {acc : List Nd} {x : Nd} (h : KO B v.ownBlock wr acc) (hv : ∀ k, v.ownBlock = some k → k < wr.heap.size) (hB : B ≤ wr.heap.size) (hb : Below wr.heap.size wr w1)
    (hx : ∀ ws, (∀ k j u, wr.heap.size ≤ k → w1.cell? ⟨k, j, none⟩ = some u → ws.cell? ⟨k, j, none⟩ = some u) → Kd ws x) (hg : w1.grownBy w2 v.ownBlock) (hat : v2.ownBlock = v.ownBlock ∨ v2.ownBlock = some w1.heap.size) : KO B v2.ownBlock w2 (acc ++ [x]) := by
  intro ws hs
  have key : ∀ k j u, B ≤ k → some k ≠ v.ownBlock → w1.cell? ⟨k, j, none⟩ = some u → ws.cell? ⟨k, j, none⟩ = some u := by
    intro k j u hk hne hu
    have hlt : k < w1.heap.size := World.block_lt_of_cell? w1 (a := ⟨k, j, none⟩) hu
    have h2 : w2.cell? ⟨k, j, none⟩ = some u := (World.cell?_of_block (a := ⟨k, j, none⟩) (hg.block k hlt hne)).trans hu
    refine hs k j u hk ?_ h2
    rcases hat with e | e
    · rw [e]; exact hne
    · rw [e]; intro e'; injection e' with e'; omega
  refine KdL_append (h ws fun k j u hk hne hu => key k j u hk hne (Keep.below hb _ _ hu)) ⟨hx ws fun k j u hk hu => key k j u (Nat.le_trans hB hk) ?_ hu, trivial⟩
  intro e
  have := hv k e.symm
  omega
theorem fk_own {B : Nat} {w : World} {t : Tg} {el : TypeId} {v : Value} {l : List Nd} (ho : w.ownsRow B el t.sz v l.length (l.flatMap cellsN)) (ht : ∀ x ∈ l, x.tag = t) (hk : KO B v.ownBlock w l) (hm : l.length ≤ 1000000) : FkL B w t v l := by
  intro ws hs
  refine ⟨?_, hk ws fun k j u hB _ hu => hs k j u hB hu⟩
  obtain ⟨A, cap, rfl, hc⟩ := own_form ho
  refine ⟨A, cap, rfl, ⟨by unfold maxLen; omega, hc⟩, ht, fun hn => ?_⟩
  obtain ⟨g, cap', hv, hg, hl, hat⟩ := own_row ho hn
  injection hv with h1 h2 h3
  refine ⟨g, 0, h1, fun i x hx j u hu => ?_⟩
  have hj : j < t.sz := by rw [← ht x (List.mem_of_getElem? hx), ← cells_len]; exact (List.getElem?_eq_some_iff.1 hu).1
  have := (hat (i * t.sz + j) u (by rw [flat_get l i j x ht hx hj]; exact hu)).1
  rw [Nat.zero_add]
  exact hs g _ u hg this
def CopySaid (t : Tg) (w : World) (l : List Nd) (e : Ending) (w' : World) : Prop := ∃ v' l', e = .returned v' ∧ FkL w.heap.size w' t v' l' ∧ bareL l' = bareL l ∧ Below w.heap.size w w'
theorem bare_take {l : List Nd} {acc : List Nd} {k : Nat} {x y : Nd} (h : bareL acc = bareL (l.take k)) (hx : l[k]? = some x) (hy : bareN y = bareN x) : bareL (acc ++ [y]) = bareL (l.take (k + 1)) := by
  rw [List.take_add_one, hx, bareL_append, bareL_append, h]
  simp [bareL, hy]
theorem fk_len {B : Nat} {w : World} {t : Tg} {v : Value} {l : List Nd} (h : FkL B w t v l) : ∃ A cap, v = .slice A l.length cap := h.now.1.form
theorem len_of_bare {a b : List Nd} (h : bareL a = bareL b) : a.length = b.length := by rw [← bareL_len a, h, bareL_len]
theorem own_lt {w : World} {B : Nat} {e : TypeId} {sz n : Nat} {v : Value} {xs : List Value} (h : w.ownsRow B e sz v n xs) : ∀ k, v.ownBlock = some k → k < w.heap.size := fun k hk => (h.lt k hk).2
/-- New cells behind one another. -/
theorem new_at (w : World) (cs : List Value) (T : TypeId) : ∀ (j : Nat) (u : Value), cs[j]? = some u → (w.alloc (.cells cs.toArray T)).cell? ((⟨w.heap.size, 0, none⟩ : Addr).add j) = some u := by
  intro j u hj
  have hx : Bx (w.alloc (.cells cs.toArray T)) w.heap.size cs.toArray T := Bx.new w _ T
  rw [add_off, Nat.zero_add]
  exact (hx.cell j).trans (by simpa using hj)
/-- Copies so far: what holds at the loop's head. -/
def Acc (t : Tg) (T : TypeId) (w : World) (l : List Nd) (k : Nat) (v3 : Value) (acc : List Nd) (wr : World) : Prop :=
  acc.length = k ∧ wr.ownsRow w.heap.size T t.sz v3 acc.length (acc.flatMap cellsN) ∧ bareL acc = bareL (l.take k) ∧ (∀ x ∈ acc, x.tag = t) ∧ KO w.heap.size v3.ownBlock wr acc ∧ Below w.heap.size w wr
theorem Acc.start (t : Tg) (T : TypeId) (w : World) (l : List Nd) : Acc t T w l 0 (.slice none 0 0) [] w := ⟨rfl, World.ownsRow_nil _ _ _ _, rfl, by simp, KO.nil _ _ _, Below.refl _ _⟩
theorem Acc.more {t : Tg} {T : TypeId} {w wr w1 w2 : World} {l : List Nd} {k : Nat} {v3 v2 : Value} {acc : List Nd} {x : Nd} (h : Acc t T w l k v3 acc wr) (hx : l[k]? = some x) (y : Nd) (hy : y.tag = t) (hby : bareN y = bareN x)
    (hf : ∀ ws, (∀ k j u, wr.heap.size ≤ k → w1.cell? ⟨k, j, none⟩ = some u → ws.cell? ⟨k, j, none⟩ = some u) → Kd ws y) (hb : Below wr.heap.size wr w1)
    (hown : w2.ownsRow w.heap.size T t.sz v2 (acc.length + 1) (acc.flatMap cellsN ++ cellsN y)) (hg : w1.grownBy w2 v3.ownBlock) (hat : v2.ownBlock = v3.ownBlock ∨ v2.ownBlock = some w1.heap.size) :
    Acc t T w l (k + 1) v2 (acc ++ [y]) w2 := by
  obtain ⟨h1, h2, h3, h4, h5, h6⟩ := h
  refine ⟨by simp [h1], ?_, bare_take h3 hx hby, ?_, KO.more h5 (own_lt h2) h6.size hb hf hg hat, ?_⟩
  · rw [List.length_append, List.flatMap_append]; simpa using hown
  · intro x hx'
    rcases List.mem_append.1 hx' with hx' | hx'
    · exact h4 x hx'
    · simp at hx'; rw [hx']; exact hy
  · exact (h6.trans (hb.mono h6.size)).grown hg (Nat.le_trans h6.size hb.size) fun k hk => (h2.lt k hk).1
theorem Acc.done {t : Tg} {T : TypeId} {w wr : World} {l : List Nd} {k : Nat} {v3 : Value} {acc : List Nd} (h : Acc t T w l k v3 acc wr) (hk : l.take k = l) (hm : l.length ≤ 1000000) : CopySaid t w l (.returned v3) wr := by
  obtain ⟨h1, h2, h3, h4, h5, h6⟩ := h
  rw [hk] at h3
  exact ⟨v3, acc, rfl, fk_own (t := t) h2 h4 h5 (by rw [len_of_bare h3]; exact hm), h3, h6⟩
end Go.Proofs.Ytlpddmncgmhkeaa
/- The document's copies of expressions: changelingref17.CopyExpr, CopyExprs. -/
set_option linter.unusedSimpArgs false
set_option linter.unusedVariables false
namespace Go.Proofs.Ytlpddmncgmhkeaa
open Go.RowKit
def CopiesEx (s : Nat) : Prop := ∀ (w : World) (v : Value) (l : List Nd), sizeL l ≤ s → Rw w .ex v l → KdL w l → Calls Try.prog 31 #[v] w (CopySaid .ex w l)
def CopyExSaid (w : World) (k n : Int) (tx nm ty : ByteArray) (l : List Nd) (e : Ending) (w' : World) : Prop :=
  ∃ v' l', e = .returned (.agg #[.int .i64 k, .int .i32 n, .string tx, .string nm, .string ty, v', .string ⟨#[]⟩, .int .i64 0]) ∧ FkL w.heap.size w' .ex v' l' ∧ bareL l' = bareL l ∧ Below w.heap.size w w'
theorem two_new (w : World) (cs ds : Array Value) (T : TypeId) : ∃ W, W = (w.alloc (.cells cs T)).alloc (.cells ds T) ∧ Bx W w.heap.size cs T ∧ Bx W (w.heap.size + 1) ds T ∧ Below w.heap.size w W ∧ W.heap.size = w.heap.size + 2 :=
  ⟨_, rfl, (Bx.new _ _ _).next ((Below.refl _ _).alloc (Nat.le_refl _) _), by simpa using Bx.new (w.alloc (.cells cs T)) ds T, ((Below.refl _ w).alloc (Nat.le_refl _) _).alloc (by simp) _, by simp⟩
theorem FkL.set_8 {B b : Nat} {w : World} {t : Tg} {v : Value} {l : List Nd} (h : FkL B w t v l) (hb : b < B) (u0 u1 u2 u3 u4 u5 u6 u7 : Value) : FkL B ((((((((w.setCell ⟨b, 0, none⟩ u0).setCell ⟨b, 1, none⟩ u1).setCell ⟨b, 2, none⟩ u2).setCell ⟨b, 3, none⟩ u3).setCell ⟨b, 4, none⟩ u4).setCell ⟨b, 5, none⟩ u5).setCell ⟨b, 6, none⟩ u6).setCell ⟨b, 7, none⟩ u7) t v l :=
  (((((((h.set hb 0 u0).set hb 1 u1).set hb 2 u2).set hb 3 u3).set hb 4 u4).set hb 5 u5).set hb 6 u6).set hb 7 u7
theorem Bx.off {w : World} {b c : Nat} {cs : Array Value} {T : TypeId} (h : Bx w b cs T) (hc : c ≠ b) (j : Nat) (u : Value) : Bx (w.setCell ⟨c, j, none⟩ u) b cs T := (Below.heap_setCell w _ u b (by simpa using Ne.symm hc)).trans h
set_option maxRecDepth 100000 in
set_option maxHeartbeats 2000000 in
theorem copy_expr_of (s : Nat) (hs : s ≤ 1000000) (IH : CopiesEx s) (w : World) (k n : Int) (tx nm ty : ByteArray) (nv : Value) (l : List Nd) (own : ByteArray) (nth : Int) (hk : Kd w (.ex k n tx nm ty nv l own nth)) (hl : sizeL l ≤ s) :
    Calls Try.prog 47 #[.agg #[.int .i64 k, .int .i32 n, .string tx, .string nm, .string ty, nv, .string own, .int .i64 nth]] w (CopyExSaid w k n tx nm ty l) := by
  rw [Kd] at hk
  obtain ⟨A, cap, rfl⟩ := hk.2.1.form
  have HR := Lib.hid hk.2.1; have HK := Lib.hid hk.2.2
  clear hk
  go_enter Try.func47, Try.ntmps47
  go_wp2_with fail
  obtain ⟨W1, hW1, hx, hy, hw, hz1⟩ := two_new w #[.int .i64 k, .int .i32 n, .string tx, .string nm, .string ty, .slice A l.length cap, .string own, .int .i64 nth] #[.int .i64 0, .int .i32 0, .string ⟨#[]⟩, .string ⟨#[]⟩, .string ⟨#[]⟩, .slice none 0 0, .string ⟨#[]⟩, .int .i64 0] 41
  rw [← hW1]
  clear hW1
  refine (IH W1 _ l hl (HR.out.keep (Keep.below hw)) (KdL.keep (Keep.below hw) _ HK.out)).mono ?_
  rintro e w2 ⟨v', l', rfl, hf, hbl, hc⟩
  obtain ⟨A', cap', rfl⟩ := fk_len hf
  have hx2 := hx.next hc
  have hy2 := hy.next hc
  have hb2 : Below w.heap.size w w2 := hw.trans (hc.mono hw.size)
  have hf2 : FkL (w.heap.size + 2) w2 .ex (.slice A' l'.length cap') l' := by rw [← hz1]; exact hf
  have c5 := hx2.cell 5
  have f5 := hx2.fro 5; have f6 := hx2.fro 6; have f7 := hx2.fro 7
  obtain ⟨x0, x1, x2, x3, x4, _, x6, x7⟩ := hx2.get_8
  obtain ⟨r0, r1, r2, r3, r4, r5, r6, r7⟩ := hy2.get_8
  have g0 := hy2.fro 0; have g1 := hy2.fro 1; have g2 := hy2.fro 2; have g3 := hy2.fro 3; have g4 := hy2.fro 4; have g5 := hy2.fro 5; have g6 := hy2.fro 6; have g7 := hy2.fro 7
  have HX2 := Lib.hid hx2; have HY2 := Lib.hid hy2; have HF2 := Lib.hid hf2; have HB2 := Lib.hid hb2; have HBL := Lib.hid hbl
  clear hf hc hx hy hw hz1 hf2 hb2 IH hx2 hy2 hbl
  go_wp2_with fail
  have hb1 : w.heap.size ≠ w.heap.size + 1 := by omega
  obtain ⟨z0, z1, z2, z3, z4, z5, z6, z7⟩ := ((((HY2.out.off hb1 5 (.slice A' l'.length cap')).off hb1 6 (.string ⟨#[]⟩)).off hb1 7 (.int .i64 0)).set_8 (.int .i64 k) (.int .i32 n) (.string tx) (.string nm) (.string ty) (.slice A' l'.length cap') (.string ⟨#[]⟩) (.int .i64 0)).get_8
  refine bodyPost_ret (v := .agg #[.int .i64 k, .int .i32 n, .string tx, .string nm, .string ty, .slice A' l'.length cap', .string ⟨#[]⟩, .int .i64 0]) (by simp [results, Try.results47, go_sem, z0, z1, z2, z3, z4, z5, z6, z7]) rfl ?_
  exact ⟨_, l', rfl, (((((HF2.out.set (by omega) 5 _).set (by omega) 6 _).set (by omega) 7 _).set_8 (by omega) _ _ _ _ _ _ _ _).mono (by omega)), HBL.out, set_8 (((HB2.out.setCell (Nat.le_refl _) _).setCell (Nat.le_refl _) _).setCell (Nat.le_refl _) _) (Nat.le_succ _) _ _ _ _ _ _ _ _⟩
set_option maxRecDepth 100000 in
set_option maxHeartbeats 2000000 in
theorem copies_ex_any : ∀ s, s ≤ 1000000 → CopiesEx s := by
  intro s
  induction s using Nat.strongRecOn with
  | ind s ih =>
    intro hs w v l hl hr hk
    obtain ⟨A, cap, rfl⟩ := hr.form
    obtain ⟨n, hn⟩ : ∃ n, l.length = n := ⟨_, rfl⟩
    have hm : n ≤ 1000000 := by have := len_sizeL l; omega
    obtain ⟨i0, hi, hz0, hz1, hz2⟩ := info_parts Try.infoOfExpr
    rw [hn] at hr ⊢
    have HR := Lib.hid hr; have HK := Lib.hid hk; have HLN := Lib.hid hn
    clear hr hk hn
    go_enter Try.func31, Try.ntmps31
    go_wp2
    go_loopw [3, 4] (fun v3 v4 wr => ∃ (k : Nat) (acc : List Nd), v4 = .int .i64 k ∧ k ≤ n ∧ Acc .ex 41 w l k v3 acc wr) (fun v3 v4 wr => n - (intOf v4).toNat)
    case atStart => exact ⟨0, [], rfl, Nat.zero_le _, Acc.start _ _ _ _⟩
    case round =>
      obtain ⟨k, acc, rfl, hkn, hE⟩ := hrel
      have HE := Lib.hid hE
      by_cases hlt : k < n
      · have K := Keep.below hE.2.2.2.2.2
        obtain ⟨b, o, x, rfl, hx, hxt, hc⟩ := (HR.out.keep K).get hlt
        have hxk := KdL.mem_get (KdL.keep K _ HK.out) hx
        cases x <;> first | (simp [Nd.tag] at hxt; done) | skip
        rename_i xk xn xtx xnm xty xv xl xown xnth
        have c0 := hc 0 _ rfl; have c1 := hc 1 _ rfl; have c2 := hc 2 _ rfl; have c3 := hc 3 _ rfl; have c4 := hc 4 _ rfl; have c5 := hc 5 _ rfl; have c6 := hc 6 _ rfl; have c7 := hc 7 _ rfl
        simp only [Tg.sz, Nat.add_zero] at c0 c1 c2 c3 c4 c5 c6 c7
        have hsz : (Nd.ex xk xn xtx xnm xty xv xl xown xnth).size = 1 + sizeL xl := by simp [Nd.size]
        have hle := size_mem (List.mem_of_getElem? hx)
        have HX := Lib.hid (copy_expr_of (s - 1) (by omega) (ih (s - 1) (by omega) (by omega)) wr xk xn xtx xnm xty xv xl xown xnth hxk (by omega))
        have HXG := Lib.hid hx
        rw [Kd] at hxk
        have HSZ := Lib.hid hxk.1
        obtain ⟨xA, xcap, rfl⟩ := hxk.2.1.form
        have hown := hE.2.1
        simp only [Tg.sz] at hown
        have hal := hE.1
        have hbw := hE.2.2.2.2.2.size
        clear hc hxk hx hsz hxt K ih hle hE
        go_wp2_with (first | (go_at_call 47; refine HX.out.mono ?_; clear HX; rintro e w1 ⟨v', l', rfl, hf, hbl, hb⟩; obtain ⟨A', cap', rfl⟩ := fk_len hf) | (at_builtin; refine wpList_append_own_at _ rfl (.tmp 11) (.tmp 17) 34 rfl w.heap.size 41 i0 _ 8 112 Try.underlying34 hi hz0 hz1 hz2 rfl (by decide) _ _ _ rfl ((own_next hown hb).alloc _) ⟨w1.heap.size, 0, none⟩ 1 1 [.int .i64 xk, .int .i32 xn, .string xtx, .string xnm, .string xty, .slice A' l'.length cap', .string ⟨#[]⟩, .int .i64 0] rfl rfl ?c1 ?c2 ?c3 ?c4 ?c5 ?_))
        case c1 => exact new_at w1 _ _
        case c2 => simp [one_slice, Value.oneCell']
        case c3 => unfold maxLen; omega
        case c4 => omega
        case c5 => have := hb.size; simp; omega
        · intro v2 w2 hown2 hgrow _ hat
          have HN := Lib.hid (HE.out.more HXG.out (.ex xk xn xtx xnm xty (.slice A' l'.length cap') l' ⟨#[]⟩ 0) rfl (by simp [bareN, hbl]) (fun ws hs => by
            rw [Kd]
            have := (hf.below ((Below.refl _ w1).alloc (Nat.le_refl _) _)) ws hs
            exact ⟨HSZ.out, this.1, this.2⟩) (hb.alloc hb.size _) (by rw [hal]; exact hown2) hgrow (by simpa using hat))
          clear hown2 hgrow hat hf hbl hb hown
          go_wp2_with fail
          go_roundw
          case rel => exact ⟨k + 1, _, by go_num, by omega, HN.out⟩
          case measure => simp [intOf]; omega
      · have hkl : l.take k = l := List.take_of_length_le (by rw [HLN.out]; omega)
        have HD := Lib.hid (HE.out.done hkl (by rw [HLN.out]; exact hm))
        clear ih hkl hE
        go_wp2
        go_ret
        exact HD.out
end Go.Proofs.Ytlpddmncgmhkeaa
/- A region that draws its order: what holds as long as certain operations have not all come up lets its loads be taken first; no program. -/
set_option linter.unusedSimpArgs false
set_option linter.unusedVariables false
namespace Go.Proofs.Ytlpddmncgmhkeaa
open Go.RowKit
section
variable {P : Program} {ops : Array Oper} {Q : Exit → Act → World → Prop} {md : Region.Mode} {S : World → Prop} {L : List Nat}
/-- As long as one of L has not come up, S holds. -/
def Stg (S : World → Prop) (L : List Nat) (up : Array Bool) (w : World) : Prop := (∃ c ∈ L, up.getD c true = false) → S w
def wpStg (P : Program) (md : Region.Mode) (ops : Array Oper) (Q : Exit → Act → World → Prop) (S : World → Prop) (L : List Nat) : Nat → Array Bool → Act → World → Prop
  | 0, up, a, w => Region.ready md ops up = [] ∧ Q .normal a w
  | n + 1, up, a, w => (Region.ready md ops up = [] → Q .normal a w) ∧ ∀ i ∈ Region.ready md ops up, wpOp P ops Q i (fun a' w' => Stg S L (up.setIfInBounds i true) w' ∧ wpStg P md ops Q S L n (up.setIfInBounds i true) a' w') a w
theorem wpStg_any : ∀ (n : Nat) (up : Array Bool) (a : Act) (w : World), wpStg P md ops Q S L n up a w → wpAny P md ops Q n up a w
  | 0, _, _, _, h => h
  | n + 1, _, _, _, h => ⟨h.1, fun i hi => wpOp_mono (fun a' w' h' => wpStg_any n _ a' w' h'.2) (h.2 i hi)⟩
theorem waits_not {i j : Nat} {up : Array Bool} (hr : i ∈ Region.ready md ops up) {oj : Oper} (hall : ∀ e ∈ oj.after, Region.binds md e = true → up.getD e.on false = true) : ∀ e ∈ oj.after, Region.binds md e = true → e.on ≠ i := by
  intro e he hb heq
  have h1 := hall e he hb
  have h0 := (mem_ready.1 hr).1
  rw [heq] at h1
  rcases Nat.lt_or_ge i up.size with h' | h'
  · simp [h'] at h0 h1; rw [h0] at h1; cases h1
  · simp [Array.getElem?_eq_none h'] at h1
theorem free_set {i j : Nat} {oi : Oper} {up : Array Bool} (hjun : up.getD j true = false) (h : ∀ k ok, ops[k]? = some ok → k ≠ i → up.getD k true = false → (∀ e ∈ ok.after, Region.binds md e = true → e.on ≠ i) → oi.apart ops ok = true) :
    ∀ k ok, ops[k]? = some ok → k ≠ i → (up.setIfInBounds j true).getD k true = false → (∀ e ∈ ok.after, Region.binds md e = true → e.on ≠ i) → oi.apart ops ok = true := by
  intro k ok hk hki hun hno
  refine h k ok hk hki ?_ hno
  by_cases hjk : j = k
  · subst hjk; exact hjun
  · rw [getD_set_ne true hjk] at hun; exact hun
def waitsB (md : Region.Mode) (ops : Array Oper) (c i : Nat) : Bool := match ops[c]? with | some oc => oc.after.any fun e => Region.binds md e && e.on == i | none => false
/-- Each waits for the one ahead of it. -/
def chainW (md : Region.Mode) (ops : Array Oper) : Nat → List Nat → Bool
  | _, [] => true
  | i, d :: D => waitsB md ops d i && chainW md ops d D
theorem not_ready {i j : Nat} {up : Array Bool} (hu : up.getD i true = false) (hw : waitsB md ops j i = true) : j ∉ Region.ready md ops up := by
  intro hj
  obtain ⟨_, oj, hoj, hall⟩ := mem_ready.1 hj
  unfold waitsB at hw
  rw [hoj] at hw
  obtain ⟨e, he, hb⟩ := Array.any_eq_true'.1 hw
  simp only [Bool.and_eq_true, beq_iff_eq] at hb
  have h1 := hall e he hb.1
  rw [hb.2] at h1
  rcases Nat.lt_or_ge i up.size with h' | h'
  · simp [h'] at hu h1; rw [hu] at h1; cases h1
  · simp [Array.getElem?_eq_none h'] at h1
theorem not_chain {up : Array Bool} {j : Nat} (hj : j ∈ Region.ready md ops up) : ∀ (D : List Nat) (i : Nat), up.getD i true = false → chainW md ops i D = true → (∀ d ∈ D, up.getD d true = false) → j ∉ D
  | [], _, _, _, _ => by simp
  | d :: D, i, hi, hc, hu => by
    simp only [chainW, Bool.and_eq_true] at hc
    intro hm
    rcases List.mem_cons.1 hm with rfl | hm
    · exact not_ready hi hc.1 hj
    · exact not_chain hj D d (hu d (by simp)) hc.2 (fun x hx => hu x (by simp [hx])) hm
/-- An operation that yields its value wherever S holds, and for which one of L waits, may be taken first. -/
theorem stg_first {i c : Nat} {oi : Oper} {v : Value} {D : List Nat} (hi : ops[i]? = some oi) (hsel : ∀ (j : Nat) (o : Oper) cs b, ops[j]? = some o → o.op ≠ .select cs b) (hQ : ∀ c a w, Q (.panic c) (a.put oi.dst v) w → Q (.panic c) a w)
    (hiL : i ∉ L) (hcL : c ∈ L) (hcD : c ∈ D) (hD : chainW md ops i D = true) :
    ∀ (n : Nat) (up : Array Bool) (a : Act) (w : World),
      (∀ j oj, ops[j]? = some oj → j ≠ i → up.getD j true = false → (∀ e ∈ oj.after, Region.binds md e = true → e.on ≠ i) → oi.apart ops oj = true) →
      i ∈ Region.ready md ops up → (∀ d ∈ D, up.getD d true = false) → YieldsIf P ops S oi v a → S w →
      wpStg P md ops Q S L n (up.setIfInBounds i true) (a.put oi.dst v) w → wpStg P md ops Q S L (n + 1) up a w := by
  have hic : i ≠ c := fun e => hiL (e ▸ hcL)
  intro n
  induction n with
  | zero =>
    intro up a w _ hr _ hy hS H
    refine ⟨fun h => (by rw [h] at hr; cases hr), fun j hj => ?_⟩
    by_cases hji : j = i
    · subst hji; exact hy.wpOp hi hS ⟨fun _ => hS, H⟩
    · have := ready_mono hj hji
      rw [H.1] at this
      cases this
  | succ n ih =>
    intro up a w hfree hr hDu hy hS H
    refine ⟨fun h => (by rw [h] at hr; cases hr), fun j hj => ?_⟩
    by_cases hji : j = i
    · subst hji; exact hy.wpOp hi hS ⟨fun _ => hS, H⟩
    · have h1 := H.2 j (ready_mono hj hji)
      obtain ⟨hjun, oj, hoj, hall⟩ := mem_ready.1 hj
      have hnot := waits_not (j := j) hr hall
      have hjD : j ∉ D := not_chain hj D i (mem_ready.1 hr).1 hD hDu
      have hjc : j ≠ c := fun e => hjD (e ▸ hcD)
      have h2 := wpOp_putIf hoj (hfree j oj hoj hji hjun hnot) (fun cs b => hsel i oi cs b hi) (fun cs b => hsel j oj cs b hoj) hQ hy h1
      refine wpOp_mono (fun a' w' h3 => ?_) h2
      have hS' : S w' := h3.2.1 ⟨c, hcL, by rw [getD_set_ne true hjc, getD_set_ne true hic]; exact hDu c hcD⟩
      refine ⟨fun _ => hS', ih (up.setIfInBounds j true) a' w' (free_set hjun hfree) (ready_mono hr (Ne.symm hji)) (fun d hd => by rw [getD_set_ne true (show j ≠ d from fun e => hjD (by rw [e]; exact hd))]; exact hDu d hd) h3.1 hS' ?_⟩
      rw [Array.setIfInBounds_comm _ _ hji]
      exact h3.2.2
/-- An operation that looks at no memory may be taken first. -/
theorem stg_pure {i : Nat} {oi : Oper} {v : Value} (hi : ops[i]? = some oi) (hsel : ∀ (j : Nat) (o : Oper) cs b, ops[j]? = some o → o.op ≠ .select cs b) (hQ : ∀ c a w, Q (.panic c) (a.put oi.dst v) w → Q (.panic c) a w) (hiL : i ∉ L) :
    ∀ (n : Nat) (up : Array Bool) (a : Act) (w : World),
      (∀ j oj, ops[j]? = some oj → j ≠ i → up.getD j true = false → (∀ e ∈ oj.after, Region.binds md e = true → e.on ≠ i) → oi.apart ops oj = true) →
      i ∈ Region.ready md ops up → Yields P ops oi v a → Stg S L up w →
      wpStg P md ops Q S L n (up.setIfInBounds i true) (a.put oi.dst v) w → wpStg P md ops Q S L (n + 1) up a w := by
  have hset : ∀ (u : Array Bool) (w : World), Stg S L u w → Stg S L (u.setIfInBounds i true) w := fun u w h ⟨c, hc, hu⟩ => h ⟨c, hc, by rw [getD_set_ne true (show i ≠ c from fun e => hiL (by rw [e]; exact hc))] at hu; exact hu⟩
  have hback : ∀ (u : Array Bool) (w : World), Stg S L (u.setIfInBounds i true) w → Stg S L u w := fun u w h ⟨c, hc, hu⟩ => h ⟨c, hc, by rw [getD_set_ne true (show i ≠ c from fun e => hiL (by rw [e]; exact hc))]; exact hu⟩
  intro n
  induction n with
  | zero =>
    intro up a w _ hr hy hS H
    refine ⟨fun h => (by rw [h] at hr; cases hr), fun j hj => ?_⟩
    by_cases hji : j = i
    · subst hji; exact hy.wpOp hi ⟨hset _ _ hS, H⟩
    · have := ready_mono hj hji
      rw [H.1] at this
      cases this
  | succ n ih =>
    intro up a w hfree hr hy hS H
    refine ⟨fun h => (by rw [h] at hr; cases hr), fun j hj => ?_⟩
    by_cases hji : j = i
    · subst hji; exact hy.wpOp hi ⟨hset _ _ hS, H⟩
    · have h1 := H.2 j (ready_mono hj hji)
      obtain ⟨hjun, oj, hoj, hall⟩ := mem_ready.1 hj
      have hnot := waits_not (j := j) hr hall
      have h2 := wpOp_put hoj (hfree j oj hoj hji hjun hnot) (fun cs b => hsel i oi cs b hi) (fun cs b => hsel j oj cs b hoj) hQ hy h1
      refine wpOp_mono (fun a' w' h3 => ?_) h2
      have h4 := h3.2.1
      have h5 := h3.2.2
      rw [Array.setIfInBounds_comm _ _ (Ne.symm hji)] at h4 h5
      have h6 := hback _ _ h4
      exact ⟨h6, ih (up.setIfInBounds j true) a' w' (free_set hjun hfree) (ready_mono hr (Ne.symm hji)) h3.1 h6 h5⟩
theorem stg_chain {i c : Nat} {D : List Nat} {oi : Oper} {v : Value} {n : Nat} {up : Array Bool} {a : Act} {w : World} (hi : ops[i]? = some oi) (hs : Region.noSelect ops = true) (hf : Region.free md ops up i = true) (hr : (Region.ready md ops up).contains i = true)
    (hQ : ∀ c a w, Q (.panic c) (a.put oi.dst v) w → Q (.panic c) a w) (hiL : L.contains i = false) (hcL : L.contains c = true) (hcD : D.contains c = true) (hD : chainW md ops i D = true) (hDu : (D.all fun d => up.getD d true == false) = true)
    (hy : YieldsIf P ops S oi v a) (hS : S w) (h : wpStg P md ops Q S L n (up.setIfInBounds i true) (a.put oi.dst v) w) : wpStg P md ops Q S L (n + 1) up a w :=
  stg_first hi (Region.noSelect_spec hs) hQ (by simpa using hiL) (by simpa using hcL) (by simpa using hcD) hD n up a w (Region.free_spec hi hf) (by simpa using hr) (fun d hd => by have := List.all_eq_true.1 hDu d hd; simpa using this) hy hS h
theorem stg_load {i c : Nat} {oi : Oper} {v : Value} {n : Nat} {up : Array Bool} {a : Act} {w : World} (hi : ops[i]? = some oi) (hs : Region.noSelect ops = true) (hf : Region.free md ops up i = true) (hr : (Region.ready md ops up).contains i = true)
    (hQ : ∀ c a w, Q (.panic c) (a.put oi.dst v) w → Q (.panic c) a w) (hiL : L.contains i = false) (hcL : L.contains c = true) (hw : (match ops[c]? with | some oc => oc.after.any fun e => Region.binds md e && e.on == i | none => false) = true) (hcu : up.getD c true = false)
    (hy : YieldsIf P ops S oi v a) (hS : S w) (h : wpStg P md ops Q S L n (up.setIfInBounds i true) (a.put oi.dst v) w) : wpStg P md ops Q S L (n + 1) up a w :=
  stg_chain (c := c) (D := [c]) hi hs hf hr hQ hiL hcL (by simp) (by simp only [chainW, waitsB, Bool.and_true]; exact hw) (by simpa using hcu) hy hS h
theorem stg_take {i : Nat} {oi : Oper} {v : Value} {n : Nat} {up : Array Bool} {a : Act} {w : World} (hi : ops[i]? = some oi) (hs : Region.noSelect ops = true) (hf : Region.free md ops up i = true) (hr : (Region.ready md ops up).contains i = true)
    (hQ : ∀ c a w, Q (.panic c) (a.put oi.dst v) w → Q (.panic c) a w) (hiL : L.contains i = false) (hy : Yields P ops oi v a) (hS : S w) (h : wpStg P md ops Q S L n (up.setIfInBounds i true) (a.put oi.dst v) w) : wpStg P md ops Q S L (n + 1) up a w :=
  stg_pure hi (Region.noSelect_spec hs) hQ (by simpa using hiL) n up a w (Region.free_spec hi hf) (by simpa using hr) hy (fun _ => hS) h
theorem stg_take' {i : Nat} {oi : Oper} {v : Value} {n : Nat} {up : Array Bool} {a : Act} {w : World} (hi : ops[i]? = some oi) (hs : Region.noSelect ops = true) (hf : Region.free md ops up i = true) (hr : (Region.ready md ops up).contains i = true)
    (hQ : ∀ c a w, Q (.panic c) (a.put oi.dst v) w → Q (.panic c) a w) (hiL : L.contains i = false) (hy : Yields P ops oi v a) (hS : Stg S L up w) (h : wpStg P md ops Q S L n (up.setIfInBounds i true) (a.put oi.dst v) w) : wpStg P md ops Q S L (n + 1) up a w :=
  stg_pure hi (Region.noSelect_spec hs) hQ (by simpa using hiL) n up a w (Region.free_spec hi hf) (by simpa using hr) hy hS h
/-- The one that comes up next. -/
theorem stg_one {i : Nat} {o : Oper} {n : Nat} {up : Array Bool} {a : Act} {w : World} (hr : Region.ready md ops up = [i]) (ho : ops[i]? = some o) (hg : o.guard = none)
    (h : ∀ K' : Act → World → Prop, Shut (∀ a w, Stg S L (up.setIfInBounds i true) w → wpStg P md ops Q S L n (up.setIfInBounds i true) a w → K' a w) → Oper.wp P o a w K' Q) :
    wpStg P md ops Q S L (n + 1) up a w := by
  refine ⟨fun h0 => (by rw [hr] at h0; cases h0), fun j hj => ?_⟩
  rw [hr] at hj
  simp at hj
  subst hj
  refine wpOp_step ho (fun K' hK => ?_)
  rw [if_pos (by simp [Region.wanted, hg])]
  exact h K' (fun a w hS hW => hK a w ⟨hS, hW⟩)
theorem stg_done {up : Array Bool} {a : Act} {w : World} (hr : Region.ready md ops up = []) (h : Q .normal a w) : ∀ n, wpStg P md ops Q S L n up a w
  | 0 => ⟨hr, h⟩
  | _ + 1 => ⟨fun _ => h, by rw [hr]; simp⟩
theorem wp_region_stg {id : Nat} {a : Act} {w : World} (S : World → Prop) (L : List Nat) (n : Nat) (up : Array Bool) (hm : P.follows .mixedOrders = true) (hn : ops.size = n) (hup : Array.replicate n false = up) (h : wpStg P .any ops Q S L n up a w.drew) : (Code.region id ops true).wp P Q a w := by
  subst hn; subst hup
  exact wp_region_any hm (wpStg_any _ _ _ _ h)
theorem region_gen {id : Nat} {a : Act} {w : World} {b : Bool} (h : ∀ o, o = ops → (Code.region id o b).wp P Q a w) : (Code.region id ops b).wp P Q a w := h _ rfl
end
end Go.Proofs.Ytlpddmncgmhkeaa
/- The document's copies of statements: changelingref17.CopyStmts. -/
set_option linter.unusedSimpArgs false
set_option linter.unusedVariables false
namespace Go.Proofs.Ytlpddmncgmhkeaa
open Go.RowKit
/-- A statement's box, whose rows lie from w on. -/
def StBox (w : World) (b : Nat) (k n : Int) (ty nm : ByteArray) (e a b' c : List Nd) (wx : World) : Prop :=
  ∃ A1 c1 l1 A2 c2 l2 A3 c3 l3 A4 c4 l4, Bx wx b #[.int .i64 k, .int .i32 n, .string ty, .string nm, .slice A1 (List.length l1) c1, .slice A2 (List.length l2) c2, .slice A3 (List.length l3) c3, .slice A4 (List.length l4) c4, .int .i64 0] 47 ∧
    (FkL w.heap.size wx .ex (.slice A1 l1.length c1) l1 ∧ bareL l1 = bareL e) ∧ (FkL w.heap.size wx .st (.slice A2 l2.length c2) l2 ∧ bareL l2 = bareL a) ∧ (FkL w.heap.size wx .st (.slice A3 l3.length c3) l3 ∧ bareL l3 = bareL b') ∧ (FkL w.heap.size wx .st (.slice A4 l4.length c4) l4 ∧ bareL l4 = bareL c) ∧ Below w.heap.size w wx
theorem FkL.set_5 {B b : Nat} {w : World} {t : Tg} {v : Value} {l : List Nd} (h : FkL B w t v l) (hb : b < B) (u4 u5 u6 u7 u8 : Value) : FkL B (((((w.setCell ⟨b, 4, none⟩ u4).setCell ⟨b, 5, none⟩ u5).setCell ⟨b, 6, none⟩ u6).setCell ⟨b, 7, none⟩ u7).setCell ⟨b, 8, none⟩ u8) t v l :=
  ((((h.set hb 4 u4).set hb 5 u5).set hb 6 u6).set hb 7 u7).set hb 8 u8
theorem st_box {w W5 w4 : World} {b : Nat} {k n nth : Int} {ty nm : ByteArray} {x4 x5 x6 x7 : Value} {e a b' c l1 l2 l3 l4 : List Nd} {A1 A2 A3 A4 : Option Addr} {c1 c2 c3 c4 : Nat} (hbw : b = w.heap.size) (hz : W5.heap.size = w.heap.size + 1) (hW : Below w.heap.size w W5) (hb : Below W5.heap.size W5 w4)
    (hx : Bx w4 b #[.int .i64 k, .int .i32 n, .string ty, .string nm, x4, x5, x6, x7, .int .i64 nth] 47)
    (h1 : FkL W5.heap.size w4 .ex (.slice A1 l1.length c1) l1 ∧ bareL l1 = bareL e) (h2 : FkL W5.heap.size w4 .st (.slice A2 l2.length c2) l2 ∧ bareL l2 = bareL a) (h3 : FkL W5.heap.size w4 .st (.slice A3 l3.length c3) l3 ∧ bareL l3 = bareL b') (h4 : FkL W5.heap.size w4 .st (.slice A4 l4.length c4) l4 ∧ bareL l4 = bareL c) :
    StBox w b k n ty nm e a b' c (((((w4.setCell ⟨b, 4, none⟩ (.slice A1 l1.length c1)).setCell ⟨b, 5, none⟩ (.slice A2 l2.length c2)).setCell ⟨b, 6, none⟩ (.slice A3 l3.length c3)).setCell ⟨b, 7, none⟩ (.slice A4 l4.length c4)).setCell ⟨b, 8, none⟩ (.int .i64 0)) := by
  have hlt : b < W5.heap.size := by omega
  have hle : w.heap.size ≤ W5.heap.size := by omega
  refine ⟨A1, c1, l1, A2, c2, l2, A3, c3, l3, A4, c4, l4, ?_, ⟨(h1.1.set_5 hlt _ _ _ _ _).mono hle, h1.2⟩, ⟨(h2.1.set_5 hlt _ _ _ _ _).mono hle, h2.2⟩, ⟨(h3.1.set_5 hlt _ _ _ _ _).mono hle, h3.2⟩, ⟨(h4.1.set_5 hlt _ _ _ _ _).mono hle, h4.2⟩, ?_⟩
  · have := ((((hx.set 4 (.slice A1 l1.length c1)).set 5 (.slice A2 l2.length c2)).set 6 (.slice A3 l3.length c3)).set 7 (.slice A4 l4.length c4)).set 8 (.int .i64 0)
    simpa using this
  · have hbb : w.heap.size ≤ b := by omega
    exact (((((hW.trans (hb.mono hW.size)).setCell hbb _).setCell hbb _).setCell hbb _).setCell hbb _).setCell hbb _
def CopiesSt (s : Nat) : Prop := ∀ (w : World) (v : Value) (l : List Nd), sizeL l ≤ s → Rw w .st v l → KdL w l → Calls Try.prog 32 #[v] w (CopySaid .st w l)
set_option maxRecDepth 100000 in
set_option maxHeartbeats 4000000 in
theorem copies_st_any : ∀ s, s ≤ 1000000 → CopiesSt s := by
  intro s
  induction s using Nat.strongRecOn with
  | ind s ih =>
    intro hs w v l hl hr hk
    obtain ⟨A, cap, rfl⟩ := hr.form
    obtain ⟨n, hn⟩ : ∃ n, l.length = n := ⟨_, rfl⟩
    have hm : n ≤ 1000000 := by have := len_sizeL l; omega
    obtain ⟨i0, hi, hz0, hz1, hz2⟩ := info_parts Try.infoOfStmt
    rw [hn] at hr ⊢
    have HR := Lib.hid hr; have HK := Lib.hid hk; have HLN := Lib.hid hn
    clear hr hk hn
    go_enter Try.func32, Try.ntmps32
    go_wp2
    go_loopw [3, 4] (fun v3 v4 wr => ∃ (k : Nat) (acc : List Nd), v4 = .int .i64 k ∧ k ≤ n ∧ Acc .st 47 w l k v3 acc wr) (fun v3 v4 wr => n - (intOf v4).toNat)
    case atStart => exact ⟨0, [], rfl, Nat.zero_le _, Acc.start _ _ _ _⟩
    case round =>
      obtain ⟨k, acc, rfl, hkn, hE⟩ := hrel
      have HE := Lib.hid hE
      by_cases hlt : k < n
      · have K := Keep.below hE.2.2.2.2.2
        obtain ⟨b, o, x, rfl, hx, hxt, hc⟩ := (HR.out.keep K).get hlt
        have hxk := KdL.mem_get (KdL.keep K _ HK.out) hx
        cases x <;> first | (simp [Nd.tag] at hxt; done) | skip
        rename_i xk xn xty xnm ve va vb vc e a b' c nth
        have c0 := hc 0 _ rfl; have c1 := hc 1 _ rfl; have c2 := hc 2 _ rfl; have c3 := hc 3 _ rfl; have c4 := hc 4 _ rfl; have c5 := hc 5 _ rfl; have c6 := hc 6 _ rfl; have c7 := hc 7 _ rfl; have c8 := hc 8 _ rfl
        simp only [Tg.sz, Nat.add_zero] at c0 c1 c2 c3 c4 c5 c6 c7 c8
        have hsz : (Nd.st xk xn xty xnm ve va vb vc e a b' c nth).size = 1 + (sizeL e + sizeL a + sizeL b' + sizeL c) := by simp [Nd.size]
        have hle := size_mem (List.mem_of_getElem? hx)
        have HXG := Lib.hid hx
        rw [Kd] at hxk
        have HSZ := Lib.hid hxk.1
        have HXE : Hid (∀ w', Below wr.heap.size wr w' → Calls Try.prog 31 #[ve] w' (CopySaid .ex w' e)) := by
          show ∀ w', _
          intro w' hb; exact copies_ex_any (sizeL e) (by omega) w' ve e (Nat.le_refl _) (hxk.2.1.1.keep (Keep.below hb)) (KdL.keep (Keep.below hb) _ hxk.2.1.2)
        have HXA : Hid (∀ w', Below wr.heap.size wr w' → Calls Try.prog 32 #[va] w' (CopySaid .st w' a)) := by
          show ∀ w', _
          intro w' hb; exact ih (sizeL a) (by omega) (by omega) w' va a (Nat.le_refl _) (hxk.2.2.1.1.keep (Keep.below hb)) (KdL.keep (Keep.below hb) _ hxk.2.2.1.2)
        have HXB : Hid (∀ w', Below wr.heap.size wr w' → Calls Try.prog 32 #[vb] w' (CopySaid .st w' b')) := by
          show ∀ w', _
          intro w' hb; exact ih (sizeL b') (by omega) (by omega) w' vb b' (Nat.le_refl _) (hxk.2.2.2.1.1.keep (Keep.below hb)) (KdL.keep (Keep.below hb) _ hxk.2.2.2.1.2)
        have HXC : Hid (∀ w', Below wr.heap.size wr w' → Calls Try.prog 32 #[vc] w' (CopySaid .st w' c)) := by
          show ∀ w', _
          intro w' hb; exact ih (sizeL c) (by omega) (by omega) w' vc c (Nat.le_refl _) (hxk.2.2.2.2.1.keep (Keep.below hb)) (KdL.keep (Keep.below hb) _ hxk.2.2.2.2.2)
        obtain ⟨Ae, ce, rfl⟩ := hxk.2.1.1.form
        obtain ⟨Aa, ca, rfl⟩ := hxk.2.2.1.1.form
        obtain ⟨Ab, cb, rfl⟩ := hxk.2.2.2.1.1.form
        obtain ⟨Ac, cc, rfl⟩ := hxk.2.2.2.2.1.form
        have hal := hE.1
        have hbw := hE.2.2.2.2.2.size
        clear hc hxk hx hsz hxt K ih hle hE
        go_wp2_with fail
        refine gen_world (fun W => Bx W wr.heap.size #[.int .i64 xk, .int .i32 xn, .string xty, .string xnm, .slice Ae e.length ce, .slice Aa a.length ca, .slice Ab b'.length cb, .slice Ac c.length cc, .int .i64 nth] 47 ∧ Below wr.heap.size wr W ∧ W.heap.size = wr.heap.size + 1) ?_ ?_
        · exact ⟨Bx.new _ _ _, (Below.refl _ wr).alloc (Nat.le_refl _) _, by simp⟩
        · rintro W5 ⟨hx5, hW5, hz5⟩
          have HW5 := Lib.hid hW5
          have HX5 := Lib.hid hx5
          have hb0 : Below W5.heap.size W5 W5.drew := (Below.refl _ W5).drew
          have hlt5 := hx5.lt
          have HS : Hid (∀ w', Below W5.heap.size W5 w' → w'.cell? ⟨wr.heap.size, 4, none⟩ = some (.slice Ae e.length ce) ∧ w'.cell? ⟨wr.heap.size, 5, none⟩ = some (.slice Aa a.length ca) ∧ w'.cell? ⟨wr.heap.size, 6, none⟩ = some (.slice Ab b'.length cb) ∧ w'.cell? ⟨wr.heap.size, 7, none⟩ = some (.slice Ac c.length cc)) := by
            show ∀ w', _
            intro w' hb
            obtain ⟨_, _, _, _, d4, d5, d6, d7, _⟩ := (hx5.next hb).get_9
            exact ⟨d4, d5, d6, d7⟩
          obtain ⟨d4, d5, d6, d7⟩ := HS.out _ hb0
          clear c0 c1 c2 c3 c4 c5 c6 c7 c8 hx5 hW5
          go_cut [] (fun wx => StBox wr wr.heap.size xk xn xty xnm e a b' c wx)
          case first =>
            refine region_gen (fun ops hops => ?_)
            have k0 : Region.noSelect ops = true := by rw [hops]; decide +kernel
            have kn : ops.size = 22 := by rw [hops]; decide +kernel
            obtain ⟨_, _, o0⟩ : ∃ ps af, ops[0]? = some { dst := some 16, op := Op.fieldAddr 47 (.tmp 5) 4, type := 0, pos := ps, after := af, guard := none } := by rw [hops]; exact ⟨_, _, rfl⟩
            obtain ⟨_, _, o1⟩ : ∃ ps af, ops[1]? = some { dst := some 17, op := Op.load 34 (.tmp 16), type := 34, pos := ps, after := af, guard := none } := by rw [hops]; exact ⟨_, _, rfl⟩
            obtain ⟨_, _, o2⟩ : ∃ ps af, ops[2]? = some { dst := some 18, op := Op.call { callee := Callee.value (Operand.func 31), args := #[Operand.tmp 17], argTypes := #[34] }, type := 34, pos := ps, after := af, guard := none } := by rw [hops]; exact ⟨_, _, rfl⟩
            obtain ⟨_, _, o3⟩ : ∃ ps af, ops[3]? = some { dst := some 19, op := Op.fieldAddr 47 (.tmp 5) 5, type := 0, pos := ps, after := af, guard := none } := by rw [hops]; exact ⟨_, _, rfl⟩
            obtain ⟨_, _, o4⟩ : ∃ ps af, ops[4]? = some { dst := some 20, op := Op.load 37 (.tmp 19), type := 37, pos := ps, after := af, guard := none } := by rw [hops]; exact ⟨_, _, rfl⟩
            obtain ⟨_, _, o5⟩ : ∃ ps af, ops[5]? = some { dst := some 21, op := Op.call { callee := Callee.value (Operand.func 32), args := #[Operand.tmp 20], argTypes := #[37] }, type := 37, pos := ps, after := af, guard := none } := by rw [hops]; exact ⟨_, _, rfl⟩
            obtain ⟨_, _, o6⟩ : ∃ ps af, ops[6]? = some { dst := some 22, op := Op.fieldAddr 47 (.tmp 5) 6, type := 0, pos := ps, after := af, guard := none } := by rw [hops]; exact ⟨_, _, rfl⟩
            obtain ⟨_, _, o7⟩ : ∃ ps af, ops[7]? = some { dst := some 23, op := Op.load 37 (.tmp 22), type := 37, pos := ps, after := af, guard := none } := by rw [hops]; exact ⟨_, _, rfl⟩
            obtain ⟨_, _, o8⟩ : ∃ ps af, ops[8]? = some { dst := some 24, op := Op.call { callee := Callee.value (Operand.func 32), args := #[Operand.tmp 23], argTypes := #[37] }, type := 37, pos := ps, after := af, guard := none } := by rw [hops]; exact ⟨_, _, rfl⟩
            obtain ⟨_, _, o9⟩ : ∃ ps af, ops[9]? = some { dst := some 25, op := Op.fieldAddr 47 (.tmp 5) 7, type := 0, pos := ps, after := af, guard := none } := by rw [hops]; exact ⟨_, _, rfl⟩
            obtain ⟨_, _, o10⟩ : ∃ ps af, ops[10]? = some { dst := some 26, op := Op.load 37 (.tmp 25), type := 37, pos := ps, after := af, guard := none } := by rw [hops]; exact ⟨_, _, rfl⟩
            obtain ⟨_, _, o11⟩ : ∃ ps af, ops[11]? = some { dst := some 27, op := Op.call { callee := Callee.value (Operand.func 32), args := #[Operand.tmp 26], argTypes := #[37] }, type := 37, pos := ps, after := af, guard := none } := by rw [hops]; exact ⟨_, _, rfl⟩
            obtain ⟨_, _, o12⟩ : ∃ ps af, ops[12]? = some { dst := some 28, op := Op.fieldAddr 47 (.tmp 5) 4, type := 0, pos := ps, after := af, guard := none } := by rw [hops]; exact ⟨_, _, rfl⟩
            obtain ⟨_, _, o13⟩ : ∃ ps af, ops[13]? = some { dst := none, op := Op.store 34 (.tmp 28) (.tmp 18), type := 0, pos := ps, after := af, guard := none } := by rw [hops]; exact ⟨_, _, rfl⟩
            obtain ⟨_, _, o14⟩ : ∃ ps af, ops[14]? = some { dst := some 29, op := Op.fieldAddr 47 (.tmp 5) 5, type := 0, pos := ps, after := af, guard := none } := by rw [hops]; exact ⟨_, _, rfl⟩
            obtain ⟨_, _, o15⟩ : ∃ ps af, ops[15]? = some { dst := none, op := Op.store 37 (.tmp 29) (.tmp 21), type := 0, pos := ps, after := af, guard := none } := by rw [hops]; exact ⟨_, _, rfl⟩
            obtain ⟨_, _, o16⟩ : ∃ ps af, ops[16]? = some { dst := some 30, op := Op.fieldAddr 47 (.tmp 5) 6, type := 0, pos := ps, after := af, guard := none } := by rw [hops]; exact ⟨_, _, rfl⟩
            obtain ⟨_, _, o17⟩ : ∃ ps af, ops[17]? = some { dst := none, op := Op.store 37 (.tmp 30) (.tmp 24), type := 0, pos := ps, after := af, guard := none } := by rw [hops]; exact ⟨_, _, rfl⟩
            obtain ⟨_, _, o18⟩ : ∃ ps af, ops[18]? = some { dst := some 31, op := Op.fieldAddr 47 (.tmp 5) 7, type := 0, pos := ps, after := af, guard := none } := by rw [hops]; exact ⟨_, _, rfl⟩
            obtain ⟨_, _, o19⟩ : ∃ ps af, ops[19]? = some { dst := none, op := Op.store 37 (.tmp 31) (.tmp 27), type := 0, pos := ps, after := af, guard := none } := by rw [hops]; exact ⟨_, _, rfl⟩
            obtain ⟨_, _, o20⟩ : ∃ ps af, ops[20]? = some { dst := some 32, op := Op.fieldAddr 47 (.tmp 5) 8, type := 0, pos := ps, after := af, guard := none } := by rw [hops]; exact ⟨_, _, rfl⟩
            obtain ⟨_, _, o21⟩ : ∃ ps af, ops[21]? = some { dst := none, op := Op.store 3 (.tmp 32) (.const (.int .i64 0)), type := 0, pos := ps, after := af, guard := none } := by rw [hops]; exact ⟨_, _, rfl⟩
            have r0 : (Region.ready .any ops #[false, false, false, false, false, false, false, false, false, false, false, false, false, false, false, false, false, false, false, false, false, false]).contains 0 = true := by rw [hops]; decide +kernel
            have f0' : Region.free .any ops #[false, false, false, false, false, false, false, false, false, false, false, false, false, false, false, false, false, false, false, false, false, false] 0 = true := by rw [hops]; decide +kernel
            have r3 : (Region.ready .any ops #[true, false, false, false, false, false, false, false, false, false, false, false, false, false, false, false, false, false, false, false, false, false]).contains 3 = true := by rw [hops]; decide +kernel
            have f3' : Region.free .any ops #[true, false, false, false, false, false, false, false, false, false, false, false, false, false, false, false, false, false, false, false, false, false] 3 = true := by rw [hops]; decide +kernel
            have r6 : (Region.ready .any ops #[true, false, false, true, false, false, false, false, false, false, false, false, false, false, false, false, false, false, false, false, false, false]).contains 6 = true := by rw [hops]; decide +kernel
            have f6' : Region.free .any ops #[true, false, false, true, false, false, false, false, false, false, false, false, false, false, false, false, false, false, false, false, false, false] 6 = true := by rw [hops]; decide +kernel
            have r9 : (Region.ready .any ops #[true, false, false, true, false, false, true, false, false, false, false, false, false, false, false, false, false, false, false, false, false, false]).contains 9 = true := by rw [hops]; decide +kernel
            have f9' : Region.free .any ops #[true, false, false, true, false, false, true, false, false, false, false, false, false, false, false, false, false, false, false, false, false, false] 9 = true := by rw [hops]; decide +kernel
            have r1 : (Region.ready .any ops #[true, false, false, true, false, false, true, false, false, true, false, false, false, false, false, false, false, false, false, false, false, false]).contains 1 = true := by rw [hops]; decide +kernel
            have f1' : Region.free .any ops #[true, false, false, true, false, false, true, false, false, true, false, false, false, false, false, false, false, false, false, false, false, false] 1 = true := by rw [hops]; decide +kernel
            have w1' : (match ops[2]? with | some oc => oc.after.any fun e => Region.binds .any e && e.on == 1 | none => false) = true := by rw [hops]; decide +kernel
            have r4 : (Region.ready .any ops #[true, true, false, true, false, false, true, false, false, true, false, false, false, false, false, false, false, false, false, false, false, false]).contains 4 = true := by rw [hops]; decide +kernel
            have f4' : Region.free .any ops #[true, true, false, true, false, false, true, false, false, true, false, false, false, false, false, false, false, false, false, false, false, false] 4 = true := by rw [hops]; decide +kernel
            have w4' : (match ops[5]? with | some oc => oc.after.any fun e => Region.binds .any e && e.on == 4 | none => false) = true := by rw [hops]; decide +kernel
            have r7 : (Region.ready .any ops #[true, true, false, true, true, false, true, false, false, true, false, false, false, false, false, false, false, false, false, false, false, false]).contains 7 = true := by rw [hops]; decide +kernel
            have f7' : Region.free .any ops #[true, true, false, true, true, false, true, false, false, true, false, false, false, false, false, false, false, false, false, false, false, false] 7 = true := by rw [hops]; decide +kernel
            have w7' : (match ops[8]? with | some oc => oc.after.any fun e => Region.binds .any e && e.on == 7 | none => false) = true := by rw [hops]; decide +kernel
            have r10 : (Region.ready .any ops #[true, true, false, true, true, false, true, true, false, true, false, false, false, false, false, false, false, false, false, false, false, false]).contains 10 = true := by rw [hops]; decide +kernel
            have f10' : Region.free .any ops #[true, true, false, true, true, false, true, true, false, true, false, false, false, false, false, false, false, false, false, false, false, false] 10 = true := by rw [hops]; decide +kernel
            have w10' : (match ops[11]? with | some oc => oc.after.any fun e => Region.binds .any e && e.on == 10 | none => false) = true := by rw [hops]; decide +kernel
            have r2 : Region.ready .any ops #[true, true, false, true, true, false, true, true, false, true, true, false, false, false, false, false, false, false, false, false, false, false] = [2] := by rw [hops]; decide +kernel
            have r12 : (Region.ready .any ops #[true, true, true, true, true, false, true, true, false, true, true, false, false, false, false, false, false, false, false, false, false, false]).contains 12 = true := by rw [hops]; decide +kernel
            have f12' : Region.free .any ops #[true, true, true, true, true, false, true, true, false, true, true, false, false, false, false, false, false, false, false, false, false, false] 12 = true := by rw [hops]; decide +kernel
            have r5 : Region.ready .any ops #[true, true, true, true, true, false, true, true, false, true, true, false, true, false, false, false, false, false, false, false, false, false] = [5] := by rw [hops]; decide +kernel
            have r8 : Region.ready .any ops #[true, true, true, true, true, true, true, true, false, true, true, false, true, false, false, false, false, false, false, false, false, false] = [8] := by rw [hops]; decide +kernel
            have r11 : Region.ready .any ops #[true, true, true, true, true, true, true, true, true, true, true, false, true, false, false, false, false, false, false, false, false, false] = [11] := by rw [hops]; decide +kernel
            have r13 : Region.ready .any ops #[true, true, true, true, true, true, true, true, true, true, true, true, true, false, false, false, false, false, false, false, false, false] = [13] := by rw [hops]; decide +kernel
            have r14 : (Region.ready .any ops #[true, true, true, true, true, true, true, true, true, true, true, true, true, true, false, false, false, false, false, false, false, false]).contains 14 = true := by rw [hops]; decide +kernel
            have f14' : Region.free .any ops #[true, true, true, true, true, true, true, true, true, true, true, true, true, true, false, false, false, false, false, false, false, false] 14 = true := by rw [hops]; decide +kernel
            have r15 : Region.ready .any ops #[true, true, true, true, true, true, true, true, true, true, true, true, true, true, true, false, false, false, false, false, false, false] = [15] := by rw [hops]; decide +kernel
            have r16 : (Region.ready .any ops #[true, true, true, true, true, true, true, true, true, true, true, true, true, true, true, true, false, false, false, false, false, false]).contains 16 = true := by rw [hops]; decide +kernel
            have f16' : Region.free .any ops #[true, true, true, true, true, true, true, true, true, true, true, true, true, true, true, true, false, false, false, false, false, false] 16 = true := by rw [hops]; decide +kernel
            have r17 : Region.ready .any ops #[true, true, true, true, true, true, true, true, true, true, true, true, true, true, true, true, true, false, false, false, false, false] = [17] := by rw [hops]; decide +kernel
            have r18 : (Region.ready .any ops #[true, true, true, true, true, true, true, true, true, true, true, true, true, true, true, true, true, true, false, false, false, false]).contains 18 = true := by rw [hops]; decide +kernel
            have f18' : Region.free .any ops #[true, true, true, true, true, true, true, true, true, true, true, true, true, true, true, true, true, true, false, false, false, false] 18 = true := by rw [hops]; decide +kernel
            have r19 : Region.ready .any ops #[true, true, true, true, true, true, true, true, true, true, true, true, true, true, true, true, true, true, true, false, false, false] = [19] := by rw [hops]; decide +kernel
            have r20 : (Region.ready .any ops #[true, true, true, true, true, true, true, true, true, true, true, true, true, true, true, true, true, true, true, true, false, false]).contains 20 = true := by rw [hops]; decide +kernel
            have f20' : Region.free .any ops #[true, true, true, true, true, true, true, true, true, true, true, true, true, true, true, true, true, true, true, true, false, false] 20 = true := by rw [hops]; decide +kernel
            have r21 : Region.ready .any ops #[true, true, true, true, true, true, true, true, true, true, true, true, true, true, true, true, true, true, true, true, true, false] = [21] := by rw [hops]; decide +kernel
            have rz : Region.ready .any ops #[true, true, true, true, true, true, true, true, true, true, true, true, true, true, true, true, true, true, true, true, true, true] = [] := by rw [hops]; decide +kernel
            clear hops
            obtain ⟨S, hSd⟩ : ∃ S : World → Prop, S = fun w' => w'.cell? ⟨wr.heap.size, 4, none⟩ = some (.slice Ae e.length ce) ∧ w'.cell? ⟨wr.heap.size, 5, none⟩ = some (.slice Aa a.length ca) ∧ w'.cell? ⟨wr.heap.size, 6, none⟩ = some (.slice Ab b'.length cb) ∧ w'.cell? ⟨wr.heap.size, 7, none⟩ = some (.slice Ac c.length cc) := ⟨_, rfl⟩
            have HSE : Hid (∀ w', S w' → w'.cell? ⟨wr.heap.size, 4, none⟩ = some (.slice Ae e.length ce) ∧ w'.cell? ⟨wr.heap.size, 5, none⟩ = some (.slice Aa a.length ca) ∧ w'.cell? ⟨wr.heap.size, 6, none⟩ = some (.slice Ab b'.length cb) ∧ w'.cell? ⟨wr.heap.size, 7, none⟩ = some (.slice Ac c.length cc)) := by
              show ∀ w', _
              intro w' h; rw [hSd] at h; exact h
            have HSI : Hid (∀ w', Below W5.heap.size W5 w' → S w') := by
              show ∀ w', _
              intro w' h; rw [hSd]; exact HS.out _ h
            have hS0 : S W5.drew := HSI.out _ hb0
            clear hSd d4 d5 d6 d7
            refine wp_region_stg S [2, 5, 8, 11] 22 #[false, false, false, false, false, false, false, false, false, false, false, false, false, false, false, false, false, false, false, false, false, false] (by kernel_rfl) kn (by rfl) ?_
            refine stg_take' (i := 0) (v := ?v1) o0 k0 f0' r0 (fun _ _ _ h => h) rfl (Or.inl ⟨by rfl, ?y1⟩) (fun _ => hS0) ?r1
            case y1 => (intro wq; go_simp; try with_reducible rfl)
            clear o0 f0' r0
            try simp only [Act.put, List.setIfInBounds_toArray, List.set_cons_zero, List.set_cons_succ]
            refine stg_take' (i := 3) (v := ?v2) o3 k0 f3' r3 (fun _ _ _ h => h) rfl (Or.inl ⟨by rfl, ?y2⟩) (fun _ => hS0) ?r2
            case y2 => (intro wq; go_simp; try with_reducible rfl)
            clear o3 f3' r3
            try simp only [Act.put, List.setIfInBounds_toArray, List.set_cons_zero, List.set_cons_succ]
            refine stg_take' (i := 6) (v := ?v3) o6 k0 f6' r6 (fun _ _ _ h => h) rfl (Or.inl ⟨by rfl, ?y3⟩) (fun _ => hS0) ?r3
            case y3 => (intro wq; go_simp; try with_reducible rfl)
            clear o6 f6' r6
            try simp only [Act.put, List.setIfInBounds_toArray, List.set_cons_zero, List.set_cons_succ]
            refine stg_take' (i := 9) (v := ?v4) o9 k0 f9' r9 (fun _ _ _ h => h) rfl (Or.inl ⟨by rfl, ?y4⟩) (fun _ => hS0) ?r4
            case y4 => (intro wq; go_simp; try with_reducible rfl)
            clear o9 f9' r9
            try simp only [Act.put, List.setIfInBounds_toArray, List.set_cons_zero, List.set_cons_succ]
            refine stg_load (i := 1) (c := 2) (v := ?v5) o1 k0 f1' r1 (fun _ _ _ h => h) rfl rfl w1' rfl (Or.inl ⟨by rfl, ?y5⟩) hS0 ?r5
            case y5 => (intro wq hSw; obtain ⟨e4, e5, e6, e7⟩ := HSE.out _ hSw; clear hSw; go_simp; try with_reducible rfl)
            clear o1 f1' r1 w1'
            try simp only [Act.put, List.setIfInBounds_toArray, List.set_cons_zero, List.set_cons_succ]
            refine stg_load (i := 4) (c := 5) (v := ?v6) o4 k0 f4' r4 (fun _ _ _ h => h) rfl rfl w4' rfl (Or.inl ⟨by rfl, ?y6⟩) hS0 ?r6
            case y6 => (intro wq hSw; obtain ⟨e4, e5, e6, e7⟩ := HSE.out _ hSw; clear hSw; go_simp; try with_reducible rfl)
            clear o4 f4' r4 w4'
            try simp only [Act.put, List.setIfInBounds_toArray, List.set_cons_zero, List.set_cons_succ]
            refine stg_load (i := 7) (c := 8) (v := ?v7) o7 k0 f7' r7 (fun _ _ _ h => h) rfl rfl w7' rfl (Or.inl ⟨by rfl, ?y7⟩) hS0 ?r7
            case y7 => (intro wq hSw; obtain ⟨e4, e5, e6, e7⟩ := HSE.out _ hSw; clear hSw; go_simp; try with_reducible rfl)
            clear o7 f7' r7 w7'
            try simp only [Act.put, List.setIfInBounds_toArray, List.set_cons_zero, List.set_cons_succ]
            refine stg_load (i := 10) (c := 11) (v := ?v8) o10 k0 f10' r10 (fun _ _ _ h => h) rfl rfl w10' rfl (Or.inl ⟨by rfl, ?y8⟩) hS0 ?r8
            case y8 => (intro wq hSw; obtain ⟨e4, e5, e6, e7⟩ := HSE.out _ hSw; clear hSw; go_simp; try with_reducible rfl)
            clear o10 f10' r10 w10'
            try simp only [Act.put, List.setIfInBounds_toArray, List.set_cons_zero, List.set_cons_succ]
            refine stg_one (i := 2) r2 o2 rfl (fun K hK => ?_)
            clear o2 r2
            go_simp
            go_at_call 31
            refine (HXE.out _ (HW5.out.trans (hb0.mono HW5.out.size))).mono ?_
            rintro r w1 ⟨v1, l1, rfl, hf1, hl1, hc1⟩
            obtain ⟨A1, n1, rfl⟩ := fk_len hf1
            have hb1 := hb0.trans (hc1.mono hb0.size)
            have HF1 := Lib.hid (And.intro (hf1.mono hb0.size) hl1)
            have hS0 := HSI.out _ hb1
            clear hc1 hf1 hl1
            refine hK.out _ _ (fun _ => hS0) ?_
            clear hK K
            try simp only [Act.put, List.setIfInBounds_toArray, List.set_cons_zero, List.set_cons_succ]
            refine stg_take' (i := 12) (v := ?v10) o12 k0 f12' r12 (fun _ _ _ h => h) rfl (Or.inl ⟨by rfl, ?y10⟩) (fun _ => hS0) ?r10
            case y10 => (intro wq; go_simp; try with_reducible rfl)
            clear o12 f12' r12
            try simp only [Act.put, List.setIfInBounds_toArray, List.set_cons_zero, List.set_cons_succ]
            refine stg_one (i := 5) r5 o5 rfl (fun K hK => ?_)
            clear o5 r5
            go_simp
            go_at_call 32
            refine (HXA.out _ (HW5.out.trans (hb1.mono HW5.out.size))).mono ?_
            rintro r w2 ⟨v2, l2, rfl, hf2, hl2, hc2⟩
            obtain ⟨A2, n2, rfl⟩ := fk_len hf2
            have hb2 := hb1.trans (hc2.mono hb1.size)
            have HF1b := Lib.hid (And.intro (HF1.out.1.below hc2) HF1.out.2)
            have HF2 := Lib.hid (And.intro (hf2.mono hb1.size) hl2)
            clear hc2 hf2 hl2
            refine hK.out _ _ (fun _ => HSI.out _ hb2) ?_
            clear hK K
            try simp only [Act.put, List.setIfInBounds_toArray, List.set_cons_zero, List.set_cons_succ]
            refine stg_one (i := 8) r8 o8 rfl (fun K hK => ?_)
            clear o8 r8
            go_simp
            go_at_call 32
            refine (HXB.out _ (HW5.out.trans (hb2.mono HW5.out.size))).mono ?_
            rintro r w3 ⟨v3', l3, rfl, hf3, hl3, hc3⟩
            obtain ⟨A3, n3, rfl⟩ := fk_len hf3
            have hb3 := hb2.trans (hc3.mono hb2.size)
            have HF1c := Lib.hid (And.intro (HF1b.out.1.below hc3) HF1b.out.2)
            have HF2c := Lib.hid (And.intro (HF2.out.1.below hc3) HF2.out.2)
            have HF3 := Lib.hid (And.intro (hf3.mono hb2.size) hl3)
            clear hc3 hf3 hl3
            refine hK.out _ _ (fun _ => HSI.out _ hb3) ?_
            clear hK K
            try simp only [Act.put, List.setIfInBounds_toArray, List.set_cons_zero, List.set_cons_succ]
            refine stg_one (i := 11) r11 o11 rfl (fun K hK => ?_)
            clear o11 r11
            go_simp
            go_at_call 32
            refine (HXC.out _ (HW5.out.trans (hb3.mono HW5.out.size))).mono ?_
            rintro r w4 ⟨v4', l4, rfl, hf4, hl4, hc4⟩
            obtain ⟨A4, n4, rfl⟩ := fk_len hf4
            have hb4 := hb3.trans (hc4.mono hb3.size)
            have HF1d := Lib.hid (And.intro (HF1c.out.1.below hc4) HF1c.out.2)
            have HF2d := Lib.hid (And.intro (HF2c.out.1.below hc4) HF2c.out.2)
            have HF3d := Lib.hid (And.intro (HF3.out.1.below hc4) HF3.out.2)
            have HF4 := Lib.hid (And.intro (hf4.mono hb3.size) hl4)
            have hx4 := HX5.out.next hb4
            obtain ⟨_, _, _, _, d4, d5, d6, d7, d8⟩ := hx4.get_9
            have f4 := hx4.fro 4; have f5 := hx4.fro 5; have f6 := hx4.fro 6; have f7 := hx4.fro 7; have f8 := hx4.fro 8
            have HX4 := Lib.hid hx4
            have hS0 := HSI.out _ hb4
            clear hc4 hf4 hl4 hx4
            refine hK.out _ _ (fun _ => hS0) ?_
            clear hK K
            try simp only [Act.put, List.setIfInBounds_toArray, List.set_cons_zero, List.set_cons_succ]
            refine stg_one (i := 13) r13 o13 rfl (fun K hK => ?_)
            clear o13 r13
            go_simp
            refine hK.out _ _ (by rintro ⟨c, hc, hu⟩; simp at hc; rcases hc with rfl | rfl | rfl | rfl <;> simp at hu) ?_
            clear hK K
            try simp only [Act.put, List.setIfInBounds_toArray, List.set_cons_zero, List.set_cons_succ]
            refine stg_take' (i := 14) (v := ?v15) o14 k0 f14' r14 (fun _ _ _ h => h) rfl (Or.inl ⟨by rfl, ?y15⟩) (by rintro ⟨c, hc, hu⟩; simp at hc; rcases hc with rfl | rfl | rfl | rfl <;> simp at hu) ?r15
            case y15 => (intro wq; go_simp; try with_reducible rfl)
            clear o14 f14' r14
            try simp only [Act.put, List.setIfInBounds_toArray, List.set_cons_zero, List.set_cons_succ]
            refine stg_one (i := 15) r15 o15 rfl (fun K hK => ?_)
            clear o15 r15
            go_simp
            refine hK.out _ _ (by rintro ⟨c, hc, hu⟩; simp at hc; rcases hc with rfl | rfl | rfl | rfl <;> simp at hu) ?_
            clear hK K
            try simp only [Act.put, List.setIfInBounds_toArray, List.set_cons_zero, List.set_cons_succ]
            refine stg_take' (i := 16) (v := ?v17) o16 k0 f16' r16 (fun _ _ _ h => h) rfl (Or.inl ⟨by rfl, ?y17⟩) (by rintro ⟨c, hc, hu⟩; simp at hc; rcases hc with rfl | rfl | rfl | rfl <;> simp at hu) ?r17
            case y17 => (intro wq; go_simp; try with_reducible rfl)
            clear o16 f16' r16
            try simp only [Act.put, List.setIfInBounds_toArray, List.set_cons_zero, List.set_cons_succ]
            refine stg_one (i := 17) r17 o17 rfl (fun K hK => ?_)
            clear o17 r17
            go_simp
            refine hK.out _ _ (by rintro ⟨c, hc, hu⟩; simp at hc; rcases hc with rfl | rfl | rfl | rfl <;> simp at hu) ?_
            clear hK K
            try simp only [Act.put, List.setIfInBounds_toArray, List.set_cons_zero, List.set_cons_succ]
            refine stg_take' (i := 18) (v := ?v19) o18 k0 f18' r18 (fun _ _ _ h => h) rfl (Or.inl ⟨by rfl, ?y19⟩) (by rintro ⟨c, hc, hu⟩; simp at hc; rcases hc with rfl | rfl | rfl | rfl <;> simp at hu) ?r19
            case y19 => (intro wq; go_simp; try with_reducible rfl)
            clear o18 f18' r18
            try simp only [Act.put, List.setIfInBounds_toArray, List.set_cons_zero, List.set_cons_succ]
            refine stg_one (i := 19) r19 o19 rfl (fun K hK => ?_)
            clear o19 r19
            go_simp
            refine hK.out _ _ (by rintro ⟨c, hc, hu⟩; simp at hc; rcases hc with rfl | rfl | rfl | rfl <;> simp at hu) ?_
            clear hK K
            try simp only [Act.put, List.setIfInBounds_toArray, List.set_cons_zero, List.set_cons_succ]
            refine stg_take' (i := 20) (v := ?v21) o20 k0 f20' r20 (fun _ _ _ h => h) rfl (Or.inl ⟨by rfl, ?y21⟩) (by rintro ⟨c, hc, hu⟩; simp at hc; rcases hc with rfl | rfl | rfl | rfl <;> simp at hu) ?r21
            case y21 => (intro wq; go_simp; try with_reducible rfl)
            clear o20 f20' r20
            try simp only [Act.put, List.setIfInBounds_toArray, List.set_cons_zero, List.set_cons_succ]
            refine stg_one (i := 21) r21 o21 rfl (fun K hK => ?_)
            clear o21 r21
            go_simp
            refine hK.out _ _ (by rintro ⟨c, hc, hu⟩; simp at hc; rcases hc with rfl | rfl | rfl | rfl <;> simp at hu) ?_
            clear hK K
            try simp only [Act.put, List.setIfInBounds_toArray, List.set_cons_zero, List.set_cons_succ]
            refine stg_done rz ?_ _
            go_wp2_with fail
            go_meet
            exact st_box rfl hz5 HW5.out hb4 HX4.out HF1d.out HF2d.out HF3d.out HF4.out
          case rest =>
            obtain ⟨A1, c1, l1, A2, c2, l2, A3, c3, l3, A4, c4, l4, hbx, hf1, hf2, hf3, hf4, hbb⟩ := hcut
            obtain ⟨y0, y1, y2, y3, y4, y5, y6, y7, y8⟩ := hbx.get_9
            have hown := own_next HE.out.2.1 hbb
            simp only [Tg.sz] at hown
            have HBB := Lib.hid hbb
            have HF1 := Lib.hid hf1; have HF2 := Lib.hid hf2; have HF3 := Lib.hid hf3; have HF4 := Lib.hid hf4
            have hbs := hbb.size
            clear hbx hf1 hf2 hf3 hf4 hbb d4 d5 d6 d7 hb0 HS HX5 HW5 HXE HXA HXB HXC
            go_wp2_with (at_builtin; refine wpList_append_own_at _ rfl (.tmp 33) (.tmp 35) 37 rfl w.heap.size 47 i0 _ 9 152 Try.underlying37 hi hz0 hz1 hz2 rfl (by decide) _ _ _ rfl (hown.alloc _) ⟨wc.heap.size, 0, none⟩ 1 1 [.int .i64 xk, .int .i32 xn, .string xty, .string xnm, .slice A1 l1.length c1, .slice A2 l2.length c2, .slice A3 l3.length c3, .slice A4 l4.length c4, .int .i64 0] rfl rfl ?c1 ?c2 ?c3 ?c4 ?c5 ?_)
            case c1 => exact new_at wc _ _
            case c2 => simp [one_slice, Value.oneCell']
            case c3 => unfold maxLen; omega
            case c4 => omega
            case c5 => simp; omega
            · intro v2 w2 hown2 hgrow _ hat
              have HN := Lib.hid (HE.out.more HXG.out (.st xk xn xty xnm (.slice A1 l1.length c1) (.slice A2 l2.length c2) (.slice A3 l3.length c3) (.slice A4 l4.length c4) l1 l2 l3 l4 0) rfl (by simp [bareN, HF1.out.2, HF2.out.2, HF3.out.2, HF4.out.2]) (fun ws hs => by
                rw [Kd]
                have ha := (Below.refl _ wc).alloc (Nat.le_refl _) (.cells #[.int .i64 xk, .int .i32 xn, .string xty, .string xnm, .slice A1 l1.length c1, .slice A2 l2.length c2, .slice A3 l3.length c3, .slice A4 l4.length c4, .int .i64 0] 47)
                exact ⟨HSZ.out, (HF1.out.1.below ha) ws hs, (HF2.out.1.below ha) ws hs, (HF3.out.1.below ha) ws hs, (HF4.out.1.below ha) ws hs⟩) (HBB.out.alloc hbs _) (by rw [hal]; exact hown2) hgrow (by simpa using hat))
              clear hown2 hgrow hat hown
              go_wp2_with fail
              go_roundw
              case rel => exact ⟨k + 1, _, by go_num, by omega, HN.out⟩
              case measure => simp [intOf]; omega
      · have hkl : l.take k = l := List.take_of_length_le (by rw [HLN.out]; omega)
        have HD := Lib.hid (HE.out.done hkl (by rw [HLN.out]; exact hm))
        clear ih hkl hE
        go_wp2
        go_ret
        exact HD.out
end Go.Proofs.Ytlpddmncgmhkeaa
