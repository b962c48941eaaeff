/- Parts of the proof: Ref0, RefC, RefPp, RefS, Dpt, Rdr. -/
import Derived.Test.YtaclhdpjkgoadaaGreatDoorShelf
import Derived.Test.YtaclhdpjkgoadaaGreatDoorP4
import Derived.Lib.Hide
import Derived.WalkKit
import Derived.BigCall
import Derived.Deep.QuietTactic
import Derived.BigQuiet
import Derived.Laws.BitsLemmas
import Derived.Test.YtaclhdpjkgoadaaGreatDoorP5
import Derived.Deep.RegionHeld3
import Derived.Test.YtaclhdpjkgoadaaGreatDoorP6
import Derived.Deep.RegionWith
import Derived.Test.YtaclhdpjkgoadaaGreatDoorP9
import Derived.Test.YtaclhdpjkgoadaaGreatDoorP7
import Derived.Test.YtaclhdpjkgoadaaGreatDoorP8
import Derived.Test.YtaclhdpjkgoadaaGreatDoorP27
import Derived.Deep.AppendLies
set_option maxHeartbeats 2000000
set_option maxRecDepth 100000
namespace Go.Proofs.YtaclhdpjkgoadaaGreatDoor
set_option linter.unusedSimpArgs false
set_option linter.unusedVariables false
section
open Go.RowKit
end
section
open Go.RowKit
def accR (s : ByteArray) (p m : Nat) : Nat → Nat
 | 0 => 0
 | 1 => bt s p % m
 | k + 2 => accR s p m (k + 1) * 64 + bt s (p + k + 1) % 64
theorem accR_succ (s : ByteArray) (p m k : Nat) (h : 1 ≤ k) : accR s p m (k + 1) = accR s p m k * 64 + bt s (p + k) % 64 := by
 obtain ⟨j, rfl⟩ : ∃ j, k = j + 1 := ⟨k - 1, by omega⟩
 rfl
theorem accR_lt (s : ByteArray) (p m : Nat) (hm : 0 < m) (hm2 : m ≤ 32) : ∀ k, k ≤ 4 → accR s p m k < 8388608 ∧ (k ≤ 3 → accR s p m k < 131072) ∧ (k ≤ 2 → accR s p m k < 2048) ∧ (k ≤ 1 → accR s p m k < 32) := by
 intro k hk
 have h0 := Nat.mod_lt (bt s p) hm
 have h1 := Nat.mod_lt (bt s (p + 0 + 1)) (show 0 < 64 by decide)
 have h2 := Nat.mod_lt (bt s (p + 1 + 1)) (show 0 < 64 by decide)
 have h3 := Nat.mod_lt (bt s (p + 2 + 1)) (show 0 < 64 by decide)
 match k, hk with
 | 0, _ => simp [accR]
 | 1, _ => simp only [accR]; omega
 | 2, _ => simp only [accR]; omega
 | 3, _ => simp only [accR]; omega
 | 4, _ => simp only [accR]; omega
theorem i64_and63 (x : Int) (h0 : 0 ≤ x) (h1 : x < 256) : bits .and .i64 x 63 = x % 64 := bits_mask .i64 8 (by decide) (fun n a b => by rw [IntKind.wrap_i64]; omega) 6 (by decide) x h0 h1
theorem i32_and31 (x : Int) (h0 : 0 ≤ x) (h1 : x < 256) : bits .and .i32 x 31 = x % 32 := bits_mask .i32 8 (by decide) (fun n a b => by rw [IntKind.wrap_i32]; omega) 5 (by decide) x h0 h1
theorem i32_and15 (x : Int) (h0 : 0 ≤ x) (h1 : x < 256) : bits .and .i32 x 15 = x % 16 := bits_mask .i32 8 (by decide) (fun n a b => by rw [IntKind.wrap_i32]; omega) 4 (by decide) x h0 h1
theorem i32_and7 (x : Int) (h0 : 0 ≤ x) (h1 : x < 256) : bits .and .i32 x 7 = x % 8 := bits_mask .i32 8 (by decide) (fun n a b => by rw [IntKind.wrap_i32]; omega) 3 (by decide) x h0 h1
def OneSaid (s : ByteArray) (p : Nat) (w : World) : Prop :=
 Calls Tryz.prog 10 #[.string s, .int .i64 p] w fun e w' => e = .returned (.agg #[.int .i32 ((Utf8.decode s p).1 : Nat), .int .i64 ((Utf8.decode s p).2 : Nat), .bool (badAt s p)]) ∧ Below w.heap.size w w'
theorem box_below (w : World) (c : Array Value) (T : TypeId) : Below w.heap.size w (w.alloc (.cells c T)) := (Below.refl _ w).alloc (Nat.le_refl _) _
theorem dbad (s : ByteArray) (p : Nat) (h : 128 ≤ bt s p) (h2 : ¬ K2 s p) (h3 : ¬ K3 s p) (h4 : ¬ K4 s p) : Utf8.decode s p = (65533, 1) := by
 rcases dcases s p with ⟨k, _⟩ | ⟨k, _⟩ | ⟨k, _⟩ | ⟨k, _⟩ | ⟨_, _, _, _, e⟩
 · omega
 · exact absurd k h2
 · exact absurd k h3
 · exact absurd k h4
 · exact e
end
section
open Go.RowKit
theorem Rw.get {w : World} {t : Tg} {A : Option Addr} {n cap : Nat} {l : List Nd} (h : Rw w t (.slice A n cap) l) {k : Nat} (hk : k < n) : ∃ b o x, A = Option.some ⟨b, o, none⟩ ∧ l[k]? = Option.some x ∧ x.tag = t ∧ ∀ j u, (cellsN x)[j]? = Option.some u → w.cell? ⟨b, o + k * t.sz + j, none⟩ = Option.some u := by
 obtain ⟨A', cap', hv, _, ht, hc⟩ := h
 injection hv with h1 h2 h3
 obtain ⟨b, o, hA, hcell⟩ := hc (by omega)
 have hl : k < l.length := by omega
 exact ⟨b, o, l[k], h1.trans hA, List.getElem?_eq_getElem hl, ht _ (List.getElem_mem hl), hcell k _ (List.getElem?_eq_getElem hl)⟩
theorem sizeL_take_succ {l : List Nd} {k : Nat} {x : Nd} (h : l[k]? = some x) : sizeL (l.take (k + 1)) = sizeL (l.take k) + x.size := by
 have hl := (List.getElem?_eq_some_iff.1 h)
 rw [List.take_add_one, h]
 simp [sizeL_append, sizeL]
theorem sizeL_take_le (l : List Nd) (k : Nat) : sizeL (l.take k) ≤ sizeL l := by
 have := sizeL_append (l.take k) (l.drop k)
 rw [List.take_append_drop] at this; omega
theorem KdL.mem_get {w : World} {l : List Nd} (h : KdL w l) {k : Nat} {x : Nd} (hx : l[k]? = some x) : Kd w x := KdL_mem h x (List.mem_of_getElem? hx)
end
section
open Go.RowKit
theorem sameL_head (x y : Nd) (l m : List Nd) : sameL (x :: l) (y :: m) = (sameL [x] [y] && sameL l m) := by rw [sameL_cons, sameL_one, Bool.and_assoc]
theorem sameL_drop {l l' : List Nd} {k : Nat} {x y : Nd} (h : l[k]? = some x) (h' : l'[k]? = some y) : sameL (l.drop k) (l'.drop k) = (sameL [x] [y] && sameL (l.drop (k + 1)) (l'.drop (k + 1))) := by
 obtain ⟨h1, h2⟩ := List.getElem?_eq_some_iff.1 h
 obtain ⟨h3, h4⟩ := List.getElem?_eq_some_iff.1 h'
 rw [List.drop_eq_getElem_cons h1, List.drop_eq_getElem_cons h3, h2, h4, sameL_head]
theorem same_ex (k n : Int) (tx nm ty : ByteArray) (nv : Value) (l : List Nd) (own : ByteArray) (nth : Int) (k' n' : Int) (tx' nm' ty' : ByteArray) (nv' : Value) (l' : List Nd) (own' : ByteArray) (nth' : Int) :
   sameL [.ex k n tx nm ty nv l own nth] [.ex k' n' tx' nm' ty' nv' l' own' nth'] = ((k == k') && ((n == n') && ((tx.toList == tx'.toList) && ((nm.toList == nm'.toList) && ((ty.toList == ty'.toList) && sameL l l'))))) := by
 rw [sameL_one]
 simp only [alikeB, Nd.kids]
 by_cases hl : l.length = l'.length
 · have : (l.length == l'.length) = true := by rw [beq_iff_eq]; exact hl
   rw [this]; simp only [Bool.and_true, Bool.and_assoc]
 · rw [sameL_ne _ _ hl]; simp
def ExSame (s : Nat) : Prop := ∀ (w : World) (v v' : Value) (l l' : List Nd), sizeL l ≤ s → Rw w .ex v l → KdL w l → Rw w .ex v' l' → KdL w l' → Calls Tryz.prog 21 #[v, v'] w fun e w' => e = .returned (.bool (sameL l l')) ∧ Below w.heap.size w w'
theorem ref_same_of (s : Nat) (IH : ExSame s) (w : World) (k n : Int) (tx nm ty : ByteArray) (nv : Value) (l : List Nd) (own : ByteArray) (nth : Int) (k' n' : Int) (tx' nm' ty' : ByteArray) (nv' : Value) (l' : List Nd) (own' : ByteArray) (nth' : Int)
   (hk : Kd w (.ex k n tx nm ty nv l own nth)) (hk' : Kd w (.ex k' n' tx' nm' ty' nv' l' own' nth')) (hl : sizeL l ≤ s) (r : Bool) (hr : sameL [.ex k n tx nm ty nv l own nth] [.ex k' n' tx' nm' ty' nv' l' own' nth'] = r) :
   Calls Tryz.prog 9 #[.agg #[.int .i64 k, .int .i32 n, .string tx, .string nm, .string ty, nv, .string own, .int .i64 nth], .agg #[.int .i64 k', .int .i32 n', .string tx', .string nm', .string ty', nv', .string own', .int .i64 nth']] w fun e w' => e = .returned (.bool r) ∧ Below w.heap.size w w' := by
 rw [Kd] at hk hk'
 obtain ⟨A, cap, rfl⟩ := hk.2.1.form
 obtain ⟨A', cap', rfl⟩ := hk'.2.1.form
 obtain ⟨W, hW⟩ : ∃ W, (w.alloc (.cells #[.int .i64 k, .int .i32 n, .string tx, .string nm, .string ty, .slice A l.length cap, .string own, .int .i64 nth] 26)).alloc (.cells #[.int .i64 k', .int .i32 n', .string tx', .string nm', .string ty', .slice A' l'.length cap', .string own', .int .i64 nth'] 26) = W := ⟨_, rfl⟩
 have hb : Below w.heap.size w W := by rw [← hW]; exact ((Below.refl _ w).alloc (Nat.le_refl _) _).alloc (by simp) _
 have hx : Bx W w.heap.size #[.int .i64 k, .int .i32 n, .string tx, .string nm, .string ty, .slice A l.length cap, .string own, .int .i64 nth] 26 := by rw [← hW]; exact (Bx.new _ _ _).next ((Below.refl _ _).alloc (Nat.le_refl _) _)
 have hy : Bx W (w.heap.size + 1) #[.int .i64 k', .int .i32 n', .string tx', .string nm', .string ty', .slice A' l'.length cap', .string own', .int .i64 nth'] 26 := by
   rw [← hW]
   have := Bx.new (w.alloc (.cells #[.int .i64 k, .int .i32 n, .string tx, .string nm, .string ty, .slice A l.length cap, .string own, .int .i64 nth] 26)) #[.int .i64 k', .int .i32 n', .string tx', .string nm', .string ty', .slice A' l'.length cap', .string own', .int .i64 nth'] 26
   simpa using this
 have K := Keep.below hb
 have HI := Lib.hid (IH W _ _ l l' hl (hk.2.1.keep K) (KdL.keep K _ hk.2.2) (hk'.2.1.keep K) (KdL.keep K _ hk'.2.2))
 have x0 := hx.cell 0; have x1 := hx.cell 1; have x2 := hx.cell 2; have x3 := hx.cell 3; have x4 := hx.cell 4; have x5 := hx.cell 5
 have y0 := hy.cell 0; have y1 := hy.cell 1; have y2 := hy.cell 2; have y3 := hy.cell 3; have y4 := hy.cell 4; have y5 := hy.cell 5
 simp only [List.getElem?_toArray, List.getElem?_cons_zero, List.getElem?_cons_succ] at x0 x1 x2 x3 x4 x5 y0 y1 y2 y3 y4 y5
 rw [same_ex] at hr
 obtain ⟨q, hq⟩ : ∃ q, sameL l l' = q := ⟨_, rfl⟩
 rw [hq] at HI hr
 have HB := Lib.hid hb
 obtain ⟨q0, h0⟩ : ∃ q, (k == k') = q := ⟨_, rfl⟩
 obtain ⟨q1, h1⟩ : ∃ q, (n == n') = q := ⟨_, rfl⟩
 obtain ⟨q2, h2⟩ : ∃ q, (tx.toList == tx'.toList) = q := ⟨_, rfl⟩
 obtain ⟨q3, h3⟩ : ∃ q, (nm.toList == nm'.toList) = q := ⟨_, rfl⟩
 obtain ⟨q4, h4⟩ : ∃ q, (ty.toList == ty'.toList) = q := ⟨_, rfl⟩
 rw [h0, h1, h2, h3, h4] at hr
 have HR := Lib.hid hr
 clear hk hk' K hx hy IH hq hr hb
 go_enter Tryz.func9, Tryz.ntmps9
 go_wp2_with (go_at_call 21; refine HI.out.mono ?_; clear HI; rintro e w1 ⟨rfl, hb1⟩)
 all_goals go_ret
 all_goals have hr := HR.out
 all_goals have hb := HB.out
 all_goals subst hr
 all_goals first
   | exact ⟨ret_bool (by simp only [*, Bool.true_and, Bool.false_and, Bool.not_eq_true] at *; try simp [*]), hb.trans (hb1.mono hb.size)⟩
   | exact ⟨ret_bool (by simp [*]), hb⟩
theorem ref_sames_any : ∀ s, s ≤ 1000000 → ExSame s := by
 intro s
 induction s using Nat.strongRecOn with
 | ind s ih =>
   intro hs w v v' l l' hl hr hk hr' hk'
   obtain ⟨A, cap, rfl⟩ := hr.form
   obtain ⟨A', cap', rfl⟩ := hr'.form
   have hlen : l.length ≤ 1000000 := by have := len_sizeL l; omega
   have hlen' : l'.length ≤ maxLen := by obtain ⟨_, _, _, h, _⟩ := hr'; exact h.1
   unfold maxLen at hlen'
   obtain ⟨q, hq⟩ : ∃ q, sameL l l' = q := ⟨_, rfl⟩
   rw [hq]
   by_cases hne : l.length = l'.length
   · obtain ⟨n, hn⟩ : ∃ n, l.length = n := ⟨_, rfl⟩
     have hn' : l'.length = n := hne ▸ hn
     rw [hn] at hr hlen ⊢
     rw [hn'] at hr' ⊢
     have HR := Lib.hid hr; have HK := Lib.hid hk; have HR' := Lib.hid hr'; have HK' := Lib.hid hk'
     have HLN := Lib.hid hn; have HLN' := Lib.hid hn'
     have HS0 := Lib.hid (show sameL (l.drop 0) (l'.drop 0) = q by simpa using hq)
     have HL := Lib.hid hl
     clear hr hk hr' hk' hn hn' hne hq hlen' hl
     go_enter Tryz.func21, Tryz.ntmps21
     go_wp2
     go_loopw [5] (fun v5 wr => ∃ k : Nat, v5 = .int .i64 k ∧ k ≤ n ∧ sameL (l.drop k) (l'.drop k) = q ∧ Below w.heap.size w wr) (fun v5 wr => n - (intOf v5).toNat)
     case atStart => exact ⟨0, rfl, Nat.zero_le _, HS0.out, Below.refl _ _⟩
     case round =>
       obtain ⟨k, rfl, hkn, hsk, hB⟩ := hrel
       clear HS0
       by_cases hlt : k < n
       · have K := Keep.below hB
         obtain ⟨b, o, x, rfl, hx, hxt, hc⟩ := (HR.out.keep K).get hlt
         obtain ⟨b', o', y, rfl, hy, hyt, hc'⟩ := (HR'.out.keep K).get hlt
         have hxk := KdL.mem_get (KdL.keep K _ HK.out) hx
         have hyk := KdL.mem_get (KdL.keep K _ HK'.out) hy
         rw [sameL_drop hx hy] at hsk
         have hxs : x.size ≤ s := Nat.le_trans (size_mem (List.mem_of_getElem? hx)) HL.out
         cases x <;> first | (simp [Nd.tag] at hxt; done) | skip
         rename_i xk xn xtx xnm xty xv xl xown xnth
         cases y <;> first | (simp [Nd.tag] at hyt; done) | skip
         rename_i yk yn ytx ynm yty yv yl yown ynth
         obtain ⟨t, ht⟩ : ∃ t, sameL [.ex xk xn xtx xnm xty xv xl xown xnth] [.ex yk yn ytx ynm yty yv yl yown ynth] = t := ⟨_, rfl⟩
         rw [ht] at hsk
         have hsz : (Nd.ex xk xn xtx xnm xty xv xl xown xnth).size = 1 + sizeL xl := by simp [Nd.size]
         have hb0 : Below wr.heap.size wr wr.drew := (Below.refl _ wr).drew
         have HX := Lib.hid (ref_same_of (s - 1) (ih (s - 1) (by omega) (by omega)) wr.drew xk xn xtx xnm xty xv xl xown xnth yk yn ytx ynm yty yv yl yown ynth (Kd.keep (Keep.below hb0) _ hxk) (Kd.keep (Keep.below hb0) _ hyk) (by omega) t ht)
         have x0 := hc 0 _ rfl; have x1 := hc 1 _ rfl; have x2 := hc 2 _ rfl; have x3 := hc 3 _ rfl; have x4 := hc 4 _ rfl; have x5 := hc 5 _ rfl; have x6 := hc 6 _ rfl; have x7 := hc 7 _ rfl
         have y0 := hc' 0 _ rfl; have y1 := hc' 1 _ rfl; have y2 := hc' 2 _ rfl; have y3 := hc' 3 _ rfl; have y4 := hc' 4 _ rfl; have y5 := hc' 5 _ rfl; have y6 := hc' 6 _ rfl; have y7 := hc' 7 _ rfl
         simp only [Tg.sz, Nat.add_zero] at x0 x1 x2 x3 x4 x5 x6 x7 y0 y1 y2 y3 y4 y5 y6 y7
         obtain ⟨xA, xcap, rfl⟩ := (by rw [Kd] at hxk; exact hxk.2.1.form : ∃ A cap, xv = .slice A xl.length cap)
         obtain ⟨yA, ycap, rfl⟩ := (by rw [Kd] at hyk; exact hyk.2.1.form : ∃ A cap, yv = .slice A yl.length cap)
         have HB := Lib.hid hB
         have HSK := Lib.hid hsk
         have hi0 : (0 : Int) ≤ (k : Int) := by omega
         have hi1 : (k : Int) < (n : Int) := by omega
         clear hc hc' hxk hyk hx hy ht hsz hxt hyt K hB hxs hsk ih
         go_wp2_with fail
         go_region_with (go_at_call 9; refine HX.out.mono ?_; clear HX; rintro e w1 ⟨rfl, hb⟩)
         all_goals
           have hB1 := (HB.out.drew).trans (hb.mono HB.out.size)
           have h2 := HSK.out
           clear hb
           cases t
           · go_wp2_with fail
             go_ret
             exact ⟨ret_bool (by rw [← h2]; simp), hB1⟩
           · go_wp2_with fail
             go_roundw
             case rel => exact ⟨k + 1, by go_num, by omega, by rw [← h2]; simp, hB1⟩
             case measure => simp [intOf]; omega
       · rw [List.drop_eq_nil_of_le (by rw [HLN.out]; omega), List.drop_eq_nil_of_le (by rw [HLN'.out]; omega), sameL_nil] at hsk
         clear ih
         go_wp2
         go_ret
         exact ⟨ret_bool hsk, hB⟩
   · have hf : q = false := by rw [← hq]; exact sameL_ne _ _ hne
     have hne2 : ((l.length : Int) != (l'.length : Int)) = true := by simp; omega
     clear hr hk hr' hk' hl hq ih
     go_enter Tryz.func21, Tryz.ntmps21
     go_wp2
     go_ret
     exact ⟨ret_bool hf.symm, Below.refl _ _⟩
end
section
open Go.RowKit
mutual
def depthN : Nd → Nat
 | .ex _ _ _ _ _ _ l _ _ => depthL l + 1
 | .st .. => 1 | .fd .. => 1 | .mt .. => 1 | .cl .. => 1
def depthL : List Nd → Nat
 | [] => 0
 | x :: l => max (depthN x) (depthL l)
end
theorem depthL_append (a b : List Nd) : depthL (a ++ b) = max (depthL a) (depthL b) := by
 induction a with
 | nil => simp [depthL]
 | cons x a ih => simp only [List.cons_append, depthL, ih]; omega
theorem depth_take {l : List Nd} {j : Nat} {x : Nd} (h : l[j]? = some x) : depthL (l.take (j + 1)) = max (depthL (l.take j)) (depthN x) := by
 rw [List.take_add_one, h, depthL_append]; simp [depthL]
theorem depth_size : ∀ (n : Nat) (x : Nd) , x.size ≤ n → depthN x ≤ x.size
 | 0, x, h => by have := size_pos x; omega
 | n + 1, x, h => by
   have hl : ∀ l : List Nd, sizeL l ≤ n → depthL l ≤ sizeL l := by
     intro l
     induction l with
     | nil => intro _; simp [depthL]
     | cons y l ih =>
       intro hh
       simp only [sizeL] at hh
       have h1 := depth_size n y (by omega)
       have h2 := ih (by omega)
       simp only [depthL, sizeL]; omega
   cases x with
   | ex k n' tx nm ty v l own nth =>
     simp only [Nd.size] at h ⊢
     simp only [depthN]
     have := hl l (by omega)
     omega
   | _ => simp only [depthN, Nd.size]; omega
def DepthOf (s : Nat) : Prop := ∀ (w : World) (k n : Int) (tx nm ty : ByteArray) (nv : Value) (l : List Nd) (own : ByteArray) (nth : Int), Kd w (.ex k n tx nm ty nv l own nth) → (Nd.ex k n tx nm ty nv l own nth).size ≤ s →
 Calls Tryz.prog 18 #[.agg #[.int .i64 k, .int .i32 n, .string tx, .string nm, .string ty, nv, .string own, .int .i64 nth]] w fun e w' => e = .returned (.int .i64 (depthN (.ex k n tx nm ty nv l own nth))) ∧ Below w.heap.size w w'
theorem depth_row : ∀ s, s ≤ 1000000 → DepthOf s := by
 intro s
 induction s using Nat.strongRecOn with
 | ind s ih =>
   intro hs w k n tx nm ty nv l own nth hk hle
   have hsz : (Nd.ex k n tx nm ty nv l own nth).size = 1 + sizeL l := by simp [Nd.size]
   have hdn : depthN (.ex k n tx nm ty nv l own nth) = depthL l + 1 := by simp [depthN]
   have hdb : depthL l + 1 ≤ 1000001 := by have := depth_size _ _ (Nat.le_refl (Nd.ex k n tx nm ty nv l own nth).size); omega
   rw [hsz] at hle
   rw [hdn]
   rw [Kd] at hk
   obtain ⟨A, cap, rfl⟩ := hk.2.1.form
   obtain ⟨m, hm⟩ : ∃ m, l.length = m := ⟨_, rfl⟩
   have hml : m ≤ sizeL l := by rw [← hm]; exact len_sizeL l
   obtain ⟨d, hd⟩ : ∃ d, depthL l = d := ⟨_, rfl⟩
   rw [hd] at hdb ⊢
   have HDD := Lib.hid hd
   have HR := Lib.hid hk.2.1; have HK := Lib.hid hk.2.2; have HLN := Lib.hid hm
   rw [hm] at HR ⊢
   clear hk hsz hm hdn hd
   go_enter Tryz.func18, Tryz.ntmps18
   go_wp2_with fail
   refine gen_world (fun W => Bx W w.heap.size #[.int .i64 k, .int .i32 n, .string tx, .string nm, .string ty, .slice A m cap, .string own, .int .i64 nth] 26 ∧ Below w.heap.size w W) ?_ ?_
   · exact ⟨Bx.new _ _ _, (Below.refl _ w).alloc (Nat.le_refl _) _⟩
   · rintro W ⟨hx, hW⟩
     have HX := Lib.hid hx; have HW := Lib.hid hW
     have hlt := hx.lt
     clear hx hW
     go_loopw [3, 9] (fun v3 v9 wr => ∃ j a : Nat, v9 = .int .i64 j ∧ j ≤ m ∧ v3 = .int .i64 a ∧ a = depthL (l.take j) ∧ Below (w.heap.size + 1) W wr) (fun v3 v9 wr => m - (intOf v9).toNat)
     case atStart => exact ⟨0, 0, rfl, Nat.zero_le _, rfl, by simp [depthL], Below.refl _ _⟩
     case round =>
       obtain ⟨j, a, rfl, hjm, rfl, ha, hB⟩ := hrel
       have HA := Lib.hid ha
       clear ha
       have hBw : Below w.heap.size w wr := HW.out.trans (hB.mono (Nat.le_succ _))
       have hWs := HW.out.size
       have hBs := hB.size
       have K := Keep.below hBw
       by_cases hlt2 : j < m
       · obtain ⟨b, o, x, rfl, hx, hxt, hc⟩ := (HR.out.keep K).get hlt2
         have hxk := KdL.mem_get (KdL.keep K _ HK.out) hx
         cases x <;> first | (simp [Nd.tag] at hxt; done) | skip
         rename_i xk xn xtx xnm xty xv xl xown xnth
         have c0 := hc 0 _ rfl; have c1 := hc 1 _ rfl; have c2 := hc 2 _ rfl; have c3 := hc 3 _ rfl; have c4 := hc 4 _ rfl; have c5 := hc 5 _ rfl; have c6 := hc 6 _ rfl; have c7 := hc 7 _ rfl
         simp only [Tg.sz, Nat.add_zero] at c0 c1 c2 c3 c4 c5 c6 c7
         have hz := sizeL_take_succ hx
         have hle2 := sizeL_take_le l (j + 1)
         have hdt := depth_take hx
         have HX1 : Hid (∀ w', Below wr.heap.size wr w' → Calls Tryz.prog 18 #[.agg #[.int .i64 xk, .int .i32 xn, .string xtx, .string xnm, .string xty, xv, .string xown, .int .i64 xnth]] w' fun e w'' => e = .returned (.int .i64 (depthN (.ex xk xn xtx xnm xty xv xl xown xnth))) ∧ Below w'.heap.size w' w'') := by
           show ∀ w', _
           intro w' hb
           exact ih (Nd.ex xk xn xtx xnm xty xv xl xown xnth).size (by omega) (by omega) w' xk xn xtx xnm xty xv xl xown xnth (Kd.keep (Keep.below hb) _ hxk) (Nat.le_refl _)
         obtain ⟨q, hq⟩ : ∃ q, depthN (.ex xk xn xtx xnm xty xv xl xown xnth) = q := ⟨_, rfl⟩
         rw [hq] at HX1 hdt
         have HZ := Lib.hid hdt
         rw [Kd] at hxk
         obtain ⟨xA, xcap, rfl⟩ := hxk.2.1.form
         clear hc hxk hx hxt K ih hq hz hle2 hdt
         go_wp2_with (go_at_call 18; refine (HX1.out _ (by first | exact Below.refl _ _ | exact (Below.refl _ _).alloc (Nat.le_refl _) _)).mono ?_; clear HX1; rintro e w1 ⟨rfl, hb⟩; have HB1 := Lib.hid hb; clear hb)
         have hb2 : Below (w.heap.size + 1) W w1 := by
           have h1 := hB.alloc (by omega) (.cells #[.int .i64 xk, .int .i32 xn, .string xtx, .string xnm, .string xty, .slice xA xl.length xcap, .string xown, .int .i64 xnth] 26)
           exact h1.trans (HB1.out.mono (by simp; omega))
         refine ⟨⟨j + 1, max a q, by simp, by omega, ?_, by rw [HZ.out, ← HA.out], hb2⟩, by simp [intOf]; omega⟩
         congr 1; omega
       · have hkl : l.take j = l := List.take_of_length_le (by rw [HLN.out]; omega)
         have had : a = d := by rw [HA.out, hkl, HDD.out]
         subst had
         have HD := Lib.hid hBw
         clear ih hkl K hB hBw
         go_wp2_with fail
         go_ret
         exact ⟨by simp, HD.out⟩
end
section
open Go.RowKit
def plcells (x : Pl) : List Value := [x.1.V, .int .i64 x.2]
theorem Tryz.infoPl : (Tryz.prog.info? 74).map (fun i => (i.zero, i.size, i.bytes)) = some (some (.agg #[.nilIface, .int .i64 0]), 2, 24) := by kernel_rfl
theorem pr_one (x : Pr) : x.V.oneCell' = true := by cases x <;> rfl
theorem pl_one (l : List Pl) : ∀ u ∈ l.flatMap plcells, u.oneCell' = true := by
 intro u hu
 rw [List.mem_flatMap] at hu
 obtain ⟨x, hx, hu⟩ := hu
 simp only [plcells, List.mem_cons, List.not_mem_nil, or_false] at hu
 rcases hu with rfl | rfl
 · exact pr_one _
 · rfl
theorem plflat_get : ∀ (l : List Pl) (i j : Nat) (x : Pl), l[i]? = some x → j < 2 → (l.flatMap plcells)[i * 2 + j]? = (plcells x)[j]?
 | [], i, j, x, h, _ => by simp at h
 | y :: l, 0, j, x, h, hj => by
   simp only [List.getElem?_cons_zero, Option.some.injEq] at h
   subst h
   simp only [List.flatMap_cons, Nat.zero_mul, Nat.zero_add]
   rw [List.getElem?_append_left (by simpa [plcells] using hj)]
 | y :: l, i + 1, j, x, h, hj => by
   simp only [List.getElem?_cons_succ] at h
   have := plflat_get l i j x h hj
   simp only [List.flatMap_cons]
   rw [List.getElem?_append_right (by simp [plcells]; omega), ← this]
   congr 1
   simp [plcells]; omega
theorem ww_own {B : Nat} {w : World} {v : Value} {l : List Pl} (h : w.ownsRow B 74 2 v l.length (l.flatMap plcells)) (hm : l.length ≤ 1000000) (ht : ∀ x ∈ l, x.1.text.size ≤ 1000000) (hc : ∃ A n cap, v = .slice A n cap ∧ cap ≤ maxLen) : Ww w v l := by
 obtain ⟨A, cap, rfl, hcap⟩ := own_form h
 obtain ⟨A', n', cap', e, hcm⟩ := hc
 injection e with e1 e2 e3
 refine ⟨A, cap, rfl, ⟨hm, hcap, by omega⟩, ht, fun hn => ?_⟩
 obtain ⟨g, cap2, hv, hg, hl, hat⟩ := own_row h hn
 injection hv with h1 h2 h3
 refine ⟨g, 0, h1, fun i x hx => ⟨?_, ?_⟩⟩
 · have := (hat (i * 2 + 0) x.1.V (by rw [plflat_get l i 0 x hx (by omega)]; rfl)).1
   rw [Nat.zero_add]; exact this
 · have := (hat (i * 2 + 1) (.int .i64 x.2) (by rw [plflat_get l i 1 x hx (by omega)]; rfl)).1
   rw [Nat.zero_add]; exact this
theorem wflat_get : ∀ (l : List Wd) (i j : Nat) (x : Wd), l[i]? = some x → j < 3 → (cellsW l)[i * 3 + j]? = (wcells x)[j]?
 | [], i, j, x, h, _ => by simp at h
 | y :: l, 0, j, x, h, hj => by
   simp only [List.getElem?_cons_zero, Option.some.injEq] at h
   subst h
   simp only [cellsW, List.flatMap_cons, Nat.zero_mul, Nat.zero_add]
   rw [List.getElem?_append_left (by simpa [wcells] using hj)]
 | y :: l, i + 1, j, x, h, hj => by
   simp only [List.getElem?_cons_succ] at h
   have := wflat_get l i j x h hj
   simp only [cellsW, List.flatMap_cons] at this ⊢
   rw [List.getElem?_append_right (by simp [wcells]; omega), ← this]
   congr 1
   simp [wcells]; omega
structure MkAt (w : World) (b0 : Nat) (sz e a : Int) (ws : List Wd) (vw : Value) (k : Nat) (wr : World) (A : Option Addr) (cap : Nat) : Prop where
 bel : Below w.heap.size w wr
 bx : Bx wr b0 #[.slice A ((ws.map plOf).take k).length cap, .int .i64 sz, .int .i64 0, .int .i64 e, .int .i64 a, .int .i64 0, .int .i64 0] 54
 own : wr.ownsRow (b0 + 1) 74 2 (.slice A ((ws.map plOf).take k).length cap) ((ws.map plOf).take k).length (((ws.map plOf).take k).flatMap plcells)
 row : wr.ownsRow w.heap.size 70 3 vw ws.length (cellsW ws)
 old : ∀ g, vw.ownBlock = some g → g < b0
 hb : w.heap.size ≤ b0
section
variable {w wr w' : World} {b0 : Nat} {sz e a : Int} {ws : List Wd} {vw : Value} {k : Nat} {A : Option Addr} {cap : Nat}
theorem MkAt.below (h : MkAt w b0 sz e a ws vw k wr A cap) (hb : Below wr.heap.size wr w') : MkAt w b0 sz e a ws vw k w' A cap :=
 ⟨h.bel.trans (hb.mono h.bel.size), h.bx.next hb, own_next h.own hb, own_next h.row hb, h.old, h.hb⟩
theorem MkAt.put {x : Wd} {A3 : Option Addr} {c3 n : Nat} (h : MkAt w b0 sz e a ws vw k wr A cap) (hx : ws[k]? = some x) (ho : w'.ownsRow (b0 + 1) 74 2 (.slice A3 n c3) n (((ws.map plOf).take k).flatMap plcells ++ plcells (plOf x)))
   (hg : wr.grownBy w' (Value.slice A ((ws.map plOf).take k).length cap).ownBlock) (hn : n = ((ws.map plOf).take (k + 1)).length) : MkAt w b0 sz e a ws vw (k + 1) (w'.setCell ⟨b0, 0, none⟩ (.slice A3 n c3)) A3 c3 := by
 subst hn
 have hgg := grown_set_at w' b0 0 (.slice A3 ((ws.map plOf).take (k + 1)).length c3)
 have hbx : Bx w' b0 #[.slice A ((ws.map plOf).take k).length cap, .int .i64 sz, .int .i64 0, .int .i64 e, .int .i64 a, .int .i64 0, .int .i64 0] 54 :=
   (hg.block b0 h.bx.lt (fun q => by have := (h.own.lt b0 q.symm).1; omega)).trans h.bx
 have hrow : w'.ownsRow w.heap.size 70 3 vw ws.length (cellsW ws) := h.row.kept hg (by
   cases hv : vw.ownBlock with
   | none => exact .inl rfl
   | some g => exact .inr (fun q => by have h1 := h.old g hv; have := (h.own.lt g q.symm).1; omega))
 refine ⟨(h.bel.grown hg h.bel.size (fun q hq => by have := (h.own.lt q hq).1; have := h.hb; omega)).setCell h.hb _, ?_, ?_, hrow.kept hgg (by
   cases hv : vw.ownBlock with
   | none => exact .inl rfl
   | some g => exact .inr (by have := h.old g hv; simp; omega)), h.old, h.hb⟩
 · have := hbx.set 0 (.slice A3 ((ws.map plOf).take (k + 1)).length c3)
   simpa using this
 · have e1 : (ws.map plOf).take (k + 1) = (ws.map plOf).take k ++ [plOf x] := by rw [List.take_add_one, List.getElem?_map, hx]; rfl
   have e2 : ((ws.map plOf).take (k + 1)).flatMap plcells = ((ws.map plOf).take k).flatMap plcells ++ plcells (plOf x) := by rw [e1]; simp
   rw [e2]
   refine ho.kept hgg ?_
   cases hv : (Value.slice A3 ((ws.map plOf).take (k + 1)).length c3).ownBlock with
   | none => exact .inl rfl
   | some g => exact .inr (by have := (ho.lt g hv).1; simp; omega)
end
end
end Go.Proofs.YtaclhdpjkgoadaaGreatDoor
