/- Parts of the proof: SxB, SxC, SxD, SxE, SxF, SxG, SxH, SxI, SxJ, SxT. -/
import Derived.RangeFuncNested
import Derived.RangeFuncBound
import Derived.RangeFuncCalls
import Derived.RangeFuncLeaves
import Derived.RangeFuncBox
import Derived.Shelf.Abstract
import Derived.Shelf.RegionOpen
import Derived.WalkKit
import Derived.OwnWalkIn
import Derived.TacticsInMore
import Derived.LoopNIn
import Derived.LoopIn
import Derived.Maps.AppendAt
import Derived.Test.YtaclhdpjkgoadaaGreatDoorProg
import Derived.Maps.OwnIn
import Derived.Maps.Range
import Derived.Test.YtaclhdpjkgoadaaGreatDoorP4
import Derived.Lib.Hide
import Derived.Lib.AppendZerosOnto
import Derived.Deep.RegionWith
import Derived.BigCall
import Derived.BigQuiet
import Derived.Deep.LoopGhost
import Derived.Fence
import Derived.Test.YtaclhdpjkgoadaaGreatDoorEw6
import Derived.Test.YtaclhdpjkgoadaaGreatDoorChecked
set_option maxHeartbeats 8000000
set_option maxRecDepth 100000
namespace Go.Proofs.YtaclhdpjkgoadaaGreatDoor
set_option linter.unusedSimpArgs false
set_option linter.unusedVariables false
section
open Go.RowKit Go.Shelf
attribute [local go_sem] Oper.semAt_some
def KpB (b c : Nat) (W W' : World) : Prop := W'.heap[b]? = W.heap[b]? ∧ W'.heap[c]? = W.heap[c]?
theorem KpB.refl (b c : Nat) (W : World) : KpB b c W W := ⟨rfl, rfl⟩
theorem KpB.trans {b c : Nat} {A B C : World} (h : KpB b c A B) (k : KpB b c B C) : KpB b c A C := ⟨k.1.trans h.1, k.2.trans h.2⟩
theorem KpB.cell {b c : Nat} {A B : World} (h : KpB b c A B) (o : Nat) : B.cell? ⟨c, o, none⟩ = A.cell? ⟨c, o, none⟩ := by simp [World.cell?, h.2]
theorem KpB.row {b c : Nat} {A B : World} (h : KpB b c A B) (o : Nat) : B.cell? ⟨b, o, none⟩ = A.cell? ⟨b, o, none⟩ := by simp [World.cell?, h.1]
theorem KpB.put {b c : Nat} {w : World} (hb : b < w.heap.size) (hc : c < w.heap.size) (W : World) (l : Nat) (o o' : Obj) (hl : w.heap.size ≤ l) (h : W.heap[l]? = some o) (_ : o.isCells = false) (_ : o.isWalk = false) : KpB b c W (W.putObj l o') :=
 ⟨World.putObj_heap_other (by omega), World.putObj_heap_other (by omega)⟩
def bkL (len : Nat) (zs : Nat → TypeId × Value) (k : Nat) : List (Nat × TypeId × Value) := (List.range k).map fun j => (len - 1 - j, zs (len - 1 - j))
theorem bkL_succ (len : Nat) (zs : Nat → TypeId × Value) (k : Nat) : bkL len zs (k + 1) = bkL len zs k ++ [(len - 1 - k, zs (len - 1 - k))] := by simp [bkL, List.range_succ]
theorem bkL_length (len : Nat) (zs : Nat → TypeId × Value) (k : Nat) : (bkL len zs k).length = k := by simp [bkL]
theorem back1_in (F : Fence) (n : Nat) (hf : F.fn 73) (hro : F.round = none) (hn : 1 ≤ n) (l Bs b off len cap : Nat) (zs : Nat → TypeId × Value) (hreach : len ≤ 1000000) (J Jx : List (Nat × TypeId × Value) → World → Prop)
   (hY : ∀ pre x W, J pre W → pre.length < len → YieldAt F (n - 1) Tryz.prog l #[.int .i64 (x.1 : Int), .iface x.2.1 x.2.2] W fun e W' =>
     (e = .returned (.bool true) ∧ J (pre ++ [x]) W' ∧ KpB b Bs W W') ∨ (e = .returned (.bool false) ∧ Jx (pre ++ [x]) W'))
   (W : World) (hBs : W.cell? ⟨Bs, 0, none⟩ = some (.slice (some ⟨b, off, none⟩) len cap)) (hc : ∀ j, j < len → W.cell? ⟨b, off + j, none⟩ = some (.iface (zs j).1 (zs j).2)) (h0 : J [] W) :
   CallsIn F n Tryz.prog 73 #[.func (.yield l) #[] #[], .pointer (some ⟨Bs, 0, none⟩)] W fun e W' => (∃ v, e = .returned v) ∧
     ((∃ ys, ys = bkL len zs len ∧ J ys W') ∨ (∃ pre, (∃ k, k ≤ len ∧ pre = bkL len zs k) ∧ Jx pre W')) := by
 refine callsIn_of_wp Tryz.func73 rfl hf ?_ hro
 simp only [Tryz.ntmps73, List.size_toArray, List.length_cons, List.length_nil, Nat.reduceAdd, Nat.reduceSub, Array.replicate_succ, Array.replicate_zero, List.push_toArray, List.append_toArray, List.nil_append, List.cons_append]
 gi_wp2
 gi_loopw [3] (fun i wr => ∃ k : Nat, k ≤ len ∧ i = .int .i64 ((len : Int) - 1 - k) ∧ J (bkL len zs k) wr ∧ KpB b Bs W wr)
   (fun i _ => (intOf i + 1).toNat)
 case atStart => exact ⟨0, Nat.zero_le _, by simp, h0, KpB.refl _ _ _⟩
 case round =>
   obtain ⟨k, hk, rfl, hJs, hnx⟩ := hrel
   have hbx := (hnx.cell 0).trans hBs
   by_cases hlt : k < len
   · obtain ⟨m, hm⟩ : ∃ m, k + m + 1 = len := ⟨len - 1 - k, by omega⟩
     have hme : len - 1 - k = m := by omega
     have hmi : (len : Int) - 1 - k = (m : Int) := by omega
     have hml : m < len := by omega
     have hbk : bkL len zs (k + 1) = bkL len zs k ++ [(m, zs m)] := by rw [bkL_succ, hme]
     clear hme
     have hcx : wr.cell? ⟨b, off + m, none⟩ = some (.iface (zs m).1 (zs m).2) := (hnx.row (off + m)).trans (hc m hml)
     obtain ⟨fn, tmps, assign, body, hy, hR⟩ := hY _ (m, zs m) wr hJs (by rw [bkL_length]; exact hlt)
     dsimp only at hy
     rw [hmi]
     gi_wp2
     refine hR.mono ?_
     rintro e W3 (⟨rfl, hJ3, hk3⟩ | ⟨rfl, hJx3⟩)
     · gi_wp2
       go_roundw
       case rel => exact ⟨k + 1, by omega, by first | (congr 1; omega) | congr 1, by rw [hbk]; exact hJ3, hnx.trans hk3⟩
       case measure => simp [intOf]
     · gi_wp2
       refine bodyPost_ret (results_none rfl _ _ _) rfl ?_
       exact ⟨⟨_, rfl⟩, .inr ⟨_, ⟨k + 1, by omega, hbk.symm⟩, hJx3⟩⟩
   · obtain rfl : k = len := by omega
     have hmi : (k : Int) - 1 - k = -1 := by omega
     rw [hmi]
     gi_wp2
     go_end0
     exact ⟨⟨_, rfl⟩, .inl ⟨_, rfl, hJs⟩⟩
theorem back1_nil_in (F : Fence) (n : Nat) (hf : F.fn 73) (hro : F.round = none) (l Bs cap : Nat) (a : Option Addr) (J : List (Nat × TypeId × Value) → World → Prop) (W : World) (hBs : W.cell? ⟨Bs, 0, none⟩ = some (.slice a 0 cap)) (h0 : J [] W) :
   CallsIn F n Tryz.prog 73 #[.func (.yield l) #[] #[], .pointer (some ⟨Bs, 0, none⟩)] W fun e W' => (∃ v, e = .returned v) ∧ J [] W' := by
 refine callsIn_of_wp Tryz.func73 rfl hf ?_ hro
 simp only [Tryz.ntmps73, List.size_toArray, List.length_cons, List.length_nil, Nat.reduceAdd, Nat.reduceSub, Array.replicate_succ, Array.replicate_zero, List.push_toArray, List.append_toArray, List.nil_append, List.cons_append]
 gi_wp2
 gi_loopw [3] (fun i wr => i = .int .i64 (-1) ∧ J [] wr) (fun _ _ => 0)
 case atStart => exact ⟨rfl, h0⟩
 case round =>
   obtain ⟨rfl, hJs⟩ := hrel
   gi_wp2
   go_end0
   exact ⟨⟨_, rfl⟩, hJs⟩
theorem back_in (F : Fence) (n : Nat) (hf : F.fn 48) (hro : F.round = none) (a : Option Addr) (len cap : Nat) (w : World) :
   CallsIn F n Tryz.prog 48 #[.slice a len cap] w fun e w' => e = .returned (.func (.func 73) #[] #[.pointer (some ⟨w.heap.size, 0, none⟩)]) ∧ w' = w.alloc (.cells #[.slice a len cap] 64) := by
 refine callsIn_of_wp Tryz.func48 rfl hf ?_ hro
 simp only [Tryz.ntmps48, List.size_toArray, List.length_cons, List.length_nil, Nat.reduceAdd, Nat.reduceSub, Array.replicate_succ, Array.replicate_zero, List.push_toArray, List.append_toArray, List.nil_append, List.cons_append]
 gi_wp2
 go_ret
 exact ⟨rfl, rfl⟩
def PtsB (b : Nat) (W : World) (a : Option Addr) (len : Nat) (zs : Nat → TypeId × Value) : Prop :=
 len = 0 ∨ ∃ off, a = some ⟨b, off, none⟩ ∧ ∀ j, j < len → W.cell? ⟨b, off + j, none⟩ = some (.iface (zs j).1 (zs j).2)
theorem PtsB.below {n b : Nat} {A B : World} (h : Below n A B) (hb : b < n) {a : Option Addr} {len : Nat} {zs : Nat → TypeId × Value} : PtsB b A a len zs → PtsB b B a len zs
 | .inl e => .inl e
 | .inr ⟨off, e, hc⟩ => .inr ⟨off, e, fun j hj => (h.cell (p := ⟨b, off + j, none⟩) hb).trans (hc j hj)⟩
theorem back_stops (F : Fence) (n : Nat) (hf : F.fn 73) (hro : F.round = none) (hn : 1 ≤ n) (Bs b : Nat) (a : Option Addr) (len cap : Nat) (zs : Nat → TypeId × Value) (hreach : len ≤ 1000000) (w : World) (hBs : Bs < w.heap.size) (hb : b < w.heap.size)
   (hc : w.cell? ⟨Bs, 0, none⟩ = some (.slice a len cap)) (hI : PtsB b w a len zs) :
   SeqStopsK F n Tryz.prog 73 #[.pointer (some ⟨Bs, 0, none⟩)] (fun x : Nat × TypeId × Value => #[Value.int .i64 (x.1 : Int), Value.iface x.2.1 x.2.2]) (KpB b Bs) (fun ys => ys = bkL len zs len)
     (fun pre => ∃ k, k ≤ len ∧ pre = bkL len zs k) len w := fun l J Jx W hW _ _ hY h0 => by
 have hc' := (hW.cell (p := ⟨Bs, 0, none⟩) hBs).trans hc
 rcases hI.below hW hb with rfl | ⟨off, rfl, hcs⟩
 · exact (back1_nil_in F n hf hro l Bs cap a J W hc' h0).mono fun e W' ⟨he, hj⟩ => ⟨he, .inl ⟨_, rfl, hj⟩⟩
 · exact back1_in F n hf hro hn l Bs b off len cap zs hreach J Jx hY W hc' hcs h0
end
section
open Go.RowKit Go.Shelf
attribute [local go_sem] Oper.semAt_some
theorem bar_ownFrom {β : Type} {r : Option Nat} {w : World} {B : Nat} (hB : w.heap.size ≤ B) : OwnFrom B (fun (_ : β) W => w.grownBy W r) :=
 fun _ W W' row h hg hr => h.andThen hg fun j e => .inl (Nat.le_trans hB (hr j e).1)
def ifV (p : TypeId × Value) : Value := .iface p.1 p.2
theorem pile_info : (Tryz.prog.info? 84).map (fun i => (i.zero, i.size, i.bytes)) = some (some .nilIface, 1, 16) := by kernel_rfl
theorem own_slice {W : World} {base : Nat} {e : TypeId} {size : Nat} {v : Value} {k : Nat} {xs : List Value} (h : W.ownsRow base e size v k xs) : ∃ a cap, v = .slice a k cap := by
 obtain ⟨hk, h | ⟨g, cap, cur, h, _⟩⟩ := h
 · exact ⟨none, 0, by rw [h.1]; simp_all⟩
 · exact ⟨_, _, h⟩
theorem pileUp_in (F : Fence) (n : Nat) (h31 : F.fn 31) (h48 : F.fn 48) (h73 : F.fn 73) (hro : F.round = none) (hn : 3 ≤ n)
   (base : Nat) (av : Option Addr) (k capv : Nat) (xs : List Value) (b : Nat) (a : Option Addr) (len cap : Nat) (zs : Nat → TypeId × Value) (hk : k + len ≤ 1000000) (w : World)
   (hown : w.ownsRow base 84 1 (.slice av k capv) k xs) (hb : b < w.heap.size) (hne : (Value.slice av k capv).ownBlock ≠ some b) (hI : PtsB b w a len zs) (hbase : base ≤ w.heap.size) :
   CallsIn F n Tryz.prog 31 #[.slice av k capv, .slice a len cap] w fun e w' => ∃ av' cap', e = .returned (.slice av' (k + len) cap') ∧
     w'.ownsRow base 84 1 (.slice av' (k + len) cap') (k + len) (xs ++ (bkL len zs len).map fun x => ifV x.2) ∧ w.grownBy w' (Value.slice av k capv).ownBlock := by
 have h1 : 1 ≤ n := by omega
 obtain ⟨i0, hi, hz0, hz1, hz2⟩ := info_parts pile_info
 refine callsIn_of_wp_marks Tryz.func31 rfl h31 ?_ hro
 simp only [Tryz.ntmps31, List.size_toArray, List.length_cons, List.length_nil, Nat.reduceAdd, Nat.reduceSub, Array.replicate_succ, Array.replicate_zero, List.push_toArray, List.append_toArray, List.nil_append, List.cons_append]
 gi_wp2_with (gi_at_call 48; refine (back_in F (n - 1) h48 hro _ _ _ _).mono ?_; rintro e w' ⟨rfl, rfl⟩)
 have bO := Boxed.new w 64 (.slice av k capv)
 have bN := Boxed.new (w.alloc (.cells #[.slice av k capv] 64)) 64 (.slice a len cap)
 rw [World.size_alloc] at bN
 have hB0 : Below w.heap.size w ((w.alloc (.cells #[.slice av k capv] 64)).alloc (.cells #[.slice a len cap] 64)) := ((Below.refl _ w).alloc (Nat.le_refl _) _).alloc (by simp) _
 refine wpIn_rangeFunc_ownG hro h1 (gf := 73) (lb := #[.pointer (some ⟨w.heap.size + 1, 0, none⟩)]) rfl h73 (enters_of Tryz.func73 (by kernel_rfl) rfl)
   (back_stops F (n - 1) h73 hro (by omega) (w.heap.size + 1) b a len cap zs (by omega) _ (by simp) (by simp; omega) bN.cell (hI.below hB0 hb)) KpB.trans (KpB.put (by simp; omega) (by simp)) (Below.refl _ _) (fun _ => rfl)
   (fun pre W => (∃ v, Boxed W w.heap.size 64 v ∧ W.ownsRow base 84 1 v (k + pre.length) (xs ++ pre.map fun x => ifV x.2) ∧ (v.ownBlock = (Value.slice av k capv).ownBlock ∨ ∀ x, v.ownBlock = some x → w.heap.size ≤ x)) ∧ Boxed W (w.heap.size + 1) 64 (.slice a len cap) ∧ w.grownBy W (Value.slice av k capv).ownBlock)
   (fun _ _ _ => False)
   (OwnFrom.and (Own.from (holdsRow_own base w.heap.size 64 84 1 (fun pre : List (Nat × TypeId × Value) => k + pre.length) (fun pre => xs ++ pre.map fun x => ifV x.2) (fun _ v => v.ownBlock = (Value.slice av k capv).ownBlock ∨ ∀ x, v.ownBlock = some x → w.heap.size ≤ x)) _) (OwnFrom.and (Own.from (boxed_own _ _ _) _) (bar_ownFrom (by simp; omega))))
   (fun _ _ _ _ _ hs _ _ => hs)
   ⟨⟨_, bO.alloc _, by simpa using (hown.alloc _).alloc _, .inl rfl⟩, bN, (World.grownBy_alloc w _ _).trans (World.grownBy_alloc _ _ _)⟩
   (fun x => { tmps := #[.slice av k capv, .slice a len cap, .pointer (some ⟨w.heap.size, 0, none⟩), undef, .slice none 0 0, undef, .iface x.2.1 x.2.2, .slice a len cap, .func (.func 73) #[] #[.pointer (some ⟨w.heap.size + 1, 0, none⟩)], .int .i64 (x.1 : Int), .iface x.2.1 x.2.2, undef, undef, undef, undef, undef], defers := [] }) ?assign ?body ?done ?stop
 case assign =>
   intro l x W K hK
   gi_wp2
   exact hK
 case body =>
   rintro l pre x W ⟨⟨v, hv, hrow, hnb⟩, hbn, hbar⟩ hlt
   have hc := hv.cell
   have hlw := hbar.size
   gi_wp2_with (gi_at_builtin; refine wpListIn_append_own_at _ rfl _ _ 64 rfl base 84 i0 Value.nilIface 1 16 Tryz.underlying64 hi hz0 hz1 hz2 rfl (by decide) _ _ _ rfl (hrow.alloc _) ⟨W.heap.size, 0, none⟩ 1 1 [Value.iface x.2.1 x.2.2] rfl rfl (cell_one_new _ _ _) (by simp [Value.oneCell']) (by unfold maxLen; omega) (by omega) (by simp; omega) ?_; intro v' w1 hown' hgrow _ hob; obtain ⟨g', cap2, rfl⟩ := ownsRow_succ hown'; obtain ⟨hv1, hv2, hr2, hk2, hb2⟩ := hv.appended (by decide) hrow (by omega) (by omega) hown' hgrow; have hc1 := hv1.cell; have hf1 := hv1.frozen)
   have hbn1 : Boxed w1 (w.heap.size + 1) 64 (.slice a len cap) := (hbn.alloc _).kept hgrow (hbn.not_row (by decide) hrow)
   have hbn2 := hbn1.other (B' := w.heap.size) (by omega) (.slice (some ⟨g', 0, none⟩) (k + pre.length + 1) cap2)
   have hvb : some b ≠ v.ownBlock := fun e => by
     rcases hnb with h | h
     · exact hne (h.symm.trans e.symm)
     · have := h b e.symm; omega
   have e1 : k + (pre ++ [x]).length = k + pre.length + 1 := by simp; omega
   have e2 : xs ++ (pre ++ [x]).map (fun x => ifV x.2) = (xs ++ pre.map fun x => ifV x.2) ++ [Value.iface x.2.1 x.2.2] := by simp [ifV]
   refine ⟨hk2.from _, ⟨?_, hbn2.trans hbn.symm⟩, ⟨_, hv2, by rw [e1, e2]; exact hr2, ?_⟩, hbn2, ?_⟩
   · exact (Below.heap_setCell _ _ _ b (by show b ≠ w.heap.size; omega)).trans ((hgrow.block b (by simp; omega) hvb).trans ((World.grownBy_alloc W _ none).block b (by omega) (by simp)))
   · rcases hob with h | h
     · rw [h]; exact hnb
     · refine .inr fun y e => ?_
       rw [h] at e; cases e; simp; omega
   · refine (hbar.andThen ((World.grownBy_alloc W _ _).trans hgrow) fun j e => ?_).andThen (grownBy_setCell' w1 w.heap.size _) fun j e => by cases e; exact .inl (Nat.le_refl _)
     rcases hnb with h | h
     · exact .inr (h.symm.trans e)
     · exact .inl (h j e)
 case done =>
   rintro D ys W hD rfl ⟨⟨v, hv, hrow, hnb⟩, hbn, hbar⟩ hK
   obtain ⟨av', cap', rfl⟩ := own_slice hrow
   have hc := hv.cell
   gi_wp2
   refine ⟨by simp, .inl ⟨_, _, rfl, run_takeDeferred hK, ?_⟩⟩
   rw [bkL_length] at hrow ⊢
   exact ⟨_, results_tmp rfl _ _ _, av', cap', rfl, ownsRow_putObj hrow _ hK rfl, hbar.andThen (grownBy_putObj' W D _) (fun j e => by cases e; simp at hD; exact .inl (by omega))⟩
 case stop =>
   rintro D c pre W _ _ h _
   exact h.elim
end
section
open Go.RowKit
def TxE (w : World) (b off : Nat) (s : ByteArray) : Prop := w.cell? ⟨b, off, none⟩ = some (.int .i64 3) ∧ w.cell? ⟨b, off + 2, none⟩ = some (.string s)
theorem TxE.below {w w' : World} {b off n : Nat} {s : ByteArray} (h : TxE w b off s) (hb : Below n w w') (hn : b < n) : TxE w' b off s :=
 ⟨(hb.cell (p := ⟨b, off, none⟩) hn).trans h.1, (hb.cell (p := ⟨b, off + 2, none⟩) hn).trans h.2⟩
theorem literal_text (w : World) (b off : Nat) (s q : ByteArray) (h : TxE w b off s) (hq : ∀ w, Calls Tryz.prog 127 #[.string s] w fun e w' => e = .returned (.string q) ∧ Below w.heap.size w w') :
   Calls Tryz.prog 82 #[.pointer (some ⟨b, off, none⟩)] w fun e w' => e = .returned (.string q) ∧ Below w.heap.size w w' := by
 obtain ⟨h0, h2⟩ := h
 have HQ := Lib.hid hq
 clear hq
 go_enter Tryz.func82, Tryz.ntmps82
 go_wp2_with (go_at_call 127; refine (HQ.out _).mono ?_; rintro e w1 ⟨rfl, hb⟩; have HB := Lib.hid hb; clear hb)
 all_goals (go_ret; exact ⟨rfl, HB.out⟩)
theorem exprAt_in (w : World) (a : Addr) (len cap i : Nat) (hi : i < len) :
   Calls Tryz.prog 85 #[.slice (some a) len cap, .int .i64 i] w fun e w' => e = .returned (.pointer (some (a.add (i * 8)))) ∧ Below w.heap.size w w' := by
 go_enter Tryz.func85, Tryz.ntmps85
 go_wp2_with fail
 go_ret
 exact ⟨rfl, Below.refl _ _⟩
theorem exprAt_o (w : World) (lb lo len cap i o : Nat) (hi : i < len) (ho : o = lo + i * 8) :
   Calls Tryz.prog 85 #[.slice (some ⟨lb, lo, none⟩) len cap, .int .i64 i] w fun e w' => e = .returned (.pointer (some ⟨lb, o, none⟩)) ∧ Below w.heap.size w w' := by
 subst ho
 refine (exprAt_in w ⟨lb, lo, none⟩ len cap i hi).mono ?_
 rintro e w' ⟨rfl, hb⟩
 refine ⟨?_, hb⟩
 by_cases h : i * 8 = 0 <;> simp [Addr.add, h]
theorem bracketed_no (w : World) (a : Option Addr) :
   Calls Tryz.prog 124 #[.pointer a, .bool false] w fun e w' => ∃ g, e = .returned (.slice (some ⟨g, 0, none⟩) 1 1) ∧ w.heap.size ≤ g ∧ Bx w' g #[.iface 58 (.pointer a)] 84 ∧ Below w.heap.size w w' := by
 go_enter Tryz.func124, Tryz.ntmps124
 go_wp2_with fail
 go_ret
 exact ⟨_, rfl, Nat.le_refl _, Bx.new _ _ _, (Below.refl _ _).alloc (Nat.le_refl _) _⟩
def OneP (a : Addr) (w : World) (e : Ending) (w' : World) : Prop := ∃ g, e = .returned (.slice (some ⟨g, 0, none⟩) 1 1) ∧ w.heap.size ≤ g ∧ Bx w' g #[.iface 58 (.pointer (some a))] 84 ∧ Below w.heap.size w w'
theorem operand_text (w : World) (b off lb lo len cap i o : Nat) (s : ByteArray) (h5 : w.cell? ⟨b, off + 5, none⟩ = some (.slice (some ⟨lb, lo, none⟩) len cap)) (hi : i < len) (ho : o = lo + i * 8) (hx : TxE w lb o s) (hlb : lb < w.heap.size) :
   Calls Tryz.prog 81 #[.pointer (some ⟨b, off, none⟩), .int .i64 i] w (OneP ⟨lb, o, none⟩ w) := by
 have HA := Lib.hid (exprAt_o w lb lo len cap i o hi ho)
 obtain ⟨hx0, _⟩ := hx
 clear hi ho
 go_enter Tryz.func81, Tryz.ntmps81
 go_wp2_with (first
   | (go_at_call 85; refine HA.out.mono ?_; clear HA; rintro e w1 ⟨rfl, hb⟩; have hc0 := (hb.cell (p := ⟨lb, o, none⟩) hlb).trans hx0; have HB := Lib.hid hb; clear hb)
   | (go_at_call 124; refine (bracketed_no _ _).mono ?_; rintro e w2 ⟨g, rfl, hg, hbx, hb2⟩; have HG := Lib.hid hg; have HX := Lib.hid hbx; have HB2 := Lib.hid hb2; clear hg hbx hb2))
 go_ret
 exact ⟨_, rfl, Nat.le_trans HB.out.size HG.out, HX.out, HB.out.trans (HB2.out.mono HB.out.size)⟩
theorem exprParts_text (w : World) (b off : Nat) (s q : ByteArray) (h : TxE w b off s) (hq : ∀ w, Calls Tryz.prog 127 #[.string s] w fun e w' => e = .returned (.string q) ∧ Below w.heap.size w w') :
   Calls Tryz.prog 51 #[.pointer (some ⟨b, off, none⟩)] w fun e w' => ∃ g, e = .returned (.slice (some ⟨g, 0, none⟩) 1 1) ∧ w.heap.size ≤ g ∧ Bx w' g #[.iface 9 (.string q)] 84 ∧ Below w.heap.size w w' := by
 have HL := Lib.hid (literal_text w b off s q h hq)
 obtain ⟨h0, _⟩ := h
 clear hq
 go_enter Tryz.func51, Tryz.ntmps51
 go_wp2_with (go_at_call 82; refine HL.out.mono ?_; clear HL; rintro e w1 ⟨rfl, hb⟩; have HB := Lib.hid hb; clear hb)
 all_goals (go_ret; exact ⟨_, rfl, HB.out.size, Bx.new _ _ _, HB.out.alloc HB.out.size _⟩)
end
section
open Go.RowKit
theorem part_info : (Tryz.prog.info? 84).map (fun i => (i.zero, i.size, i.bytes)) = some (some .nilIface, 1, 16) := by kernel_rfl
def GrowP (w : World) (e : Ending) (w' : World) : Prop := ∃ g cap, e = .returned (.slice (some ⟨g, 0, none⟩) 0 cap) ∧ w'.ownsRow w.heap.size 84 1 (.slice (some ⟨g, 0, none⟩) 0 cap) 0 [] ∧ Below w.heap.size w w'
theorem growP_any (w : World) (n : Nat) (hp : 0 < n) (hn : n ≤ 59) :
   Calls Tryz.prog 123 #[.slice none 0 0, .int .i64 n] w (GrowP w) := by
 obtain ⟨i0, hi, hz0, hz1, hz2⟩ := info_parts part_info
 have hrz : ∀ ty, (Builtin.append_ #[64, 3] ty #[.slice none 0 0, .int .i64 (n : Int)]).run Tryz.prog w =
     .ok (.slice (some ⟨w.heap.size, 0, none⟩) n (grownCap w n 0 84)) (w.drew.alloc (.cells (Builtin.zeroCells Value.nilIface.cells n ++ Builtin.zeroCells Value.nilIface.cells (grownCap w n 0 84 - n)) 84)) := fun ty => by
   have h := Lib.run_append_grow_zeros w 64 3 ty 84 i0 _ .i64 .i64 Tryz.underlying64 Tryz.underlying3 hi hz0 none 0 0 [] (run_firstCells_none _ _ _ _ _) n hp (by rw [hz1]; decide) (by omega) (by omega) (by rw [hz2]; omega) (growslice_fits (by omega) (by rw [hz2]; omega))
   simpa using h
 have hGn : n ≤ grownCap w n 0 84 := grownCap_ge w _ _ _
 have hG63 := grownCap_le_maxLen w n 0 84 (by unfold maxLen; omega)
 obtain ⟨G, hG⟩ : ∃ G, G = grownCap w n 0 84 := ⟨_, rfl⟩
 rw [← hG] at hGn hG63
 have hrz2 := hrz
 rw [← hG] at hrz2
 have hend : (w.drew.alloc (.cells (Builtin.zeroCells Value.nilIface.cells n ++ Builtin.zeroCells Value.nilIface.cells (G - n)) 84)).ownsRow w.heap.size 84 1 (.slice (some ⟨w.heap.size, 0, none⟩) 0 G) 0 [] := by
   refine ⟨rfl, .inr ⟨w.heap.size, G, _, rfl, Nat.le_refl _, heap_alloc_new w.drew _, by omega, hG63, ?_, ?_⟩⟩
   · simp only [Array.size_append, size_zeroCells]
     show n * 1 + (G - n) * 1 = G * 1
     omega
   · simp
 have hW : Below w.heap.size w (w.drew.alloc (.cells (Builtin.zeroCells Value.nilIface.cells n ++ Builtin.zeroCells Value.nilIface.cells (G - n)) 84)) := ((Below.refl _ _).drew).alloc (Nat.le_refl _) _
 obtain ⟨W2, hW2⟩ : ∃ W2, W2 = w.drew.alloc (.cells (Builtin.zeroCells Value.nilIface.cells n ++ Builtin.zeroCells Value.nilIface.cells (G - n)) 84) := ⟨_, rfl⟩
 rw [← hW2] at hend hrz2 hW
 have HE := Lib.hid hend
 have HW := Lib.hid hW
 have HR := Lib.hid hrz2
 unfold maxLen at hG63
 clear hW hW2 hend hrz hrz2 hG hz0 hz1 hz2 hi
 go_enter Tryz.func123, Tryz.ntmps123
 go_wp2_with (at_builtin; refine Lib.wpList_append_run _ rfl _ _ _ _ rfl _ _ rfl rfl _ _ (HR.out _) ?_)
 all_goals (go_ret; exact ⟨_, _, rfl, HE.out, HW.out⟩)
theorem bx_cells {w : World} {b : Nat} {cs : List Value} {T : TypeId} (h : Bx w b cs.toArray T) : ∀ (i : Nat) (u : Value), cs[i]? = some u → w.cell? ((⟨b, 0, none⟩ : Addr).add i) = some u := by
 intro i u hu
 have := h.cell i
 rw [List.getElem?_toArray] at this
 rw [show (⟨b, 0, none⟩ : Addr).add i = ⟨b, i, none⟩ from by by_cases hi : i = 0 <;> simp [Addr.add, hi], this, hu]
theorem own_succP {W : World} {base : Nat} {e : TypeId} {size : Nat} {v : Value} {k : Nat} {xs : List Value} (h : W.ownsRow base e size v (k + 1) xs) : ∃ g cap, v = .slice (some ⟨g, 0, none⟩) (k + 1) cap := by
 obtain ⟨hk, h | ⟨g, cap, cur, h, _⟩⟩ := h
 · exact absurd h.2 (by simp)
 · exact ⟨_, _, h⟩
theorem own_geP {W : World} {base g k cap : Nat} {e : TypeId} {size : Nat} {xs : List Value} (h : W.ownsRow base e size (.slice (some ⟨g, 0, none⟩) k cap) k xs) : base ≤ g := by
 obtain ⟨hk, h | ⟨g, cap, cur, h, hb, _⟩⟩ := h
 · simp at h
 · cases h; exact hb
def szN : Nat → Nat | 0 => 0 | 1 => 1 | 2 => 4 | _ => 5
def szP : Nat → Int | 0 => 0 | 1 => 1 | 2 => 4 | _ => 5
theorem concat3 (w : World) (S g0 g1 g2 : Nat) (p q0 q1 q2 r : Value) (hp : p.oneCell' = true) (hq0 : q0.oneCell' = true) (hq1 : q1.oneCell' = true) (hq2 : q2.oneCell' = true) (hr : r.oneCell' = true)
   (hS : Bx w S #[.slice (some ⟨g0, 0, none⟩) 1 1, .slice (some ⟨g1, 0, none⟩) 3 3, .slice (some ⟨g2, 0, none⟩) 1 1] 64) (h0 : Bx w g0 #[p] 84) (h1 : Bx w g1 #[q0, q1, q2] 84) (h2 : Bx w g2 #[r] 84) :
   Calls Tryz.prog 77 #[.slice (some ⟨S, 0, none⟩) 3 3] w fun e w' => ∃ g cap, e = .returned (.slice (some ⟨g, 0, none⟩) 5 cap) ∧ w'.ownsRow w.heap.size 84 1 (.slice (some ⟨g, 0, none⟩) 5 cap) 5 [p, q0, q1, q2, r] ∧ Below w.heap.size w w' := by
 have HG : Hid (Calls Tryz.prog 123 #[.slice none 0 0, .int .i64 5] w (GrowP w)) := Lib.hid (growP_any w 5 (by decide) (by decide))
 have HS := Lib.hid hS
 have H0 := Lib.hid h0
 have H1 := Lib.hid h1
 have H2 := Lib.hid h2
 have a0 : w.cell? ⟨S, 0, none⟩ = some (.slice (some ⟨g0, 0, none⟩) 1 1) := hS.cell 0
 have a1 : w.cell? ⟨S, 1, none⟩ = some (.slice (some ⟨g1, 0, none⟩) 3 3) := hS.cell 1
 have a2 : w.cell? ⟨S, 2, none⟩ = some (.slice (some ⟨g2, 0, none⟩) 1 1) := hS.cell 2
 clear hS h0 h1 h2
 go_enter Tryz.func77, Tryz.ntmps77
 go_wp2_with fail
 go_loopw [3, 5, 11] (fun v3 v5 v11 wr => wr = w ∧ ∃ j : Nat, j ≤ 3 ∧ v11 = .int .i64 j ∧ v3 = .int .i64 (szP j)) (fun _ _ v11 _ => 3 - (intOf v11).toNat)
 case atStart => exact ⟨rfl, 0, by decide, rfl, rfl⟩
 case round =>
   obtain ⟨hw, j, hj, rfl, rfl⟩ := hrel
   have hw2 := hw.symm
   clear hw
   subst hw2
   obtain rfl | rfl | rfl | rfl : j = 0 ∨ j = 1 ∨ j = 2 ∨ j = 3 := by omega
   · simp only [szP]
     go_wp2_with fail
     go_roundw
     case rel => exact ⟨trivial, 1, by decide, rfl, rfl⟩
     case measure => simp [intOf]
   · simp only [szP]
     go_wp2_with fail
     go_roundw
     case rel => exact ⟨trivial, 2, by decide, rfl, rfl⟩
     case measure => simp [intOf]
   · simp only [szP]
     go_wp2_with fail
     go_roundw
     case rel => exact ⟨trivial, 3, by decide, rfl, rfl⟩
     case measure => simp [intOf]
   · simp only [szP]
     go_wp2_with (go_at_call 123; refine HG.out.mono ?_; rintro e w1 ⟨g, cap, rfl, ho, hb⟩; have HO := Lib.hid ho; have HB := Lib.hid hb; clear ho hb)
     have HW : Hid (S < w.heap.size ∧ g0 < w.heap.size ∧ g1 < w.heap.size ∧ g2 < w.heap.size) := Lib.hid ⟨HS.out.lt, H0.out.lt, H1.out.lt, H2.out.lt⟩
     clear a0 a1 a2
     go_loopw [6, 8, 27] (fun v6 v8 v27 wr => ∃ j : Nat, j ≤ 3 ∧ v27 = .int .i64 j ∧ ∃ g cap, v6 = .slice (some ⟨g, 0, none⟩) (szN j) cap ∧ wr.ownsRow w.heap.size 84 1 (.slice (some ⟨g, 0, none⟩) (szN j) cap) (szN j) ([p, q0, q1, q2, r].take (szN j)) ∧ Below w.heap.size w wr) (fun _ _ v27 _ => 3 - (intOf v27).toNat)
     case atStart => exact ⟨0, by decide, rfl, _, _, rfl, HO.out, HB.out⟩
     case round =>
       obtain ⟨j, hj, rfl, g', cap', rfl, ho, hb⟩ := hrel
       obtain ⟨i0, hi, hz0, hz1, hz2⟩ := info_parts part_info
       obtain ⟨lS, l0, l1, l2⟩ := HW.out
       have hs2 := HS.out.below hb lS
       have k0 := H0.out.below hb l0
       have k1 := H1.out.below hb l1
       have k2 := H2.out.below hb l2
       have a0 : wr.cell? ⟨S, 0, none⟩ = some (.slice (some ⟨g0, 0, none⟩) 1 1) := hs2.cell 0
       have a1 : wr.cell? ⟨S, 1, none⟩ = some (.slice (some ⟨g1, 0, none⟩) 3 3) := hs2.cell 1
       have a2 : wr.cell? ⟨S, 2, none⟩ = some (.slice (some ⟨g2, 0, none⟩) 1 1) := hs2.cell 2
       obtain rfl | rfl | rfl | rfl : j = 0 ∨ j = 1 ∨ j = 2 ∨ j = 3 := by omega
       · simp only [szN] at ho ⊢
         go_wp2_with (at_builtin; refine wpList_append_own_at _ rfl (.tmp 31) (.tmp 32) 64 rfl w.heap.size 84 i0 _ 1 16 Tryz.underlying64 hi hz0 hz1 hz2 rfl (by decide) (.slice (some ⟨g', 0, none⟩) 0 cap') 0 [] rfl ho ⟨g0, 0, none⟩ 1 1 [p] rfl rfl (bx_cells (cs := [p]) k0) ?c1 ?c2 ?c3 ?c4 ?_)
         case c1 => intro u hu; simp at hu; rcases hu with rfl <;> assumption
         case c2 => unfold maxLen; omega
         case c3 => omega
         case c4 => exact hb.size
         intro v' w3 hown3 hgrow _ hat
         obtain ⟨g4, cap4, rfl⟩ := own_succP (k := 0) hown3
         have hb3 := hb.grown hgrow hb.size (fun k e => by cases e; exact own_geP ho)
         clear hgrow hat ho hb
         go_wp2_with fail
         go_roundw
         case rel => exact ⟨1, by decide, rfl, g4, cap4, rfl, hown3, hb3⟩
         case measure => simp [intOf]
       · simp only [szN] at ho ⊢
         go_wp2_with (at_builtin; refine wpList_append_own_at _ rfl (.tmp 31) (.tmp 32) 64 rfl w.heap.size 84 i0 _ 1 16 Tryz.underlying64 hi hz0 hz1 hz2 rfl (by decide) (.slice (some ⟨g', 0, none⟩) 1 cap') 1 [p] rfl ho ⟨g1, 0, none⟩ 3 3 [q0, q1, q2] rfl rfl (bx_cells (cs := [q0, q1, q2]) k1) ?c1 ?c2 ?c3 ?c4 ?_)
         case c1 => intro u hu; simp at hu; rcases hu with rfl | rfl | rfl <;> assumption
         case c2 => unfold maxLen; omega
         case c3 => omega
         case c4 => exact hb.size
         intro v' w3 hown3 hgrow _ hat
         obtain ⟨g4, cap4, rfl⟩ := own_succP (k := 3) hown3
         have hb3 := hb.grown hgrow hb.size (fun k e => by cases e; exact own_geP ho)
         clear hgrow hat ho hb
         go_wp2_with fail
         go_roundw
         case rel => exact ⟨2, by decide, rfl, g4, cap4, rfl, hown3, hb3⟩
         case measure => simp [intOf]
       · simp only [szN] at ho ⊢
         go_wp2_with (at_builtin; refine wpList_append_own_at _ rfl (.tmp 31) (.tmp 32) 64 rfl w.heap.size 84 i0 _ 1 16 Tryz.underlying64 hi hz0 hz1 hz2 rfl (by decide) (.slice (some ⟨g', 0, none⟩) 4 cap') 4 [p, q0, q1, q2] rfl ho ⟨g2, 0, none⟩ 1 1 [r] rfl rfl (bx_cells (cs := [r]) k2) ?c1 ?c2 ?c3 ?c4 ?_)
         case c1 => intro u hu; simp at hu; rcases hu with rfl <;> assumption
         case c2 => unfold maxLen; omega
         case c3 => omega
         case c4 => exact hb.size
         intro v' w3 hown3 hgrow _ hat
         obtain ⟨g4, cap4, rfl⟩ := own_succP (k := 4) hown3
         have hb3 := hb.grown hgrow hb.size (fun k e => by cases e; exact own_geP ho)
         clear hgrow hat ho hb
         go_wp2_with fail
         go_roundw
         case rel => exact ⟨3, by decide, rfl, g4, cap4, rfl, hown3, hb3⟩
         case measure => simp [intOf]
       · simp only [szN] at ho ⊢
         go_wp2_with fail
         go_ret
         exact ⟨g', cap', rfl, ho, hb⟩
end
section
open Go.RowKit
theorem own_lowP {W : World} {B B' : Nat} {e : TypeId} {size : Nat} {v : Value} {k : Nat} {xs : List Value} (h : W.ownsRow B e size v k xs) (hB : B' ≤ B) : W.ownsRow B' e size v k xs := by
 obtain ⟨hk, h | ⟨g, cap, cur, e1, hb, r⟩⟩ := h
 · exact ⟨hk, .inl h⟩
 · exact ⟨hk, .inr ⟨g, cap, cur, e1, Nat.le_trans hB hb, r⟩⟩
structure TwoE (w : World) (b off lb lo : Nat) (nm s t : ByteArray) : Prop where
 kind : w.cell? ⟨b, off, none⟩ = some (.int .i64 17)
 name : w.cell? ⟨b, off + 3, none⟩ = some (.string nm)
 row : ∃ cap, w.cell? ⟨b, off + 5, none⟩ = some (.slice (some ⟨lb, lo, none⟩) 2 cap)
 one : TxE w lb lo s
 two : TxE w lb (lo + 8) t
 bl : b < w.heap.size
 lbl : lb < w.heap.size
theorem TwoE.next {w w' : World} {b off lb lo : Nat} {nm s t : ByteArray} (h : TwoE w b off lb lo nm s t) (hb : Below w.heap.size w w') : TwoE w' b off lb lo nm s t := by
 obtain ⟨k, n, ⟨cap, r⟩, o1, o2, hbl, hll⟩ := h
 exact ⟨(hb.cell (p := ⟨b, off, none⟩) hbl).trans k, (hb.cell (p := ⟨b, off + 3, none⟩) hbl).trans n, ⟨cap, (hb.cell (p := ⟨b, off + 5, none⟩) hbl).trans r⟩, o1.below hb hll, o2.below hb hll, Nat.lt_of_lt_of_le hbl hb.size, Nat.lt_of_lt_of_le hll hb.size⟩
theorem TwoE.operand {w : World} {b off lb lo : Nat} {nm s t : ByteArray} (h : TwoE w b off lb lo nm s t) (i : Nat) (hi : i < 2) :
   Calls Tryz.prog 81 #[.pointer (some ⟨b, off, none⟩), .int .i64 i] w (OneP ⟨lb, if i = 0 then lo else lo + 8, none⟩ w) := by
 obtain ⟨k, n, ⟨cap, r⟩, o1, o2, hbl, hll⟩ := h
 rcases (by omega : i = 0 ∨ i = 1) with rfl | rfl
 · exact operand_text w b off lb lo 2 cap 0 lo s r (by decide) (by omega) o1 hll
 · exact operand_text w b off lb lo 2 cap 1 (lo + 8) t r (by decide) (by omega) o2 hll
end
section
open Go.RowKit
inductive ItS where
 | str (t : ByteArray)
 | one (i : Bool)
 | two
def wtS : ItS → Nat | .str _ => 1 | .one _ => 2 | .two => 8
def valS (b off lb lo : Nat) : ItS → TypeId × Value
 | .str t => (9, .string t)
 | .one i => (58, .pointer (some ⟨lb, if i then lo + 8 else lo, none⟩))
 | .two => (58, .pointer (some ⟨b, off, none⟩))
def denS (nm s t : ByteArray) : ItS → List UInt8
 | .str u => u.data.toList
 | .one i => quote (if i then t else s)
 | .two => quote s ++ ([32] ++ (nm.data.toList ++ ([32] ++ quote t)))
def kidsS (nm s t : ByteArray) : ItS → List ItS
 | .str _ => []
 | .one i => [.str ⟨(quote (if i then t else s)).toArray⟩]
 | .two => [.one false, .str ⟨#[32]⟩, .str nm, .str ⟨#[32]⟩, .one true]
def weighS (l : List ItS) : Nat := (l.map wtS).sum
def tellS (nm s t : ByteArray) (l : List ItS) : List UInt8 := l.reverse.flatMap (denS nm s t)
theorem tellS_push (nm s t : ByteArray) (l : List ItS) (x : ItS) : tellS nm s t (l ++ [x]) = denS nm s t x ++ tellS nm s t l := by simp [tellS]
theorem tellS_more (nm s t : ByteArray) (l m : List ItS) : tellS nm s t (l ++ m) = tellS nm s t m ++ tellS nm s t l := by simp [tellS]
theorem tellS_kids (nm s t : ByteArray) (x : ItS) (hx : ∀ u, x ≠ .str u) : tellS nm s t (kidsS nm s t x).reverse = denS nm s t x := by
 cases x with
 | str u => exact absurd rfl (hx u)
 | one i => simp [tellS, kidsS, denS]
 | two => simp [tellS, kidsS, denS]
theorem weighS_push (l : List ItS) (x : ItS) : weighS (l ++ [x]) = weighS l + wtS x := by simp [weighS]
theorem weighS_kids (nm s t : ByteArray) (l : List ItS) (x : ItS) (hx : ∀ u, x ≠ .str u) : weighS (l ++ (kidsS nm s t x).reverse) < weighS (l ++ [x]) := by
 cases x with
 | str u => exact absurd rfl (hx u)
 | one i => simp [weighS, kidsS, wtS]
 | two => simp [weighS, kidsS, wtS]
theorem wt_pos (x : ItS) : 1 ≤ wtS x := by cases x <;> simp [wtS]
theorem len_weighS (l : List ItS) : l.length ≤ weighS l := by
 induction l with
 | nil => simp [weighS]
 | cons x l ih => have := wt_pos x; simp only [weighS, List.map_cons, List.sum_cons, List.length_cons] at ih ⊢; omega
def PileS (b off lb lo B : Nat) (v : Value) (l : List ItS) (w : World) : Prop := w.ownsRow B 84 1 v l.length (l.map fun x => ifV (valS b off lb lo x))
theorem part_ne_byte : (84 : Nat) ≠ 5 := by decide
theorem part_ne_bld : (84 : Nat) ≠ 82 := by decide
theorem Bld.pile {B b : Nat} {l : List UInt8} {w w' : World} {base k : Nat} {v : Value} {xs : List Value} (h : Bld B b l w) (hp : w.ownsRow base 84 1 v k xs) (hg : w.grownBy w' v.ownBlock) : Bld B b l w' := by
 have key : ∀ p, Lib.BuilderAtF 82 5 B b p (Lib.byteCells l) w → Lib.BuilderAtF 82 5 B b p (Lib.byteCells l) w' := by
   rintro p ⟨hB, bv, hb, hown, hne⟩
   have hlt : b < w.heap.size := (Array.getElem?_eq_some_iff.1 hb).1
   have h1 : some b ≠ v.ownBlock := by
     rcases hp.2 with ⟨rfl, _⟩ | ⟨g, cap, cur, rfl, _, hgc, _⟩
     · simp [Value.ownBlock]
     · intro e
       simp only [Value.ownBlock, Option.some.injEq] at e
       subst e
       rw [hgc] at hb
       simp only [Option.some.injEq, Obj.cells.injEq] at hb
       exact absurd hb.2.1 part_ne_bld
   have h2 : bv.ownBlock = none ∨ bv.ownBlock ≠ v.ownBlock := by
     rcases hown.2 with ⟨rfl, _⟩ | ⟨g2, cap2, cur2, fz, rfl, _, hg2, _⟩
     · exact .inl rfl
     · refine .inr fun e => ?_
       rcases hp.2 with ⟨rfl, _⟩ | ⟨g, cap, cur, rfl, _, hgc, _⟩
       · simp [Value.ownBlock] at e
       · simp only [Value.ownBlock, Option.some.injEq] at e
         subst e
         rw [hgc] at hg2
         simp only [Option.some.injEq, Obj.cells.injEq] at hg2
         exact absurd hg2.2.1 part_ne_byte
   exact ⟨hB, bv, (hg.block b hlt h1).trans hb, hown.kept hg h2, hne⟩
 exact h.elim (fun x => .inl (key _ x)) (fun x => .inr (key _ x))
theorem Bld.below {B b : Nat} {l : List UInt8} {w w' : World} (h : Bld B b l w) (hb : Below w.heap.size w w') : Bld B b l w' := by
 have key : ∀ p, Lib.BuilderAtF 82 5 B b p (Lib.byteCells l) w → Lib.BuilderAtF 82 5 B b p (Lib.byteCells l) w' := by
   rintro p ⟨hB, bv, hb1, hown, hne⟩
   have hlt : b < w.heap.size := (Array.getElem?_eq_some_iff.1 hb1).1
   exact ⟨hB, bv, (hb.block b hlt).trans hb1, hown.kept (row := none) ⟨hb.os, hb.tape, hb.output, hb.size, fun k hk _ => hb.block k hk⟩ (Classical.em _), hne⟩
 exact h.elim (fun x => .inl (key _ x)) (fun x => .inr (key _ x))
theorem Bld.at {B b : Nat} {l : List UInt8} {w : World} (h : Bld B b l w) : ∃ cs fz, w.heap[b]? = some (.cells cs 82 fz) := by
 rcases h with ⟨_, v, hb, _⟩ | ⟨_, v, hb, _⟩ <;> exact ⟨_, _, hb⟩
theorem PileS.kept {b off lb lo B c : Nat} {v : Value} {l : List ItS} {w w' : World} {cs : Array Value} {fz : Nat × Nat} (h : PileS b off lb lo B v l w) (hc : w.heap[c]? = some (.cells cs 82 fz)) (hk : Lib.OthersKept 5 (some c) w w') : PileS b off lb lo B v l w' := by
 obtain ⟨h1, h2⟩ := h
 refine ⟨h1, ?_⟩
 rcases h2 with h2 | ⟨g, cap, cur, e1, hb, hg, r⟩
 · exact .inl h2
 · refine .inr ⟨g, cap, cur, e1, hb, hk g _ hg ?_ ?_, r⟩
   · intro e
     simp only [Option.some.injEq] at e
     subst e
     rw [hg] at hc
     simp only [Option.some.injEq, Obj.cells.injEq] at hc
     exact part_ne_bld hc.2.1
   · intro c fz e
     simp only [Obj.cells.injEq] at e
     exact part_ne_byte e.2.1
theorem PileS.below {b off lb lo B : Nat} {v : Value} {l : List ItS} {w w' : World} (h : PileS b off lb lo B v l w) (hb : Below w.heap.size w w') : PileS b off lb lo B v l w' := by
 obtain ⟨h1, h2⟩ := h
 refine ⟨h1, ?_⟩
 rcases h2 with h2 | ⟨g, cap, cur, e1, hB, hg, r⟩
 · exact .inl h2
 · exact .inr ⟨g, cap, cur, e1, hB, (hb.block g (Array.getElem?_eq_some_iff.1 hg).1).trans hg, r⟩
theorem PileS.pop {b off lb lo B : Nat} {v : Value} {l : List ItS} {x : ItS} {w : World} (h : PileS b off lb lo B v (l ++ [x]) w) :
   ∃ g cap : Nat, v = .slice (some ⟨g, 0, none⟩) (l.length + 1 : Nat) cap ∧ l.length + 1 ≤ cap ∧ (cap : Int) ≤ 9223372036854775807 ∧ B ≤ g ∧ g < w.heap.size ∧ w.cell? ⟨g, l.length, none⟩ = some (ifV (valS b off lb lo x)) ∧ PileS b off lb lo B (.slice (some ⟨g, 0, none⟩) (l.length : Nat) cap) l w := by
 obtain ⟨h1, h2⟩ := h
 rcases h2 with ⟨_, h2⟩ | ⟨g, cap, cur, e1, hB, hg, hc, hm, hz, ht⟩
 · simp at h2
 · have hlt : g < w.heap.size := (Array.getElem?_eq_some_iff.1 hg).1
   simp only [List.length_append, List.length_cons, List.length_nil, Nat.zero_add, Nat.mul_one, List.map_append, List.map_cons, List.map_nil] at e1 hc ht h1
   have hm2 : (cap : Int) ≤ 9223372036854775807 := by unfold maxLen at hm; omega
   have hx : cur[l.length]? = some (ifV (valS b off lb lo x)) := by
     rw [← Array.getElem?_toList]
     have : (cur.toList.take (l.length + 1))[l.length]? = some (ifV (valS b off lb lo x)) := by rw [ht]; simp
     rw [List.getElem?_take_of_lt (by omega)] at this
     exact this
   refine ⟨g, cap, e1, hc, hm2, hB, hlt, ?_, ⟨by simp, .inr ⟨g, cap, cur, rfl, hB, hg, by omega, hm, hz, ?_⟩⟩⟩
   · rw [cell_of_row w g l.length _ _ _ hg, hx]
   · rw [Nat.mul_one]
     have : (cur.toList.take (l.length + 1)).take l.length = (l.map fun x => ifV (valS b off lb lo x)) := by rw [ht]; simp
     rw [List.take_take, Nat.min_eq_left (by omega)] at this
     exact this
end
section
open Go.RowKit
theorem Bx.upS {w : World} {b : Nat} {cs : Array Value} {T : TypeId} (o : Obj) (h : Bx w b cs T) : Bx (w.alloc o) b cs T := h.next ((Below.refl _ _).alloc (Nat.le_refl _) _)
theorem Bx.atS {w : World} {b : Nat} {cs : Array Value} {T : TypeId} (hb : b = w.heap.size) : Bx (w.alloc (.cells cs T)) b cs T := by subst hb; exact Bx.new _ _ _
theorem Bx.drS {w : World} {b : Nat} {cs : Array Value} {T : TypeId} (h : Bx w b cs T) : Bx w.drew b cs T := h
def FiveP (w : World) (p q0 q1 q2 r : Value) (e : Ending) (w' : World) : Prop := ∃ g cap, e = .returned (.slice (some ⟨g, 0, none⟩) 5 cap) ∧ w'.ownsRow w.heap.size 84 1 (.slice (some ⟨g, 0, none⟩) 5 cap) 5 [p, q0, q1, q2, r] ∧ Below w.heap.size w w'
theorem exprParts_two (w : World) (b off lb lo : Nat) (nm s t : ByteArray) (h : TwoE w b off lb lo nm s t) :
   Calls Tryz.prog 51 #[.pointer (some ⟨b, off, none⟩)] w (FiveP w (.iface 58 (.pointer (some ⟨lb, lo, none⟩))) (.iface 9 (.string ⟨#[32]⟩)) (.iface 9 (.string nm)) (.iface 9 (.string ⟨#[32]⟩)) (.iface 58 (.pointer (some ⟨lb, lo + 8, none⟩)))) := by
 have h0 := h.kind
 have h3 := h.name
 have h3b := h.bl
 have HPA : Hid (∀ w1, Below w.heap.size w w1 → Calls Tryz.prog 81 #[.pointer (some ⟨b, off, none⟩), .int .i64 0] w1 fun e w' => ∃ g, e = .returned (.slice (some ⟨g, 0, none⟩) 1 1) ∧ w1.heap.size ≤ g ∧ Bx w' g #[.iface 58 (.pointer (some ⟨lb, lo, none⟩))] 84 ∧ Below w1.heap.size w1 w' ∧ Below w.heap.size w w' ∧ w'.cell? ⟨b, off + 3, none⟩ = some (.string nm)) := Lib.hid fun w1 hb => ((h.next hb).operand 0 (by decide)).mono fun e w' ⟨g, e1, hg, hx, hb1⟩ => ⟨g, e1, hg, hx, hb1, hb.trans (hb1.mono hb.size), ((h.next hb).next hb1).name⟩
 have HPC : Hid (∀ w1, Below w.heap.size w w1 → Calls Tryz.prog 81 #[.pointer (some ⟨b, off, none⟩), .int .i64 1] w1 fun e w' => ∃ g, e = .returned (.slice (some ⟨g, 0, none⟩) 1 1) ∧ w1.heap.size ≤ g ∧ Bx w' g #[.iface 58 (.pointer (some ⟨lb, lo + 8, none⟩))] 84 ∧ Below w1.heap.size w1 w' ∧ Below w.heap.size w w' ∧ w'.cell? ⟨b, off + 3, none⟩ = some (.string nm)) := Lib.hid fun w1 hb => ((h.next hb).operand 1 (by decide)).mono fun e w' ⟨g, e1, hg, hx, hb1⟩ => ⟨g, e1, hg, hx, hb1, hb.trans (hb1.mono hb.size), ((h.next hb).next hb1).name⟩
 clear h
 have hb0 : Below w.heap.size w w := Below.refl _ _
 go_enter Tryz.func51, Tryz.ntmps51
 go_wp2_with fail
 go_region_with (first
   | (go_at_call 81; refine (HPA.out _ (by first | exact hb0 | exact hb0.drew | exact hb0.alloc hb0.size _ | exact hb0.drew.alloc hb0.size _)).mono ?_; clear HPA hb0; rintro e w1 ⟨ga, rfl, hga, hxa, hba, hb0, h3a⟩; have HGA := Lib.hid hga; have HXA := Lib.hid hxa; have HBA := Lib.hid hba; clear hga hxa hba)
   | (go_at_call 81; refine (HPC.out _ (by first | exact hb0 | exact hb0.drew | exact hb0.alloc hb0.size _ | exact hb0.drew.alloc hb0.size _)).mono ?_; clear HPC hb0; rintro e w2 ⟨gc, rfl, hgc, hxc, hbc, hb0, h3c⟩; have HGC := Lib.hid hgc; have HXC := Lib.hid hxc; have HBC := Lib.hid hbc; clear hgc hxc hbc)
   | (go_at_call 77; refine (concat3 _ _ _ _ _ (.iface 58 (.pointer (some ⟨lb, lo, none⟩))) (.iface 9 (.string ⟨#[32]⟩)) (.iface 9 (.string nm)) (.iface 9 (.string ⟨#[32]⟩)) (.iface 58 (.pointer (some ⟨lb, lo + 8, none⟩))) rfl rfl rfl rfl rfl (Bx.atS (by simp)) (by repeat' (first | with_reducible exact HXA.out | with_reducible exact HXC.out | with_reducible exact Bx.atS (by simp) | with_reducible refine Bx.upS _ ?_ | with_reducible refine Bx.drS ?_ | with_reducible refine Bx.next ?_ HBC.out | with_reducible refine Bx.next ?_ HBA.out)) (by repeat' (first | with_reducible exact HXA.out | with_reducible exact HXC.out | with_reducible exact Bx.atS (by simp) | with_reducible refine Bx.upS _ ?_ | with_reducible refine Bx.drS ?_ | with_reducible refine Bx.next ?_ HBC.out | with_reducible refine Bx.next ?_ HBA.out)) (by repeat' (first | with_reducible exact HXA.out | with_reducible exact HXC.out | with_reducible exact Bx.atS (by simp) | with_reducible refine Bx.upS _ ?_ | with_reducible refine Bx.drS ?_ | with_reducible refine Bx.next ?_ HBC.out | with_reducible refine Bx.next ?_ HBA.out))).mono ?_; rintro e w3 ⟨g, cap, rfl, ho, hb3⟩; have HO := Lib.hid ho; have HB3 := Lib.hid hb3; clear ho hb3))
 all_goals
   go_wp2_with fail
   go_ret
   have hz0 := hb0.size
   exact ⟨_, _, rfl, own_lowP HO.out (by simp; omega), (by first | exact (hb0.alloc hz0 _).trans (HB3.out.mono (by simp; omega)) | exact ((hb0.alloc hz0 _).alloc (by simp; omega) _).trans (HB3.out.mono (by simp; omega)))⟩
end
section
open Go.RowKit
@[go_sem] theorem is_ex_mg (v : Value) (w : World) : (Instr.typeAssert (.iface 58 v) 84 115 true).run Tryz.prog w = .ok (.tuple #[.int .i64 0, .bool false]) w := by kernel_rfl
@[go_sem] theorem is_ex_ex (v : Value) (w : World) : (Instr.typeAssert (.iface 58 v) 84 58 true).run Tryz.prog w = .ok (.tuple #[v, .bool true]) w := by kernel_rfl
@[go_sem] theorem is_ex_st (v : Value) (w : World) : (Instr.typeAssert (.iface 58 v) 84 9 true).run Tryz.prog w = .ok (.tuple #[.string ⟨#[]⟩, .bool false]) w := by kernel_rfl
@[go_sem] theorem is_st_st (v : Value) (w : World) : (Instr.typeAssert (.iface 9 v) 84 9 true).run Tryz.prog w = .ok (.tuple #[v, .bool true]) w := by kernel_rfl
def MadeS (b off lb lo : Nat) (l : List ItS) (w : World) (e : Ending) (w' : World) : Prop :=
 ∃ g cap, e = .returned (.slice (some ⟨g, 0, none⟩) (l.length : Nat) cap) ∧ w.heap.size ≤ g ∧ g < w'.heap.size ∧ (∀ j x, l[j]? = some x → w'.cell? ⟨g, j, none⟩ = some (ifV (valS b off lb lo x))) ∧ Below w.heap.size w w'
theorem own_cellS {W : World} {B : Nat} {g k cap : Nat} {xs : List Value} (h : W.ownsRow B 84 1 (.slice (some ⟨g, 0, none⟩) k cap) k xs) : B ≤ g ∧ g < W.heap.size ∧ ∀ j u, xs[j]? = some u → W.cell? ⟨g, j, none⟩ = some u := by
 obtain ⟨hk, h | ⟨g', cap', cur, e1, hb, hg, _, _, hz, ht⟩⟩ := h
 · simp at h
 · simp only [Value.slice.injEq, Option.some.injEq, Addr.mk.injEq] at e1
   obtain ⟨⟨rfl, _⟩, _⟩ := e1
   refine ⟨hb, (Array.getElem?_eq_some_iff.1 hg).1, fun j u hu => ?_⟩
   have hj : j < k * 1 := by rw [← hk]; exact (List.getElem?_eq_some_iff.1 hu).1
   rw [cell_of_row W g j _ _ _ hg, ← Array.getElem?_toList]
   rw [← ht, List.getElem?_take_of_lt hj] at hu
   exact hu
theorem within_expr (w : World) (a : Addr) (Q : Ending → World → Prop) (h : Calls Tryz.prog 51 #[.pointer (some a)] w Q) (hQ : ∀ e w', Q e w' → ∃ v, e = .returned v) :
   Calls Tryz.prog 33 #[.iface 58 (.pointer (some a))] w Q := by
 have HH := Lib.hid h
 have HQ := Lib.hid hQ
 clear h hQ
 go_enter Tryz.func33, Tryz.ntmps33
 go_wp2_with (go_at_call 51; refine HH.out.mono ?_; intro e w1 hq; obtain ⟨v, rfl⟩ := HQ.out _ _ hq; have HP := Lib.hid hq; clear hq HH HQ)
 exact HP.out
theorem within_one (w : World) (b off lb lo : Nat) (nm s t q : ByteArray) (i : Bool) (h : TwoE w b off lb lo nm s t) (hqs : q = ⟨(quote (if i then t else s)).toArray⟩) (hq : ∀ w, Calls Tryz.prog 127 #[.string (if i then t else s)] w fun e w' => e = .returned (.string q) ∧ Below w.heap.size w w') :
   Calls Tryz.prog 33 #[ifV (valS b off lb lo (.one i))] w (MadeS b off lb lo (kidsS nm s t (.one i)) w) := by
 have h1 : TxE w lb (if i then lo + 8 else lo) (if i then t else s) := by cases i; exact h.one; exact h.two
 refine within_expr w _ _ ((exprParts_text w lb _ _ q h1 hq).mono ?_) (fun e w' ⟨g, cap, h, _⟩ => ⟨_, h⟩)
 rintro e w' ⟨g, rfl, hg, hx, hb⟩
 refine ⟨g, 1, rfl, hg, hx.lt, ?_, hb⟩
 intro j x hj
 rcases j with _ | j
 · simp [kidsS] at hj
   subst hj
   rw [hx.cell]
   subst hqs
   rfl
 · simp [kidsS] at hj
theorem within_two (w : World) (b off lb lo : Nat) (nm s t : ByteArray) (h : TwoE w b off lb lo nm s t) :
   Calls Tryz.prog 33 #[ifV (valS b off lb lo .two)] w (MadeS b off lb lo (kidsS nm s t .two) w) := by
 refine within_expr w _ _ ((exprParts_two w b off lb lo nm s t h).mono ?_) (fun e w' ⟨g, cap, h, _⟩ => ⟨_, h⟩)
 rintro e w' ⟨g, cap, rfl, ho, hb⟩
 obtain ⟨hg, hlt, hc⟩ := own_cellS ho
 refine ⟨g, cap, rfl, hg, hlt, ?_, hb⟩
 intro j x hj
 apply hc
 rcases j with _ | _ | _ | _ | _ | j
 all_goals (simp only [kidsS, List.getElem?_cons_zero, List.getElem?_cons_succ, Option.some.injEq] at hj)
 all_goals first | (subst hj; rfl) | simp at hj
end
section
open Go.RowKit
theorem list_endS {α : Type} (l : List α) : l = [] ∨ ∃ a x, l = a ++ [x] := by
 rcases List.eq_nil_or_concat l with h | ⟨a, x, h⟩
 · exact .inl h
 · exact .inr ⟨a, x, by simpa using h⟩
theorem bk_rev (b off lb lo : Nat) (m : List ItS) (zs : Nat → TypeId × Value) (hz : ∀ j x, m[j]? = some x → zs j = valS b off lb lo x) :
   ((bkL m.length zs m.length).map fun x => ifV x.2) = m.reverse.map fun x => ifV (valS b off lb lo x) := by
 apply List.ext_getElem
 · simp [bkL]
 · intro i h1 h2
   simp only [bkL, List.length_map, List.length_range, List.length_reverse] at h1 h2
   simp only [bkL, List.getElem_map, List.getElem_range, List.getElem_reverse]
   rw [hz (m.length - 1 - i) (m[m.length - 1 - i]'(by omega)) (List.getElem?_eq_getElem (by omega))]
theorem pileUp_s {b off lb lo B : Nat} {v : Value} {l m : List ItS} {w : World} {g cap : Nat} (hp : PileS b off lb lo B v l w) (hB : B ≤ w.heap.size) (hg : g < w.heap.size) (hne : v.ownBlock ≠ some g) (hc : ∀ j x, m[j]? = some x → w.cell? ⟨g, j, none⟩ = some (ifV (valS b off lb lo x))) (hk : l.length + m.length ≤ 1000) :
   Calls Tryz.prog 31 #[v, .slice (some ⟨g, 0, none⟩) (m.length : Nat) cap] w fun e w' => ∃ v', e = .returned v' ∧ PileS b off lb lo B v' (l ++ m.reverse) w' ∧ w.grownBy w' v.ownBlock := by
 obtain ⟨av, capv, rfl⟩ := own_slice hp
 have h := callsIn_wide.1 (pileUp_in Fence.wide 3 trivial trivial trivial rfl (Nat.le_refl _) B av l.length capv _ g (some ⟨g, 0, none⟩) m.length cap (fun j => (m[j]?).elim (9, .string ⟨#[]⟩) (valS b off lb lo)) (by omega) w hp hg hne (.inr ⟨0, rfl, fun j hj => by
   rw [Nat.zero_add, hc j _ (List.getElem?_eq_getElem hj)]; simp only [List.getElem?_eq_getElem hj]; rfl⟩) hB)
 refine h.mono ?_
 rintro e w' ⟨av', cap', rfl, ho, hgr⟩
 refine ⟨_, rfl, ?_, hgr⟩
 rw [bk_rev b off lb lo m _ (fun j x hx => by simp [hx])] at ho
 unfold PileS
 rw [List.length_append, List.length_reverse, List.map_append]
 exact ho
theorem wstrS (B b : Nat) (l : List UInt8) (s : ByteArray) (w : World) (h : Bld B b l w) (hl : l.length + s.size ≤ 70368744177664) (hBw : B ≤ w.heap.size) :
   Calls Tryz.prog 32 #[.pointer (some ⟨b, 0, none⟩), .string s] w fun e w' => (∃ n : Nat, e = .returned (.tuple #[.int .i64 n, .nilIface])) ∧ Bld B b (l ++ s.data.toList) w' ∧ Below B w w' ∧ Lib.OthersKept 5 (some b) w w' := by
 refine (Tryz.Builder_WriteString_k B b _ s w h (by rw [Lib.byteCells_length]; omega) hBw).mono ?_
 rintro e w' ⟨rfl, h1, b1, k1⟩
 refine ⟨⟨_, rfl⟩, ?_, b1, k1⟩
 unfold Bld
 have e1 : Lib.byteCells (l ++ s.data.toList) = Lib.byteCells l ++ Lib.strCells s := by rw [Lib.byteCells_append]; rfl
 rw [e1]
 exact Or.inr h1
structure TxtS (w : World) (b off lb lo : Nat) (nm s t : ByteArray) (tot : List UInt8) (l : List ItS) (v : Value) (wr : World) : Prop where
 pile : PileS b off lb lo w.heap.size v l wr
 bld : ∃ acc, Bld w.heap.size w.heap.size acc wr ∧ acc ++ tellS nm s t l = tot
 bel : Below w.heap.size w wr
 wt : weighS l ≤ 8
theorem own_ltS {b off lb lo B : Nat} {v : Value} {l : List ItS} {w : World} (h : PileS b off lb lo B v l w) : ∀ k, v.ownBlock = some k → B ≤ k ∧ k < w.heap.size := by
 intro k hk
 rcases h.2 with ⟨rfl, _⟩ | ⟨g, cap, cur, rfl, hb, hg, _⟩
 · simp [Value.ownBlock] at hk
 · simp only [Value.ownBlock, Option.some.injEq] at hk
   subst hk
   exact ⟨hb, (Array.getElem?_eq_some_iff.1 hg).1⟩
theorem TxtS.apart {w : World} {b off lb lo : Nat} {nm s t : ByteArray} {tot : List UInt8} {l : List ItS} {x : ItS} {v v0 v' : Value} {wr w1 w2 : World} (h : TxtS w b off lb lo nm s t tot (l ++ [x]) v wr) (hx : ∀ u, x ≠ .str u)
   (hv0 : PileS b off lb lo w.heap.size v0 l wr) (hb1 : Below wr.heap.size wr w1) (hp : PileS b off lb lo w.heap.size v' (l ++ (kidsS nm s t x).reverse) w2) (hg : w1.grownBy w2 v0.ownBlock) : TxtS w b off lb lo nm s t tot (l ++ (kidsS nm s t x).reverse) v' w2 := by
 obtain ⟨_, ⟨acc, hB, ht⟩, hb, hw⟩ := h
 have hp1 := hv0.below hb1
 refine ⟨hp, ⟨acc, (hB.below hb1).pile hp1 hg, ?_⟩, (hb.trans (hb1.mono hb.size)).grown hg (Nat.le_trans hb.size hb1.size) (fun k e => (own_ltS hp1 k e).1), ?_⟩
 · rw [tellS_more, tellS_kids nm s t x hx, ← tellS_push]; exact ht
 · have := weighS_kids nm s t l x hx; omega
theorem TxtS.next {w : World} {b off lb lo : Nat} {nm s t : ByteArray} {tot : List UInt8} {l : List ItS} {x : ItS} {v : Value} {wr w1 : World} {gp capp g2 cap2 : Nat} (h : TxtS w b off lb lo nm s t tot (l ++ [x]) v wr) (hx : ∀ u, x ≠ .str u)
   (hv0 : PileS b off lb lo w.heap.size (.slice (some ⟨gp, 0, none⟩) (l.length : Nat) capp) l wr) (hgl : gp < wr.heap.size) (hg2 : wr.heap.size ≤ g2) (hgl2 : g2 < w1.heap.size) (hcc : ∀ j y, (kidsS nm s t x)[j]? = some y → w1.cell? ⟨g2, j, none⟩ = some (ifV (valS b off lb lo y))) (hb1 : Below wr.heap.size wr w1) :
   Calls Tryz.prog 31 #[.slice (some ⟨gp, 0, none⟩) (l.length : Nat) capp, .slice (some ⟨g2, 0, none⟩) ((kidsS nm s t x).length : Nat) cap2] w1 fun e w' => ∃ v', e = .returned v' ∧ TxtS w b off lb lo nm s t tot (l ++ (kidsS nm s t x).reverse) v' w' := by
 have hl := len_weighS (l ++ [x])
 have hw := h.wt
 rw [List.length_append, List.length_singleton] at hl
 have hkl : (kidsS nm s t x).length ≤ 5 := by cases x <;> simp [kidsS]
 refine (pileUp_s (hv0.below hb1) (Nat.le_trans h.bel.size hb1.size) hgl2 (fun e => ?_) hcc (by omega)).mono ?_
 · simp only [Value.ownBlock, Option.some.injEq] at e; omega
 · rintro e w' ⟨v', rfl, hp, hg⟩
   exact ⟨v', rfl, h.apart hx hv0 hb1 hp hg⟩
theorem TxtS.wrote {w : World} {b off lb lo : Nat} {nm s t : ByteArray} {tot : List UInt8} {l : List ItS} {u : ByteArray} {v v0 : Value} {wr w2 : World} {acc : List UInt8} (h : TxtS w b off lb lo nm s t tot (l ++ [.str u]) v wr)
   (hv0 : PileS b off lb lo w.heap.size v0 l wr) (hB : Bld w.heap.size w.heap.size acc wr) (ht : acc ++ tellS nm s t (l ++ [.str u]) = tot) (hB2 : Bld w.heap.size w.heap.size (acc ++ u.data.toList) w2) (hb2 : Below w.heap.size wr w2) (hk : Lib.OthersKept 5 (some w.heap.size) wr w2) : TxtS w b off lb lo nm s t tot l v0 w2 := by
 obtain ⟨_, _, hb, hw⟩ := h
 obtain ⟨cs, fz, hc⟩ := hB.at
 refine ⟨hv0.kept hc hk, ⟨_, hB2, ?_⟩, hb.trans hb2, ?_⟩
 · rw [List.append_assoc, ← ht, tellS_push]; rfl
 · rw [weighS_push] at hw; omega
theorem text_two (w : World) (b off lb lo : Nat) (nm s t : ByteArray) (h : TwoE w b off lb lo nm s t) (g cap : Nat) (hc : w.cell? ⟨g, 0, none⟩ = some (ifV (valS b off lb lo .two))) (hg : g < w.heap.size)
   (hs : ∀ w, Calls Tryz.prog 127 #[.string s] w fun e w' => e = .returned (.string ⟨(quote s).toArray⟩) ∧ Below w.heap.size w w') (ht : ∀ w, Calls Tryz.prog 127 #[.string t] w fun e w' => e = .returned (.string ⟨(quote t).toArray⟩) ∧ Below w.heap.size w w')
   (hz : (denS nm s t .two).length ≤ 1000000) :
   Calls Tryz.prog 20 #[.slice (some ⟨g, 0, none⟩) 1 cap] w fun e w' => e = .returned (.string ⟨(denS nm s t .two).toArray⟩) ∧ Below w.heap.size w w' := by
 obtain ⟨tot, htot⟩ : ∃ tot, denS nm s t .two = tot := ⟨_, rfl⟩
 rw [htot] at hz ⊢
 have HN : Hid (∀ (x : ItS) (wr : World), (∀ u, x ≠ .str u) → Below w.heap.size w wr → Calls Tryz.prog 33 #[ifV (valS b off lb lo x)] wr (MadeS b off lb lo (kidsS nm s t x) wr)) := Lib.hid fun x wr hx hb => by
   cases x with
   | str u => exact absurd rfl (hx u)
   | one i => cases i; exact within_one wr b off lb lo nm s t _ false (h.next hb) rfl hs; exact within_one wr b off lb lo nm s t _ true (h.next hb) rfl ht
   | two => exact within_two wr b off lb lo nm s t (h.next hb)
 have hb0 : Below w.heap.size w (w.alloc (.cells #[.pointer none, .slice none 0 0] 82)) := (Below.refl _ w).alloc (Nat.le_refl _) _
 have HPU : Hid (Calls Tryz.prog 31 #[.slice none 0 0, .slice (some ⟨g, 0, none⟩) 1 cap] (w.alloc (.cells #[.pointer none, .slice none 0 0] 82)) fun e w' => ∃ v', e = .returned v' ∧ TxtS w b off lb lo nm s t tot [.two] v' w') := Lib.hid (by
   have hp : PileS b off lb lo w.heap.size (.slice none 0 0) [] (w.alloc (.cells #[.pointer none, .slice none 0 0] 82)) := ⟨rfl, .inl ⟨rfl, rfl⟩⟩
   refine (pileUp_s (m := [.two]) (g := g) (cap := cap) hp (by simp) (by simp; omega) (by simp [Value.ownBlock]) (fun j x hj => by
     rcases j with _ | j
     · simp at hj; subst hj; exact (hb0.cell (p := ⟨g, 0, none⟩) hg).trans hc
     · simp at hj) (by simp)).mono ?_
   rintro e w' ⟨v', rfl, hp', hgr⟩
   refine ⟨v', rfl, hp', ⟨[], (bnew w).pile hp hgr, ?_⟩, hb0.grown hgr (by simp) (fun k e => by simp [Value.ownBlock] at e), by simp [weighS, wtS]⟩
   rw [List.nil_append, ← htot]; simp [tellS])
 have HB0 := Lib.hid hb0
 clear h hc hs ht hb0 htot
 go_enter Tryz.func20, Tryz.ntmps20
 go_wp2_with (go_at_call 31; refine HPU.out.mono ?_; clear HPU; rintro e w1 ⟨v1, rfl, hT⟩; have HT := Lib.hid hT; clear hT)
 go_loopg [4] 8 (fun q v4 wr => ∃ l, q = weighS l ∧ TxtS w b off lb lo nm s t tot l v4 wr)
 case atStart => exact ⟨[.two], rfl, HT.out⟩
 case round =>
   clear HT
   obtain ⟨l, rfl, hT⟩ := hrel
   rcases list_endS l with rfl | ⟨a, x, rfl⟩
   · obtain ⟨av, capv, rfl⟩ := own_slice hT.pile
     obtain ⟨acc, hB, ht⟩ := hT.bld
     have hb := hT.bel
     have hbs := hb.size
     have HB := Lib.hid hb
     have HE : Hid (acc = tot) := Lib.hid (by rw [← ht]; simp [tellS])
     clear hT ht hb
     go_wp2_with (go_at_call 34; refine (bstring w.heap.size w.heap.size acc _ hB hbs).mono ?_; rintro e w3 ⟨rfl, h4, b4, k4⟩; have HB4 := Lib.hid b4; clear h4 b4 k4)
     go_ret
     exact ⟨by rw [← HE.out]; rfl, HB.out.trans HB4.out⟩
   · obtain ⟨gp, capp, rfl, hcap, hcm, hBg, hgl, hcell, hpop⟩ := hT.pile.pop
     have hlen := len_weighS (a ++ [x])
     have hw8 := hT.wt
     rw [List.length_append, List.length_singleton] at hlen
     have hnn : (a.length : Int) + 1 ≤ 8 := by omega
     have hb := hT.bel
     have hbs := hb.size
     have HT := Lib.hid hT
     have HP := Lib.hid hpop
     by_cases hx : ∃ u, x = .str u
     · obtain ⟨u, rfl⟩ := hx
       obtain ⟨acc, hB, ht⟩ := hT.bld
       have hal : acc.length + u.size ≤ 70368744177664 := by
         have : (acc ++ tellS nm s t (a ++ [.str u])).length ≤ 1000000 := by rw [ht]; exact hz
         rw [tellS_push] at this
         simp only [List.length_append, denS] at this
         have e1 : u.data.toList.length = u.size := by simp
         omega
       have HWS := Lib.hid (wstrS w.heap.size w.heap.size acc u wr hB hal hbs)
       have HTB := Lib.hid ht
       have HBB := Lib.hid hB
       clear hT hpop hb ht hB hal
       simp only [valS, ifV] at hcell
       go_wp2_with (go_at_call 32; refine HWS.out.mono ?_; clear HWS; rintro e w3 ⟨⟨n3, rfl⟩, h4, b4, k4⟩; have H4 := Lib.hid h4; have B4 := Lib.hid b4; have K4 := Lib.hid k4; clear h4 b4 k4)
       go_roundg (weighS a)
       case rel => exact ⟨_, rfl, HT.out.wrote HP.out HBB.out HTB.out H4.out B4.out K4.out⟩
       case measure => rw [weighS_push]; simp [wtS]
     · have hx2 : ∀ u, x ≠ .str u := fun u e => hx ⟨u, e⟩
       obtain ⟨p, hp⟩ : ∃ p, valS b off lb lo x = (58, .pointer (some p)) := by
         cases x with
         | str u => exact absurd rfl (hx2 u)
         | one i => exact ⟨_, rfl⟩
         | two => exact ⟨_, rfl⟩
       have HX2 := Lib.hid hx2
       have HWI := HN.out x wr hx2 hb
       rw [hp] at hcell HWI
       simp only [ifV] at hcell HWI
       have HW := Lib.hid HWI
       have HGL := Lib.hid hgl
       have HLT := Lib.hid (weighS_kids nm s t a x hx2)
       clear hT hpop hb hx hx2 hp HWI
       go_wp2_with (first
         | (go_at_call 33; refine HW.out.mono ?_; clear HW; rintro e w3 ⟨g2, cap2, rfl, hg2, hgl2, hcc, hb3⟩; have HPU2 := Lib.hid (HT.out.next (cap2 := cap2) HX2.out HP.out HGL.out hg2 hgl2 hcc hb3); clear hg2 hgl2 hcc hb3)
         | (go_at_call 31; refine HPU2.out.mono ?_; clear HPU2; rintro e w4 ⟨v4, rfl, hT4⟩; have HTT := Lib.hid hT4; clear hT4))
       go_roundg (weighS (a ++ (kidsS nm s t x).reverse))
       case rel => exact ⟨_, rfl, HTT.out⟩
       case measure => exact HLT.out
end
set_option maxRecDepth 1000000
section
open Go.RowKit
abbrev sxM : Nat := 220855884742802598507145608334819240329861405942557555435827760537272316
noncomputable def sxG : FuncId → Bool := fun f => tb sxM f
theorem sxG_all : allF (fun g => or2 (onB (tb sxM g) false true) (fnOk Tryz.prog g)) (List.range 238) = true := by decide +kernel
theorem sxG_ok : ∀ g, sxG g = true → fnOk Tryz.prog g = true := okG_of (by decide +kernel) sxG_all
theorem sxX_ok : ExtOk Tryz.prog (sameX 74) := sameX_ok Tryz.func74 (by kernel_rfl) (by kernel_rfl) (by kernel_rfl) rfl
theorem sx_told : isTF (fvC Tryz.prog (sameX 74) sxG (fun _ _ _ _ => .bad) 10000 (.fn 5) .nil heap0 nx0) = true := by decide +kernel
theorem sx_told_any (w : World) {C : Nat} (hw : GlW C w) : Calls Tryz.prog 5 #[] w fun e w' => e = .returned (.bool true) ∧ Below w.heap.size w w' :=
 answer sxG_ok (Checked.mixed Tryz.checked) sxX_ok none_ok (l := .nil) (m := []) rfl sx_told w hw
end
end Go.Proofs.YtaclhdpjkgoadaaGreatDoor
