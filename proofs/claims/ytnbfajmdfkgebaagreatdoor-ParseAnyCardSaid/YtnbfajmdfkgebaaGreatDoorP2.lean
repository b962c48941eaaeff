/- Parts of the proof: SrcA, SrcB, SrcC, SrcD, SrcE, RefD, RefE, BxG. -/
import Derived.Test.YtnbfajmdfkgebaaGreatDoorP0
import Derived.Deep.QuietTactic
import Derived.BigQuiet
import Derived.WalkSmall
import Derived.BigCall
import Derived.Laws.OwnMore
import Derived.Maps.AppendAt
import Derived.Deep.Cut
import Derived.Deep.CutRange
import Derived.Test.YtnbfajmdfkgebaaGreatDoorRefC1
import Derived.Test.YtnbfajmdfkgebaaGreatDoorRefC2
import Derived.Test.YtnbfajmdfkgebaaGreatDoorRefC3
import Derived.Test.YtnbfajmdfkgebaaGreatDoorP12
set_option maxHeartbeats 4000000
set_option maxRecDepth 100000
namespace Go.Proofs.YtnbfajmdfkgebaaGreatDoor
set_option linter.unusedSimpArgs false
set_option linter.unusedVariables false
section
open Go.RowKit
theorem whichS (a : Int) (m : Nat) (hm : 0 < m) (hm2 : m < 9223372036854775808) : ∃ (x : Int) (i : Nat), IntKind.u64.wrap a = x ∧ x.tmod m = (i : Int) ∧ i < m ∧ IntKind.u64.wrap (i : Int) = i ∧ IntKind.i64.wrap (i : Int) = i ∧ IntKind.u64.wrap (m : Int) = m := by
 have h0 : 0 ≤ IntKind.u64.wrap a := by rw [IntKind.wrap_u64]; omega
 refine ⟨IntKind.u64.wrap a, (IntKind.u64.wrap a).toNat % m, rfl, ?_, Nat.mod_lt _ hm, ?_, ?_, ?_⟩
 · rw [Int.tmod_eq_emod_of_nonneg h0, Int.natCast_emod, Int.toNat_of_nonneg h0]
 · have := Nat.mod_lt (IntKind.u64.wrap a).toNat hm; rw [IntKind.wrap_u64]; omega
 · have := Nat.mod_lt (IntKind.u64.wrap a).toNat hm; rw [IntKind.wrap_i64]; omega
 · rw [IntKind.wrap_u64]; omega
def Tx (w : World) (v : Value) (n : Nat) : Prop := ∃ (b o cap : Nat), v = .slice (some ⟨b, o, none⟩) n cap ∧ 0 < n ∧ n ≤ 1000 ∧ ∀ i, i < n → ∃ t : ByteArray, w.cell? ⟨b, o + i, none⟩ = some (.string t) ∧ t.size ≤ 100
def Li (w : World) (v : Value) : Prop := ∃ (A : Option Addr) (n cap : Nat), v = .slice A n cap ∧ n ≤ maxLen ∧ ∀ j, j < n → ∃ (b o : Nat) (z : Int), A = some ⟨b, o, none⟩ ∧ w.cell? ⟨b, o + j, none⟩ = some (.int .i64 z)
def Ll (w : World) (v : Value) : Prop := ∃ (A : Option Addr) (n cap : Nat), v = .slice A n cap ∧ n ≤ maxLen ∧ ∀ j, j < n → ∃ (b o : Nat) (u : Value), A = some ⟨b, o, none⟩ ∧ w.cell? ⟨b, o + j, none⟩ = some u ∧ Li w u
theorem Li.nil (w : World) : Li w (.slice none 0 0) := ⟨none, 0, 0, rfl, Nat.zero_le _, fun j hj => by omega⟩
theorem Li.keep {w w' : World} {v : Value} (h : Li w v) (K : Keep w w') : Li w' v := by
 obtain ⟨A, n, cap, hv, hn, hc⟩ := h
 exact ⟨A, n, cap, hv, hn, fun j hj => by obtain ⟨b, o, z, hA, hz⟩ := hc j hj; exact ⟨b, o, z, hA, K _ _ hz⟩⟩
theorem Ll.keep {w w' : World} {v : Value} (h : Ll w v) (K : Keep w w') : Ll w' v := by
 obtain ⟨A, n, cap, hv, hn, hc⟩ := h
 exact ⟨A, n, cap, hv, hn, fun j hj => by obtain ⟨b, o, u, hA, hz, hl⟩ := hc j hj; exact ⟨b, o, u, hA, K _ _ hz, hl.keep K⟩⟩
theorem pick_any (w : World) (v : Value) (n : Nat) (k : Int) (h : Tx w v n) : Calls Tryz.prog 25 #[v, .int .i64 k] w fun e w' => (∃ t, e = .returned (.string t) ∧ t.size ≤ 100) ∧ w = w' := by
 obtain ⟨b, o, cap, rfl, h0, hm, hc⟩ := h
 obtain ⟨x, i, a1, a2, a3, a4, a5, a6⟩ := whichS k n h0 (by omega)
 obtain ⟨t, ht, hs⟩ := hc i a3
 have a3' : (i : Int) < n := by omega
 have hi0 : (0 : Int) ≤ i := by omega
 have hn0 : ((n : Int) == 0) = false := by simp; omega
 have HS := Lib.hid hs
 clear hs hc
 go_enter Tryz.func25, Tryz.ntmps25
 go_wp2_with fail
 go_ret
 exact ⟨⟨t, rfl, HS.out⟩, rfl⟩
theorem srcAt_any (w : World) (v : Value) (i : Nat) (hi : i < 100) (h : Ll w v) : Calls Tryz.prog 24 #[v, .int .i64 i] w fun e w' => (∃ u, e = .returned u ∧ Li w u) ∧ w = w' := by
 obtain ⟨A, n, cap, rfl, hn, hc⟩ := h
 by_cases h : i < n
 · obtain ⟨b, o, u, rfl, hu, hl⟩ := hc i h
   have h' : (i : Int) < n := by omega
   have HL := Lib.hid hl
   clear hl hc
   obtain ⟨A2, n2, cap2, rfl, _⟩ := id HL.out
   go_enter Tryz.func24, Tryz.ntmps24
   go_wp2_with fail
   go_ret
   exact ⟨⟨_, rfl, HL.out⟩, rfl⟩
 · have h' : (n : Int) ≤ i := by omega
   clear hc
   go_enter Tryz.func24, Tryz.ntmps24
   go_wp2_with fail
   go_ret
   exact ⟨⟨_, rfl, Li.nil _⟩, rfl⟩
end
section
open Go.RowKit
theorem replace_any (w : World) (s a b : ByteArray) (hs : s.size ≤ 100000) (ha : a.size ≤ 1000) (hb : b.size ≤ 1000) : Calls Tryz.prog 26 #[.string s, .string a, .string b] w fun e w' => (∃ t, e = .returned (.string t) ∧ t.size ≤ s.size + b.size) ∧ Below w.heap.size w w' := by
 go_enter Tryz.func26, Tryz.ntmps26
 go_wp2_with fail
 go_loopw [7] (fun v7 wr => ∃ j : Nat, v7 = .int .i64 j ∧ j ≤ s.size + 1 ∧ wr = w) (fun v7 wr => s.size + 2 - (intOf v7).toNat)
 case atStart => exact ⟨0, rfl, Nat.zero_le _, rfl⟩
 case round =>
   obtain ⟨j, rfl, hj, rfl⟩ := hrel
   by_cases hlt : j + a.size ≤ s.size
   · have hl : (j : Int) + (a.size : Int) ≤ s.size := by omega
     have h0 : (0 : Int) ≤ j := by omega
     have hjs : (j : Int) ≤ s.size := by omega
     have hja : (j : Int) ≤ (j : Int) + (a.size : Int) := by omega
     have h0a : (0 : Int) ≤ (j : Int) + (a.size : Int) := by omega
     have hn : ((j : Int) + (a.size : Int)).toNat = j + a.size := by omega
     have z1 : (s.extract 0 j).size = j := by rw [ByteArray.size_extract]; omega
     have z2 : (s.extract 0 j ++ b).size = j + b.size := by rw [ByteArray.size_append, z1]
     have z3 : (s.extract (j + a.size) s.size).size = s.size - (j + a.size) := by rw [ByteArray.size_extract]; omega
     have z4 : (s.extract 0 j ++ b ++ s.extract (j + a.size) s.size).size ≤ s.size + b.size := by rw [ByteArray.size_append, z2, z3]; omega
     have Z4 := Lib.hid z4
     clear z4
     go_wp2_with fail
     · go_quiet (fail)
       go_wp2_with fail
       go_ret
       exact ⟨⟨_, rfl, Z4.out⟩, below_drewN (Below.refl _ _) _⟩
     · exact ⟨⟨j + 1, by simp, by omega, trivial⟩, by simp [intOf]; omega⟩
   · have hl : (s.size : Int) < (j : Int) + (a.size : Int) := by omega
     go_wp2_with fail
     go_ret
     exact ⟨⟨s, rfl, by omega⟩, Below.refl _ _⟩
end
section
open Go.RowKit
def txB : Value → Bool
 | .string t => decide (t.size ≤ 100)
 | _ => false
theorem tx_lit (w : World) (T : TypeId) (vs : Array Value) (n cap : Nat) (hn : vs.size = n) (h0 : 0 < n) (hm : n ≤ 1000) (hb : vs.toList.all txB = true) : Tx (w.alloc (.cells vs T)) (.slice (some ⟨w.heap.size, 0, none⟩) n cap) n := by
 subst hn
 refine ⟨_, _, _, rfl, h0, hm, fun i hi => ?_⟩
 rw [List.all_eq_true] at hb
 have h1 := hb vs[i] (by simp)
 rw [World.cell?_alloc_new]
 cases hv : vs[i] with
 | string t => rw [hv] at h1; exact ⟨t, by simp [hi, hv], by simpa [txB] using h1⟩
 | _ => rw [hv] at h1; simp [txB] at h1
theorem gen_worldS {P : Program} {c : Code} {Q : Exit → Act → World → Prop} {a : Act} {W0 : World} (F : World → Prop) (h0 : F W0) (h : ∀ W, F W → Code.wp P c Q a W) : Code.wp P c Q a W0 := h W0 h0
theorem outer_any (w : World) (v : Value) (h : Li w v) : Calls Tryz.prog 27 #[v] w fun e w' => (∃ t, e = .returned (.string t) ∧ t.size ≤ 404) ∧ Below w.heap.size w w' := by
 obtain ⟨A, n, cap, rfl, hn, hc⟩ := h
 have HC := Lib.hid hc
 clear hc
 go_enter Tryz.func27, Tryz.ntmps27
 go_wp2_with fail
 refine gen_worldS (F := fun W => Tx W (.slice (some ⟨w.heap.size, 0, none⟩) 12 12) 12 ∧ Below w.heap.size w W) ⟨tx_lit _ _ _ _ _ rfl (by decide) (by decide) (by decide +kernel), (Below.refl _ _).alloc (Nat.le_refl _) _⟩ ?_
 rintro W1 ⟨hx, hb⟩
 have HX := Lib.hid hx
 have HB := Lib.hid hb
 clear hx hb
 go_loopw [4, 5] (fun v4 v5 wr => ∃ (j : Nat) (t : ByteArray), v4 = .string t ∧ v5 = .int .i64 j ∧ j ≤ 4 ∧ t.size ≤ 101 * j ∧ wr = W1) (fun v4 v5 wr => 5 - (intOf v5).toNat)
 case atStart => exact ⟨0, _, rfl, rfl, by omega, by decide, rfl⟩
 case round =>
   obtain ⟨j, t, rfl, rfl, hj, ht, rfl⟩ := hrel
   have hts : (t ++ ⟨#[32]⟩).size = t.size + 1 := by rw [ByteArray.size_append]; rfl
   by_cases hjn : j < n ∧ j < 4
   · have h1 : (j : Int) < n := by omega
     have h2 : (j : Int) < 4 := by omega
     have h0 : (0 : Int) ≤ j := by omega
     obtain ⟨b, o, z, rfl, hz⟩ := HC.out j hjn.1
     have hz1 := Keep.below HB.out _ _ hz
     clear hz
     go_wp2_with (go_at_call 25; refine (pick_any _ _ _ _ HX.out).mono ?_; rintro e w2 ⟨⟨u, rfl, hu⟩, rfl⟩; have HU := Lib.hid hu)
     have hu := HU.out
     exact ⟨⟨j + 1, _, rfl, by simp, by omega, by rw [ByteArray.size_append, hts]; omega, trivial⟩, by simp [intOf]; omega⟩
   · by_cases hjn2 : j < n
     · have h1 : (j : Int) < n := by omega
       have h2 : (4 : Int) ≤ j := by omega
       go_wp2_with fail
       go_ret
       exact ⟨⟨t, rfl, by omega⟩, HB.out⟩
     · have h1 : (n : Int) ≤ j := by omega
       go_wp2_with fail
       go_ret
       exact ⟨⟨t, rfl, by omega⟩, HB.out⟩
end
section
open Go.RowKit
theorem tx_own {W : World} {B n : Nat} {T : TypeId} {v : Value} {xs : List Value} (h : W.ownsRow B T 1 v n xs) (h0 : 0 < n) (hm : n ≤ 1000) (hb : xs.all txB = true) : Tx W v n := by
 have ho := h
 rcases h with ⟨hl, ⟨rfl, rfl⟩ | ⟨g, cap, cur, rfl, _⟩⟩
 · omega
 · refine ⟨g, 0, cap, rfl, h0, hm, fun i hi => ?_⟩
   have hi' : i < xs.length := by omega
   have hc := ho.cells (g := g) rfl i xs[i] (List.getElem?_eq_getElem hi')
   have e : (⟨g, 0, none⟩ : Addr).add i = ⟨g, 0 + i, none⟩ := by simp [Addr.add]; exact fun h => h.symm
   rw [e] at hc
   rw [List.all_eq_true] at hb
   have h1 := hb xs[i] (List.getElem_mem hi')
   cases hv : xs[i] with
   | string t => rw [hv] at h1 hc; exact ⟨t, hc, by simpa [txB] using h1⟩
   | _ => rw [hv] at h1; simp [txB] at h1
theorem txs_one {xs : List Value} (hb : xs.all txB = true) : ∀ u ∈ xs, u.oneCell' = true := by
 intro u hu
 rw [List.all_eq_true] at hb
 have h1 := hb u hu
 cases u <;> first | rfl | simp [txB] at h1
theorem cells_new (w : World) (cs : Array Value) (T : TypeId) : ∀ j u, cs.toList[j]? = some u → (w.alloc (.cells cs T)).cell? ((⟨w.heap.size, 0, none⟩ : Addr).add j) = some u := by
 intro j u hu
 have e : (⟨w.heap.size, 0, none⟩ : Addr).add j = ⟨w.heap.size, 0 + j, none⟩ := by simp [Addr.add]; exact fun h => h.symm
 rw [e, World.cell?_alloc_new]
 simp only [Nat.zero_add]
 simpa using hu
theorem below_grownS {B : Nat} {w w1 w2 : World} {o : Option Nat} (hb : Below B w w1) (h : w1.grownBy w2 o) (hB : B ≤ w1.heap.size) (ho : ∀ k, o = some k → B ≤ k) : Below B w w2 :=
 hb.trans ⟨h.os, h.tape, h.output, h.size, fun k hk => h.block k (Nat.lt_of_lt_of_le hk hB) (fun e => by have := ho k e.symm; omega)⟩
theorem Tryz.infoTx : (Tryz.prog.info? 9).map (fun i => (i.zero, i.size, i.bytes)) = some (some (.string ⟨#[]⟩), 1, 16) := by kernel_rfl
theorem inner_no (w : World) (v : Value) (mo : Nat) (hmo : mo ≤ 4) (h : Li w v) : Calls Tryz.prog 23 #[v, .int .i64 mo, .bool false] w fun e w' => (∃ t, e = .returned (.string t) ∧ t.size ≤ 404) ∧ Below w.heap.size w w' := by
 obtain ⟨A, n, cap, rfl, hn, hc⟩ := h
 have HC := Lib.hid hc
 clear hc
 go_enter Tryz.func23, Tryz.ntmps23
 go_wp2_with fail
 refine gen_worldS (F := fun W => Tx W (.slice (some ⟨w.heap.size, 0, none⟩) 28 28) 28 ∧ Below w.heap.size w W) ⟨tx_lit _ _ _ _ _ rfl (by decide) (by decide) (by decide +kernel), (Below.refl _ _).alloc (Nat.le_refl _) _⟩ ?_
 rintro W1 ⟨hx, hb⟩
 have HX := Lib.hid hx
 have HB := Lib.hid hb
 clear hx hb
 go_loopw [8, 9] (fun v8 v9 wr => ∃ (j : Nat) (t : ByteArray), v8 = .string t ∧ v9 = .int .i64 j ∧ j ≤ 4 ∧ t.size ≤ 101 * j ∧ wr = W1) (fun v8 v9 wr => 5 - (intOf v9).toNat)
 case atStart => exact ⟨0, _, rfl, rfl, by omega, by decide, rfl⟩
 case round =>
   obtain ⟨j, t, rfl, rfl, hj, ht, rfl⟩ := hrel
   have hts : (t ++ ⟨#[32]⟩).size = t.size + 1 := by rw [ByteArray.size_append]; rfl
   by_cases hjn : j < n ∧ j < mo
   · have h1 : (j : Int) < n := by omega
     have h2 : (j : Int) < mo := by omega
     have h0 : (0 : Int) ≤ j := by omega
     obtain ⟨b, o, z, rfl, hz⟩ := HC.out j hjn.1
     have hz1 := Keep.below HB.out _ _ hz
     clear hz
     go_wp2_with (go_at_call 25; refine (pick_any _ _ _ _ HX.out).mono ?_; rintro e w2 ⟨⟨u, rfl, hu⟩, rfl⟩; have HU := Lib.hid hu)
     have hu := HU.out
     exact ⟨⟨j + 1, _, rfl, by simp, by omega, by rw [ByteArray.size_append, hts]; omega, trivial⟩, by simp [intOf]; omega⟩
   · by_cases hjn2 : j < n
     · have h1 : (j : Int) < n := by omega
       have h2 : (mo : Int) ≤ j := by omega
       go_wp2_with fail
       go_ret
       exact ⟨⟨t, rfl, by omega⟩, HB.out⟩
     · have h1 : (n : Int) ≤ j := by omega
       go_wp2_with fail
       go_ret
       exact ⟨⟨t, rfl, by omega⟩, HB.out⟩
theorem inner_yes (w : World) (v : Value) (mo : Nat) (hmo : mo ≤ 4) (h : Li w v) : Calls Tryz.prog 23 #[v, .int .i64 mo, .bool true] w fun e w' => (∃ t, e = .returned (.string t) ∧ t.size ≤ 404) ∧ Below w.heap.size w w' := by
 obtain ⟨A, n, cap, rfl, hn, hc⟩ := h
 have HC := Lib.hid hc
 clear hc
 go_enter Tryz.func23, Tryz.ntmps23
 go_upto_region 3 with (fail)
 refine gen_worldS (F := fun W => ∃ xs : List Value, xs.all txB = true ∧ W.ownsRow w.heap.size 9 1 (.slice (some ⟨w.heap.size, 0, none⟩) 28 28) 28 xs ∧ Below w.heap.size w W) ⟨_, ?cc, World.ownsRow_lit w _ 28 (Nat.le_refl _) (by decide) rfl, (Below.refl _ _).alloc (Nat.le_refl _) _⟩ ?_
 case cc => decide +kernel
 rintro W0 ⟨xs, hxs, ho, hb0⟩
 have HO := Lib.hid ho
 have HXS := Lib.hid hxs
 have HB0 := Lib.hid hb0
 clear ho hxs hb0
 obtain ⟨i0, hi, hz0, hz1, hz2⟩ : ∃ i, Tryz.prog.info? 9 = some i ∧ i.zero = some (.string ⟨#[]⟩) ∧ i.size = 1 ∧ i.bytes = 16 := by
   have := Tryz.infoTx
   cases hh : Tryz.prog.info? 9 with
   | none => rw [hh] at this; cases this
   | some i => rw [hh] at this; simp at this; exact ⟨i, rfl, this.1, this.2.1, this.2.2⟩
 go_upto_region 4 with (at_builtin; refine wpList_append_own_at _ rfl (.tmp 12) (.tmp 13) 68 rfl w.heap.size 9 i0 _ 1 16 Tryz.underlying68 hi hz0 hz1 hz2 rfl (by decide) _ _ _ rfl ((HO.out).alloc _) ⟨W0.heap.size, 0, none⟩ 7 7 ?news rfl ?c0 ?c1 ?c2 ?c3 ?c4 ?c5 ?_)
 case c1 => exact cells_new _ _ _
 case c0 => rfl
 case c2 => exact txs_one (by decide +kernel)
 case c3 => unfold maxLen; omega
 case c4 => omega
 case c5 => have := HB0.out.size; simp; omega
 intro v1 w3 hown hg _ _
 have hx : Tx w3 v1 35 := tx_own hown (by omega) (by omega) (by rw [List.all_append, HXS.out]; decide +kernel)
 have hb : Below w.heap.size w w3 := below_grownS (HB0.out.alloc HB0.out.size _) hg (by have := HB0.out.size; simp; omega) (fun k hk => by simp [Value.ownBlock] at hk; omega)
 clear hown hg
 have HX := Lib.hid hx
 have HB := Lib.hid hb
 clear hx hb
 go_wp2_with fail
 go_loopw [8, 9] (fun v8 v9 wr => ∃ (j : Nat) (t : ByteArray), v8 = .string t ∧ v9 = .int .i64 j ∧ j ≤ 4 ∧ t.size ≤ 101 * j ∧ wr = w3) (fun v8 v9 wr => 5 - (intOf v9).toNat)
 case atStart => exact ⟨0, _, rfl, rfl, by omega, by decide, rfl⟩
 case round =>
   obtain ⟨j, t, rfl, rfl, hj, ht, rfl⟩ := hrel
   have hts : (t ++ ⟨#[32]⟩).size = t.size + 1 := by rw [ByteArray.size_append]; rfl
   by_cases hjn : j < n ∧ j < mo
   · have h1 : (j : Int) < n := by omega
     have h2 : (j : Int) < mo := by omega
     have h0 : (0 : Int) ≤ j := by omega
     obtain ⟨b, o, z, rfl, hz⟩ := HC.out j hjn.1
     have hz1 := Keep.below HB.out _ _ hz
     clear hz
     go_wp2_with (go_at_call 25; refine (pick_any _ _ _ _ HX.out).mono ?_; rintro e w2 ⟨⟨u, rfl, hu⟩, rfl⟩; have HU := Lib.hid hu)
     have hu := HU.out
     exact ⟨⟨j + 1, _, rfl, by simp, by omega, by rw [ByteArray.size_append, hts]; omega, trivial⟩, by simp [intOf]; omega⟩
   · by_cases hjn2 : j < n
     · have h1 : (j : Int) < n := by omega
       have h2 : (mo : Int) ≤ j := by omega
       go_wp2_with fail
       go_ret
       exact ⟨⟨t, rfl, by omega⟩, HB.out⟩
     · have h1 : (n : Int) ≤ j := by omega
       go_wp2_with fail
       go_ret
       exact ⟨⟨t, rfl, by omega⟩, HB.out⟩
end
section
open Go.RowKit
def AtC (w : World) (v : Value) (i : Int) : Prop := Calls Tryz.prog 24 #[v, .int .i64 i] w fun e w' => (∃ u, e = .returned u ∧ Li w u) ∧ w = w'
theorem at_0 {w : World} {v : Value} (h : Ll w v) : AtC w v 0 := srcAt_any w v 0 (by omega) h
theorem at_1 {w : World} {v : Value} (h : Ll w v) : AtC w v 1 := srcAt_any w v 1 (by omega) h
theorem at_2 {w : World} {v : Value} (h : Ll w v) : AtC w v 2 := srcAt_any w v 2 (by omega) h
theorem at_3 {w : World} {v : Value} (h : Ll w v) : AtC w v 3 := srcAt_any w v 3 (by omega) h
def InC (w : World) (v : Value) (i : Int) (b : Bool) : Prop := Calls Tryz.prog 23 #[v, .int .i64 i, .bool b] w fun e w' => (∃ t, e = .returned (.string t) ∧ t.size ≤ 404) ∧ Below w.heap.size w w'
theorem in_4n {w : World} {v : Value} (h : Li w v) : InC w v 4 false := inner_no w v 4 (by omega) h
theorem in_4y {w : World} {v : Value} (h : Li w v) : InC w v 4 true := inner_yes w v 4 (by omega) h
theorem in_2n {w : World} {v : Value} (h : Li w v) : InC w v 2 false := inner_no w v 2 (by omega) h
theorem ll_more {w w' : World} {v : Value} (h : Ll w v) (hb : Below w.heap.size w w') : Ll w' v := h.keep (Keep.below hb)
theorem Ll.cellAt {w : World} {A : Option Addr} {n cap : Nat} (h : Ll w (.slice A n cap)) {i : Nat} (hi : i < n) : ∃ (b o : Nat) (B : Option Addr) (m c : Nat), A = some ⟨b, o, none⟩ ∧ w.cell? ⟨b, o + i, none⟩ = some (.slice B m c) := by
 obtain ⟨A', n', cap', hv, hn, hc⟩ := h
 injection hv with h1 h2 h3
 subst h1 h2
 obtain ⟨b, o, u, hA, hu, hl⟩ := hc i hi
 obtain ⟨B, m, c, rfl, _⟩ := hl
 exact ⟨b, o, B, m, c, hA, hu⟩
theorem kept_at {w : World} {b o : Nat} {u : Value} (h : w.cell? ⟨b, o, none⟩ = some u) : ∀ w', Below w.heap.size w w' → w'.cell? ⟨b, o, none⟩ = some u ∧ b < w'.heap.size ∧ b ≠ w'.heap.size := by
 intro w' hb
 have h2 := Keep.below hb _ _ h
 have h3 := World.block_lt_of_cell? w' _ h2
 simp only at h3
 exact ⟨h2, h3, by omega⟩
def SrcR (w : World) (a b : Nat) (v3 v4 : Value) (wx : World) : Prop := ∃ s t : ByteArray, v3 = .string s ∧ v4 = .string t ∧ s.size ≤ a ∧ t.size ≤ b ∧ Below w.heap.size w wx
theorem source_any (w : World) (v : Value) (h : Ll w v) : Calls Tryz.prog 9 #[v] w fun e w' => (∃ t, e = .returned (.string t) ∧ t.size ≤ 5000) ∧ Below w.heap.size w w' := by
 have HL := Lib.hid h
 obtain ⟨A, n, cap, rfl, hn, hc⟩ := h
 clear hc
 go_enter Tryz.func9, Tryz.ntmps9
 go_upto_region 1 with (fail)
 go_cut [3] from 5 to 9 (fun v3 wx => ∃ s : ByteArray, v3 = .string s ∧ s.size ≤ 900 ∧ Below w.heap.size w wx)
 case first =>
   go_wp2_with (first
     | (go_at_call 24; refine (at_0 HL.out).mono ?_; rintro e wx ⟨⟨u0, rfl, hu0⟩, rfl⟩; have HU0 := Lib.hid hu0; clear hu0)
     | (go_at_call 23; refine (in_4n HU0.out).mono ?_; rintro e w1 ⟨⟨t0, rfl, ht0⟩, hb⟩; have HT0 := Lib.hid ht0; have HB1 := Lib.hid hb; clear hb))
   go_meet
   case rel =>
     refine ⟨_, rfl, ?_, HB1.out⟩
     have := HT0.out
     rw [ByteArray.size_append, ByteArray.size_append]
     refine Nat.le_trans (Nat.add_le_add (Nat.add_le_add (b := 98) ?_ this) (d := 144) ?_) ?_
     · decide +kernel
     · decide +kernel
     · omega
 case rest =>
   obtain ⟨s1, rfl, hs1, hb1⟩ := hcut
   have HS1 := Lib.hid hs1
   have HB1 := Lib.hid hb1
   clear hb1
   go_upto_if 12 with (fail)
   go_cut [3, 4] from 10 to 25 (SrcR w 1500 100)
   case first =>
     by_cases h1 : (1 : Int) < n
     · obtain ⟨b, o, B, m, c, rfl, hce⟩ := HL.out.cellAt (show 1 < n by omega)
       have HCE := Lib.hid (kept_at hce)
       clear hce
       go_wp2_with (first
         | (go_at_call 24; refine (at_1 (ll_more HL.out HB1.out)).mono ?_; rintro e wx ⟨⟨u0, rfl, hu0⟩, rfl⟩; have HU0 := Lib.hid hu0; clear hu0)
         | (go_at_call 23; refine (in_4y HU0.out).mono ?_; rintro e w2 ⟨⟨t0, rfl, ht0⟩, hb⟩; have HT0 := Lib.hid ht0; have hb2 := HB1.out.trans (hb.mono HB1.out.size); obtain ⟨hce2, hlt, hne⟩ := HCE.out w2 hb2; have HB2 := Lib.hid hb2; clear hb hb2)
         | (go_at_call 25; refine (pick_any _ _ 3 _ (tx_lit _ _ _ _ _ rfl (by decide) (by decide) (by decide +kernel))).mono ?_; rintro e w3 ⟨⟨u, rfl, hu⟩, rfl⟩; have HU := Lib.hid hu; clear hu))
       go_meet
       case rel =>
         refine ⟨_, _, rfl, rfl, ?_, HU.out, HB2.out.alloc HB2.out.size _⟩
         have h0 := HT0.out
         have h1 := HS1.out
         rw [ByteArray.size_append, ByteArray.size_append, ByteArray.size_append]
         refine Nat.le_trans (Nat.add_le_add (Nat.add_le_add (Nat.add_le_add h1 (d := 106) ?_) h0) (d := 65) ?_) ?_
         · decide +kernel
         · decide +kernel
         · omega
     · have h1' : (n : Int) ≤ 1 := by omega
       go_wp2_with fail
       go_meet
       case rel => exact ⟨_, _, rfl, rfl, by have := HS1.out; omega, by decide +kernel, HB1.out⟩
   case rest =>
     obtain ⟨s2, m2, rfl, rfl, hs2, hm2, hb2⟩ := hcut
     have HS2 := Lib.hid hs2
     have HM2 := Lib.hid hm2
     have HB2 := Lib.hid hb2
     clear hb2 HB1
     go_upto_if 28 with (fail)
     go_cut [3, 4] from 26 to 44 (SrcR w 2200 100)
     case first =>
       by_cases h1 : (2 : Int) < n
       · obtain ⟨b, o, B, m, c, rfl, hce⟩ := HL.out.cellAt (show 2 < n by omega)
         have HCE := Lib.hid (kept_at hce)
         clear hce
         go_wp2_with (first
           | (go_at_call 24; refine (at_2 (ll_more HL.out HB2.out)).mono ?_; rintro e wx ⟨⟨u0, rfl, hu0⟩, rfl⟩; have HU0 := Lib.hid hu0; clear hu0)
           | (go_at_call 23; refine (in_2n HU0.out).mono ?_; rintro e w3 ⟨⟨t0, rfl, ht0⟩, hb⟩; have HT0 := Lib.hid ht0; have HB3 := Lib.hid (HB2.out.trans (hb.mono HB2.out.size)); clear hb)
           | (go_at_call 26; refine (replace_any _ _ _ _ (by rw [ByteArray.size_append, ByteArray.size_append, ByteArray.size_append]; refine Nat.le_trans (Nat.add_le_add (Nat.add_le_add (Nat.add_le_add HS2.out (d := 92) (by decide +kernel)) HT0.out) (d := 5) (by decide +kernel)) (by omega)) (by decide +kernel) (by decide +kernel)).mono ?_; rintro e w4 ⟨⟨t1, rfl, ht1⟩, hb⟩; have HT1 := Lib.hid ht1; have hb4 := HB3.out.trans (hb.mono HB3.out.size); obtain ⟨hce2, hlt, hne⟩ := HCE.out w4 hb4; have HB4 := Lib.hid hb4; clear hb hb4)
           | (go_at_call 25; refine (pick_any _ _ 2 _ (tx_lit _ _ _ _ _ rfl (by decide) (by decide) (by have := HM2.out; simp [txB, this]; decide +kernel))).mono ?_; rintro e w5 ⟨⟨u, rfl, hu⟩, rfl⟩; have HU := Lib.hid hu; clear hu))
         go_meet
         case rel =>
           refine ⟨_, _, rfl, rfl, ?_, HU.out, HB4.out.alloc HB4.out.size _⟩
           have h0 := HT0.out
           have h1 := HS2.out
           refine Nat.le_trans HT1.out ?_
           rw [ByteArray.size_append, ByteArray.size_append, ByteArray.size_append]
           refine Nat.le_trans (Nat.add_le_add (Nat.add_le_add (Nat.add_le_add (Nat.add_le_add h1 (d := 92) ?_) h0) (d := 5) ?_) (d := 26) ?_) ?_
           · decide +kernel
           · decide +kernel
           · decide +kernel
           · omega
       · have h1' : (n : Int) ≤ 2 := by omega
         go_wp2_with fail
         go_meet
         case rel => exact ⟨_, _, rfl, rfl, by have := HS2.out; omega, HM2.out, HB2.out⟩
     case rest =>
       obtain ⟨s3, m3, rfl, rfl, hs3, hm3, hb3⟩ := hcut
       have HS3 := Lib.hid hs3
       have HM3 := Lib.hid hm3
       have HB3 := Lib.hid hb3
       clear hb3 HB2
       go_wp2_with (first
         | (go_at_call 24; refine (at_3 (ll_more HL.out HB3.out)).mono ?_; rintro e wx ⟨⟨u0, rfl, hu0⟩, rfl⟩; have HU0 := Lib.hid hu0; clear hu0)
         | (go_at_call 27; refine (outer_any _ _ HU0.out).mono ?_; rintro e w4 ⟨⟨t0, rfl, ht0⟩, hb⟩; have HT0 := Lib.hid ht0; have HB4 := Lib.hid (HB3.out.trans (hb.mono HB3.out.size)); clear hb))
       go_ret
       refine ⟨⟨_, rfl, ?_⟩, HB4.out⟩
       have h0 := HT0.out
       have h1 := HS3.out
       have h2 := HM3.out
       simp only [ByteArray.size_append]
       refine Nat.le_trans (Nat.add_le_add (Nat.add_le_add (Nat.add_le_add (Nat.add_le_add (Nat.add_le_add (Nat.add_le_add (Nat.add_le_add h1 (d := 23) ?_) h2) (d := 100) ?_) h2) (d := 1) ?_) h0) (d := 5) ?_) ?_
       · decide +kernel
       · decide +kernel
       · decide +kernel
       · decide +kernel
       · omega
end
section
open Go.RowKit
theorem one_low (s : ByteArray) (p : Nat) (w : World) (hs : s.size ≤ 16777216) (hp : p < s.size) (h1 : bt s p < 128) : OneSaid s p w := by
 unfold OneSaid
 have hbt := bt_eq s p hp
 have hd := low_of s p h1
 have hb := badAt_low s p h1
 have HD := Lib.hid hd; clear hd
 have HB := Lib.hid hb; clear hb
 have i1 : ((bt s p : Nat) : Int) < 128 := by omega
 go_enter Tryz.func67, Tryz.ntmps67
 go_wp2
 refine bodyPost_ret (v := .agg #[.int .i32 (bt s p : Nat), .int .i64 1, .bool false]) (by simp [results, Tryz.results67, go_sem]) rfl ⟨?_, box_below _ _ _⟩
 rw [HB.out, HD.out]; rfl
theorem one_none (s : ByteArray) (p : Nat) (w : World) (hs : s.size ≤ 16777216) (hp : p < s.size) (h1 : 128 ≤ bt s p) (h2 : bt s p < 194 ∨ 244 < bt s p) : OneSaid s p w := by
 unfold OneSaid
 have hbt := bt_eq s p hp
 have HD : Hid (Utf8.decode s p = (65533, 1)) := by
   apply dbad s p h1
   · intro k; have := k.1; have := k.2.1; omega
   · intro k; have := k.1; have := k.2.1; omega
   · intro k; have := k.1; have := k.2.1; omega
 have i1 : 128 ≤ ((bt s p : Nat) : Int) := by omega
 rcases h2 with h2 | h2
 · have i2 : ((bt s p : Nat) : Int) < 194 := by omega
   have i3 : ((bt s p : Nat) : Int) < 224 := by omega
   have i4 : ((bt s p : Nat) : Int) < 240 := by omega
   go_enter Tryz.func67, Tryz.ntmps67
   go_wp2
   refine bodyPost_ret (v := .agg #[.int .i32 65533, .int .i64 1, .bool true]) (by simp [results, Tryz.results67, go_sem]) rfl ⟨?_, box_below _ _ _⟩
   rw [badAt_of HD.out, HD.out]; rfl
 · have i2 : 194 ≤ ((bt s p : Nat) : Int) := by omega
   have i3 : 223 < ((bt s p : Nat) : Int) := by omega
   have i4 : 224 ≤ ((bt s p : Nat) : Int) := by omega
   have i5 : 239 < ((bt s p : Nat) : Int) := by omega
   have i6 : 240 ≤ ((bt s p : Nat) : Int) := by omega
   have i7 : 244 < ((bt s p : Nat) : Int) := by omega
   go_enter Tryz.func67, Tryz.ntmps67
   go_wp2
   refine bodyPost_ret (v := .agg #[.int .i32 65533, .int .i64 1, .bool true]) (by simp [results, Tryz.results67, go_sem]) rfl ⟨?_, box_below _ _ _⟩
   rw [badAt_of HD.out, HD.out]; rfl
theorem one_cut (s : ByteArray) (p : Nat) (w : World) (hs : s.size ≤ 16777216) (hp : p < s.size) (h1 : (194 ≤ bt s p ∧ bt s p ≤ 223 ∧ s.size < p + 2) ∨ (224 ≤ bt s p ∧ bt s p ≤ 239 ∧ s.size < p + 3) ∨ (240 ≤ bt s p ∧ bt s p ≤ 244 ∧ s.size < p + 4)) : OneSaid s p w := by
 unfold OneSaid
 have hbt := bt_eq s p hp
 have HD : Hid (Utf8.decode s p = (65533, 1)) := by
   apply dbad s p (by omega)
   · intro k; have := k.1; have := k.2.1; have := k.2.2.1; omega
   · intro k; have := k.1; have := k.2.1; have := k.2.2.1; omega
   · intro k; have := k.1; have := k.2.1; have := k.2.2.1; omega
 have i0 : 128 ≤ ((bt s p : Nat) : Int) := by omega
 have i1 : 194 ≤ ((bt s p : Nat) : Int) := by omega
 rcases h1 with ⟨a, b, c⟩ | ⟨a, b, c⟩ | ⟨a, b, c⟩
 · have i2 : ((bt s p : Nat) : Int) ≤ 223 := by omega
   have i3 : (s.size : Int) < (p : Int) + 2 := by omega
   go_enter Tryz.func67, Tryz.ntmps67
   go_wp2
   refine bodyPost_ret (v := .agg #[.int .i32 65533, .int .i64 1, .bool true]) (by simp [results, Tryz.results67, go_sem]) rfl ⟨?_, box_below _ _ _⟩
   rw [badAt_of HD.out, HD.out]; rfl
 · have i2 : 223 < ((bt s p : Nat) : Int) := by omega
   have i4 : 224 ≤ ((bt s p : Nat) : Int) := by omega
   have i5 : ((bt s p : Nat) : Int) ≤ 239 := by omega
   have i3 : (s.size : Int) < (p : Int) + 3 := by omega
   go_enter Tryz.func67, Tryz.ntmps67
   go_wp2
   all_goals (refine bodyPost_ret (v := .agg #[.int .i32 65533, .int .i64 1, .bool true]) (by simp [results, Tryz.results67, go_sem]) rfl ⟨?_, box_below _ _ _⟩; rw [badAt_of HD.out, HD.out]; rfl)
 · have i2 : 223 < ((bt s p : Nat) : Int) := by omega
   have i4 : 224 ≤ ((bt s p : Nat) : Int) := by omega
   have i5 : 239 < ((bt s p : Nat) : Int) := by omega
   have i6 : 240 ≤ ((bt s p : Nat) : Int) := by omega
   have i7 : ((bt s p : Nat) : Int) ≤ 244 := by omega
   have i3 : (s.size : Int) < (p : Int) + 4 := by omega
   go_enter Tryz.func67, Tryz.ntmps67
   go_wp2
   all_goals (refine bodyPost_ret (v := .agg #[.int .i32 65533, .int .i64 1, .bool true]) (by simp [results, Tryz.results67, go_sem]) rfl ⟨?_, box_below _ _ _⟩; rw [badAt_of HD.out, HD.out]; rfl)
theorem one_any (s : ByteArray) (p : Nat) (w : World) (hs : s.size ≤ 16777216) (hp : p < s.size) : OneSaid s p w := by
 by_cases a : bt s p < 128
 · exact one_low s p w hs hp a
 by_cases b : bt s p < 194 ∨ 244 < bt s p
 · exact one_none s p w hs hp (by omega) b
 by_cases c : (194 ≤ bt s p ∧ bt s p ≤ 223 ∧ s.size < p + 2) ∨ (224 ≤ bt s p ∧ bt s p ≤ 239 ∧ s.size < p + 3) ∨ (240 ≤ bt s p ∧ bt s p ≤ 244 ∧ s.size < p + 4)
 · exact one_cut s p w hs hp c
 by_cases d : bt s p ≤ 223
 · exact one2 s p w hs hp (by omega) (by omega) (by omega)
 by_cases d : bt s p ≤ 224
 · exact one3a s p w hs hp (by omega) (by omega) (by omega)
 by_cases d : bt s p ≤ 236
 · exact one3b s p w hs hp (by omega) (by omega) (by omega)
 by_cases d : bt s p ≤ 237
 · exact one3c s p w hs hp (by omega) (by omega) (by omega)
 by_cases d : bt s p ≤ 239
 · exact one3d s p w hs hp (by omega) (by omega) (by omega)
 by_cases d : bt s p ≤ 240
 · exact one4a s p w hs hp (by omega) (by omega) (by omega)
 by_cases d : bt s p ≤ 243
 · exact one4b s p w hs hp (by omega) (by omega) (by omega)
 · exact one4c s p w hs hp (by omega) (by omega) (by omega)
end
section
open Go.RowKit
theorem rbad_any (s : ByteArray) (w : World) (hs : s.size ≤ 16777216) : Calls Tryz.prog 43 #[.string s] w fun e w' => e = .returned (.int .i64 (bad s)) ∧ Below w.heap.size w w' := by
 go_enter Tryz.func43, Tryz.ntmps43
 go_wp2
 go_loopw [3] (fun v wr => ∃ p : Nat, v = .int .i64 p ∧ p ≤ s.size ∧ badFrom s p = bad s ∧ Below w.heap.size w wr) (fun v wr => s.size - (intOf v).toNat)
 case atStart => exact ⟨0, rfl, Nat.zero_le _, rfl, Below.refl _ _⟩
 case round =>
   obtain ⟨p, rfl, hp, hb, hbw⟩ := hrel
   have hsz := hbw.size
   by_cases hlt : p < s.size
   · have hw := wid_pos s p
     have hwl := wid_le s p hlt
     cases hB : badAt s p
     · have HS := Lib.hid ((badFrom_step s p hlt hB).symm.trans hb); clear hb
       go_wp2_with (go_at_call 67; refine (one_any s p _ hs hlt).mono ?_; rintro e w1 ⟨rfl, hb1⟩)
       have hb2 := (hbw.trans (hb1.mono hsz)).alloc (Nat.le_trans hsz hb1.size) (.cells #[.int .i32 ((Utf8.decode s p).1 : Nat), .int .i64 ((Utf8.decode s p).2 : Nat), .bool (badAt s p)] 121)
       rw [hB] at hb2
       go_roundw
       case rel => exact ⟨p + (Utf8.decode s p).2, by go_num, hwl, HS.out, hb2⟩
       case measure => simp [intOf]; omega
     · have HS := Lib.hid ((badFrom_at s p hlt hB).symm.trans hb); clear hb
       go_wp2_with (go_at_call 67; refine (one_any s p _ hs hlt).mono ?_; rintro e w1 ⟨rfl, hb1⟩)
       have hb2 := (hbw.trans (hb1.mono hsz)).alloc (Nat.le_trans hsz hb1.size) (.cells #[.int .i32 ((Utf8.decode s p).1 : Nat), .int .i64 ((Utf8.decode s p).2 : Nat), .bool (badAt s p)] 121)
       rw [hB] at hb2
       go_ret
       exact ⟨by rw [← HS.out]; rfl, hb2⟩
   · have HS := Lib.hid (hb.symm.trans (badFrom_end s p hlt)); clear hb
     go_wp2
     go_ret
     exact ⟨by rw [HS.out]; rfl, hbw⟩
end
section
open Go.RowKit
theorem Bx.get_4 {w : World} {b : Nat} {x0 x1 x2 x3 : Value} {T : TypeId} (h : Bx w b #[x0, x1, x2, x3] T) : w.cell? ⟨b, 0, none⟩ = some x0 ∧ w.cell? ⟨b, 1, none⟩ = some x1 ∧ w.cell? ⟨b, 2, none⟩ = some x2 ∧ w.cell? ⟨b, 3, none⟩ = some x3 :=
 ⟨h.cell 0, h.cell 1, h.cell 2, h.cell 3⟩
theorem Bx.get_6 {w : World} {b : Nat} {x0 x1 x2 x3 x4 x5 : Value} {T : TypeId} (h : Bx w b #[x0, x1, x2, x3, x4, x5] T) : w.cell? ⟨b, 0, none⟩ = some x0 ∧ w.cell? ⟨b, 1, none⟩ = some x1 ∧ w.cell? ⟨b, 2, none⟩ = some x2 ∧ w.cell? ⟨b, 3, none⟩ = some x3 ∧ w.cell? ⟨b, 4, none⟩ = some x4 ∧ w.cell? ⟨b, 5, none⟩ = some x5 :=
 ⟨h.cell 0, h.cell 1, h.cell 2, h.cell 3, h.cell 4, h.cell 5⟩
theorem Bx.get_9 {w : World} {b : Nat} {x0 x1 x2 x3 x4 x5 x6 x7 x8 : Value} {T : TypeId} (h : Bx w b #[x0, x1, x2, x3, x4, x5, x6, x7, x8] T) : w.cell? ⟨b, 0, none⟩ = some x0 ∧ w.cell? ⟨b, 1, none⟩ = some x1 ∧ w.cell? ⟨b, 2, none⟩ = some x2 ∧ w.cell? ⟨b, 3, none⟩ = some x3 ∧ w.cell? ⟨b, 4, none⟩ = some x4 ∧ w.cell? ⟨b, 5, none⟩ = some x5 ∧ w.cell? ⟨b, 6, none⟩ = some x6 ∧ w.cell? ⟨b, 7, none⟩ = some x7 ∧ w.cell? ⟨b, 8, none⟩ = some x8 :=
 ⟨h.cell 0, h.cell 1, h.cell 2, h.cell 3, h.cell 4, h.cell 5, h.cell 6, h.cell 7, h.cell 8⟩
end
end Go.Proofs.YtnbfajmdfkgebaaGreatDoor
