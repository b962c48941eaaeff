/- Parts of the proof: SpY, SpZ. -/
import Derived.Test.YtipcoglddfgopaaGreatDoorP8
import Derived.Test.YtipcoglddfgopaaGreatDoorOpenL
import Derived.Test.YtipcoglddfgopaaGreatDoorP10
import Derived.Test.YtipcoglddfgopaaGreatDoorP40
import Derived.Test.YtipcoglddfgopaaGreatDoorP11
import Derived.Deep.CutRange
import Derived.Deep.QuietTactic
import Derived.BigQuiet
import Derived.Test.YtipcoglddfgopaaGreatDoorP45
set_option maxHeartbeats 4000000
set_option maxRecDepth 100000
namespace Go.Proofs.YtipcoglddfgopaaGreatDoor
set_option linter.unusedSimpArgs false
set_option linter.unusedVariables false
section
open Go.RowKit
/-! ### Plain: a byte more -/
theorem B_cat (X Y : List UInt8) : B X ++ B Y = B (X ++ Y) := by
 apply ByteArray.ext; simp [B]
theorem ext_one (T : ByteArray) (j : Nat) (x : UInt8) (h : T.data.toList[j]? = some x) : T.extract j (j + 1) = B [x] := by
 apply ba_is
 rw [extract_list, Nat.add_sub_cancel_left, List.take_one, List.head?_drop, h]; rfl
theorem sp_snoc (bb L : List UInt8) (j : Nat) (x : UInt8) (h : L[j]? = some x) : spB bb (L.take (j + 1)) = spB bb (L.take j) ++ spB bb [x] := by
 rw [List.take_add_one, h, Option.toList_some]; simp [spB]
theorem sp_yes (bb : List UInt8) (T : ByteArray) (j : Nat) (x : UInt8) (h : T.data.toList[j]? = some x) (hx : x = 59 ∨ x = 123 ∨ x = 44) : B (spB bb (T.data.toList.take j)) ++ T.extract j (j + 1) ++ B bb = B (spB bb (T.data.toList.take (j + 1))) := by
 rw [sp_snoc _ _ _ _ h, ext_one T j x h, B_cat, B_cat]
 simp [spB, hx]
theorem sp_no (bb : List UInt8) (T : ByteArray) (j : Nat) (x : UInt8) (h : T.data.toList[j]? = some x) (hx : ¬ (x = 59 ∨ x = 123 ∨ x = 44)) : B (spB bb (T.data.toList.take j)) ++ T.extract j (j + 1) = B (spB bb (T.data.toList.take (j + 1))) := by
 rw [sp_snoc _ _ _ _ h, ext_one T j x h, B_cat]
 simp [spB, hx]
theorem sp_len {bb : List UInt8} (hb : bb ∈ bks) : ∀ l : List UInt8, (spB bb l).length ≤ 9 * l.length
 | [] => by simp [spB]
 | x :: l => by
   have ih := sp_len hb l
   have h8 : bb.length ≤ 8 := by
     unfold bks at hb
     simp only [List.mem_cons, List.not_mem_nil, or_false] at hb
     rcases hb with rfl | rfl | rfl | rfl | rfl <;> simp
   have : spB bb (x :: l) = (if x = 59 ∨ x = 123 ∨ x = 44 then x :: bb else [x]) ++ spB bb l := by simp [spB]
   rw [this, List.length_append]
   split <;> simp <;> omega
theorem sp_size {bb : List UInt8} (hb : bb ∈ bks) (T : ByteArray) (j : Nat) (hj : j ≤ T.size) : (B (spB bb (T.data.toList.take j))).size ≤ 9 * j := by
 have := sp_len hb (T.data.toList.take j)
 rw [List.length_take] at this
 rw [B_size]
 omega
theorem bb_size {bb : List UInt8} (hb : bb ∈ bks) : (B bb).size ≤ 8 := by
 unfold bks at hb
 simp only [List.mem_cons, List.not_mem_nil, or_false] at hb
 rcases hb with rfl | rfl | rfl | rfl | rfl <;> decide
theorem num_yes {x : UInt8} {n : UInt8} (h : x = n) : ((x.toNat : Int) == (n.toNat : Int)) = true := by subst h; simp
theorem num_no {x : UInt8} {n : UInt8} (h : ¬ x = n) : ((x.toNat : Int) == (n.toNat : Int)) = false := by
 rw [beq_eq_false_iff_ne]
 intro e
 exact h (UInt8.toNat_inj.1 (by omega))
theorem prT_sizeS (s : ByteArray) : sizeL (prT s) ≤ 1000000 := by
 unfold prT
 split
 · have h1 := prg_size (RS0 s)
   have h2 : (RS0 s).len ≤ 8000 := by simpa [RS0, RS.len] using all_few s
   omega
 · simp [sizeL]
theorem same_prsS {ys zs l : List Nd} (hy : bareL ys = bareL l) (hz : bareL zs = bareL l) : sameL ys zs = true := by
 rw [sameL_of_bare (hy.trans hz.symm)]
 exact sameL_refl _ _ (Nat.le_refl _)
def SmS (w : World) (v v' : Value) : Prop := ∀ W, Below w.heap.size w W → Calls Tryz.prog 7 #[.agg #[v], .agg #[v']] W fun e W' => e = .returned (.bool true) ∧ Below W.heap.size W W'
theorem sms_of {w : World} {B C : Nat} {v v' : Value} {ys zs l : List Nd} (hy : FkL B w .cl v ys) (hz : FkL C w .cl v' zs) (ey : bareL ys = bareL l) (ez : bareL zs = bareL l) (hs : sizeL l ≤ 1000000) : SmS w v v' := fun W hb =>
 ref_same_prog W v v' ys zs (hy.below hb).now.1 (hy.below hb).now.2 (hz.below hb).now.1 (hz.below hb).now.2 (by rw [sizeL_of_bare ey]; exact hs) true (same_prsS ey ez)
def PgS (w : World) (l : List Nd) (e : Ending) (w' : World) : Prop :=
 ∃ (A : Option Addr) (cap : Nat) (ys : List Nd), e = .returned (.tuple #[.agg #[.slice A ys.length cap], .int .i64 0, .int .i64 0]) ∧ FkL w.heap.size w' .cl (.slice A ys.length cap) ys ∧ bareL ys = bareL l ∧ Below w.heap.size w w'
theorem pgs_of {w : World} {s : ByteArray} {l : List Nd} {e : Ending} {w' : World} (h : PgmC w s e w') (h1 : prO s = (0, 0)) (h2 : prT s = l) : PgS w l e w' := by
 unfold PgmC at h
 rw [h1, h2] at h
 exact h
theorem pspaces_of (w : World) (v2 : Value) (k : Int) (zss : List (List Int)) (hl : LlL w v2 zss) (ht : ∀ w', Below w.heap.size w w' → Calls Tryz.prog 5 #[] w' fun e w'' => e = .returned (.bool true) ∧ Below w'.heap.size w' w'') (hp : ∀ w' s, Below w.heap.size w w' → s.size ≤ 8000 → Calls Tryz.prog 6 #[.string s] w' (PgmC w' s)) : Calls Tryz.prog 3 #[v2, .int .i64 k] w fun e w' => e = .returned (.bool true) ∧ Below w.heap.size w w' := by
 have HT := Lib.hid ht
 have HLL := Lib.hid hl
 obtain ⟨A2, cap2, rfl, hn2, _⟩ := hl
 obtain ⟨n2, hn2'⟩ : ∃ n, zss.length = n := ⟨_, rfl⟩
 rw [hn2'] at HLL hn2 ⊢
 obtain ⟨T, hT⟩ : ∃ x, srcT zss = x := ⟨_, rfl⟩
 have HTZ : Hid (T.size ≤ 5000) := Lib.hid (by rw [← hT]; exact srcT_size zss)
 have HSRC : Hid (∀ W, Below w.heap.size w W → Calls Tryz.prog 4 #[.slice A2 n2 cap2] W fun e W' => e = .returned (.string T) ∧ Below W.heap.size W W') := Lib.hid fun W hb => by rw [← hT]; exact source_is W _ zss (HLL.out.keep (Keep.below hb))
 have HTP : Hid (sizeL (prT T) ≤ 1000000) := Lib.hid (prT_sizeS T)
 have HP1 : Hid (∀ W, Below w.heap.size w W → Calls Tryz.prog 6 #[.string T] W (PgS W (prT T))) := Lib.hid fun W hb => (hp W T hb (by have := HTZ.out; omega)).mono fun e w' h => pgs_of h (by rw [← hT]; exact unspaced zss) rfl
 have HP2 : Hid (∀ bb t W, bb ∈ bks → t.data.toList = spB bb T.data.toList → t.size ≤ 8000 → Below w.heap.size w W → Calls Tryz.prog 6 #[.string t] W (PgS W (prT T))) := Lib.hid fun bb t W h1 h2 h3 hb => by
   rw [← hT] at h2
   have h4 := spaced zss h1 t h2 (by omega)
   exact (hp W t hb h3).mono fun e w' h => pgs_of h h4.1 (by rw [h4.2, hT])
 unfold PgS at HP1 HP2
 have HK : Hid (∃ x : Int, IntKind.u64.wrap k = x ∧ (x.tmod 4 = 0 ∨ x.tmod 4 = 1 ∨ x.tmod 4 = 2 ∨ x.tmod 4 = 3)) := Lib.hid (by
   obtain ⟨x, i, a1, a2, a3, _⟩ := whichS k 4 (by omega) (by omega)
   refine ⟨x, a1, ?_⟩
   have e : x.tmod 4 = i := a2
   omega)
 clear hT hn2' ht hp
 go_enter Tryz.func3, Tryz.ntmps3
 go_upto_region 2 with (go_at_call 4; refine (HSRC.out _ (Below.refl _ _)).mono ?_; rintro e w1 ⟨rfl, hb⟩; have HB1 := Lib.hid hb; clear hb)
 go_cut [6] from 17 to 22 (fun v6 wx => ∃ bb, bb ∈ bks ∧ v6 = .string (B bb) ∧ Below w.heap.size w wx)
 case first =>
   obtain ⟨x, a1, a2⟩ := HK.out
   rcases a2 with a2 | a2 | a2 | a2
   · go_wp2_with fail
     go_meet
     case rel => exact ⟨[32], by simp [bks], rfl, (HB1.out.alloc HB1.out.size _)⟩
   · go_wp2_with fail
     go_meet
     case rel => exact ⟨[10], by simp [bks], rfl, (HB1.out.alloc HB1.out.size _)⟩
   · go_wp2_with fail
     go_meet
     case rel => exact ⟨[32, 47, 47, 32, 120, 32, 125, 10], by simp [bks], rfl, (HB1.out.alloc HB1.out.size _)⟩
   · go_wp2_with fail
     go_meet
     case rel => exact ⟨[9, 32], by simp [bks], rfl, (HB1.out.alloc HB1.out.size _)⟩
 case rest =>
   obtain ⟨bb, hbb, rfl, hb⟩ := hcut
   have HBB := Lib.hid hbb
   have HB := Lib.hid hb
   clear hb hbb HK
   go_wp2_with fail
   go_loopw [7, 8] (fun v7 v8 wr => ∃ j : Nat, v8 = .int .i64 j ∧ v7 = .string (B (spB bb (T.data.toList.take j))) ∧ j ≤ T.size ∧ wr = wc) (fun v7 v8 wr => T.size - (intOf v8).toNat)
   case atStart => exact ⟨0, rfl, rfl, Nat.zero_le _, rfl⟩
   case round =>
     obtain ⟨j, rfl, rfl, hj, rfl⟩ := hrel
     obtain ⟨t, ht⟩ : ∃ t, B (spB bb (T.data.toList.take j)) = t := ⟨_, rfl⟩
     rw [ht]
     have HTT := Lib.hid ht
     clear ht
     have hts : Hid (t.size ≤ 9 * j) := Lib.hid (by rw [← HTT.out]; exact sp_size HBB.out T j hj)
     by_cases hjn : j < T.size
     · have h1 : (j : Int) < T.size := by omega
       have h0 : (0 : Int) ≤ j := by omega
       have h2 : (j : Int) + 1 ≤ T.size := by omega
       have h3 : (j : Int) ≤ (j : Int) + 1 := by omega
       have h4 : (0 : Int) ≤ (j : Int) + 1 := by omega
       have h5 : ((j : Int) + 1).toNat = j + 1 := by omega
       have h6 : T.size ≤ 5000 := HTZ.out
       have h7 : t.size ≤ 9 * j := hts.out
       have hlT : j < T.data.toList.length := by simpa using hjn
       obtain ⟨x, hx⟩ : ∃ x, T.data.toList[j]? = some x := ⟨_, List.getElem?_eq_getElem hlT⟩
       have hix : ∀ w : World, (Instr.index 9 (.string T) (.int .i64 j)).run Tryz.prog w = .ok (.int .u8 (x.toNat : Int)) w := by
         intro w
         have := run_index_string (P := Tryz.prog) (w := w) 9 T .i64 j Tryz.underlying9
         rw [this, dif_pos ⟨h0, h1⟩]
         have e : T[(j : Int).toNat]'(by omega) = x := by
           have : T.data.toList[j]? = some (T[j]'hjn) := by rw [List.getElem?_eq_getElem hlT]; rfl
           rw [hx] at this
           exact (Option.some.inj this).symm
         rw [e]
       have HX := Lib.hid hx
       clear hx
       have hbs : (B bb).size ≤ 8 := bb_size HBB.out
       by_cases c1 : x = 59
       · have d1 : ((x.toNat : Int) == 59) = true := num_yes c1
         have C1 := Lib.hid c1
         clear c1
         go_wp2_with fail
         exact ⟨⟨j + 1, by simp, by rw [← HTT.out]; exact congrArg Value.string (sp_yes bb T j x HX.out (.inl C1.out)), by omega, trivial⟩, by simp [intOf]; omega⟩
       have d1 : ((x.toNat : Int) == 59) = false := num_no c1
       have C1 := Lib.hid c1
       clear c1
       by_cases c2 : x = 123
       · have d2 : ((x.toNat : Int) == 123) = true := num_yes c2
         have C2 := Lib.hid c2
         clear c2
         go_wp2_with fail
         exact ⟨⟨j + 1, by simp, by rw [← HTT.out]; exact congrArg Value.string (sp_yes bb T j x HX.out (.inr (.inl C2.out))), by omega, trivial⟩, by simp [intOf]; omega⟩
       have d2 : ((x.toNat : Int) == 123) = false := num_no c2
       have C2 := Lib.hid c2
       clear c2
       by_cases c3 : x = 44
       · have d3 : ((x.toNat : Int) == 44) = true := num_yes c3
         have C3 := Lib.hid c3
         clear c3
         go_wp2_with fail
         exact ⟨⟨j + 1, by simp, by rw [← HTT.out]; exact congrArg Value.string (sp_yes bb T j x HX.out (.inr (.inr C3.out))), by omega, trivial⟩, by simp [intOf]; omega⟩
       have d3 : ((x.toNat : Int) == 44) = false := num_no c3
       have C3 := Lib.hid c3
       clear c3
       go_wp2_with fail
       exact ⟨⟨j + 1, by simp, by rw [← HTT.out]; exact congrArg Value.string (sp_no bb T j x HX.out (by rintro (h | h | h); exact C1.out h; exact C2.out h; exact C3.out h)), by omega, trivial⟩, by simp [intOf]; omega⟩
     · have h1 : (T.size : Int) ≤ j := by omega
       have hjT : j = T.size := by omega
       have HTL : Hid (t.data.toList = spB bb T.data.toList) := Lib.hid (by
         have := HTT.out
         rw [hjT, List.take_of_length_le (by simp)] at this
         rw [← this]; simp [B])
       clear HTT hts hj hjn HSRC HLL HB1
       go_upto_region 10 with fail
       by_cases h8 : 8000 < t.size
       · have h9 : (8000 : Int) < t.size := by omega
         go_wp2_with (go_at_call 5; refine (HT.out _ HB.out).mono ?_; rintro e w1 ⟨rfl, hb⟩; have HB2 := Lib.hid hb; clear hb)
         go_ret
         exact ⟨rfl, HB.out.trans (HB2.out.mono HB.out.size)⟩
       · have h9 : (t.size : Int) ≤ 8000 := by omega
         have H1 := Lib.hid (HP1.out wr HB.out)
         have H2 := Lib.hid (fun W hb => HP2.out bb t W HBB.out HTL.out (by omega) hb)
         clear HP1 HP2 HTL HBB
         go_upto_region 13 with (go_at_call 6; refine H1.out.mono ?_; rintro e w1 ⟨B1, c1, y1, rfl, hk, hbr, hb⟩; have HK1 := Lib.hid hk; have HR1 := Lib.hid hbr; have HB1 := Lib.hid hb; clear hk hbr hb)
         refine gen_worldS (F := fun W => Bx W w1.heap.size #[.slice B1 y1.length c1] 29 ∧ Below w1.heap.size w1 W) ⟨Bx.new _ _ _, (Below.refl _ _).alloc (Nat.le_refl _) _⟩ ?_
         rintro W1 ⟨hx1, hb1⟩
         have HX1 := Lib.hid hx1
         have HW1 := Lib.hid (HB.out.trans ((HB1.out.trans (hb1.mono HB1.out.size)).mono HB.out.size))
         have HK1' := Lib.hid (HK1.out.below hb1)
         clear hx1 hb1 H1 HK1
         go_upto_region 14 with (go_at_call 6; refine (H2.out _ HW1.out).mono ?_; rintro e w2 ⟨B2, c2, y2, rfl, hk, hbr, hb⟩; have HK2 := Lib.hid hk; have HR2 := Lib.hid hbr; have HB2 := Lib.hid hb; clear hk hbr hb)
         refine gen_worldS (F := fun W => Bx W w2.heap.size #[.slice B2 y2.length c2] 29 ∧ Below w2.heap.size w2 W) ⟨Bx.new _ _ _, (Below.refl _ _).alloc (Nat.le_refl _) _⟩ ?_
         rintro W2 ⟨hx2, hb2⟩
         have HX2 := Lib.hid hx2
         have HV2 := Lib.hid (HB2.out.trans (hb2.mono HB2.out.size))
         have HW2 := Lib.hid (HW1.out.trans (HV2.out.mono HW1.out.size))
         have HX12 := Lib.hid (HX1.out.next HV2.out)
         have HSM := Lib.hid (sms_of (HK1'.out.below HV2.out) (HK2.out.below hb2) HR1.out HR2.out HTP.out)
         have HTL := Lib.hid (HT.out _ HW2.out)
         clear hx2 hb2 H2 HK2 HK1' HR1 HR2 HX1 HT
         go_wp2_with (first
           | (go_at_call 5; refine HTL.out.mono ?_; rintro e w7 ⟨rfl, hb⟩; have a0 := (HX12.out.next hb).all_1; have b0 := (HX2.out.next hb).all_1; have hl1 := (HX12.out.next hb).lt; have hl2 := (HX2.out.next hb).lt; have HB7 := Lib.hid hb; clear hb)
           | (go_at_call 7; refine (HSM.out _ HB7.out).mono ?_; clear HSM; rintro e w8 ⟨rfl, hb⟩; have HB8 := Lib.hid (HB7.out.trans (hb.mono HB7.out.size)); clear hb))
         go_ret
         exact ⟨rfl, HW2.out.trans (HB8.out.mono HW2.out.size)⟩
end
section
open Go.RowKit
theorem pspaces_any (w : World) (v1 : Value) (k : Int) (h1 : Ll w v1) (hv : Vars w) : Calls Tryz.prog 3 #[v1, .int .i64 k] w fun e w' => e = .returned (.bool true) ∧ Below w.heap.size w w' := by
 obtain ⟨zss, hz⟩ := h1.list
 exact pspaces_of w v1 k zss hz (fun w' hb => told_any w' (hv.keep (Keep.below hb))) (fun w' s hb h => program_any w' s (hv.keep (Keep.below hb)) (by unfold maxLen; omega))
end
end Go.Proofs.YtipcoglddfgopaaGreatDoor
