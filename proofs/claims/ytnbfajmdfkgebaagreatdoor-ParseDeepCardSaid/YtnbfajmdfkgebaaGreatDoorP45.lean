/- Parts of the proof: PdA, PdB, PdC. -/
import Derived.Test.YtnbfajmdfkgebaaGreatDoorP40
import Derived.Test.YtnbfajmdfkgebaaGreatDoorTold6
set_option maxHeartbeats 4000000
set_option maxRecDepth 100000
namespace Go.Proofs.YtnbfajmdfkgebaaGreatDoor
set_option linter.unusedSimpArgs false
set_option linter.unusedVariables false
section
open Go.RowKit
def opnT (k : Nat) : ByteArray := ⟨(List.replicate k 40).toArray⟩
def shtT (k : Nat) : ByteArray := ⟨(List.replicate k 41).toArray⟩
def deepT (k : Nat) : ByteArray := opnT k ++ ⟨#[97]⟩ ++ shtT k
def leafN : Nd → Bool
 | .ex k _ tx nm ty _ [] _ _ => k == 6 && decide (tx.size ≤ 100 ∧ nm.size ≤ 100 ∧ ty.size ≤ 100)
 | _ => false
def deepOk (k : Nat) : Bool := if 41 < k then decide (exO (deepT k) = (4, 41)) else (decide (exO (deepT k) = (0, 0)) && leafN (bareN (exT (deepT k))) && decide ((exT (deepT k)).size ≤ 400))
theorem deepOk_all : ((List.range 11).all fun i => deepOk (35 + i)) = true := by decide +kernel
theorem deepOk_is (i : Nat) (h : i < 11) : deepOk (35 + i) = true := (List.all_eq_true.1 deepOk_all) i (List.mem_range.2 h)
theorem opnT_next (k : Nat) : opnT k ++ ⟨#[40]⟩ = opnT (k + 1) := by
 have h : (opnT k ++ ⟨#[40]⟩).data = (opnT (k + 1)).data := by
   apply Array.toList_inj.1
   rw [ByteArray.data_append]
   simp only [opnT, List.replicate_succ', Array.toList_append]
 cases h1 : opnT k ++ ⟨#[40]⟩; cases h2 : opnT (k + 1); rw [h1, h2] at h; simpa using h
theorem shtT_next (k : Nat) : shtT k ++ ⟨#[41]⟩ = shtT (k + 1) := by
 have h : (shtT k ++ ⟨#[41]⟩).data = (shtT (k + 1)).data := by
   apply Array.toList_inj.1
   rw [ByteArray.data_append]
   simp only [shtT, List.replicate_succ', Array.toList_append]
 cases h1 : shtT k ++ ⟨#[41]⟩; cases h2 : shtT (k + 1); rw [h1, h2] at h; simpa using h
theorem opnT_size (k : Nat) : (opnT k).size = k := by show (List.replicate k 40).toArray.size = k; simp
theorem shtT_size (k : Nat) : (shtT k).size = k := by show (List.replicate k 41).toArray.size = k; simp
end
section
open Go.RowKit
theorem exprs_none (w : World) (A : Option Addr) (cap : Nat) (d : Int) : Calls Tryz.prog 32 #[.slice A 0 cap, .int .i64 d] w fun e w' => e = .returned (.int .i64 0) ∧ Below w.heap.size w w' := by
 have hc := Below.refl w.heap.size w
 go_enter Tryz.func32, Tryz.ntmps32
 go_wp2
 go_loopw [5, 6] (fun v5 v6 wr => v6 = .int .i64 0 ∧ v5 = .int .i64 0 ∧ Below w.heap.size w wr) (fun v5 v6 wr => 0)
 case atStart => exact ⟨rfl, rfl, hc⟩
 case round =>
   obtain ⟨rfl, rfl, hb⟩ := hrel
   have HB := Lib.hid hb
   clear hb hc
   go_wp2
   (try simp only [Exit.inBlock, Exit.then])
   go_ret
   exact ⟨rfl, HB.out⟩
theorem exprs_leaf (w : World) (b cap : Nat) (k n : Int) (tx nm ty own : ByteArray) (A : Option Addr) (c nth : Nat) (h : Bx w b #[.int .i64 k, .int .i32 n, .string tx, .string nm, .string ty, .slice A 0 c, .string own, .int .i64 nth] 36) (h1 : (tx.size : Int) ≤ 100) (h2 : (nm.size : Int) ≤ 100) (h3 : (ty.size : Int) ≤ 100) :
   Calls Tryz.prog 32 #[.slice (some ⟨b, 0, none⟩) 1 1, .int .i64 0] w fun e w' => e = .returned (.int .i64 1) ∧ Below w.heap.size w w' := by
 have HE : Hid (∀ w', Calls Tryz.prog 32 #[.slice A 0 c, .int .i64 1] w' fun e w'' => e = .returned (.int .i64 0) ∧ Below w'.heap.size w' w'') := Lib.hid fun w' => exprs_none w' A c 1
 have HX := Lib.hid h
 have h4 : (tx.size : Int) ≤ 2000 := by omega
 clear h
 go_enter Tryz.func32, Tryz.ntmps32
 go_wp2
 go_loopw [5, 6] (fun v5 v6 wr => (v6 = .int .i64 0 ∧ v5 = .int .i64 0 ∨ v6 = .int .i64 1 ∧ v5 = .int .i64 1) ∧ Below w.heap.size w wr) (fun v5 v6 wr => 1 - (intOf v6).toNat)
 case atStart => exact ⟨.inl ⟨rfl, rfl⟩, Below.refl _ _⟩
 case round =>
   obtain ⟨hv, hb⟩ := hrel
   have HB := Lib.hid hb
   obtain ⟨x0, x1, x2, x3, x4, x5, x6, x7⟩ := (HX.out.next hb).all_8
   rcases hv with ⟨rfl, rfl⟩ | ⟨rfl, rfl⟩
   · clear hb
     go_wp2_with (go_at_call 32; refine (HE.out _).mono ?_; rintro e w1 ⟨rfl, hb1⟩; have HB1 := Lib.hid hb1; clear hb1)
     exact ⟨⟨.inr ⟨rfl, rfl⟩, HB.out.trans (HB1.out.mono HB.out.size)⟩, by simp [intOf]⟩
   · clear hb
     go_wp2
     go_ret
     exact ⟨rfl, HB.out⟩
theorem few_leaf (w : World) (k n : Int) (tx nm ty own : ByteArray) (A : Option Addr) (c nth : Nat) (h1 : (tx.size : Int) ≤ 100) (h2 : (nm.size : Int) ≤ 100) (h3 : (ty.size : Int) ≤ 100) :
   Calls Tryz.prog 11 #[.agg #[.int .i64 k, .int .i32 n, .string tx, .string nm, .string ty, .slice A 0 c, .string own, .int .i64 nth]] w fun e w' => e = .returned (.bool true) ∧ Below w.heap.size w w' := by
 obtain ⟨W, hW⟩ : ∃ W, (w.alloc (.cells #[.int .i64 k, .int .i32 n, .string tx, .string nm, .string ty, .slice A 0 c, .string own, .int .i64 nth] 36)).alloc (.cells #[.int .i64 k, .int .i32 n, .string tx, .string nm, .string ty, .slice A 0 c, .string own, .int .i64 nth] 36) = W := ⟨_, rfl⟩
 have hb : Below w.heap.size w W := by rw [← hW]; exact ((Below.refl _ w).alloc (Nat.le_refl _) _).alloc (by simp) _
 have hx : Bx W (w.heap.size + 1) #[.int .i64 k, .int .i32 n, .string tx, .string nm, .string ty, .slice A 0 c, .string own, .int .i64 nth] 36 := by
   rw [← hW]
   have := Bx.new (w.alloc (.cells #[.int .i64 k, .int .i32 n, .string tx, .string nm, .string ty, .slice A 0 c, .string own, .int .i64 nth] 36)) #[.int .i64 k, .int .i32 n, .string tx, .string nm, .string ty, .slice A 0 c, .string own, .int .i64 nth] 36
   simpa using this
 have HC := Lib.hid (exprs_leaf W (w.heap.size + 1) 1 k n tx nm ty own A c nth hx h1 h2 h3)
 have HB := Lib.hid hb
 clear hb hx
 subst hW
 go_enter Tryz.func11, Tryz.ntmps11
 go_wp2_with (go_at_call 32; refine HC.out.mono ?_; rintro e w1 ⟨rfl, hb1⟩; have HB1 := Lib.hid hb1; clear hb1)
 go_ret
 exact ⟨rfl, HB.out.trans (HB1.out.mono HB.out.size)⟩
end
section
open Go.RowKit
def DpC (k : Nat) (w : World) (e : Ending) (w' : World) : Prop := ∃ (kk n : Int) (tx nm ty : ByteArray) (A : Option Addr) (m cap : Nat) (x a : Int), e = .returned (.tuple #[.agg #[.int .i64 kk, .int .i32 n, .string tx, .string nm, .string ty, .slice A m cap, .string ⟨#[]⟩, .int .i64 0], .int .i64 x, .int .i64 a]) ∧ Below w.heap.size w w' ∧ (41 < k → x = 4 ∧ a = 41) ∧ (k ≤ 41 → x = 0 ∧ kk = 6 ∧ m = 0 ∧ (tx.size : Int) ≤ 100 ∧ (nm.size : Int) ≤ 100 ∧ (ty.size : Int) ≤ 100)
theorem dp_any (i : Nat) (hi : i < 11) (w : World) (hv : Vars w) : Calls Tryz.prog 10 #[.string (deepT (35 + i))] w (DpC (35 + i) w) := by
 have hs : (deepT (35 + i)).size ≤ maxLen := by
   unfold deepT maxLen
   rw [ByteArray.size_append, ByteArray.size_append, opnT_size, shtT_size]
   show 35 + i + 1 + (35 + i) ≤ _
   omega
 refine (expr_text w _ hv hs).mono ?_
 rintro e w' ⟨y, rfl, hk, hb⟩
 have hd := deepOk_is i hi
 have hbare := hk.bare
 obtain ⟨kk, n, tx, nm, ty, A, cap, l, rfl, _⟩ := hk
 refine ⟨kk, n, tx, nm, ty, A, l.length, cap, _, _, rfl, hb, fun h => ?_, fun h => ?_⟩
 · rw [deepOk, if_pos h] at hd
   have := of_decide_eq_true hd
   rw [this]; exact ⟨rfl, rfl⟩
 · rw [deepOk, if_neg (by omega)] at hd
   simp only [Bool.and_eq_true, decide_eq_true_eq] at hd
   obtain ⟨⟨h0, h1⟩, _⟩ := hd
   rw [← hbare] at h1
   cases l with
   | cons x l => simp [bareN, bareL, leafN] at h1
   | nil =>
     simp only [bareN, bareL, leafN, Bool.and_eq_true, beq_iff_eq, decide_eq_true_eq] at h1
     obtain ⟨h2, h3, h4, h5⟩ := h1
     rw [h0]
     exact ⟨rfl, h2, rfl, by omega, by omega, by omega⟩
theorem pdeep_any (w : World) (n : Int) (hv : Vars w) : Calls Tryz.prog 5 #[.int .i64 n] w fun e w' => e = .returned (.bool true) ∧ Below w.heap.size w w' := by
 obtain ⟨i, hmod, hi11⟩ : ∃ i : Nat, (IntKind.u64.wrap n).tmod 11 = (i : Int) ∧ i < 11 := by
   have h0 : 0 ≤ IntKind.u64.wrap n := by rw [IntKind.wrap_u64]; omega
   refine ⟨(IntKind.u64.wrap n).toNat % 11, ?_, Nat.mod_lt _ (by omega)⟩
   rw [Int.tmod_eq_emod_of_nonneg h0, Int.natCast_emod, Int.toNat_of_nonneg h0]; rfl
 have hb0 : (0 : Int) ≤ (i : Int) := by omega
 have hb1 : (i : Int) ≤ 10 := by omega
 have HV := Lib.hid hv
 have HI := Lib.hid hi11
 clear hv hi11
 go_enter Tryz.func5, Tryz.ntmps5
 go_wp2_with fail
 go_loopw [4, 5, 6] (fun v4 v5 v6 wr => ∃ j : Nat, v6 = .int .i64 j ∧ j ≤ 35 + i ∧ v4 = .string (opnT j) ∧ v5 = .string (shtT j) ∧ wr = w) (fun v4 v5 v6 wr => 35 + i - (intOf v6).toNat)
 case atStart => exact ⟨0, rfl, by omega, rfl, rfl, rfl⟩
 case round =>
   obtain ⟨j, rfl, hj, rfl, rfl, rfl⟩ := hrel
   have hi11 := HI.out
   by_cases hlt : j < 35 + i
   · have hl : (j : Int) < 35 + (i : Int) := by omega
     have s1 := opnT_size j; have s2 := shtT_size j
     have n1 := opnT_next j; have n2 := shtT_next j
     have HN := Lib.hid (And.intro n1 n2)
     clear n1 n2 hi11
     go_wp2_with fail
     exact ⟨⟨j + 1, by simp, by omega, by rw [HN.out.1], by rw [HN.out.2], trivial⟩, by simp [intOf]; omega⟩
   · have hje : j = 35 + i := by omega
     subst hje
     have HD := Lib.hid (dp_any i hi11 wr HV.out)
     have hdt : opnT (35 + i) ++ ⟨#[97]⟩ ++ shtT (35 + i) = deepT (35 + i) := rfl
     clear hi11
     have s1 := opnT_size (35 + i); have s2 := shtT_size (35 + i)
     by_cases h41 : 41 < 35 + i
     · have h41' : (41 : Int) < 35 + (i : Int) := by omega
       go_wp2_with (first
         | (go_at_call 10; refine HD.out.mono ?_; rintro e w1 ⟨kk, n', tx, nm, ty, A, m, cap, x, a, rfl, hb, hA, hB⟩; obtain ⟨rfl, rfl⟩ := hA h41; have HB1 := Lib.hid hb; clear hb hA hB)
         | (go_at_call 6; refine (told_any _ (HV.out.keep (Keep.below (by first | exact HB1.out.alloc HB1.out.size _)))).mono ?_; rintro e w2 ⟨rfl, hb⟩; have HB2 := Lib.hid hb; clear hb))
       go_ret
       have h2 : Below wr.heap.size wr (w1.alloc (.cells #[.int .i64 kk, .int .i32 n', .string tx, .string nm, .string ty, .slice A m cap, .string ⟨#[]⟩, .int .i64 0] 36)) := HB1.out.alloc HB1.out.size _
       exact ⟨rfl, h2.trans (HB2.out.mono h2.size)⟩
     · have h41' : (35 : Int) + (i : Int) ≤ 41 := by omega
       have h41n : 35 + i ≤ 41 := by omega
       clear h41
       go_wp2_with (first
         | (go_at_call 10; refine HD.out.mono ?_; rintro e w1 ⟨kk, n', tx, nm, ty, A, m, cap, x, a, rfl, hb, hA, hB⟩; obtain ⟨rfl, rfl, rfl, b1, b2, b3⟩ := hB h41n; have HB1 := Lib.hid hb; clear hb hA hB)
         | (go_at_call 6; refine (told_any _ (HV.out.keep (Keep.below (by first | exact HB1.out.alloc HB1.out.size _)))).mono ?_; rintro e w2 ⟨rfl, hb⟩; obtain ⟨z0, z1, z2, z3, z4, z5, z6, z7⟩ := ((Bx.new w1 #[.int .i64 6, .int .i32 n', .string tx, .string nm, .string ty, .slice A 0 cap, .string ⟨#[]⟩, .int .i64 0] 36).next hb).all_8; have HB2 := Lib.hid hb; clear hb)
         | (go_at_call 11; refine (few_leaf _ 6 n' tx nm ty ⟨#[]⟩ A cap 0 b1 b2 b3).mono ?_; rintro e w3 ⟨rfl, hb⟩; have HB3 := Lib.hid hb; clear hb))
       go_ret
       have h2 : Below wr.heap.size wr (w1.alloc (.cells #[.int .i64 6, .int .i32 n', .string tx, .string nm, .string ty, .slice A 0 cap, .string ⟨#[]⟩, .int .i64 0] 36)) := HB1.out.alloc HB1.out.size _
       have h3 := h2.trans (HB2.out.mono h2.size)
       exact ⟨rfl, h3.trans (HB3.out.mono h3.size)⟩
end
end Go.Proofs.YtnbfajmdfkgebaaGreatDoor
