/- Statements of layer 2 as walks: two signs. -/
import Derived.Test.YtolhanngkackcaaTold2
import Derived.Test.YtolhanngkackcaaRef
import Derived.Test.YtolhanngkackcaaRefE
set_option linter.unusedSimpArgs false
set_option linter.unusedVariables false
namespace Go.Proofs.Ytolhanngkackcaa
open Go.RowKit

def signs : List ByteArray := [⟨#[123]⟩, ⟨#[125]⟩, ⟨#[40]⟩, ⟨#[41]⟩, ⟨#[59]⟩, ⟨#[44]⟩, ⟨#[46]⟩, ⟨#[61]⟩, ⟨#[60]⟩, ⟨#[43]⟩, ⟨#[45]⟩, ⟨#[42]⟩, ⟨#[37]⟩, ⟨#[33]⟩, ⟨#[35]⟩, ⟨#[64]⟩]
theorem which (a : Int) (m : Nat) (hm : 0 < m) (hm2 : m < 9223372036854775808) : ∃ (x : Int) (i : Nat), IntKind.u64.wrap a = x ∧ x.tmod m = (i : Int) ∧ i < m ∧ IntKind.u64.wrap (i : Int) = i ∧ IntKind.i64.wrap (i : Int) = i ∧ IntKind.u64.wrap (m : Int) = m := by
  have h0 : 0 ≤ IntKind.u64.wrap a := by rw [IntKind.wrap_u64]; omega
  refine ⟨IntKind.u64.wrap a, (IntKind.u64.wrap a).toNat % m, rfl, ?_, Nat.mod_lt _ hm, ?_, ?_, ?_⟩
  · rw [Int.tmod_eq_emod_of_nonneg h0, Int.natCast_emod, Int.toNat_of_nonneg h0]
  · have := Nat.mod_lt (IntKind.u64.wrap a).toNat hm; rw [IntKind.wrap_u64]; omega
  · have := Nat.mod_lt (IntKind.u64.wrap a).toNat hm; rw [IntKind.wrap_i64]; omega
  · rw [IntKind.wrap_u64]; omega
def oneSign (u v : ByteArray) : Bool := u.data.toList ++ v.data.toList == [60, 61] || (u.data.toList ++ v.data.toList == [61, 61] || u.data.toList ++ v.data.toList == [33, 61])
def pairOk (u v : ByteArray) : Bool := decide (u.size = 1 ∧ v.size = 1 ∧ allE (u ++ v) = 0 ∧ allA (u ++ v) = 0 ∧ allW (u ++ v) = if oneSign u v then [⟨4, u.data.toList ++ v.data.toList, 0⟩] else [⟨4, u.data.toList, 0⟩, ⟨4, v.data.toList, 1⟩])
theorem pairs_ok : (List.range 16).all (fun i => (List.range 16).all fun j => pairOk (signs.getD i ByteArray.empty) (signs.getD j ByteArray.empty)) = true := by decide +kernel
theorem pair_ok (i j : Nat) (hi : i < 16) (hj : j < 16) : pairOk (signs.getD i ByteArray.empty) (signs.getD j ByteArray.empty) = true := by
  have h := pairs_ok
  rw [List.all_eq_true] at h
  have h2 := h i (List.mem_range.2 hi)
  rw [List.all_eq_true] at h2
  exact h2 j (List.mem_range.2 hj)
theorem two_list (u v : ByteArray) : (u ++ v).data.toList = u.data.toList ++ v.data.toList := by simp [ByteArray.data_append]
def SignsSaid (a b : Int) (w : World) : Prop := Calls Try.prog 6 #[.int .i64 a, .int .i64 b] w fun e w' => e = .returned (.bool true) ∧ Below w.heap.size w w'
set_option maxRecDepth 100000 in
set_option maxHeartbeats 4000000 in
theorem lawWordSigns (a b : Int) (ha : (Lit.int .i64 a).wf = true) (hb : (Lit.int .i64 b).wf = true) (w : World) : SignsSaid a b w := by
  unfold SignsSaid
  obtain ⟨x, i, a1, a2, a3, a4, a5, a6⟩ := which a 16 (by omega) (by omega)
  obtain ⟨y, j, b1, b2, b3, b4, b5, b6⟩ := which b 16 (by omega) (by omega)
  have e16 : ((16 : Nat) : Int) = 16 := rfl
  rw [e16] at a2 a6 b2
  clear e16 b6
  have c1 := cells_lit w 9 #[.string ⟨#[123]⟩, .string ⟨#[125]⟩, .string ⟨#[40]⟩, .string ⟨#[41]⟩, .string ⟨#[59]⟩, .string ⟨#[44]⟩, .string ⟨#[46]⟩, .string ⟨#[61]⟩, .string ⟨#[60]⟩, .string ⟨#[43]⟩, .string ⟨#[45]⟩, .string ⟨#[42]⟩, .string ⟨#[37]⟩, .string ⟨#[33]⟩, .string ⟨#[35]⟩, .string ⟨#[64]⟩] signs rfl i a3
  have c2 := cells_lit w 9 #[.string ⟨#[123]⟩, .string ⟨#[125]⟩, .string ⟨#[40]⟩, .string ⟨#[41]⟩, .string ⟨#[59]⟩, .string ⟨#[44]⟩, .string ⟨#[46]⟩, .string ⟨#[61]⟩, .string ⟨#[60]⟩, .string ⟨#[43]⟩, .string ⟨#[45]⟩, .string ⟨#[42]⟩, .string ⟨#[37]⟩, .string ⟨#[33]⟩, .string ⟨#[35]⟩, .string ⟨#[64]⟩] signs rfl j b3
  rw [Nat.zero_add] at c1 c2
  have hp := pair_ok i j a3 b3
  obtain ⟨u, hu⟩ : ∃ u, signs.getD i ByteArray.empty = u := ⟨_, rfl⟩
  obtain ⟨v, hv⟩ : ∃ v, signs.getD j ByteArray.empty = v := ⟨_, rfl⟩
  rw [hu] at c1 hp
  rw [hv] at c2 hp
  clear hu hv
  unfold pairOk at hp
  rw [decide_eq_true_iff] at hp
  obtain ⟨p1, p2, p3, p4, p5⟩ := hp
  have q1 : u.size ≤ 1 := by omega
  have q2 : v.size ≤ 1 := by omega
  have qs : (u ++ v).size ≤ 2 := by rw [ByteArray.size_append]; omega
  clear p1 p2
  have hz : (u ++ v).toList = u.data.toList ++ v.data.toList := by rw [Lib.toList_data, two_list]
  have hone : oneSign u v = ((u ++ v).toList == [60, 61] || ((u ++ v).toList == [61, 61] || (u ++ v).toList == [33, 61])) := by rw [hz]; rfl
  have htx : (⟨(u.data.toList ++ v.data.toList).toArray⟩ : ByteArray) = u ++ v := (ba_is (u ++ v) _ (two_list u v)).symm
  have hux : (⟨u.data.toList.toArray⟩ : ByteArray) = u := (ba_is u _ rfl).symm
  have hvx : (⟨v.data.toList.toArray⟩ : ByteArray) = v := (ba_is v _ rfl).symm
  have ht : oneSign u v = true → Hid (∀ W, Calls Try.prog 10 #[.string (u ++ v)] W fun e w' => ∃ z : Value, e = .returned (.tuple #[z, .int .i64 0, .int .i64 0]) ∧ w'.ownsRow W.heap.size 32 3 z 1 [.int .i64 4, .string (u ++ v), .int .i64 0] ∧ Below W.heap.size W w') := by
    intro h
    show ∀ W, _
    intro W
    rw [h] at p5
    have := tell (u ++ v) _ 0 0 p5 p3 p4 (by unfold maxLen; omega) W
    rw [if_pos rfl] at this
    rw [show cellsW [⟨4, u.data.toList ++ v.data.toList, 0⟩] = [.int .i64 4, .string ⟨(u.data.toList ++ v.data.toList).toArray⟩, .int .i64 0] from rfl, htx] at this
    exact this
  have hf : oneSign u v = false → Hid (∀ W, Calls Try.prog 10 #[.string (u ++ v)] W fun e w' => ∃ z : Value, e = .returned (.tuple #[z, .int .i64 0, .int .i64 0]) ∧ w'.ownsRow W.heap.size 32 3 z 2 [.int .i64 4, .string u, .int .i64 0, .int .i64 4, .string v, .int .i64 1] ∧ Below W.heap.size W w') := by
    intro h
    show ∀ W, _
    intro W
    rw [h] at p5
    have := tell (u ++ v) _ 0 0 p5 p3 p4 (by unfold maxLen; omega) W
    rw [if_neg (by simp)] at this
    rw [show cellsW [⟨4, u.data.toList, 0⟩, ⟨4, v.data.toList, 1⟩] = [.int .i64 4, .string ⟨u.data.toList.toArray⟩, .int .i64 0, .int .i64 4, .string ⟨v.data.toList.toArray⟩, .int .i64 1] from rfl, hux, hvx] at this
    exact this
  clear htx hux hvx p3 p4 p5 hz
  rw [hone] at ht hf
  clear hone
  have hB : ∀ nq, Below w.heap.size w ((w.alloc (.cells #[.string ⟨#[123]⟩, .string ⟨#[125]⟩, .string ⟨#[40]⟩, .string ⟨#[41]⟩, .string ⟨#[59]⟩, .string ⟨#[44]⟩, .string ⟨#[46]⟩, .string ⟨#[61]⟩, .string ⟨#[60]⟩, .string ⟨#[43]⟩, .string ⟨#[45]⟩, .string ⟨#[42]⟩, .string ⟨#[37]⟩, .string ⟨#[33]⟩, .string ⟨#[35]⟩, .string ⟨#[64]⟩] 9)).drewN nq) := fun nq => below_drewN (box_below _ _ _) nq
  go_enter Try.func6, Try.ntmps6
  cases t1 : (u ++ v).toList == [60, 61]
  all_goals cases t2 : (u ++ v).toList == [61, 61]
  all_goals cases t3 : (u ++ v).toList == [33, 61]
  all_goals rw [t1, t2, t3] at ht hf
  all_goals first
    | (replace hf := hf rfl
       clear ht
       have HB := Lib.hid hB; clear hB
       go_wp2
       go_quiet (fail)
       rename_i nq
       have hB := HB.out nq; clear HB
       generalize (w.alloc (.cells #[.string ⟨#[123]⟩, .string ⟨#[125]⟩, .string ⟨#[40]⟩, .string ⟨#[41]⟩, .string ⟨#[59]⟩, .string ⟨#[44]⟩, .string ⟨#[46]⟩, .string ⟨#[61]⟩, .string ⟨#[60]⟩, .string ⟨#[43]⟩, .string ⟨#[45]⟩, .string ⟨#[42]⟩, .string ⟨#[37]⟩, .string ⟨#[33]⟩, .string ⟨#[35]⟩, .string ⟨#[64]⟩] 9)).drewN nq = W at hB ⊢
       clear c1 c2 a1 a2 a4 a5 a6 b1 b2 b4 b5
       go_wp2_with (first
         | (go_at_call 10; refine (hf.out _).mono ?_; clear hf; rintro e w1 ⟨z, rfl, ho, hb1⟩; obtain ⟨g, cap, rfl, hB1, hg, hcap, hm, _⟩ := own_at ho (by decide); replace hB := hB.trans (hb1.mono hB.size); clear hb1)
         | (go_at_call 9; refine (told2_any _).mono ?_; rintro e w2 ⟨rfl, hb2⟩; replace ho := own_next ho hb2; have d1 := own_cell ho 1 _ rfl; have d4 := own_cell ho 4 _ rfl; have d5 := own_cell ho 5 _ rfl; clear ho; replace hB := hB.trans (hb2.mono hB.size); clear hb2))
       go_ret
       exact ⟨rfl, hB⟩)
    | (replace ht := ht rfl
       clear hf
       have HB := Lib.hid hB; clear hB
       go_wp2
       go_quiet (fail)
       rename_i nq
       have hB := HB.out nq; clear HB
       generalize (w.alloc (.cells #[.string ⟨#[123]⟩, .string ⟨#[125]⟩, .string ⟨#[40]⟩, .string ⟨#[41]⟩, .string ⟨#[59]⟩, .string ⟨#[44]⟩, .string ⟨#[46]⟩, .string ⟨#[61]⟩, .string ⟨#[60]⟩, .string ⟨#[43]⟩, .string ⟨#[45]⟩, .string ⟨#[42]⟩, .string ⟨#[37]⟩, .string ⟨#[33]⟩, .string ⟨#[35]⟩, .string ⟨#[64]⟩] 9)).drewN nq = W at hB ⊢
       clear c1 c2 a1 a2 a4 a5 a6 b1 b2 b4 b5
       go_wp2_with (first
         | (go_at_call 10; refine (ht.out _).mono ?_; clear ht; rintro e w1 ⟨z, rfl, ho, hb1⟩; obtain ⟨g, cap, rfl, hB1, hg, hcap, hm, _⟩ := own_at ho (by decide); replace hB := hB.trans (hb1.mono hB.size); clear hb1)
         | (go_at_call 9; refine (told2_any _).mono ?_; rintro e w2 ⟨rfl, hb2⟩; replace ho := own_next ho hb2; have d1 := own_cell ho 1 _ rfl; clear ho; replace hB := hB.trans (hb2.mono hB.size); clear hb2))
       go_ret
       exact ⟨rfl, hB⟩)
end Go.Proofs.Ytolhanngkackcaa
