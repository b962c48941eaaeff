/- Contracts of the document's own answers for layer 1: small functions. -/
import Derived.Test.YtnphimechniplaaGreatShelf
import Derived.Test.YtnphimechniplaaGreatText
import Derived.Lib.Hide
import Derived.WalkKit
import Derived.BigCall
import Derived.Deep.QuietTactic
import Derived.BigQuiet
set_option linter.unusedSimpArgs false
set_option linter.unusedVariables false
namespace Go.Proofs.YtnphimechniplaaGreat
open Go.RowKit

theorem rsmall_any (r : Int) (w : World) : Calls Tryz.prog 42 #[.int .i32 r] w fun e w' => e = .returned (.bool (small r)) ∧ w = w' := by
  go_enter Tryz.func42, Tryz.ntmps42
  go_wp2
  all_goals (go_ret; exact ⟨by simp [small, *] <;> omega, rfl⟩)
theorem rbig_any (r : Int) (w : World) : Calls Tryz.prog 41 #[.int .i32 r] w fun e w' => e = .returned (.bool (big r)) ∧ w = w' := by
  go_enter Tryz.func41, Tryz.ntmps41
  go_wp2
  all_goals (go_ret; exact ⟨by simp [big, *] <;> omega, rfl⟩)
theorem rdigit_any (r : Int) (w : World) : Calls Tryz.prog 69 #[.int .i32 r] w fun e w' => e = .returned (.bool (digit r)) ∧ w = w' := by
  go_enter Tryz.func69, Tryz.ntmps69
  go_wp2
  all_goals (go_ret; exact ⟨by simp [digit, *] <;> omega, rfl⟩)

def hasText (ss : List ByteArray) (s : ByteArray) : Bool := (ss.map fun x => x.data.toList).contains s.data.toList
theorem hasText_take (ss : List ByteArray) (s : ByteArray) (k : Nat) (h : k < ss.length) : hasText (ss.take (k + 1)) s = (hasText (ss.take k) s || ((ss.getD k ByteArray.empty).toList == s.toList)) := by
  unfold hasText
  have e : ss.getD k ByteArray.empty = ss[k] := by simp [List.getD, h]
  rw [List.take_succ_eq_append_getElem h, List.map_append, List.contains_append, e, Lib.toList_data, Lib.toList_data]
  simp only [List.map_cons, List.map_nil, List.contains_cons, List.contains_nil, Bool.or_false]
  rw [Bool.beq_comm]
theorem hasText_more (ss : List ByteArray) (s : ByteArray) (k : Nat) (h : hasText (ss.take k) s = true) : hasText ss s = true := by
  unfold hasText at *
  rw [List.contains_iff_mem] at *
  rw [List.mem_map] at *
  obtain ⟨a, ha, e⟩ := h
  exact ⟨a, List.mem_of_mem_take ha, e⟩
theorem in_any (b off n cap : Nat) (ss : List ByteArray) (s : ByteArray) (w : World) (hnl : n = ss.length) (hn : ss.length ≤ 1048576) (hc : ∀ k : Nat, k < ss.length → w.cell? ⟨b, off + k, none⟩ = some (.string (ss.getD k ByteArray.empty))) :
    Calls Tryz.prog 70 #[.slice (some ⟨b, off, none⟩) n cap, .string s] w fun e w' => e = .returned (.bool (hasText ss s)) ∧ w = w' := by
  subst hnl
  go_enter Tryz.func70, Tryz.ntmps70
  go_wp2
  go_loop [5] (fun i => ∃ k : Nat, k ≤ ss.length ∧ i = .int .i64 k ∧ hasText (ss.take k) s = false) (fun i => ss.length - (intOf i).toNat)
  case atStart => exact ⟨0, Nat.zero_le _, rfl, by simp [hasText]⟩
  case round =>
    obtain ⟨k, hk, rfl, hh⟩ := hrel
    by_cases hlt : k < ss.length
    · obtain ⟨x, hcell, hst⟩ : ∃ x : ByteArray, w.cell? ⟨b, off + k, none⟩ = some (.string x) ∧ hasText (ss.take (k + 1)) s = (hasText (ss.take k) s || (x.toList == s.toList)) := ⟨_, hc k hlt, hasText_take ss s k hlt⟩
      clear hc
      rw [hh, Bool.false_or] at hst
      cases he : x.toList == s.toList
      · rw [he] at hst
        have HS := Lib.hid hst; clear hst hh
        go_wp2
        go_round
        case rel => exact ⟨k + 1, by omega, by go_num, HS.out⟩
        case measure => simp [intOf]; omega
      · rw [he] at hst
        have HS := Lib.hid (hasText_more ss s _ hst); clear hst hh
        go_wp2
        go_ret
        exact ⟨by rw [HS.out]; rfl, rfl⟩
    · obtain rfl : k = ss.length := by omega
      rw [List.take_length] at hh
      have HS := Lib.hid hh; clear hh
      go_wp2
      go_ret
      exact ⟨by rw [HS.out]; rfl, rfl⟩
/-- The cells of a literal list of texts that was just made. -/
theorem cells_lit (w : World) (T : TypeId) (vs : Array Value) (ss : List ByteArray) (h : vs = (ss.map Value.string).toArray) : ∀ k : Nat, k < ss.length → (w.alloc (.cells vs T)).cell? ⟨w.heap.size, 0 + k, none⟩ = some (.string (ss.getD k ByteArray.empty)) := by
  intro k hk
  subst h
  have e : ss.getD k ByteArray.empty = ss[k] := by simp [List.getD, hk]
  rw [e]
  rw [World.cell?_alloc_new]
  simp [hk]
end Go.Proofs.YtnphimechniplaaGreat
