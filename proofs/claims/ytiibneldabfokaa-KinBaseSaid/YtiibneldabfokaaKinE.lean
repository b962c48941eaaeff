/- kin: slices.Index and Contains of ints, chain. -/
import Derived.Test.YtiibneldabfokaaKinC
set_option linter.unusedSimpArgs false
set_option linter.unusedVariables false
namespace Go.Proofs.Ytiibneldabfokaa
open Go.RowKit
theorem Try.infoIntK : (Try.prog.info? 3).map (fun i => (i.zero, i.size, i.bytes)) = some (some (.int .i64 0), 1, 8) := by kernel_rfl
def intsV (l : List Nat) : List Value := l.map fun (x : Nat) => .int .i64 x
theorem intsV_snoc (l : List Nat) (x : Nat) : intsV (l ++ [x]) = intsV l ++ [.int .i64 x] := by simp [intsV]
theorem intsV_at {l : List Nat} {k x : Nat} (h : l[k]? = some x) : (intsV l)[k]? = some (.int .i64 x) := by simp [intsV, h]
theorem ret_boolK {a b : Bool} (h : a = b) : Ending.returned (.bool a) = .returned (.bool b) := by rw [h]
theorem idxOf_leK : ∀ (l : List Nat) (k y : Nat), l[k]? = some y → l.idxOf y ≤ k
  | [], k, y, h => by simp at h
  | a :: l, 0, y, h => by simp at h; subst h; simp
  | a :: l, k + 1, y, h => by
    rw [List.idxOf_cons]
    have := idxOf_leK l k y (by simpa using h)
    cases a == y <;> simp <;> omega
/-- The place of the first one, -1. -/
def idx (l : List Nat) (y : Nat) : Int := if l.idxOf y < l.length then (l.idxOf y : Int) else -1
set_option maxHeartbeats 4000000 in
theorem index_any {w : World} {B : Nat} {v : Value} {l : List Nat} (ho : w.ownsRow B 3 1 v l.length (intsV l)) (hl : l.length ≤ 100) (y : Nat) (hy : y ≤ 100) (hx : ∀ x ∈ l, x ≤ 100) : Calls Try.prog 31 #[v, .int .i64 y] w fun e w' => e = .returned (.int .i64 (idx l y)) ∧ w = w' := by
  have HO := Lib.hid ho
  obtain ⟨A, cap, rfl, hc⟩ := own_form ho
  have HX := Lib.hid hx
  obtain ⟨n, hn⟩ : ∃ n, l.length = n := ⟨_, rfl⟩
  have HN := Lib.hid hn
  rw [hn] at hl hc ⊢
  clear ho hx hn
  go_enter Try.func31, Try.ntmps31
  go_wp2_with fail
  go_loop [8] (fun v8 => ∃ k : Nat, v8 = .int .i64 k ∧ k ≤ n ∧ Hid (∀ j, j < k → l[j]? ≠ some y)) (fun v8 => n - (intOf v8).toNat)
  case atStart => exact ⟨0, rfl, Nat.zero_le _, Lib.hid (fun j h => by omega)⟩
  case round =>
    obtain ⟨k, rfl, hk, hall⟩ := hrel
    by_cases hlt : k < n
    · obtain ⟨x, hxk⟩ : ∃ x, l[k]? = some x := ⟨l[k]'(by rw [HN.out]; exact hlt), List.getElem?_eq_getElem _⟩
      obtain ⟨g, rfl⟩ : ∃ g, A = some ⟨g, 0, none⟩ := by
        rcases HO.out.2 with ⟨e, _⟩ | ⟨g, cap', cur, e, _⟩
        · simp at e; have := HN.out; omega
        · injection e with e _ _; exact ⟨g, e⟩
      have hcell : w.cell? ⟨g, k, none⟩ = some (.int .i64 x) := by
        have h0 : l.length = n := HN.out
        have := HO.out
        rw [h0] at this
        rw [this.cellAt k (by omega)]; exact intsV_at hxk
      have hx100 := HX.out x (List.mem_of_getElem? hxk)
      have HK := Lib.hid hxk
      clear hxk
      by_cases hq : y = x
      · subst hq
        go_wp2_with fail
        go_ret
        refine ⟨?_, rfl⟩
        have h1 : l.idxOf y = k := by
          have hm : y ∈ l := List.mem_of_getElem? HK.out
          have h2 : l.idxOf y < l.length := List.idxOf_lt_length_of_mem hm
          have h3 : l[l.idxOf y]? = some y := by rw [List.getElem?_eq_getElem h2]; simp
          have h4 : ¬ l.idxOf y < k := fun h => hall.out _ h h3
          have h5 : l.idxOf y ≤ k := idxOf_leK l k y HK.out
          omega
        unfold idx
        rw [h1, if_pos (by rw [HN.out]; exact hlt)]
        rfl
      · have hq2 : ((y : Int) == x) = false := by rw [beq_eq_false_iff_ne]; omega
        clear hq
        go_wp2_with fail
        go_round
        case rel => exact ⟨k + 1, by simp, by omega, Lib.hid (fun j h => by
          by_cases h1 : j < k
          · exact hall.out j h1
          · obtain rfl : j = k := by omega
            rw [HK.out]; intro e; injection e with e; subst e; simp at hq2)⟩
        case measure => simp [intOf]; omega
    · go_wp2_with fail
      go_ret
      refine ⟨?_, rfl⟩
      unfold idx
      have h1 : ¬ l.idxOf y < l.length := fun h => hall.out (l.idxOf y) (by have := HN.out; omega) (by rw [List.getElem?_eq_getElem h]; simp)
      rw [if_neg h1]; rfl
set_option maxHeartbeats 4000000 in
theorem contains_any {w : World} {B : Nat} {v : Value} {l : List Nat} (ho : w.ownsRow B 3 1 v l.length (intsV l)) (hl : l.length ≤ 100) (y : Nat) (hy : y ≤ 100) (hx : ∀ x ∈ l, x ≤ 100) : Calls Try.prog 22 #[v, .int .i64 y] w fun e w' => e = .returned (.bool (decide (y ∈ l))) ∧ w = w' := by
  have HI := Lib.hid (index_any ho hl y hy hx)
  obtain ⟨q, hq⟩ : ∃ q, idx l y = q := ⟨_, rfl⟩
  have HQ := Lib.hid hq
  rw [hq] at HI
  clear ho hq hx
  go_enter Try.func22, Try.ntmps22
  go_wp2_with (go_at_call 31; refine HI.out.mono ?_; rintro e w' ⟨rfl, rfl⟩)
  go_ret
  refine ⟨ret_boolK ?_, rfl⟩
  have := HQ.out
  unfold idx at this
  by_cases hm : y ∈ l
  · rw [if_pos (List.idxOf_lt_length_of_mem hm)] at this
    simp [hm]; omega
  · rw [if_neg (by simpa [List.idxOf_lt_length_iff] using hm)] at this
    simp [hm]; omega
end Go.Proofs.Ytiibneldabfokaa
