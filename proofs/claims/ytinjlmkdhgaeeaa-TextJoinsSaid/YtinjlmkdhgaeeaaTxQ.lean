/- Statements of layer 14: TextPlaces as a walk. -/
import Derived.Test.YtinjlmkdhgaeeaaTxR
set_option linter.unusedSimpArgs false
set_option linter.unusedVariables false
namespace Go.Proofs.Ytinjlmkdhgaeeaa
open Go.RowKit

theorem which_of (k : Int) (n m : Nat) (hn : n ≤ 1000) (hm : m ≤ 1000) : ∃ (x : Int) (p : Nat), IntKind.u64.wrap k = x ∧ x.tmod ((n : Int) + (m : Int) + 1) = (p : Int) ∧ p ≤ n + m := by
  have h0 : 0 ≤ IntKind.u64.wrap k := by rw [IntKind.wrap_u64]; omega
  have hM : (n : Int) + (m : Int) + 1 = ((n + m + 1 : Nat) : Int) := by omega
  refine ⟨IntKind.u64.wrap k, (IntKind.u64.wrap k).toNat % (n + m + 1), rfl, ?_, ?_⟩
  · rw [hM, Int.tmod_eq_emod_of_nonneg h0, Int.natCast_emod, Int.toNat_of_nonneg h0]
  · have := Nat.mod_lt (IntKind.u64.wrap k).toNat (show 0 < n + m + 1 by omega); omega
set_option maxRecDepth 100000 in
set_option maxHeartbeats 4000000 in
theorem places_any (C : TextC) (a b : ByteArray) (k : Int) (hza : a.size ≤ maxLen) (hzb : b.size ≤ maxLen) (hwk : (Lit.int .i64 k).wf = true) (w : World) : Calls Try.prog 6 #[.string a, .string b, .int .i64 k] w fun e w' => e = .returned (.bool true) ∧ Below w.heap.size w w' := by
  have hc : Below w.heap.size w w := Below.refl _ _
  clear hza hzb hwk
  by_cases ha60 : 60 < a.size
  · have i1 : (60 : Int) < a.size := by omega
    go_enter Try.func6, Try.ntmps6
    go_wp2_with fail
    refine (C.told _).mono ?_
    rintro e w1 ⟨rfl, hb1⟩
    replace hc := hc.trans (hb1.mono hc.size); clear hb1
    go_wp2_with fail
    go_ret
    exact ⟨rfl, hc⟩
  have i1 : ¬ (60 : Int) < a.size := by omega
  by_cases hb60 : 60 < b.size
  · have i2 : (60 : Int) < b.size := by omega
    clear ha60 hb60
    go_enter Try.func6, Try.ntmps6
    go_wp2_with fail
    refine (C.told _).mono ?_
    rintro e w1 ⟨rfl, hb1⟩
    replace hc := hc.trans (hb1.mono hc.size); clear hb1
    go_wp2_with fail
    go_ret
    exact ⟨rfl, hc⟩
  have i2 : ¬ (60 : Int) < b.size := by omega
  have s1 : a.size ≤ 16777216 := by omega
  have s2 : b.size ≤ 16777216 := by omega
  have b1 : BadS a (bad a) := badS s1 rfl
  have b2 : BadS b (bad b) := badS s2 rfl
  by_cases hba : bad a < 0
  rotate_left
  · have i3 : (0 : Int) ≤ bad a := by omega
    generalize bad a = x at *
    clear s1 s2 ha60 hb60 b2 hba
    go_enter Try.func6, Try.ntmps6
    go_wp2_with fail
    refine (b1.out _).mono ?_
    rintro e w1 ⟨rfl, hb1⟩
    replace hc := hc.trans (hb1.mono hc.size); clear hb1
    go_wp2_with fail
    refine (C.told _).mono ?_
    rintro e w1 ⟨rfl, hb1⟩
    replace hc := hc.trans (hb1.mono hc.size); clear hb1
    go_wp2_with fail
    go_ret
    exact ⟨rfl, hc⟩
  have i3 : ¬ (0 : Int) ≤ bad a := by omega
  by_cases hbb : bad b < 0
  rotate_left
  · have i4 : (0 : Int) ≤ bad b := by omega
    generalize bad a = x at *
    generalize bad b = y at *
    clear s1 s2 ha60 hb60 hba hbb
    go_enter Try.func6, Try.ntmps6
    go_wp2_with fail
    refine (b1.out _).mono ?_
    rintro e w1 ⟨rfl, hb1⟩
    replace hc := hc.trans (hb1.mono hc.size); clear hb1
    go_wp2_with fail
    refine (b2.out _).mono ?_
    rintro e w1 ⟨rfl, hb1⟩
    replace hc := hc.trans (hb1.mono hc.size); clear hb1
    go_wp2_with fail
    refine (C.told _).mono ?_
    rintro e w1 ⟨rfl, hb1⟩
    replace hc := hc.trans (hb1.mono hc.size); clear hb1
    go_wp2_with fail
    go_ret
    exact ⟨rfl, hc⟩
  have i4 : ¬ (0 : Int) ≤ bad b := by omega
  have hla := lenT_le a
  have hlb := lenT_le b
  have l1 : LenS a (lenT a) := lenS C s1 rfl
  have l2 : LenS b (lenT b) := lenS C s2 rfl
  obtain ⟨x, p, hx1, hx2, hp⟩ := which_of k (lenT a) (lenT b) (by omega) (by omega)
  have hsz : (a ++ b).size = a.size + b.size := ByteArray.size_append
  have key : ∃ (t : ByteArray) (q : Bool), AtS (a ++ b) p t q ∧ ((p : Int) < lenT a → AtS a p t q ∧ q = true) ∧ (¬ (p : Int) < lenT a → AtS b ((p : Int) - lenT a) t q ∧ q = decide ((p : Int) < lenT a + lenT b)) := by
    have hp32 : i32 (p : Int) := by unfold i32; omega
    refine ⟨(atT (a ++ b) p).1, (atT (a ++ b) p).2, atS C (by omega) hp32 rfl, fun h => ?_, fun h => ?_⟩
    · have e : atT (a ++ b) p = atT a p := by rw [atT_nat, atT_nat, atN_app1 hba hbb (by omega)]
      rw [e]
      obtain ⟨r, _, _, hr⟩ := atN_in (s := a) (k := p) (by omega)
      exact ⟨atS C s1 hp32 rfl, by rw [atT_nat, hr]⟩
    · have e : atT (a ++ b) p = atT b ((p : Int) - lenT a) := by
        rw [show (p : Int) - lenT a = ((p - lenT a : Nat) : Int) by omega, atT_nat, atT_nat, atN_app2 hba hbb (by omega)]
      rw [e]
      refine ⟨atS C s2 (by unfold i32; omega) rfl, ?_⟩
      rw [show (p : Int) - lenT a = ((p - lenT a : Nat) : Int) by omega, atT_nat]
      by_cases hl : p < lenT a + lenT b
      · obtain ⟨r, _, _, hr⟩ := atN_in (s := b) (k := p - lenT a) (by omega)
        rw [hr, decide_eq_true (by omega)]
      · rw [atN_none (by omega), decide_eq_false (by omega)]
  obtain ⟨t, q, k1, k2, k3⟩ := key
  have HSZ : Hid ((a ++ b).size = a.size + b.size) := Lib.hid hsz
  have i5 : (a.size : Int) ≤ 60 := by omega
  have i6 : (b.size : Int) ≤ 60 := by omega
  have hn60 : (lenT a : Int) ≤ 60 := by omega
  have hm60 : (lenT b : Int) ≤ 60 := by omega
  have hp1 : (p : Int) ≤ lenT a + lenT b := by omega
  obtain ⟨n, hn⟩ : ∃ n, lenT a = n := ⟨_, rfl⟩
  obtain ⟨m, hm⟩ : ∃ m, lenT b = m := ⟨_, rfl⟩
  obtain ⟨xa, hxa⟩ : ∃ n, bad a = n := ⟨_, rfl⟩
  obtain ⟨xb, hxb⟩ : ∃ n, bad b = n := ⟨_, rfl⟩
  rw [hn] at l1 hx2 k2 k3 hn60 hp1
  rw [hm] at l2 hx2 k3 hm60 hp1
  rw [hxa] at b1 i3
  rw [hxb] at b2 i4
  clear hn hm hxa hxb hla hlb hp hsz hba hbb s1 s2 ha60 hb60
  by_cases hpn : (p : Int) < n
  · obtain ⟨k4, rfl⟩ := k2 hpn
    clear k2 k3
    go_enter Try.func6, Try.ntmps6
    go_wp2_with fail
    refine (b1.out _).mono ?_
    rintro e w1 ⟨rfl, hb1⟩
    replace hc := hc.trans (hb1.mono hc.size); clear hb1
    go_wp2_with fail
    refine (b2.out _).mono ?_
    rintro e w1 ⟨rfl, hb1⟩
    replace hc := hc.trans (hb1.mono hc.size); clear hb1
    go_wp2_with fail
    refine (l1.out _).mono ?_
    rintro e w1 ⟨rfl, hb1⟩
    replace hc := hc.trans (hb1.mono hc.size); clear hb1
    go_wp2_with fail
    refine (l2.out _).mono ?_
    rintro e w1 ⟨rfl, hb1⟩
    replace hc := hc.trans (hb1.mono hc.size); clear hb1
    go_wp2_with fail
    refine (k1.out _).mono ?_
    rintro e w1 ⟨rfl, hb1⟩
    replace hc := hc.trans (hb1.mono hc.size); clear hb1
    go_wp2_with fail
    refine (k4.out _).mono ?_
    rintro e w1 ⟨rfl, hb1⟩
    replace hc := hc.trans (hb1.mono hc.size); clear hb1
    go_wp2_with fail
    refine (C.told _).mono ?_
    rintro e w1 ⟨rfl, hb1⟩
    replace hc := hc.trans (hb1.mono hc.size); clear hb1
    go_wp2_with fail
    go_ret
    exact ⟨rfl, hc⟩
  · obtain ⟨k4, hq⟩ := k3 hpn
    have HQ := Lib.hid hq
    clear k2 k3 hq
    go_enter Try.func6, Try.ntmps6
    go_wp2_with fail
    refine (b1.out _).mono ?_
    rintro e w1 ⟨rfl, hb1⟩
    replace hc := hc.trans (hb1.mono hc.size); clear hb1
    go_wp2_with fail
    refine (b2.out _).mono ?_
    rintro e w1 ⟨rfl, hb1⟩
    replace hc := hc.trans (hb1.mono hc.size); clear hb1
    go_wp2_with fail
    refine (l1.out _).mono ?_
    rintro e w1 ⟨rfl, hb1⟩
    replace hc := hc.trans (hb1.mono hc.size); clear hb1
    go_wp2_with fail
    refine (l2.out _).mono ?_
    rintro e w1 ⟨rfl, hb1⟩
    replace hc := hc.trans (hb1.mono hc.size); clear hb1
    go_wp2_with fail
    refine (k1.out _).mono ?_
    rintro e w1 ⟨rfl, hb1⟩
    replace hc := hc.trans (hb1.mono hc.size); clear hb1
    go_wp2_with fail
    refine (k4.out _).mono ?_
    rintro e w1 ⟨rfl, hb1⟩
    replace hc := hc.trans (hb1.mono hc.size); clear hb1
    go_wp2_with fail
    refine (C.told _).mono ?_
    rintro e w1 ⟨rfl, hb1⟩
    replace hc := hc.trans (hb1.mono hc.size); clear hb1
    have hq := HQ.out
    by_cases hl : (p : Int) < n + m
    · rw [decide_eq_true hl] at hq
      subst hq
      go_wp2_with fail
      go_ret
      exact ⟨rfl, hc⟩
    · rw [decide_eq_false hl] at hq
      subst hq
      go_wp2_with fail
      go_ret
      exact ⟨by show Ending.returned (Value.bool (!decide ((p : Int) < n + m))) = _; rw [decide_eq_false (by omega)]; rfl, hc⟩
end Go.Proofs.Ytinjlmkdhgaeeaa
