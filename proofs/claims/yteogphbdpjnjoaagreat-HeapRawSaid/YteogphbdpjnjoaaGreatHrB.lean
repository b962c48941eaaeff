/- Fields in memory; field.twice, field.names. -/
import Derived.Test.YteogphbdpjnjoaaGreatHrA
import Derived.WalkKit
import Derived.MapKept
set_option linter.unusedSimpArgs false
set_option linter.unusedVariables false
namespace Go.Proofs.YteogphbdpjnjoaaGreat
open Go.RowKit Go.Maps Go.WideMaps
/-- A row of fields in memory. -/
def FrV (w : World) (v : Value) (fs : List Fld) : Prop := ∃ A cap, v = .slice A fs.length cap ∧ fs.length ≤ cap ∧ fs.length ≤ 1000000 ∧ (∀ x ∈ fs, x.1.size ≤ maxLen ∧ x.2.size ≤ maxLen) ∧
  (0 < fs.length → ∃ b o, A = some ⟨b, o, none⟩ ∧ ∀ i x, fs[i]? = some x → ∃ (st : Bool) (A3 : Option Addr) (n3 k3 : Nat), w.cell? ⟨b, o + i * 4, none⟩ = some (.bool st) ∧ w.cell? ⟨b, o + i * 4 + 1, none⟩ = some (.string x.1) ∧ w.cell? ⟨b, o + i * 4 + 2, none⟩ = some (.string x.2) ∧ w.cell? ⟨b, o + i * 4 + 3, none⟩ = some (.slice A3 n3 k3))
theorem FrV.keep {w w' : World} (K : KeepC w w') {v : Value} {fs : List Fld} (h : FrV w v fs) : FrV w' v fs := by
  obtain ⟨A, cap, e, h1, h2, h3, hc⟩ := h
  refine ⟨A, cap, e, h1, h2, h3, fun h0 => ?_⟩
  obtain ⟨b, o, hA, hx⟩ := hc h0
  refine ⟨b, o, hA, fun i x hi => ?_⟩
  obtain ⟨st, A3, n3, k3, a0, a1, a2, a3⟩ := hx i x hi
  exact ⟨st, A3, n3, k3, K _ _ a0, K _ _ a1, K _ _ a2, K _ _ a3⟩
theorem FrV.below {w w' : World} {v : Value} {fs : List Fld} (h : FrV w v fs) (hb : Below w.heap.size w w') : FrV w' v fs := h.keep (KeepC.below hb)
theorem FrV.at_ {w : World} {A : Option Addr} {n cap : Nat} {fs : List Fld} (h : FrV w (.slice A n cap) fs) {k : Nat} {x : Fld} (hx : fs[k]? = some x) : ∃ b o, A = some ⟨b, o, none⟩ ∧ (x.1.size ≤ maxLen ∧ x.2.size ≤ maxLen) ∧ ∃ (st : Bool) (A3 : Option Addr) (n3 k3 : Nat), w.cell? ⟨b, o + k * 4, none⟩ = some (.bool st) ∧ w.cell? ⟨b, o + k * 4 + 1, none⟩ = some (.string x.1) ∧ w.cell? ⟨b, o + k * 4 + 2, none⟩ = some (.string x.2) ∧ w.cell? ⟨b, o + k * 4 + 3, none⟩ = some (.slice A3 n3 k3) := by
  obtain ⟨A', cap', e, _, _, hz, hc⟩ := h
  injection e with e1 e2 e3
  obtain ⟨b, o, hA, hg⟩ := hc (by have := (List.getElem?_eq_some_iff.1 hx).1; omega)
  exact ⟨b, o, e1.trans hA, hz x (List.mem_of_getElem? hx), hg k x hx⟩
theorem run_makeMap_hint {P : Program} {t key elem : TypeId} (hu : P.underlying t = some (.map key elem)) (n : Nat) (w : World) : (Instr.makeMap t (some (.int .i64 (n : Int)))).run P w = .ok (.map (some w.heap.size)) (w.alloc (.map #[] 0)) := by
  simp [Instr.makeMap, run_underlying hu, asInt, asIntOf, Result.andThen]
theorem lawS : Keyed Tryz.prog 9 := string_keyed Tryz.underlying9
theorem zeroU (w : World) : (zeroValue 128).run Tryz.prog w = .ok (.agg #[]) w := by kernel_rfl
abbrev sT : TypeId := 102
theorem keyS {s : ByteArray} (h : s.size ≤ maxLen) : keyOf Tryz.prog 9 (.string s) = some (keyB s) := keyOf_string_mk Tryz.underlying9 h
set_option maxRecDepth 100000 in
set_option maxHeartbeats 4000000 in
theorem twice_any (w : World) (v : Value) (fs : List Fld) (h : FrV w v fs) : Calls Tryz.prog 64 #[v] w fun e w' => ∃ q : Bool, e = .returned (.bool q) ∧ (q = false ↔ (fs.map (·.2)).Nodup) ∧ Below w.heap.size w w' := by
  have HF := Lib.hid h
  obtain ⟨A, cap, rfl, hcap, hbig, _, _⟩ := h
  obtain ⟨n, hn⟩ : ∃ n, fs.length = n := ⟨_, rfl⟩
  have HN := Lib.hid hn
  rw [hn] at HF hcap hbig ⊢
  clear hn
  have hmm := fun (n : Nat) w => run_makeMap_hint (P := Tryz.prog) Tryz.underlying102 n w
  have hlen : (fs.map (·.2)).length = n := by rw [List.length_map, HN.out]
  obtain ⟨ns, hns⟩ : ∃ ns, fs.map (·.2) = ns := ⟨_, rfl⟩
  have HNS := Lib.hid hns
  rw [hns] at hlen ⊢
  have HLN := Lib.hid hlen
  clear hns hlen
  go_enter Tryz.func64, Tryz.ntmps64
  go_wp2_with fail
  go_loopw [11] (fun v11 wr => ∃ k : Nat, k ≤ n ∧ v11 = .int .i64 k ∧ wr.ownsMap Tryz.prog 9 unitElem w.heap.size k (setS (ns.take k)) ∧ Below w.heap.size w wr)
    (fun v11 _ => n - (intOf v11).toNat)
  case atStart => exact ⟨0, Nat.zero_le _, rfl, by rw [List.take_zero, setB_nil]; exact World.ownsMap_made _ _ _ _, (Below.refl _ _).alloc (Nat.le_refl _) _⟩
  case round =>
    obtain ⟨k, hk, rfl, hown, hnx⟩ := hrel
    by_cases hlt : k < n
    · obtain ⟨x, hx⟩ : ∃ x, fs[k]? = some x := ⟨fs[k]'(by rw [HN.out]; exact hlt), List.getElem?_eq_getElem _⟩
      obtain ⟨b, o, e, ⟨_, hsz⟩, st, A3, n3, k3, a0, a1, a2, a3⟩ := (HF.out.below hnx).at_ hx
      subst e
      have hkey := keyS hsz
      have hnk : ns[k]? = some x.2 := by rw [← HNS.out, List.getElem?_map, hx]; rfl
      have HST : Hid (setS (ns.take (k + 1)) = (setS (ns.take k)).put (keyB x.2) (.agg [])) := Lib.hid (by rw [List.take_add_one, hnk]; exact setB_snoc _ _)
      obtain ⟨x1, x2⟩ := x
      clear hx hnk
      go_wp2_with (at_mapUpdate; refine wpList_mapUpdate_own _ rfl _ _ _ 102 rfl 9 128 lawS Tryz.underlying102 (unitElem (H := Unit)) w.heap.size k _ rfl (hown.alloc _) (by unfold maxLen; omega) _ _ _ rfl rfl hkey _ [] unitElem_mk ?_; intro w1 hown1 hgrow1)
      go_roundw
      case rel => exact ⟨k + 1, by omega, by go_num, by rw [HST.out]; exact hown1, (hnx.alloc hnx.size _).grown hgrow1 (by have := hnx.size; simp; omega) (fun j hj => by cases hj; exact Nat.le_refl _)⟩
      case measure => simp [intOf]; omega
    · have hke : k = n := by omega
      subst hke
      have hsz := size_setB ns
      have hne : ns.take k = ns := by rw [← HLN.out]; exact List.take_length
      rw [hne] at hown
      rw [HLN.out] at hsz
      obtain ⟨m, hm⟩ : ∃ m, Maps.size (setS ns) = m := ⟨_, rfl⟩
      have HM := Lib.hid hm
      rw [hm] at hsz
      obtain ⟨hle, hiff⟩ := hsz
      have HI := Lib.hid hiff
      clear hiff hm hne
      go_wp2_with (at_len; refine wpList_len_own _ rfl _ 102 rfl 9 128 Tryz.underlying102 (unitElem (H := Unit)) w.heap.size k _ rfl hown ?_; rw [HM.out])
      go_ret
      refine ⟨_, rfl, ?_, hnx⟩
      rw [← HI.out]
      simp
      omega
end Go.Proofs.YteogphbdpjnjoaaGreat
