/- Package kin's family in memory; head, bases. -/
import Derived.Test.YteogphbdpjnjoaaGreatKinA
import Derived.Test.YteogphbdpjnjoaaGreatBxA
import Derived.Maps.AppendAt
import Derived.WalkSmall
import Derived.Lib.Hide
import Derived.BigQuiet
import Derived.BigCall
import Derived.Deep.CutRange
import Derived.Deep.QuietTactic
import Derived.Deep.LoopGhost
import Derived.Deep.AppendLies
import Derived.Deep.RegionWith
import Derived.Deep.RegionHeld3
set_option linter.unusedSimpArgs false
set_option linter.unusedVariables false
namespace Go.Proofs.YteogphbdpjnjoaaGreat
open Go.RowKit
theorem ba_beq (a b : ByteArray) : (a.toList == b.toList) = decide (a = b) := by
  rw [ByteArray.toList_eq, ByteArray.toList_eq, Bool.eq_iff_iff]
  simp only [beq_iff_eq, decide_eq_true_eq]
  constructor
  · intro h; cases a; cases b; simp at h; rw [h]
  · rintro rfl; rfl
theorem ba_ne {a b : ByteArray} (h : a ≠ b) : (a.toList == b.toList) = false := by rw [ba_beq]; exact decide_eq_false h
theorem ba_ne_l {a : ByteArray} (l : List UInt8) (h : a ≠ ⟨l.toArray⟩) : (a.toList == l) = false := by
  have := ba_ne h
  rw [ByteArray.toList_eq ⟨l.toArray⟩] at this
  simpa using this
/-- All that was told of old cells is told still. -/
def KeepC (w w' : World) : Prop := ∀ p u, w.cell? p = some u → w'.cell? p = some u
theorem KeepC.below {w w' : World} (h : Below w.heap.size w w') : KeepC w w' := fun p u hu => (h.cell (World.block_lt_of_cell? w p hu)).trans hu
theorem KeepC.trans {a b c : World} (h : KeepC a b) (k : KeepC b c) : KeepC a c := fun p u hu => k p u (h p u hu)
def baseV (h : Hdr) : Value := .iface 226 (.agg #[.string h.1, .string h.2])
/-- A part of a family, and its head. -/
def HdV (w : World) (x : Value) (h : Hdr) : Prop := x = baseV h ∨ ∃ b o, x = .iface 105 (.pointer (some ⟨b, o, none⟩)) ∧ w.cell? ⟨b, o, none⟩ = some (.string h.1) ∧ w.cell? ⟨b, o + 1, none⟩ = some (.string h.2)
theorem HdV.keep {w w' : World} (K : KeepC w w') {x : Value} {h : Hdr} (hx : HdV w x h) : HdV w' x h := by
  rcases hx with hx | ⟨b, o, e, h1, h2⟩
  · exact .inl hx
  · exact .inr ⟨b, o, e, K _ _ h1, K _ _ h2⟩
/-- A family's parts. -/
def Pv (w : World) (v : Value) (ps : List Hdr) : Prop := ∃ g cap, v = .slice (some ⟨g, 0, none⟩) ps.length cap ∧ ps.length ≤ cap ∧ ∀ i h, ps[i]? = some h → ∃ x, w.cell? ⟨g, i, none⟩ = some x ∧ HdV w x h
def Fm (w : World) (v : Value) (ps : List Hdr) : Prop := ∃ pv, v = .agg #[pv, .int .i64 5, .map none] ∧ Pv w pv ps ∧ 5 ≤ ps.length ∧ ps.length ≤ 64
theorem Pv.keep {w w' : World} (K : KeepC w w') {v : Value} {ps : List Hdr} (h : Pv w v ps) : Pv w' v ps := by
  obtain ⟨g, cap, e, hc, hx⟩ := h
  refine ⟨g, cap, e, hc, fun i h hi => ?_⟩
  obtain ⟨x, h1, h2⟩ := hx i h hi
  exact ⟨x, K _ _ h1, h2.keep K⟩
theorem Fm.keep {w w' : World} (K : KeepC w w') {v : Value} {ps : List Hdr} (h : Fm w v ps) : Fm w' v ps := by
  obtain ⟨pv, e, hp, h1, h2⟩ := h; exact ⟨pv, e, hp.keep K, h1, h2⟩
/-- A program's classes, as far as their heads go. -/
def Cl (w : World) (v : Value) (cs : List Hdr) : Prop := ∃ A cap, v = .slice A cs.length cap ∧ cs.length ≤ cap ∧ cs.length ≤ 59 ∧ (0 < cs.length → ∃ b o, A = some ⟨b, o, none⟩ ∧ ∀ i h, cs[i]? = some h → w.cell? ⟨b, o + i * 4, none⟩ = some (.string h.1) ∧ w.cell? ⟨b, o + i * 4 + 1, none⟩ = some (.string h.2) ∧ ∃ A2 n2 k2 A3 n3 k3, w.cell? ⟨b, o + i * 4 + 2, none⟩ = some (.slice A2 n2 k2) ∧ w.cell? ⟨b, o + i * 4 + 3, none⟩ = some (.slice A3 n3 k3))
theorem Cl.keep {w w' : World} (K : KeepC w w') {v : Value} {cs : List Hdr} (h : Cl w v cs) : Cl w' v cs := by
  obtain ⟨A, cap, e, h1, h2, hc⟩ := h
  refine ⟨A, cap, e, h1, h2, fun h0 => ?_⟩
  obtain ⟨b, o, hA, hx⟩ := hc h0
  refine ⟨b, o, hA, fun i h hi => ?_⟩
  obtain ⟨c0, c1, A2, n2, k2, A3, n3, k3, c2, c3⟩ := hx i h hi
  exact ⟨K _ _ c0, K _ _ c1, A2, n2, k2, A3, n3, k3, K _ _ c2, K _ _ c3⟩

@[go_sem] theorem is_base_base (v : Value) (w : World) : (Instr.typeAssert (.iface 226 v) 198 226 true).run Tryz.prog w = .ok (.tuple #[v, .bool true]) w := by kernel_rfl
@[go_sem] theorem is_class_base (v : Value) (w : World) : (Instr.typeAssert (.iface 105 v) 198 226 true).run Tryz.prog w = .ok (.tuple #[.agg #[.string ⟨#[]⟩, .string ⟨#[]⟩], .bool false]) w := by kernel_rfl
@[go_sem] theorem is_class_class (v : Value) (w : World) : (Instr.typeAssert (.iface 105 v) 198 105 true).run Tryz.prog w = .ok (.tuple #[v, .bool true]) w := by kernel_rfl

set_option maxRecDepth 100000 in
set_option maxHeartbeats 4000000 in
theorem head_any {w : World} {x : Value} {h : Hdr} (hx : HdV w x h) : Calls Tryz.prog 128 #[x] w fun e w' => e = .returned (.tuple #[.string h.1, .string h.2]) ∧ Below w.heap.size w w' := by
  obtain ⟨nm, sp⟩ := h
  rcases hx with rfl | ⟨b, o, rfl, c0, c1⟩
  · unfold baseV
    go_enter Tryz.func128, Tryz.ntmps128
    go_upto_region 3 with (fail)
    go_quiet (fail)
    go_wp2_with fail
    refine bodyPost_ret (v := .tuple #[.string nm, .string sp]) (by simp [results, Tryz.results128, go_sem]) rfl ⟨rfl, ?_⟩
    exact below_drewN ((Below.refl _ _).alloc (Nat.le_refl _) _) _
  · have hlt := World.block_lt_of_cell? w _ c0
    have hne : b ≠ w.heap.size := by have : b < w.heap.size := hlt; omega
    go_enter Tryz.func128, Tryz.ntmps128
    go_upto_region 6 with (fail)
    go_quiet (fail)
    go_wp2_with fail
    refine bodyPost_ret (v := .tuple #[.string nm, .string sp]) (by simp [results, Tryz.results128, go_sem]) rfl ⟨rfl, ?_⟩
    exact below_drewN ((Below.refl _ _).alloc (Nat.le_refl _) _) _
end Go.Proofs.YteogphbdpjnjoaaGreat
