/- kin: Sub. -/
import Derived.Test.YteogphbdpjnjoaaGreatKinJ
set_option linter.unusedSimpArgs false
set_option linter.unusedVariables false
namespace Go.Proofs.YteogphbdpjnjoaaGreat
open Go.RowKit
section
variable {P : Program} {md : Region.Mode} {ops : Array Oper} {Q : Exit → Act → World → Prop} {S : World → Prop}
/-- One operation taken first, its slot written out. -/
theorem takeD (i d : Nat) {oi : Oper} {v : Value} {fuel : Nat} {listed : Array Bool} {a : Act} {w : World} (hi : ops[i]? = some oi) (hd : oi.dst = some d)
    (hs : Region.noSelect ops = true) (hf : Region.free md ops listed i = true) (hr : (Region.ready md ops listed).contains i = true)
    (hQ : ∀ c a w, Q (.panic c) (a.put (some d) v) w → Q (.panic c) a w) (hy : YieldsIf P ops S oi v a) (hS : S w)
    (h : wpAnyH P md ops Q S fuel (listed.setIfInBounds i true) (a.put (some d) v) w) : wpAnyH P md ops Q S (fuel + 1) listed a w :=
  wpAnyH_take hi hs hf hr (by rw [hd]; exact hQ) hy hS (by rw [hd]; exact h)
/-- The one operation that may come up. -/
theorem readyD (i : Nat) {o : Oper} {fuel : Nat} {listed : Array Bool} {a : Act} {w : World} (hr : Region.ready md ops listed = [i]) (ho : ops[i]? = some o) (hw : Region.wanted o (yielded ops a.tmps) = true)
    (h : ∀ K : Act → World → Prop, Shut (∀ a w, S w → (S w → wpAnyH P md ops Q S fuel (listed.setIfInBounds i true) a w) → K a w) → Oper.wp P o a w K Q) : wpAnyH P md ops Q S (fuel + 1) listed a w :=
  wpAnyH_ready hr (by simp) (AllReadyH.cons ho (fun K hK => by rw [if_pos hw]; exact h K hK) AllReadyH.nil)
end
def upS (cs : List Hdr) (a b : ByteArray) : Bool := decide (plc (famL cs) b < (famL cs).length) && leadsB (famL cs) (plc (famL cs) b) (plc (famL cs) a)
/-- Who stands for whom. -/
def subS (cs : List Hdr) (a b : ByteArray) : Bool := if a = b then nullB a || typeS cs a else (nullB a && isCk cs b) || upS cs a b
theorem Ch.small {ps : List Hdr} {i0 : Nat} {l : List Nat} (h : Ch ps i0 l) (h64 : ps.length ≤ 64) : l.length ≤ 100 ∧ ∀ x ∈ l, x ≤ 100 := by
  obtain ⟨i, hw, _⟩ := h
  exact ⟨by have := hw.len; omega, fun x hx => by have := hw.lt x hx; omega⟩
theorem Ch.upS {cs : List Hdr} {a b : ByteArray} {l : List Nat} (h : Ch (famL cs) (plc (famL cs) a) l) : decide (plc (famL cs) b ∈ l) = upS cs a b := by
  unfold Go.Proofs.YteogphbdpjnjoaaGreat.upS
  rw [Bool.eq_iff_iff, decide_eq_true_eq, h.mem_iff (plc_le _ _), Bool.and_eq_true, decide_eq_true_eq, leadsB_iff (plc_le _ _) (plc_le _ _)]
end Go.Proofs.YteogphbdpjnjoaaGreat
