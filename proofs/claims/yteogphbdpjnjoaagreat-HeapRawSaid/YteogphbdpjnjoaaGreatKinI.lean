/- kin: Base, Type, Super, Sub. -/
import Derived.Test.YteogphbdpjnjoaaGreatKinH
set_option linter.unusedSimpArgs false
set_option linter.unusedVariables false
namespace Go.Proofs.YteogphbdpjnjoaaGreat
open Go.RowKit
/-- Is it a class? -/
def isCk (cs : List Hdr) (s : ByteArray) : Bool := decide (plc (famL cs) s < (famL cs).length)
def nullB (s : ByteArray) : Bool := s.toList == [110, 117, 108, 108]
def typeS (cs : List Hdr) (t : ByteArray) : Bool := (t.toList == [105, 110, 116]) || ((t.toList == [98, 111, 111, 108, 101, 97, 110]) || ((t.toList == [83, 116, 114, 105, 110, 103]) || isCk cs t))
theorem cl_nil (w : World) : Cl w (.slice none 0 0) [] := ⟨none, 0, rfl, Nat.zero_le _, by simp, fun h => by simp at h⟩
theorem cl_below {w w' : World} {v : Value} {cs : List Hdr} (h : Cl w v cs) (hb : Below w.heap.size w w') : Cl w' v cs := h.keep (KeepC.below hb)
set_option maxHeartbeats 4000000 in
theorem ktype_any {w : World} {v : Value} {cs : List Hdr} (h : Cl w v cs) (t : ByteArray) : Calls Tryz.prog 65 #[.agg #[v], .string t] w fun e w' => e = .returned (.bool (typeS cs t)) ∧ Below w.heap.size w w' := by
  have hX := Bx.new w #[v] 24
  have hb1 : Below w.heap.size w (w.alloc (.cells #[v] 24)) := (Below.refl _ _).alloc (Nat.le_refl _) _
  have HC := Lib.hid h
  obtain ⟨A, cap, rfl, _⟩ := h
  unfold typeS
  cases h1 : (t.toList == [105, 110, 116])
  · cases h2 : (t.toList == [98, 111, 111, 108, 101, 97, 110])
    · cases h3 : (t.toList == [83, 116, 114, 105, 110, 103])
      · go_enter Tryz.func65, Tryz.ntmps65
        go_wp2_with (go_at_call 90; refine (family_any (cl_below HC.out hb1)).mono ?_; rintro e w1 ⟨fv, rfl, hF, hb⟩)
        go_wp2_with (go_at_call 94; refine (has_any hF t).mono ?_; rintro e w2 ⟨rfl, hb2⟩)
        go_ret
        exact ⟨rfl, (hb1.trans (hb.mono hb1.size)).trans (hb2.mono (Nat.le_trans hb1.size hb.size))⟩
      · go_enter Tryz.func65, Tryz.ntmps65
        go_wp2_with fail
        go_ret
        exact ⟨rfl, hb1⟩
    · go_enter Tryz.func65, Tryz.ntmps65
      go_wp2_with fail
      go_ret
      exact ⟨rfl, hb1⟩
  · go_enter Tryz.func65, Tryz.ntmps65
    go_wp2_with fail
    go_ret
    exact ⟨rfl, hb1⟩
/-- The Super of what is a class; nothing. -/
def superS (cs : List Hdr) (s : ByteArray) : ByteArray := match (famL cs)[plc (famL cs) s]? with
  | some h => h.2
  | none => ⟨#[]⟩
end Go.Proofs.YteogphbdpjnjoaaGreat
