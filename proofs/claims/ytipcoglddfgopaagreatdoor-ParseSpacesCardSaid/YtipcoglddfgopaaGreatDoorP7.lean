/- Parts of the proof: Laid, LaidW. -/
import Derived.Test.YtipcoglddfgopaaGreatDoorRows
import Derived.Test.YtipcoglddfgopaaGreatDoorP6
import Derived.ChangeSame
import Derived.ChangeVars
import Derived.JoinedOf
import Derived.RowKit
import Derived.RowKitTokens
import Derived.LaidLaws
import Derived.LaidHandle
import Derived.Stop.Joined
set_option maxRecDepth 100000
namespace Go.Proofs.YtipcoglddfgopaaGreatDoor
section
open Go.ChangeShapes Go.WideShapes Go.RowKit
abbrev laidL : List (String × DataW Unit) := [("math/bits.deBruijn32tab", Rows.laid_math_bits_deBruijn32tab), ("math/bits.deBruijn64tab", Rows.laid_math_bits_deBruijn64tab), ("internal/strconv.uint64pow10", Rows.laid_internal_strconv_uint64pow10), ("strconv.ErrRange", Rows.laid_strconv_ErrRange), ("strconv.ErrSyntax", Rows.laid_strconv_ErrSyntax)]
theorem g_syn : Tryz.prog.globalNamed "strconv.ErrSyntax" = some 0 := by kernel_rfl
theorem g_ran : Tryz.prog.globalNamed "strconv.ErrRange" = some 1 := by kernel_rfl
theorem g_synT : (Tryz.prog.globals[(0 : Nat)]?).map (·.type) = some 172 := by kernel_rfl
theorem g_ranT : (Tryz.prog.globals[(1 : Nat)]?).map (·.type) = some 172 := by kernel_rfl
theorem vars_of_laid {W : World} (h : laidMetH Tryz.prog laidL W) : Vars W := by
 have h' : laidMet Tryz.prog laidL W := h
 obtain ⟨ps, ⟨g0, t0, cs0, f0, p0, q0, hg0, ht0, hv0, hd0, ⟨g1, t1, cs1, f1, p1, q1, hg1, ht1, hv1, hd1, ⟨g2, t2, cs2, f2, p2, q2, hg2, ht2, hv2, hd2, ⟨g3, t3, cs3, f3, p3, q3, hg3, ht3, hv3, hd3, ⟨g4, t4, cs4, f4, p4, q4, hg4, ht4, hv4, hd4, hq4, e4⟩, e3⟩, e2⟩, e1⟩, e0⟩, hnd, hrows⟩ := h'
 obtain rfl := Option.some.inj (g_ran.symm.trans hg3)
 obtain rfl := Option.some.inj (g_syn.symm.trans hg4)
 obtain rfl := Option.some.inj (g_ranT.symm.trans ht3)
 obtain rfl := Option.some.inj (g_synT.symm.trans ht4)
 obtain ⟨l3⟩ := cs3
 obtain ⟨l4⟩ := cs4
 obtain ⟨_, u3, v3, rfl, _, _⟩ := iface_of_trod Tryz.underlying172 hd3
 obtain ⟨_, u4, v4, rfl, _, _⟩ := iface_of_trod Tryz.underlying172 hd4
 exact ⟨⟨_, by simpa using World.var?_cell g_syn hv4 0, .inr ⟨_, _, rfl⟩⟩, _, by simpa using World.var?_cell g_ran hv3 0, .inr ⟨_, _, rfl⟩⟩
end
set_option linter.unusedSimpArgs false
set_option linter.unusedVariables false
section
open Go.ChangeShapes Go.WideShapes Go.RowKit
theorem ownK : ownKnob Tryz.prog.godebug = none := by kernel_rfl
abbrev ranS : ByteArray := { data := #[118, 97, 108, 117, 101, 32, 111, 117, 116, 32, 111, 102, 32, 114, 97, 110, 103, 101] }
abbrev synS : ByteArray := { data := #[105, 110, 118, 97, 108, 105, 100, 32, 115, 121, 110, 116, 97, 120] }
def litV : DataW Unit → Value
 | .lit (.int k n) => .int k n
 | _ => .int .i64 0
def aggV : DataW Unit → Array Value
 | .agg l => (l.map litV).toArray
 | _ => #[]
noncomputable def lowB : Nat := (World.holding Tryz.prog default ⟨#[], #[], []⟩).heap.size
def putC (cs : Array Value) : Obj → Obj
 | .cells _ t frozen => .cells cs t frozen
 | o => o
noncomputable def laidWorld (os : Os) : World :=
 let w0 := World.holding Tryz.prog os ⟨#[.cells #[.string ranS] 210, .cells #[.string synS] 210], #[], []⟩
 { w0 with heap := ((((w0.heap.modify 3 (putC (aggV Rows.laid_math_bits_deBruijn32tab))).modify 4 (putC (aggV Rows.laid_math_bits_deBruijn64tab))).modify 2 (putC (aggV Rows.laid_internal_strconv_uint64pow10))).modify 1 (putC #[.iface 208 (.pointer (some ⟨lowB, 0, none⟩))])).modify 0 (putC #[.iface 208 (.pointer (some ⟨lowB + 1, 0, none⟩))]) }
theorem laidWorld_met (os : Os) (args : Array Value) : laidMetH Tryz.prog laidL ((laidWorld os).forCall (fun _ _ => 0) ⟨#[], args, []⟩).memory := by
 show laidMet Tryz.prog laidL _
 exact laidMet_of_run' 8 (by kernel_rfl) (by kernel_rfl)
end
end Go.Proofs.YtipcoglddfgopaaGreatDoor
