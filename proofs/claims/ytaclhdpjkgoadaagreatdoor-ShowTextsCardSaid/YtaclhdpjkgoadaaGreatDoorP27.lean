/- Parts of the proof: ClD, ClE, ClF. -/
import Derived.Test.YtaclhdpjkgoadaaGreatDoorP26
import Derived.Deep.Cut
import Derived.Deep.AppendLies
namespace Go.Proofs.YtaclhdpjkgoadaaGreatDoor
set_option linter.unusedSimpArgs false
set_option linter.unusedVariables false
section
open Go.RowKit
section
variable {t : Tg} {T : TypeId} {B B2 : Nat} {r r' : Option Nat} {w w' : World} {v v' : Value} {xs ys : List Nd} {x y : Nd}
end
@[go_sem] theorem is_fd_fd (v : Value) (w : World) : (Instr.typeAssert (.iface 159 v) 71 159 true).run Tryz.prog w = .ok (.tuple #[v, .bool true]) w := by kernel_rfl
@[go_sem] theorem is_fd_mt (v : Value) (w : World) : (Instr.typeAssert (.iface 159 v) 71 165 true).run Tryz.prog w = .ok (.tuple #[.agg #[.bool false, .bool false, .string ⟨#[]⟩, .string ⟨#[]⟩, .slice none 0 0, .slice none 0 0], .bool false]) w := by kernel_rfl
@[go_sem] theorem is_mt_fd (v : Value) (w : World) : (Instr.typeAssert (.iface 165 v) 71 159 true).run Tryz.prog w = .ok (.tuple #[.agg #[.bool false, .string ⟨#[]⟩, .string ⟨#[]⟩, .slice none 0 0], .bool false]) w := by kernel_rfl
@[go_sem] theorem is_mt_mt (v : Value) (w : World) : (Instr.typeAssert (.iface 165 v) 71 165 true).run Tryz.prog w = .ok (.tuple #[v, .bool true]) w := by kernel_rfl
end
section
open Go.RowKit
structure ClsAt (W0 w : World) (c bc : Nat) (s : RS) (nm sp : ByteArray) (f g : List Nd) (wr : World) (Af Am : Option Addr) (cf cm : Nat) (fs gs : List Nd) : Prop where
 mv : Mv W0 c s w wr
 bx : Bx wr bc #[.string nm, .string sp, .slice Af fs.length cf, .slice Am gs.length cm] 46
 rf : OwnT .fd 159 (bc + 1) (Value.slice Am gs.length cm).ownBlock wr (.slice Af fs.length cf) fs
 rm : OwnT .mt 165 (bc + 1) (Value.slice Af fs.length cf).ownBlock wr (.slice Am gs.length cm) gs
 ne : ∀ k, (Value.slice Af fs.length cf).ownBlock = some k → (Value.slice Am gs.length cm).ownBlock ≠ some k
 bf : bareL fs = bareL f
 bg : bareL gs = bareL g
 hb : w.heap.size < bc
 hc : c < w.heap.size
 rb : Bx wr w.heap.size #[.string ⟨#[]⟩, .string ⟨#[]⟩, .slice none 0 0, .slice none 0 0] 46
 hle : W0.heap.size ≤ w.heap.size
section
variable {W0 w wr w' : World} {c bc : Nat} {s s2 : RS} {nm sp : ByteArray} {f g : List Nd} {Af Am : Option Addr} {cf cm : Nat} {fs gs : List Nd}
end
end
section
open Go.RowKit
structure PrgAt (W0 w : World) (c : Nat) (s : RS) (acc : List Nd) (wr : World) (A : Option Addr) (cap : Nat) (ys : List Nd) : Prop where
 mv : Mv W0 c s w wr
 bx : Bx wr (w.heap.size + 1) #[.slice A ys.length cap] 38
 rw' : OwnT .cl 46 (w.heap.size + 2) none wr (.slice A ys.length cap) ys
 bq : bareL ys = bareL acc
 hc : c < w.heap.size
 rb : Bx wr w.heap.size #[.slice none 0 0] 38
 hle : W0.heap.size ≤ w.heap.size
section
variable {W0 w wr w' : World} {c : Nat} {s s2 : RS} {acc : List Nd} {A : Option Addr} {cap : Nat} {ys : List Nd}
end
end
end Go.Proofs.YtaclhdpjkgoadaaGreatDoor
