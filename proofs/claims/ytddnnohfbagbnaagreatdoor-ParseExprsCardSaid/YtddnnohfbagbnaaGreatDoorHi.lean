/- A short name for what hides a fact. -/
import Derived.Below
import Derived.Lib.Hide
namespace Go.Proofs.YtddnnohfbagbnaaGreatDoor
open Go.RowKit
theorem ke {p : Prop} (h : p) : Hid p := Lib.hid h
end Go.Proofs.YtddnnohfbagbnaaGreatDoor
