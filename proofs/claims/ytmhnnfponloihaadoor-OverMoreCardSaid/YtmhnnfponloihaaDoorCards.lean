/-
  DERIVED. GIVEN WITH THE SEED: THE CARDS: each row of YtmhnnfponloihaaDoorRows.lean that lists a variable, with what it lists TIED to the program's text (the seventh form; the later family's looks); each row that meets fmt, with fmt's text TOLD by the authors' own Lean function (tested against real Go, not proved from fmt's source: count such statements apart). THE CARD IS WHAT COUNTS. Prove the row's statement (the work); the ties are given (YtmhnnfponloihaaDoorTie.lean); close each card by the builder's one call (the guide's Derived/Test/ToyasCard.lean, 'card_holds'). Laid BY PROGRAM, IN A SANDBOX (cutbox-door.mjs). By AI agents, Wed Nov 11 2026. No macro, syntax, notation, axiom, sorry.
-/
import Derived.Test.YtmhnnfponloihaaDoorRows
import GoSem.ClaimSeven
namespace Go.Proofs.YtmhnnfponloihaaDoor
namespace Rows

/-- THE TIED CARD OF 'changelinglaw9.OverCounts'. -/
def overCountsCard : Claim7 := { stood := { row := overCountsRow, standIns := [], harness := (true, "09030a34275edcd8e1c8a3195354d853f67a1d507972bb4420b21f5c72c3398f"), looks := true }, kinds := [], alts := [], laidByText := true, laidKinds := [.data, .data, .data], laidTests := true, laidLooks := .later }
def OverCountsCardSaid : Prop := Claim7.holds Tryd.pinned (.plain (OpenSpec.ofChange overCountsSpec)) overCountsCard

/-- THE TIED CARD OF 'changelinglaw9.OverBest'. -/
def overBestCard : Claim7 := { stood := { row := overBestRow, standIns := [], harness := (true, "09030a34275edcd8e1c8a3195354d853f67a1d507972bb4420b21f5c72c3398f"), looks := true }, kinds := [], alts := [], laidByText := true, laidKinds := [.data, .data, .data], laidTests := true, laidLooks := .later }
def OverBestCardSaid : Prop := Claim7.holds Tryd.pinned (.plain (OpenSpec.ofChange overBestSpec)) overBestCard

/-- THE TIED CARD OF 'changelinglaw9.OverMore'. -/
def overMoreCard : Claim7 := { stood := { row := overMoreRow, standIns := [], harness := (true, "09030a34275edcd8e1c8a3195354d853f67a1d507972bb4420b21f5c72c3398f"), looks := true }, kinds := [], alts := [], laidByText := true, laidKinds := [.data, .data, .data], laidTests := true, laidLooks := .later }
def OverMoreCardSaid : Prop := Claim7.holds Tryd.pinned (.plain (OpenSpec.ofChange overMoreSpec)) overMoreCard

/-- THE SECOND FORM's CARD OF 'changelinglaw9.OverCounts'. -/
def overCountsUptoCard : Claim7 := { stood := { row := overCountsUptoRow, standIns := [], harness := (true, "09030a34275edcd8e1c8a3195354d853f67a1d507972bb4420b21f5c72c3398f"), looks := true }, kinds := [], alts := [], laidByText := true, laidKinds := [.data, .data, .data], laidTests := true, laidLooks := .later }
def OverCountsUptoCardSaid : Prop := Claim7.holds Tryd.pinned (.plain (OpenSpec.upto overCountsSpec)) overCountsUptoCard

/-- THE SECOND FORM's CARD OF 'changelinglaw9.OverBest'. -/
def overBestUptoCard : Claim7 := { stood := { row := overBestUptoRow, standIns := [], harness := (true, "09030a34275edcd8e1c8a3195354d853f67a1d507972bb4420b21f5c72c3398f"), looks := true }, kinds := [], alts := [], laidByText := true, laidKinds := [.data, .data, .data], laidTests := true, laidLooks := .later }
def OverBestUptoCardSaid : Prop := Claim7.holds Tryd.pinned (.plain (OpenSpec.upto overBestSpec)) overBestUptoCard

/-- THE SECOND FORM's CARD OF 'changelinglaw9.OverMore'. -/
def overMoreUptoCard : Claim7 := { stood := { row := overMoreUptoRow, standIns := [], harness := (true, "09030a34275edcd8e1c8a3195354d853f67a1d507972bb4420b21f5c72c3398f"), looks := true }, kinds := [], alts := [], laidByText := true, laidKinds := [.data, .data, .data], laidTests := true, laidLooks := .later }
def OverMoreUptoCardSaid : Prop := Claim7.holds Tryd.pinned (.plain (OpenSpec.upto overMoreSpec)) overMoreUptoCard
end Rows
end Go.Proofs.YtmhnnfponloihaaDoor
