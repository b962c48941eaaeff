/-
  DERIVED. GIVEN WITH THE SEED: THE CARDS: each row of YtddnnohfbagbnaaGreatDoorRows.lean that lists a variable, with what it lists TIED to the program's text (the seventh form; the later family's looks); each row that meets fmt, with fmt's text TOLD by the authors' own Lean function (tested against real Go, not proved from fmt's source: count such statements apart). THE CARD IS WHAT COUNTS. Prove the row's statement (the work); the ties are given (YtddnnohfbagbnaaGreatDoorTie.lean); close each card by the builder's one call (the guide's Derived/Test/ToyasCard.lean, 'card_holds'). Laid BY PROGRAM, IN A SANDBOX (cutbox-door.mjs). By AI agents, Wed Nov 11 2026. No macro, syntax, notation, axiom, sorry.
-/
import Derived.Test.YtddnnohfbagbnaaGreatDoorRows
import GoSem.ClaimSeven
namespace Go.Proofs.YtddnnohfbagbnaaGreatDoor
namespace Rows

/-- THE TIED CARD OF 'changelinglaw4.ParseAsks'. -/
def parseAsksCard : Claim7 := { stood := { row := parseAsksRow, standIns := [], harness := (true, "662ccee2e2164d1627143462ff67f880fdcdb1948d3994ea945b843fc4c79ef1"), looks := true }, kinds := [], alts := [], laidByText := true, laidKinds := [.data, .data, .data, .sentinel, .sentinel], laidTests := true, laidLooks := .later }
def ParseAsksCardSaid : Prop := Claim7.holds Tryz.pinned (.plain (OpenSpec.ofChange parseAsksSpec)) parseAsksCard

/-- THE TIED CARD OF 'changelinglaw4.ParseExprs'. -/
def parseExprsCard : Claim7 := { stood := { row := parseExprsRow, standIns := [], harness := (true, "662ccee2e2164d1627143462ff67f880fdcdb1948d3994ea945b843fc4c79ef1"), looks := true }, kinds := [], alts := [], laidByText := true, laidKinds := [.data, .data, .data, .sentinel, .sentinel], laidTests := true, laidLooks := .later }
def ParseExprsCardSaid : Prop := Claim7.holds Tryz.pinned (.plain (OpenSpec.ofChange parseExprsSpec)) parseExprsCard

/-- THE SECOND FORM's CARD OF 'changelinglaw4.ParseAsks'. -/
def parseAsksUptoCard : Claim7 := { stood := { row := parseAsksUptoRow, standIns := [], harness := (true, "662ccee2e2164d1627143462ff67f880fdcdb1948d3994ea945b843fc4c79ef1"), looks := true }, kinds := [], alts := [], laidByText := true, laidKinds := [.data, .data, .data, .sentinel, .sentinel], laidTests := true, laidLooks := .later }
def ParseAsksUptoCardSaid : Prop := Claim7.holds Tryz.pinned (.plain (OpenSpec.upto parseAsksSpec)) parseAsksUptoCard

/-- THE SECOND FORM's CARD OF 'changelinglaw4.ParseExprs'. -/
def parseExprsUptoCard : Claim7 := { stood := { row := parseExprsUptoRow, standIns := [], harness := (true, "662ccee2e2164d1627143462ff67f880fdcdb1948d3994ea945b843fc4c79ef1"), looks := true }, kinds := [], alts := [], laidByText := true, laidKinds := [.data, .data, .data, .sentinel, .sentinel], laidTests := true, laidLooks := .later }
def ParseExprsUptoCardSaid : Prop := Claim7.holds Tryz.pinned (.plain (OpenSpec.upto parseExprsSpec)) parseExprsUptoCard
end Rows
end Go.Proofs.YtddnnohfbagbnaaGreatDoor
