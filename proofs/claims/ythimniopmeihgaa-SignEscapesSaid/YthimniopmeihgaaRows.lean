/-
  No cell of these rows narrows 'for every input' (looked for: loops, veiled, ifaces, maps, wideKeys, modest, calm, conditions, laid).
  DERIVED. THE GIVEN ROWS OF THIS SEAT. 5 by the template 'for every input the law returns true; each argument reads behind the call as it read before'; 0 by the template 'total and deterministic' (their statements: YthimniopmeihgaaTotals.lean).
  GIVEN WITH THE SEED: the statements are not yours to turn. If you find one false, say at which input.
  Laid BY PROGRAM, IN A SANDBOX (cutbox-rows.mjs): the forced cells as the released guide's own fill.sh prints them over the translation eb90a5a58f97a50c… (all of the seat's roots in one cut). By AI agents, Wed Nov 11 2026. No macro, syntax, notation, axiom, sorry.
-/
import Derived.Test.YthimniopmeihgaaChecked
import GoSem.Claim
import GoSem.ClaimJoined
import GoSem.ClaimMapViews
import Derived.JoinedTies
import Derived.KernelRfl
namespace Go.Proofs.Ythimniopmeihgaa
/- THE CELL 'sum', in the pinned program and in every row, IS THE sha256 OF THE DUMP (.gsa) THAT YthimniopmeihgaaProg.lean LOADS. Nothing in Lean hashes anything: it is a label: what it is worth is what the hold of that sum in a sandbox is worth. -/
noncomputable def Try.pinned : Pinned := { name := "ythimniopmeihgaa", sum := "eb90a5a58f97a50ccf5f339bcf0ccaec3343e5c9ce4739fe6eaab27ceb9d4d71", checked := Try.checked }
namespace Rows
def none {H : Type} : Left H := { results := [], args := [] }

/-- 'changelinglaw1.SignAsks': WHATEVER THE INPUT: true; the input reads as it did. -/
def signAsksSpec : ChangeSpec := { name := "signAsks", fn := fun _ => fun
  | [d1, d2] => { results := [.lit (.bool true)], args := [d1, d2] }
  | _ => none }
def signAsksRow : OpenClaim := { program := "ythimniopmeihgaa", sum := "eb90a5a58f97a50ccf5f339bcf0ccaec3343e5c9ce4739fe6eaab27ceb9d4d71", func := "changeling/changelinglaw1.SignAsks", spec := "signAsks", inPlace := ["internal/abi.NoEscape"], unfollowed := true, recurses := true, apart := false }
def SignAsksSaid : Prop := signAsksRow.holds Try.pinned (OpenSpec.ofChange signAsksSpec)

/-- ITS FALSE NEIGHBOUR: 'it returns false'. Refute it at one input. -/
def signAsksWrong : ChangeSpec := { name := "signAsks", fn := fun _ => fun
  | [d1, d2] => { results := [.lit (.bool false)], args := [d1, d2] }
  | _ => none }
def SignAsksWrongFalsely : Prop := signAsksRow.holds Try.pinned (OpenSpec.ofChange signAsksWrong)

/-- 'changelinglaw1.SignBack': WHATEVER THE INPUT: true; the input reads as it did. -/
def signBackSpec : ChangeSpec := { name := "signBack", fn := fun _ => fun
  | [d] => { results := [.lit (.bool true)], args := [d] }
  | _ => none }
def signBackRow : OpenClaim := { program := "ythimniopmeihgaa", sum := "eb90a5a58f97a50ccf5f339bcf0ccaec3343e5c9ce4739fe6eaab27ceb9d4d71", func := "changeling/changelinglaw1.SignBack", spec := "signBack", inPlace := ["internal/abi.NoEscape"], unfollowed := true, recurses := true, apart := false }
def SignBackSaid : Prop := signBackRow.holds Try.pinned (OpenSpec.ofChange signBackSpec)

/-- ITS FALSE NEIGHBOUR: 'it returns false'. Refute it at one input. -/
def signBackWrong : ChangeSpec := { name := "signBack", fn := fun _ => fun
  | [d] => { results := [.lit (.bool false)], args := [d] }
  | _ => none }
def SignBackWrongFalsely : Prop := signBackRow.holds Try.pinned (OpenSpec.ofChange signBackWrong)

/-- 'changelinglaw1.SignBad': WHATEVER THE INPUT: true; the input reads as it did. -/
def signBadSpec : ChangeSpec := { name := "signBad", fn := fun _ => fun
  | [d] => { results := [.lit (.bool true)], args := [d] }
  | _ => none }
def signBadRow : OpenClaim := { program := "ythimniopmeihgaa", sum := "eb90a5a58f97a50ccf5f339bcf0ccaec3343e5c9ce4739fe6eaab27ceb9d4d71", func := "changeling/changelinglaw1.SignBad", spec := "signBad", inPlace := ["internal/abi.NoEscape"], unfollowed := true, recurses := true, apart := false }
def SignBadSaid : Prop := signBadRow.holds Try.pinned (OpenSpec.ofChange signBadSpec)

/-- ITS FALSE NEIGHBOUR: 'it returns false'. Refute it at one input. -/
def signBadWrong : ChangeSpec := { name := "signBad", fn := fun _ => fun
  | [d] => { results := [.lit (.bool false)], args := [d] }
  | _ => none }
def SignBadWrongFalsely : Prop := signBadRow.holds Try.pinned (OpenSpec.ofChange signBadWrong)

/-- 'changelinglaw1.SignNames': WHATEVER THE INPUT: true; the input reads as it did. -/
def signNamesSpec : ChangeSpec := { name := "signNames", fn := fun _ => fun
  | [d] => { results := [.lit (.bool true)], args := [d] }
  | _ => none }
def signNamesRow : OpenClaim := { program := "ythimniopmeihgaa", sum := "eb90a5a58f97a50ccf5f339bcf0ccaec3343e5c9ce4739fe6eaab27ceb9d4d71", func := "changeling/changelinglaw1.SignNames", spec := "signNames", inPlace := ["internal/abi.NoEscape"], unfollowed := true, recurses := true, apart := false }
def SignNamesSaid : Prop := signNamesRow.holds Try.pinned (OpenSpec.ofChange signNamesSpec)

/-- ITS FALSE NEIGHBOUR: 'it returns false'. Refute it at one input. -/
def signNamesWrong : ChangeSpec := { name := "signNames", fn := fun _ => fun
  | [d] => { results := [.lit (.bool false)], args := [d] }
  | _ => none }
def SignNamesWrongFalsely : Prop := signNamesRow.holds Try.pinned (OpenSpec.ofChange signNamesWrong)

/-- 'changelinglaw1.SignEscapes': WHATEVER THE INPUT: true; the input reads as it did. -/
def signEscapesSpec : ChangeSpec := { name := "signEscapes", fn := fun _ => fun
  | [d] => { results := [.lit (.bool true)], args := [d] }
  | _ => none }
def signEscapesRow : OpenClaim := { program := "ythimniopmeihgaa", sum := "eb90a5a58f97a50ccf5f339bcf0ccaec3343e5c9ce4739fe6eaab27ceb9d4d71", func := "changeling/changelinglaw1.SignEscapes", spec := "signEscapes", inPlace := ["internal/abi.NoEscape"], unfollowed := true, recurses := true, apart := false }
def SignEscapesSaid : Prop := signEscapesRow.holds Try.pinned (OpenSpec.ofChange signEscapesSpec)

/-- ITS FALSE NEIGHBOUR: 'it returns false'. Refute it at one input. -/
def signEscapesWrong : ChangeSpec := { name := "signEscapes", fn := fun _ => fun
  | [d] => { results := [.lit (.bool false)], args := [d] }
  | _ => none }
def SignEscapesWrongFalsely : Prop := signEscapesRow.holds Try.pinned (OpenSpec.ofChange signEscapesWrong)

/- THE SECOND FORM. 'bulk': how many values and letters a reading holds, each counted each time it is reached (what is shared counts as often as it is met; a slice's spare places count too). A statement '..UptoSaid' is the law's where the arguments, and the package variables that the reading takes, are together of bulk at most 1048576: NARROWER than '..Said'. Prove '..Said' where nothing that the law and all that it calls make is longer than what came in: it says more and counts as full. Else prove '..UptoSaid'. A law counts once. -/
mutual
def uptoBulk {H : Type} : DataW H → Nat
  | .lit (.string bytes) => bytes.length + 1
  | .lit _ => 1
  | .nil => 1
  | .ptr d => uptoBulk d + 1
  | .slice elems spare => uptoBulkAll elems + uptoBulkAll spare + 1
  | .agg parts => uptoBulkAll parts + 1
  | .iface _ d => uptoBulk d + 1
  | .map entries => uptoBulkEntries entries + 1
  | .held _ => 1
def uptoBulkAll {H : Type} : List (DataW H) → Nat
  | [] => 0
  | d :: r => uptoBulk d + uptoBulkAll r
def uptoBulkEntries {H : Type} : List (Lit × DataW H) → Nat
  | [] => 0
  | x :: r => uptoBulkEntry x + uptoBulkEntries r
def uptoBulkEntry {H : Type} : Lit × DataW H → Nat
  | (.string bytes, d) => bytes.length + uptoBulk d + 1
  | (_, d) => uptoBulk d + 1
 end
def uptoSmall : (H : Type) → List (DataW H) → Bool := fun _ ds => decide (uptoBulkAll ds ≤ 1048576)
def OpenSpec.upto (s : _root_.Go.ChangeSpec) : _root_.Go.OpenSpec := { _root_.Go.OpenSpec.ofChange s with cond := some uptoSmall }

/-- 'changelinglaw1.SignAsks', WHERE WHAT IT READS IS OF BULK AT MOST 1048576: true; the input reads as it did. -/
def signAsksUptoRow : OpenClaim := { program := "ythimniopmeihgaa", sum := "eb90a5a58f97a50ccf5f339bcf0ccaec3343e5c9ce4739fe6eaab27ceb9d4d71", func := "changeling/changelinglaw1.SignAsks", spec := "signAsks", inPlace := ["internal/abi.NoEscape"], unfollowed := true, recurses := true, apart := false, narrowed := true }
def SignAsksUptoSaid : Prop := signAsksUptoRow.holds Try.pinned (OpenSpec.upto signAsksSpec)

/-- 'changelinglaw1.SignBack', WHERE WHAT IT READS IS OF BULK AT MOST 1048576: true; the input reads as it did. -/
def signBackUptoRow : OpenClaim := { program := "ythimniopmeihgaa", sum := "eb90a5a58f97a50ccf5f339bcf0ccaec3343e5c9ce4739fe6eaab27ceb9d4d71", func := "changeling/changelinglaw1.SignBack", spec := "signBack", inPlace := ["internal/abi.NoEscape"], unfollowed := true, recurses := true, apart := false, narrowed := true }
def SignBackUptoSaid : Prop := signBackUptoRow.holds Try.pinned (OpenSpec.upto signBackSpec)

/-- 'changelinglaw1.SignBad', WHERE WHAT IT READS IS OF BULK AT MOST 1048576: true; the input reads as it did. -/
def signBadUptoRow : OpenClaim := { program := "ythimniopmeihgaa", sum := "eb90a5a58f97a50ccf5f339bcf0ccaec3343e5c9ce4739fe6eaab27ceb9d4d71", func := "changeling/changelinglaw1.SignBad", spec := "signBad", inPlace := ["internal/abi.NoEscape"], unfollowed := true, recurses := true, apart := false, narrowed := true }
def SignBadUptoSaid : Prop := signBadUptoRow.holds Try.pinned (OpenSpec.upto signBadSpec)

/-- 'changelinglaw1.SignNames', WHERE WHAT IT READS IS OF BULK AT MOST 1048576: true; the input reads as it did. -/
def signNamesUptoRow : OpenClaim := { program := "ythimniopmeihgaa", sum := "eb90a5a58f97a50ccf5f339bcf0ccaec3343e5c9ce4739fe6eaab27ceb9d4d71", func := "changeling/changelinglaw1.SignNames", spec := "signNames", inPlace := ["internal/abi.NoEscape"], unfollowed := true, recurses := true, apart := false, narrowed := true }
def SignNamesUptoSaid : Prop := signNamesUptoRow.holds Try.pinned (OpenSpec.upto signNamesSpec)

/-- 'changelinglaw1.SignEscapes', WHERE WHAT IT READS IS OF BULK AT MOST 1048576: true; the input reads as it did. -/
def signEscapesUptoRow : OpenClaim := { program := "ythimniopmeihgaa", sum := "eb90a5a58f97a50ccf5f339bcf0ccaec3343e5c9ce4739fe6eaab27ceb9d4d71", func := "changeling/changelinglaw1.SignEscapes", spec := "signEscapes", inPlace := ["internal/abi.NoEscape"], unfollowed := true, recurses := true, apart := false, narrowed := true }
def SignEscapesUptoSaid : Prop := signEscapesUptoRow.holds Try.pinned (OpenSpec.upto signEscapesSpec)

end Rows
end Go.Proofs.Ythimniopmeihgaa
