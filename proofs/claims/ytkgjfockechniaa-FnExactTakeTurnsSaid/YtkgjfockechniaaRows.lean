/-
  No cell of these rows narrows 'for every input' (looked for: loops, veiled, ifaces, maps, wideKeys, modest, calm, conditions, laid).
  DERIVED. THE GIVEN ROWS OF THIS SEAT. 16 by the template 'for every input the law returns true; each argument reads behind the call as it read before'; 0 by the template 'total and deterministic' (their statements: YtkgjfockechniaaTotals.lean).
  GIVEN WITH THE SEED: the statements are not yours to turn. If you find one false, say at which input.
  Laid BY PROGRAM, IN A SANDBOX (cutbox-rows.mjs): the forced cells as the released guide's own fill.sh prints them over the translation 6601151e39d2a0f5… (all of the seat's roots in one cut). By AI agents, Wed Nov 11 2026. No macro, syntax, notation, axiom, sorry.
-/
import Derived.Test.YtkgjfockechniaaChecked
import GoSem.Claim
import GoSem.ClaimJoined
import GoSem.ClaimMapViews
import Derived.JoinedTies
import Derived.KernelRfl
namespace Go.Proofs.Ytkgjfockechniaa
/- THE CELL 'sum', in the pinned program and in every row, IS THE sha256 OF THE DUMP (.gsa) THAT YtkgjfockechniaaProg.lean LOADS. Nothing in Lean hashes anything: it is a label: what it is worth is what the hold of that sum in a sandbox is worth. -/
noncomputable def Try.pinned : Pinned := { name := "ytkgjfockechniaa", sum := "6601151e39d2a0f5c98fa6fbb72186702d2138abf99d5125e64464ef0240525e", checked := Try.checked }
namespace Rows
def none {H : Type} : Left H := { results := [], args := [] }

/-- 'laws.FnExactValidValues': WHATEVER THE INPUT: true; the input reads as it did. -/
def fnExactValidValuesSpec : ChangeSpec := { name := "fnExactValidValues", fn := fun _ => fun
  | [d] => { results := [.lit (.bool true)], args := [d] }
  | _ => none }
def fnExactValidValuesRow : OpenClaim := { program := "ytkgjfockechniaa", sum := "6601151e39d2a0f5c98fa6fbb72186702d2138abf99d5125e64464ef0240525e", func := "loop.example/g01365/laws.FnExactValidValues", spec := "fnExactValidValues", apart := false }
def FnExactValidValuesSaid : Prop := fnExactValidValuesRow.holds Try.pinned (OpenSpec.ofChange fnExactValidValuesSpec)

/-- ITS FALSE NEIGHBOUR: 'it returns false'. Refute it at one input. -/
def fnExactValidValuesWrong : ChangeSpec := { name := "fnExactValidValues", fn := fun _ => fun
  | [d] => { results := [.lit (.bool false)], args := [d] }
  | _ => none }
def FnExactValidValuesWrongFalsely : Prop := fnExactValidValuesRow.holds Try.pinned (OpenSpec.ofChange fnExactValidValuesWrong)

/-- 'laws.FnExactSameValues': WHATEVER THE INPUT: true; the input reads as it did. -/
def fnExactSameValuesSpec : ChangeSpec := { name := "fnExactSameValues", fn := fun _ => fun
  | [d1, d2] => { results := [.lit (.bool true)], args := [d1, d2] }
  | _ => none }
def fnExactSameValuesRow : OpenClaim := { program := "ytkgjfockechniaa", sum := "6601151e39d2a0f5c98fa6fbb72186702d2138abf99d5125e64464ef0240525e", func := "loop.example/g01365/laws.FnExactSameValues", spec := "fnExactSameValues", apart := false }
def FnExactSameValuesSaid : Prop := fnExactSameValuesRow.holds Try.pinned (OpenSpec.ofChange fnExactSameValuesSpec)

/-- ITS FALSE NEIGHBOUR: 'it returns false'. Refute it at one input. -/
def fnExactSameValuesWrong : ChangeSpec := { name := "fnExactSameValues", fn := fun _ => fun
  | [d1, d2] => { results := [.lit (.bool false)], args := [d1, d2] }
  | _ => none }
def FnExactSameValuesWrongFalsely : Prop := fnExactSameValuesRow.holds Try.pinned (OpenSpec.ofChange fnExactSameValuesWrong)

/-- 'laws.FnExactOwnWorths': WHATEVER THE INPUT: true; the input reads as it did. -/
def fnExactOwnWorthsSpec : ChangeSpec := { name := "fnExactOwnWorths", fn := fun _ => fun
  | [d1, d2] => { results := [.lit (.bool true)], args := [d1, d2] }
  | _ => none }
def fnExactOwnWorthsRow : OpenClaim := { program := "ytkgjfockechniaa", sum := "6601151e39d2a0f5c98fa6fbb72186702d2138abf99d5125e64464ef0240525e", func := "loop.example/g01365/laws.FnExactOwnWorths", spec := "fnExactOwnWorths", unfollowed := true, recurses := true, apart := false }
def FnExactOwnWorthsSaid : Prop := fnExactOwnWorthsRow.holds Try.pinned (OpenSpec.ofChange fnExactOwnWorthsSpec)

/-- ITS FALSE NEIGHBOUR: 'it returns false'. Refute it at one input. -/
def fnExactOwnWorthsWrong : ChangeSpec := { name := "fnExactOwnWorths", fn := fun _ => fun
  | [d1, d2] => { results := [.lit (.bool false)], args := [d1, d2] }
  | _ => none }
def FnExactOwnWorthsWrongFalsely : Prop := fnExactOwnWorthsRow.holds Try.pinned (OpenSpec.ofChange fnExactOwnWorthsWrong)

/-- 'laws.FnExactEnvyTable': WHATEVER THE INPUT: true; the input reads as it did. -/
def fnExactEnvyTableSpec : ChangeSpec := { name := "fnExactEnvyTable", fn := fun _ => fun
  | [d1, d2] => { results := [.lit (.bool true)], args := [d1, d2] }
  | _ => none }
def fnExactEnvyTableRow : OpenClaim := { program := "ytkgjfockechniaa", sum := "6601151e39d2a0f5c98fa6fbb72186702d2138abf99d5125e64464ef0240525e", func := "loop.example/g01365/laws.FnExactEnvyTable", spec := "fnExactEnvyTable", unfollowed := true, recurses := true, apart := false }
def FnExactEnvyTableSaid : Prop := fnExactEnvyTableRow.holds Try.pinned (OpenSpec.ofChange fnExactEnvyTableSpec)

/-- ITS FALSE NEIGHBOUR: 'it returns false'. Refute it at one input. -/
def fnExactEnvyTableWrong : ChangeSpec := { name := "fnExactEnvyTable", fn := fun _ => fun
  | [d1, d2] => { results := [.lit (.bool false)], args := [d1, d2] }
  | _ => none }
def FnExactEnvyTableWrongFalsely : Prop := fnExactEnvyTableRow.holds Try.pinned (OpenSpec.ofChange fnExactEnvyTableWrong)

/-- 'laws.FnExactIsEnvyFree': WHATEVER THE INPUT: true; the input reads as it did. -/
def fnExactIsEnvyFreeSpec : ChangeSpec := { name := "fnExactIsEnvyFree", fn := fun _ => fun
  | [d1, d2] => { results := [.lit (.bool true)], args := [d1, d2] }
  | _ => none }
def fnExactIsEnvyFreeRow : OpenClaim := { program := "ytkgjfockechniaa", sum := "6601151e39d2a0f5c98fa6fbb72186702d2138abf99d5125e64464ef0240525e", func := "loop.example/g01365/laws.FnExactIsEnvyFree", spec := "fnExactIsEnvyFree", unfollowed := true, recurses := true, apart := false }
def FnExactIsEnvyFreeSaid : Prop := fnExactIsEnvyFreeRow.holds Try.pinned (OpenSpec.ofChange fnExactIsEnvyFreeSpec)

/-- ITS FALSE NEIGHBOUR: 'it returns false'. Refute it at one input. -/
def fnExactIsEnvyFreeWrong : ChangeSpec := { name := "fnExactIsEnvyFree", fn := fun _ => fun
  | [d1, d2] => { results := [.lit (.bool false)], args := [d1, d2] }
  | _ => none }
def FnExactIsEnvyFreeWrongFalsely : Prop := fnExactIsEnvyFreeRow.holds Try.pinned (OpenSpec.ofChange fnExactIsEnvyFreeWrong)

/-- 'laws.FnExactIsFreeUpToOne': WHATEVER THE INPUT: true; the input reads as it did. -/
def fnExactIsFreeUpToOneSpec : ChangeSpec := { name := "fnExactIsFreeUpToOne", fn := fun _ => fun
  | [d1, d2] => { results := [.lit (.bool true)], args := [d1, d2] }
  | _ => none }
def fnExactIsFreeUpToOneRow : OpenClaim := { program := "ytkgjfockechniaa", sum := "6601151e39d2a0f5c98fa6fbb72186702d2138abf99d5125e64464ef0240525e", func := "loop.example/g01365/laws.FnExactIsFreeUpToOne", spec := "fnExactIsFreeUpToOne", unfollowed := true, recurses := true, apart := false }
def FnExactIsFreeUpToOneSaid : Prop := fnExactIsFreeUpToOneRow.holds Try.pinned (OpenSpec.ofChange fnExactIsFreeUpToOneSpec)

/-- ITS FALSE NEIGHBOUR: 'it returns false'. Refute it at one input. -/
def fnExactIsFreeUpToOneWrong : ChangeSpec := { name := "fnExactIsFreeUpToOne", fn := fun _ => fun
  | [d1, d2] => { results := [.lit (.bool false)], args := [d1, d2] }
  | _ => none }
def FnExactIsFreeUpToOneWrongFalsely : Prop := fnExactIsFreeUpToOneRow.holds Try.pinned (OpenSpec.ofChange fnExactIsFreeUpToOneWrong)

/-- 'laws.FnExactIsEvenShare': WHATEVER THE INPUT: true; the input reads as it did. -/
def fnExactIsEvenShareSpec : ChangeSpec := { name := "fnExactIsEvenShare", fn := fun _ => fun
  | [d1, d2] => { results := [.lit (.bool true)], args := [d1, d2] }
  | _ => none }
def fnExactIsEvenShareRow : OpenClaim := { program := "ytkgjfockechniaa", sum := "6601151e39d2a0f5c98fa6fbb72186702d2138abf99d5125e64464ef0240525e", func := "loop.example/g01365/laws.FnExactIsEvenShare", spec := "fnExactIsEvenShare", unfollowed := true, recurses := true, apart := false }
def FnExactIsEvenShareSaid : Prop := fnExactIsEvenShareRow.holds Try.pinned (OpenSpec.ofChange fnExactIsEvenShareSpec)

/-- ITS FALSE NEIGHBOUR: 'it returns false'. Refute it at one input. -/
def fnExactIsEvenShareWrong : ChangeSpec := { name := "fnExactIsEvenShare", fn := fun _ => fun
  | [d1, d2] => { results := [.lit (.bool false)], args := [d1, d2] }
  | _ => none }
def FnExactIsEvenShareWrongFalsely : Prop := fnExactIsEvenShareRow.holds Try.pinned (OpenSpec.ofChange fnExactIsEvenShareWrong)

/-- 'laws.FnExactTakeTurns': WHATEVER THE INPUT: true; the input reads as it did. -/
def fnExactTakeTurnsSpec : ChangeSpec := { name := "fnExactTakeTurns", fn := fun _ => fun
  | [d1, d2] => { results := [.lit (.bool true)], args := [d1, d2] }
  | _ => none }
def fnExactTakeTurnsRow : OpenClaim := { program := "ytkgjfockechniaa", sum := "6601151e39d2a0f5c98fa6fbb72186702d2138abf99d5125e64464ef0240525e", func := "loop.example/g01365/laws.FnExactTakeTurns", spec := "fnExactTakeTurns", unfollowed := true, recurses := true, apart := false }
def FnExactTakeTurnsSaid : Prop := fnExactTakeTurnsRow.holds Try.pinned (OpenSpec.ofChange fnExactTakeTurnsSpec)

/-- ITS FALSE NEIGHBOUR: 'it returns false'. Refute it at one input. -/
def fnExactTakeTurnsWrong : ChangeSpec := { name := "fnExactTakeTurns", fn := fun _ => fun
  | [d1, d2] => { results := [.lit (.bool false)], args := [d1, d2] }
  | _ => none }
def FnExactTakeTurnsWrongFalsely : Prop := fnExactTakeTurnsRow.holds Try.pinned (OpenSpec.ofChange fnExactTakeTurnsWrong)

/-- 'laws.FnExactEnvyRounds': WHATEVER THE INPUT: true; the input reads as it did. -/
def fnExactEnvyRoundsSpec : ChangeSpec := { name := "fnExactEnvyRounds", fn := fun _ => fun
  | [d] => { results := [.lit (.bool true)], args := [d] }
  | _ => none }
def fnExactEnvyRoundsRow : OpenClaim := { program := "ytkgjfockechniaa", sum := "6601151e39d2a0f5c98fa6fbb72186702d2138abf99d5125e64464ef0240525e", func := "loop.example/g01365/laws.FnExactEnvyRounds", spec := "fnExactEnvyRounds", unfollowed := true, recurses := true, apart := false }
def FnExactEnvyRoundsSaid : Prop := fnExactEnvyRoundsRow.holds Try.pinned (OpenSpec.ofChange fnExactEnvyRoundsSpec)

/-- ITS FALSE NEIGHBOUR: 'it returns false'. Refute it at one input. -/
def fnExactEnvyRoundsWrong : ChangeSpec := { name := "fnExactEnvyRounds", fn := fun _ => fun
  | [d] => { results := [.lit (.bool false)], args := [d] }
  | _ => none }
def FnExactEnvyRoundsWrongFalsely : Prop := fnExactEnvyRoundsRow.holds Try.pinned (OpenSpec.ofChange fnExactEnvyRoundsWrong)

/-- 'laws.FnExactMostWorth': WHATEVER THE INPUT: true; the input reads as it did. -/
def fnExactMostWorthSpec : ChangeSpec := { name := "fnExactMostWorth", fn := fun _ => fun
  | [d] => { results := [.lit (.bool true)], args := [d] }
  | _ => none }
def fnExactMostWorthRow : OpenClaim := { program := "ytkgjfockechniaa", sum := "6601151e39d2a0f5c98fa6fbb72186702d2138abf99d5125e64464ef0240525e", func := "loop.example/g01365/laws.FnExactMostWorth", spec := "fnExactMostWorth", unfollowed := true, recurses := true, apart := false }
def FnExactMostWorthSaid : Prop := fnExactMostWorthRow.holds Try.pinned (OpenSpec.ofChange fnExactMostWorthSpec)

/-- ITS FALSE NEIGHBOUR: 'it returns false'. Refute it at one input. -/
def fnExactMostWorthWrong : ChangeSpec := { name := "fnExactMostWorth", fn := fun _ => fun
  | [d] => { results := [.lit (.bool false)], args := [d] }
  | _ => none }
def FnExactMostWorthWrongFalsely : Prop := fnExactMostWorthRow.holds Try.pinned (OpenSpec.ofChange fnExactMostWorthWrong)

/-- 'laws.FnExactMostLeast': WHATEVER THE INPUT: true; the input reads as it did. -/
def fnExactMostLeastSpec : ChangeSpec := { name := "fnExactMostLeast", fn := fun _ => fun
  | [d] => { results := [.lit (.bool true)], args := [d] }
  | _ => none }
def fnExactMostLeastRow : OpenClaim := { program := "ytkgjfockechniaa", sum := "6601151e39d2a0f5c98fa6fbb72186702d2138abf99d5125e64464ef0240525e", func := "loop.example/g01365/laws.FnExactMostLeast", spec := "fnExactMostLeast", unfollowed := true, recurses := true, apart := false }
def FnExactMostLeastSaid : Prop := fnExactMostLeastRow.holds Try.pinned (OpenSpec.ofChange fnExactMostLeastSpec)

/-- ITS FALSE NEIGHBOUR: 'it returns false'. Refute it at one input. -/
def fnExactMostLeastWrong : ChangeSpec := { name := "fnExactMostLeast", fn := fun _ => fun
  | [d] => { results := [.lit (.bool false)], args := [d] }
  | _ => none }
def FnExactMostLeastWrongFalsely : Prop := fnExactMostLeastRow.holds Try.pinned (OpenSpec.ofChange fnExactMostLeastWrong)

/-- 'laws.FnExactMostProduct': WHATEVER THE INPUT: true; the input reads as it did. -/
def fnExactMostProductSpec : ChangeSpec := { name := "fnExactMostProduct", fn := fun _ => fun
  | [d] => { results := [.lit (.bool true)], args := [d] }
  | _ => none }
def fnExactMostProductRow : OpenClaim := { program := "ytkgjfockechniaa", sum := "6601151e39d2a0f5c98fa6fbb72186702d2138abf99d5125e64464ef0240525e", func := "loop.example/g01365/laws.FnExactMostProduct", spec := "fnExactMostProduct", unfollowed := true, recurses := true, apart := false }
def FnExactMostProductSaid : Prop := fnExactMostProductRow.holds Try.pinned (OpenSpec.ofChange fnExactMostProductSpec)

/-- ITS FALSE NEIGHBOUR: 'it returns false'. Refute it at one input. -/
def fnExactMostProductWrong : ChangeSpec := { name := "fnExactMostProduct", fn := fun _ => fun
  | [d] => { results := [.lit (.bool false)], args := [d] }
  | _ => none }
def FnExactMostProductWrongFalsely : Prop := fnExactMostProductRow.holds Try.pinned (OpenSpec.ofChange fnExactMostProductWrong)

/-- 'laws.FnExactLeastPart': WHATEVER THE INPUT: true; the input reads as it did. -/
def fnExactLeastPartSpec : ChangeSpec := { name := "fnExactLeastPart", fn := fun _ => fun
  | [d1, d2] => { results := [.lit (.bool true)], args := [d1, d2] }
  | _ => none }
def fnExactLeastPartRow : OpenClaim := { program := "ytkgjfockechniaa", sum := "6601151e39d2a0f5c98fa6fbb72186702d2138abf99d5125e64464ef0240525e", func := "loop.example/g01365/laws.FnExactLeastPart", spec := "fnExactLeastPart", unfollowed := true, recurses := true, apart := false }
def FnExactLeastPartSaid : Prop := fnExactLeastPartRow.holds Try.pinned (OpenSpec.ofChange fnExactLeastPartSpec)

/-- ITS FALSE NEIGHBOUR: 'it returns false'. Refute it at one input. -/
def fnExactLeastPartWrong : ChangeSpec := { name := "fnExactLeastPart", fn := fun _ => fun
  | [d1, d2] => { results := [.lit (.bool false)], args := [d1, d2] }
  | _ => none }
def FnExactLeastPartWrongFalsely : Prop := fnExactLeastPartRow.holds Try.pinned (OpenSpec.ofChange fnExactLeastPartWrong)

/-- 'laws.FnExactSplitOne': WHATEVER THE INPUT: true; the input reads as it did. -/
def fnExactSplitOneSpec : ChangeSpec := { name := "fnExactSplitOne", fn := fun _ => fun
  | [d1, d2] => { results := [.lit (.bool true)], args := [d1, d2] }
  | _ => none }
def fnExactSplitOneRow : OpenClaim := { program := "ytkgjfockechniaa", sum := "6601151e39d2a0f5c98fa6fbb72186702d2138abf99d5125e64464ef0240525e", func := "loop.example/g01365/laws.FnExactSplitOne", spec := "fnExactSplitOne", unfollowed := true, recurses := true, apart := false }
def FnExactSplitOneSaid : Prop := fnExactSplitOneRow.holds Try.pinned (OpenSpec.ofChange fnExactSplitOneSpec)

/-- ITS FALSE NEIGHBOUR: 'it returns false'. Refute it at one input. -/
def fnExactSplitOneWrong : ChangeSpec := { name := "fnExactSplitOne", fn := fun _ => fun
  | [d1, d2] => { results := [.lit (.bool false)], args := [d1, d2] }
  | _ => none }
def FnExactSplitOneWrongFalsely : Prop := fnExactSplitOneRow.holds Try.pinned (OpenSpec.ofChange fnExactSplitOneWrong)

/-- 'laws.FnExactRentOf': WHATEVER THE INPUT: true; the input reads as it did. -/
def fnExactRentOfSpec : ChangeSpec := { name := "fnExactRentOf", fn := fun _ => fun
  | [d1, d2] => { results := [.lit (.bool true)], args := [d1, d2] }
  | _ => none }
def fnExactRentOfRow : OpenClaim := { program := "ytkgjfockechniaa", sum := "6601151e39d2a0f5c98fa6fbb72186702d2138abf99d5125e64464ef0240525e", func := "loop.example/g01365/laws.FnExactRentOf", spec := "fnExactRentOf", unfollowed := true, recurses := true, apart := false }
def FnExactRentOfSaid : Prop := fnExactRentOfRow.holds Try.pinned (OpenSpec.ofChange fnExactRentOfSpec)

/-- ITS FALSE NEIGHBOUR: 'it returns false'. Refute it at one input. -/
def fnExactRentOfWrong : ChangeSpec := { name := "fnExactRentOf", fn := fun _ => fun
  | [d1, d2] => { results := [.lit (.bool false)], args := [d1, d2] }
  | _ => none }
def FnExactRentOfWrongFalsely : Prop := fnExactRentOfRow.holds Try.pinned (OpenSpec.ofChange fnExactRentOfWrong)

/-- 'laws.FnExactIsRentFair': WHATEVER THE INPUT: true; the input reads as it did. -/
def fnExactIsRentFairSpec : ChangeSpec := { name := "fnExactIsRentFair", fn := fun _ => fun
  | [d1, d2, d3] => { results := [.lit (.bool true)], args := [d1, d2, d3] }
  | _ => none }
def fnExactIsRentFairRow : OpenClaim := { program := "ytkgjfockechniaa", sum := "6601151e39d2a0f5c98fa6fbb72186702d2138abf99d5125e64464ef0240525e", func := "loop.example/g01365/laws.FnExactIsRentFair", spec := "fnExactIsRentFair", unfollowed := true, recurses := true, apart := false }
def FnExactIsRentFairSaid : Prop := fnExactIsRentFairRow.holds Try.pinned (OpenSpec.ofChange fnExactIsRentFairSpec)

/-- ITS FALSE NEIGHBOUR: 'it returns false'. Refute it at one input. -/
def fnExactIsRentFairWrong : ChangeSpec := { name := "fnExactIsRentFair", fn := fun _ => fun
  | [d1, d2, d3] => { results := [.lit (.bool false)], args := [d1, d2, d3] }
  | _ => none }
def FnExactIsRentFairWrongFalsely : Prop := fnExactIsRentFairRow.holds Try.pinned (OpenSpec.ofChange fnExactIsRentFairWrong)

/- THE SECOND FORM. 'bulk': how many values and letters a reading holds, each counted each time it is reached (what is shared counts as often as it is met; a slice's spare places count too). A statement '..UptoSaid' is the law's where the arguments, and the package variables that the reading takes, are together of bulk at most 1048576: NARROWER than '..Said'. Prove '..Said' where nothing that the law and all that it calls make is longer than what came in: it says more and counts as full. Else prove '..UptoSaid'. A law counts once. -/
mutual
def uptoBulk {H : Type} : DataW H → Nat
  | .lit (.string bytes) => bytes.length + 1
  | .lit _ => 1
  | .nil => 1
  | .ptr d => uptoBulk d + 1
  | .slice elems spare => uptoBulkAll elems + uptoBulkAll spare + 1
  | .agg parts => uptoBulkAll parts + 1
  | .iface _ d => uptoBulk d + 1
  | .map entries => uptoBulkEntries entries + 1
  | .held _ => 1
def uptoBulkAll {H : Type} : List (DataW H) → Nat
  | [] => 0
  | d :: r => uptoBulk d + uptoBulkAll r
def uptoBulkEntries {H : Type} : List (Lit × DataW H) → Nat
  | [] => 0
  | x :: r => uptoBulkEntry x + uptoBulkEntries r
def uptoBulkEntry {H : Type} : Lit × DataW H → Nat
  | (.string bytes, d) => bytes.length + uptoBulk d + 1
  | (_, d) => uptoBulk d + 1
 end
def uptoSmall : (H : Type) → List (DataW H) → Bool := fun _ ds => decide (uptoBulkAll ds ≤ 1048576)
def OpenSpec.upto (s : _root_.Go.ChangeSpec) : _root_.Go.OpenSpec := { _root_.Go.OpenSpec.ofChange s with cond := some uptoSmall }

/-- 'laws.FnExactValidValues', WHERE WHAT IT READS IS OF BULK AT MOST 1048576: true; the input reads as it did. -/
def fnExactValidValuesUptoRow : OpenClaim := { program := "ytkgjfockechniaa", sum := "6601151e39d2a0f5c98fa6fbb72186702d2138abf99d5125e64464ef0240525e", func := "loop.example/g01365/laws.FnExactValidValues", spec := "fnExactValidValues", apart := false, narrowed := true }
def FnExactValidValuesUptoSaid : Prop := fnExactValidValuesUptoRow.holds Try.pinned (OpenSpec.upto fnExactValidValuesSpec)

/-- 'laws.FnExactSameValues', WHERE WHAT IT READS IS OF BULK AT MOST 1048576: true; the input reads as it did. -/
def fnExactSameValuesUptoRow : OpenClaim := { program := "ytkgjfockechniaa", sum := "6601151e39d2a0f5c98fa6fbb72186702d2138abf99d5125e64464ef0240525e", func := "loop.example/g01365/laws.FnExactSameValues", spec := "fnExactSameValues", apart := false, narrowed := true }
def FnExactSameValuesUptoSaid : Prop := fnExactSameValuesUptoRow.holds Try.pinned (OpenSpec.upto fnExactSameValuesSpec)

/-- 'laws.FnExactOwnWorths', WHERE WHAT IT READS IS OF BULK AT MOST 1048576: true; the input reads as it did. -/
def fnExactOwnWorthsUptoRow : OpenClaim := { program := "ytkgjfockechniaa", sum := "6601151e39d2a0f5c98fa6fbb72186702d2138abf99d5125e64464ef0240525e", func := "loop.example/g01365/laws.FnExactOwnWorths", spec := "fnExactOwnWorths", unfollowed := true, recurses := true, apart := false, narrowed := true }
def FnExactOwnWorthsUptoSaid : Prop := fnExactOwnWorthsUptoRow.holds Try.pinned (OpenSpec.upto fnExactOwnWorthsSpec)

/-- 'laws.FnExactEnvyTable', WHERE WHAT IT READS IS OF BULK AT MOST 1048576: true; the input reads as it did. -/
def fnExactEnvyTableUptoRow : OpenClaim := { program := "ytkgjfockechniaa", sum := "6601151e39d2a0f5c98fa6fbb72186702d2138abf99d5125e64464ef0240525e", func := "loop.example/g01365/laws.FnExactEnvyTable", spec := "fnExactEnvyTable", unfollowed := true, recurses := true, apart := false, narrowed := true }
def FnExactEnvyTableUptoSaid : Prop := fnExactEnvyTableUptoRow.holds Try.pinned (OpenSpec.upto fnExactEnvyTableSpec)

/-- 'laws.FnExactIsEnvyFree', WHERE WHAT IT READS IS OF BULK AT MOST 1048576: true; the input reads as it did. -/
def fnExactIsEnvyFreeUptoRow : OpenClaim := { program := "ytkgjfockechniaa", sum := "6601151e39d2a0f5c98fa6fbb72186702d2138abf99d5125e64464ef0240525e", func := "loop.example/g01365/laws.FnExactIsEnvyFree", spec := "fnExactIsEnvyFree", unfollowed := true, recurses := true, apart := false, narrowed := true }
def FnExactIsEnvyFreeUptoSaid : Prop := fnExactIsEnvyFreeUptoRow.holds Try.pinned (OpenSpec.upto fnExactIsEnvyFreeSpec)

/-- 'laws.FnExactIsFreeUpToOne', WHERE WHAT IT READS IS OF BULK AT MOST 1048576: true; the input reads as it did. -/
def fnExactIsFreeUpToOneUptoRow : OpenClaim := { program := "ytkgjfockechniaa", sum := "6601151e39d2a0f5c98fa6fbb72186702d2138abf99d5125e64464ef0240525e", func := "loop.example/g01365/laws.FnExactIsFreeUpToOne", spec := "fnExactIsFreeUpToOne", unfollowed := true, recurses := true, apart := false, narrowed := true }
def FnExactIsFreeUpToOneUptoSaid : Prop := fnExactIsFreeUpToOneUptoRow.holds Try.pinned (OpenSpec.upto fnExactIsFreeUpToOneSpec)

/-- 'laws.FnExactIsEvenShare', WHERE WHAT IT READS IS OF BULK AT MOST 1048576: true; the input reads as it did. -/
def fnExactIsEvenShareUptoRow : OpenClaim := { program := "ytkgjfockechniaa", sum := "6601151e39d2a0f5c98fa6fbb72186702d2138abf99d5125e64464ef0240525e", func := "loop.example/g01365/laws.FnExactIsEvenShare", spec := "fnExactIsEvenShare", unfollowed := true, recurses := true, apart := false, narrowed := true }
def FnExactIsEvenShareUptoSaid : Prop := fnExactIsEvenShareUptoRow.holds Try.pinned (OpenSpec.upto fnExactIsEvenShareSpec)

/-- 'laws.FnExactTakeTurns', WHERE WHAT IT READS IS OF BULK AT MOST 1048576: true; the input reads as it did. -/
def fnExactTakeTurnsUptoRow : OpenClaim := { program := "ytkgjfockechniaa", sum := "6601151e39d2a0f5c98fa6fbb72186702d2138abf99d5125e64464ef0240525e", func := "loop.example/g01365/laws.FnExactTakeTurns", spec := "fnExactTakeTurns", unfollowed := true, recurses := true, apart := false, narrowed := true }
def FnExactTakeTurnsUptoSaid : Prop := fnExactTakeTurnsUptoRow.holds Try.pinned (OpenSpec.upto fnExactTakeTurnsSpec)

/-- 'laws.FnExactEnvyRounds', WHERE WHAT IT READS IS OF BULK AT MOST 1048576: true; the input reads as it did. -/
def fnExactEnvyRoundsUptoRow : OpenClaim := { program := "ytkgjfockechniaa", sum := "6601151e39d2a0f5c98fa6fbb72186702d2138abf99d5125e64464ef0240525e", func := "loop.example/g01365/laws.FnExactEnvyRounds", spec := "fnExactEnvyRounds", unfollowed := true, recurses := true, apart := false, narrowed := true }
def FnExactEnvyRoundsUptoSaid : Prop := fnExactEnvyRoundsUptoRow.holds Try.pinned (OpenSpec.upto fnExactEnvyRoundsSpec)

/-- 'laws.FnExactMostWorth', WHERE WHAT IT READS IS OF BULK AT MOST 1048576: true; the input reads as it did. -/
def fnExactMostWorthUptoRow : OpenClaim := { program := "ytkgjfockechniaa", sum := "6601151e39d2a0f5c98fa6fbb72186702d2138abf99d5125e64464ef0240525e", func := "loop.example/g01365/laws.FnExactMostWorth", spec := "fnExactMostWorth", unfollowed := true, recurses := true, apart := false, narrowed := true }
def FnExactMostWorthUptoSaid : Prop := fnExactMostWorthUptoRow.holds Try.pinned (OpenSpec.upto fnExactMostWorthSpec)

/-- 'laws.FnExactMostLeast', WHERE WHAT IT READS IS OF BULK AT MOST 1048576: true; the input reads as it did. -/
def fnExactMostLeastUptoRow : OpenClaim := { program := "ytkgjfockechniaa", sum := "6601151e39d2a0f5c98fa6fbb72186702d2138abf99d5125e64464ef0240525e", func := "loop.example/g01365/laws.FnExactMostLeast", spec := "fnExactMostLeast", unfollowed := true, recurses := true, apart := false, narrowed := true }
def FnExactMostLeastUptoSaid : Prop := fnExactMostLeastUptoRow.holds Try.pinned (OpenSpec.upto fnExactMostLeastSpec)

/-- 'laws.FnExactMostProduct', WHERE WHAT IT READS IS OF BULK AT MOST 1048576: true; the input reads as it did. -/
def fnExactMostProductUptoRow : OpenClaim := { program := "ytkgjfockechniaa", sum := "6601151e39d2a0f5c98fa6fbb72186702d2138abf99d5125e64464ef0240525e", func := "loop.example/g01365/laws.FnExactMostProduct", spec := "fnExactMostProduct", unfollowed := true, recurses := true, apart := false, narrowed := true }
def FnExactMostProductUptoSaid : Prop := fnExactMostProductUptoRow.holds Try.pinned (OpenSpec.upto fnExactMostProductSpec)

/-- 'laws.FnExactLeastPart', WHERE WHAT IT READS IS OF BULK AT MOST 1048576: true; the input reads as it did. -/
def fnExactLeastPartUptoRow : OpenClaim := { program := "ytkgjfockechniaa", sum := "6601151e39d2a0f5c98fa6fbb72186702d2138abf99d5125e64464ef0240525e", func := "loop.example/g01365/laws.FnExactLeastPart", spec := "fnExactLeastPart", unfollowed := true, recurses := true, apart := false, narrowed := true }
def FnExactLeastPartUptoSaid : Prop := fnExactLeastPartUptoRow.holds Try.pinned (OpenSpec.upto fnExactLeastPartSpec)

/-- 'laws.FnExactSplitOne', WHERE WHAT IT READS IS OF BULK AT MOST 1048576: true; the input reads as it did. -/
def fnExactSplitOneUptoRow : OpenClaim := { program := "ytkgjfockechniaa", sum := "6601151e39d2a0f5c98fa6fbb72186702d2138abf99d5125e64464ef0240525e", func := "loop.example/g01365/laws.FnExactSplitOne", spec := "fnExactSplitOne", unfollowed := true, recurses := true, apart := false, narrowed := true }
def FnExactSplitOneUptoSaid : Prop := fnExactSplitOneUptoRow.holds Try.pinned (OpenSpec.upto fnExactSplitOneSpec)

/-- 'laws.FnExactRentOf', WHERE WHAT IT READS IS OF BULK AT MOST 1048576: true; the input reads as it did. -/
def fnExactRentOfUptoRow : OpenClaim := { program := "ytkgjfockechniaa", sum := "6601151e39d2a0f5c98fa6fbb72186702d2138abf99d5125e64464ef0240525e", func := "loop.example/g01365/laws.FnExactRentOf", spec := "fnExactRentOf", unfollowed := true, recurses := true, apart := false, narrowed := true }
def FnExactRentOfUptoSaid : Prop := fnExactRentOfUptoRow.holds Try.pinned (OpenSpec.upto fnExactRentOfSpec)

/-- 'laws.FnExactIsRentFair', WHERE WHAT IT READS IS OF BULK AT MOST 1048576: true; the input reads as it did. -/
def fnExactIsRentFairUptoRow : OpenClaim := { program := "ytkgjfockechniaa", sum := "6601151e39d2a0f5c98fa6fbb72186702d2138abf99d5125e64464ef0240525e", func := "loop.example/g01365/laws.FnExactIsRentFair", spec := "fnExactIsRentFair", unfollowed := true, recurses := true, apart := false, narrowed := true }
def FnExactIsRentFairUptoSaid : Prop := fnExactIsRentFairUptoRow.holds Try.pinned (OpenSpec.upto fnExactIsRentFairSpec)

end Rows
end Go.Proofs.Ytkgjfockechniaa
