/-
  No cell of these rows narrows 'for every input' (looked for: loops, veiled, ifaces, maps, wideKeys, modest, calm, conditions, laid).
  DERIVED. THE GIVEN ROWS OF THIS SEAT. 19 by the template 'for every input the law returns true; each argument reads behind the call as it read before'; 0 by the template 'total and deterministic' (their statements: YtnmehenkbinfmaaTotals.lean).
  GIVEN WITH THE SEED: the statements are not yours to turn. If you find one false, say at which input.
  Laid BY PROGRAM, IN A SANDBOX (cutbox-rows.mjs): the forced cells as the released guide's own fill.sh prints them over the translation 8fbd537f16d469ac… (all of the seat's roots in one cut). By AI agents, Wed Nov 11 2026. No macro, syntax, notation, axiom, sorry.
-/
import Derived.Test.YtnmehenkbinfmaaChecked
import GoSem.Claim
import GoSem.ClaimJoined
import GoSem.ClaimMapViews
import Derived.JoinedTies
import Derived.KernelRfl
namespace Go.Proofs.Ytnmehenkbinfmaa
/- THE CELL 'sum', in the pinned program and in every row, IS THE sha256 OF THE DUMP (.gsa) THAT YtnmehenkbinfmaaProg.lean LOADS. Nothing in Lean hashes anything: it is a label: what it is worth is what the hold of that sum in a sandbox is worth. -/
noncomputable def Try.pinned : Pinned := { name := "ytnmehenkbinfmaa", sum := "8fbd537f16d469ac95e686a134cc6ea2fad4bd29dadd67b835802ff05e1bee46", checked := Try.checked }
namespace Rows
def none {H : Type} : Left H := { results := [], args := [] }

/-- 'laws.FnExactValidGame': WHATEVER THE INPUT: true; the input reads as it did. -/
def fnExactValidGameSpec : ChangeSpec := { name := "fnExactValidGame", fn := fun _ => fun
  | [d] => { results := [.lit (.bool true)], args := [d] }
  | _ => none }
def fnExactValidGameRow : OpenClaim := { program := "ytnmehenkbinfmaa", sum := "8fbd537f16d469ac95e686a134cc6ea2fad4bd29dadd67b835802ff05e1bee46", func := "loop.example/g01365/laws.FnExactValidGame", spec := "fnExactValidGame", apart := false }
def FnExactValidGameSaid : Prop := fnExactValidGameRow.holds Try.pinned (OpenSpec.ofChange fnExactValidGameSpec)

/-- ITS FALSE NEIGHBOUR: 'it returns false'. Refute it at one input. -/
def fnExactValidGameWrong : ChangeSpec := { name := "fnExactValidGame", fn := fun _ => fun
  | [d] => { results := [.lit (.bool false)], args := [d] }
  | _ => none }
def FnExactValidGameWrongFalsely : Prop := fnExactValidGameRow.holds Try.pinned (OpenSpec.ofChange fnExactValidGameWrong)

/-- 'laws.FnExactSameGame': WHATEVER THE INPUT: true; the input reads as it did. -/
def fnExactSameGameSpec : ChangeSpec := { name := "fnExactSameGame", fn := fun _ => fun
  | [d1, d2] => { results := [.lit (.bool true)], args := [d1, d2] }
  | _ => none }
def fnExactSameGameRow : OpenClaim := { program := "ytnmehenkbinfmaa", sum := "8fbd537f16d469ac95e686a134cc6ea2fad4bd29dadd67b835802ff05e1bee46", func := "loop.example/g01365/laws.FnExactSameGame", spec := "fnExactSameGame", apart := false }
def FnExactSameGameSaid : Prop := fnExactSameGameRow.holds Try.pinned (OpenSpec.ofChange fnExactSameGameSpec)

/-- ITS FALSE NEIGHBOUR: 'it returns false'. Refute it at one input. -/
def fnExactSameGameWrong : ChangeSpec := { name := "fnExactSameGame", fn := fun _ => fun
  | [d1, d2] => { results := [.lit (.bool false)], args := [d1, d2] }
  | _ => none }
def FnExactSameGameWrongFalsely : Prop := fnExactSameGameRow.holds Try.pinned (OpenSpec.ofChange fnExactSameGameWrong)

/-- 'laws.FnExactZeroSum': WHATEVER THE INPUT: true; the input reads as it did. -/
def fnExactZeroSumSpec : ChangeSpec := { name := "fnExactZeroSum", fn := fun _ => fun
  | [d1, d2, d3] => { results := [.lit (.bool true)], args := [d1, d2, d3] }
  | _ => none }
def fnExactZeroSumRow : OpenClaim := { program := "ytnmehenkbinfmaa", sum := "8fbd537f16d469ac95e686a134cc6ea2fad4bd29dadd67b835802ff05e1bee46", func := "loop.example/g01365/laws.FnExactZeroSum", spec := "fnExactZeroSum", apart := false }
def FnExactZeroSumSaid : Prop := fnExactZeroSumRow.holds Try.pinned (OpenSpec.ofChange fnExactZeroSumSpec)

/-- ITS FALSE NEIGHBOUR: 'it returns false'. Refute it at one input. -/
def fnExactZeroSumWrong : ChangeSpec := { name := "fnExactZeroSum", fn := fun _ => fun
  | [d1, d2, d3] => { results := [.lit (.bool false)], args := [d1, d2, d3] }
  | _ => none }
def FnExactZeroSumWrongFalsely : Prop := fnExactZeroSumRow.holds Try.pinned (OpenSpec.ofChange fnExactZeroSumWrong)

/-- 'laws.FnExactTurnGame': WHATEVER THE INPUT: true; the input reads as it did. -/
def fnExactTurnGameSpec : ChangeSpec := { name := "fnExactTurnGame", fn := fun _ => fun
  | [d] => { results := [.lit (.bool true)], args := [d] }
  | _ => none }
def fnExactTurnGameRow : OpenClaim := { program := "ytnmehenkbinfmaa", sum := "8fbd537f16d469ac95e686a134cc6ea2fad4bd29dadd67b835802ff05e1bee46", func := "loop.example/g01365/laws.FnExactTurnGame", spec := "fnExactTurnGame", apart := false }
def FnExactTurnGameSaid : Prop := fnExactTurnGameRow.holds Try.pinned (OpenSpec.ofChange fnExactTurnGameSpec)

/-- ITS FALSE NEIGHBOUR: 'it returns false'. Refute it at one input. -/
def fnExactTurnGameWrong : ChangeSpec := { name := "fnExactTurnGame", fn := fun _ => fun
  | [d] => { results := [.lit (.bool false)], args := [d] }
  | _ => none }
def FnExactTurnGameWrongFalsely : Prop := fnExactTurnGameRow.holds Try.pinned (OpenSpec.ofChange fnExactTurnGameWrong)

/-- 'laws.FnExactLessRow': WHATEVER THE INPUT: true; the input reads as it did. -/
def fnExactLessRowSpec : ChangeSpec := { name := "fnExactLessRow", fn := fun _ => fun
  | [d1, d2] => { results := [.lit (.bool true)], args := [d1, d2] }
  | _ => none }
def fnExactLessRowRow : OpenClaim := { program := "ytnmehenkbinfmaa", sum := "8fbd537f16d469ac95e686a134cc6ea2fad4bd29dadd67b835802ff05e1bee46", func := "loop.example/g01365/laws.FnExactLessRow", spec := "fnExactLessRow", apart := false }
def FnExactLessRowSaid : Prop := fnExactLessRowRow.holds Try.pinned (OpenSpec.ofChange fnExactLessRowSpec)

/-- ITS FALSE NEIGHBOUR: 'it returns false'. Refute it at one input. -/
def fnExactLessRowWrong : ChangeSpec := { name := "fnExactLessRow", fn := fun _ => fun
  | [d1, d2] => { results := [.lit (.bool false)], args := [d1, d2] }
  | _ => none }
def FnExactLessRowWrongFalsely : Prop := fnExactLessRowRow.holds Try.pinned (OpenSpec.ofChange fnExactLessRowWrong)

/-- 'laws.FnExactLessColumn': WHATEVER THE INPUT: true; the input reads as it did. -/
def fnExactLessColumnSpec : ChangeSpec := { name := "fnExactLessColumn", fn := fun _ => fun
  | [d1, d2] => { results := [.lit (.bool true)], args := [d1, d2] }
  | _ => none }
def fnExactLessColumnRow : OpenClaim := { program := "ytnmehenkbinfmaa", sum := "8fbd537f16d469ac95e686a134cc6ea2fad4bd29dadd67b835802ff05e1bee46", func := "loop.example/g01365/laws.FnExactLessColumn", spec := "fnExactLessColumn", apart := false }
def FnExactLessColumnSaid : Prop := fnExactLessColumnRow.holds Try.pinned (OpenSpec.ofChange fnExactLessColumnSpec)

/-- ITS FALSE NEIGHBOUR: 'it returns false'. Refute it at one input. -/
def fnExactLessColumnWrong : ChangeSpec := { name := "fnExactLessColumn", fn := fun _ => fun
  | [d1, d2] => { results := [.lit (.bool false)], args := [d1, d2] }
  | _ => none }
def FnExactLessColumnWrongFalsely : Prop := fnExactLessColumnRow.holds Try.pinned (OpenSpec.ofChange fnExactLessColumnWrong)

/-- 'laws.FnExactWorseRows': WHATEVER THE INPUT: true; the input reads as it did. -/
def fnExactWorseRowsSpec : ChangeSpec := { name := "fnExactWorseRows", fn := fun _ => fun
  | [d] => { results := [.lit (.bool true)], args := [d] }
  | _ => none }
def fnExactWorseRowsRow : OpenClaim := { program := "ytnmehenkbinfmaa", sum := "8fbd537f16d469ac95e686a134cc6ea2fad4bd29dadd67b835802ff05e1bee46", func := "loop.example/g01365/laws.FnExactWorseRows", spec := "fnExactWorseRows", unfollowed := true, recurses := true, apart := false }
def FnExactWorseRowsSaid : Prop := fnExactWorseRowsRow.holds Try.pinned (OpenSpec.ofChange fnExactWorseRowsSpec)

/-- ITS FALSE NEIGHBOUR: 'it returns false'. Refute it at one input. -/
def fnExactWorseRowsWrong : ChangeSpec := { name := "fnExactWorseRows", fn := fun _ => fun
  | [d] => { results := [.lit (.bool false)], args := [d] }
  | _ => none }
def FnExactWorseRowsWrongFalsely : Prop := fnExactWorseRowsRow.holds Try.pinned (OpenSpec.ofChange fnExactWorseRowsWrong)

/-- 'laws.FnExactWorseColumns': WHATEVER THE INPUT: true; the input reads as it did. -/
def fnExactWorseColumnsSpec : ChangeSpec := { name := "fnExactWorseColumns", fn := fun _ => fun
  | [d] => { results := [.lit (.bool true)], args := [d] }
  | _ => none }
def fnExactWorseColumnsRow : OpenClaim := { program := "ytnmehenkbinfmaa", sum := "8fbd537f16d469ac95e686a134cc6ea2fad4bd29dadd67b835802ff05e1bee46", func := "loop.example/g01365/laws.FnExactWorseColumns", spec := "fnExactWorseColumns", unfollowed := true, recurses := true, apart := false }
def FnExactWorseColumnsSaid : Prop := fnExactWorseColumnsRow.holds Try.pinned (OpenSpec.ofChange fnExactWorseColumnsSpec)

/-- ITS FALSE NEIGHBOUR: 'it returns false'. Refute it at one input. -/
def fnExactWorseColumnsWrong : ChangeSpec := { name := "fnExactWorseColumns", fn := fun _ => fun
  | [d] => { results := [.lit (.bool false)], args := [d] }
  | _ => none }
def FnExactWorseColumnsWrongFalsely : Prop := fnExactWorseColumnsRow.holds Try.pinned (OpenSpec.ofChange fnExactWorseColumnsWrong)

/-- 'laws.FnExactSurvivorsOf': WHATEVER THE INPUT: true; the input reads as it did. -/
def fnExactSurvivorsOfSpec : ChangeSpec := { name := "fnExactSurvivorsOf", fn := fun _ => fun
  | [d] => { results := [.lit (.bool true)], args := [d] }
  | _ => none }
def fnExactSurvivorsOfRow : OpenClaim := { program := "ytnmehenkbinfmaa", sum := "8fbd537f16d469ac95e686a134cc6ea2fad4bd29dadd67b835802ff05e1bee46", func := "loop.example/g01365/laws.FnExactSurvivorsOf", spec := "fnExactSurvivorsOf", unfollowed := true, recurses := true, apart := false }
def FnExactSurvivorsOfSaid : Prop := fnExactSurvivorsOfRow.holds Try.pinned (OpenSpec.ofChange fnExactSurvivorsOfSpec)

/-- ITS FALSE NEIGHBOUR: 'it returns false'. Refute it at one input. -/
def fnExactSurvivorsOfWrong : ChangeSpec := { name := "fnExactSurvivorsOf", fn := fun _ => fun
  | [d] => { results := [.lit (.bool false)], args := [d] }
  | _ => none }
def FnExactSurvivorsOfWrongFalsely : Prop := fnExactSurvivorsOfRow.holds Try.pinned (OpenSpec.ofChange fnExactSurvivorsOfWrong)

/-- 'laws.FnExactBestRows': WHATEVER THE INPUT: true; the input reads as it did. -/
def fnExactBestRowsSpec : ChangeSpec := { name := "fnExactBestRows", fn := fun _ => fun
  | [d1, d2] => { results := [.lit (.bool true)], args := [d1, d2] }
  | _ => none }
def fnExactBestRowsRow : OpenClaim := { program := "ytnmehenkbinfmaa", sum := "8fbd537f16d469ac95e686a134cc6ea2fad4bd29dadd67b835802ff05e1bee46", func := "loop.example/g01365/laws.FnExactBestRows", spec := "fnExactBestRows", unfollowed := true, recurses := true, apart := false }
def FnExactBestRowsSaid : Prop := fnExactBestRowsRow.holds Try.pinned (OpenSpec.ofChange fnExactBestRowsSpec)

/-- ITS FALSE NEIGHBOUR: 'it returns false'. Refute it at one input. -/
def fnExactBestRowsWrong : ChangeSpec := { name := "fnExactBestRows", fn := fun _ => fun
  | [d1, d2] => { results := [.lit (.bool false)], args := [d1, d2] }
  | _ => none }
def FnExactBestRowsWrongFalsely : Prop := fnExactBestRowsRow.holds Try.pinned (OpenSpec.ofChange fnExactBestRowsWrong)

/-- 'laws.FnExactBestColumns': WHATEVER THE INPUT: true; the input reads as it did. -/
def fnExactBestColumnsSpec : ChangeSpec := { name := "fnExactBestColumns", fn := fun _ => fun
  | [d1, d2] => { results := [.lit (.bool true)], args := [d1, d2] }
  | _ => none }
def fnExactBestColumnsRow : OpenClaim := { program := "ytnmehenkbinfmaa", sum := "8fbd537f16d469ac95e686a134cc6ea2fad4bd29dadd67b835802ff05e1bee46", func := "loop.example/g01365/laws.FnExactBestColumns", spec := "fnExactBestColumns", unfollowed := true, recurses := true, apart := false }
def FnExactBestColumnsSaid : Prop := fnExactBestColumnsRow.holds Try.pinned (OpenSpec.ofChange fnExactBestColumnsSpec)

/-- ITS FALSE NEIGHBOUR: 'it returns false'. Refute it at one input. -/
def fnExactBestColumnsWrong : ChangeSpec := { name := "fnExactBestColumns", fn := fun _ => fun
  | [d1, d2] => { results := [.lit (.bool false)], args := [d1, d2] }
  | _ => none }
def FnExactBestColumnsWrongFalsely : Prop := fnExactBestColumnsRow.holds Try.pinned (OpenSpec.ofChange fnExactBestColumnsWrong)

/-- 'laws.FnExactPureEquilibria': WHATEVER THE INPUT: true; the input reads as it did. -/
def fnExactPureEquilibriaSpec : ChangeSpec := { name := "fnExactPureEquilibria", fn := fun _ => fun
  | [d] => { results := [.lit (.bool true)], args := [d] }
  | _ => none }
def fnExactPureEquilibriaRow : OpenClaim := { program := "ytnmehenkbinfmaa", sum := "8fbd537f16d469ac95e686a134cc6ea2fad4bd29dadd67b835802ff05e1bee46", func := "loop.example/g01365/laws.FnExactPureEquilibria", spec := "fnExactPureEquilibria", unfollowed := true, recurses := true, apart := false }
def FnExactPureEquilibriaSaid : Prop := fnExactPureEquilibriaRow.holds Try.pinned (OpenSpec.ofChange fnExactPureEquilibriaSpec)

/-- ITS FALSE NEIGHBOUR: 'it returns false'. Refute it at one input. -/
def fnExactPureEquilibriaWrong : ChangeSpec := { name := "fnExactPureEquilibria", fn := fun _ => fun
  | [d] => { results := [.lit (.bool false)], args := [d] }
  | _ => none }
def FnExactPureEquilibriaWrongFalsely : Prop := fnExactPureEquilibriaRow.holds Try.pinned (OpenSpec.ofChange fnExactPureEquilibriaWrong)

/-- 'laws.FnExactSafeRow': WHATEVER THE INPUT: true; the input reads as it did. -/
def fnExactSafeRowSpec : ChangeSpec := { name := "fnExactSafeRow", fn := fun _ => fun
  | [d] => { results := [.lit (.bool true)], args := [d] }
  | _ => none }
def fnExactSafeRowRow : OpenClaim := { program := "ytnmehenkbinfmaa", sum := "8fbd537f16d469ac95e686a134cc6ea2fad4bd29dadd67b835802ff05e1bee46", func := "loop.example/g01365/laws.FnExactSafeRow", spec := "fnExactSafeRow", unfollowed := true, recurses := true, apart := false }
def FnExactSafeRowSaid : Prop := fnExactSafeRowRow.holds Try.pinned (OpenSpec.ofChange fnExactSafeRowSpec)

/-- ITS FALSE NEIGHBOUR: 'it returns false'. Refute it at one input. -/
def fnExactSafeRowWrong : ChangeSpec := { name := "fnExactSafeRow", fn := fun _ => fun
  | [d] => { results := [.lit (.bool false)], args := [d] }
  | _ => none }
def FnExactSafeRowWrongFalsely : Prop := fnExactSafeRowRow.holds Try.pinned (OpenSpec.ofChange fnExactSafeRowWrong)

/-- 'laws.FnExactSafeColumn': WHATEVER THE INPUT: true; the input reads as it did. -/
def fnExactSafeColumnSpec : ChangeSpec := { name := "fnExactSafeColumn", fn := fun _ => fun
  | [d] => { results := [.lit (.bool true)], args := [d] }
  | _ => none }
def fnExactSafeColumnRow : OpenClaim := { program := "ytnmehenkbinfmaa", sum := "8fbd537f16d469ac95e686a134cc6ea2fad4bd29dadd67b835802ff05e1bee46", func := "loop.example/g01365/laws.FnExactSafeColumn", spec := "fnExactSafeColumn", unfollowed := true, recurses := true, apart := false }
def FnExactSafeColumnSaid : Prop := fnExactSafeColumnRow.holds Try.pinned (OpenSpec.ofChange fnExactSafeColumnSpec)

/-- ITS FALSE NEIGHBOUR: 'it returns false'. Refute it at one input. -/
def fnExactSafeColumnWrong : ChangeSpec := { name := "fnExactSafeColumn", fn := fun _ => fun
  | [d] => { results := [.lit (.bool false)], args := [d] }
  | _ => none }
def FnExactSafeColumnWrongFalsely : Prop := fnExactSafeColumnRow.holds Try.pinned (OpenSpec.ofChange fnExactSafeColumnWrong)

/-- 'laws.FnExactTwoByTwo': WHATEVER THE INPUT: true; the input reads as it did. -/
def fnExactTwoByTwoSpec : ChangeSpec := { name := "fnExactTwoByTwo", fn := fun _ => fun
  | [d] => { results := [.lit (.bool true)], args := [d] }
  | _ => none }
def fnExactTwoByTwoRow : OpenClaim := { program := "ytnmehenkbinfmaa", sum := "8fbd537f16d469ac95e686a134cc6ea2fad4bd29dadd67b835802ff05e1bee46", func := "loop.example/g01365/laws.FnExactTwoByTwo", spec := "fnExactTwoByTwo", unfollowed := true, recurses := true, apart := false }
def FnExactTwoByTwoSaid : Prop := fnExactTwoByTwoRow.holds Try.pinned (OpenSpec.ofChange fnExactTwoByTwoSpec)

/-- ITS FALSE NEIGHBOUR: 'it returns false'. Refute it at one input. -/
def fnExactTwoByTwoWrong : ChangeSpec := { name := "fnExactTwoByTwo", fn := fun _ => fun
  | [d] => { results := [.lit (.bool false)], args := [d] }
  | _ => none }
def FnExactTwoByTwoWrongFalsely : Prop := fnExactTwoByTwoRow.holds Try.pinned (OpenSpec.ofChange fnExactTwoByTwoWrong)

/-- 'laws.FnExactTwoRowValue': WHATEVER THE INPUT: true; the input reads as it did. -/
def fnExactTwoRowValueSpec : ChangeSpec := { name := "fnExactTwoRowValue", fn := fun _ => fun
  | [d] => { results := [.lit (.bool true)], args := [d] }
  | _ => none }
def fnExactTwoRowValueRow : OpenClaim := { program := "ytnmehenkbinfmaa", sum := "8fbd537f16d469ac95e686a134cc6ea2fad4bd29dadd67b835802ff05e1bee46", func := "loop.example/g01365/laws.FnExactTwoRowValue", spec := "fnExactTwoRowValue", unfollowed := true, recurses := true, apart := false }
def FnExactTwoRowValueSaid : Prop := fnExactTwoRowValueRow.holds Try.pinned (OpenSpec.ofChange fnExactTwoRowValueSpec)

/-- ITS FALSE NEIGHBOUR: 'it returns false'. Refute it at one input. -/
def fnExactTwoRowValueWrong : ChangeSpec := { name := "fnExactTwoRowValue", fn := fun _ => fun
  | [d] => { results := [.lit (.bool false)], args := [d] }
  | _ => none }
def FnExactTwoRowValueWrongFalsely : Prop := fnExactTwoRowValueRow.holds Try.pinned (OpenSpec.ofChange fnExactTwoRowValueWrong)

/-- 'laws.FnExactPotentialOf': WHATEVER THE INPUT: true; the input reads as it did. -/
def fnExactPotentialOfSpec : ChangeSpec := { name := "fnExactPotentialOf", fn := fun _ => fun
  | [d] => { results := [.lit (.bool true)], args := [d] }
  | _ => none }
def fnExactPotentialOfRow : OpenClaim := { program := "ytnmehenkbinfmaa", sum := "8fbd537f16d469ac95e686a134cc6ea2fad4bd29dadd67b835802ff05e1bee46", func := "loop.example/g01365/laws.FnExactPotentialOf", spec := "fnExactPotentialOf", apart := false }
def FnExactPotentialOfSaid : Prop := fnExactPotentialOfRow.holds Try.pinned (OpenSpec.ofChange fnExactPotentialOfSpec)

/-- ITS FALSE NEIGHBOUR: 'it returns false'. Refute it at one input. -/
def fnExactPotentialOfWrong : ChangeSpec := { name := "fnExactPotentialOf", fn := fun _ => fun
  | [d] => { results := [.lit (.bool false)], args := [d] }
  | _ => none }
def FnExactPotentialOfWrongFalsely : Prop := fnExactPotentialOfRow.holds Try.pinned (OpenSpec.ofChange fnExactPotentialOfWrong)

/-- 'laws.FnExactBetterSteps': WHATEVER THE INPUT: true; the input reads as it did. -/
def fnExactBetterStepsSpec : ChangeSpec := { name := "fnExactBetterSteps", fn := fun _ => fun
  | [d1, d2, d3] => { results := [.lit (.bool true)], args := [d1, d2, d3] }
  | _ => none }
def fnExactBetterStepsRow : OpenClaim := { program := "ytnmehenkbinfmaa", sum := "8fbd537f16d469ac95e686a134cc6ea2fad4bd29dadd67b835802ff05e1bee46", func := "loop.example/g01365/laws.FnExactBetterSteps", spec := "fnExactBetterSteps", unfollowed := true, recurses := true, apart := false }
def FnExactBetterStepsSaid : Prop := fnExactBetterStepsRow.holds Try.pinned (OpenSpec.ofChange fnExactBetterStepsSpec)

/-- ITS FALSE NEIGHBOUR: 'it returns false'. Refute it at one input. -/
def fnExactBetterStepsWrong : ChangeSpec := { name := "fnExactBetterSteps", fn := fun _ => fun
  | [d1, d2, d3] => { results := [.lit (.bool false)], args := [d1, d2, d3] }
  | _ => none }
def FnExactBetterStepsWrongFalsely : Prop := fnExactBetterStepsRow.holds Try.pinned (OpenSpec.ofChange fnExactBetterStepsWrong)

/-- 'laws.FnExactParetoCells': WHATEVER THE INPUT: true; the input reads as it did. -/
def fnExactParetoCellsSpec : ChangeSpec := { name := "fnExactParetoCells", fn := fun _ => fun
  | [d] => { results := [.lit (.bool true)], args := [d] }
  | _ => none }
def fnExactParetoCellsRow : OpenClaim := { program := "ytnmehenkbinfmaa", sum := "8fbd537f16d469ac95e686a134cc6ea2fad4bd29dadd67b835802ff05e1bee46", func := "loop.example/g01365/laws.FnExactParetoCells", spec := "fnExactParetoCells", apart := false }
def FnExactParetoCellsSaid : Prop := fnExactParetoCellsRow.holds Try.pinned (OpenSpec.ofChange fnExactParetoCellsSpec)

/-- ITS FALSE NEIGHBOUR: 'it returns false'. Refute it at one input. -/
def fnExactParetoCellsWrong : ChangeSpec := { name := "fnExactParetoCells", fn := fun _ => fun
  | [d] => { results := [.lit (.bool false)], args := [d] }
  | _ => none }
def FnExactParetoCellsWrongFalsely : Prop := fnExactParetoCellsRow.holds Try.pinned (OpenSpec.ofChange fnExactParetoCellsWrong)

/- THE SECOND FORM. 'bulk': how many values and letters a reading holds, each counted each time it is reached (what is shared counts as often as it is met; a slice's spare places count too). A statement '..UptoSaid' is the law's where the arguments, and the package variables that the reading takes, are together of bulk at most 1048576: NARROWER than '..Said'. Prove '..Said' where nothing that the law and all that it calls make is longer than what came in: it says more and counts as full. Else prove '..UptoSaid'. A law counts once. -/
mutual
def uptoBulk {H : Type} : DataW H → Nat
  | .lit (.string bytes) => bytes.length + 1
  | .lit _ => 1
  | .nil => 1
  | .ptr d => uptoBulk d + 1
  | .slice elems spare => uptoBulkAll elems + uptoBulkAll spare + 1
  | .agg parts => uptoBulkAll parts + 1
  | .iface _ d => uptoBulk d + 1
  | .map entries => uptoBulkEntries entries + 1
  | .held _ => 1
def uptoBulkAll {H : Type} : List (DataW H) → Nat
  | [] => 0
  | d :: r => uptoBulk d + uptoBulkAll r
def uptoBulkEntries {H : Type} : List (Lit × DataW H) → Nat
  | [] => 0
  | x :: r => uptoBulkEntry x + uptoBulkEntries r
def uptoBulkEntry {H : Type} : Lit × DataW H → Nat
  | (.string bytes, d) => bytes.length + uptoBulk d + 1
  | (_, d) => uptoBulk d + 1
 end
def uptoSmall : (H : Type) → List (DataW H) → Bool := fun _ ds => decide (uptoBulkAll ds ≤ 1048576)
def OpenSpec.upto (s : _root_.Go.ChangeSpec) : _root_.Go.OpenSpec := { _root_.Go.OpenSpec.ofChange s with cond := some uptoSmall }

/-- 'laws.FnExactValidGame', WHERE WHAT IT READS IS OF BULK AT MOST 1048576: true; the input reads as it did. -/
def fnExactValidGameUptoRow : OpenClaim := { program := "ytnmehenkbinfmaa", sum := "8fbd537f16d469ac95e686a134cc6ea2fad4bd29dadd67b835802ff05e1bee46", func := "loop.example/g01365/laws.FnExactValidGame", spec := "fnExactValidGame", apart := false, narrowed := true }
def FnExactValidGameUptoSaid : Prop := fnExactValidGameUptoRow.holds Try.pinned (OpenSpec.upto fnExactValidGameSpec)

/-- 'laws.FnExactSameGame', WHERE WHAT IT READS IS OF BULK AT MOST 1048576: true; the input reads as it did. -/
def fnExactSameGameUptoRow : OpenClaim := { program := "ytnmehenkbinfmaa", sum := "8fbd537f16d469ac95e686a134cc6ea2fad4bd29dadd67b835802ff05e1bee46", func := "loop.example/g01365/laws.FnExactSameGame", spec := "fnExactSameGame", apart := false, narrowed := true }
def FnExactSameGameUptoSaid : Prop := fnExactSameGameUptoRow.holds Try.pinned (OpenSpec.upto fnExactSameGameSpec)

/-- 'laws.FnExactZeroSum', WHERE WHAT IT READS IS OF BULK AT MOST 1048576: true; the input reads as it did. -/
def fnExactZeroSumUptoRow : OpenClaim := { program := "ytnmehenkbinfmaa", sum := "8fbd537f16d469ac95e686a134cc6ea2fad4bd29dadd67b835802ff05e1bee46", func := "loop.example/g01365/laws.FnExactZeroSum", spec := "fnExactZeroSum", apart := false, narrowed := true }
def FnExactZeroSumUptoSaid : Prop := fnExactZeroSumUptoRow.holds Try.pinned (OpenSpec.upto fnExactZeroSumSpec)

/-- 'laws.FnExactTurnGame', WHERE WHAT IT READS IS OF BULK AT MOST 1048576: true; the input reads as it did. -/
def fnExactTurnGameUptoRow : OpenClaim := { program := "ytnmehenkbinfmaa", sum := "8fbd537f16d469ac95e686a134cc6ea2fad4bd29dadd67b835802ff05e1bee46", func := "loop.example/g01365/laws.FnExactTurnGame", spec := "fnExactTurnGame", apart := false, narrowed := true }
def FnExactTurnGameUptoSaid : Prop := fnExactTurnGameUptoRow.holds Try.pinned (OpenSpec.upto fnExactTurnGameSpec)

/-- 'laws.FnExactLessRow', WHERE WHAT IT READS IS OF BULK AT MOST 1048576: true; the input reads as it did. -/
def fnExactLessRowUptoRow : OpenClaim := { program := "ytnmehenkbinfmaa", sum := "8fbd537f16d469ac95e686a134cc6ea2fad4bd29dadd67b835802ff05e1bee46", func := "loop.example/g01365/laws.FnExactLessRow", spec := "fnExactLessRow", apart := false, narrowed := true }
def FnExactLessRowUptoSaid : Prop := fnExactLessRowUptoRow.holds Try.pinned (OpenSpec.upto fnExactLessRowSpec)

/-- 'laws.FnExactLessColumn', WHERE WHAT IT READS IS OF BULK AT MOST 1048576: true; the input reads as it did. -/
def fnExactLessColumnUptoRow : OpenClaim := { program := "ytnmehenkbinfmaa", sum := "8fbd537f16d469ac95e686a134cc6ea2fad4bd29dadd67b835802ff05e1bee46", func := "loop.example/g01365/laws.FnExactLessColumn", spec := "fnExactLessColumn", apart := false, narrowed := true }
def FnExactLessColumnUptoSaid : Prop := fnExactLessColumnUptoRow.holds Try.pinned (OpenSpec.upto fnExactLessColumnSpec)

/-- 'laws.FnExactWorseRows', WHERE WHAT IT READS IS OF BULK AT MOST 1048576: true; the input reads as it did. -/
def fnExactWorseRowsUptoRow : OpenClaim := { program := "ytnmehenkbinfmaa", sum := "8fbd537f16d469ac95e686a134cc6ea2fad4bd29dadd67b835802ff05e1bee46", func := "loop.example/g01365/laws.FnExactWorseRows", spec := "fnExactWorseRows", unfollowed := true, recurses := true, apart := false, narrowed := true }
def FnExactWorseRowsUptoSaid : Prop := fnExactWorseRowsUptoRow.holds Try.pinned (OpenSpec.upto fnExactWorseRowsSpec)

/-- 'laws.FnExactWorseColumns', WHERE WHAT IT READS IS OF BULK AT MOST 1048576: true; the input reads as it did. -/
def fnExactWorseColumnsUptoRow : OpenClaim := { program := "ytnmehenkbinfmaa", sum := "8fbd537f16d469ac95e686a134cc6ea2fad4bd29dadd67b835802ff05e1bee46", func := "loop.example/g01365/laws.FnExactWorseColumns", spec := "fnExactWorseColumns", unfollowed := true, recurses := true, apart := false, narrowed := true }
def FnExactWorseColumnsUptoSaid : Prop := fnExactWorseColumnsUptoRow.holds Try.pinned (OpenSpec.upto fnExactWorseColumnsSpec)

/-- 'laws.FnExactSurvivorsOf', WHERE WHAT IT READS IS OF BULK AT MOST 1048576: true; the input reads as it did. -/
def fnExactSurvivorsOfUptoRow : OpenClaim := { program := "ytnmehenkbinfmaa", sum := "8fbd537f16d469ac95e686a134cc6ea2fad4bd29dadd67b835802ff05e1bee46", func := "loop.example/g01365/laws.FnExactSurvivorsOf", spec := "fnExactSurvivorsOf", unfollowed := true, recurses := true, apart := false, narrowed := true }
def FnExactSurvivorsOfUptoSaid : Prop := fnExactSurvivorsOfUptoRow.holds Try.pinned (OpenSpec.upto fnExactSurvivorsOfSpec)

/-- 'laws.FnExactBestRows', WHERE WHAT IT READS IS OF BULK AT MOST 1048576: true; the input reads as it did. -/
def fnExactBestRowsUptoRow : OpenClaim := { program := "ytnmehenkbinfmaa", sum := "8fbd537f16d469ac95e686a134cc6ea2fad4bd29dadd67b835802ff05e1bee46", func := "loop.example/g01365/laws.FnExactBestRows", spec := "fnExactBestRows", unfollowed := true, recurses := true, apart := false, narrowed := true }
def FnExactBestRowsUptoSaid : Prop := fnExactBestRowsUptoRow.holds Try.pinned (OpenSpec.upto fnExactBestRowsSpec)

/-- 'laws.FnExactBestColumns', WHERE WHAT IT READS IS OF BULK AT MOST 1048576: true; the input reads as it did. -/
def fnExactBestColumnsUptoRow : OpenClaim := { program := "ytnmehenkbinfmaa", sum := "8fbd537f16d469ac95e686a134cc6ea2fad4bd29dadd67b835802ff05e1bee46", func := "loop.example/g01365/laws.FnExactBestColumns", spec := "fnExactBestColumns", unfollowed := true, recurses := true, apart := false, narrowed := true }
def FnExactBestColumnsUptoSaid : Prop := fnExactBestColumnsUptoRow.holds Try.pinned (OpenSpec.upto fnExactBestColumnsSpec)

/-- 'laws.FnExactPureEquilibria', WHERE WHAT IT READS IS OF BULK AT MOST 1048576: true; the input reads as it did. -/
def fnExactPureEquilibriaUptoRow : OpenClaim := { program := "ytnmehenkbinfmaa", sum := "8fbd537f16d469ac95e686a134cc6ea2fad4bd29dadd67b835802ff05e1bee46", func := "loop.example/g01365/laws.FnExactPureEquilibria", spec := "fnExactPureEquilibria", unfollowed := true, recurses := true, apart := false, narrowed := true }
def FnExactPureEquilibriaUptoSaid : Prop := fnExactPureEquilibriaUptoRow.holds Try.pinned (OpenSpec.upto fnExactPureEquilibriaSpec)

/-- 'laws.FnExactSafeRow', WHERE WHAT IT READS IS OF BULK AT MOST 1048576: true; the input reads as it did. -/
def fnExactSafeRowUptoRow : OpenClaim := { program := "ytnmehenkbinfmaa", sum := "8fbd537f16d469ac95e686a134cc6ea2fad4bd29dadd67b835802ff05e1bee46", func := "loop.example/g01365/laws.FnExactSafeRow", spec := "fnExactSafeRow", unfollowed := true, recurses := true, apart := false, narrowed := true }
def FnExactSafeRowUptoSaid : Prop := fnExactSafeRowUptoRow.holds Try.pinned (OpenSpec.upto fnExactSafeRowSpec)

/-- 'laws.FnExactSafeColumn', WHERE WHAT IT READS IS OF BULK AT MOST 1048576: true; the input reads as it did. -/
def fnExactSafeColumnUptoRow : OpenClaim := { program := "ytnmehenkbinfmaa", sum := "8fbd537f16d469ac95e686a134cc6ea2fad4bd29dadd67b835802ff05e1bee46", func := "loop.example/g01365/laws.FnExactSafeColumn", spec := "fnExactSafeColumn", unfollowed := true, recurses := true, apart := false, narrowed := true }
def FnExactSafeColumnUptoSaid : Prop := fnExactSafeColumnUptoRow.holds Try.pinned (OpenSpec.upto fnExactSafeColumnSpec)

/-- 'laws.FnExactTwoByTwo', WHERE WHAT IT READS IS OF BULK AT MOST 1048576: true; the input reads as it did. -/
def fnExactTwoByTwoUptoRow : OpenClaim := { program := "ytnmehenkbinfmaa", sum := "8fbd537f16d469ac95e686a134cc6ea2fad4bd29dadd67b835802ff05e1bee46", func := "loop.example/g01365/laws.FnExactTwoByTwo", spec := "fnExactTwoByTwo", unfollowed := true, recurses := true, apart := false, narrowed := true }
def FnExactTwoByTwoUptoSaid : Prop := fnExactTwoByTwoUptoRow.holds Try.pinned (OpenSpec.upto fnExactTwoByTwoSpec)

/-- 'laws.FnExactTwoRowValue', WHERE WHAT IT READS IS OF BULK AT MOST 1048576: true; the input reads as it did. -/
def fnExactTwoRowValueUptoRow : OpenClaim := { program := "ytnmehenkbinfmaa", sum := "8fbd537f16d469ac95e686a134cc6ea2fad4bd29dadd67b835802ff05e1bee46", func := "loop.example/g01365/laws.FnExactTwoRowValue", spec := "fnExactTwoRowValue", unfollowed := true, recurses := true, apart := false, narrowed := true }
def FnExactTwoRowValueUptoSaid : Prop := fnExactTwoRowValueUptoRow.holds Try.pinned (OpenSpec.upto fnExactTwoRowValueSpec)

/-- 'laws.FnExactPotentialOf', WHERE WHAT IT READS IS OF BULK AT MOST 1048576: true; the input reads as it did. -/
def fnExactPotentialOfUptoRow : OpenClaim := { program := "ytnmehenkbinfmaa", sum := "8fbd537f16d469ac95e686a134cc6ea2fad4bd29dadd67b835802ff05e1bee46", func := "loop.example/g01365/laws.FnExactPotentialOf", spec := "fnExactPotentialOf", apart := false, narrowed := true }
def FnExactPotentialOfUptoSaid : Prop := fnExactPotentialOfUptoRow.holds Try.pinned (OpenSpec.upto fnExactPotentialOfSpec)

/-- 'laws.FnExactBetterSteps', WHERE WHAT IT READS IS OF BULK AT MOST 1048576: true; the input reads as it did. -/
def fnExactBetterStepsUptoRow : OpenClaim := { program := "ytnmehenkbinfmaa", sum := "8fbd537f16d469ac95e686a134cc6ea2fad4bd29dadd67b835802ff05e1bee46", func := "loop.example/g01365/laws.FnExactBetterSteps", spec := "fnExactBetterSteps", unfollowed := true, recurses := true, apart := false, narrowed := true }
def FnExactBetterStepsUptoSaid : Prop := fnExactBetterStepsUptoRow.holds Try.pinned (OpenSpec.upto fnExactBetterStepsSpec)

/-- 'laws.FnExactParetoCells', WHERE WHAT IT READS IS OF BULK AT MOST 1048576: true; the input reads as it did. -/
def fnExactParetoCellsUptoRow : OpenClaim := { program := "ytnmehenkbinfmaa", sum := "8fbd537f16d469ac95e686a134cc6ea2fad4bd29dadd67b835802ff05e1bee46", func := "loop.example/g01365/laws.FnExactParetoCells", spec := "fnExactParetoCells", apart := false, narrowed := true }
def FnExactParetoCellsUptoSaid : Prop := fnExactParetoCellsUptoRow.holds Try.pinned (OpenSpec.upto fnExactParetoCellsSpec)

end Rows
end Go.Proofs.Ytnmehenkbinfmaa
