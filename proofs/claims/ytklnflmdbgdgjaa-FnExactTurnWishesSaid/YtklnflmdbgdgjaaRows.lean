/-
  No cell of these rows narrows 'for every input' (looked for: loops, veiled, ifaces, maps, wideKeys, modest, calm, conditions, laid).
  DERIVED. THE GIVEN ROWS OF THIS SEAT. 4 by the template 'for every input the law returns true; each argument reads behind the call as it read before'; 0 by the template 'total and deterministic' (their statements: YtklnflmdbgdgjaaTotals.lean).
  GIVEN WITH THE SEED: the statements are not yours to turn. If you find one false, say at which input.
  Laid BY PROGRAM, IN A SANDBOX (cutbox-rows.mjs): the forced cells as the released guide's own fill.sh prints them over the translation f74e885764743e1a… (all of the seat's roots in one cut). By AI agents, Wed Nov 11 2026. No macro, syntax, notation, axiom, sorry.
-/
import Derived.Test.YtklnflmdbgdgjaaChecked
import GoSem.Claim
import GoSem.ClaimJoined
import GoSem.ClaimMapViews
import Derived.JoinedTies
import Derived.KernelRfl
namespace Go.Proofs.Ytklnflmdbgdgjaa
/- THE CELL 'sum', in the pinned program and in every row, IS THE sha256 OF THE DUMP (.gsa) THAT YtklnflmdbgdgjaaProg.lean LOADS. Nothing in Lean hashes anything: it is a label: what it is worth is what the hold of that sum in a sandbox is worth. -/
noncomputable def Try.pinned : Pinned := { name := "ytklnflmdbgdgjaa", sum := "f74e885764743e1a9ef5f592732d80dcee28d09a059d495e304e7792561f815f", checked := Try.checked }
namespace Rows
def none {H : Type} : Left H := { results := [], args := [] }

/-- 'laws.FnExactValidWishes': WHATEVER THE INPUT: true; the input reads as it did. -/
def fnExactValidWishesSpec : ChangeSpec := { name := "fnExactValidWishes", fn := fun _ => fun
  | [d] => { results := [.lit (.bool true)], args := [d] }
  | _ => none }
def fnExactValidWishesRow : OpenClaim := { program := "ytklnflmdbgdgjaa", sum := "f74e885764743e1a9ef5f592732d80dcee28d09a059d495e304e7792561f815f", func := "loop.example/g01365/laws.FnExactValidWishes", spec := "fnExactValidWishes", unfollowed := true, recurses := true, apart := false }
def FnExactValidWishesSaid : Prop := fnExactValidWishesRow.holds Try.pinned (OpenSpec.ofChange fnExactValidWishesSpec)

/-- ITS FALSE NEIGHBOUR: 'it returns false'. Refute it at one input. -/
def fnExactValidWishesWrong : ChangeSpec := { name := "fnExactValidWishes", fn := fun _ => fun
  | [d] => { results := [.lit (.bool false)], args := [d] }
  | _ => none }
def FnExactValidWishesWrongFalsely : Prop := fnExactValidWishesRow.holds Try.pinned (OpenSpec.ofChange fnExactValidWishesWrong)

/-- 'laws.FnExactSameWishes': WHATEVER THE INPUT: true; the input reads as it did. -/
def fnExactSameWishesSpec : ChangeSpec := { name := "fnExactSameWishes", fn := fun _ => fun
  | [d1, d2] => { results := [.lit (.bool true)], args := [d1, d2] }
  | _ => none }
def fnExactSameWishesRow : OpenClaim := { program := "ytklnflmdbgdgjaa", sum := "f74e885764743e1a9ef5f592732d80dcee28d09a059d495e304e7792561f815f", func := "loop.example/g01365/laws.FnExactSameWishes", spec := "fnExactSameWishes", unfollowed := true, recurses := true, apart := false }
def FnExactSameWishesSaid : Prop := fnExactSameWishesRow.holds Try.pinned (OpenSpec.ofChange fnExactSameWishesSpec)

/-- ITS FALSE NEIGHBOUR: 'it returns false'. Refute it at one input. -/
def fnExactSameWishesWrong : ChangeSpec := { name := "fnExactSameWishes", fn := fun _ => fun
  | [d1, d2] => { results := [.lit (.bool false)], args := [d1, d2] }
  | _ => none }
def FnExactSameWishesWrongFalsely : Prop := fnExactSameWishesRow.holds Try.pinned (OpenSpec.ofChange fnExactSameWishesWrong)

/-- 'laws.FnExactTurnWishes': WHATEVER THE INPUT: true; the input reads as it did. -/
def fnExactTurnWishesSpec : ChangeSpec := { name := "fnExactTurnWishes", fn := fun _ => fun
  | [d] => { results := [.lit (.bool true)], args := [d] }
  | _ => none }
def fnExactTurnWishesRow : OpenClaim := { program := "ytklnflmdbgdgjaa", sum := "f74e885764743e1a9ef5f592732d80dcee28d09a059d495e304e7792561f815f", func := "loop.example/g01365/laws.FnExactTurnWishes", spec := "fnExactTurnWishes", unfollowed := true, recurses := true, apart := false }
def FnExactTurnWishesSaid : Prop := fnExactTurnWishesRow.holds Try.pinned (OpenSpec.ofChange fnExactTurnWishesSpec)

/-- ITS FALSE NEIGHBOUR: 'it returns false'. Refute it at one input. -/
def fnExactTurnWishesWrong : ChangeSpec := { name := "fnExactTurnWishes", fn := fun _ => fun
  | [d] => { results := [.lit (.bool false)], args := [d] }
  | _ => none }
def FnExactTurnWishesWrongFalsely : Prop := fnExactTurnWishesRow.holds Try.pinned (OpenSpec.ofChange fnExactTurnWishesWrong)

/-- 'laws.FnExactIsMatch': WHATEVER THE INPUT: true; the input reads as it did. -/
def fnExactIsMatchSpec : ChangeSpec := { name := "fnExactIsMatch", fn := fun _ => fun
  | [d1, d2] => { results := [.lit (.bool true)], args := [d1, d2] }
  | _ => none }
def fnExactIsMatchRow : OpenClaim := { program := "ytklnflmdbgdgjaa", sum := "f74e885764743e1a9ef5f592732d80dcee28d09a059d495e304e7792561f815f", func := "loop.example/g01365/laws.FnExactIsMatch", spec := "fnExactIsMatch", unfollowed := true, recurses := true, apart := false }
def FnExactIsMatchSaid : Prop := fnExactIsMatchRow.holds Try.pinned (OpenSpec.ofChange fnExactIsMatchSpec)

/-- ITS FALSE NEIGHBOUR: 'it returns false'. Refute it at one input. -/
def fnExactIsMatchWrong : ChangeSpec := { name := "fnExactIsMatch", fn := fun _ => fun
  | [d1, d2] => { results := [.lit (.bool false)], args := [d1, d2] }
  | _ => none }
def FnExactIsMatchWrongFalsely : Prop := fnExactIsMatchRow.holds Try.pinned (OpenSpec.ofChange fnExactIsMatchWrong)

/- THE SECOND FORM. 'bulk': how many values and letters a reading holds, each counted each time it is reached (what is shared counts as often as it is met; a slice's spare places count too). A statement '..UptoSaid' is the law's where the arguments, and the package variables that the reading takes, are together of bulk at most 1048576: NARROWER than '..Said'. Prove '..Said' where nothing that the law and all that it calls make is longer than what came in: it says more and counts as full. Else prove '..UptoSaid'. A law counts once. -/
mutual
def uptoBulk {H : Type} : DataW H → Nat
  | .lit (.string bytes) => bytes.length + 1
  | .lit _ => 1
  | .nil => 1
  | .ptr d => uptoBulk d + 1
  | .slice elems spare => uptoBulkAll elems + uptoBulkAll spare + 1
  | .agg parts => uptoBulkAll parts + 1
  | .iface _ d => uptoBulk d + 1
  | .map entries => uptoBulkEntries entries + 1
  | .held _ => 1
def uptoBulkAll {H : Type} : List (DataW H) → Nat
  | [] => 0
  | d :: r => uptoBulk d + uptoBulkAll r
def uptoBulkEntries {H : Type} : List (Lit × DataW H) → Nat
  | [] => 0
  | x :: r => uptoBulkEntry x + uptoBulkEntries r
def uptoBulkEntry {H : Type} : Lit × DataW H → Nat
  | (.string bytes, d) => bytes.length + uptoBulk d + 1
  | (_, d) => uptoBulk d + 1
 end
def uptoSmall : (H : Type) → List (DataW H) → Bool := fun _ ds => decide (uptoBulkAll ds ≤ 1048576)
def OpenSpec.upto (s : _root_.Go.ChangeSpec) : _root_.Go.OpenSpec := { _root_.Go.OpenSpec.ofChange s with cond := some uptoSmall }

/-- 'laws.FnExactValidWishes', WHERE WHAT IT READS IS OF BULK AT MOST 1048576: true; the input reads as it did. -/
def fnExactValidWishesUptoRow : OpenClaim := { program := "ytklnflmdbgdgjaa", sum := "f74e885764743e1a9ef5f592732d80dcee28d09a059d495e304e7792561f815f", func := "loop.example/g01365/laws.FnExactValidWishes", spec := "fnExactValidWishes", unfollowed := true, recurses := true, apart := false, narrowed := true }
def FnExactValidWishesUptoSaid : Prop := fnExactValidWishesUptoRow.holds Try.pinned (OpenSpec.upto fnExactValidWishesSpec)

/-- 'laws.FnExactSameWishes', WHERE WHAT IT READS IS OF BULK AT MOST 1048576: true; the input reads as it did. -/
def fnExactSameWishesUptoRow : OpenClaim := { program := "ytklnflmdbgdgjaa", sum := "f74e885764743e1a9ef5f592732d80dcee28d09a059d495e304e7792561f815f", func := "loop.example/g01365/laws.FnExactSameWishes", spec := "fnExactSameWishes", unfollowed := true, recurses := true, apart := false, narrowed := true }
def FnExactSameWishesUptoSaid : Prop := fnExactSameWishesUptoRow.holds Try.pinned (OpenSpec.upto fnExactSameWishesSpec)

/-- 'laws.FnExactTurnWishes', WHERE WHAT IT READS IS OF BULK AT MOST 1048576: true; the input reads as it did. -/
def fnExactTurnWishesUptoRow : OpenClaim := { program := "ytklnflmdbgdgjaa", sum := "f74e885764743e1a9ef5f592732d80dcee28d09a059d495e304e7792561f815f", func := "loop.example/g01365/laws.FnExactTurnWishes", spec := "fnExactTurnWishes", unfollowed := true, recurses := true, apart := false, narrowed := true }
def FnExactTurnWishesUptoSaid : Prop := fnExactTurnWishesUptoRow.holds Try.pinned (OpenSpec.upto fnExactTurnWishesSpec)

/-- 'laws.FnExactIsMatch', WHERE WHAT IT READS IS OF BULK AT MOST 1048576: true; the input reads as it did. -/
def fnExactIsMatchUptoRow : OpenClaim := { program := "ytklnflmdbgdgjaa", sum := "f74e885764743e1a9ef5f592732d80dcee28d09a059d495e304e7792561f815f", func := "loop.example/g01365/laws.FnExactIsMatch", spec := "fnExactIsMatch", unfollowed := true, recurses := true, apart := false, narrowed := true }
def FnExactIsMatchUptoSaid : Prop := fnExactIsMatchUptoRow.holds Try.pinned (OpenSpec.upto fnExactIsMatchSpec)

end Rows
end Go.Proofs.Ytklnflmdbgdgjaa
