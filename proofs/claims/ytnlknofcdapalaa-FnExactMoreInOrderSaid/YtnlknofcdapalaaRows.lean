/-
  No cell of these rows narrows 'for every input' (looked for: loops, veiled, ifaces, maps, wideKeys, modest, calm, conditions, laid).
  DERIVED. THE GIVEN ROWS OF THIS SEAT. 15 by the template 'for every input the law returns true; each argument reads behind the call as it read before'; 0 by the template 'total and deterministic' (their statements: YtnlknofcdapalaaTotals.lean).
  GIVEN WITH THE SEED: the statements are not yours to turn. If you find one false, say at which input.
  Laid BY PROGRAM, IN A SANDBOX (cutbox-rows.mjs): the forced cells as the released guide's own fill.sh prints them over the translation d4bd2cc5c97cc8d9… (all of the seat's roots in one cut). By AI agents, Wed Nov 11 2026. No macro, syntax, notation, axiom, sorry.
-/
import Derived.Test.YtnlknofcdapalaaChecked
import GoSem.Claim
import GoSem.ClaimJoined
import GoSem.ClaimMapViews
import Derived.JoinedTies
import Derived.KernelRfl
namespace Go.Proofs.Ytnlknofcdapalaa
/- THE CELL 'sum', in the pinned program and in every row, IS THE sha256 OF THE DUMP (.gsa) THAT YtnlknofcdapalaaProg.lean LOADS. Nothing in Lean hashes anything: it is a label: what it is worth is what the hold of that sum in a sandbox is worth. -/
noncomputable def Try.pinned : Pinned := { name := "ytnlknofcdapalaa", sum := "d4bd2cc5c97cc8d99d995e28062997f20cad0207a449a00a211c44175cf52b19", checked := Try.checked }
namespace Rows
def none {H : Type} : Left H := { results := [], args := [] }

/-- 'laws.FnExactValidWorths': WHATEVER THE INPUT: true; the input reads as it did. -/
def fnExactValidWorthsSpec : ChangeSpec := { name := "fnExactValidWorths", fn := fun _ => fun
  | [d] => { results := [.lit (.bool true)], args := [d] }
  | _ => none }
def fnExactValidWorthsRow : OpenClaim := { program := "ytnlknofcdapalaa", sum := "d4bd2cc5c97cc8d99d995e28062997f20cad0207a449a00a211c44175cf52b19", func := "loop.example/g01365/laws.FnExactValidWorths", spec := "fnExactValidWorths", apart := false }
def FnExactValidWorthsSaid : Prop := fnExactValidWorthsRow.holds Try.pinned (OpenSpec.ofChange fnExactValidWorthsSpec)

/-- ITS FALSE NEIGHBOUR: 'it returns false'. Refute it at one input. -/
def fnExactValidWorthsWrong : ChangeSpec := { name := "fnExactValidWorths", fn := fun _ => fun
  | [d] => { results := [.lit (.bool false)], args := [d] }
  | _ => none }
def FnExactValidWorthsWrongFalsely : Prop := fnExactValidWorthsRow.holds Try.pinned (OpenSpec.ofChange fnExactValidWorthsWrong)

/-- 'laws.FnExactSameWorths': WHATEVER THE INPUT: true; the input reads as it did. -/
def fnExactSameWorthsSpec : ChangeSpec := { name := "fnExactSameWorths", fn := fun _ => fun
  | [d1, d2] => { results := [.lit (.bool true)], args := [d1, d2] }
  | _ => none }
def fnExactSameWorthsRow : OpenClaim := { program := "ytnlknofcdapalaa", sum := "d4bd2cc5c97cc8d99d995e28062997f20cad0207a449a00a211c44175cf52b19", func := "loop.example/g01365/laws.FnExactSameWorths", spec := "fnExactSameWorths", apart := false }
def FnExactSameWorthsSaid : Prop := fnExactSameWorthsRow.holds Try.pinned (OpenSpec.ofChange fnExactSameWorthsSpec)

/-- ITS FALSE NEIGHBOUR: 'it returns false'. Refute it at one input. -/
def fnExactSameWorthsWrong : ChangeSpec := { name := "fnExactSameWorths", fn := fun _ => fun
  | [d1, d2] => { results := [.lit (.bool false)], args := [d1, d2] }
  | _ => none }
def FnExactSameWorthsWrongFalsely : Prop := fnExactSameWorthsRow.holds Try.pinned (OpenSpec.ofChange fnExactSameWorthsWrong)

/-- 'laws.FnExactWeighWorths': WHATEVER THE INPUT: true; the input reads as it did. -/
def fnExactWeighWorthsSpec : ChangeSpec := { name := "fnExactWeighWorths", fn := fun _ => fun
  | [d1, d2, d3, d4] => { results := [.lit (.bool true)], args := [d1, d2, d3, d4] }
  | _ => none }
def fnExactWeighWorthsRow : OpenClaim := { program := "ytnlknofcdapalaa", sum := "d4bd2cc5c97cc8d99d995e28062997f20cad0207a449a00a211c44175cf52b19", func := "loop.example/g01365/laws.FnExactWeighWorths", spec := "fnExactWeighWorths", unfollowed := true, recurses := true, apart := false }
def FnExactWeighWorthsSaid : Prop := fnExactWeighWorthsRow.holds Try.pinned (OpenSpec.ofChange fnExactWeighWorthsSpec)

/-- ITS FALSE NEIGHBOUR: 'it returns false'. Refute it at one input. -/
def fnExactWeighWorthsWrong : ChangeSpec := { name := "fnExactWeighWorths", fn := fun _ => fun
  | [d1, d2, d3, d4] => { results := [.lit (.bool false)], args := [d1, d2, d3, d4] }
  | _ => none }
def FnExactWeighWorthsWrongFalsely : Prop := fnExactWeighWorthsRow.holds Try.pinned (OpenSpec.ofChange fnExactWeighWorthsWrong)

/-- 'laws.FnExactDividendsOf': WHATEVER THE INPUT: true; the input reads as it did. -/
def fnExactDividendsOfSpec : ChangeSpec := { name := "fnExactDividendsOf", fn := fun _ => fun
  | [d] => { results := [.lit (.bool true)], args := [d] }
  | _ => none }
def fnExactDividendsOfRow : OpenClaim := { program := "ytnlknofcdapalaa", sum := "d4bd2cc5c97cc8d99d995e28062997f20cad0207a449a00a211c44175cf52b19", func := "loop.example/g01365/laws.FnExactDividendsOf", spec := "fnExactDividendsOf", unfollowed := true, recurses := true, apart := false }
def FnExactDividendsOfSaid : Prop := fnExactDividendsOfRow.holds Try.pinned (OpenSpec.ofChange fnExactDividendsOfSpec)

/-- ITS FALSE NEIGHBOUR: 'it returns false'. Refute it at one input. -/
def fnExactDividendsOfWrong : ChangeSpec := { name := "fnExactDividendsOf", fn := fun _ => fun
  | [d] => { results := [.lit (.bool false)], args := [d] }
  | _ => none }
def FnExactDividendsOfWrongFalsely : Prop := fnExactDividendsOfRow.holds Try.pinned (OpenSpec.ofChange fnExactDividendsOfWrong)

/-- 'laws.FnExactFromDividends': WHATEVER THE INPUT: true; the input reads as it did. -/
def fnExactFromDividendsSpec : ChangeSpec := { name := "fnExactFromDividends", fn := fun _ => fun
  | [d1, d2] => { results := [.lit (.bool true)], args := [d1, d2] }
  | _ => none }
def fnExactFromDividendsRow : OpenClaim := { program := "ytnlknofcdapalaa", sum := "d4bd2cc5c97cc8d99d995e28062997f20cad0207a449a00a211c44175cf52b19", func := "loop.example/g01365/laws.FnExactFromDividends", spec := "fnExactFromDividends", unfollowed := true, recurses := true, apart := false }
def FnExactFromDividendsSaid : Prop := fnExactFromDividendsRow.holds Try.pinned (OpenSpec.ofChange fnExactFromDividendsSpec)

/-- ITS FALSE NEIGHBOUR: 'it returns false'. Refute it at one input. -/
def fnExactFromDividendsWrong : ChangeSpec := { name := "fnExactFromDividends", fn := fun _ => fun
  | [d1, d2] => { results := [.lit (.bool false)], args := [d1, d2] }
  | _ => none }
def FnExactFromDividendsWrongFalsely : Prop := fnExactFromDividendsRow.holds Try.pinned (OpenSpec.ofChange fnExactFromDividendsWrong)

/-- 'laws.FnExactMoreInOrder': WHATEVER THE INPUT: true; the input reads as it did. -/
def fnExactMoreInOrderSpec : ChangeSpec := { name := "fnExactMoreInOrder", fn := fun _ => fun
  | [d1, d2] => { results := [.lit (.bool true)], args := [d1, d2] }
  | _ => none }
def fnExactMoreInOrderRow : OpenClaim := { program := "ytnlknofcdapalaa", sum := "d4bd2cc5c97cc8d99d995e28062997f20cad0207a449a00a211c44175cf52b19", func := "loop.example/g01365/laws.FnExactMoreInOrder", spec := "fnExactMoreInOrder", unfollowed := true, recurses := true, apart := false }
def FnExactMoreInOrderSaid : Prop := fnExactMoreInOrderRow.holds Try.pinned (OpenSpec.ofChange fnExactMoreInOrderSpec)

/-- ITS FALSE NEIGHBOUR: 'it returns false'. Refute it at one input. -/
def fnExactMoreInOrderWrong : ChangeSpec := { name := "fnExactMoreInOrder", fn := fun _ => fun
  | [d1, d2] => { results := [.lit (.bool false)], args := [d1, d2] }
  | _ => none }
def FnExactMoreInOrderWrongFalsely : Prop := fnExactMoreInOrderRow.holds Try.pinned (OpenSpec.ofChange fnExactMoreInOrderWrong)

/-- 'laws.FnExactSharesOf': WHATEVER THE INPUT: true; the input reads as it did. -/
def fnExactSharesOfSpec : ChangeSpec := { name := "fnExactSharesOf", fn := fun _ => fun
  | [d] => { results := [.lit (.bool true)], args := [d] }
  | _ => none }
def fnExactSharesOfRow : OpenClaim := { program := "ytnlknofcdapalaa", sum := "d4bd2cc5c97cc8d99d995e28062997f20cad0207a449a00a211c44175cf52b19", func := "loop.example/g01365/laws.FnExactSharesOf", spec := "fnExactSharesOf", unfollowed := true, recurses := true, apart := false }
def FnExactSharesOfSaid : Prop := fnExactSharesOfRow.holds Try.pinned (OpenSpec.ofChange fnExactSharesOfSpec)

/-- ITS FALSE NEIGHBOUR: 'it returns false'. Refute it at one input. -/
def fnExactSharesOfWrong : ChangeSpec := { name := "fnExactSharesOf", fn := fun _ => fun
  | [d] => { results := [.lit (.bool false)], args := [d] }
  | _ => none }
def FnExactSharesOfWrongFalsely : Prop := fnExactSharesOfRow.holds Try.pinned (OpenSpec.ofChange fnExactSharesOfWrong)

/-- 'laws.FnExactSwingsOf': WHATEVER THE INPUT: true; the input reads as it did. -/
def fnExactSwingsOfSpec : ChangeSpec := { name := "fnExactSwingsOf", fn := fun _ => fun
  | [d] => { results := [.lit (.bool true)], args := [d] }
  | _ => none }
def fnExactSwingsOfRow : OpenClaim := { program := "ytnlknofcdapalaa", sum := "d4bd2cc5c97cc8d99d995e28062997f20cad0207a449a00a211c44175cf52b19", func := "loop.example/g01365/laws.FnExactSwingsOf", spec := "fnExactSwingsOf", unfollowed := true, recurses := true, apart := false }
def FnExactSwingsOfSaid : Prop := fnExactSwingsOfRow.holds Try.pinned (OpenSpec.ofChange fnExactSwingsOfSpec)

/-- ITS FALSE NEIGHBOUR: 'it returns false'. Refute it at one input. -/
def fnExactSwingsOfWrong : ChangeSpec := { name := "fnExactSwingsOf", fn := fun _ => fun
  | [d] => { results := [.lit (.bool false)], args := [d] }
  | _ => none }
def FnExactSwingsOfWrongFalsely : Prop := fnExactSwingsOfRow.holds Try.pinned (OpenSpec.ofChange fnExactSwingsOfWrong)

/-- 'laws.FnExactIsNull': WHATEVER THE INPUT: true; the input reads as it did. -/
def fnExactIsNullSpec : ChangeSpec := { name := "fnExactIsNull", fn := fun _ => fun
  | [d1, d2] => { results := [.lit (.bool true)], args := [d1, d2] }
  | _ => none }
def fnExactIsNullRow : OpenClaim := { program := "ytnlknofcdapalaa", sum := "d4bd2cc5c97cc8d99d995e28062997f20cad0207a449a00a211c44175cf52b19", func := "loop.example/g01365/laws.FnExactIsNull", spec := "fnExactIsNull", unfollowed := true, recurses := true, apart := false }
def FnExactIsNullSaid : Prop := fnExactIsNullRow.holds Try.pinned (OpenSpec.ofChange fnExactIsNullSpec)

/-- ITS FALSE NEIGHBOUR: 'it returns false'. Refute it at one input. -/
def fnExactIsNullWrong : ChangeSpec := { name := "fnExactIsNull", fn := fun _ => fun
  | [d1, d2] => { results := [.lit (.bool false)], args := [d1, d2] }
  | _ => none }
def FnExactIsNullWrongFalsely : Prop := fnExactIsNullRow.holds Try.pinned (OpenSpec.ofChange fnExactIsNullWrong)

/-- 'laws.FnExactAreAlike': WHATEVER THE INPUT: true; the input reads as it did. -/
def fnExactAreAlikeSpec : ChangeSpec := { name := "fnExactAreAlike", fn := fun _ => fun
  | [d1, d2, d3] => { results := [.lit (.bool true)], args := [d1, d2, d3] }
  | _ => none }
def fnExactAreAlikeRow : OpenClaim := { program := "ytnlknofcdapalaa", sum := "d4bd2cc5c97cc8d99d995e28062997f20cad0207a449a00a211c44175cf52b19", func := "loop.example/g01365/laws.FnExactAreAlike", spec := "fnExactAreAlike", unfollowed := true, recurses := true, apart := false }
def FnExactAreAlikeSaid : Prop := fnExactAreAlikeRow.holds Try.pinned (OpenSpec.ofChange fnExactAreAlikeSpec)

/-- ITS FALSE NEIGHBOUR: 'it returns false'. Refute it at one input. -/
def fnExactAreAlikeWrong : ChangeSpec := { name := "fnExactAreAlike", fn := fun _ => fun
  | [d1, d2, d3] => { results := [.lit (.bool false)], args := [d1, d2, d3] }
  | _ => none }
def FnExactAreAlikeWrongFalsely : Prop := fnExactAreAlikeRow.holds Try.pinned (OpenSpec.ofChange fnExactAreAlikeWrong)

/-- 'laws.FnExactIsRising': WHATEVER THE INPUT: true; the input reads as it did. -/
def fnExactIsRisingSpec : ChangeSpec := { name := "fnExactIsRising", fn := fun _ => fun
  | [d] => { results := [.lit (.bool true)], args := [d] }
  | _ => none }
def fnExactIsRisingRow : OpenClaim := { program := "ytnlknofcdapalaa", sum := "d4bd2cc5c97cc8d99d995e28062997f20cad0207a449a00a211c44175cf52b19", func := "loop.example/g01365/laws.FnExactIsRising", spec := "fnExactIsRising", unfollowed := true, recurses := true, apart := false }
def FnExactIsRisingSaid : Prop := fnExactIsRisingRow.holds Try.pinned (OpenSpec.ofChange fnExactIsRisingSpec)

/-- ITS FALSE NEIGHBOUR: 'it returns false'. Refute it at one input. -/
def fnExactIsRisingWrong : ChangeSpec := { name := "fnExactIsRising", fn := fun _ => fun
  | [d] => { results := [.lit (.bool false)], args := [d] }
  | _ => none }
def FnExactIsRisingWrongFalsely : Prop := fnExactIsRisingRow.holds Try.pinned (OpenSpec.ofChange fnExactIsRisingWrong)

/-- 'laws.FnExactIsJoining': WHATEVER THE INPUT: true; the input reads as it did. -/
def fnExactIsJoiningSpec : ChangeSpec := { name := "fnExactIsJoining", fn := fun _ => fun
  | [d] => { results := [.lit (.bool true)], args := [d] }
  | _ => none }
def fnExactIsJoiningRow : OpenClaim := { program := "ytnlknofcdapalaa", sum := "d4bd2cc5c97cc8d99d995e28062997f20cad0207a449a00a211c44175cf52b19", func := "loop.example/g01365/laws.FnExactIsJoining", spec := "fnExactIsJoining", unfollowed := true, recurses := true, apart := false }
def FnExactIsJoiningSaid : Prop := fnExactIsJoiningRow.holds Try.pinned (OpenSpec.ofChange fnExactIsJoiningSpec)

/-- ITS FALSE NEIGHBOUR: 'it returns false'. Refute it at one input. -/
def fnExactIsJoiningWrong : ChangeSpec := { name := "fnExactIsJoining", fn := fun _ => fun
  | [d] => { results := [.lit (.bool false)], args := [d] }
  | _ => none }
def FnExactIsJoiningWrongFalsely : Prop := fnExactIsJoiningRow.holds Try.pinned (OpenSpec.ofChange fnExactIsJoiningWrong)

/-- 'laws.FnExactIsConvex': WHATEVER THE INPUT: true; the input reads as it did. -/
def fnExactIsConvexSpec : ChangeSpec := { name := "fnExactIsConvex", fn := fun _ => fun
  | [d] => { results := [.lit (.bool true)], args := [d] }
  | _ => none }
def fnExactIsConvexRow : OpenClaim := { program := "ytnlknofcdapalaa", sum := "d4bd2cc5c97cc8d99d995e28062997f20cad0207a449a00a211c44175cf52b19", func := "loop.example/g01365/laws.FnExactIsConvex", spec := "fnExactIsConvex", unfollowed := true, recurses := true, apart := false }
def FnExactIsConvexSaid : Prop := fnExactIsConvexRow.holds Try.pinned (OpenSpec.ofChange fnExactIsConvexSpec)

/-- ITS FALSE NEIGHBOUR: 'it returns false'. Refute it at one input. -/
def fnExactIsConvexWrong : ChangeSpec := { name := "fnExactIsConvex", fn := fun _ => fun
  | [d] => { results := [.lit (.bool false)], args := [d] }
  | _ => none }
def FnExactIsConvexWrongFalsely : Prop := fnExactIsConvexRow.holds Try.pinned (OpenSpec.ofChange fnExactIsConvexWrong)

/-- 'laws.FnExactOtherOf': WHATEVER THE INPUT: true; the input reads as it did. -/
def fnExactOtherOfSpec : ChangeSpec := { name := "fnExactOtherOf", fn := fun _ => fun
  | [d] => { results := [.lit (.bool true)], args := [d] }
  | _ => none }
def fnExactOtherOfRow : OpenClaim := { program := "ytnlknofcdapalaa", sum := "d4bd2cc5c97cc8d99d995e28062997f20cad0207a449a00a211c44175cf52b19", func := "loop.example/g01365/laws.FnExactOtherOf", spec := "fnExactOtherOf", unfollowed := true, recurses := true, apart := false }
def FnExactOtherOfSaid : Prop := fnExactOtherOfRow.holds Try.pinned (OpenSpec.ofChange fnExactOtherOfSpec)

/-- ITS FALSE NEIGHBOUR: 'it returns false'. Refute it at one input. -/
def fnExactOtherOfWrong : ChangeSpec := { name := "fnExactOtherOf", fn := fun _ => fun
  | [d] => { results := [.lit (.bool false)], args := [d] }
  | _ => none }
def FnExactOtherOfWrongFalsely : Prop := fnExactOtherOfRow.holds Try.pinned (OpenSpec.ofChange fnExactOtherOfWrong)

/-- 'laws.FnExactWithoutPlayer': WHATEVER THE INPUT: true; the input reads as it did. -/
def fnExactWithoutPlayerSpec : ChangeSpec := { name := "fnExactWithoutPlayer", fn := fun _ => fun
  | [d1, d2] => { results := [.lit (.bool true)], args := [d1, d2] }
  | _ => none }
def fnExactWithoutPlayerRow : OpenClaim := { program := "ytnlknofcdapalaa", sum := "d4bd2cc5c97cc8d99d995e28062997f20cad0207a449a00a211c44175cf52b19", func := "loop.example/g01365/laws.FnExactWithoutPlayer", spec := "fnExactWithoutPlayer", unfollowed := true, recurses := true, apart := false }
def FnExactWithoutPlayerSaid : Prop := fnExactWithoutPlayerRow.holds Try.pinned (OpenSpec.ofChange fnExactWithoutPlayerSpec)

/-- ITS FALSE NEIGHBOUR: 'it returns false'. Refute it at one input. -/
def fnExactWithoutPlayerWrong : ChangeSpec := { name := "fnExactWithoutPlayer", fn := fun _ => fun
  | [d1, d2] => { results := [.lit (.bool false)], args := [d1, d2] }
  | _ => none }
def FnExactWithoutPlayerWrongFalsely : Prop := fnExactWithoutPlayerRow.holds Try.pinned (OpenSpec.ofChange fnExactWithoutPlayerWrong)

/- THE SECOND FORM. 'bulk': how many values and letters a reading holds, each counted each time it is reached (what is shared counts as often as it is met; a slice's spare places count too). A statement '..UptoSaid' is the law's where the arguments, and the package variables that the reading takes, are together of bulk at most 1048576: NARROWER than '..Said'. Prove '..Said' where nothing that the law and all that it calls make is longer than what came in: it says more and counts as full. Else prove '..UptoSaid'. A law counts once. -/
mutual
def uptoBulk {H : Type} : DataW H → Nat
  | .lit (.string bytes) => bytes.length + 1
  | .lit _ => 1
  | .nil => 1
  | .ptr d => uptoBulk d + 1
  | .slice elems spare => uptoBulkAll elems + uptoBulkAll spare + 1
  | .agg parts => uptoBulkAll parts + 1
  | .iface _ d => uptoBulk d + 1
  | .map entries => uptoBulkEntries entries + 1
  | .held _ => 1
def uptoBulkAll {H : Type} : List (DataW H) → Nat
  | [] => 0
  | d :: r => uptoBulk d + uptoBulkAll r
def uptoBulkEntries {H : Type} : List (Lit × DataW H) → Nat
  | [] => 0
  | x :: r => uptoBulkEntry x + uptoBulkEntries r
def uptoBulkEntry {H : Type} : Lit × DataW H → Nat
  | (.string bytes, d) => bytes.length + uptoBulk d + 1
  | (_, d) => uptoBulk d + 1
 end
def uptoSmall : (H : Type) → List (DataW H) → Bool := fun _ ds => decide (uptoBulkAll ds ≤ 1048576)
def OpenSpec.upto (s : _root_.Go.ChangeSpec) : _root_.Go.OpenSpec := { _root_.Go.OpenSpec.ofChange s with cond := some uptoSmall }

/-- 'laws.FnExactValidWorths', WHERE WHAT IT READS IS OF BULK AT MOST 1048576: true; the input reads as it did. -/
def fnExactValidWorthsUptoRow : OpenClaim := { program := "ytnlknofcdapalaa", sum := "d4bd2cc5c97cc8d99d995e28062997f20cad0207a449a00a211c44175cf52b19", func := "loop.example/g01365/laws.FnExactValidWorths", spec := "fnExactValidWorths", apart := false, narrowed := true }
def FnExactValidWorthsUptoSaid : Prop := fnExactValidWorthsUptoRow.holds Try.pinned (OpenSpec.upto fnExactValidWorthsSpec)

/-- 'laws.FnExactSameWorths', WHERE WHAT IT READS IS OF BULK AT MOST 1048576: true; the input reads as it did. -/
def fnExactSameWorthsUptoRow : OpenClaim := { program := "ytnlknofcdapalaa", sum := "d4bd2cc5c97cc8d99d995e28062997f20cad0207a449a00a211c44175cf52b19", func := "loop.example/g01365/laws.FnExactSameWorths", spec := "fnExactSameWorths", apart := false, narrowed := true }
def FnExactSameWorthsUptoSaid : Prop := fnExactSameWorthsUptoRow.holds Try.pinned (OpenSpec.upto fnExactSameWorthsSpec)

/-- 'laws.FnExactWeighWorths', WHERE WHAT IT READS IS OF BULK AT MOST 1048576: true; the input reads as it did. -/
def fnExactWeighWorthsUptoRow : OpenClaim := { program := "ytnlknofcdapalaa", sum := "d4bd2cc5c97cc8d99d995e28062997f20cad0207a449a00a211c44175cf52b19", func := "loop.example/g01365/laws.FnExactWeighWorths", spec := "fnExactWeighWorths", unfollowed := true, recurses := true, apart := false, narrowed := true }
def FnExactWeighWorthsUptoSaid : Prop := fnExactWeighWorthsUptoRow.holds Try.pinned (OpenSpec.upto fnExactWeighWorthsSpec)

/-- 'laws.FnExactDividendsOf', WHERE WHAT IT READS IS OF BULK AT MOST 1048576: true; the input reads as it did. -/
def fnExactDividendsOfUptoRow : OpenClaim := { program := "ytnlknofcdapalaa", sum := "d4bd2cc5c97cc8d99d995e28062997f20cad0207a449a00a211c44175cf52b19", func := "loop.example/g01365/laws.FnExactDividendsOf", spec := "fnExactDividendsOf", unfollowed := true, recurses := true, apart := false, narrowed := true }
def FnExactDividendsOfUptoSaid : Prop := fnExactDividendsOfUptoRow.holds Try.pinned (OpenSpec.upto fnExactDividendsOfSpec)

/-- 'laws.FnExactFromDividends', WHERE WHAT IT READS IS OF BULK AT MOST 1048576: true; the input reads as it did. -/
def fnExactFromDividendsUptoRow : OpenClaim := { program := "ytnlknofcdapalaa", sum := "d4bd2cc5c97cc8d99d995e28062997f20cad0207a449a00a211c44175cf52b19", func := "loop.example/g01365/laws.FnExactFromDividends", spec := "fnExactFromDividends", unfollowed := true, recurses := true, apart := false, narrowed := true }
def FnExactFromDividendsUptoSaid : Prop := fnExactFromDividendsUptoRow.holds Try.pinned (OpenSpec.upto fnExactFromDividendsSpec)

/-- 'laws.FnExactMoreInOrder', WHERE WHAT IT READS IS OF BULK AT MOST 1048576: true; the input reads as it did. -/
def fnExactMoreInOrderUptoRow : OpenClaim := { program := "ytnlknofcdapalaa", sum := "d4bd2cc5c97cc8d99d995e28062997f20cad0207a449a00a211c44175cf52b19", func := "loop.example/g01365/laws.FnExactMoreInOrder", spec := "fnExactMoreInOrder", unfollowed := true, recurses := true, apart := false, narrowed := true }
def FnExactMoreInOrderUptoSaid : Prop := fnExactMoreInOrderUptoRow.holds Try.pinned (OpenSpec.upto fnExactMoreInOrderSpec)

/-- 'laws.FnExactSharesOf', WHERE WHAT IT READS IS OF BULK AT MOST 1048576: true; the input reads as it did. -/
def fnExactSharesOfUptoRow : OpenClaim := { program := "ytnlknofcdapalaa", sum := "d4bd2cc5c97cc8d99d995e28062997f20cad0207a449a00a211c44175cf52b19", func := "loop.example/g01365/laws.FnExactSharesOf", spec := "fnExactSharesOf", unfollowed := true, recurses := true, apart := false, narrowed := true }
def FnExactSharesOfUptoSaid : Prop := fnExactSharesOfUptoRow.holds Try.pinned (OpenSpec.upto fnExactSharesOfSpec)

/-- 'laws.FnExactSwingsOf', WHERE WHAT IT READS IS OF BULK AT MOST 1048576: true; the input reads as it did. -/
def fnExactSwingsOfUptoRow : OpenClaim := { program := "ytnlknofcdapalaa", sum := "d4bd2cc5c97cc8d99d995e28062997f20cad0207a449a00a211c44175cf52b19", func := "loop.example/g01365/laws.FnExactSwingsOf", spec := "fnExactSwingsOf", unfollowed := true, recurses := true, apart := false, narrowed := true }
def FnExactSwingsOfUptoSaid : Prop := fnExactSwingsOfUptoRow.holds Try.pinned (OpenSpec.upto fnExactSwingsOfSpec)

/-- 'laws.FnExactIsNull', WHERE WHAT IT READS IS OF BULK AT MOST 1048576: true; the input reads as it did. -/
def fnExactIsNullUptoRow : OpenClaim := { program := "ytnlknofcdapalaa", sum := "d4bd2cc5c97cc8d99d995e28062997f20cad0207a449a00a211c44175cf52b19", func := "loop.example/g01365/laws.FnExactIsNull", spec := "fnExactIsNull", unfollowed := true, recurses := true, apart := false, narrowed := true }
def FnExactIsNullUptoSaid : Prop := fnExactIsNullUptoRow.holds Try.pinned (OpenSpec.upto fnExactIsNullSpec)

/-- 'laws.FnExactAreAlike', WHERE WHAT IT READS IS OF BULK AT MOST 1048576: true; the input reads as it did. -/
def fnExactAreAlikeUptoRow : OpenClaim := { program := "ytnlknofcdapalaa", sum := "d4bd2cc5c97cc8d99d995e28062997f20cad0207a449a00a211c44175cf52b19", func := "loop.example/g01365/laws.FnExactAreAlike", spec := "fnExactAreAlike", unfollowed := true, recurses := true, apart := false, narrowed := true }
def FnExactAreAlikeUptoSaid : Prop := fnExactAreAlikeUptoRow.holds Try.pinned (OpenSpec.upto fnExactAreAlikeSpec)

/-- 'laws.FnExactIsRising', WHERE WHAT IT READS IS OF BULK AT MOST 1048576: true; the input reads as it did. -/
def fnExactIsRisingUptoRow : OpenClaim := { program := "ytnlknofcdapalaa", sum := "d4bd2cc5c97cc8d99d995e28062997f20cad0207a449a00a211c44175cf52b19", func := "loop.example/g01365/laws.FnExactIsRising", spec := "fnExactIsRising", unfollowed := true, recurses := true, apart := false, narrowed := true }
def FnExactIsRisingUptoSaid : Prop := fnExactIsRisingUptoRow.holds Try.pinned (OpenSpec.upto fnExactIsRisingSpec)

/-- 'laws.FnExactIsJoining', WHERE WHAT IT READS IS OF BULK AT MOST 1048576: true; the input reads as it did. -/
def fnExactIsJoiningUptoRow : OpenClaim := { program := "ytnlknofcdapalaa", sum := "d4bd2cc5c97cc8d99d995e28062997f20cad0207a449a00a211c44175cf52b19", func := "loop.example/g01365/laws.FnExactIsJoining", spec := "fnExactIsJoining", unfollowed := true, recurses := true, apart := false, narrowed := true }
def FnExactIsJoiningUptoSaid : Prop := fnExactIsJoiningUptoRow.holds Try.pinned (OpenSpec.upto fnExactIsJoiningSpec)

/-- 'laws.FnExactIsConvex', WHERE WHAT IT READS IS OF BULK AT MOST 1048576: true; the input reads as it did. -/
def fnExactIsConvexUptoRow : OpenClaim := { program := "ytnlknofcdapalaa", sum := "d4bd2cc5c97cc8d99d995e28062997f20cad0207a449a00a211c44175cf52b19", func := "loop.example/g01365/laws.FnExactIsConvex", spec := "fnExactIsConvex", unfollowed := true, recurses := true, apart := false, narrowed := true }
def FnExactIsConvexUptoSaid : Prop := fnExactIsConvexUptoRow.holds Try.pinned (OpenSpec.upto fnExactIsConvexSpec)

/-- 'laws.FnExactOtherOf', WHERE WHAT IT READS IS OF BULK AT MOST 1048576: true; the input reads as it did. -/
def fnExactOtherOfUptoRow : OpenClaim := { program := "ytnlknofcdapalaa", sum := "d4bd2cc5c97cc8d99d995e28062997f20cad0207a449a00a211c44175cf52b19", func := "loop.example/g01365/laws.FnExactOtherOf", spec := "fnExactOtherOf", unfollowed := true, recurses := true, apart := false, narrowed := true }
def FnExactOtherOfUptoSaid : Prop := fnExactOtherOfUptoRow.holds Try.pinned (OpenSpec.upto fnExactOtherOfSpec)

/-- 'laws.FnExactWithoutPlayer', WHERE WHAT IT READS IS OF BULK AT MOST 1048576: true; the input reads as it did. -/
def fnExactWithoutPlayerUptoRow : OpenClaim := { program := "ytnlknofcdapalaa", sum := "d4bd2cc5c97cc8d99d995e28062997f20cad0207a449a00a211c44175cf52b19", func := "loop.example/g01365/laws.FnExactWithoutPlayer", spec := "fnExactWithoutPlayer", unfollowed := true, recurses := true, apart := false, narrowed := true }
def FnExactWithoutPlayerUptoSaid : Prop := fnExactWithoutPlayerUptoRow.holds Try.pinned (OpenSpec.upto fnExactWithoutPlayerSpec)

end Rows
end Go.Proofs.Ytnlknofcdapalaa
