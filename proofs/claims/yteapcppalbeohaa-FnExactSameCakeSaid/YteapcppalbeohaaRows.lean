/-
  No cell of these rows narrows 'for every input' (looked for: loops, veiled, ifaces, maps, wideKeys, modest, calm, conditions, laid).
  DERIVED. THE GIVEN ROWS OF THIS SEAT. 8 by the template 'for every input the law returns true; each argument reads behind the call as it read before'; 0 by the template 'total and deterministic' (their statements: YteapcppalbeohaaTotals.lean).
  GIVEN WITH THE SEED: the statements are not yours to turn. If you find one false, say at which input.
  Laid BY PROGRAM, IN A SANDBOX (cutbox-rows.mjs): the forced cells as the released guide's own fill.sh prints them over the translation 99a7b9cf50a22b09… (all of the seat's roots in one cut). By AI agents, Wed Nov 11 2026. No macro, syntax, notation, axiom, sorry.
-/
import Derived.Test.YteapcppalbeohaaChecked
import GoSem.Claim
import GoSem.ClaimJoined
import GoSem.ClaimMapViews
import Derived.JoinedTies
import Derived.KernelRfl
namespace Go.Proofs.Yteapcppalbeohaa
/- THE CELL 'sum', in the pinned program and in every row, IS THE sha256 OF THE DUMP (.gsa) THAT YteapcppalbeohaaProg.lean LOADS. Nothing in Lean hashes anything: it is a label: what it is worth is what the hold of that sum in a sandbox is worth. -/
noncomputable def Try.pinned : Pinned := { name := "yteapcppalbeohaa", sum := "99a7b9cf50a22b095b8b9b057db028572cfd6b5b34e0f50b55abe4158eff354e", checked := Try.checked }
namespace Rows
def none {H : Type} : Left H := { results := [], args := [] }

/-- 'laws.FnExactPartsShared': WHATEVER THE INPUT: true; the input reads as it did. -/
def fnExactPartsSharedSpec : ChangeSpec := { name := "fnExactPartsShared", fn := fun _ => fun
  | [d1, d2] => { results := [.lit (.bool true)], args := [d1, d2] }
  | _ => none }
def fnExactPartsSharedRow : OpenClaim := { program := "yteapcppalbeohaa", sum := "99a7b9cf50a22b095b8b9b057db028572cfd6b5b34e0f50b55abe4158eff354e", func := "loop.example/g01365/laws.FnExactPartsShared", spec := "fnExactPartsShared", inPlace := ["(*sync.WaitGroup).Add", "internal/race.ReleaseMerge", "internal/race.Disable", "internal/race.Enable", "internal/synctest.IsInBubble", "internal/synctest.Associate[sync.WaitGroup]", "sync.fatal", "sync/atomic.OrUint64", "sync/atomic.AddUint64", "internal/race.Read", "sync/atomic.LoadUint64", "sync/atomic.StoreUint64", "internal/synctest.Disassociate[sync.WaitGroup]", "sync.runtime_Semrelease", "(*sync.WaitGroup).Done", "(*sync.WaitGroup).Wait", "internal/race.Acquire", "internal/synctest.IsAssociated[sync.WaitGroup]", "sync/atomic.CompareAndSwapUint64", "internal/race.Write", "sync.runtime_SemacquireWaitGroup"], unfollowed := true, recurses := true, leaving := true, apart := false }
def FnExactPartsSharedSaid : Prop := fnExactPartsSharedRow.holds Try.pinned (OpenSpec.ofChange fnExactPartsSharedSpec)

/-- ITS FALSE NEIGHBOUR: 'it returns false'. Refute it at one input. -/
def fnExactPartsSharedWrong : ChangeSpec := { name := "fnExactPartsShared", fn := fun _ => fun
  | [d1, d2] => { results := [.lit (.bool false)], args := [d1, d2] }
  | _ => none }
def FnExactPartsSharedWrongFalsely : Prop := fnExactPartsSharedRow.holds Try.pinned (OpenSpec.ofChange fnExactPartsSharedWrong)

/-- 'laws.FnExactValidCake': WHATEVER THE INPUT: true; the input reads as it did. -/
def fnExactValidCakeSpec : ChangeSpec := { name := "fnExactValidCake", fn := fun _ => fun
  | [d] => { results := [.lit (.bool true)], args := [d] }
  | _ => none }
def fnExactValidCakeRow : OpenClaim := { program := "yteapcppalbeohaa", sum := "99a7b9cf50a22b095b8b9b057db028572cfd6b5b34e0f50b55abe4158eff354e", func := "loop.example/g01365/laws.FnExactValidCake", spec := "fnExactValidCake", apart := false }
def FnExactValidCakeSaid : Prop := fnExactValidCakeRow.holds Try.pinned (OpenSpec.ofChange fnExactValidCakeSpec)

/-- ITS FALSE NEIGHBOUR: 'it returns false'. Refute it at one input. -/
def fnExactValidCakeWrong : ChangeSpec := { name := "fnExactValidCake", fn := fun _ => fun
  | [d] => { results := [.lit (.bool false)], args := [d] }
  | _ => none }
def FnExactValidCakeWrongFalsely : Prop := fnExactValidCakeRow.holds Try.pinned (OpenSpec.ofChange fnExactValidCakeWrong)

/-- 'laws.FnExactSameCake': WHATEVER THE INPUT: true; the input reads as it did. -/
def fnExactSameCakeSpec : ChangeSpec := { name := "fnExactSameCake", fn := fun _ => fun
  | [d1, d2] => { results := [.lit (.bool true)], args := [d1, d2] }
  | _ => none }
def fnExactSameCakeRow : OpenClaim := { program := "yteapcppalbeohaa", sum := "99a7b9cf50a22b095b8b9b057db028572cfd6b5b34e0f50b55abe4158eff354e", func := "loop.example/g01365/laws.FnExactSameCake", spec := "fnExactSameCake", apart := false }
def FnExactSameCakeSaid : Prop := fnExactSameCakeRow.holds Try.pinned (OpenSpec.ofChange fnExactSameCakeSpec)

/-- ITS FALSE NEIGHBOUR: 'it returns false'. Refute it at one input. -/
def fnExactSameCakeWrong : ChangeSpec := { name := "fnExactSameCake", fn := fun _ => fun
  | [d1, d2] => { results := [.lit (.bool false)], args := [d1, d2] }
  | _ => none }
def FnExactSameCakeWrongFalsely : Prop := fnExactSameCakeRow.holds Try.pinned (OpenSpec.ofChange fnExactSameCakeWrong)

/-- 'laws.FnExactCakeWorth': WHATEVER THE INPUT: true; the input reads as it did. -/
def fnExactCakeWorthSpec : ChangeSpec := { name := "fnExactCakeWorth", fn := fun _ => fun
  | [d1, d2, d3, d4] => { results := [.lit (.bool true)], args := [d1, d2, d3, d4] }
  | _ => none }
def fnExactCakeWorthRow : OpenClaim := { program := "yteapcppalbeohaa", sum := "99a7b9cf50a22b095b8b9b057db028572cfd6b5b34e0f50b55abe4158eff354e", func := "loop.example/g01365/laws.FnExactCakeWorth", spec := "fnExactCakeWorth", apart := false }
def FnExactCakeWorthSaid : Prop := fnExactCakeWorthRow.holds Try.pinned (OpenSpec.ofChange fnExactCakeWorthSpec)

/-- ITS FALSE NEIGHBOUR: 'it returns false'. Refute it at one input. -/
def fnExactCakeWorthWrong : ChangeSpec := { name := "fnExactCakeWorth", fn := fun _ => fun
  | [d1, d2, d3, d4] => { results := [.lit (.bool false)], args := [d1, d2, d3, d4] }
  | _ => none }
def FnExactCakeWorthWrongFalsely : Prop := fnExactCakeWorthRow.holds Try.pinned (OpenSpec.ofChange fnExactCakeWorthWrong)

/-- 'laws.FnExactCakeMark': WHATEVER THE INPUT: true; the input reads as it did. -/
def fnExactCakeMarkSpec : ChangeSpec := { name := "fnExactCakeMark", fn := fun _ => fun
  | [d1, d2, d3, d4] => { results := [.lit (.bool true)], args := [d1, d2, d3, d4] }
  | _ => none }
def fnExactCakeMarkRow : OpenClaim := { program := "yteapcppalbeohaa", sum := "99a7b9cf50a22b095b8b9b057db028572cfd6b5b34e0f50b55abe4158eff354e", func := "loop.example/g01365/laws.FnExactCakeMark", spec := "fnExactCakeMark", inPlace := ["math.Float64bits", "math.Float64frombits"], apart := false }
def FnExactCakeMarkSaid : Prop := fnExactCakeMarkRow.holds Try.pinned (OpenSpec.ofChange fnExactCakeMarkSpec)

/-- ITS FALSE NEIGHBOUR: 'it returns false'. Refute it at one input. -/
def fnExactCakeMarkWrong : ChangeSpec := { name := "fnExactCakeMark", fn := fun _ => fun
  | [d1, d2, d3, d4] => { results := [.lit (.bool false)], args := [d1, d2, d3, d4] }
  | _ => none }
def FnExactCakeMarkWrongFalsely : Prop := fnExactCakeMarkRow.holds Try.pinned (OpenSpec.ofChange fnExactCakeMarkWrong)

/-- 'laws.FnExactCutAndChoose': WHATEVER THE INPUT: true; the input reads as it did. -/
def fnExactCutAndChooseSpec : ChangeSpec := { name := "fnExactCutAndChoose", fn := fun _ => fun
  | [d] => { results := [.lit (.bool true)], args := [d] }
  | _ => none }
def fnExactCutAndChooseRow : OpenClaim := { program := "yteapcppalbeohaa", sum := "99a7b9cf50a22b095b8b9b057db028572cfd6b5b34e0f50b55abe4158eff354e", func := "loop.example/g01365/laws.FnExactCutAndChoose", spec := "fnExactCutAndChoose", apart := false }
def FnExactCutAndChooseSaid : Prop := fnExactCutAndChooseRow.holds Try.pinned (OpenSpec.ofChange fnExactCutAndChooseSpec)

/-- ITS FALSE NEIGHBOUR: 'it returns false'. Refute it at one input. -/
def fnExactCutAndChooseWrong : ChangeSpec := { name := "fnExactCutAndChoose", fn := fun _ => fun
  | [d] => { results := [.lit (.bool false)], args := [d] }
  | _ => none }
def FnExactCutAndChooseWrongFalsely : Prop := fnExactCutAndChooseRow.holds Try.pinned (OpenSpec.ofChange fnExactCutAndChooseWrong)

/-- 'laws.FnExactMovingKnife': WHATEVER THE INPUT: true; the input reads as it did. -/
def fnExactMovingKnifeSpec : ChangeSpec := { name := "fnExactMovingKnife", fn := fun _ => fun
  | [d] => { results := [.lit (.bool true)], args := [d] }
  | _ => none }
def fnExactMovingKnifeRow : OpenClaim := { program := "yteapcppalbeohaa", sum := "99a7b9cf50a22b095b8b9b057db028572cfd6b5b34e0f50b55abe4158eff354e", func := "loop.example/g01365/laws.FnExactMovingKnife", spec := "fnExactMovingKnife", unfollowed := true, recurses := true, leaving := true, apart := false }
def FnExactMovingKnifeSaid : Prop := fnExactMovingKnifeRow.holds Try.pinned (OpenSpec.ofChange fnExactMovingKnifeSpec)

/-- ITS FALSE NEIGHBOUR: 'it returns false'. Refute it at one input. -/
def fnExactMovingKnifeWrong : ChangeSpec := { name := "fnExactMovingKnife", fn := fun _ => fun
  | [d] => { results := [.lit (.bool false)], args := [d] }
  | _ => none }
def FnExactMovingKnifeWrongFalsely : Prop := fnExactMovingKnifeRow.holds Try.pinned (OpenSpec.ofChange fnExactMovingKnifeWrong)

/-- 'laws.FnExactCakeEnvy': WHATEVER THE INPUT: true; the input reads as it did. -/
def fnExactCakeEnvySpec : ChangeSpec := { name := "fnExactCakeEnvy", fn := fun _ => fun
  | [d1, d2, d3] => { results := [.lit (.bool true)], args := [d1, d2, d3] }
  | _ => none }
def fnExactCakeEnvyRow : OpenClaim := { program := "yteapcppalbeohaa", sum := "99a7b9cf50a22b095b8b9b057db028572cfd6b5b34e0f50b55abe4158eff354e", func := "loop.example/g01365/laws.FnExactCakeEnvy", spec := "fnExactCakeEnvy", unfollowed := true, recurses := true, leaving := true, apart := false }
def FnExactCakeEnvySaid : Prop := fnExactCakeEnvyRow.holds Try.pinned (OpenSpec.ofChange fnExactCakeEnvySpec)

/-- ITS FALSE NEIGHBOUR: 'it returns false'. Refute it at one input. -/
def fnExactCakeEnvyWrong : ChangeSpec := { name := "fnExactCakeEnvy", fn := fun _ => fun
  | [d1, d2, d3] => { results := [.lit (.bool false)], args := [d1, d2, d3] }
  | _ => none }
def FnExactCakeEnvyWrongFalsely : Prop := fnExactCakeEnvyRow.holds Try.pinned (OpenSpec.ofChange fnExactCakeEnvyWrong)

/- THE SECOND FORM. 'bulk': how many values and letters a reading holds, each counted each time it is reached (what is shared counts as often as it is met; a slice's spare places count too). A statement '..UptoSaid' is the law's where the arguments, and the package variables that the reading takes, are together of bulk at most 1048576: NARROWER than '..Said'. Prove '..Said' where nothing that the law and all that it calls make is longer than what came in: it says more and counts as full. Else prove '..UptoSaid'. A law counts once. -/
mutual
def uptoBulk {H : Type} : DataW H → Nat
  | .lit (.string bytes) => bytes.length + 1
  | .lit _ => 1
  | .nil => 1
  | .ptr d => uptoBulk d + 1
  | .slice elems spare => uptoBulkAll elems + uptoBulkAll spare + 1
  | .agg parts => uptoBulkAll parts + 1
  | .iface _ d => uptoBulk d + 1
  | .map entries => uptoBulkEntries entries + 1
  | .held _ => 1
def uptoBulkAll {H : Type} : List (DataW H) → Nat
  | [] => 0
  | d :: r => uptoBulk d + uptoBulkAll r
def uptoBulkEntries {H : Type} : List (Lit × DataW H) → Nat
  | [] => 0
  | x :: r => uptoBulkEntry x + uptoBulkEntries r
def uptoBulkEntry {H : Type} : Lit × DataW H → Nat
  | (.string bytes, d) => bytes.length + uptoBulk d + 1
  | (_, d) => uptoBulk d + 1
 end
def uptoSmall : (H : Type) → List (DataW H) → Bool := fun _ ds => decide (uptoBulkAll ds ≤ 1048576)
def OpenSpec.upto (s : _root_.Go.ChangeSpec) : _root_.Go.OpenSpec := { _root_.Go.OpenSpec.ofChange s with cond := some uptoSmall }

/-- 'laws.FnExactPartsShared', WHERE WHAT IT READS IS OF BULK AT MOST 1048576: true; the input reads as it did. -/
def fnExactPartsSharedUptoRow : OpenClaim := { program := "yteapcppalbeohaa", sum := "99a7b9cf50a22b095b8b9b057db028572cfd6b5b34e0f50b55abe4158eff354e", func := "loop.example/g01365/laws.FnExactPartsShared", spec := "fnExactPartsShared", inPlace := ["(*sync.WaitGroup).Add", "internal/race.ReleaseMerge", "internal/race.Disable", "internal/race.Enable", "internal/synctest.IsInBubble", "internal/synctest.Associate[sync.WaitGroup]", "sync.fatal", "sync/atomic.OrUint64", "sync/atomic.AddUint64", "internal/race.Read", "sync/atomic.LoadUint64", "sync/atomic.StoreUint64", "internal/synctest.Disassociate[sync.WaitGroup]", "sync.runtime_Semrelease", "(*sync.WaitGroup).Done", "(*sync.WaitGroup).Wait", "internal/race.Acquire", "internal/synctest.IsAssociated[sync.WaitGroup]", "sync/atomic.CompareAndSwapUint64", "internal/race.Write", "sync.runtime_SemacquireWaitGroup"], unfollowed := true, recurses := true, leaving := true, apart := false, narrowed := true }
def FnExactPartsSharedUptoSaid : Prop := fnExactPartsSharedUptoRow.holds Try.pinned (OpenSpec.upto fnExactPartsSharedSpec)

/-- 'laws.FnExactValidCake', WHERE WHAT IT READS IS OF BULK AT MOST 1048576: true; the input reads as it did. -/
def fnExactValidCakeUptoRow : OpenClaim := { program := "yteapcppalbeohaa", sum := "99a7b9cf50a22b095b8b9b057db028572cfd6b5b34e0f50b55abe4158eff354e", func := "loop.example/g01365/laws.FnExactValidCake", spec := "fnExactValidCake", apart := false, narrowed := true }
def FnExactValidCakeUptoSaid : Prop := fnExactValidCakeUptoRow.holds Try.pinned (OpenSpec.upto fnExactValidCakeSpec)

/-- 'laws.FnExactSameCake', WHERE WHAT IT READS IS OF BULK AT MOST 1048576: true; the input reads as it did. -/
def fnExactSameCakeUptoRow : OpenClaim := { program := "yteapcppalbeohaa", sum := "99a7b9cf50a22b095b8b9b057db028572cfd6b5b34e0f50b55abe4158eff354e", func := "loop.example/g01365/laws.FnExactSameCake", spec := "fnExactSameCake", apart := false, narrowed := true }
def FnExactSameCakeUptoSaid : Prop := fnExactSameCakeUptoRow.holds Try.pinned (OpenSpec.upto fnExactSameCakeSpec)

/-- 'laws.FnExactCakeWorth', WHERE WHAT IT READS IS OF BULK AT MOST 1048576: true; the input reads as it did. -/
def fnExactCakeWorthUptoRow : OpenClaim := { program := "yteapcppalbeohaa", sum := "99a7b9cf50a22b095b8b9b057db028572cfd6b5b34e0f50b55abe4158eff354e", func := "loop.example/g01365/laws.FnExactCakeWorth", spec := "fnExactCakeWorth", apart := false, narrowed := true }
def FnExactCakeWorthUptoSaid : Prop := fnExactCakeWorthUptoRow.holds Try.pinned (OpenSpec.upto fnExactCakeWorthSpec)

/-- 'laws.FnExactCakeMark', WHERE WHAT IT READS IS OF BULK AT MOST 1048576: true; the input reads as it did. -/
def fnExactCakeMarkUptoRow : OpenClaim := { program := "yteapcppalbeohaa", sum := "99a7b9cf50a22b095b8b9b057db028572cfd6b5b34e0f50b55abe4158eff354e", func := "loop.example/g01365/laws.FnExactCakeMark", spec := "fnExactCakeMark", inPlace := ["math.Float64bits", "math.Float64frombits"], apart := false, narrowed := true }
def FnExactCakeMarkUptoSaid : Prop := fnExactCakeMarkUptoRow.holds Try.pinned (OpenSpec.upto fnExactCakeMarkSpec)

/-- 'laws.FnExactCutAndChoose', WHERE WHAT IT READS IS OF BULK AT MOST 1048576: true; the input reads as it did. -/
def fnExactCutAndChooseUptoRow : OpenClaim := { program := "yteapcppalbeohaa", sum := "99a7b9cf50a22b095b8b9b057db028572cfd6b5b34e0f50b55abe4158eff354e", func := "loop.example/g01365/laws.FnExactCutAndChoose", spec := "fnExactCutAndChoose", apart := false, narrowed := true }
def FnExactCutAndChooseUptoSaid : Prop := fnExactCutAndChooseUptoRow.holds Try.pinned (OpenSpec.upto fnExactCutAndChooseSpec)

/-- 'laws.FnExactMovingKnife', WHERE WHAT IT READS IS OF BULK AT MOST 1048576: true; the input reads as it did. -/
def fnExactMovingKnifeUptoRow : OpenClaim := { program := "yteapcppalbeohaa", sum := "99a7b9cf50a22b095b8b9b057db028572cfd6b5b34e0f50b55abe4158eff354e", func := "loop.example/g01365/laws.FnExactMovingKnife", spec := "fnExactMovingKnife", unfollowed := true, recurses := true, leaving := true, apart := false, narrowed := true }
def FnExactMovingKnifeUptoSaid : Prop := fnExactMovingKnifeUptoRow.holds Try.pinned (OpenSpec.upto fnExactMovingKnifeSpec)

/-- 'laws.FnExactCakeEnvy', WHERE WHAT IT READS IS OF BULK AT MOST 1048576: true; the input reads as it did. -/
def fnExactCakeEnvyUptoRow : OpenClaim := { program := "yteapcppalbeohaa", sum := "99a7b9cf50a22b095b8b9b057db028572cfd6b5b34e0f50b55abe4158eff354e", func := "loop.example/g01365/laws.FnExactCakeEnvy", spec := "fnExactCakeEnvy", unfollowed := true, recurses := true, leaving := true, apart := false, narrowed := true }
def FnExactCakeEnvyUptoSaid : Prop := fnExactCakeEnvyUptoRow.holds Try.pinned (OpenSpec.upto fnExactCakeEnvySpec)

end Rows
end Go.Proofs.Yteapcppalbeohaa
