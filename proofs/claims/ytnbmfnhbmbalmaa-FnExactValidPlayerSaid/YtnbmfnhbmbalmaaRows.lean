/-
  No cell of these rows narrows 'for every input' (looked for: loops, veiled, ifaces, maps, wideKeys, modest, calm, conditions, laid).
  DERIVED. THE GIVEN ROWS OF THIS SEAT. 8 by the template 'for every input the law returns true; each argument reads behind the call as it read before'; 0 by the template 'total and deterministic' (their statements: YtnbmfnhbmbalmaaTotals.lean).
  GIVEN WITH THE SEED: the statements are not yours to turn. If you find one false, say at which input.
  Laid BY PROGRAM, IN A SANDBOX (cutbox-rows.mjs): the forced cells as the released guide's own fill.sh prints them over the translation a99972c09dea10a5… (all of the seat's roots in one cut). By AI agents, Wed Nov 11 2026. No macro, syntax, notation, axiom, sorry.
-/
import Derived.Test.YtnbmfnhbmbalmaaChecked
import GoSem.Claim
import GoSem.ClaimJoined
import GoSem.ClaimMapViews
import Derived.JoinedTies
import Derived.KernelRfl
namespace Go.Proofs.Ytnbmfnhbmbalmaa
/- THE CELL 'sum', in the pinned program and in every row, IS THE sha256 OF THE DUMP (.gsa) THAT YtnbmfnhbmbalmaaProg.lean LOADS. Nothing in Lean hashes anything: it is a label: what it is worth is what the hold of that sum in a sandbox is worth. -/
noncomputable def Try.pinned : Pinned := { name := "ytnbmfnhbmbalmaa", sum := "a99972c09dea10a5c5128ccc288f8a83ef010eb104c000658c5844cd215c269f", checked := Try.checked }
namespace Rows
def none {H : Type} : Left H := { results := [], args := [] }

/-- 'laws.FnExactGainsOf': WHATEVER THE INPUT: true; the input reads as it did. -/
def fnExactGainsOfSpec : ChangeSpec := { name := "fnExactGainsOf", fn := fun _ => fun
  | [d1, d2, d3] => { results := [.lit (.bool true)], args := [d1, d2, d3] }
  | _ => none }
def fnExactGainsOfRow : OpenClaim := { program := "ytnbmfnhbmbalmaa", sum := "a99972c09dea10a5c5128ccc288f8a83ef010eb104c000658c5844cd215c269f", func := "loop.example/g01365/laws.FnExactGainsOf", spec := "fnExactGainsOf", inPlace := ["math.Float64bits", "math.Float64frombits"], plainKeys := false, apart := false }
def FnExactGainsOfSaid : Prop := fnExactGainsOfRow.holds Try.pinned (OpenSpec.ofChange fnExactGainsOfSpec)

/-- ITS FALSE NEIGHBOUR: 'it returns false'. Refute it at one input. -/
def fnExactGainsOfWrong : ChangeSpec := { name := "fnExactGainsOf", fn := fun _ => fun
  | [d1, d2, d3] => { results := [.lit (.bool false)], args := [d1, d2, d3] }
  | _ => none }
def FnExactGainsOfWrongFalsely : Prop := fnExactGainsOfRow.holds Try.pinned (OpenSpec.ofChange fnExactGainsOfWrong)

/-- 'laws.FnExactWouldGain': WHATEVER THE INPUT: true; the input reads as it did. -/
def fnExactWouldGainSpec : ChangeSpec := { name := "fnExactWouldGain", fn := fun _ => fun
  | [d1, d2, d3] => { results := [.lit (.bool true)], args := [d1, d2, d3] }
  | _ => none }
def fnExactWouldGainRow : OpenClaim := { program := "ytnbmfnhbmbalmaa", sum := "a99972c09dea10a5c5128ccc288f8a83ef010eb104c000658c5844cd215c269f", func := "loop.example/g01365/laws.FnExactWouldGain", spec := "fnExactWouldGain", inPlace := ["math.Float64bits", "math.Float64frombits"], unfollowed := true, recurses := true, plainKeys := false, leaving := true, apart := false }
def FnExactWouldGainSaid : Prop := fnExactWouldGainRow.holds Try.pinned (OpenSpec.ofChange fnExactWouldGainSpec)

/-- ITS FALSE NEIGHBOUR: 'it returns false'. Refute it at one input. -/
def fnExactWouldGainWrong : ChangeSpec := { name := "fnExactWouldGain", fn := fun _ => fun
  | [d1, d2, d3] => { results := [.lit (.bool false)], args := [d1, d2, d3] }
  | _ => none }
def FnExactWouldGainWrongFalsely : Prop := fnExactWouldGainRow.holds Try.pinned (OpenSpec.ofChange fnExactWouldGainWrong)

/-- 'laws.FnExactValidPlayer': WHATEVER THE INPUT: true; the input reads as it did. -/
def fnExactValidPlayerSpec : ChangeSpec := { name := "fnExactValidPlayer", fn := fun _ => fun
  | [d1, d2, d3] => { results := [.lit (.bool true)], args := [d1, d2, d3] }
  | _ => none }
def fnExactValidPlayerRow : OpenClaim := { program := "ytnbmfnhbmbalmaa", sum := "a99972c09dea10a5c5128ccc288f8a83ef010eb104c000658c5844cd215c269f", func := "loop.example/g01365/laws.FnExactValidPlayer", spec := "fnExactValidPlayer", plainKeys := false, apart := false }
def FnExactValidPlayerSaid : Prop := fnExactValidPlayerRow.holds Try.pinned (OpenSpec.ofChange fnExactValidPlayerSpec)

/-- ITS FALSE NEIGHBOUR: 'it returns false'. Refute it at one input. -/
def fnExactValidPlayerWrong : ChangeSpec := { name := "fnExactValidPlayer", fn := fun _ => fun
  | [d1, d2, d3] => { results := [.lit (.bool false)], args := [d1, d2, d3] }
  | _ => none }
def FnExactValidPlayerWrongFalsely : Prop := fnExactValidPlayerRow.holds Try.pinned (OpenSpec.ofChange fnExactValidPlayerWrong)

/-- 'laws.FnExactPlayMachines': WHATEVER THE INPUT: true; the input reads as it did. -/
def fnExactPlayMachinesSpec : ChangeSpec := { name := "fnExactPlayMachines", fn := fun _ => fun
  | [d1, d2, d3, d4] => { results := [.lit (.bool true)], args := [d1, d2, d3, d4] }
  | _ => none }
def fnExactPlayMachinesRow : OpenClaim := { program := "ytnbmfnhbmbalmaa", sum := "a99972c09dea10a5c5128ccc288f8a83ef010eb104c000658c5844cd215c269f", func := "loop.example/g01365/laws.FnExactPlayMachines", spec := "fnExactPlayMachines", plainKeys := false, apart := false }
def FnExactPlayMachinesSaid : Prop := fnExactPlayMachinesRow.holds Try.pinned (OpenSpec.ofChange fnExactPlayMachinesSpec)

/-- ITS FALSE NEIGHBOUR: 'it returns false'. Refute it at one input. -/
def fnExactPlayMachinesWrong : ChangeSpec := { name := "fnExactPlayMachines", fn := fun _ => fun
  | [d1, d2, d3, d4] => { results := [.lit (.bool false)], args := [d1, d2, d3, d4] }
  | _ => none }
def FnExactPlayMachinesWrongFalsely : Prop := fnExactPlayMachinesRow.holds Try.pinned (OpenSpec.ofChange fnExactPlayMachinesWrong)

/-- 'laws.FnExactRoundOf': WHATEVER THE INPUT: true; the input reads as it did. -/
def fnExactRoundOfSpec : ChangeSpec := { name := "fnExactRoundOf", fn := fun _ => fun
  | [d1, d2, d3] => { results := [.lit (.bool true)], args := [d1, d2, d3] }
  | _ => none }
def fnExactRoundOfRow : OpenClaim := { program := "ytnbmfnhbmbalmaa", sum := "a99972c09dea10a5c5128ccc288f8a83ef010eb104c000658c5844cd215c269f", func := "loop.example/g01365/laws.FnExactRoundOf", spec := "fnExactRoundOf", plainKeys := false, apart := false }
def FnExactRoundOfSaid : Prop := fnExactRoundOfRow.holds Try.pinned (OpenSpec.ofChange fnExactRoundOfSpec)

/-- ITS FALSE NEIGHBOUR: 'it returns false'. Refute it at one input. -/
def fnExactRoundOfWrong : ChangeSpec := { name := "fnExactRoundOf", fn := fun _ => fun
  | [d1, d2, d3] => { results := [.lit (.bool false)], args := [d1, d2, d3] }
  | _ => none }
def FnExactRoundOfWrongFalsely : Prop := fnExactRoundOfRow.holds Try.pinned (OpenSpec.ofChange fnExactRoundOfWrong)

/-- 'laws.FnExactMeanGains': WHATEVER THE INPUT: true; the input reads as it did. -/
def fnExactMeanGainsSpec : ChangeSpec := { name := "fnExactMeanGains", fn := fun _ => fun
  | [d1, d2, d3] => { results := [.lit (.bool true)], args := [d1, d2, d3] }
  | _ => none }
def fnExactMeanGainsRow : OpenClaim := { program := "ytnbmfnhbmbalmaa", sum := "a99972c09dea10a5c5128ccc288f8a83ef010eb104c000658c5844cd215c269f", func := "loop.example/g01365/laws.FnExactMeanGains", spec := "fnExactMeanGains", plainKeys := false, apart := false }
def FnExactMeanGainsSaid : Prop := fnExactMeanGainsRow.holds Try.pinned (OpenSpec.ofChange fnExactMeanGainsSpec)

/-- ITS FALSE NEIGHBOUR: 'it returns false'. Refute it at one input. -/
def fnExactMeanGainsWrong : ChangeSpec := { name := "fnExactMeanGains", fn := fun _ => fun
  | [d1, d2, d3] => { results := [.lit (.bool false)], args := [d1, d2, d3] }
  | _ => none }
def FnExactMeanGainsWrongFalsely : Prop := fnExactMeanGainsRow.holds Try.pinned (OpenSpec.ofChange fnExactMeanGainsWrong)

/-- 'laws.FnExactLearnRows': WHATEVER THE INPUT: true; the input reads as it did. -/
def fnExactLearnRowsSpec : ChangeSpec := { name := "fnExactLearnRows", fn := fun _ => fun
  | [d1, d2] => { results := [.lit (.bool true)], args := [d1, d2] }
  | _ => none }
def fnExactLearnRowsRow : OpenClaim := { program := "ytnbmfnhbmbalmaa", sum := "a99972c09dea10a5c5128ccc288f8a83ef010eb104c000658c5844cd215c269f", func := "loop.example/g01365/laws.FnExactLearnRows", spec := "fnExactLearnRows", unfollowed := true, recurses := true, plainKeys := false, leaving := true, apart := false }
def FnExactLearnRowsSaid : Prop := fnExactLearnRowsRow.holds Try.pinned (OpenSpec.ofChange fnExactLearnRowsSpec)

/-- ITS FALSE NEIGHBOUR: 'it returns false'. Refute it at one input. -/
def fnExactLearnRowsWrong : ChangeSpec := { name := "fnExactLearnRows", fn := fun _ => fun
  | [d1, d2] => { results := [.lit (.bool false)], args := [d1, d2] }
  | _ => none }
def FnExactLearnRowsWrongFalsely : Prop := fnExactLearnRowsRow.holds Try.pinned (OpenSpec.ofChange fnExactLearnRowsWrong)

/-- 'laws.FnExactGamesShared': WHATEVER THE INPUT: true; the input reads as it did. -/
def fnExactGamesSharedSpec : ChangeSpec := { name := "fnExactGamesShared", fn := fun _ => fun
  | [d1, d2] => { results := [.lit (.bool true)], args := [d1, d2] }
  | _ => none }
def fnExactGamesSharedRow : OpenClaim := { program := "ytnbmfnhbmbalmaa", sum := "a99972c09dea10a5c5128ccc288f8a83ef010eb104c000658c5844cd215c269f", func := "loop.example/g01365/laws.FnExactGamesShared", spec := "fnExactGamesShared", inPlace := ["(*sync.WaitGroup).Add", "internal/race.ReleaseMerge", "internal/race.Disable", "internal/race.Enable", "internal/synctest.IsInBubble", "internal/synctest.Associate[sync.WaitGroup]", "sync.fatal", "sync/atomic.OrUint64", "sync/atomic.AddUint64", "internal/race.Read", "sync/atomic.LoadUint64", "sync/atomic.StoreUint64", "internal/synctest.Disassociate[sync.WaitGroup]", "sync.runtime_Semrelease", "(*sync.WaitGroup).Done", "(*sync.WaitGroup).Wait", "internal/race.Acquire", "internal/synctest.IsAssociated[sync.WaitGroup]", "sync/atomic.CompareAndSwapUint64", "internal/race.Write", "sync.runtime_SemacquireWaitGroup"], unfollowed := true, recurses := true, plainKeys := false, leaving := true, apart := false }
def FnExactGamesSharedSaid : Prop := fnExactGamesSharedRow.holds Try.pinned (OpenSpec.ofChange fnExactGamesSharedSpec)

/-- ITS FALSE NEIGHBOUR: 'it returns false'. Refute it at one input. -/
def fnExactGamesSharedWrong : ChangeSpec := { name := "fnExactGamesShared", fn := fun _ => fun
  | [d1, d2] => { results := [.lit (.bool false)], args := [d1, d2] }
  | _ => none }
def FnExactGamesSharedWrongFalsely : Prop := fnExactGamesSharedRow.holds Try.pinned (OpenSpec.ofChange fnExactGamesSharedWrong)

/- THE SECOND FORM. 'bulk': how many values and letters a reading holds, each counted each time it is reached (what is shared counts as often as it is met; a slice's spare places count too). A statement '..UptoSaid' is the law's where the arguments, and the package variables that the reading takes, are together of bulk at most 1048576: NARROWER than '..Said'. Prove '..Said' where nothing that the law and all that it calls make is longer than what came in: it says more and counts as full. Else prove '..UptoSaid'. A law counts once. -/
mutual
def uptoBulk {H : Type} : DataW H → Nat
  | .lit (.string bytes) => bytes.length + 1
  | .lit _ => 1
  | .nil => 1
  | .ptr d => uptoBulk d + 1
  | .slice elems spare => uptoBulkAll elems + uptoBulkAll spare + 1
  | .agg parts => uptoBulkAll parts + 1
  | .iface _ d => uptoBulk d + 1
  | .map entries => uptoBulkEntries entries + 1
  | .held _ => 1
def uptoBulkAll {H : Type} : List (DataW H) → Nat
  | [] => 0
  | d :: r => uptoBulk d + uptoBulkAll r
def uptoBulkEntries {H : Type} : List (Lit × DataW H) → Nat
  | [] => 0
  | x :: r => uptoBulkEntry x + uptoBulkEntries r
def uptoBulkEntry {H : Type} : Lit × DataW H → Nat
  | (.string bytes, d) => bytes.length + uptoBulk d + 1
  | (_, d) => uptoBulk d + 1
 end
def uptoSmall : (H : Type) → List (DataW H) → Bool := fun _ ds => decide (uptoBulkAll ds ≤ 1048576)
def OpenSpec.upto (s : _root_.Go.ChangeSpec) : _root_.Go.OpenSpec := { _root_.Go.OpenSpec.ofChange s with cond := some uptoSmall }

/-- 'laws.FnExactGainsOf', WHERE WHAT IT READS IS OF BULK AT MOST 1048576: true; the input reads as it did. -/
def fnExactGainsOfUptoRow : OpenClaim := { program := "ytnbmfnhbmbalmaa", sum := "a99972c09dea10a5c5128ccc288f8a83ef010eb104c000658c5844cd215c269f", func := "loop.example/g01365/laws.FnExactGainsOf", spec := "fnExactGainsOf", inPlace := ["math.Float64bits", "math.Float64frombits"], plainKeys := false, apart := false, narrowed := true }
def FnExactGainsOfUptoSaid : Prop := fnExactGainsOfUptoRow.holds Try.pinned (OpenSpec.upto fnExactGainsOfSpec)

/-- 'laws.FnExactWouldGain', WHERE WHAT IT READS IS OF BULK AT MOST 1048576: true; the input reads as it did. -/
def fnExactWouldGainUptoRow : OpenClaim := { program := "ytnbmfnhbmbalmaa", sum := "a99972c09dea10a5c5128ccc288f8a83ef010eb104c000658c5844cd215c269f", func := "loop.example/g01365/laws.FnExactWouldGain", spec := "fnExactWouldGain", inPlace := ["math.Float64bits", "math.Float64frombits"], unfollowed := true, recurses := true, plainKeys := false, leaving := true, apart := false, narrowed := true }
def FnExactWouldGainUptoSaid : Prop := fnExactWouldGainUptoRow.holds Try.pinned (OpenSpec.upto fnExactWouldGainSpec)

/-- 'laws.FnExactValidPlayer', WHERE WHAT IT READS IS OF BULK AT MOST 1048576: true; the input reads as it did. -/
def fnExactValidPlayerUptoRow : OpenClaim := { program := "ytnbmfnhbmbalmaa", sum := "a99972c09dea10a5c5128ccc288f8a83ef010eb104c000658c5844cd215c269f", func := "loop.example/g01365/laws.FnExactValidPlayer", spec := "fnExactValidPlayer", plainKeys := false, apart := false, narrowed := true }
def FnExactValidPlayerUptoSaid : Prop := fnExactValidPlayerUptoRow.holds Try.pinned (OpenSpec.upto fnExactValidPlayerSpec)

/-- 'laws.FnExactPlayMachines', WHERE WHAT IT READS IS OF BULK AT MOST 1048576: true; the input reads as it did. -/
def fnExactPlayMachinesUptoRow : OpenClaim := { program := "ytnbmfnhbmbalmaa", sum := "a99972c09dea10a5c5128ccc288f8a83ef010eb104c000658c5844cd215c269f", func := "loop.example/g01365/laws.FnExactPlayMachines", spec := "fnExactPlayMachines", plainKeys := false, apart := false, narrowed := true }
def FnExactPlayMachinesUptoSaid : Prop := fnExactPlayMachinesUptoRow.holds Try.pinned (OpenSpec.upto fnExactPlayMachinesSpec)

/-- 'laws.FnExactRoundOf', WHERE WHAT IT READS IS OF BULK AT MOST 1048576: true; the input reads as it did. -/
def fnExactRoundOfUptoRow : OpenClaim := { program := "ytnbmfnhbmbalmaa", sum := "a99972c09dea10a5c5128ccc288f8a83ef010eb104c000658c5844cd215c269f", func := "loop.example/g01365/laws.FnExactRoundOf", spec := "fnExactRoundOf", plainKeys := false, apart := false, narrowed := true }
def FnExactRoundOfUptoSaid : Prop := fnExactRoundOfUptoRow.holds Try.pinned (OpenSpec.upto fnExactRoundOfSpec)

/-- 'laws.FnExactMeanGains', WHERE WHAT IT READS IS OF BULK AT MOST 1048576: true; the input reads as it did. -/
def fnExactMeanGainsUptoRow : OpenClaim := { program := "ytnbmfnhbmbalmaa", sum := "a99972c09dea10a5c5128ccc288f8a83ef010eb104c000658c5844cd215c269f", func := "loop.example/g01365/laws.FnExactMeanGains", spec := "fnExactMeanGains", plainKeys := false, apart := false, narrowed := true }
def FnExactMeanGainsUptoSaid : Prop := fnExactMeanGainsUptoRow.holds Try.pinned (OpenSpec.upto fnExactMeanGainsSpec)

/-- 'laws.FnExactLearnRows', WHERE WHAT IT READS IS OF BULK AT MOST 1048576: true; the input reads as it did. -/
def fnExactLearnRowsUptoRow : OpenClaim := { program := "ytnbmfnhbmbalmaa", sum := "a99972c09dea10a5c5128ccc288f8a83ef010eb104c000658c5844cd215c269f", func := "loop.example/g01365/laws.FnExactLearnRows", spec := "fnExactLearnRows", unfollowed := true, recurses := true, plainKeys := false, leaving := true, apart := false, narrowed := true }
def FnExactLearnRowsUptoSaid : Prop := fnExactLearnRowsUptoRow.holds Try.pinned (OpenSpec.upto fnExactLearnRowsSpec)

/-- 'laws.FnExactGamesShared', WHERE WHAT IT READS IS OF BULK AT MOST 1048576: true; the input reads as it did. -/
def fnExactGamesSharedUptoRow : OpenClaim := { program := "ytnbmfnhbmbalmaa", sum := "a99972c09dea10a5c5128ccc288f8a83ef010eb104c000658c5844cd215c269f", func := "loop.example/g01365/laws.FnExactGamesShared", spec := "fnExactGamesShared", inPlace := ["(*sync.WaitGroup).Add", "internal/race.ReleaseMerge", "internal/race.Disable", "internal/race.Enable", "internal/synctest.IsInBubble", "internal/synctest.Associate[sync.WaitGroup]", "sync.fatal", "sync/atomic.OrUint64", "sync/atomic.AddUint64", "internal/race.Read", "sync/atomic.LoadUint64", "sync/atomic.StoreUint64", "internal/synctest.Disassociate[sync.WaitGroup]", "sync.runtime_Semrelease", "(*sync.WaitGroup).Done", "(*sync.WaitGroup).Wait", "internal/race.Acquire", "internal/synctest.IsAssociated[sync.WaitGroup]", "sync/atomic.CompareAndSwapUint64", "internal/race.Write", "sync.runtime_SemacquireWaitGroup"], unfollowed := true, recurses := true, plainKeys := false, leaving := true, apart := false, narrowed := true }
def FnExactGamesSharedUptoSaid : Prop := fnExactGamesSharedUptoRow.holds Try.pinned (OpenSpec.upto fnExactGamesSharedSpec)

end Rows
end Go.Proofs.Ytnbmfnhbmbalmaa
