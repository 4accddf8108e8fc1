/-
  The laws' own functions on games, as lawgen2.py calls them.
-/
import Derived.Test.YtnmehenkbinfmaaGGame
namespace Go.Proofs.Ytnmehenkbinfmaa
open Go.RowKit Go.ChangeShapes Go.WideShapes
set_option linter.unusedVariables false

theorem szGameT_any (r c : Int) (a1 : Option Addr) (l1 c1 : Nat) (a2 : Option Addr) (l2 c2 : Nat) (A B : List Int) (left : Int) (h0 : 0 ≤ left) (hl : left ≤ 1048576) (w : World) (hA : IAt w a1 l1 A) (hB : IAt w a2 l2 B) :
    Calls Try.prog 22 #[gameV r c a1 l1 c1 a2 l2 c2, .int .i64 left] w fun e w' => e = .returned (.int .i64 (leftOf left (l1 + l2))) ∧ Below w.heap.size w w' := by
  refine (szGame_any r c a1 l1 c1 a2 l2 c2 left h0 hl hA.2.1 hB.2.1 w).mono ?_
  rintro e w' ⟨rfl, hb⟩
  refine ⟨?_, hb⟩
  unfold sizeOfGame
  by_cases h : (l1 : Int) + l2 ≤ left
  · rw [if_pos h, leftOf_yes (by omega)]
    congr 2
    omega
  · rw [if_neg h, leftOf_no (by omega)]
end Go.Proofs.Ytnmehenkbinfmaa
