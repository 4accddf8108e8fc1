/-
  What functions hand back: numbers, bools, lists in rows of the call's own.
-/
import Derived.Test.YtnmehenkbinfmaaInts
namespace Go.Proofs.Ytnmehenkbinfmaa
open Go.RowKit Go.ChangeShapes Go.WideShapes

/-- a list in a row of the call's own, and whether it is told -/
def PairOut (w : World) (x : List Int × Bool) (e : Ending) (w' : World) : Prop :=
  ∃ a len cap, e = .returned (.tuple #[.slice a len cap, .bool x.2]) ∧ Own w' w.heap.size w'.heap.size a len cap x.1 ∧ Below w.heap.size w w'
/-- two numbers, and whether they are told -/
def TripOut (w : World) (x : Int × Int × Bool) (e : Ending) (w' : World) : Prop :=
  e = .returned (.tuple #[.int .i64 x.1, .int .i64 x.2.1, .bool x.2.2]) ∧ Below w.heap.size w w'
/-- an answer of yes or no, and whether it is told -/
def TwoOut (w : World) (x : Bool × Bool) (e : Ending) (w' : World) : Prop :=
  e = .returned (.tuple #[.bool x.1, .bool x.2]) ∧ Below w.heap.size w w'
/-- a number, and whether it is told -/
def NumOut (w : World) (x : Int × Bool) (e : Ending) (w' : World) : Prop :=
  e = .returned (.tuple #[.int .i64 x.1, .bool x.2]) ∧ Below w.heap.size w w'
/-- a list in a row of the call's own, a number, and whether they are told -/
def ListNumOut (w : World) (x : List Int × Int × Bool) (e : Ending) (w' : World) : Prop :=
  ∃ a len cap, e = .returned (.tuple #[.slice a len cap, .int .i64 x.2.1, .bool x.2.2]) ∧ Own w' w.heap.size w'.heap.size a len cap x.1 ∧ Below w.heap.size w w'
/-- yes or no -/
def BoolOut (w : World) (x : Bool) (e : Ending) (w' : World) : Prop := e = .returned (.bool x) ∧ Below w.heap.size w w'

theorem own_nil (w : World) {lo hi : Nat} (h : hi ≤ w.heap.size) : Own w lo hi none 0 0 [] := ⟨rfl, by simp, h, (fun x hx => by cases hx), World.ownsRow_nil _ _ _ _⟩
end Go.Proofs.Ytnmehenkbinfmaa
