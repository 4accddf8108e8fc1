/-
  Closed facts of the whole program that the kernel would reckon with too much memory where the head names many functions: by its letters, once.
-/
import Derived.Test.YtnmehenkbinfmaaHead
namespace Go.Proofs.Ytnmehenkbinfmaa

theorem cut_of_head {l : List (List Char)} (h : (l.head? == some "cut".toList) = true) : ∃ rest, l = "cut".toList :: rest := by
  cases l with
  | nil => exact absurd h (by decide)
  | cons a r =>
    have : a = "cut".toList := by simpa using h
    exact ⟨r, by rw [this]⟩

theorem make_of {P : Program} {rest : List (List Char)} (h : behindMainWord (wordsSigns P.initOrder.toList) = "cut".toList :: rest) : P.make = some .cut := by
  unfold Program.make
  rw [h]
  rfl

theorem strip_cut (rest : List (List Char)) : stripLifts liftWords ("cut".toList :: rest) = ([], "cut".toList :: rest) := by
  rfl

theorem mayEnter_of {P : Program} {rest : List (List Char)} (h : behindMainWord (wordsSigns P.initOrder.toList) = "cut".toList :: rest) (h1 : P.laysLater = false) (h2 : P.bearsReflect = false) (h3 : P.doorFits [] = true) : P.mayEnter = true := by
  unfold Program.mayEnter
  rw [h]
  simp only [strip_cut, h1, h2, h3]
  rfl

theorem lifts_of {P : Program} {rest : List (List Char)} (h : behindMainWord (wordsSigns P.initOrder.toList) = "cut".toList :: rest) : P.liftsFinal = false := by
  unfold Program.liftsFinal Program.headLifts
  rw [h]
  simp only [strip_cut]
  rfl

theorem head_cut : ((behindMainWord (wordsSigns Try.prog.initOrder.toList)).head? == some "cut".toList) = true := by
  rw [head_letters]
  kernel_rfl
theorem make_ok : Try.prog.make = some .cut := (cut_of_head head_cut).elim fun _ h => make_of h
theorem lifts_ok : Try.prog.liftsFinal = false := (cut_of_head head_cut).elim fun _ h => lifts_of h
theorem mayEnter_ok : Try.prog.mayEnter = true := (cut_of_head head_cut).elim fun _ h => mayEnter_of h (by kernel_rfl) (by kernel_rfl) (by kernel_rfl)
end Go.Proofs.Ytnmehenkbinfmaa
