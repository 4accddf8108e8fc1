/-
  Orders: lists of all numbers below a bound (8 at most), each once: the program's look.
-/
import Derived.Test.YtkgjfockechniaaDiff
namespace Go.Proofs.Ytkgjfockechniaa
open Go.RowKit Go.ChangeShapes Go.WideShapes
set_option linter.unusedVariables false

set_option maxRecDepth 20000 in
theorem isOrder_any (a : Option Addr) (len cap P : Nat) (O : List Int) (w : World) (hP : P ≤ 8) (h : IAt w a len O) :
    Calls Try.prog 111 #[.slice a len cap, .int .i64 (P : Nat)] w fun e w' => e = .returned (.bool (okOrder P O)) ∧ w = w' := by
  have HC := Lib.hid (areDifferent_any a len cap P O w hP h)
  have hz := h.1
  have hl := h.2.1
  clear h
  unfold maxLen at hl
  by_cases hkP : len = P
  · subst hkP
    have HE : Hid (okOrder len O = okDiff len O) := Lib.hid (by unfold okOrder okDiff; rw [hz, decide_eq_true rfl, Bool.true_and])
    rw [HE.out]
    go_enter Try.func111, Try.ntmps111
    go_wp2_with (go_at_call 140; refine (HC.out).mono ?_; rintro e w' ⟨rfl, rfl⟩)
    go_ret
    exact ⟨rfl, rfl⟩
  · have HE := Lib.hid (okOrder_len (P := P) (O := O) (by omega))
    rw [HE.out]
    have hq : ((len : Int) == (P : Int)) = false := by rw [beq_eq_false_iff_ne]; omega
    clear hkP
    go_enter Try.func111, Try.ntmps111
    go_wp2
    go_ret
    exact ⟨rfl, rfl⟩
end Go.Proofs.Ytkgjfockechniaa
