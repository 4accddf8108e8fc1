/-
  The program's orders: is a list one, and what each player brings.
-/
import Derived.Test.YtnlknofcdapalaaWOrderP
import Derived.Test.YtnlknofcdapalaaIsOrd
import Derived.Deep.RegionWith
namespace Go.Proofs.Ytnlknofcdapalaa
open Go.RowKit
set_option linter.unusedVariables false

theorem setOfN_any (i : Nat) (h : i ≤ 6) (w : World) :
    Calls Try.prog 60 #[.int .i64 (i : Nat)] w fun e w' => e = .returned (.int .i64 (2 ^ i : Nat)) ∧ w = w' := setOf_any i _ h (by simp) w

theorem isIn_any (i s : Nat) (hi : i < 6) (hs : s < 64) (w : World) :
    Calls Try.prog 84 #[.int .i64 (i : Nat), .int .i64 (s : Nat)] w fun e w' => e = .returned (.bool (s.testBit i)) ∧ w = w' := by
  have E := Lib.hid (in_bits2 hs hi)
  go_enter Try.func84, Try.ntmps84
  go_wp2_with (go_at_call 60; refine (setOfN_any i (by omega) _).mono ?_; rintro e w' ⟨rfl, rfl⟩)
  go_ret
  exact ⟨by rw [← E.out]; rfl, rfl⟩

end Go.Proofs.Ytnlknofcdapalaa
