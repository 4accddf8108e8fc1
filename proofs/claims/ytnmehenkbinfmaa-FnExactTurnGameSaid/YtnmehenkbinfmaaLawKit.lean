/-
  What the laws' walks share.
-/
import Derived.Test.YtnmehenkbinfmaaExt
import Derived.Test.YtnmehenkbinfmaaOut
import Derived.Deep.RegionHeld3
namespace Go.Proofs.Ytnmehenkbinfmaa
open Go.RowKit

theorem eqB_any (a a' : Option Addr) (len cap cap' : Nat) (zs : List Int) (w : World) (h : IAt w a len zs) (h' : IAt w a' len zs) :
    Calls Try.prog 32 #[.slice a len cap, .slice a' len cap'] w fun e w' => e = .returned (.bool true) ∧ Below w.heap.size w w' :=
  (eq_any a a' len cap cap' zs w h h').mono fun _ _ ⟨h1, h2⟩ => ⟨h1, same_below h2 _⟩
theorem heldB_any (a : Option Addr) (len cap : Nat) (k0 : Int) (w : World) (hk0 : 0 ≤ k0) (hk1 : k0 + len ≤ 4194304) (h : IAt w a len (markL k0 len)) :
    Calls Try.prog 44 #[.slice a len cap, .int .i64 k0] w fun e w' => e = .returned (.int .i64 (k0 + len)) ∧ Below w.heap.size w w' :=
  (held_any a len cap k0 w hk0 hk1 h).mono fun _ _ ⟨h1, h2⟩ => ⟨h1, same_below h2 _⟩
end Go.Proofs.Ytnmehenkbinfmaa
