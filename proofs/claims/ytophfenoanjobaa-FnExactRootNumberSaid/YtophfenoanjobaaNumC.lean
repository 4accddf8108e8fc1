/-
  Small facts that all walks of the numbers' laws use.
-/
import Derived.Test.YtophfenoanjobaaNumB
namespace Go.Proofs.Ytophfenoanjobaa
open Go.RowKit Fl
theorem lt_of_wf32 {x : Nat} (h : (Lit.float .f32 x).wf = true) : x < 4294967296 := by
  simp [Lit.wf] at h; exact h
theorem lt_of_wf64 {x : Nat} (h : (Lit.float .f64 x).wf = true) : x < 18446744073709551616 := by
  simp [Lit.wf] at h; exact h
theorem below_drewn (w : World) (n : Nat) : Below w.heap.size w (w.drewN n) := ⟨rfl, rfl, rfl, Nat.le_refl _, fun _ _ => rfl⟩

theorem walk_fnExactSameNumber (a0 a1 : Nat) (w : World) (w0 : (Lit.float .f32 a0).wf = true) (w1 : (Lit.float .f32 a1).wf = true) :
    Calls Try.prog 3 #[.float .f32 a0, .float .f32 a1] w fun e w' => e = .returned (.bool true) ∧ Below w.heap.size w w' := by
  have h0 := lt_of_wf32 w0
  have h1 := lt_of_wf32 w1
  go_enter Try.func3, Try.ntmps3
  go_wp2_with (first | (go_at_call 28; refine (l01Same_any _ _ h0 h1 _).mono ?_; rintro e w' ⟨rfl, rfl⟩) | (go_at_call 12; refine (sameNumber_any _ _ h0 h1 _).mono ?_; rintro e w' ⟨rfl, n, rfl⟩) | (go_at_call 11; go_in))
  go_ret
  exact ⟨rfl, below_drewn _ _⟩

theorem walk_fnExactBitsOf (a0 : Nat) (w : World) (w0 : (Lit.float .f32 a0).wf = true) :
    Calls Try.prog 5 #[.float .f32 a0] w fun e w' => e = .returned (.bool true) ∧ Below w.heap.size w w' := by
  have h0 := lt_of_wf32 w0
  go_enter Try.func5, Try.ntmps5
  go_wp2_with (first | (go_at_call 31; refine (l01Bits_any _ h0 _).mono ?_; rintro e w' ⟨rfl, rfl⟩) | (go_at_call 16; refine (bitsOf_any _ h0 _).mono ?_; rintro e w' ⟨rfl, n, rfl⟩) | (go_at_call 15; go_in))
  go_ret
  exact ⟨rfl, below_drewn _ _⟩
end Go.Proofs.Ytophfenoanjobaa
