/-
  The reference: is a game valid?
-/
import Derived.Test.YtnmehenkbinfmaaGValid
namespace Go.Proofs.Ytnmehenkbinfmaa
open Go.RowKit Go.ChangeShapes Go.WideShapes
set_option linter.unusedVariables false

theorem okSide_in (n : Int) : (decide (1 ≤ n) && decide (n ≤ 6)) = okSide n := rfl

set_option maxRecDepth 20000 in
theorem specIs_any (n : Nat) (r c : Int) (a1 : Option Addr) (l1 c1 : Nat) (a2 : Option Addr) (l2 c2 : Nat) (A B : List Int) (w : World) (hx : Box4 w n 27 (.int .i64 r) (.int .i64 c) (.slice a1 l1 c1) (.slice a2 l2 c2)) (hA : IAt w a1 l1 A) (hB : IAt w a2 l2 B) :
    Calls Try.prog 70 #[.pointer (some ⟨n, 0, none⟩)] w fun e w' => e = .returned (.bool (okGame r c A B)) ∧ Same w w' := by
  obtain ⟨⟨p0, p1, p2, p3⟩, _⟩ := hx.all
  have HA := Lib.hid hA
  have HB := Lib.hid hB
  cases s1 : okSide r with
  | true =>
    cases s2 : okSide c with
    | true =>
      have h1 := okSide_true s1
      have h2 := okSide_true s2
      have hp1 : 1 ≤ r * c := by
        have := Int.mul_le_mul h1.1 h2.1 (by omega) (by omega); omega
      have hp2 : r * c ≤ 36 := by
        have := Int.mul_le_mul h1.2 h2.2 (by omega) (by omega); omega
      have S1 := Lib.hid s1
      have S2 := Lib.hid s2
      have HE := Lib.hid (okGame_sides (A := A) (B := B) s1 s2)
      rw [hA.1, hB.1] at HE
      clear s1 s2 hA hB h1 h2 hx
      cases ga : (okGains A && decide ((l1 : Int) = r * c)) with
      | true =>
        have GA := Lib.hid ga
        clear ga
        go_enter Try.func70, Try.ntmps70
        go_wp2_with (go_at_call 79; refine (in_any _ _ _ _).mono ?_; rintro e w' ⟨rfl, rfl⟩; rw [okSide_in]; first | rw [S1.out] | rw [S2.out])
        go_quiet (first
          | (go_at_call_of 108 (Value.slice a1 l1 c1); refine (gains_any _ _ _ A _ _ (HA.out.below (same_below ⟨_, rfl⟩ _))).mono ?_; rintro e w2 ⟨rfl, h2⟩; rw [GA.out]; exact ⟨rfl, _, h2.symm⟩)
          | (go_at_call_of 108 (Value.slice a2 l2 c2); refine (gains_any _ _ _ B _ _ (HB.out.below (same_below ⟨_, rfl⟩ _))).mono ?_; rintro e w2 ⟨rfl, h2⟩; exact ⟨rfl, _, h2.symm⟩))
        go_wp2
        go_ret
        exact ⟨by rw [HE.out, GA.out, Bool.true_and]; rfl, nq, rfl⟩
      | false =>
        have GA := Lib.hid ga
        clear ga
        go_enter Try.func70, Try.ntmps70
        go_wp2_with (go_at_call 79; refine (in_any _ _ _ _).mono ?_; rintro e w' ⟨rfl, rfl⟩; rw [okSide_in]; first | rw [S1.out] | rw [S2.out])
        go_quiet (first
          | (go_at_call_of 108 (Value.slice a1 l1 c1); refine (gains_any _ _ _ A _ _ (HA.out.below (same_below ⟨_, rfl⟩ _))).mono ?_; rintro e w2 ⟨rfl, h2⟩; rw [GA.out]; exact ⟨rfl, _, h2.symm⟩))
        go_wp2
        go_ret
        exact ⟨by rw [HE.out, GA.out, Bool.false_and]; rfl, nq, rfl⟩
    | false =>
      have S1 := Lib.hid s1
      have S2 := Lib.hid s2
      clear s1 s2
      go_enter Try.func70, Try.ntmps70
      go_wp2_with (go_at_call 79; refine (in_any _ _ _ _).mono ?_; rintro e w' ⟨rfl, rfl⟩; rw [okSide_in]; first | rw [S1.out] | rw [S2.out])
      go_ret
      exact ⟨by rw [okGame_col S2.out]; rfl, 0, rfl⟩
  | false =>
    have S1 := Lib.hid s1
    clear s1
    go_enter Try.func70, Try.ntmps70
    go_wp2_with (go_at_call 79; refine (in_any _ _ _ _).mono ?_; rintro e w' ⟨rfl, rfl⟩; rw [okSide_in]; rw [S1.out])
    go_ret
    exact ⟨by rw [okGame_row S1.out]; rfl, 0, rfl⟩

theorem specValid_any (r c : Int) (a1 : Option Addr) (l1 c1 : Nat) (a2 : Option Addr) (l2 c2 : Nat) (A B : List Int) (w : World) (hA : IAt w a1 l1 A) (hB : IAt w a2 l2 B) :
    Calls Try.prog 23 #[gameV r c a1 l1 c1 a2 l2 c2] w fun e w' => e = .returned (.bool (okGame r c A B)) ∧ Below w.heap.size w w' := by
  have HA := Lib.hid hA
  have HB := Lib.hid hB
  clear hA hB
  go_enter Try.func23, Try.ntmps23
  go_wp2_with fail
  refine (specIs_any w.heap.size r c a1 l1 c1 a2 l2 c2 A B _ heap1 (HA.out.below below1) (HB.out.below below1)).mono ?_
  rintro e w' ⟨rfl, n, rfl⟩
  go_wp2_with fail
  go_ret
  exact ⟨rfl, below1.trans (same_below ⟨n, rfl⟩ _)⟩
end Go.Proofs.Ytnmehenkbinfmaa
