/-
  Are values valid? The program's answer and the reference's.
-/
import Derived.Test.YtkgjfockechniaaTRows
import Derived.Test.YtkgjfockechniaaSValues
namespace Go.Proofs.Ytkgjfockechniaa
open Go.RowKit Go.ChangeShapes Go.WideShapes
set_option linter.unusedVariables false

def okV (p t : Int) (A : List Int) : Bool := okRows 8 p t A

theorem implValidV_any (p t : Int) (a1 : Option Addr) (l1 c1 : Nat) (A : List Int) (w : World) (hA : IAt w a1 l1 A) :
    Calls Try.prog 22 #[valuesV p t a1 l1 c1] w (BoolOut w (okV p t A)) := by
  have HA := Lib.hid hA
  clear hA
  go_enter Try.func22, Try.ntmps22
  go_wp2_with fail
  refine (areRows_any _ _ _ _ _ _ A _ (by omega) (HA.out.below below1)).mono ?_
  rintro e w' ⟨rfl, rfl⟩
  go_wp2_with fail
  go_ret
  exact ⟨rfl, below1⟩

theorem specIsV_any (m : Nat) (p t : Int) (a1 : Option Addr) (l1 c1 : Nat) (A : List Int) (w : World) (hx : Box3 w m 27 (.int .i64 p) (.int .i64 t) (.slice a1 l1 c1)) (hA : IAt w a1 l1 A) :
    Calls Try.prog 60 #[.pointer (some ⟨m, 0, none⟩)] w fun e w' => e = .returned (.bool (okV p t A)) ∧ Same w w' := by
  obtain ⟨⟨p0, p1, p2⟩, _⟩ := hx.all
  have HA := Lib.hid hA
  clear hA hx
  unfold okV
  cases s1 : inB 1 6 p with
  | false =>
    have S1 := Lib.hid s1
    have E := Lib.hid (okRows_p (m := 8) (t := t) (A := A) s1)
    clear s1
    rw [E.out]
    go_enter Try.func60, Try.ntmps60
    go_wp2_with fail
    go_quiet ((go_at_call 83; refine (inR_any _ _ _ _).mono ?_; rintro e w2 ⟨rfl, h2⟩; rw [S1.out]; exact ⟨rfl, _, h2.symm⟩))
    go_wp2
    go_ret
    exact ⟨rfl, nq, rfl⟩
  | true =>
    cases s2 : inB 1 8 t with
    | false =>
      have S1 := Lib.hid s1
      have S2 := Lib.hid s2
      have E := Lib.hid (okRows_t (p := p) (A := A) s2)
      clear s1 s2
      rw [E.out]
      go_enter Try.func60, Try.ntmps60
      go_wp2_with fail
      go_quiet ((go_at_call 83; refine (inR_any _ _ _ _).mono ?_; rintro e w2 ⟨rfl, h2⟩; (first | rw [S1.out] | rw [S2.out]); exact ⟨rfl, _, h2.symm⟩))
      go_wp2
      go_ret
      exact ⟨rfl, nq, rfl⟩
    | true =>
      obtain ⟨q0, q1⟩ := prod_in s1 s2 (by omega)
      have hw : IntKind.i64.wrap (p * t) = p * t := IntWalk.i64_in _ (by omega)
      have E := Lib.hid (okRows_in (A := A) s1 s2)
      have S1 := Lib.hid s1
      have S2 := Lib.hid s2
      have HW := Lib.hid hw
      clear s1 s2 hw q0 q1
      rw [E.out]
      go_enter Try.func60, Try.ntmps60
      go_wp2_with fail
      go_quiet (first
        | (go_at_call 83; refine (inR_any _ _ _ _).mono ?_; rintro e w2 ⟨rfl, h2⟩; (first | rw [S1.out] | rw [S2.out]); exact ⟨rfl, _, h2.symm⟩)
        | (go_at_call 99; refine (worths04_any _ _ _ A _ _ (HA.out.below (same_below ⟨_, rfl⟩ _))).mono ?_; rintro e w2 ⟨rfl, h2⟩; rw [HW.out]; exact ⟨rfl, _, h2.symm⟩))
      go_wp2
      go_ret
      exact ⟨rfl, nq, rfl⟩

theorem specValidV_any (p t : Int) (a1 : Option Addr) (l1 c1 : Nat) (A : List Int) (w : World) (hA : IAt w a1 l1 A) :
    Calls Try.prog 20 #[valuesV p t a1 l1 c1] w (BoolOut w (okV p t A)) := by
  have HA := Lib.hid hA
  clear hA
  go_enter Try.func20, Try.ntmps20
  go_wp2_with fail
  refine (specIsV_any w.heap.size p t a1 l1 c1 A _ heap1 (HA.out.below below1)).mono ?_
  rintro e w' ⟨rfl, n, rfl⟩
  go_wp2_with fail
  go_ret
  exact ⟨rfl, below1.trans (same_below ⟨n, rfl⟩ _)⟩
end Go.Proofs.Ytkgjfockechniaa
