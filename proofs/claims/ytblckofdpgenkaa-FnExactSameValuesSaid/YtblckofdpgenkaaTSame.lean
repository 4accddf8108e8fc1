/-
  Are two values the same? The program's answer and the reference's.
-/
import Derived.Test.YtblckofdpgenkaaSlEqE
import Derived.Test.YtblckofdpgenkaaSValues
import Derived.Test.YtblckofdpgenkaaOut
namespace Go.Proofs.Ytblckofdpgenkaa
open Go.RowKit Go.ChangeShapes Go.WideShapes
set_option linter.unusedVariables false

def sameV (p t : Int) (A : List Int) (p' t' : Int) (A' : List Int) : Bool := decide (p = p') && (decide (t = t') && decide (A = A'))

theorem specSamePtrV (m m' : Nat) (p t : Int) (a1 : Option Addr) (l1 c1 : Nat) (A : List Int) (p' t' : Int) (a3 : Option Addr) (l3 c3 : Nat) (A' : List Int) (w : World)
    (hx : Box3 w m 27 (.int .i64 p) (.int .i64 t) (.slice a1 l1 c1)) (hy : Box3 w m' 27 (.int .i64 p') (.int .i64 t') (.slice a3 l3 c3)) (hA : IAt w a1 l1 A) (hA' : IAt w a3 l3 A') :
    Calls Try.prog 62 #[.pointer (some ⟨m, 0, none⟩), .pointer (some ⟨m', 0, none⟩)] w fun e w' => e = .returned (.bool (sameV p t A p' t' A')) ∧ Same w w' := by
  obtain ⟨⟨p0, p1, p2⟩, _⟩ := hx.all
  obtain ⟨⟨q0, q1, q2⟩, _⟩ := hy.all
  have HA := Lib.hid hA
  have HA' := Lib.hid hA'
  clear hA hA' hx hy
  by_cases e1 : p = p'
  · subst e1
    have hp : (p == p) = true := beq_self_eq_true p
    by_cases e2 : t = t'
    · subst e2
      have ht : (t == t) = true := beq_self_eq_true t
      have E : Hid (sameV p t A p t A' = decide (A = A')) := Lib.hid (by simp [sameV])
      go_enter Try.func62, Try.ntmps62
      go_wp2_with fail
      go_quiet ((go_at_call 115; refine (listEq_any _ _ _ _ _ _ A A' _ (HA.out.below (same_below ⟨_, rfl⟩ _)) (HA'.out.below (same_below ⟨_, rfl⟩ _))).mono ?_; rintro e w2 ⟨rfl, k, rfl⟩; exact ⟨rfl, _, World.drewN_drewN _ _ _⟩))
      go_wp2
      go_ret
      exact ⟨by rw [E.out]; rfl, nq, rfl⟩
    · have E : Hid (sameV p t A p t' A' = false) := Lib.hid (by simp [sameV, e2])
      have hq : (t == t') = false := by simpa using e2
      clear e2
      go_enter Try.func62, Try.ntmps62
      go_wp2_with fail
      go_quiet (fail)
      go_wp2
      go_ret
      exact ⟨by rw [E.out]; rfl, nq, rfl⟩
  · have E : Hid (sameV p t A p' t' A' = false) := Lib.hid (by simp [sameV, e1])
    have hq : (p == p') = false := by simpa using e1
    clear e1
    go_enter Try.func62, Try.ntmps62
    go_wp2_with fail
    go_quiet (fail)
    go_wp2
    go_ret
    exact ⟨by rw [E.out]; rfl, nq, rfl⟩

theorem specSameV_any (p t : Int) (a1 : Option Addr) (l1 c1 : Nat) (A : List Int) (p' t' : Int) (a3 : Option Addr) (l3 c3 : Nat) (A' : List Int) (w : World) (hA : IAt w a1 l1 A) (hA' : IAt w a3 l3 A') :
    Calls Try.prog 24 #[valuesV p t a1 l1 c1, valuesV p' t' a3 l3 c3] w (BoolOut w (sameV p t A p' t' A')) := by
  have bw : Below w.heap.size w ((w.alloc (.cells #[.int .i64 p, .int .i64 t, .slice a1 l1 c1] 27)).alloc (.cells #[.int .i64 p', .int .i64 t', .slice a3 l3 c3] 27)) := below2
  have HA := Lib.hid (hA.below bw)
  have HA' := Lib.hid (hA'.below bw)
  have BW := Lib.hid bw
  clear hA hA' bw
  go_enter Try.func24, Try.ntmps24
  go_wp2_with fail
  refine (specSamePtrV w.heap.size (w.heap.size + 1) p t a1 l1 c1 A p' t' a3 l3 c3 A' _ heap2a heap2b HA.out HA'.out).mono ?_
  rintro e w' ⟨rfl, k, rfl⟩
  go_wp2_with fail
  go_ret
  exact ⟨rfl, BW.out.trans (same_below ⟨k, rfl⟩ _)⟩

theorem implSameV_any (p t : Int) (a1 : Option Addr) (l1 c1 : Nat) (A : List Int) (p' t' : Int) (a3 : Option Addr) (l3 c3 : Nat) (A' : List Int) (w : World) (hA : IAt w a1 l1 A) (hA' : IAt w a3 l3 A') :
    Calls Try.prog 25 #[valuesV p t a1 l1 c1, valuesV p' t' a3 l3 c3] w (BoolOut w (sameV p t A p' t' A')) := by
  have bw : Below w.heap.size w ((w.alloc (.cells #[.int .i64 p, .int .i64 t, .slice a1 l1 c1] 27)).alloc (.cells #[.int .i64 p', .int .i64 t', .slice a3 l3 c3] 27)) := below2
  have HA := Lib.hid (hA.below bw)
  have HA' := Lib.hid (hA'.below bw)
  have BW := Lib.hid bw
  clear hA hA' bw
  by_cases e1 : p = p'
  · subst e1
    by_cases e2 : t = t'
    · subst e2
      have E : Hid (sameV p t A p t A' = decide (A = A')) := Lib.hid (by simp [sameV])
      go_enter Try.func25, Try.ntmps25
      go_wp2_with (go_at_call 63; refine (slicesEq_full _ _ _ _ _ _ A A' _ HA.out HA'.out).mono ?_; rintro e w2 ⟨rfl, k, rfl⟩)
      go_ret
      exact ⟨by rw [E.out]; rfl, BW.out.trans (same_below ⟨k, rfl⟩ _)⟩
    · have E : Hid (sameV p t A p t' A' = false) := Lib.hid (by simp [sameV, e2])
      have hq : (t == t') = false := by simpa using e2
      clear e2
      go_enter Try.func25, Try.ntmps25
      go_wp2_with fail
      go_ret
      exact ⟨by rw [E.out]; rfl, BW.out⟩
  · have E : Hid (sameV p t A p' t' A' = false) := Lib.hid (by simp [sameV, e1])
    have hq : (p == p') = false := by simpa using e1
    clear e1
    go_enter Try.func25, Try.ntmps25
    go_wp2_with fail
    go_ret
    exact ⟨by rw [E.out]; rfl, BW.out⟩
end Go.Proofs.Ytblckofdpgenkaa
