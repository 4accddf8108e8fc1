/-
  Are two values the same? The program's answer and the reference's.
-/
import Derived.Test.YteapcppalbeohaaSlEqE
import Derived.Test.YteapcppalbeohaaSCake
import Derived.Test.YteapcppalbeohaaOut
namespace Go.Proofs.Yteapcppalbeohaa
open Go.RowKit Go.ChangeShapes Go.WideShapes
set_option linter.unusedVariables false

def sameC (p t : Int) (A : List Int) (p' t' : Int) (A' : List Int) : Bool := decide (p = p') && (decide (t = t') && decide (A = A'))

theorem specSameC_any (p t : Int) (a1 : Option Addr) (l1 c1 : Nat) (A : List Int) (p' t' : Int) (a3 : Option Addr) (l3 c3 : Nat) (A' : List Int) (w : World) (hA : IAt w a1 l1 A) (hA' : IAt w a3 l3 A') :
    Calls Try.prog 25 #[cakeV p t a1 l1 c1, cakeV p' t' a3 l3 c3] w (BoolOut w (sameC p t A p' t' A')) := by
  have bw : Below w.heap.size w ((w.alloc (.cells #[.int .i64 p, .int .i64 t, .slice a1 l1 c1] 39)).alloc (.cells #[.int .i64 p', .int .i64 t', .slice a3 l3 c3] 39)) := below2
  have HA := Lib.hid (hA.below bw)
  have HA' := Lib.hid (hA'.below bw)
  have BW := Lib.hid bw
  clear hA hA' bw
  by_cases e1 : p = p'
  · subst e1
    by_cases e2 : t = t'
    · subst e2
      have E : Hid (sameC p t A p t A' = decide (A = A')) := Lib.hid (by simp [sameC])
      go_enter Try.func25, Try.ntmps25
      go_wp2_with (go_at_call 58; refine (listEq_any _ _ _ _ _ _ A A' _ HA.out HA'.out).mono ?_; rintro e w2 ⟨rfl, k, rfl⟩)
      go_ret
      exact ⟨by rw [E.out]; rfl, BW.out.trans (same_below ⟨k, rfl⟩ _)⟩
    · have E : Hid (sameC p t A p t' A' = false) := Lib.hid (by simp [sameC, e2])
      have hq : (t == t') = false := by simpa using e2
      clear e2
      go_enter Try.func25, Try.ntmps25
      go_wp2_with fail
      go_ret
      exact ⟨by rw [E.out]; rfl, BW.out⟩
  · have E : Hid (sameC p t A p' t' A' = false) := Lib.hid (by simp [sameC, e1])
    have hq : (p == p') = false := by simpa using e1
    clear e1
    go_enter Try.func25, Try.ntmps25
    go_wp2_with fail
    go_ret
    exact ⟨by rw [E.out]; rfl, BW.out⟩

theorem implSameC_any (p t : Int) (a1 : Option Addr) (l1 c1 : Nat) (A : List Int) (p' t' : Int) (a3 : Option Addr) (l3 c3 : Nat) (A' : List Int) (w : World) (hA : IAt w a1 l1 A) (hA' : IAt w a3 l3 A') :
    Calls Try.prog 26 #[cakeV p t a1 l1 c1, cakeV p' t' a3 l3 c3] w (BoolOut w (sameC p t A p' t' A')) := by
  have bw : Below w.heap.size w ((w.alloc (.cells #[.int .i64 p, .int .i64 t, .slice a1 l1 c1] 39)).alloc (.cells #[.int .i64 p', .int .i64 t', .slice a3 l3 c3] 39)) := below2
  have HA := Lib.hid (hA.below bw)
  have HA' := Lib.hid (hA'.below bw)
  have BW := Lib.hid bw
  clear hA hA' bw
  by_cases e1 : p = p'
  · subst e1
    by_cases e2 : t = t'
    · subst e2
      have E : Hid (sameC p t A p t A' = decide (A = A')) := Lib.hid (by simp [sameC])
      go_enter Try.func26, Try.ntmps26
      go_wp2_with (go_at_call 59; refine (slicesEq_full _ _ _ _ _ _ A A' _ HA.out HA'.out).mono ?_; rintro e w2 ⟨rfl, k, rfl⟩)
      go_ret
      exact ⟨by rw [E.out]; rfl, BW.out.trans (same_below ⟨k, rfl⟩ _)⟩
    · have E : Hid (sameC p t A p t' A' = false) := Lib.hid (by simp [sameC, e2])
      have hq : (t == t') = false := by simpa using e2
      clear e2
      go_enter Try.func26, Try.ntmps26
      go_wp2_with fail
      go_ret
      exact ⟨by rw [E.out]; rfl, BW.out⟩
  · have E : Hid (sameC p t A p' t' A' = false) := Lib.hid (by simp [sameC, e1])
    have hq : (p == p') = false := by simpa using e1
    clear e1
    go_enter Try.func26, Try.ntmps26
    go_wp2_with fail
    go_ret
    exact ⟨by rw [E.out]; rfl, BW.out⟩
end Go.Proofs.Yteapcppalbeohaa
