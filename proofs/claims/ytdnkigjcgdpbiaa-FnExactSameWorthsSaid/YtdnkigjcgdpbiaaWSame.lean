/-
  Are two worths the same? The program's answer and the reference's.
-/
import Derived.Test.YtdnkigjcgdpbiaaSlEq
import Derived.Test.YtdnkigjcgdpbiaaSWorths
import Derived.Test.YtdnkigjcgdpbiaaOut
namespace Go.Proofs.Ytdnkigjcgdpbiaa
open Go.RowKit Go.ChangeShapes Go.WideShapes
set_option linter.unusedVariables false

def sameW (p : Int) (A : List Int) (p' : Int) (A' : List Int) : Bool := decide (p = p') && decide (A = A')

theorem specSameW_any (p : Int) (a1 : Option Addr) (l1 c1 : Nat) (A : List Int) (p' : Int) (a3 : Option Addr) (l3 c3 : Nat) (A' : List Int) (w : World) (hA : IAt w a1 l1 A) (hA' : IAt w a3 l3 A') :
    Calls Try.prog 23 #[worthsV p a1 l1 c1, worthsV p' a3 l3 c3] w (BoolOut w (sameW p A p' A')) := by
  have bw : Below w.heap.size w ((w.alloc (.cells #[.int .i64 p, .slice a1 l1 c1] 27)).alloc (.cells #[.int .i64 p', .slice a3 l3 c3] 27)) := below2
  have HA := Lib.hid (hA.below bw)
  have HA' := Lib.hid (hA'.below bw)
  have BW := Lib.hid bw
  clear hA hA' bw
  by_cases e1 : p = p'
  · subst e1
    have E : Hid (sameW p A p A' = decide (A = A')) := Lib.hid (by simp [sameW])
    go_enter Try.func23, Try.ntmps23
    go_wp2_with (go_at_call 62; refine (listEq_any _ _ _ _ _ _ A A' _ HA.out HA'.out).mono ?_; rintro e w2 ⟨rfl, k, rfl⟩)
    go_ret
    exact ⟨by rw [E.out]; rfl, BW.out.trans (same_below ⟨k, rfl⟩ _)⟩
  · have E : Hid (sameW p A p' A' = false) := Lib.hid (by simp [sameW, e1])
    have hq : (p == p') = false := by simpa using e1
    clear e1
    go_enter Try.func23, Try.ntmps23
    go_wp2_with fail
    go_ret
    exact ⟨by rw [E.out]; rfl, BW.out⟩

theorem implSameW_any (p : Int) (a1 : Option Addr) (l1 c1 : Nat) (A : List Int) (p' : Int) (a3 : Option Addr) (l3 c3 : Nat) (A' : List Int) (w : World) (hA : IAt w a1 l1 A) (hA' : IAt w a3 l3 A') :
    Calls Try.prog 24 #[worthsV p a1 l1 c1, worthsV p' a3 l3 c3] w (BoolOut w (sameW p A p' A')) := by
  have bw : Below w.heap.size w ((w.alloc (.cells #[.int .i64 p, .slice a1 l1 c1] 27)).alloc (.cells #[.int .i64 p', .slice a3 l3 c3] 27)) := below2
  have HA := Lib.hid (hA.below bw)
  have HA' := Lib.hid (hA'.below bw)
  have BW := Lib.hid bw
  clear hA hA' bw
  by_cases e1 : p = p'
  · subst e1
    have E : Hid (sameW p A p A' = decide (A = A')) := Lib.hid (by simp [sameW])
    go_enter Try.func24, Try.ntmps24
    go_wp2_with (go_at_call 63; refine (slicesEq_full _ _ _ _ _ _ A A' _ HA.out HA'.out).mono ?_; rintro e w2 ⟨rfl, k, rfl⟩)
    go_ret
    exact ⟨by rw [E.out]; rfl, BW.out.trans (same_below ⟨k, rfl⟩ _)⟩
  · have E : Hid (sameW p A p' A' = false) := Lib.hid (by simp [sameW, e1])
    have hq : (p == p') = false := by simpa using e1
    clear e1
    go_enter Try.func24, Try.ntmps24
    go_wp2_with fail
    go_ret
    exact ⟨by rw [E.out]; rfl, BW.out⟩
end Go.Proofs.Ytdnkigjcgdpbiaa
