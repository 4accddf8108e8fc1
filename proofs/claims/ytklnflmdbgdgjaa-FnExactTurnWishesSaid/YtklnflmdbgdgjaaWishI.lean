/-
  Valid wishes: the program's whole look.
-/
import Derived.Test.YtklnflmdbgdgjaaWish
namespace Go.Proofs.Ytklnflmdbgdgjaa
open Go.RowKit Go.ChangeShapes Go.WideShapes
set_option linter.unusedVariables false

set_option maxHeartbeats 1000000 in
set_option maxRecDepth 20000 in
theorem implValidWishes_any (a1 : Option Addr) (l1 c1 : Nat) (a2 : Option Addr) (l2 c2 : Nat) (A B : List (List Int)) (w : World) (h : WAt w a1 l1 a2 l2 A B) :
    Calls Try.prog 10 #[wishesV a1 l1 c1 a2 l2 c2] w (BoolOut w (okWish A B)) := by
  have hmf : ∀ (fn : Fn) (first cap : Array Value) (w : World), (Instr.makeFunc fn first cap).run Try.prog w = .ok (.func fn first cap) w := fun _ _ _ _ => rfl
  obtain ⟨hA, hB⟩ := h.below (below1 (o := .cells #[.slice a1 l1 c1, .slice a2 l2 c2] 27))
  have hlA := hA.1
  have hlB := hB.1
  have hm1 := hA.2.1
  have hm2 := hB.2.1
  unfold maxLen at hm1 hm2
  have HA := Lib.hid hA
  have HB := Lib.hid hB
  have X0 : Hid (Box2 _ w.heap.size 27 (.slice a1 l1 c1) (.slice a2 l2 c2)) := Lib.hid (heap1 (w := w))
  have B0 := Lib.hid (below1 (w := w) (o := .cells #[.slice a1 l1 c1, .slice a2 l2 c2] 27))
  have TA := Lib.hid (fun h8 : l1 ≤ 8 => tellValid w.heap.size 27 a1 l1 c1 _ A _ h8 X0.out)
  have TB := Lib.hid (fun h8 : l1 ≤ 8 => tellValid w.heap.size 27 a1 l1 c1 _ B _ h8 X0.out)
  clear hA hB h
  by_cases hq : l1 = l2
  · subst hq
    cases s1 : (inB 1 8 (l1 : Int) && okLists l1 A) with
    | false =>
      have E : Hid (okWish A B = false) := Lib.hid (by
        unfold okWish
        rw [hlA, ← Bool.and_assoc, s1]
        rfl)
      rw [E.out]
      have S1 : Hid ((inB 1 8 (l1 : Int) && okRows (fun _ => okDiff l1) A) = false) := Lib.hid s1
      clear s1 hlA hlB
      go_enter Try.func10, Try.ntmps10
      go_wp2_with fail
      refine (areLists_any a1 l1 c1 _ _ _ A _ HA.out enters_valid1 TA.out).mono ?_
      rintro e w1 ⟨rfl, b1⟩
      rw [S1.out]
      have B1 := Lib.hid (below_after B0.out (Nat.le_refl _) b1)
      clear b1
      go_wp2_with fail
      go_ret
      exact ⟨rfl, B1.out⟩
    | true =>
      have h8 : l1 ≤ 8 := by
        rw [Bool.and_eq_true] at s1
        have := inB_true.1 s1.1
        omega
      have E : Hid (okWish A B = okLists l1 B) := Lib.hid (by
        unfold okWish
        rw [hlA, ← Bool.and_assoc, s1, decide_eq_true hlB, Bool.and_true]
        rfl)
      have S2 : Hid ((inB 1 8 (l1 : Int) && okRows (fun _ => okDiff l1) B) = okLists l1 B) := Lib.hid (by
        rw [Bool.and_eq_true] at s1
        rw [s1.1, Bool.true_and]
        rfl)
      rw [E.out]
      have S1 : Hid ((inB 1 8 (l1 : Int) && okRows (fun _ => okDiff l1) A) = true) := Lib.hid s1
      clear s1 hlA hlB
      generalize okLists l1 B = z at *
      go_enter Try.func10, Try.ntmps10
      go_wp2_with fail
      refine (areLists_any a1 l1 c1 _ _ _ A _ HA.out enters_valid1 TA.out).mono ?_
      rintro e w1 ⟨rfl, b1⟩
      rw [S1.out]
      have B1 := Lib.hid (below_after B0.out (Nat.le_refl _) b1)
      have X1 := Lib.hid (X0.out.below b1)
      have HB1 := Lib.hid (HB.out.below b1)
      obtain ⟨⟨p0, p1⟩, _⟩ := X1.out.all
      clear b1
      go_wp2_with fail
      refine (areLists_any a2 l1 c2 _ _ _ B _ HB1.out enters_valid1 (fun h8 => tellValid w.heap.size 27 a1 l1 c1 _ B _ h8 X1.out)).mono ?_
      rintro e w2 ⟨rfl, b2⟩
      rw [S2.out]
      have B2 := Lib.hid (below_after B1.out (Nat.le_refl _) b2)
      clear b2 p0 p1
      go_wp2_with fail
      go_ret
      exact ⟨rfl, B2.out⟩
  · have E : Hid (okWish A B = false) := Lib.hid (by
      unfold okWish
      rw [hlA, hlB, decide_eq_false (show ¬ l2 = l1 by omega)]
      simp)
    rw [E.out]
    have hqb : ((l1 : Int) == (l2 : Int)) = false := by rw [beq_eq_false_iff_ne]; omega
    clear hlA hlB hq
    go_enter Try.func10, Try.ntmps10
    go_wp2_with fail
    go_ret
    exact ⟨rfl, B0.out⟩
end Go.Proofs.Ytklnflmdbgdgjaa
