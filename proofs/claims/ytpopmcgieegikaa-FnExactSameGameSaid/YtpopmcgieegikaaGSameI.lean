/-
  Are two games the same? The program's answer.
-/
import Derived.Test.YtpopmcgieegikaaGSame
import Derived.Laws.StructEq
namespace Go.Proofs.Ytpopmcgieegikaa
open Go.RowKit Go.ChangeShapes Go.WideShapes
set_option linter.unusedVariables false

set_option maxHeartbeats 2000000 in
set_option maxRecDepth 20000 in
theorem implSame_any (r c : Int) (a1 : Option Addr) (l1 c1 : Nat) (a2 : Option Addr) (l2 c2 : Nat) (A B : List Int) (r' c' : Int) (a3 : Option Addr) (l3 c3 : Nat) (a4 : Option Addr) (l4 c4 : Nat) (A' B' : List Int) (w : World)
    (hA : IAt w a1 l1 A) (hB : IAt w a2 l2 B) (hA' : IAt w a3 l3 A') (hB' : IAt w a4 l4 B') :
    Calls Try.prog 28 #[gameV r c a1 l1 c1 a2 l2 c2, gameV r' c' a3 l3 c3 a4 l4 c4] w fun e w' => e = .returned (.bool (sameV r c A B r' c' A' B')) ∧ Below w.heap.size w w' := by
  have bw : Below w.heap.size w ((w.alloc (.cells #[.int .i64 r, .int .i64 c, .slice a1 l1 c1, .slice a2 l2 c2] 27)).alloc (.cells #[.int .i64 r', .int .i64 c', .slice a3 l3 c3, .slice a4 l4 c4] 27)) := below2
  have hlA := hA.1
  have hlB := hB.1
  have hlA' := hA'.1
  have hlB' := hB'.1
  have HA := Lib.hid (hA.below bw)
  have HB := Lib.hid (hB.below bw)
  have HA' := Lib.hid (hA'.below bw)
  have HB' := Lib.hid (hB'.below bw)
  have BW := Lib.hid bw
  clear hA hB hA' hB' bw
  obtain ⟨v, hv⟩ : ∃ v, sameV r c A B r' c' A' B' = v := ⟨_, rfl⟩
  rw [hv]
  have HV := Lib.hid hv
  clear hv
  by_cases e1 : r = r'
  · subst e1
    by_cases e2 : c = c'
    · subst e2
      by_cases e4 : l1 = l3
      · subst e4
        by_cases e5 : l2 = l4
        · subst e5
          clear hlA hlB hlA' hlB'
          cases e3 : decide (A = A') with
          | true =>
            have E3 := Lib.hid e3
            have HV2 : Hid (v = decide (B = B')) := Lib.hid (by rw [← HV.out]; unfold sameV; rw [e3]; simp)
            clear e3
            have p0 := fun x : ExtW ((w.alloc (.cells #[.int .i64 r, .int .i64 c, .slice a1 l1 c1, .slice a2 l2 c2] 27)).alloc (.cells #[.int .i64 r, .int .i64 c, .slice a3 l1 c3, .slice a4 l2 c4] 27)) => (x.box (heap2a : Box4 ((w.alloc (.cells #[.int .i64 r, .int .i64 c, .slice a1 l1 c1, .slice a2 l2 c2] 27)).alloc (.cells #[.int .i64 r, .int .i64 c, .slice a3 l1 c3, .slice a4 l2 c4] 27)) w.heap.size 27 (.int .i64 r) (.int .i64 c) (.slice a1 l1 c1) (.slice a2 l2 c2))).c0
            have p1 := fun x : ExtW ((w.alloc (.cells #[.int .i64 r, .int .i64 c, .slice a1 l1 c1, .slice a2 l2 c2] 27)).alloc (.cells #[.int .i64 r, .int .i64 c, .slice a3 l1 c3, .slice a4 l2 c4] 27)) => (x.box (heap2a : Box4 ((w.alloc (.cells #[.int .i64 r, .int .i64 c, .slice a1 l1 c1, .slice a2 l2 c2] 27)).alloc (.cells #[.int .i64 r, .int .i64 c, .slice a3 l1 c3, .slice a4 l2 c4] 27)) w.heap.size 27 (.int .i64 r) (.int .i64 c) (.slice a1 l1 c1) (.slice a2 l2 c2))).c1
            have p2 := fun x : ExtW ((w.alloc (.cells #[.int .i64 r, .int .i64 c, .slice a1 l1 c1, .slice a2 l2 c2] 27)).alloc (.cells #[.int .i64 r, .int .i64 c, .slice a3 l1 c3, .slice a4 l2 c4] 27)) => (x.box (heap2a : Box4 ((w.alloc (.cells #[.int .i64 r, .int .i64 c, .slice a1 l1 c1, .slice a2 l2 c2] 27)).alloc (.cells #[.int .i64 r, .int .i64 c, .slice a3 l1 c3, .slice a4 l2 c4] 27)) w.heap.size 27 (.int .i64 r) (.int .i64 c) (.slice a1 l1 c1) (.slice a2 l2 c2))).c2
            have p3 := fun x : ExtW ((w.alloc (.cells #[.int .i64 r, .int .i64 c, .slice a1 l1 c1, .slice a2 l2 c2] 27)).alloc (.cells #[.int .i64 r, .int .i64 c, .slice a3 l1 c3, .slice a4 l2 c4] 27)) => (x.box (heap2a : Box4 ((w.alloc (.cells #[.int .i64 r, .int .i64 c, .slice a1 l1 c1, .slice a2 l2 c2] 27)).alloc (.cells #[.int .i64 r, .int .i64 c, .slice a3 l1 c3, .slice a4 l2 c4] 27)) w.heap.size 27 (.int .i64 r) (.int .i64 c) (.slice a1 l1 c1) (.slice a2 l2 c2))).c3
            have q0 := fun x : ExtW ((w.alloc (.cells #[.int .i64 r, .int .i64 c, .slice a1 l1 c1, .slice a2 l2 c2] 27)).alloc (.cells #[.int .i64 r, .int .i64 c, .slice a3 l1 c3, .slice a4 l2 c4] 27)) => (x.box (heap2b : Box4 ((w.alloc (.cells #[.int .i64 r, .int .i64 c, .slice a1 l1 c1, .slice a2 l2 c2] 27)).alloc (.cells #[.int .i64 r, .int .i64 c, .slice a3 l1 c3, .slice a4 l2 c4] 27)) (w.heap.size + 1) 27 (.int .i64 r) (.int .i64 c) (.slice a3 l1 c3) (.slice a4 l2 c4))).c0
            have q1 := fun x : ExtW ((w.alloc (.cells #[.int .i64 r, .int .i64 c, .slice a1 l1 c1, .slice a2 l2 c2] 27)).alloc (.cells #[.int .i64 r, .int .i64 c, .slice a3 l1 c3, .slice a4 l2 c4] 27)) => (x.box (heap2b : Box4 ((w.alloc (.cells #[.int .i64 r, .int .i64 c, .slice a1 l1 c1, .slice a2 l2 c2] 27)).alloc (.cells #[.int .i64 r, .int .i64 c, .slice a3 l1 c3, .slice a4 l2 c4] 27)) (w.heap.size + 1) 27 (.int .i64 r) (.int .i64 c) (.slice a3 l1 c3) (.slice a4 l2 c4))).c1
            have q2 := fun x : ExtW ((w.alloc (.cells #[.int .i64 r, .int .i64 c, .slice a1 l1 c1, .slice a2 l2 c2] 27)).alloc (.cells #[.int .i64 r, .int .i64 c, .slice a3 l1 c3, .slice a4 l2 c4] 27)) => (x.box (heap2b : Box4 ((w.alloc (.cells #[.int .i64 r, .int .i64 c, .slice a1 l1 c1, .slice a2 l2 c2] 27)).alloc (.cells #[.int .i64 r, .int .i64 c, .slice a3 l1 c3, .slice a4 l2 c4] 27)) (w.heap.size + 1) 27 (.int .i64 r) (.int .i64 c) (.slice a3 l1 c3) (.slice a4 l2 c4))).c2
            have q3 := fun x : ExtW ((w.alloc (.cells #[.int .i64 r, .int .i64 c, .slice a1 l1 c1, .slice a2 l2 c2] 27)).alloc (.cells #[.int .i64 r, .int .i64 c, .slice a3 l1 c3, .slice a4 l2 c4] 27)) => (x.box (heap2b : Box4 ((w.alloc (.cells #[.int .i64 r, .int .i64 c, .slice a1 l1 c1, .slice a2 l2 c2] 27)).alloc (.cells #[.int .i64 r, .int .i64 c, .slice a3 l1 c3, .slice a4 l2 c4] 27)) (w.heap.size + 1) 27 (.int .i64 r) (.int .i64 c) (.slice a3 l1 c3) (.slice a4 l2 c4))).c3
            go_enter Try.func28, Try.ntmps28
            go_wp2_with fail
            refine region_ext (by kernel_rfl) (by kernel_rfl) ?_
            repeat (go_big_quiet_step (first | (go_at_call 72; refine (shapeOf_any _ _ _ _ _ _ _ _ _).mono ?_; rintro e w2 ⟨rfl, hb⟩; exact ⟨rfl, ExtW.on _ hb⟩) | (go_at_call_of 75 (Value.slice a1 l1 c1); refine (slicesEq_any _ _ _ _ _ A A' _ (ExtW.iat _ HA.out) (ExtW.iat _ HA'.out)).mono ?_; rintro e w2 ⟨rfl, h2⟩; rw [E3.out]; exact ⟨rfl, ExtW.drewn _ h2⟩) | (go_at_call_of 75 (Value.slice a2 l2 c2); refine (slicesEq_any _ _ _ _ _ B B' _ (ExtW.iat _ HB.out) (ExtW.iat _ HB'.out)).mono ?_; rintro e w2 ⟨rfl, h2⟩; exact ⟨rfl, ExtW.drewn _ h2⟩)))
            refine wpQuiet_nil ?_
            intro _ hw'
            obtain ⟨x, hx⟩ := hw'
            subst hx
            go_wp2_with fail
            go_ret
            refine ⟨?_, below_after BW.out (Nat.le_refl _) x.ext⟩
            rw [HV2.out]; rfl
          | false =>
            have E3 := Lib.hid e3
            have HV2 : Hid (v = false) := Lib.hid (by rw [← HV.out]; unfold sameV; rw [e3]; simp)
            clear e3
            have p0 := fun x : ExtW ((w.alloc (.cells #[.int .i64 r, .int .i64 c, .slice a1 l1 c1, .slice a2 l2 c2] 27)).alloc (.cells #[.int .i64 r, .int .i64 c, .slice a3 l1 c3, .slice a4 l2 c4] 27)) => (x.box (heap2a : Box4 ((w.alloc (.cells #[.int .i64 r, .int .i64 c, .slice a1 l1 c1, .slice a2 l2 c2] 27)).alloc (.cells #[.int .i64 r, .int .i64 c, .slice a3 l1 c3, .slice a4 l2 c4] 27)) w.heap.size 27 (.int .i64 r) (.int .i64 c) (.slice a1 l1 c1) (.slice a2 l2 c2))).c0
            have p1 := fun x : ExtW ((w.alloc (.cells #[.int .i64 r, .int .i64 c, .slice a1 l1 c1, .slice a2 l2 c2] 27)).alloc (.cells #[.int .i64 r, .int .i64 c, .slice a3 l1 c3, .slice a4 l2 c4] 27)) => (x.box (heap2a : Box4 ((w.alloc (.cells #[.int .i64 r, .int .i64 c, .slice a1 l1 c1, .slice a2 l2 c2] 27)).alloc (.cells #[.int .i64 r, .int .i64 c, .slice a3 l1 c3, .slice a4 l2 c4] 27)) w.heap.size 27 (.int .i64 r) (.int .i64 c) (.slice a1 l1 c1) (.slice a2 l2 c2))).c1
            have p2 := fun x : ExtW ((w.alloc (.cells #[.int .i64 r, .int .i64 c, .slice a1 l1 c1, .slice a2 l2 c2] 27)).alloc (.cells #[.int .i64 r, .int .i64 c, .slice a3 l1 c3, .slice a4 l2 c4] 27)) => (x.box (heap2a : Box4 ((w.alloc (.cells #[.int .i64 r, .int .i64 c, .slice a1 l1 c1, .slice a2 l2 c2] 27)).alloc (.cells #[.int .i64 r, .int .i64 c, .slice a3 l1 c3, .slice a4 l2 c4] 27)) w.heap.size 27 (.int .i64 r) (.int .i64 c) (.slice a1 l1 c1) (.slice a2 l2 c2))).c2
            have p3 := fun x : ExtW ((w.alloc (.cells #[.int .i64 r, .int .i64 c, .slice a1 l1 c1, .slice a2 l2 c2] 27)).alloc (.cells #[.int .i64 r, .int .i64 c, .slice a3 l1 c3, .slice a4 l2 c4] 27)) => (x.box (heap2a : Box4 ((w.alloc (.cells #[.int .i64 r, .int .i64 c, .slice a1 l1 c1, .slice a2 l2 c2] 27)).alloc (.cells #[.int .i64 r, .int .i64 c, .slice a3 l1 c3, .slice a4 l2 c4] 27)) w.heap.size 27 (.int .i64 r) (.int .i64 c) (.slice a1 l1 c1) (.slice a2 l2 c2))).c3
            have q0 := fun x : ExtW ((w.alloc (.cells #[.int .i64 r, .int .i64 c, .slice a1 l1 c1, .slice a2 l2 c2] 27)).alloc (.cells #[.int .i64 r, .int .i64 c, .slice a3 l1 c3, .slice a4 l2 c4] 27)) => (x.box (heap2b : Box4 ((w.alloc (.cells #[.int .i64 r, .int .i64 c, .slice a1 l1 c1, .slice a2 l2 c2] 27)).alloc (.cells #[.int .i64 r, .int .i64 c, .slice a3 l1 c3, .slice a4 l2 c4] 27)) (w.heap.size + 1) 27 (.int .i64 r) (.int .i64 c) (.slice a3 l1 c3) (.slice a4 l2 c4))).c0
            have q1 := fun x : ExtW ((w.alloc (.cells #[.int .i64 r, .int .i64 c, .slice a1 l1 c1, .slice a2 l2 c2] 27)).alloc (.cells #[.int .i64 r, .int .i64 c, .slice a3 l1 c3, .slice a4 l2 c4] 27)) => (x.box (heap2b : Box4 ((w.alloc (.cells #[.int .i64 r, .int .i64 c, .slice a1 l1 c1, .slice a2 l2 c2] 27)).alloc (.cells #[.int .i64 r, .int .i64 c, .slice a3 l1 c3, .slice a4 l2 c4] 27)) (w.heap.size + 1) 27 (.int .i64 r) (.int .i64 c) (.slice a3 l1 c3) (.slice a4 l2 c4))).c1
            have q2 := fun x : ExtW ((w.alloc (.cells #[.int .i64 r, .int .i64 c, .slice a1 l1 c1, .slice a2 l2 c2] 27)).alloc (.cells #[.int .i64 r, .int .i64 c, .slice a3 l1 c3, .slice a4 l2 c4] 27)) => (x.box (heap2b : Box4 ((w.alloc (.cells #[.int .i64 r, .int .i64 c, .slice a1 l1 c1, .slice a2 l2 c2] 27)).alloc (.cells #[.int .i64 r, .int .i64 c, .slice a3 l1 c3, .slice a4 l2 c4] 27)) (w.heap.size + 1) 27 (.int .i64 r) (.int .i64 c) (.slice a3 l1 c3) (.slice a4 l2 c4))).c2
            have q3 := fun x : ExtW ((w.alloc (.cells #[.int .i64 r, .int .i64 c, .slice a1 l1 c1, .slice a2 l2 c2] 27)).alloc (.cells #[.int .i64 r, .int .i64 c, .slice a3 l1 c3, .slice a4 l2 c4] 27)) => (x.box (heap2b : Box4 ((w.alloc (.cells #[.int .i64 r, .int .i64 c, .slice a1 l1 c1, .slice a2 l2 c2] 27)).alloc (.cells #[.int .i64 r, .int .i64 c, .slice a3 l1 c3, .slice a4 l2 c4] 27)) (w.heap.size + 1) 27 (.int .i64 r) (.int .i64 c) (.slice a3 l1 c3) (.slice a4 l2 c4))).c3
            go_enter Try.func28, Try.ntmps28
            go_wp2_with fail
            refine region_ext (by kernel_rfl) (by kernel_rfl) ?_
            repeat (go_big_quiet_step (first | (go_at_call 72; refine (shapeOf_any _ _ _ _ _ _ _ _ _).mono ?_; rintro e w2 ⟨rfl, hb⟩; exact ⟨rfl, ExtW.on _ hb⟩) | (go_at_call_of 75 (Value.slice a1 l1 c1); refine (slicesEq_any _ _ _ _ _ A A' _ (ExtW.iat _ HA.out) (ExtW.iat _ HA'.out)).mono ?_; rintro e w2 ⟨rfl, h2⟩; rw [E3.out]; exact ⟨rfl, ExtW.drewn _ h2⟩)))
            refine wpQuiet_nil ?_
            intro _ hw'
            obtain ⟨x, hx⟩ := hw'
            subst hx
            go_wp2_with fail
            go_ret
            refine ⟨?_, below_after BW.out (Nat.le_refl _) x.ext⟩
            rw [HV2.out]; rfl
        · have HV2 : Hid (v = false) := Lib.hid (by rw [← HV.out]; unfold sameV; rw [decide_eq_false (show ¬ B = B' from fun e => e5 (by rw [← hlB, ← hlB', e]))]; simp)
          have hg : ¬ (l2 : Int) = (l4 : Int) := by omega
          clear hlA hlB hlA' hlB' e5
          have p0 := fun x : ExtW ((w.alloc (.cells #[.int .i64 r, .int .i64 c, .slice a1 l1 c1, .slice a2 l2 c2] 27)).alloc (.cells #[.int .i64 r, .int .i64 c, .slice a3 l1 c3, .slice a4 l4 c4] 27)) => (x.box (heap2a : Box4 ((w.alloc (.cells #[.int .i64 r, .int .i64 c, .slice a1 l1 c1, .slice a2 l2 c2] 27)).alloc (.cells #[.int .i64 r, .int .i64 c, .slice a3 l1 c3, .slice a4 l4 c4] 27)) w.heap.size 27 (.int .i64 r) (.int .i64 c) (.slice a1 l1 c1) (.slice a2 l2 c2))).c0
          have p1 := fun x : ExtW ((w.alloc (.cells #[.int .i64 r, .int .i64 c, .slice a1 l1 c1, .slice a2 l2 c2] 27)).alloc (.cells #[.int .i64 r, .int .i64 c, .slice a3 l1 c3, .slice a4 l4 c4] 27)) => (x.box (heap2a : Box4 ((w.alloc (.cells #[.int .i64 r, .int .i64 c, .slice a1 l1 c1, .slice a2 l2 c2] 27)).alloc (.cells #[.int .i64 r, .int .i64 c, .slice a3 l1 c3, .slice a4 l4 c4] 27)) w.heap.size 27 (.int .i64 r) (.int .i64 c) (.slice a1 l1 c1) (.slice a2 l2 c2))).c1
          have p2 := fun x : ExtW ((w.alloc (.cells #[.int .i64 r, .int .i64 c, .slice a1 l1 c1, .slice a2 l2 c2] 27)).alloc (.cells #[.int .i64 r, .int .i64 c, .slice a3 l1 c3, .slice a4 l4 c4] 27)) => (x.box (heap2a : Box4 ((w.alloc (.cells #[.int .i64 r, .int .i64 c, .slice a1 l1 c1, .slice a2 l2 c2] 27)).alloc (.cells #[.int .i64 r, .int .i64 c, .slice a3 l1 c3, .slice a4 l4 c4] 27)) w.heap.size 27 (.int .i64 r) (.int .i64 c) (.slice a1 l1 c1) (.slice a2 l2 c2))).c2
          have p3 := fun x : ExtW ((w.alloc (.cells #[.int .i64 r, .int .i64 c, .slice a1 l1 c1, .slice a2 l2 c2] 27)).alloc (.cells #[.int .i64 r, .int .i64 c, .slice a3 l1 c3, .slice a4 l4 c4] 27)) => (x.box (heap2a : Box4 ((w.alloc (.cells #[.int .i64 r, .int .i64 c, .slice a1 l1 c1, .slice a2 l2 c2] 27)).alloc (.cells #[.int .i64 r, .int .i64 c, .slice a3 l1 c3, .slice a4 l4 c4] 27)) w.heap.size 27 (.int .i64 r) (.int .i64 c) (.slice a1 l1 c1) (.slice a2 l2 c2))).c3
          have q0 := fun x : ExtW ((w.alloc (.cells #[.int .i64 r, .int .i64 c, .slice a1 l1 c1, .slice a2 l2 c2] 27)).alloc (.cells #[.int .i64 r, .int .i64 c, .slice a3 l1 c3, .slice a4 l4 c4] 27)) => (x.box (heap2b : Box4 ((w.alloc (.cells #[.int .i64 r, .int .i64 c, .slice a1 l1 c1, .slice a2 l2 c2] 27)).alloc (.cells #[.int .i64 r, .int .i64 c, .slice a3 l1 c3, .slice a4 l4 c4] 27)) (w.heap.size + 1) 27 (.int .i64 r) (.int .i64 c) (.slice a3 l1 c3) (.slice a4 l4 c4))).c0
          have q1 := fun x : ExtW ((w.alloc (.cells #[.int .i64 r, .int .i64 c, .slice a1 l1 c1, .slice a2 l2 c2] 27)).alloc (.cells #[.int .i64 r, .int .i64 c, .slice a3 l1 c3, .slice a4 l4 c4] 27)) => (x.box (heap2b : Box4 ((w.alloc (.cells #[.int .i64 r, .int .i64 c, .slice a1 l1 c1, .slice a2 l2 c2] 27)).alloc (.cells #[.int .i64 r, .int .i64 c, .slice a3 l1 c3, .slice a4 l4 c4] 27)) (w.heap.size + 1) 27 (.int .i64 r) (.int .i64 c) (.slice a3 l1 c3) (.slice a4 l4 c4))).c1
          have q2 := fun x : ExtW ((w.alloc (.cells #[.int .i64 r, .int .i64 c, .slice a1 l1 c1, .slice a2 l2 c2] 27)).alloc (.cells #[.int .i64 r, .int .i64 c, .slice a3 l1 c3, .slice a4 l4 c4] 27)) => (x.box (heap2b : Box4 ((w.alloc (.cells #[.int .i64 r, .int .i64 c, .slice a1 l1 c1, .slice a2 l2 c2] 27)).alloc (.cells #[.int .i64 r, .int .i64 c, .slice a3 l1 c3, .slice a4 l4 c4] 27)) (w.heap.size + 1) 27 (.int .i64 r) (.int .i64 c) (.slice a3 l1 c3) (.slice a4 l4 c4))).c2
          have q3 := fun x : ExtW ((w.alloc (.cells #[.int .i64 r, .int .i64 c, .slice a1 l1 c1, .slice a2 l2 c2] 27)).alloc (.cells #[.int .i64 r, .int .i64 c, .slice a3 l1 c3, .slice a4 l4 c4] 27)) => (x.box (heap2b : Box4 ((w.alloc (.cells #[.int .i64 r, .int .i64 c, .slice a1 l1 c1, .slice a2 l2 c2] 27)).alloc (.cells #[.int .i64 r, .int .i64 c, .slice a3 l1 c3, .slice a4 l4 c4] 27)) (w.heap.size + 1) 27 (.int .i64 r) (.int .i64 c) (.slice a3 l1 c3) (.slice a4 l4 c4))).c3
          go_enter Try.func28, Try.ntmps28
          go_wp2_with fail
          refine region_ext (by kernel_rfl) (by kernel_rfl) ?_
          repeat (go_big_quiet_step (first | (go_at_call 72; refine (shapeOf_any _ _ _ _ _ _ _ _ _).mono ?_; rintro e w2 ⟨rfl, hb⟩; exact ⟨rfl, ExtW.on _ hb⟩)))
          refine wpQuiet_nil ?_
          intro _ hw'
          obtain ⟨x, hx⟩ := hw'
          subst hx
          go_wp2_with fail
          go_ret
          refine ⟨?_, below_after BW.out (Nat.le_refl _) x.ext⟩
          rw [HV2.out]; rfl
      · have HV2 : Hid (v = false) := Lib.hid (by rw [← HV.out]; unfold sameV; rw [decide_eq_false (show ¬ A = A' from fun e => e4 (by rw [← hlA, ← hlA', e]))]; simp)
        have hg : ¬ (l1 : Int) = (l3 : Int) := by omega
        clear hlA hlB hlA' hlB' e4
        have p0 := fun x : ExtW ((w.alloc (.cells #[.int .i64 r, .int .i64 c, .slice a1 l1 c1, .slice a2 l2 c2] 27)).alloc (.cells #[.int .i64 r, .int .i64 c, .slice a3 l3 c3, .slice a4 l4 c4] 27)) => (x.box (heap2a : Box4 ((w.alloc (.cells #[.int .i64 r, .int .i64 c, .slice a1 l1 c1, .slice a2 l2 c2] 27)).alloc (.cells #[.int .i64 r, .int .i64 c, .slice a3 l3 c3, .slice a4 l4 c4] 27)) w.heap.size 27 (.int .i64 r) (.int .i64 c) (.slice a1 l1 c1) (.slice a2 l2 c2))).c0
        have p1 := fun x : ExtW ((w.alloc (.cells #[.int .i64 r, .int .i64 c, .slice a1 l1 c1, .slice a2 l2 c2] 27)).alloc (.cells #[.int .i64 r, .int .i64 c, .slice a3 l3 c3, .slice a4 l4 c4] 27)) => (x.box (heap2a : Box4 ((w.alloc (.cells #[.int .i64 r, .int .i64 c, .slice a1 l1 c1, .slice a2 l2 c2] 27)).alloc (.cells #[.int .i64 r, .int .i64 c, .slice a3 l3 c3, .slice a4 l4 c4] 27)) w.heap.size 27 (.int .i64 r) (.int .i64 c) (.slice a1 l1 c1) (.slice a2 l2 c2))).c1
        have p2 := fun x : ExtW ((w.alloc (.cells #[.int .i64 r, .int .i64 c, .slice a1 l1 c1, .slice a2 l2 c2] 27)).alloc (.cells #[.int .i64 r, .int .i64 c, .slice a3 l3 c3, .slice a4 l4 c4] 27)) => (x.box (heap2a : Box4 ((w.alloc (.cells #[.int .i64 r, .int .i64 c, .slice a1 l1 c1, .slice a2 l2 c2] 27)).alloc (.cells #[.int .i64 r, .int .i64 c, .slice a3 l3 c3, .slice a4 l4 c4] 27)) w.heap.size 27 (.int .i64 r) (.int .i64 c) (.slice a1 l1 c1) (.slice a2 l2 c2))).c2
        have p3 := fun x : ExtW ((w.alloc (.cells #[.int .i64 r, .int .i64 c, .slice a1 l1 c1, .slice a2 l2 c2] 27)).alloc (.cells #[.int .i64 r, .int .i64 c, .slice a3 l3 c3, .slice a4 l4 c4] 27)) => (x.box (heap2a : Box4 ((w.alloc (.cells #[.int .i64 r, .int .i64 c, .slice a1 l1 c1, .slice a2 l2 c2] 27)).alloc (.cells #[.int .i64 r, .int .i64 c, .slice a3 l3 c3, .slice a4 l4 c4] 27)) w.heap.size 27 (.int .i64 r) (.int .i64 c) (.slice a1 l1 c1) (.slice a2 l2 c2))).c3
        have q0 := fun x : ExtW ((w.alloc (.cells #[.int .i64 r, .int .i64 c, .slice a1 l1 c1, .slice a2 l2 c2] 27)).alloc (.cells #[.int .i64 r, .int .i64 c, .slice a3 l3 c3, .slice a4 l4 c4] 27)) => (x.box (heap2b : Box4 ((w.alloc (.cells #[.int .i64 r, .int .i64 c, .slice a1 l1 c1, .slice a2 l2 c2] 27)).alloc (.cells #[.int .i64 r, .int .i64 c, .slice a3 l3 c3, .slice a4 l4 c4] 27)) (w.heap.size + 1) 27 (.int .i64 r) (.int .i64 c) (.slice a3 l3 c3) (.slice a4 l4 c4))).c0
        have q1 := fun x : ExtW ((w.alloc (.cells #[.int .i64 r, .int .i64 c, .slice a1 l1 c1, .slice a2 l2 c2] 27)).alloc (.cells #[.int .i64 r, .int .i64 c, .slice a3 l3 c3, .slice a4 l4 c4] 27)) => (x.box (heap2b : Box4 ((w.alloc (.cells #[.int .i64 r, .int .i64 c, .slice a1 l1 c1, .slice a2 l2 c2] 27)).alloc (.cells #[.int .i64 r, .int .i64 c, .slice a3 l3 c3, .slice a4 l4 c4] 27)) (w.heap.size + 1) 27 (.int .i64 r) (.int .i64 c) (.slice a3 l3 c3) (.slice a4 l4 c4))).c1
        have q2 := fun x : ExtW ((w.alloc (.cells #[.int .i64 r, .int .i64 c, .slice a1 l1 c1, .slice a2 l2 c2] 27)).alloc (.cells #[.int .i64 r, .int .i64 c, .slice a3 l3 c3, .slice a4 l4 c4] 27)) => (x.box (heap2b : Box4 ((w.alloc (.cells #[.int .i64 r, .int .i64 c, .slice a1 l1 c1, .slice a2 l2 c2] 27)).alloc (.cells #[.int .i64 r, .int .i64 c, .slice a3 l3 c3, .slice a4 l4 c4] 27)) (w.heap.size + 1) 27 (.int .i64 r) (.int .i64 c) (.slice a3 l3 c3) (.slice a4 l4 c4))).c2
        have q3 := fun x : ExtW ((w.alloc (.cells #[.int .i64 r, .int .i64 c, .slice a1 l1 c1, .slice a2 l2 c2] 27)).alloc (.cells #[.int .i64 r, .int .i64 c, .slice a3 l3 c3, .slice a4 l4 c4] 27)) => (x.box (heap2b : Box4 ((w.alloc (.cells #[.int .i64 r, .int .i64 c, .slice a1 l1 c1, .slice a2 l2 c2] 27)).alloc (.cells #[.int .i64 r, .int .i64 c, .slice a3 l3 c3, .slice a4 l4 c4] 27)) (w.heap.size + 1) 27 (.int .i64 r) (.int .i64 c) (.slice a3 l3 c3) (.slice a4 l4 c4))).c3
        go_enter Try.func28, Try.ntmps28
        go_wp2_with fail
        refine region_ext (by kernel_rfl) (by kernel_rfl) ?_
        repeat (go_big_quiet_step (first | (go_at_call 72; refine (shapeOf_any _ _ _ _ _ _ _ _ _).mono ?_; rintro e w2 ⟨rfl, hb⟩; exact ⟨rfl, ExtW.on _ hb⟩)))
        refine wpQuiet_nil ?_
        intro _ hw'
        obtain ⟨x, hx⟩ := hw'
        subst hx
        go_wp2_with fail
        go_ret
        refine ⟨?_, below_after BW.out (Nat.le_refl _) x.ext⟩
        rw [HV2.out]; rfl
    · have HV2 : Hid (v = false) := Lib.hid (by rw [← HV.out]; unfold sameV; rw [decide_eq_false e2]; simp)
      clear hlA hlB hlA' hlB'
      have p0 := fun x : ExtW ((w.alloc (.cells #[.int .i64 r, .int .i64 c, .slice a1 l1 c1, .slice a2 l2 c2] 27)).alloc (.cells #[.int .i64 r, .int .i64 c', .slice a3 l3 c3, .slice a4 l4 c4] 27)) => (x.box (heap2a : Box4 ((w.alloc (.cells #[.int .i64 r, .int .i64 c, .slice a1 l1 c1, .slice a2 l2 c2] 27)).alloc (.cells #[.int .i64 r, .int .i64 c', .slice a3 l3 c3, .slice a4 l4 c4] 27)) w.heap.size 27 (.int .i64 r) (.int .i64 c) (.slice a1 l1 c1) (.slice a2 l2 c2))).c0
      have p1 := fun x : ExtW ((w.alloc (.cells #[.int .i64 r, .int .i64 c, .slice a1 l1 c1, .slice a2 l2 c2] 27)).alloc (.cells #[.int .i64 r, .int .i64 c', .slice a3 l3 c3, .slice a4 l4 c4] 27)) => (x.box (heap2a : Box4 ((w.alloc (.cells #[.int .i64 r, .int .i64 c, .slice a1 l1 c1, .slice a2 l2 c2] 27)).alloc (.cells #[.int .i64 r, .int .i64 c', .slice a3 l3 c3, .slice a4 l4 c4] 27)) w.heap.size 27 (.int .i64 r) (.int .i64 c) (.slice a1 l1 c1) (.slice a2 l2 c2))).c1
      have p2 := fun x : ExtW ((w.alloc (.cells #[.int .i64 r, .int .i64 c, .slice a1 l1 c1, .slice a2 l2 c2] 27)).alloc (.cells #[.int .i64 r, .int .i64 c', .slice a3 l3 c3, .slice a4 l4 c4] 27)) => (x.box (heap2a : Box4 ((w.alloc (.cells #[.int .i64 r, .int .i64 c, .slice a1 l1 c1, .slice a2 l2 c2] 27)).alloc (.cells #[.int .i64 r, .int .i64 c', .slice a3 l3 c3, .slice a4 l4 c4] 27)) w.heap.size 27 (.int .i64 r) (.int .i64 c) (.slice a1 l1 c1) (.slice a2 l2 c2))).c2
      have p3 := fun x : ExtW ((w.alloc (.cells #[.int .i64 r, .int .i64 c, .slice a1 l1 c1, .slice a2 l2 c2] 27)).alloc (.cells #[.int .i64 r, .int .i64 c', .slice a3 l3 c3, .slice a4 l4 c4] 27)) => (x.box (heap2a : Box4 ((w.alloc (.cells #[.int .i64 r, .int .i64 c, .slice a1 l1 c1, .slice a2 l2 c2] 27)).alloc (.cells #[.int .i64 r, .int .i64 c', .slice a3 l3 c3, .slice a4 l4 c4] 27)) w.heap.size 27 (.int .i64 r) (.int .i64 c) (.slice a1 l1 c1) (.slice a2 l2 c2))).c3
      have q0 := fun x : ExtW ((w.alloc (.cells #[.int .i64 r, .int .i64 c, .slice a1 l1 c1, .slice a2 l2 c2] 27)).alloc (.cells #[.int .i64 r, .int .i64 c', .slice a3 l3 c3, .slice a4 l4 c4] 27)) => (x.box (heap2b : Box4 ((w.alloc (.cells #[.int .i64 r, .int .i64 c, .slice a1 l1 c1, .slice a2 l2 c2] 27)).alloc (.cells #[.int .i64 r, .int .i64 c', .slice a3 l3 c3, .slice a4 l4 c4] 27)) (w.heap.size + 1) 27 (.int .i64 r) (.int .i64 c') (.slice a3 l3 c3) (.slice a4 l4 c4))).c0
      have q1 := fun x : ExtW ((w.alloc (.cells #[.int .i64 r, .int .i64 c, .slice a1 l1 c1, .slice a2 l2 c2] 27)).alloc (.cells #[.int .i64 r, .int .i64 c', .slice a3 l3 c3, .slice a4 l4 c4] 27)) => (x.box (heap2b : Box4 ((w.alloc (.cells #[.int .i64 r, .int .i64 c, .slice a1 l1 c1, .slice a2 l2 c2] 27)).alloc (.cells #[.int .i64 r, .int .i64 c', .slice a3 l3 c3, .slice a4 l4 c4] 27)) (w.heap.size + 1) 27 (.int .i64 r) (.int .i64 c') (.slice a3 l3 c3) (.slice a4 l4 c4))).c1
      have q2 := fun x : ExtW ((w.alloc (.cells #[.int .i64 r, .int .i64 c, .slice a1 l1 c1, .slice a2 l2 c2] 27)).alloc (.cells #[.int .i64 r, .int .i64 c', .slice a3 l3 c3, .slice a4 l4 c4] 27)) => (x.box (heap2b : Box4 ((w.alloc (.cells #[.int .i64 r, .int .i64 c, .slice a1 l1 c1, .slice a2 l2 c2] 27)).alloc (.cells #[.int .i64 r, .int .i64 c', .slice a3 l3 c3, .slice a4 l4 c4] 27)) (w.heap.size + 1) 27 (.int .i64 r) (.int .i64 c') (.slice a3 l3 c3) (.slice a4 l4 c4))).c2
      have q3 := fun x : ExtW ((w.alloc (.cells #[.int .i64 r, .int .i64 c, .slice a1 l1 c1, .slice a2 l2 c2] 27)).alloc (.cells #[.int .i64 r, .int .i64 c', .slice a3 l3 c3, .slice a4 l4 c4] 27)) => (x.box (heap2b : Box4 ((w.alloc (.cells #[.int .i64 r, .int .i64 c, .slice a1 l1 c1, .slice a2 l2 c2] 27)).alloc (.cells #[.int .i64 r, .int .i64 c', .slice a3 l3 c3, .slice a4 l4 c4] 27)) (w.heap.size + 1) 27 (.int .i64 r) (.int .i64 c') (.slice a3 l3 c3) (.slice a4 l4 c4))).c3
      go_enter Try.func28, Try.ntmps28
      go_wp2_with fail
      refine region_ext (by kernel_rfl) (by kernel_rfl) ?_
      repeat (go_big_quiet_step (first | (go_at_call 72; refine (shapeOf_any _ _ _ _ _ _ _ _ _).mono ?_; rintro e w2 ⟨rfl, hb⟩; exact ⟨rfl, ExtW.on _ hb⟩)))
      refine wpQuiet_nil ?_
      intro _ hw'
      obtain ⟨x, hx⟩ := hw'
      subst hx
      go_wp2_with fail
      go_ret
      refine ⟨?_, below_after BW.out (Nat.le_refl _) x.ext⟩
      rw [HV2.out]; rfl
  · have HV2 : Hid (v = false) := Lib.hid (by rw [← HV.out]; unfold sameV; rw [decide_eq_false e1]; simp)
    clear hlA hlB hlA' hlB'
    have p0 := fun x : ExtW ((w.alloc (.cells #[.int .i64 r, .int .i64 c, .slice a1 l1 c1, .slice a2 l2 c2] 27)).alloc (.cells #[.int .i64 r', .int .i64 c', .slice a3 l3 c3, .slice a4 l4 c4] 27)) => (x.box (heap2a : Box4 ((w.alloc (.cells #[.int .i64 r, .int .i64 c, .slice a1 l1 c1, .slice a2 l2 c2] 27)).alloc (.cells #[.int .i64 r', .int .i64 c', .slice a3 l3 c3, .slice a4 l4 c4] 27)) w.heap.size 27 (.int .i64 r) (.int .i64 c) (.slice a1 l1 c1) (.slice a2 l2 c2))).c0
    have p1 := fun x : ExtW ((w.alloc (.cells #[.int .i64 r, .int .i64 c, .slice a1 l1 c1, .slice a2 l2 c2] 27)).alloc (.cells #[.int .i64 r', .int .i64 c', .slice a3 l3 c3, .slice a4 l4 c4] 27)) => (x.box (heap2a : Box4 ((w.alloc (.cells #[.int .i64 r, .int .i64 c, .slice a1 l1 c1, .slice a2 l2 c2] 27)).alloc (.cells #[.int .i64 r', .int .i64 c', .slice a3 l3 c3, .slice a4 l4 c4] 27)) w.heap.size 27 (.int .i64 r) (.int .i64 c) (.slice a1 l1 c1) (.slice a2 l2 c2))).c1
    have p2 := fun x : ExtW ((w.alloc (.cells #[.int .i64 r, .int .i64 c, .slice a1 l1 c1, .slice a2 l2 c2] 27)).alloc (.cells #[.int .i64 r', .int .i64 c', .slice a3 l3 c3, .slice a4 l4 c4] 27)) => (x.box (heap2a : Box4 ((w.alloc (.cells #[.int .i64 r, .int .i64 c, .slice a1 l1 c1, .slice a2 l2 c2] 27)).alloc (.cells #[.int .i64 r', .int .i64 c', .slice a3 l3 c3, .slice a4 l4 c4] 27)) w.heap.size 27 (.int .i64 r) (.int .i64 c) (.slice a1 l1 c1) (.slice a2 l2 c2))).c2
    have p3 := fun x : ExtW ((w.alloc (.cells #[.int .i64 r, .int .i64 c, .slice a1 l1 c1, .slice a2 l2 c2] 27)).alloc (.cells #[.int .i64 r', .int .i64 c', .slice a3 l3 c3, .slice a4 l4 c4] 27)) => (x.box (heap2a : Box4 ((w.alloc (.cells #[.int .i64 r, .int .i64 c, .slice a1 l1 c1, .slice a2 l2 c2] 27)).alloc (.cells #[.int .i64 r', .int .i64 c', .slice a3 l3 c3, .slice a4 l4 c4] 27)) w.heap.size 27 (.int .i64 r) (.int .i64 c) (.slice a1 l1 c1) (.slice a2 l2 c2))).c3
    have q0 := fun x : ExtW ((w.alloc (.cells #[.int .i64 r, .int .i64 c, .slice a1 l1 c1, .slice a2 l2 c2] 27)).alloc (.cells #[.int .i64 r', .int .i64 c', .slice a3 l3 c3, .slice a4 l4 c4] 27)) => (x.box (heap2b : Box4 ((w.alloc (.cells #[.int .i64 r, .int .i64 c, .slice a1 l1 c1, .slice a2 l2 c2] 27)).alloc (.cells #[.int .i64 r', .int .i64 c', .slice a3 l3 c3, .slice a4 l4 c4] 27)) (w.heap.size + 1) 27 (.int .i64 r') (.int .i64 c') (.slice a3 l3 c3) (.slice a4 l4 c4))).c0
    have q1 := fun x : ExtW ((w.alloc (.cells #[.int .i64 r, .int .i64 c, .slice a1 l1 c1, .slice a2 l2 c2] 27)).alloc (.cells #[.int .i64 r', .int .i64 c', .slice a3 l3 c3, .slice a4 l4 c4] 27)) => (x.box (heap2b : Box4 ((w.alloc (.cells #[.int .i64 r, .int .i64 c, .slice a1 l1 c1, .slice a2 l2 c2] 27)).alloc (.cells #[.int .i64 r', .int .i64 c', .slice a3 l3 c3, .slice a4 l4 c4] 27)) (w.heap.size + 1) 27 (.int .i64 r') (.int .i64 c') (.slice a3 l3 c3) (.slice a4 l4 c4))).c1
    have q2 := fun x : ExtW ((w.alloc (.cells #[.int .i64 r, .int .i64 c, .slice a1 l1 c1, .slice a2 l2 c2] 27)).alloc (.cells #[.int .i64 r', .int .i64 c', .slice a3 l3 c3, .slice a4 l4 c4] 27)) => (x.box (heap2b : Box4 ((w.alloc (.cells #[.int .i64 r, .int .i64 c, .slice a1 l1 c1, .slice a2 l2 c2] 27)).alloc (.cells #[.int .i64 r', .int .i64 c', .slice a3 l3 c3, .slice a4 l4 c4] 27)) (w.heap.size + 1) 27 (.int .i64 r') (.int .i64 c') (.slice a3 l3 c3) (.slice a4 l4 c4))).c2
    have q3 := fun x : ExtW ((w.alloc (.cells #[.int .i64 r, .int .i64 c, .slice a1 l1 c1, .slice a2 l2 c2] 27)).alloc (.cells #[.int .i64 r', .int .i64 c', .slice a3 l3 c3, .slice a4 l4 c4] 27)) => (x.box (heap2b : Box4 ((w.alloc (.cells #[.int .i64 r, .int .i64 c, .slice a1 l1 c1, .slice a2 l2 c2] 27)).alloc (.cells #[.int .i64 r', .int .i64 c', .slice a3 l3 c3, .slice a4 l4 c4] 27)) (w.heap.size + 1) 27 (.int .i64 r') (.int .i64 c') (.slice a3 l3 c3) (.slice a4 l4 c4))).c3
    go_enter Try.func28, Try.ntmps28
    go_wp2_with fail
    refine region_ext (by kernel_rfl) (by kernel_rfl) ?_
    repeat (go_big_quiet_step (first | (go_at_call 72; refine (shapeOf_any _ _ _ _ _ _ _ _ _).mono ?_; rintro e w2 ⟨rfl, hb⟩; exact ⟨rfl, ExtW.on _ hb⟩)))
    refine wpQuiet_nil ?_
    intro _ hw'
    obtain ⟨x, hx⟩ := hw'
    subst hx
    go_wp2_with fail
    go_ret
    refine ⟨?_, below_after BW.out (Nat.le_refl _) x.ext⟩
    rw [HV2.out]; rfl
end Go.Proofs.Ytpopmcgieegikaa
