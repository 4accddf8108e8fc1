/-
  The law on IsFreeUpToOne: every argument.
-/
import Derived.Test.YtblckofdpgenkaaTUpToS
import Derived.Test.YtblckofdpgenkaaLawKit
namespace Go.Proofs.Ytblckofdpgenkaa
open Go.RowKit Go.ChangeShapes Go.WideShapes
set_option linter.unusedVariables false

set_option maxHeartbeats 1000000 in
set_option maxRecDepth 20000 in
theorem walk_fnExactIsFreeUpToOne (v0_0 v0_1 : Int) (a0 : Option Addr) (l0 c0 : Nat) (Z0 : List Int) (a1 : Option Addr) (l1 c1 : Nat) (Z1 : List Int) (w : World) (h0 : IAt w a0 l0 Z0) (h1 : IAt w a1 l1 Z1) :
    Calls Try.prog 8 #[valuesV v0_0 v0_1 a0 l0 c0, .slice a1 l1 c1] w fun e w' => e = .returned (.bool true) ∧ Below w.heap.size w w' := by
  have hm0 := h0.2.1
  have HI0 := Lib.hid h0.inB
  clear h0
  have hm1 := h1.2.1
  have HI1 := Lib.hid h1.inB
  clear h1
  by_cases hs1 : (l1 : Int) ≤ 1048576
  · skip
    by_cases hs0 : (l0 : Int) ≤ 1048576
    · obtain ⟨zz0, hz0⟩ : ∃ z, leftOf 1048576 l0 = z := ⟨_, rfl⟩
      obtain ⟨z0_0, z1_0⟩ := leftOf_le (left := 1048576) (by omega) (by omega) hs0
      rw [hz0] at z0_0 z1_0
      have HZ0 := Lib.hid hz0
      clear hz0
      have hl0 : l0 ≤ 1048576 := by omega
      have hl1 : l1 ≤ 1048576 := by omega
      obtain ⟨uu, vv, hval⟩ : ∃ uu vv, (upV v0_0 v0_1 Z0 Z1) = (uu, vv) := ⟨_, _, rfl⟩
      have HV := Lib.hid hval
      clear hval
      go_enter Try.func8, Try.ntmps8
      go_wp2_with fail
      refine (szValues_any v0_0 v0_1 a0 l0 c0 1048576 (by omega) (by omega) hm0 _).mono ?_
      rintro e w1 ⟨rfl, b1⟩
      rw [HZ0.out]
      have X0_1 := Lib.hid (Box3.below (heap1 (w := w) (o := .cells #[.int .i64 v0_0, .int .i64 v0_1, .slice a0 l0 c0] 24)) b1)
      have B1 := Lib.hid (below_after below1 (Nat.le_refl _) b1)
      have s1 : w.heap.size + 1 ≤ w1.heap.size := by have := b1.size; simp at this; omega
      clear b1
      obtain ⟨⟨pc0, pc1, pc2⟩, _⟩ := X0_1.out.all
      have pclt := X0_1.out.lt
      go_wp2_with fail
      refine (toValues_any v0_0 v0_1 a0 l0 c0 Z0 w1 hl0 (HI0.out.keep B1.out).1).mono ?_
      clear pc0 pc1 pc2 pclt
      rintro e w2 ⟨s0, rfl, o2, b2⟩
      have X0_2 := Lib.hid (X0_1.out.below b2)
      have B2 := Lib.hid (below_after B1.out (Nat.le_refl _) b2)
      have s2 := b2.size
      have C0s_2 := Lib.hid o2
      clear o2 b2
      go_wp2_with fail
      refine (copy_any a1 l1 c1 Z1 w2 hl1 (HI1.out.keep B2.out).1).mono ?_
      rintro e w3 ⟨s1, rfl, o3, b3⟩
      have X0_3 := Lib.hid (X0_2.out.below b3)
      have C0s_3 := Lib.hid (C0s_2.out.below b3)
      have B3 := Lib.hid (below_after B2.out (Nat.le_refl _) b3)
      have s3 := b3.size
      have C1s_3 := Lib.hid o3
      clear o3 b3
      go_wp2_with fail
      refine (specUp_any v0_0 v0_1 _ l0 l0 Z0 _ l1 l1 Z1 w3 C0s_3.out.iat C1s_3.out.iat (Nat.le_refl _)).mono ?_
      rintro e w4 ⟨rfl, b4⟩
      rw [HV.out]
      have X0_4 := Lib.hid (X0_3.out.below b4)
      have B4 := Lib.hid (below_after B3.out (Nat.le_refl _) b4)
      have s4 := b4.size
      clear b4
      obtain ⟨⟨pc0, pc1, pc2⟩, _⟩ := X0_4.out.all
      have pclt := X0_4.out.lt
      go_wp2_with fail
      refine (toValues_any v0_0 v0_1 a0 l0 c0 Z0 w4 hl0 (HI0.out.keep B4.out).1).mono ?_
      clear pc0 pc1 pc2 pclt
      rintro e w5 ⟨gx0, rfl, o5, b5⟩
      have oo5 := o5
      have X0_5 := Lib.hid (X0_4.out.below b5)
      have B5 := Lib.hid (below_after B4.out (Nat.le_refl _) b5)
      have s5 := b5.size
      have H0_5 := Lib.hid oo5
      clear o5 oo5 b5
      go_wp2_with fail
      have b5' : Below w5.heap.size w5 (w5.alloc (.cells #[.int .i64 v0_0, .int .i64 v0_1, .slice (some ⟨gx0, 0, none⟩) l0 l0] 27)) := below1
      refine (copy_any a1 l1 c1 Z1 _ hl1 (HI1.out.keep (below_after B5.out (Nat.le_refl _) b5')).1).mono ?_
      rintro e w6 ⟨gx1, rfl, o6, b6⟩
      have U0_6 := Lib.hid (Box3.below (heap1 (w := w5) (o := .cells #[.int .i64 v0_0, .int .i64 v0_1, .slice (some ⟨gx0, 0, none⟩) l0 l0] 27)) b6)
      have oo6 := o6.wide (lo' := w5.heap.size + 1) (hi' := w6.heap.size) (by simp) (Nat.le_refl _) (Nat.le_refl _)
      have X0_6 := Lib.hid ((X0_5.out.below b5').below b6)
      have H0_6 := Lib.hid ((H0_5.out.below b5').below b6)
      have B6 := Lib.hid (below_after (below_after B5.out (Nat.le_refl _) b5') (Nat.le_refl _) b6)
      have s6 : w5.heap.size + 1 ≤ w6.heap.size := by have := b6.size; simp at this; omega
      clear b5'
      have H1_6 := Lib.hid oo6
      clear o6 oo6 b6
      obtain ⟨⟨pc0, pc1, pc2⟩, _⟩ := U0_6.out.all
      have pclt := U0_6.out.lt
      go_wp2_with fail
      refine (implUp_any v0_0 v0_1 _ l0 l0 Z0 _ l1 l1 Z1 _ H0_6.out.iat H1_6.out.iat (Nat.le_refl _)).mono ?_
      clear pc0 pc1 pc2 pclt
      rintro e w7 ⟨rfl, b7⟩
      rw [HV.out]
      have X0_7 := Lib.hid (X0_6.out.below b7)
      have H0_7 := Lib.hid (H0_6.out.below b7)
      have U0_7 := Lib.hid (U0_6.out.below b7)
      have H1_7 := Lib.hid (H1_6.out.below b7)
      have B7 := Lib.hid (below_after B6.out (Nat.le_refl _) b7)
      have s7 := b7.size
      clear b7
      obtain ⟨⟨pc0, pc1, pc2⟩, _⟩ := X0_7.out.all
      have pclt := X0_7.out.lt
      obtain ⟨⟨qc0, qc1, qc2⟩, _⟩ := U0_7.out.all
      have qclt := U0_7.out.lt
      go_wp2_with fail
      go_region_held3 (fun w' => Hid (Below w7.heap.size w7 w') ∧ (w'.cell? ⟨w.heap.size, 0, none⟩ = some (.int .i64 v0_0) ∧ w'.cell? ⟨w.heap.size, 1, none⟩ = some (.int .i64 v0_1) ∧ w'.cell? ⟨w.heap.size, 2, none⟩ = some (.slice a0 l0 c0)) ∧ (w'.cell? ⟨w5.heap.size, 0, none⟩ = some (.int .i64 v0_0) ∧ w'.cell? ⟨w5.heap.size, 1, none⟩ = some (.int .i64 v0_1) ∧ w'.cell? ⟨w5.heap.size, 2, none⟩ = some (.slice (some ⟨gx0, 0, none⟩) l0 l0)))
        (first | exact ⟨keep0, ⟨pc0, pc1, pc2⟩, ⟨qc0, qc1, qc2⟩⟩ | exact keep2_3_3 (by assumption) (by assumption))
        (first
          | (go_at_call 21; refine (toValues_any v0_0 v0_1 a0 l0 c0 Z0 _ hl0 (HI0.out.keep (below_after B7.out (Nat.le_refl _) (Hid.out (And.left (by assumption))))).1).mono ?_; rintro e wa ⟨ga, rfl, oa, ba⟩; have HGA := Lib.hid oa; have BBA := Lib.hid ba; clear oa ba)
          | (go_at_call 23; refine (eqValues_any v0_0 v0_1 _ l0 l0 _ l0 Z0 _ (H0_7.out.iat.below (Hid.out (And.left (by assumption)))) HGA.out.iat).mono ?_; rintro e w8 ⟨rfl, bc⟩; have BBC := Lib.hid bc; clear bc))
      have b8 : Below w7.heap.size w7 w8 := Hid.out (And.left (by assumption))
      have X0_8 := Lib.hid (X0_7.out.below b8)
      have H0_8 := Lib.hid (H0_7.out.below b8)
      have U0_8 := Lib.hid (U0_7.out.below b8)
      have H1_8 := Lib.hid (H1_7.out.below b8)
      have B8 := Lib.hid (below_after B7.out (Nat.le_refl _) b8)
      have s8 := b8.size
      clear HGA BBA BBC b8
      clear pc0 pc1 pc2 pclt qc0 qc1 qc2 qclt
      rename_i hHeld
      clear hHeld
      go_wp2_with fail
      refine (copy_any a1 l1 c1 Z1 w8 hl1 (HI1.out.keep B8.out).1).mono ?_
      rintro e w9 ⟨ga, rfl, o9, b9⟩
      have X0_9 := Lib.hid (X0_8.out.below b9)
      have H0_9 := Lib.hid (H0_8.out.below b9)
      have U0_9 := Lib.hid (U0_8.out.below b9)
      have H1_9 := Lib.hid (H1_8.out.below b9)
      have B9 := Lib.hid (below_after B8.out (Nat.le_refl _) b9)
      have s9 := b9.size
      have CA9 := Lib.hid o9
      clear o9 b9
      go_wp2_with fail
      refine (eqB_any _ _ l1 l1 l1 Z1 w9 H1_9.out.iat CA9.out.iat).mono ?_
      rintro e w10 ⟨rfl, b10⟩
      clear CA9
      have X0_10 := Lib.hid (X0_9.out.below b10)
      have H0_10 := Lib.hid (H0_9.out.below b10)
      have U0_10 := Lib.hid (U0_9.out.below b10)
      have H1_10 := Lib.hid (H1_9.out.below b10)
      have B10 := Lib.hid (below_after B9.out (Nat.le_refl _) b10)
      have s10 := b10.size
      clear b10
      go_wp2_with fail
      go_ret
      exact ⟨rfl, B10.out⟩
    · skip
      clear HI0 HI1
      have HN := Lib.hid (leftOf_no hs0)
      go_enter Try.func8, Try.ntmps8
      go_wp2_with fail
      refine (szValues_any v0_0 v0_1 a0 l0 c0 1048576 (by omega) (by omega) hm0 _).mono ?_
      rintro e w1 ⟨rfl, b1⟩
      rw [HN.out]
      have X0_1 := Lib.hid (Box3.below (heap1 (w := w) (o := .cells #[.int .i64 v0_0, .int .i64 v0_1, .slice a0 l0 c0] 24)) b1)
      have B1 := Lib.hid (below_after below1 (Nat.le_refl _) b1)
      clear b1
      go_wp2_with fail
      go_ret
      exact ⟨rfl, B1.out⟩
  · skip
    clear HI0 HI1
    skip
    go_enter Try.func8, Try.ntmps8
    go_wp2_with fail
    go_ret
    exact ⟨rfl, below1⟩
end Go.Proofs.Ytblckofdpgenkaa
