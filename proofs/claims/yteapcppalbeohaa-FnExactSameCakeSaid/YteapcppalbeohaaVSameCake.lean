/-
  The law on SameCake: every argument.
-/
import Derived.Test.YteapcppalbeohaaKSame
import Derived.Test.YteapcppalbeohaaLawKit
namespace Go.Proofs.Yteapcppalbeohaa
open Go.RowKit Go.ChangeShapes Go.WideShapes
set_option linter.unusedVariables false

set_option maxHeartbeats 1000000 in
set_option maxRecDepth 20000 in
theorem walk_fnExactSameCake (v0_0 v0_1 : Int) (a0 : Option Addr) (l0 c0 : Nat) (Z0 : List Int) (v1_0 v1_1 : Int) (a1 : Option Addr) (l1 c1 : Nat) (Z1 : List Int) (w : World) (h0 : IAt w a0 l0 Z0) (h1 : IAt w a1 l1 Z1) :
    Calls Try.prog 5 #[cakeV v0_0 v0_1 a0 l0 c0, cakeV v1_0 v1_1 a1 l1 c1] w fun e w' => e = .returned (.bool true) ∧ Below w.heap.size w w' := by
  have hm0 := h0.2.1
  have HI0 := Lib.hid h0.inB
  clear h0
  have hm1 := h1.2.1
  have HI1 := Lib.hid h1.inB
  clear h1
  by_cases hs0 : (l0 : Int) ≤ 1048576
  · obtain ⟨zz0, hz0⟩ : ∃ z, leftOf 1048576 l0 = z := ⟨_, rfl⟩
    obtain ⟨z0_0, z1_0⟩ := leftOf_le (left := 1048576) (by omega) (by omega) hs0
    rw [hz0] at z0_0 z1_0
    have HZ0 := Lib.hid hz0
    clear hz0
    by_cases hs1 : (l1 : Int) ≤ zz0
    · obtain ⟨zz1, hz1⟩ : ∃ z, leftOf zz0 l1 = z := ⟨_, rfl⟩
      obtain ⟨z0_1, z1_1⟩ := leftOf_le (left := zz0) z0_0 z1_0 hs1
      rw [hz1] at z0_1 z1_1
      have HZ1 := Lib.hid hz1
      clear hz1
      have hl0 : l0 ≤ 1048576 := by omega
      have hl1 : l1 ≤ 1048576 := by omega
      obtain ⟨vv, hval⟩ : ∃ vv, (sameC v0_0 v0_1 Z0 v1_0 v1_1 Z1) = vv := ⟨_, rfl⟩
      have HV := Lib.hid hval
      clear hval
      go_enter Try.func5, Try.ntmps5
      go_wp2_with fail
      refine (szCake_any v0_0 v0_1 a0 l0 c0 1048576 (by omega) (by omega) hm0 _).mono ?_
      rintro e w1 ⟨rfl, b1⟩
      rw [HZ0.out]
      have X0_1 := Lib.hid (Box3.below (heap2a (w := w) (o := .cells #[.int .i64 v0_0, .int .i64 v0_1, .slice a0 l0 c0] 36) (p := .cells #[.int .i64 v1_0, .int .i64 v1_1, .slice a1 l1 c1] 36)) b1)
      have X1_1 := Lib.hid (Box3.below (heap2b (w := w) (o := .cells #[.int .i64 v0_0, .int .i64 v0_1, .slice a0 l0 c0] 36) (p := .cells #[.int .i64 v1_0, .int .i64 v1_1, .slice a1 l1 c1] 36)) b1)
      have B1 := Lib.hid (below_after below2 (Nat.le_refl _) b1)
      have s1 : w.heap.size + 2 ≤ w1.heap.size := by have := b1.size; simp at this; omega
      clear b1
      obtain ⟨⟨pc0, pc1, pc2⟩, _⟩ := X1_1.out.all
      have pclt := X1_1.out.lt
      go_wp2_with fail
      refine (szCake_any v1_0 v1_1 a1 l1 c1 zz0 z0_0 z1_0 hm1 _).mono ?_
      clear pc0 pc1 pc2 pclt
      rintro e w2 ⟨rfl, b2⟩
      rw [HZ1.out]
      have X0_2 := Lib.hid (X0_1.out.below b2)
      have X1_2 := Lib.hid (X1_1.out.below b2)
      have B2 := Lib.hid (below_after B1.out (Nat.le_refl _) b2)
      have s2 := b2.size
      clear b2
      obtain ⟨⟨pc0, pc1, pc2⟩, _⟩ := X0_2.out.all
      have pclt := X0_2.out.lt
      obtain ⟨⟨qc0, qc1, qc2⟩, _⟩ := X1_2.out.all
      have qclt := X1_2.out.lt
      go_wp2_with fail
      go_region_held3 (fun w' => Hid (Below w2.heap.size w2 w') ∧ (w'.cell? ⟨w.heap.size, 0, none⟩ = some (.int .i64 v0_0) ∧ w'.cell? ⟨w.heap.size, 1, none⟩ = some (.int .i64 v0_1) ∧ w'.cell? ⟨w.heap.size, 2, none⟩ = some (.slice a0 l0 c0)) ∧ (w'.cell? ⟨w.heap.size + 1, 0, none⟩ = some (.int .i64 v1_0) ∧ w'.cell? ⟨w.heap.size + 1, 1, none⟩ = some (.int .i64 v1_1) ∧ w'.cell? ⟨w.heap.size + 1, 2, none⟩ = some (.slice a1 l1 c1)))
        (first | exact ⟨keep0, ⟨pc0, pc1, pc2⟩, ⟨qc0, qc1, qc2⟩⟩ | exact keep2_3_3 (by assumption) (by assumption))
        (first
          | (go_at_call_of 22 (Value.slice a0 l0 c0); refine (toCake_any v0_0 v0_1 a0 l0 c0 Z0 _ hl0 (HI0.out.keep (below_after B2.out (Nat.le_refl _) (Hid.out (And.left (by assumption))))).1).mono ?_; rintro e wA ⟨gAs, rfl, oA, bA⟩; have HGA := Lib.hid oA; have BBA := Lib.hid bA; clear oA bA)
          | (go_at_call_of 22 (Value.slice a1 l1 c1); refine (toCake_any v1_0 v1_1 a1 l1 c1 Z1 _ hl1 (HI1.out.keep (below_after B2.out (Nat.le_refl _) (Hid.out (And.left (by assumption))))).1).mono ?_; rintro e wB ⟨gBs, rfl, oB, bB⟩; have HGB := Lib.hid oB; have BBB := Lib.hid bB; clear oB bB)
          | (go_at_call 25; refine (specSameC_any v0_0 v0_1 _ l0 l0 Z0 v1_0 v1_1 _ l1 l1 Z1 _ (by first | exact HGA.out.iat | exact HGA.out.iat.below BBB.out) (by first | exact HGB.out.iat | exact HGB.out.iat.below BBA.out)).mono ?_; rintro e w3 ⟨rfl, bC⟩; rw [HV.out]; have BBC := Lib.hid bC; clear bC))
      all_goals
        have b3 : Below w2.heap.size w2 w3 := Hid.out (And.left (by assumption))
        have X0_3 := Lib.hid (X0_2.out.below b3)
        have X1_3 := Lib.hid (X1_2.out.below b3)
        have B3 := Lib.hid (below_after B2.out (Nat.le_refl _) b3)
        have s3 := b3.size
        clear HGA HGB BBA BBB BBC b3
        clear pc0 pc1 pc2 pclt qc0 qc1 qc2 qclt
        rename_i hHeld
        clear hHeld
        obtain ⟨⟨pc0, pc1, pc2⟩, _⟩ := X0_3.out.all
        have pclt := X0_3.out.lt
        go_wp2_with fail
        refine (toCake_any v0_0 v0_1 a0 l0 c0 Z0 w3 hl0 (HI0.out.keep B3.out).1).mono ?_
        clear pc0 pc1 pc2 pclt
        rintro e w4 ⟨gx0, rfl, o4, b4⟩
        have oo4 := o4
        have X0_4 := Lib.hid (X0_3.out.below b4)
        have X1_4 := Lib.hid (X1_3.out.below b4)
        have B4 := Lib.hid (below_after B3.out (Nat.le_refl _) b4)
        have s4 := b4.size
        have H0_4 := Lib.hid oo4
        clear o4 oo4 b4
        obtain ⟨⟨pc0, pc1, pc2⟩, _⟩ := X1_4.out.all
        have pclt := X1_4.out.lt
        go_wp2_with fail
        have b4' : Below w4.heap.size w4 (w4.alloc (.cells #[.int .i64 v0_0, .int .i64 v0_1, .slice (some ⟨gx0, 0, none⟩) l0 l0] 39)) := below1
        refine (toCake_any v1_0 v1_1 a1 l1 c1 Z1 _ hl1 (HI1.out.keep (below_after B4.out (Nat.le_refl _) b4')).1).mono ?_
        clear pc0 pc1 pc2 pclt
        rintro e w5 ⟨gx1, rfl, o5, b5⟩
        have U0_5 := Lib.hid (Box3.below (heap1 (w := w4) (o := .cells #[.int .i64 v0_0, .int .i64 v0_1, .slice (some ⟨gx0, 0, none⟩) l0 l0] 39)) b5)
        have oo5 := o5.wide (lo' := w4.heap.size + 1) (hi' := w5.heap.size) (by simp) (Nat.le_refl _) (Nat.le_refl _)
        have X0_5 := Lib.hid ((X0_4.out.below b4').below b5)
        have X1_5 := Lib.hid ((X1_4.out.below b4').below b5)
        have H0_5 := Lib.hid ((H0_4.out.below b4').below b5)
        have B5 := Lib.hid (below_after (below_after B4.out (Nat.le_refl _) b4') (Nat.le_refl _) b5)
        have s5 : w4.heap.size + 1 ≤ w5.heap.size := by have := b5.size; simp at this; omega
        clear b4'
        have H1_5 := Lib.hid oo5
        clear o5 oo5 b5
        obtain ⟨⟨pc0, pc1, pc2⟩, _⟩ := U0_5.out.all
        have pclt := U0_5.out.lt
        go_wp2_with fail
        have b5' : Below w5.heap.size w5 (w5.alloc (.cells #[.int .i64 v1_0, .int .i64 v1_1, .slice (some ⟨gx1, 0, none⟩) l1 l1] 39)) := below1
        refine (implSameC_any v0_0 v0_1 _ l0 l0 Z0 v1_0 v1_1 _ l1 l1 Z1 _ (H0_5.out.iat.below b5') (H1_5.out.iat.below b5')).mono ?_
        clear pc0 pc1 pc2 pclt
        rintro e w6 ⟨rfl, b6⟩
        rw [HV.out]
        have U1_6 := Lib.hid (Box3.below (heap1 (w := w5) (o := .cells #[.int .i64 v1_0, .int .i64 v1_1, .slice (some ⟨gx1, 0, none⟩) l1 l1] 39)) b6)
        have X0_6 := Lib.hid ((X0_5.out.below b5').below b6)
        have X1_6 := Lib.hid ((X1_5.out.below b5').below b6)
        have H0_6 := Lib.hid ((H0_5.out.below b5').below b6)
        have U0_6 := Lib.hid ((U0_5.out.below b5').below b6)
        have H1_6 := Lib.hid ((H1_5.out.below b5').below b6)
        have B6 := Lib.hid (below_after (below_after B5.out (Nat.le_refl _) b5') (Nat.le_refl _) b6)
        have s6 : w5.heap.size + 1 ≤ w6.heap.size := by have := b6.size; simp at this; omega
        clear b5'
        clear b6
        obtain ⟨⟨pc0, pc1, pc2⟩, _⟩ := X0_6.out.all
        have pclt := X0_6.out.lt
        obtain ⟨⟨qc0, qc1, qc2⟩, _⟩ := U0_6.out.all
        have qclt := U0_6.out.lt
        go_wp2_with fail
        go_region_held3 (fun w' => Hid (Below w6.heap.size w6 w') ∧ (w'.cell? ⟨w.heap.size, 0, none⟩ = some (.int .i64 v0_0) ∧ w'.cell? ⟨w.heap.size, 1, none⟩ = some (.int .i64 v0_1) ∧ w'.cell? ⟨w.heap.size, 2, none⟩ = some (.slice a0 l0 c0)) ∧ (w'.cell? ⟨w4.heap.size, 0, none⟩ = some (.int .i64 v0_0) ∧ w'.cell? ⟨w4.heap.size, 1, none⟩ = some (.int .i64 v0_1) ∧ w'.cell? ⟨w4.heap.size, 2, none⟩ = some (.slice (some ⟨gx0, 0, none⟩) l0 l0)))
          (first | exact ⟨keep0, ⟨pc0, pc1, pc2⟩, ⟨qc0, qc1, qc2⟩⟩ | exact keep2_3_3 (by assumption) (by assumption))
          (first
            | (go_at_call 22; refine (toCake_any v0_0 v0_1 a0 l0 c0 Z0 _ hl0 (HI0.out.keep (below_after B6.out (Nat.le_refl _) (Hid.out (And.left (by assumption))))).1).mono ?_; rintro e wa ⟨ga, rfl, oa, ba⟩; have HGA := Lib.hid oa; have BBA := Lib.hid ba; clear oa ba)
            | (go_at_call 24; refine (eqCake_any v0_0 v0_1 _ l0 l0 _ l0 Z0 _ (H0_6.out.iat.below (Hid.out (And.left (by assumption)))) HGA.out.iat).mono ?_; rintro e w7 ⟨rfl, bc⟩; have BBC := Lib.hid bc; clear bc))
        have b7 : Below w6.heap.size w6 w7 := Hid.out (And.left (by assumption))
        have X0_7 := Lib.hid (X0_6.out.below b7)
        have X1_7 := Lib.hid (X1_6.out.below b7)
        have H0_7 := Lib.hid (H0_6.out.below b7)
        have U0_7 := Lib.hid (U0_6.out.below b7)
        have H1_7 := Lib.hid (H1_6.out.below b7)
        have U1_7 := Lib.hid (U1_6.out.below b7)
        have B7 := Lib.hid (below_after B6.out (Nat.le_refl _) b7)
        have s7 := b7.size
        clear HGA BBA BBC b7
        clear pc0 pc1 pc2 pclt qc0 qc1 qc2 qclt
        rename_i hHeld
        clear hHeld
        obtain ⟨⟨pc0, pc1, pc2⟩, _⟩ := X1_7.out.all
        have pclt := X1_7.out.lt
        obtain ⟨⟨qc0, qc1, qc2⟩, _⟩ := U1_7.out.all
        have qclt := U1_7.out.lt
        go_wp2_with fail
        go_region_held3 (fun w' => Hid (Below w7.heap.size w7 w') ∧ (w'.cell? ⟨w.heap.size + 1, 0, none⟩ = some (.int .i64 v1_0) ∧ w'.cell? ⟨w.heap.size + 1, 1, none⟩ = some (.int .i64 v1_1) ∧ w'.cell? ⟨w.heap.size + 1, 2, none⟩ = some (.slice a1 l1 c1)) ∧ (w'.cell? ⟨w5.heap.size, 0, none⟩ = some (.int .i64 v1_0) ∧ w'.cell? ⟨w5.heap.size, 1, none⟩ = some (.int .i64 v1_1) ∧ w'.cell? ⟨w5.heap.size, 2, none⟩ = some (.slice (some ⟨gx1, 0, none⟩) l1 l1)))
          (first | exact ⟨keep0, ⟨pc0, pc1, pc2⟩, ⟨qc0, qc1, qc2⟩⟩ | exact keep2_3_3 (by assumption) (by assumption))
          (first
            | (go_at_call 22; refine (toCake_any v1_0 v1_1 a1 l1 c1 Z1 _ hl1 (HI1.out.keep (below_after B7.out (Nat.le_refl _) (Hid.out (And.left (by assumption))))).1).mono ?_; rintro e wa ⟨ga, rfl, oa, ba⟩; have HGA := Lib.hid oa; have BBA := Lib.hid ba; clear oa ba)
            | (go_at_call 24; refine (eqCake_any v1_0 v1_1 _ l1 l1 _ l1 Z1 _ (H1_7.out.iat.below (Hid.out (And.left (by assumption)))) HGA.out.iat).mono ?_; rintro e w8 ⟨rfl, bc⟩; have BBC := Lib.hid bc; clear bc))
        have b8 : Below w7.heap.size w7 w8 := Hid.out (And.left (by assumption))
        have X0_8 := Lib.hid (X0_7.out.below b8)
        have X1_8 := Lib.hid (X1_7.out.below b8)
        have H0_8 := Lib.hid (H0_7.out.below b8)
        have U0_8 := Lib.hid (U0_7.out.below b8)
        have H1_8 := Lib.hid (H1_7.out.below b8)
        have U1_8 := Lib.hid (U1_7.out.below b8)
        have B8 := Lib.hid (below_after B7.out (Nat.le_refl _) b8)
        have s8 := b8.size
        clear HGA BBA BBC b8
        clear pc0 pc1 pc2 pclt qc0 qc1 qc2 qclt
        rename_i hHeld
        clear hHeld
        go_wp2_with fail
        go_ret
        exact ⟨rfl, B8.out⟩
    · skip
      clear HI0 HI1
      have HN := Lib.hid (leftOf_no hs1)
      go_enter Try.func5, Try.ntmps5
      go_wp2_with fail
      refine (szCake_any v0_0 v0_1 a0 l0 c0 1048576 (by omega) (by omega) hm0 _).mono ?_
      rintro e w1 ⟨rfl, b1⟩
      rw [HZ0.out]
      have X0_1 := Lib.hid (Box3.below (heap2a (w := w) (o := .cells #[.int .i64 v0_0, .int .i64 v0_1, .slice a0 l0 c0] 36) (p := .cells #[.int .i64 v1_0, .int .i64 v1_1, .slice a1 l1 c1] 36)) b1)
      have X1_1 := Lib.hid (Box3.below (heap2b (w := w) (o := .cells #[.int .i64 v0_0, .int .i64 v0_1, .slice a0 l0 c0] 36) (p := .cells #[.int .i64 v1_0, .int .i64 v1_1, .slice a1 l1 c1] 36)) b1)
      have B1 := Lib.hid (below_after below2 (Nat.le_refl _) b1)
      clear b1
      obtain ⟨⟨pc0, pc1, pc2⟩, _⟩ := X1_1.out.all
      go_wp2_with fail
      refine (szCake_any v1_0 v1_1 a1 l1 c1 zz0 z0_0 z1_0 hm1 _).mono ?_
      rintro e w2 ⟨rfl, b2⟩
      rw [HN.out]
      clear pc0 pc1 pc2
      have B2 := Lib.hid (below_after B1.out (Nat.le_refl _) b2)
      clear b2
      go_wp2_with fail
      go_ret
      exact ⟨rfl, B2.out⟩
  · skip
    clear HI0 HI1
    have HN := Lib.hid (leftOf_no hs0)
    go_enter Try.func5, Try.ntmps5
    go_wp2_with fail
    refine (szCake_any v0_0 v0_1 a0 l0 c0 1048576 (by omega) (by omega) hm0 _).mono ?_
    rintro e w1 ⟨rfl, b1⟩
    rw [HN.out]
    have X0_1 := Lib.hid (Box3.below (heap2a (w := w) (o := .cells #[.int .i64 v0_0, .int .i64 v0_1, .slice a0 l0 c0] 36) (p := .cells #[.int .i64 v1_0, .int .i64 v1_1, .slice a1 l1 c1] 36)) b1)
    have X1_1 := Lib.hid (Box3.below (heap2b (w := w) (o := .cells #[.int .i64 v0_0, .int .i64 v0_1, .slice a0 l0 c0] 36) (p := .cells #[.int .i64 v1_0, .int .i64 v1_1, .slice a1 l1 c1] 36)) b1)
    have B1 := Lib.hid (below_after below2 (Nat.le_refl _) b1)
    clear b1
    go_wp2_with fail
    go_ret
    exact ⟨rfl, B1.out⟩
end Go.Proofs.Yteapcppalbeohaa
