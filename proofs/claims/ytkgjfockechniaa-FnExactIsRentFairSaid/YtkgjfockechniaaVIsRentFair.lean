/-
  The law on IsRentFair: every argument.
-/
import Derived.Test.YtkgjfockechniaaTRentT
import Derived.Test.YtkgjfockechniaaLawKit
namespace Go.Proofs.Ytkgjfockechniaa
open Go.RowKit Go.ChangeShapes Go.WideShapes
set_option linter.unusedVariables false

set_option maxHeartbeats 1000000 in
set_option maxRecDepth 20000 in
theorem walk_fnExactIsRentFair (v0_0 v0_1 : Int) (a0 : Option Addr) (l0 c0 : Nat) (Z0 : List Int) (a1 : Option Addr) (l1 c1 : Nat) (Z1 : List Int) (a2 : Option Addr) (l2 c2 : Nat) (Z2 : List Int) (w : World) (h0 : IAt w a0 l0 Z0) (h1 : IAt w a1 l1 Z1) (h2 : IAt w a2 l2 Z2) :
    Calls Try.prog 18 #[valuesV v0_0 v0_1 a0 l0 c0, .slice a1 l1 c1, .slice a2 l2 c2] w fun e w' => e = .returned (.bool true) ∧ Below w.heap.size w w' := by
  have hm0 := h0.2.1
  have HI0 := Lib.hid h0.inB
  clear h0
  have hm1 := h1.2.1
  have HI1 := Lib.hid h1.inB
  clear h1
  have hm2 := h2.2.1
  have HI2 := Lib.hid h2.inB
  clear h2
  by_cases hs1 : (l1 : Int) ≤ 1048576
  · skip
    by_cases hs2 : (l2 : Int) ≤ 1048576
    · skip
      by_cases hs0 : (l0 : Int) ≤ 1048576
      · obtain ⟨zz0, hz0⟩ : ∃ z, leftOf 1048576 l0 = z := ⟨_, rfl⟩
        obtain ⟨z0_0, z1_0⟩ := leftOf_le (left := 1048576) (by omega) (by omega) hs0
        rw [hz0] at z0_0 z1_0
        have HZ0 := Lib.hid hz0
        clear hz0
        have hl0 : l0 ≤ 1048576 := by omega
        have hl1 : l1 ≤ 1048576 := by omega
        have hl2 : l2 ≤ 1048576 := by omega
        obtain ⟨uu, vv, hval⟩ : ∃ uu vv, (rentV v0_0 v0_1 Z0 Z1 Z2) = (uu, vv) := ⟨_, _, rfl⟩
        have HV := Lib.hid hval
        clear hval
        go_enter Try.func18, Try.ntmps18
        go_wp2_with fail
        refine (szValues_any v0_0 v0_1 a0 l0 c0 1048576 (by omega) (by omega) hm0 _).mono ?_
        rintro e w1 ⟨rfl, b1⟩
        rw [HZ0.out]
        have X0_1 := Lib.hid (Box3.below (heap1 (w := w) (o := .cells #[.int .i64 v0_0, .int .i64 v0_1, .slice a0 l0 c0] 24)) b1)
        have B1 := Lib.hid (below_after below1 (Nat.le_refl _) b1)
        have s1 : w.heap.size + 1 ≤ w1.heap.size := by have := b1.size; simp at this; omega
        clear b1
        obtain ⟨⟨pc0, pc1, pc2⟩, _⟩ := X0_1.out.all
        have pclt := X0_1.out.lt
        go_wp2_with fail
        refine (toValues_any v0_0 v0_1 a0 l0 c0 Z0 w1 hl0 (HI0.out.keep B1.out).1).mono ?_
        clear pc0 pc1 pc2 pclt
        rintro e w2 ⟨s0, rfl, o2, b2⟩
        have X0_2 := Lib.hid (X0_1.out.below b2)
        have B2 := Lib.hid (below_after B1.out (Nat.le_refl _) b2)
        have s2 := b2.size
        have C0s_2 := Lib.hid o2
        clear o2 b2
        go_wp2_with fail
        refine (copy_any a1 l1 c1 Z1 w2 hl1 (HI1.out.keep B2.out).1).mono ?_
        rintro e w3 ⟨s1, rfl, o3, b3⟩
        have X0_3 := Lib.hid (X0_2.out.below b3)
        have C0s_3 := Lib.hid (C0s_2.out.below b3)
        have B3 := Lib.hid (below_after B2.out (Nat.le_refl _) b3)
        have s3 := b3.size
        have C1s_3 := Lib.hid o3
        clear o3 b3
        go_wp2_with fail
        refine (copy_any a2 l2 c2 Z2 w3 hl2 (HI2.out.keep B3.out).1).mono ?_
        rintro e w4 ⟨s2, rfl, o4, b4⟩
        have X0_4 := Lib.hid (X0_3.out.below b4)
        have C0s_4 := Lib.hid (C0s_3.out.below b4)
        have C1s_4 := Lib.hid (C1s_3.out.below b4)
        have B4 := Lib.hid (below_after B3.out (Nat.le_refl _) b4)
        have s4 := b4.size
        have C2s_4 := Lib.hid o4
        clear o4 b4
        go_wp2_with fail
        refine (specRent_any v0_0 v0_1 _ l0 l0 Z0 _ l1 l1 Z1 _ l2 l2 Z2 w4 C0s_4.out.iat C1s_4.out.iat C2s_4.out.iat (Nat.le_refl _) (Nat.le_refl _) (Nat.le_refl _)).mono ?_
        rintro e w5 ⟨rfl, b5⟩
        rw [HV.out]
        have X0_5 := Lib.hid (X0_4.out.below b5)
        have B5 := Lib.hid (below_after B4.out (Nat.le_refl _) b5)
        have s5 := b5.size
        clear b5
        obtain ⟨⟨pc0, pc1, pc2⟩, _⟩ := X0_5.out.all
        have pclt := X0_5.out.lt
        go_wp2_with fail
        refine (toValues_any v0_0 v0_1 a0 l0 c0 Z0 w5 hl0 (HI0.out.keep B5.out).1).mono ?_
        clear pc0 pc1 pc2 pclt
        rintro e w6 ⟨gx0, rfl, o6, b6⟩
        have oo6 := o6
        have X0_6 := Lib.hid (X0_5.out.below b6)
        have B6 := Lib.hid (below_after B5.out (Nat.le_refl _) b6)
        have s6 := b6.size
        have H0_6 := Lib.hid oo6
        clear o6 oo6 b6
        go_wp2_with fail
        have b6' : Below w6.heap.size w6 (w6.alloc (.cells #[.int .i64 v0_0, .int .i64 v0_1, .slice (some ⟨gx0, 0, none⟩) l0 l0] 27)) := below1
        refine (copy_any a1 l1 c1 Z1 _ hl1 (HI1.out.keep (below_after B6.out (Nat.le_refl _) b6')).1).mono ?_
        rintro e w7 ⟨gx1, rfl, o7, b7⟩
        have U0_7 := Lib.hid (Box3.below (heap1 (w := w6) (o := .cells #[.int .i64 v0_0, .int .i64 v0_1, .slice (some ⟨gx0, 0, none⟩) l0 l0] 27)) b7)
        have oo7 := o7.wide (lo' := w6.heap.size + 1) (hi' := w7.heap.size) (by simp) (Nat.le_refl _) (Nat.le_refl _)
        have X0_7 := Lib.hid ((X0_6.out.below b6').below b7)
        have H0_7 := Lib.hid ((H0_6.out.below b6').below b7)
        have B7 := Lib.hid (below_after (below_after B6.out (Nat.le_refl _) b6') (Nat.le_refl _) b7)
        have s7 : w6.heap.size + 1 ≤ w7.heap.size := by have := b7.size; simp at this; omega
        clear b6'
        have H1_7 := Lib.hid oo7
        clear o7 oo7 b7
        go_wp2_with fail
        refine (copy_any a2 l2 c2 Z2 w7 hl2 (HI2.out.keep B7.out).1).mono ?_
        rintro e w8 ⟨gx2, rfl, o8, b8⟩
        have oo8 := o8
        have X0_8 := Lib.hid (X0_7.out.below b8)
        have H0_8 := Lib.hid (H0_7.out.below b8)
        have U0_8 := Lib.hid (U0_7.out.below b8)
        have H1_8 := Lib.hid (H1_7.out.below b8)
        have B8 := Lib.hid (below_after B7.out (Nat.le_refl _) b8)
        have s8 := b8.size
        have H2_8 := Lib.hid oo8
        clear o8 oo8 b8
        obtain ⟨⟨pc0, pc1, pc2⟩, _⟩ := U0_8.out.all
        have pclt := U0_8.out.lt
        go_wp2_with fail
        refine (implRent_any v0_0 v0_1 _ l0 l0 Z0 _ l1 l1 Z1 _ l2 l2 Z2 _ H0_8.out.iat H1_8.out.iat H2_8.out.iat (Nat.le_refl _) (Nat.le_refl _) (Nat.le_refl _)).mono ?_
        clear pc0 pc1 pc2 pclt
        rintro e w9 ⟨rfl, b9⟩
        rw [HV.out]
        have X0_9 := Lib.hid (X0_8.out.below b9)
        have H0_9 := Lib.hid (H0_8.out.below b9)
        have U0_9 := Lib.hid (U0_8.out.below b9)
        have H1_9 := Lib.hid (H1_8.out.below b9)
        have H2_9 := Lib.hid (H2_8.out.below b9)
        have B9 := Lib.hid (below_after B8.out (Nat.le_refl _) b9)
        have s9 := b9.size
        clear b9
        obtain ⟨⟨pc0, pc1, pc2⟩, _⟩ := X0_9.out.all
        have pclt := X0_9.out.lt
        obtain ⟨⟨qc0, qc1, qc2⟩, _⟩ := U0_9.out.all
        have qclt := U0_9.out.lt
        go_wp2_with fail
        go_region_held3 (fun w' => Hid (Below w9.heap.size w9 w') ∧ (w'.cell? ⟨w.heap.size, 0, none⟩ = some (.int .i64 v0_0) ∧ w'.cell? ⟨w.heap.size, 1, none⟩ = some (.int .i64 v0_1) ∧ w'.cell? ⟨w.heap.size, 2, none⟩ = some (.slice a0 l0 c0)) ∧ (w'.cell? ⟨w6.heap.size, 0, none⟩ = some (.int .i64 v0_0) ∧ w'.cell? ⟨w6.heap.size, 1, none⟩ = some (.int .i64 v0_1) ∧ w'.cell? ⟨w6.heap.size, 2, none⟩ = some (.slice (some ⟨gx0, 0, none⟩) l0 l0)))
          (first | exact ⟨keep0, ⟨pc0, pc1, pc2⟩, ⟨qc0, qc1, qc2⟩⟩ | exact keep2_3_3 (by assumption) (by assumption))
          (first
            | (go_at_call 21; refine (toValues_any v0_0 v0_1 a0 l0 c0 Z0 _ hl0 (HI0.out.keep (below_after B9.out (Nat.le_refl _) (Hid.out (And.left (by assumption))))).1).mono ?_; rintro e wa ⟨ga, rfl, oa, ba⟩; have HGA := Lib.hid oa; have BBA := Lib.hid ba; clear oa ba)
            | (go_at_call 23; refine (eqValues_any v0_0 v0_1 _ l0 l0 _ l0 Z0 _ (H0_9.out.iat.below (Hid.out (And.left (by assumption)))) HGA.out.iat).mono ?_; rintro e w10 ⟨rfl, bc⟩; have BBC := Lib.hid bc; clear bc))
        have b10 : Below w9.heap.size w9 w10 := Hid.out (And.left (by assumption))
        have X0_10 := Lib.hid (X0_9.out.below b10)
        have H0_10 := Lib.hid (H0_9.out.below b10)
        have U0_10 := Lib.hid (U0_9.out.below b10)
        have H1_10 := Lib.hid (H1_9.out.below b10)
        have H2_10 := Lib.hid (H2_9.out.below b10)
        have B10 := Lib.hid (below_after B9.out (Nat.le_refl _) b10)
        have s10 := b10.size
        clear HGA BBA BBC b10
        clear pc0 pc1 pc2 pclt qc0 qc1 qc2 qclt
        rename_i hHeld
        clear hHeld
        go_wp2_with fail
        refine (copy_any a1 l1 c1 Z1 w10 hl1 (HI1.out.keep B10.out).1).mono ?_
        rintro e w11 ⟨ga, rfl, o11, b11⟩
        have X0_11 := Lib.hid (X0_10.out.below b11)
        have H0_11 := Lib.hid (H0_10.out.below b11)
        have U0_11 := Lib.hid (U0_10.out.below b11)
        have H1_11 := Lib.hid (H1_10.out.below b11)
        have H2_11 := Lib.hid (H2_10.out.below b11)
        have B11 := Lib.hid (below_after B10.out (Nat.le_refl _) b11)
        have s11 := b11.size
        have CA11 := Lib.hid o11
        clear o11 b11
        go_wp2_with fail
        refine (eqB_any _ _ l1 l1 l1 Z1 w11 H1_11.out.iat CA11.out.iat).mono ?_
        rintro e w12 ⟨rfl, b12⟩
        clear CA11
        have X0_12 := Lib.hid (X0_11.out.below b12)
        have H0_12 := Lib.hid (H0_11.out.below b12)
        have U0_12 := Lib.hid (U0_11.out.below b12)
        have H1_12 := Lib.hid (H1_11.out.below b12)
        have H2_12 := Lib.hid (H2_11.out.below b12)
        have B12 := Lib.hid (below_after B11.out (Nat.le_refl _) b12)
        have s12 := b12.size
        clear b12
        go_wp2_with fail
        refine (copy_any a2 l2 c2 Z2 w12 hl2 (HI2.out.keep B12.out).1).mono ?_
        rintro e w13 ⟨ga, rfl, o13, b13⟩
        have X0_13 := Lib.hid (X0_12.out.below b13)
        have H0_13 := Lib.hid (H0_12.out.below b13)
        have U0_13 := Lib.hid (U0_12.out.below b13)
        have H1_13 := Lib.hid (H1_12.out.below b13)
        have H2_13 := Lib.hid (H2_12.out.below b13)
        have B13 := Lib.hid (below_after B12.out (Nat.le_refl _) b13)
        have s13 := b13.size
        have CA13 := Lib.hid o13
        clear o13 b13
        go_wp2_with fail
        refine (eqB_any _ _ l2 l2 l2 Z2 w13 H2_13.out.iat CA13.out.iat).mono ?_
        rintro e w14 ⟨rfl, b14⟩
        clear CA13
        have X0_14 := Lib.hid (X0_13.out.below b14)
        have H0_14 := Lib.hid (H0_13.out.below b14)
        have U0_14 := Lib.hid (U0_13.out.below b14)
        have H1_14 := Lib.hid (H1_13.out.below b14)
        have H2_14 := Lib.hid (H2_13.out.below b14)
        have B14 := Lib.hid (below_after B13.out (Nat.le_refl _) b14)
        have s14 := b14.size
        clear b14
        go_wp2_with fail
        go_ret
        exact ⟨rfl, B14.out⟩
      · skip
        clear HI0 HI1 HI2
        have HN := Lib.hid (leftOf_no hs0)
        go_enter Try.func18, Try.ntmps18
        go_wp2_with fail
        refine (szValues_any v0_0 v0_1 a0 l0 c0 1048576 (by omega) (by omega) hm0 _).mono ?_
        rintro e w1 ⟨rfl, b1⟩
        rw [HN.out]
        have X0_1 := Lib.hid (Box3.below (heap1 (w := w) (o := .cells #[.int .i64 v0_0, .int .i64 v0_1, .slice a0 l0 c0] 24)) b1)
        have B1 := Lib.hid (below_after below1 (Nat.le_refl _) b1)
        clear b1
        go_wp2_with fail
        go_ret
        exact ⟨rfl, B1.out⟩
    · skip
      clear HI0 HI1 HI2
      skip
      go_enter Try.func18, Try.ntmps18
      go_wp2_with fail
      go_ret
      exact ⟨rfl, below1⟩
  · skip
    clear HI0 HI1 HI2
    skip
    go_enter Try.func18, Try.ntmps18
    go_wp2_with fail
    go_ret
    exact ⟨rfl, below1⟩
end Go.Proofs.Ytkgjfockechniaa
