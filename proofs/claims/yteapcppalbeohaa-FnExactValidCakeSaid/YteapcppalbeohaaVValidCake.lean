/-
  The law on ValidCake: every argument.
-/
import Derived.Test.YteapcppalbeohaaKIs
import Derived.Test.YteapcppalbeohaaLawKit
namespace Go.Proofs.Yteapcppalbeohaa
open Go.RowKit Go.ChangeShapes Go.WideShapes
set_option linter.unusedVariables false

set_option maxHeartbeats 1000000 in
set_option maxRecDepth 20000 in
theorem walk_fnExactValidCake (v0_0 v0_1 : Int) (a0 : Option Addr) (l0 c0 : Nat) (Z0 : List Int) (w : World) (h0 : IAt w a0 l0 Z0) :
    Calls Try.prog 4 #[cakeV v0_0 v0_1 a0 l0 c0] w fun e w' => e = .returned (.bool true) ∧ Below w.heap.size w w' := by
  have hm0 := h0.2.1
  have HI0 := Lib.hid h0.inB
  clear h0
  by_cases hs0 : (l0 : Int) ≤ 1048576
  · obtain ⟨zz0, hz0⟩ : ∃ z, leftOf 1048576 l0 = z := ⟨_, rfl⟩
    obtain ⟨z0_0, z1_0⟩ := leftOf_le (left := 1048576) (by omega) (by omega) hs0
    rw [hz0] at z0_0 z1_0
    have HZ0 := Lib.hid hz0
    clear hz0
    have hl0 : l0 ≤ 1048576 := by omega
    obtain ⟨vv, hval⟩ : ∃ vv, (okC v0_0 v0_1 Z0) = vv := ⟨_, rfl⟩
    have HV := Lib.hid hval
    clear hval
    go_enter Try.func4, Try.ntmps4
    go_wp2_with fail
    refine (szCake_any v0_0 v0_1 a0 l0 c0 1048576 (by omega) (by omega) hm0 _).mono ?_
    rintro e w1 ⟨rfl, b1⟩
    rw [HZ0.out]
    have X0_1 := Lib.hid (Box3.below (heap1 (w := w) (o := .cells #[.int .i64 v0_0, .int .i64 v0_1, .slice a0 l0 c0] 36)) b1)
    have B1 := Lib.hid (below_after below1 (Nat.le_refl _) b1)
    have s1 : w.heap.size + 1 ≤ w1.heap.size := by have := b1.size; simp at this; omega
    clear b1
    obtain ⟨⟨pc0, pc1, pc2⟩, _⟩ := X0_1.out.all
    have pclt := X0_1.out.lt
    go_wp2_with fail
    refine (toCake_any v0_0 v0_1 a0 l0 c0 Z0 w1 hl0 (HI0.out.keep B1.out).1).mono ?_
    clear pc0 pc1 pc2 pclt
    rintro e w2 ⟨s0, rfl, o2, b2⟩
    have X0_2 := Lib.hid (X0_1.out.below b2)
    have B2 := Lib.hid (below_after B1.out (Nat.le_refl _) b2)
    have s2 := b2.size
    have C0s_2 := Lib.hid o2
    clear o2 b2
    go_wp2_with fail
    refine (specValidC_any v0_0 v0_1 _ l0 l0 Z0 w2 C0s_2.out.iat (Nat.le_refl _)).mono ?_
    rintro e w3 ⟨rfl, b3⟩
    rw [HV.out]
    have X0_3 := Lib.hid (X0_2.out.below b3)
    have B3 := Lib.hid (below_after B2.out (Nat.le_refl _) b3)
    have s3 := b3.size
    clear b3
    obtain ⟨⟨pc0, pc1, pc2⟩, _⟩ := X0_3.out.all
    have pclt := X0_3.out.lt
    go_wp2_with fail
    refine (toCake_any v0_0 v0_1 a0 l0 c0 Z0 w3 hl0 (HI0.out.keep B3.out).1).mono ?_
    clear pc0 pc1 pc2 pclt
    rintro e w4 ⟨gx0, rfl, o4, b4⟩
    have oo4 := o4
    have X0_4 := Lib.hid (X0_3.out.below b4)
    have B4 := Lib.hid (below_after B3.out (Nat.le_refl _) b4)
    have s4 := b4.size
    have H0_4 := Lib.hid oo4
    clear o4 oo4 b4
    go_wp2_with fail
    have b4' : Below w4.heap.size w4 (w4.alloc (.cells #[.int .i64 v0_0, .int .i64 v0_1, .slice (some ⟨gx0, 0, none⟩) l0 l0] 39)) := below1
    refine (implValidC_any v0_0 v0_1 _ l0 l0 Z0 _ (H0_4.out.iat.below b4') (Nat.le_refl _)).mono ?_
    rintro e w5 ⟨rfl, b5⟩
    rw [HV.out]
    have U0_5 := Lib.hid (Box3.below (heap1 (w := w4) (o := .cells #[.int .i64 v0_0, .int .i64 v0_1, .slice (some ⟨gx0, 0, none⟩) l0 l0] 39)) b5)
    have X0_5 := Lib.hid ((X0_4.out.below b4').below b5)
    have H0_5 := Lib.hid ((H0_4.out.below b4').below b5)
    have B5 := Lib.hid (below_after (below_after B4.out (Nat.le_refl _) b4') (Nat.le_refl _) b5)
    have s5 : w4.heap.size + 1 ≤ w5.heap.size := by have := b5.size; simp at this; omega
    clear b4'
    clear b5
    obtain ⟨⟨pc0, pc1, pc2⟩, _⟩ := X0_5.out.all
    have pclt := X0_5.out.lt
    obtain ⟨⟨qc0, qc1, qc2⟩, _⟩ := U0_5.out.all
    have qclt := U0_5.out.lt
    go_wp2_with fail
    go_region_held3 (fun w' => Hid (Below w5.heap.size w5 w') ∧ (w'.cell? ⟨w.heap.size, 0, none⟩ = some (.int .i64 v0_0) ∧ w'.cell? ⟨w.heap.size, 1, none⟩ = some (.int .i64 v0_1) ∧ w'.cell? ⟨w.heap.size, 2, none⟩ = some (.slice a0 l0 c0)) ∧ (w'.cell? ⟨w4.heap.size, 0, none⟩ = some (.int .i64 v0_0) ∧ w'.cell? ⟨w4.heap.size, 1, none⟩ = some (.int .i64 v0_1) ∧ w'.cell? ⟨w4.heap.size, 2, none⟩ = some (.slice (some ⟨gx0, 0, none⟩) l0 l0)))
      (first | exact ⟨keep0, ⟨pc0, pc1, pc2⟩, ⟨qc0, qc1, qc2⟩⟩ | exact keep2_3_3 (by assumption) (by assumption))
      (first
        | (go_at_call 22; refine (toCake_any v0_0 v0_1 a0 l0 c0 Z0 _ hl0 (HI0.out.keep (below_after B5.out (Nat.le_refl _) (Hid.out (And.left (by assumption))))).1).mono ?_; rintro e wa ⟨ga, rfl, oa, ba⟩; have HGA := Lib.hid oa; have BBA := Lib.hid ba; clear oa ba)
        | (go_at_call 24; refine (eqCake_any v0_0 v0_1 _ l0 l0 _ l0 Z0 _ (H0_5.out.iat.below (Hid.out (And.left (by assumption)))) HGA.out.iat).mono ?_; rintro e w6 ⟨rfl, bc⟩; have BBC := Lib.hid bc; clear bc))
    have b6 : Below w5.heap.size w5 w6 := Hid.out (And.left (by assumption))
    have X0_6 := Lib.hid (X0_5.out.below b6)
    have H0_6 := Lib.hid (H0_5.out.below b6)
    have U0_6 := Lib.hid (U0_5.out.below b6)
    have B6 := Lib.hid (below_after B5.out (Nat.le_refl _) b6)
    have s6 := b6.size
    clear HGA BBA BBC b6
    clear pc0 pc1 pc2 pclt qc0 qc1 qc2 qclt
    rename_i hHeld
    clear hHeld
    go_wp2_with fail
    go_ret
    exact ⟨rfl, B6.out⟩
  · skip
    clear HI0
    have HN := Lib.hid (leftOf_no hs0)
    go_enter Try.func4, Try.ntmps4
    go_wp2_with fail
    refine (szCake_any v0_0 v0_1 a0 l0 c0 1048576 (by omega) (by omega) hm0 _).mono ?_
    rintro e w1 ⟨rfl, b1⟩
    rw [HN.out]
    have X0_1 := Lib.hid (Box3.below (heap1 (w := w) (o := .cells #[.int .i64 v0_0, .int .i64 v0_1, .slice a0 l0 c0] 36)) b1)
    have B1 := Lib.hid (below_after below1 (Nat.le_refl _) b1)
    clear b1
    go_wp2_with fail
    go_ret
    exact ⟨rfl, B1.out⟩
end Go.Proofs.Yteapcppalbeohaa
