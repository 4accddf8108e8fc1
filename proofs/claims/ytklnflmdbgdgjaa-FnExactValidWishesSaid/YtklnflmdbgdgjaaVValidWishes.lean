/-
  The law on ValidWishes: every argument.
-/
import Derived.Test.YtklnflmdbgdgjaaWishI
import Derived.Test.YtklnflmdbgdgjaaLawKit
import Derived.Test.YtklnflmdbgdgjaaSWishes
namespace Go.Proofs.Ytklnflmdbgdgjaa
open Go.RowKit Go.ChangeShapes Go.WideShapes
set_option linter.unusedVariables false

set_option maxHeartbeats 1000000 in
set_option maxRecDepth 20000 in
theorem walk_fnExactValidWishes (a0 : Option Addr) (l0 c0 : Nat) (b0 : Option Addr) (m0 d0 : Nat) (Z0 Y0 : List (List Int)) (w : World) (h0 : WAt w a0 l0 b0 m0 Z0 Y0) :
    Calls Try.prog 3 #[wishesV a0 l0 c0 b0 m0 d0] w fun e w' => e = .returned (.bool true) ∧ Below w.heap.size w w' := by
  have HI0 := Lib.hid h0.inB
  clear h0
  by_cases hs0 : (((totW l0 m0 Z0 Y0) : Nat) : Int) ≤ 1048576
  · obtain ⟨zz0, hz0⟩ : ∃ z, leftOf 1048576 (totW l0 m0 Z0 Y0) = z := ⟨_, rfl⟩
    obtain ⟨z0_0, z1_0⟩ := leftOf_le (left := 1048576) (by omega) (by omega) hs0
    rw [hz0] at z0_0 z1_0
    have HZ0 := Lib.hid hz0
    clear hz0
    obtain ⟨t0, ht0⟩ : ∃ t : Nat, tot Z0 + tot Y0 = t := ⟨_, rfl⟩
    have hl0 : totW l0 m0 Z0 Y0 ≤ 1048576 := by omega
    have tb0 : t0 ≤ 1048576 := by unfold totW at hl0; omega
    have HT0 := Lib.hid ht0
    clear ht0
    clear hs0
    obtain ⟨vv, hval⟩ : ∃ vv, (okWish Z0 Y0) = vv := ⟨_, rfl⟩
    have HV := Lib.hid hval
    clear hval
    go_enter Try.func3, Try.ntmps3
    go_wp2_with fail
    refine (szWishes_any a0 l0 c0 b0 m0 d0 Z0 Y0 1048576 (by omega) (by omega) _ (HI0.out.keep below1).iat).mono ?_
    rintro e w1 ⟨rfl, b1⟩
    rw [HZ0.out]
    have X0_1 := Lib.hid (Box2.below (heap1 (w := w) (o := .cells #[.slice a0 l0 c0, .slice b0 m0 d0] 24)) b1)
    have B1 := Lib.hid (below_after below1 (Nat.le_refl _) b1)
    have s1 : w.heap.size + 1 ≤ w1.heap.size := by have := b1.size; simp at this; omega
    clear b1
    obtain ⟨⟨pc0, pc1⟩, _⟩ := X0_1.out.all
    have pclt := X0_1.out.lt
    go_wp2_with fail
    refine (toWishes_any a0 l0 c0 b0 m0 d0 Z0 Y0 w1 hl0 (HI0.out.keep B1.out).iat).mono ?_
    clear pc0 pc1 pclt
    rintro e w2 ⟨s0, s0', rfl, o2, b2⟩
    have X0_2 := Lib.hid (X0_1.out.below b2)
    have B2 := Lib.hid (below_after B1.out (Nat.le_refl _) b2)
    have s2 := b2.size
    have C0s_2 := Lib.hid o2
    clear o2 b2
    go_wp2_with fail
    refine (specValidWishes_any _ l0 l0 _ m0 m0 Z0 Y0 w2 C0s_2.out.iat).mono ?_
    rintro e w3 ⟨rfl, b3⟩
    rw [HV.out]
    have X0_3 := Lib.hid (X0_2.out.below b3)
    have B3 := Lib.hid (below_after B2.out (Nat.le_refl _) b3)
    have s3 := b3.size
    clear b3
    obtain ⟨⟨pc0, pc1⟩, _⟩ := X0_3.out.all
    have pclt := X0_3.out.lt
    go_wp2_with fail
    refine (toWishes_any a0 l0 c0 b0 m0 d0 Z0 Y0 w3 hl0 (HI0.out.keep B3.out).iat).mono ?_
    clear pc0 pc1 pclt
    rintro e w4 ⟨gx0, gx0', rfl, o4, b4⟩
    have oo4 := o4
    have X0_4 := Lib.hid (X0_3.out.below b4)
    have B4 := Lib.hid (below_after B3.out (Nat.le_refl _) b4)
    have s4 := b4.size
    have H0_4 := Lib.hid oo4
    clear o4 oo4 b4
    go_wp2_with fail
    have b4' : Below w4.heap.size w4 (w4.alloc (.cells #[.slice (some ⟨gx0, 0, none⟩) l0 l0, .slice (some ⟨gx0', 0, none⟩) m0 m0] 27)) := below1
    refine (implValidWishes_any _ l0 l0 _ m0 m0 Z0 Y0 _ (H0_4.out.iat.below b4')).mono ?_
    rintro e w5 ⟨rfl, b5⟩
    rw [HV.out]
    have U0_5 := Lib.hid (Box2.below (heap1 (w := w4) (o := .cells #[.slice (some ⟨gx0, 0, none⟩) l0 l0, .slice (some ⟨gx0', 0, none⟩) m0 m0] 27)) b5)
    have X0_5 := Lib.hid ((X0_4.out.below b4').below b5)
    have H0_5 := Lib.hid ((H0_4.out.below b4').below b5)
    have B5 := Lib.hid (below_after (below_after B4.out (Nat.le_refl _) b4') (Nat.le_refl _) b5)
    have s5 : w4.heap.size + 1 ≤ w5.heap.size := by have := b5.size; simp at this; omega
    clear b4'
    clear b5
    obtain ⟨⟨pc0, pc1⟩, _⟩ := X0_5.out.all
    have pclt := X0_5.out.lt
    obtain ⟨⟨qc0, qc1⟩, _⟩ := U0_5.out.all
    have qclt := U0_5.out.lt
    go_wp2_with fail
    go_region_held3 (fun w' => Hid (Below w5.heap.size w5 w') ∧ (w'.cell? ⟨w.heap.size, 0, none⟩ = some (.slice a0 l0 c0) ∧ w'.cell? ⟨w.heap.size, 1, none⟩ = some (.slice b0 m0 d0)) ∧ (w'.cell? ⟨w4.heap.size, 0, none⟩ = some (.slice (some ⟨gx0, 0, none⟩) l0 l0) ∧ w'.cell? ⟨w4.heap.size, 1, none⟩ = some (.slice (some ⟨gx0', 0, none⟩) m0 m0)))
      (first | exact ⟨keep0, ⟨pc0, pc1⟩, ⟨qc0, qc1⟩⟩ | exact keep2_2_2 (by assumption) (by assumption))
      (first
        | (go_at_call 9; refine (toWishes_any a0 l0 c0 b0 m0 d0 Z0 Y0 _ hl0 (HI0.out.keep (below_after B5.out (Nat.le_refl _) (Hid.out (And.left (by assumption))))).iat).mono ?_; rintro e wa ⟨ga, ga', rfl, oa, ba⟩; have HGA := Lib.hid oa; have BBA := Lib.hid ba; clear oa ba)
        | (go_at_call 11; refine (eqWishes_any _ l0 l0 _ m0 m0 _ l0 _ m0 Z0 Y0 _ (H0_5.out.iat.below (Hid.out (And.left (by assumption)))) HGA.out.iat).mono ?_; rintro e w6 ⟨rfl, bc⟩; have BBC := Lib.hid bc; clear bc))
    have b6 : Below w5.heap.size w5 w6 := Hid.out (And.left (by assumption))
    have X0_6 := Lib.hid (X0_5.out.below b6)
    have H0_6 := Lib.hid (H0_5.out.below b6)
    have U0_6 := Lib.hid (U0_5.out.below b6)
    have B6 := Lib.hid (below_after B5.out (Nat.le_refl _) b6)
    have s6 := b6.size
    clear HGA BBA BBC b6
    clear pc0 pc1 pclt qc0 qc1 qclt
    rename_i hHeld
    clear hHeld
    go_wp2_with fail
    go_ret
    exact ⟨rfl, B6.out⟩
  · skip
    have HN := Lib.hid (leftOf_no hs0)
    clear hs0
    go_enter Try.func3, Try.ntmps3
    go_wp2_with fail
    refine (szWishes_any a0 l0 c0 b0 m0 d0 Z0 Y0 1048576 (by omega) (by omega) _ (HI0.out.keep below1).iat).mono ?_
    rintro e w1 ⟨rfl, b1⟩
    rw [HN.out]
    have X0_1 := Lib.hid (Box2.below (heap1 (w := w) (o := .cells #[.slice a0 l0 c0, .slice b0 m0 d0] 24)) b1)
    have B1 := Lib.hid (below_after below1 (Nat.le_refl _) b1)
    have s1 : w.heap.size + 1 ≤ w1.heap.size := by have := b1.size; simp at this; omega
    clear b1
    go_wp2_with fail
    go_ret
    exact ⟨rfl, B1.out⟩
end Go.Proofs.Ytklnflmdbgdgjaa
