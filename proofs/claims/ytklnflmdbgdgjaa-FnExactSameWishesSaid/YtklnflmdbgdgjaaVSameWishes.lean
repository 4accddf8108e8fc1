/-
  The law on SameWishes: every argument.
-/
import Derived.Test.YtklnflmdbgdgjaaRSame
import Derived.Test.YtklnflmdbgdgjaaLawKit
import Derived.Test.YtklnflmdbgdgjaaSWishes
namespace Go.Proofs.Ytklnflmdbgdgjaa
open Go.RowKit Go.ChangeShapes Go.WideShapes
set_option linter.unusedVariables false

set_option maxHeartbeats 1000000 in
set_option maxRecDepth 20000 in
theorem walk_fnExactSameWishes (a0 : Option Addr) (l0 c0 : Nat) (ab0 : Option Addr) (lb0 cb0 : Nat) (Z0 Y0 : List (List Int)) (a1 : Option Addr) (l1 c1 : Nat) (ab1 : Option Addr) (lb1 cb1 : Nat) (Z1 Y1 : List (List Int)) (w : World) (h0 : WAt w a0 l0 ab0 lb0 Z0 Y0) (h1 : WAt w a1 l1 ab1 lb1 Z1 Y1) :
    Calls Try.prog 4 #[wishesV a0 l0 c0 ab0 lb0 cb0, wishesV a1 l1 c1 ab1 lb1 cb1] w fun e w' => e = .returned (.bool true) ∧ Below w.heap.size w w' := by
  have HI0 := Lib.hid h0.inB
  clear h0
  have HI1 := Lib.hid h1.inB
  clear h1
  by_cases hs0 : (((totW l0 lb0 Z0 Y0) : Nat) : Int) ≤ 1048576
  · obtain ⟨zz0, hz0⟩ : ∃ z, leftOf 1048576 (totW l0 lb0 Z0 Y0) = z := ⟨_, rfl⟩
    obtain ⟨z0_0, z1_0⟩ := leftOf_le (left := 1048576) (by omega) (by omega) hs0
    rw [hz0] at z0_0 z1_0
    have HZ0 := Lib.hid hz0
    clear hz0
    by_cases hs1 : (((totW l1 lb1 Z1 Y1) : Nat) : Int) ≤ zz0
    · obtain ⟨zz1, hz1⟩ : ∃ z, leftOf zz0 (totW l1 lb1 Z1 Y1) = z := ⟨_, rfl⟩
      obtain ⟨z0_1, z1_1⟩ := leftOf_le (left := zz0) z0_0 z1_0 hs1
      rw [hz1] at z0_1 z1_1
      have HZ1 := Lib.hid hz1
      clear hz1
      obtain ⟨t0, ht0⟩ : ∃ t : Nat, tot Z0 + tot Y0 = t := ⟨_, rfl⟩
      have hl0 : totW l0 lb0 Z0 Y0 ≤ 1048576 := by omega
      have tb0 : t0 ≤ 1048576 := by unfold totW at hl0; omega
      have HT0 := Lib.hid ht0
      clear ht0
      obtain ⟨t1, ht1⟩ : ∃ t : Nat, tot Z1 + tot Y1 = t := ⟨_, rfl⟩
      have hl1 : totW l1 lb1 Z1 Y1 ≤ 1048576 := by omega
      have tb1 : t1 ≤ 1048576 := by unfold totW at hl1; omega
      have HT1 := Lib.hid ht1
      clear ht1
      clear hs0
      clear hs1
      obtain ⟨vv, hval⟩ : ∃ vv, (sameWish Z0 Y0 Z1 Y1) = vv := ⟨_, rfl⟩
      have HV := Lib.hid hval
      clear hval
      go_enter Try.func4, Try.ntmps4
      go_wp2_with fail
      refine (szWishes_any a0 l0 c0 ab0 lb0 cb0 Z0 Y0 1048576 (by omega) (by omega) _ (HI0.out.keep below2).iat).mono ?_
      rintro e w1 ⟨rfl, b1⟩
      rw [HZ0.out]
      have X0_1 := Lib.hid (Box2.below (heap2a (w := w) (o := .cells #[.slice a0 l0 c0, .slice ab0 lb0 cb0] 24) (p := .cells #[.slice a1 l1 c1, .slice ab1 lb1 cb1] 24)) b1)
      have X1_1 := Lib.hid (Box2.below (heap2b (w := w) (o := .cells #[.slice a0 l0 c0, .slice ab0 lb0 cb0] 24) (p := .cells #[.slice a1 l1 c1, .slice ab1 lb1 cb1] 24)) b1)
      have B1 := Lib.hid (below_after below2 (Nat.le_refl _) b1)
      have s1 : w.heap.size + 2 ≤ w1.heap.size := by have := b1.size; simp at this; omega
      clear b1
      obtain ⟨⟨pc0, pc1⟩, _⟩ := X1_1.out.all
      have pclt := X1_1.out.lt
      go_wp2_with fail
      refine (szWishes_any a1 l1 c1 ab1 lb1 cb1 Z1 Y1 zz0 z0_0 z1_0 _ (HI1.out.keep B1.out).iat).mono ?_
      clear pc0 pc1 pclt
      rintro e w2 ⟨rfl, b2⟩
      rw [HZ1.out]
      have X0_2 := Lib.hid (X0_1.out.below b2)
      have X1_2 := Lib.hid (X1_1.out.below b2)
      have B2 := Lib.hid (below_after B1.out (Nat.le_refl _) b2)
      have s2 := b2.size
      clear b2
      obtain ⟨⟨pc0, pc1⟩, _⟩ := X0_2.out.all
      have pclt := X0_2.out.lt
      obtain ⟨⟨qc0, qc1⟩, _⟩ := X1_2.out.all
      have qclt := X1_2.out.lt
      go_wp2_with fail
      go_region_held3 (fun w' => Hid (Below w2.heap.size w2 w') ∧ (w'.cell? ⟨w.heap.size, 0, none⟩ = some (.slice a0 l0 c0) ∧ w'.cell? ⟨w.heap.size, 1, none⟩ = some (.slice ab0 lb0 cb0)) ∧ (w'.cell? ⟨w.heap.size + 1, 0, none⟩ = some (.slice a1 l1 c1) ∧ w'.cell? ⟨w.heap.size + 1, 1, none⟩ = some (.slice ab1 lb1 cb1)))
        (first | exact ⟨keep0, ⟨pc0, pc1⟩, ⟨qc0, qc1⟩⟩ | exact keep2_2_2 (by assumption) (by assumption))
        (first
          | (go_at_call_of 9 (Value.slice a0 l0 c0); refine (toWishes_any a0 l0 c0 ab0 lb0 cb0 Z0 Y0 _ hl0 (HI0.out.keep (below_after B2.out (Nat.le_refl _) (Hid.out (And.left (by assumption))))).iat).mono ?_; rintro e wA ⟨gA, gA', rfl, oA, bA⟩; have HGA := Lib.hid oA; have BBA := Lib.hid bA; clear oA bA)
          | (go_at_call_of 9 (Value.slice a1 l1 c1); refine (toWishes_any a1 l1 c1 ab1 lb1 cb1 Z1 Y1 _ hl1 (HI1.out.keep (below_after B2.out (Nat.le_refl _) (Hid.out (And.left (by assumption))))).iat).mono ?_; rintro e wB ⟨gB, gB', rfl, oB, bB⟩; have HGB := Lib.hid oB; have BBB := Lib.hid bB; clear oB bB)
          | (go_at_call 12; refine (specSameWishes_any _ l0 l0 _ lb0 lb0 Z0 Y0 _ l1 l1 _ lb1 lb1 Z1 Y1 _ (by first | exact HGA.out.iat | exact HGA.out.iat.below BBB.out) (by first | exact HGB.out.iat | exact HGB.out.iat.below BBA.out)).mono ?_; rintro e w3 ⟨rfl, bC⟩; rw [HV.out]; have BBC := Lib.hid bC; clear bC))
      all_goals
        have b3 : Below w2.heap.size w2 w3 := Hid.out (And.left (by assumption))
        have X0_3 := Lib.hid (X0_2.out.below b3)
        have X1_3 := Lib.hid (X1_2.out.below b3)
        have B3 := Lib.hid (below_after B2.out (Nat.le_refl _) b3)
        have s3 := b3.size
        clear HGA HGB BBA BBB BBC b3
        clear pc0 pc1 pclt qc0 qc1 qclt
        rename_i hHeld
        clear hHeld
        obtain ⟨⟨pc0, pc1⟩, _⟩ := X0_3.out.all
        have pclt := X0_3.out.lt
        go_wp2_with fail
        refine (toWishes_any a0 l0 c0 ab0 lb0 cb0 Z0 Y0 w3 hl0 (HI0.out.keep B3.out).iat).mono ?_
        clear pc0 pc1 pclt
        rintro e w4 ⟨gx0, gx0', rfl, o4, b4⟩
        have oo4 := o4
        have X0_4 := Lib.hid (X0_3.out.below b4)
        have X1_4 := Lib.hid (X1_3.out.below b4)
        have B4 := Lib.hid (below_after B3.out (Nat.le_refl _) b4)
        have s4 := b4.size
        have H0_4 := Lib.hid oo4
        clear o4 oo4 b4
        obtain ⟨⟨pc0, pc1⟩, _⟩ := X1_4.out.all
        have pclt := X1_4.out.lt
        go_wp2_with fail
        have b4' : Below w4.heap.size w4 (w4.alloc (.cells #[.slice (some ⟨gx0, 0, none⟩) l0 l0, .slice (some ⟨gx0', 0, none⟩) lb0 lb0] 27)) := below1
        refine (toWishes_any a1 l1 c1 ab1 lb1 cb1 Z1 Y1 _ hl1 (HI1.out.keep (below_after B4.out (Nat.le_refl _) b4')).iat).mono ?_
        clear pc0 pc1 pclt
        rintro e w5 ⟨gx1, gx1', rfl, o5, b5⟩
        have U0_5 := Lib.hid (Box2.below (heap1 (w := w4) (o := .cells #[.slice (some ⟨gx0, 0, none⟩) l0 l0, .slice (some ⟨gx0', 0, none⟩) lb0 lb0] 27)) b5)
        have oo5 := o5.wide (lo' := w4.heap.size + 1) (hi' := w5.heap.size) (by simp) (Nat.le_refl _) (Nat.le_refl _)
        have X0_5 := Lib.hid ((X0_4.out.below b4').below b5)
        have X1_5 := Lib.hid ((X1_4.out.below b4').below b5)
        have H0_5 := Lib.hid ((H0_4.out.below b4').below b5)
        have B5 := Lib.hid (below_after (below_after B4.out (Nat.le_refl _) b4') (Nat.le_refl _) b5)
        have s5 : w4.heap.size + 1 ≤ w5.heap.size := by have := b5.size; simp at this; omega
        clear b4'
        have H1_5 := Lib.hid oo5
        clear o5 oo5 b5
        obtain ⟨⟨pc0, pc1⟩, _⟩ := U0_5.out.all
        have pclt := U0_5.out.lt
        go_wp2_with fail
        have b5' : Below w5.heap.size w5 (w5.alloc (.cells #[.slice (some ⟨gx1, 0, none⟩) l1 l1, .slice (some ⟨gx1', 0, none⟩) lb1 lb1] 27)) := below1
        refine (implSameWishes_any _ l0 l0 _ lb0 lb0 Z0 Y0 _ l1 l1 _ lb1 lb1 Z1 Y1 _ (H0_5.out.iat.below b5') (H1_5.out.iat.below b5')).mono ?_
        clear pc0 pc1 pclt
        rintro e w6 ⟨rfl, b6⟩
        rw [HV.out]
        have U1_6 := Lib.hid (Box2.below (heap1 (w := w5) (o := .cells #[.slice (some ⟨gx1, 0, none⟩) l1 l1, .slice (some ⟨gx1', 0, none⟩) lb1 lb1] 27)) b6)
        have X0_6 := Lib.hid ((X0_5.out.below b5').below b6)
        have X1_6 := Lib.hid ((X1_5.out.below b5').below b6)
        have H0_6 := Lib.hid ((H0_5.out.below b5').below b6)
        have U0_6 := Lib.hid ((U0_5.out.below b5').below b6)
        have H1_6 := Lib.hid ((H1_5.out.below b5').below b6)
        have B6 := Lib.hid (below_after (below_after B5.out (Nat.le_refl _) b5') (Nat.le_refl _) b6)
        have s6 : w5.heap.size + 1 ≤ w6.heap.size := by have := b6.size; simp at this; omega
        clear b5'
        clear b6
        obtain ⟨⟨pc0, pc1⟩, _⟩ := X0_6.out.all
        have pclt := X0_6.out.lt
        obtain ⟨⟨qc0, qc1⟩, _⟩ := U0_6.out.all
        have qclt := U0_6.out.lt
        go_wp2_with fail
        go_region_held3 (fun w' => Hid (Below w6.heap.size w6 w') ∧ (w'.cell? ⟨w.heap.size, 0, none⟩ = some (.slice a0 l0 c0) ∧ w'.cell? ⟨w.heap.size, 1, none⟩ = some (.slice ab0 lb0 cb0)) ∧ (w'.cell? ⟨w4.heap.size, 0, none⟩ = some (.slice (some ⟨gx0, 0, none⟩) l0 l0) ∧ w'.cell? ⟨w4.heap.size, 1, none⟩ = some (.slice (some ⟨gx0', 0, none⟩) lb0 lb0)))
          (first | exact ⟨keep0, ⟨pc0, pc1⟩, ⟨qc0, qc1⟩⟩ | exact keep2_2_2 (by assumption) (by assumption))
          (first
            | (go_at_call 9; refine (toWishes_any a0 l0 c0 ab0 lb0 cb0 Z0 Y0 _ hl0 (HI0.out.keep (below_after B6.out (Nat.le_refl _) (Hid.out (And.left (by assumption))))).iat).mono ?_; rintro e wa ⟨ga, ga', rfl, oa, ba⟩; have HGA := Lib.hid oa; have BBA := Lib.hid ba; clear oa ba)
            | (go_at_call 11; refine (eqWishes_any _ l0 l0 _ lb0 lb0 _ l0 _ lb0 Z0 Y0 _ (H0_6.out.iat.below (Hid.out (And.left (by assumption)))) HGA.out.iat).mono ?_; rintro e w7 ⟨rfl, bc⟩; have BBC := Lib.hid bc; clear bc))
        have b7 : Below w6.heap.size w6 w7 := Hid.out (And.left (by assumption))
        have X0_7 := Lib.hid (X0_6.out.below b7)
        have X1_7 := Lib.hid (X1_6.out.below b7)
        have H0_7 := Lib.hid (H0_6.out.below b7)
        have U0_7 := Lib.hid (U0_6.out.below b7)
        have H1_7 := Lib.hid (H1_6.out.below b7)
        have U1_7 := Lib.hid (U1_6.out.below b7)
        have B7 := Lib.hid (below_after B6.out (Nat.le_refl _) b7)
        have s7 := b7.size
        clear HGA BBA BBC b7
        clear pc0 pc1 pclt qc0 qc1 qclt
        rename_i hHeld
        clear hHeld
        obtain ⟨⟨pc0, pc1⟩, _⟩ := X1_7.out.all
        have pclt := X1_7.out.lt
        obtain ⟨⟨qc0, qc1⟩, _⟩ := U1_7.out.all
        have qclt := U1_7.out.lt
        go_wp2_with fail
        go_region_held3 (fun w' => Hid (Below w7.heap.size w7 w') ∧ (w'.cell? ⟨w.heap.size + 1, 0, none⟩ = some (.slice a1 l1 c1) ∧ w'.cell? ⟨w.heap.size + 1, 1, none⟩ = some (.slice ab1 lb1 cb1)) ∧ (w'.cell? ⟨w5.heap.size, 0, none⟩ = some (.slice (some ⟨gx1, 0, none⟩) l1 l1) ∧ w'.cell? ⟨w5.heap.size, 1, none⟩ = some (.slice (some ⟨gx1', 0, none⟩) lb1 lb1)))
          (first | exact ⟨keep0, ⟨pc0, pc1⟩, ⟨qc0, qc1⟩⟩ | exact keep2_2_2 (by assumption) (by assumption))
          (first
            | (go_at_call 9; refine (toWishes_any a1 l1 c1 ab1 lb1 cb1 Z1 Y1 _ hl1 (HI1.out.keep (below_after B7.out (Nat.le_refl _) (Hid.out (And.left (by assumption))))).iat).mono ?_; rintro e wa ⟨ga, ga', rfl, oa, ba⟩; have HGA := Lib.hid oa; have BBA := Lib.hid ba; clear oa ba)
            | (go_at_call 11; refine (eqWishes_any _ l1 l1 _ lb1 lb1 _ l1 _ lb1 Z1 Y1 _ (H1_7.out.iat.below (Hid.out (And.left (by assumption)))) HGA.out.iat).mono ?_; rintro e w8 ⟨rfl, bc⟩; have BBC := Lib.hid bc; clear bc))
        have b8 : Below w7.heap.size w7 w8 := Hid.out (And.left (by assumption))
        have X0_8 := Lib.hid (X0_7.out.below b8)
        have X1_8 := Lib.hid (X1_7.out.below b8)
        have H0_8 := Lib.hid (H0_7.out.below b8)
        have U0_8 := Lib.hid (U0_7.out.below b8)
        have H1_8 := Lib.hid (H1_7.out.below b8)
        have U1_8 := Lib.hid (U1_7.out.below b8)
        have B8 := Lib.hid (below_after B7.out (Nat.le_refl _) b8)
        have s8 := b8.size
        clear HGA BBA BBC b8
        clear pc0 pc1 pclt qc0 qc1 qclt
        rename_i hHeld
        clear hHeld
        go_wp2_with fail
        go_ret
        exact ⟨rfl, B8.out⟩
    · skip
      have HN := Lib.hid (leftOf_no hs1)
      clear hs1
      go_enter Try.func4, Try.ntmps4
      go_wp2_with fail
      refine (szWishes_any a0 l0 c0 ab0 lb0 cb0 Z0 Y0 1048576 (by omega) (by omega) _ (HI0.out.keep below2).iat).mono ?_
      rintro e w1 ⟨rfl, b1⟩
      rw [HZ0.out]
      have X0_1 := Lib.hid (Box2.below (heap2a (w := w) (o := .cells #[.slice a0 l0 c0, .slice ab0 lb0 cb0] 24) (p := .cells #[.slice a1 l1 c1, .slice ab1 lb1 cb1] 24)) b1)
      have X1_1 := Lib.hid (Box2.below (heap2b (w := w) (o := .cells #[.slice a0 l0 c0, .slice ab0 lb0 cb0] 24) (p := .cells #[.slice a1 l1 c1, .slice ab1 lb1 cb1] 24)) b1)
      have B1 := Lib.hid (below_after below2 (Nat.le_refl _) b1)
      have s1 : w.heap.size + 2 ≤ w1.heap.size := by have := b1.size; simp at this; omega
      clear b1
      obtain ⟨⟨pc0, pc1⟩, _⟩ := X1_1.out.all
      have pclt := X1_1.out.lt
      go_wp2_with fail
      refine (szWishes_any a1 l1 c1 ab1 lb1 cb1 Z1 Y1 zz0 z0_0 z1_0 _ (HI1.out.keep B1.out).iat).mono ?_
      clear pc0 pc1 pclt
      rintro e w2 ⟨rfl, b2⟩
      rw [HN.out]
      have X0_2 := Lib.hid (X0_1.out.below b2)
      have X1_2 := Lib.hid (X1_1.out.below b2)
      have B2 := Lib.hid (below_after B1.out (Nat.le_refl _) b2)
      have s2 := b2.size
      clear b2
      go_wp2_with fail
      go_ret
      exact ⟨rfl, B2.out⟩
  · skip
    have HN := Lib.hid (leftOf_no hs0)
    clear hs0
    go_enter Try.func4, Try.ntmps4
    go_wp2_with fail
    refine (szWishes_any a0 l0 c0 ab0 lb0 cb0 Z0 Y0 1048576 (by omega) (by omega) _ (HI0.out.keep below2).iat).mono ?_
    rintro e w1 ⟨rfl, b1⟩
    rw [HN.out]
    have X0_1 := Lib.hid (Box2.below (heap2a (w := w) (o := .cells #[.slice a0 l0 c0, .slice ab0 lb0 cb0] 24) (p := .cells #[.slice a1 l1 c1, .slice ab1 lb1 cb1] 24)) b1)
    have X1_1 := Lib.hid (Box2.below (heap2b (w := w) (o := .cells #[.slice a0 l0 c0, .slice ab0 lb0 cb0] 24) (p := .cells #[.slice a1 l1 c1, .slice ab1 lb1 cb1] 24)) b1)
    have B1 := Lib.hid (below_after below2 (Nat.le_refl _) b1)
    have s1 : w.heap.size + 2 ≤ w1.heap.size := by have := b1.size; simp at this; omega
    clear b1
    go_wp2_with fail
    go_ret
    exact ⟨rfl, B1.out⟩
end Go.Proofs.Ytklnflmdbgdgjaa
