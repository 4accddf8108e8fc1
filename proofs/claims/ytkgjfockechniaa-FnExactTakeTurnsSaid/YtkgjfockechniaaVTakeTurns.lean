/-
  The law on TakeTurns: every argument.
-/
import Derived.Test.YtkgjfockechniaaTTurnS
import Derived.Test.YtkgjfockechniaaLawKit
namespace Go.Proofs.Ytkgjfockechniaa
open Go.RowKit Go.ChangeShapes Go.WideShapes
set_option linter.unusedVariables false

set_option maxHeartbeats 1000000 in
set_option maxRecDepth 20000 in
theorem walk_fnExactTakeTurns (v0_0 v0_1 : Int) (a0 : Option Addr) (l0 c0 : Nat) (Z0 : List Int) (a1 : Option Addr) (l1 c1 : Nat) (Z1 : List Int) (w : World) (h0 : IAt w a0 l0 Z0) (h1 : IAt w a1 l1 Z1) :
    Calls Try.prog 10 #[valuesV v0_0 v0_1 a0 l0 c0, .slice a1 l1 c1] w fun e w' => e = .returned (.bool true) ∧ Below w.heap.size w w' := by
  have hm0 := h0.2.1
  have HI0 := Lib.hid h0.inB
  clear h0
  have hm1 := h1.2.1
  have HI1 := Lib.hid h1.inB
  clear h1
  by_cases hs1 : (l1 : Int) ≤ 1048576
  · skip
    by_cases hs0 : (l0 : Int) ≤ 1048576
    · obtain ⟨zz0, hz0⟩ : ∃ z, leftOf 1048576 l0 = z := ⟨_, rfl⟩
      obtain ⟨z0_0, z1_0⟩ := leftOf_le (left := 1048576) (by omega) (by omega) hs0
      rw [hz0] at z0_0 z1_0
      have HZ0 := Lib.hid hz0
      clear hz0
      have hl0 : l0 ≤ 1048576 := by omega
      have hl1 : l1 ≤ 1048576 := by omega
      obtain ⟨zs, vv, hval⟩ : ∃ zs vv, (turnV v0_0 v0_1 Z0 Z1) = (zs, vv) := ⟨_, _, rfl⟩
      have HV := Lib.hid hval
      have hlen : zs.length ≤ 4096 := by have := turnV_len v0_0 v0_1 Z0 Z1; rw [hval] at this; exact this
      clear hval
      obtain ⟨zl, hzl⟩ : ∃ zl, zs.length = zl := ⟨_, rfl⟩
      rw [hzl] at hlen
      have HZL := Lib.hid hzl
      clear hzl
      go_enter Try.func10, Try.ntmps10
      go_wp2_with fail
      refine (szValues_any v0_0 v0_1 a0 l0 c0 1048576 (by omega) (by omega) hm0 _).mono ?_
      rintro e w1 ⟨rfl, b1⟩
      rw [HZ0.out]
      have X0_1 := Lib.hid (Box3.below (heap1 (w := w) (o := .cells #[.int .i64 v0_0, .int .i64 v0_1, .slice a0 l0 c0] 24)) b1)
      have B1 := Lib.hid (below_after below1 (Nat.le_refl _) b1)
      have s1 : w.heap.size + 1 ≤ w1.heap.size := by have := b1.size; simp at this; omega
      clear b1
      obtain ⟨⟨pc0, pc1, pc2⟩, _⟩ := X0_1.out.all
      have pclt := X0_1.out.lt
      go_wp2_with fail
      refine (toValues_any v0_0 v0_1 a0 l0 c0 Z0 w1 hl0 (HI0.out.keep B1.out).1).mono ?_
      clear pc0 pc1 pc2 pclt
      rintro e w2 ⟨s0, rfl, o2, b2⟩
      have X0_2 := Lib.hid (X0_1.out.below b2)
      have B2 := Lib.hid (below_after B1.out (Nat.le_refl _) b2)
      have s2 := b2.size
      have C0s_2 := Lib.hid o2
      clear o2 b2
      go_wp2_with fail
      refine (copy_any a1 l1 c1 Z1 w2 hl1 (HI1.out.keep B2.out).1).mono ?_
      rintro e w3 ⟨s1, rfl, o3, b3⟩
      have X0_3 := Lib.hid (X0_2.out.below b3)
      have C0s_3 := Lib.hid (C0s_2.out.below b3)
      have B3 := Lib.hid (below_after B2.out (Nat.le_refl _) b3)
      have s3 := b3.size
      have C1s_3 := Lib.hid o3
      clear o3 b3
      go_wp2_with fail
      refine (specTurns_any v0_0 v0_1 _ l0 l0 Z0 _ l1 l1 Z1 w3 C0s_3.out.iat C1s_3.out.iat (Nat.le_refl _)).mono ?_
      rintro e w4 ⟨aS, nS, cS, rfl, o4, b4⟩
      rw [HV.out] at o4 ⊢
      have en : nS = zl := o4.1.symm.trans HZL.out
      subst en
      have RS_4 := Lib.hid (o4)
      have X0_4 := Lib.hid (X0_3.out.below b4)
      have B4 := Lib.hid (below_after B3.out (Nat.le_refl _) b4)
      have s4 := b4.size
      clear o4 b4
      obtain ⟨⟨pc0, pc1, pc2⟩, _⟩ := X0_4.out.all
      have pclt := X0_4.out.lt
      go_wp2_with fail
      refine (toValues_any v0_0 v0_1 a0 l0 c0 Z0 w4 hl0 (HI0.out.keep B4.out).1).mono ?_
      clear pc0 pc1 pc2 pclt
      rintro e w5 ⟨gx0, rfl, o5, b5⟩
      have oo5 := o5
      have X0_5 := Lib.hid (X0_4.out.below b5)
      have RS_5 := Lib.hid (RS_4.out.below b5)
      have B5 := Lib.hid (below_after B4.out (Nat.le_refl _) b5)
      have s5 := b5.size
      have H0_5 := Lib.hid oo5
      clear o5 oo5 b5
      go_wp2_with fail
      have b5' : Below w5.heap.size w5 (w5.alloc (.cells #[.int .i64 v0_0, .int .i64 v0_1, .slice (some ⟨gx0, 0, none⟩) l0 l0] 27)) := below1
      refine (copy_any a1 l1 c1 Z1 _ hl1 (HI1.out.keep (below_after B5.out (Nat.le_refl _) b5')).1).mono ?_
      rintro e w6 ⟨gx1, rfl, o6, b6⟩
      have U0_6 := Lib.hid (Box3.below (heap1 (w := w5) (o := .cells #[.int .i64 v0_0, .int .i64 v0_1, .slice (some ⟨gx0, 0, none⟩) l0 l0] 27)) b6)
      have oo6 := o6.wide (lo' := w5.heap.size + 1) (hi' := w6.heap.size) (by simp) (Nat.le_refl _) (Nat.le_refl _)
      have X0_6 := Lib.hid ((X0_5.out.below b5').below b6)
      have RS_6 := Lib.hid ((RS_5.out.below b5').below b6)
      have H0_6 := Lib.hid ((H0_5.out.below b5').below b6)
      have B6 := Lib.hid (below_after (below_after B5.out (Nat.le_refl _) b5') (Nat.le_refl _) b6)
      have s6 : w5.heap.size + 1 ≤ w6.heap.size := by have := b6.size; simp at this; omega
      clear b5'
      have H1_6 := Lib.hid oo6
      clear o6 oo6 b6
      obtain ⟨⟨pc0, pc1, pc2⟩, _⟩ := U0_6.out.all
      have pclt := U0_6.out.lt
      go_wp2_with fail
      refine (implTurns_any v0_0 v0_1 _ l0 l0 Z0 _ l1 l1 Z1 _ H0_6.out.iat H1_6.out.iat (Nat.le_refl _)).mono ?_
      clear pc0 pc1 pc2 pclt
      rintro e w7 ⟨ai, ni, ci, rfl, o7, b7⟩
      rw [HV.out] at o7 ⊢
      have en : ni = nS := o7.1.symm.trans HZL.out
      subst en
      have oo7 := o7
      have X0_7 := Lib.hid (X0_6.out.below b7)
      have RS_7 := Lib.hid (RS_6.out.below b7)
      have H0_7 := Lib.hid (H0_6.out.below b7)
      have U0_7 := Lib.hid (U0_6.out.below b7)
      have H1_7 := Lib.hid (H1_6.out.below b7)
      have B7 := Lib.hid (below_after B6.out (Nat.le_refl _) b7)
      have s7 := b7.size
      have Ri_7 := Lib.hid oo7
      clear o7 oo7
      clear b7
      go_wp2_with fail
      refine (eqB_any ai aS _ _ _ zs w7 Ri_7.out.iat RS_7.out.iat).mono ?_
      rintro e w8 ⟨rfl, b8⟩
      have X0_8 := Lib.hid (X0_7.out.below b8)
      have RS_8 := Lib.hid (RS_7.out.below b8)
      have H0_8 := Lib.hid (H0_7.out.below b8)
      have U0_8 := Lib.hid (U0_7.out.below b8)
      have H1_8 := Lib.hid (H1_7.out.below b8)
      have Ri_8 := Lib.hid (Ri_7.out.below b8)
      have B8 := Lib.hid (below_after B7.out (Nat.le_refl _) b8)
      have s8 := b8.size
      clear b8
      obtain ⟨⟨pc0, pc1, pc2⟩, _⟩ := X0_8.out.all
      have pclt := X0_8.out.lt
      obtain ⟨⟨qc0, qc1, qc2⟩, _⟩ := U0_8.out.all
      have qclt := U0_8.out.lt
      go_wp2_with fail
      go_region_held3 (fun w' => Hid (Below w8.heap.size w8 w') ∧ (w'.cell? ⟨w.heap.size, 0, none⟩ = some (.int .i64 v0_0) ∧ w'.cell? ⟨w.heap.size, 1, none⟩ = some (.int .i64 v0_1) ∧ w'.cell? ⟨w.heap.size, 2, none⟩ = some (.slice a0 l0 c0)) ∧ (w'.cell? ⟨w5.heap.size, 0, none⟩ = some (.int .i64 v0_0) ∧ w'.cell? ⟨w5.heap.size, 1, none⟩ = some (.int .i64 v0_1) ∧ w'.cell? ⟨w5.heap.size, 2, none⟩ = some (.slice (some ⟨gx0, 0, none⟩) l0 l0)))
        (first | exact ⟨keep0, ⟨pc0, pc1, pc2⟩, ⟨qc0, qc1, qc2⟩⟩ | exact keep2_3_3 (by assumption) (by assumption))
        (first
          | (go_at_call 21; refine (toValues_any v0_0 v0_1 a0 l0 c0 Z0 _ hl0 (HI0.out.keep (below_after B8.out (Nat.le_refl _) (Hid.out (And.left (by assumption))))).1).mono ?_; rintro e wa ⟨ga, rfl, oa, ba⟩; have HGA := Lib.hid oa; have BBA := Lib.hid ba; clear oa ba)
          | (go_at_call 23; refine (eqValues_any v0_0 v0_1 _ l0 l0 _ l0 Z0 _ (H0_8.out.iat.below (Hid.out (And.left (by assumption)))) HGA.out.iat).mono ?_; rintro e w9 ⟨rfl, bc⟩; have BBC := Lib.hid bc; clear bc))
      have b9 : Below w8.heap.size w8 w9 := Hid.out (And.left (by assumption))
      have X0_9 := Lib.hid (X0_8.out.below b9)
      have RS_9 := Lib.hid (RS_8.out.below b9)
      have H0_9 := Lib.hid (H0_8.out.below b9)
      have U0_9 := Lib.hid (U0_8.out.below b9)
      have H1_9 := Lib.hid (H1_8.out.below b9)
      have Ri_9 := Lib.hid (Ri_8.out.below b9)
      have B9 := Lib.hid (below_after B8.out (Nat.le_refl _) b9)
      have s9 := b9.size
      clear HGA BBA BBC b9
      clear pc0 pc1 pc2 pclt qc0 qc1 qc2 qclt
      rename_i hHeld
      clear hHeld
      go_wp2_with fail
      refine (copy_any a1 l1 c1 Z1 w9 hl1 (HI1.out.keep B9.out).1).mono ?_
      rintro e w10 ⟨ga, rfl, o10, b10⟩
      have X0_10 := Lib.hid (X0_9.out.below b10)
      have RS_10 := Lib.hid (RS_9.out.below b10)
      have H0_10 := Lib.hid (H0_9.out.below b10)
      have U0_10 := Lib.hid (U0_9.out.below b10)
      have H1_10 := Lib.hid (H1_9.out.below b10)
      have Ri_10 := Lib.hid (Ri_9.out.below b10)
      have B10 := Lib.hid (below_after B9.out (Nat.le_refl _) b10)
      have s10 := b10.size
      have CA10 := Lib.hid o10
      clear o10 b10
      go_wp2_with fail
      refine (eqB_any _ _ l1 l1 l1 Z1 w10 H1_10.out.iat CA10.out.iat).mono ?_
      rintro e w11 ⟨rfl, b11⟩
      clear CA10
      have X0_11 := Lib.hid (X0_10.out.below b11)
      have RS_11 := Lib.hid (RS_10.out.below b11)
      have H0_11 := Lib.hid (H0_10.out.below b11)
      have U0_11 := Lib.hid (U0_10.out.below b11)
      have H1_11 := Lib.hid (H1_10.out.below b11)
      have Ri_11 := Lib.hid (Ri_10.out.below b11)
      have B11 := Lib.hid (below_after B10.out (Nat.le_refl _) b11)
      have s11 := b11.size
      clear b11
      skip
      obtain ⟨⟨qc0, qc1, qc2⟩, _⟩ := U0_11.out.all
      have qclt := U0_11.out.lt
      go_wp2_with fail
      refine (markValues_any v0_0 v0_1 w4.heap.size w5.heap.size _ l0 l0 Z0 1 w11 (by omega) (by omega) H0_11.out).mono ?_
      rintro e w12 ⟨rfl, _, k12⟩
      clear qc0 qc1 qc2 qclt
      have X0_12 := Lib.hid (X0_11.out.keeps k12 (by omega))
      have RS_12 := Lib.hid (RS_11.out.keeps k12 (by omega))
      have H1_12 := Lib.hid (H1_11.out.keeps k12 (by omega))
      have Ri_12 := Lib.hid (Ri_11.out.keeps k12 (by omega))
      have B12 := Lib.hid (B11.out.trans (k12.below (by omega) (by omega)))
      have s12 := k12.size
      clear k12
      skip
      go_wp2_with fail
      refine (mark_any (w5.heap.size + 1) w6.heap.size _ l1 l1 Z1 (1 + l0) w12 (by omega) (by omega) H1_12.out).mono ?_
      rintro e w13 ⟨rfl, _, k13, _⟩
      have X0_13 := Lib.hid (X0_12.out.keeps k13 (by omega))
      have RS_13 := Lib.hid (RS_12.out.keeps k13 (by omega))
      have Ri_13 := Lib.hid (Ri_12.out.keeps k13 (by omega))
      have B13 := Lib.hid (B12.out.trans (k13.below (by omega) (by omega)))
      have s13 := k13.size
      clear k13
      go_wp2_with fail
      refine (eqB_any ai aS _ _ _ zs w13 Ri_13.out.iat RS_13.out.iat).mono ?_
      rintro e w14 ⟨rfl, b14⟩
      have X0_14 := Lib.hid (X0_13.out.below b14)
      have RS_14 := Lib.hid (RS_13.out.below b14)
      have Ri_14 := Lib.hid (Ri_13.out.below b14)
      have B14 := Lib.hid (below_after B13.out (Nat.le_refl _) b14)
      have s14 := b14.size
      clear b14
      go_wp2_with fail
      refine (mark_any w6.heap.size w7.heap.size ai ni ci zs 1 w14 (by omega) (by omega) Ri_14.out).mono ?_
      rintro e w15 ⟨rfl, om, k15, _⟩
      have OM_15 := Lib.hid om
      clear om
      have X0_15 := Lib.hid (X0_14.out.keeps k15 (by omega))
      have RS_15 := Lib.hid (RS_14.out.keeps k15 (by omega))
      have B15 := Lib.hid (B14.out.trans (k15.below (by omega) (by omega)))
      have s15 := k15.size
      clear k15
      go_wp2_with fail
      refine (heldB_any ai ni ci 1 w15 (by omega) (by omega) OM_15.out.iat).mono ?_
      rintro e w16 ⟨rfl, b16⟩
      have X0_16 := Lib.hid (X0_15.out.below b16)
      have RS_16 := Lib.hid (RS_15.out.below b16)
      have OM_16 := Lib.hid (OM_15.out.below b16)
      have B16 := Lib.hid (below_after B15.out (Nat.le_refl _) b16)
      have s16 := b16.size
      clear b16
      obtain ⟨⟨pc0, pc1, pc2⟩, _⟩ := X0_16.out.all
      have pclt := X0_16.out.lt
      go_wp2_with fail
      refine (toValues_any v0_0 v0_1 a0 l0 c0 Z0 w16 hl0 (HI0.out.keep B16.out).1).mono ?_
      clear pc0 pc1 pc2 pclt
      rintro e w17 ⟨h0, rfl, o17, b17⟩
      have X0_17 := Lib.hid (X0_16.out.below b17)
      have RS_17 := Lib.hid (RS_16.out.below b17)
      have OM_17 := Lib.hid (OM_16.out.below b17)
      have B17 := Lib.hid (below_after B16.out (Nat.le_refl _) b17)
      have s17 := b17.size
      have C0h_17 := Lib.hid o17
      clear o17 b17
      go_wp2_with fail
      refine (copy_any a1 l1 c1 Z1 w17 hl1 (HI1.out.keep B17.out).1).mono ?_
      rintro e w18 ⟨h1, rfl, o18, b18⟩
      have X0_18 := Lib.hid (X0_17.out.below b18)
      have RS_18 := Lib.hid (RS_17.out.below b18)
      have OM_18 := Lib.hid (OM_17.out.below b18)
      have C0h_18 := Lib.hid (C0h_17.out.below b18)
      have B18 := Lib.hid (below_after B17.out (Nat.le_refl _) b18)
      have s18 := b18.size
      have C1h_18 := Lib.hid o18
      clear o18 b18
      go_wp2_with fail
      refine (implTurns_any v0_0 v0_1 _ l0 l0 Z0 _ l1 l1 Z1 w18 C0h_18.out.iat C1h_18.out.iat (Nat.le_refl _)).mono ?_
      rintro e w19 ⟨aj, nj, cj, rfl, o19, b19⟩
      rw [HV.out] at o19 ⊢
      have en : nj = ni := o19.1.symm.trans HZL.out
      subst en
      have Rj_19 := Lib.hid o19
      have X0_19 := Lib.hid (X0_18.out.below b19)
      have RS_19 := Lib.hid (RS_18.out.below b19)
      have OM_19 := Lib.hid (OM_18.out.below b19)
      have B19 := Lib.hid (below_after B18.out (Nat.le_refl _) b19)
      have s19 := b19.size
      clear o19 b19
      go_wp2_with fail
      refine (eqB_any aj aS _ _ _ zs w19 Rj_19.out.iat RS_19.out.iat).mono ?_
      rintro e w20 ⟨rfl, b20⟩
      have X0_20 := Lib.hid (X0_19.out.below b20)
      have RS_20 := Lib.hid (RS_19.out.below b20)
      have OM_20 := Lib.hid (OM_19.out.below b20)
      have Rj_20 := Lib.hid (Rj_19.out.below b20)
      have B20 := Lib.hid (below_after B19.out (Nat.le_refl _) b20)
      have s20 := b20.size
      clear b20
      go_wp2_with fail
      refine (heldB_any ai nj ci 1 w20 (by omega) (by omega) OM_20.out.iat).mono ?_
      rintro e w21 ⟨rfl, b21⟩
      have X0_21 := Lib.hid (X0_20.out.below b21)
      have RS_21 := Lib.hid (RS_20.out.below b21)
      have OM_21 := Lib.hid (OM_20.out.below b21)
      have Rj_21 := Lib.hid (Rj_20.out.below b21)
      have B21 := Lib.hid (below_after B20.out (Nat.le_refl _) b21)
      have s21 := b21.size
      clear b21
      go_wp2_with fail
      go_ret
      exact ⟨rfl, B21.out⟩
    · skip
      clear HI0 HI1
      have HN := Lib.hid (leftOf_no hs0)
      go_enter Try.func10, Try.ntmps10
      go_wp2_with fail
      refine (szValues_any v0_0 v0_1 a0 l0 c0 1048576 (by omega) (by omega) hm0 _).mono ?_
      rintro e w1 ⟨rfl, b1⟩
      rw [HN.out]
      have X0_1 := Lib.hid (Box3.below (heap1 (w := w) (o := .cells #[.int .i64 v0_0, .int .i64 v0_1, .slice a0 l0 c0] 24)) b1)
      have B1 := Lib.hid (below_after below1 (Nat.le_refl _) b1)
      clear b1
      go_wp2_with fail
      go_ret
      exact ⟨rfl, B1.out⟩
  · skip
    clear HI0 HI1
    skip
    go_enter Try.func10, Try.ntmps10
    go_wp2_with fail
    go_ret
    exact ⟨rfl, below1⟩
end Go.Proofs.Ytkgjfockechniaa
