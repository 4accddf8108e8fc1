/-
  The law on TurnGame: every argument.
-/
import Derived.Test.YtnmehenkbinfmaaGTurnJ
import Derived.Test.YtnmehenkbinfmaaLawKit
import Derived.Test.YtnmehenkbinfmaaGLaw
namespace Go.Proofs.Ytnmehenkbinfmaa
open Go.RowKit Go.ChangeShapes Go.WideShapes
set_option linter.unusedVariables false

set_option maxHeartbeats 1000000 in
set_option maxRecDepth 20000 in
theorem walk_fnExactTurnGame (gr0 gc0 : Int) (a0 : Option Addr) (l0 c0 : Nat) (ab0 : Option Addr) (lb0 cb0 : Nat) (Z0 Y0 : List Int) (w : World) (h0 : IAt w a0 l0 Z0) (hh0 : IAt w ab0 lb0 Y0) :
    Calls Try.prog 6 #[gameV gr0 gc0 a0 l0 c0 ab0 lb0 cb0] w fun e w' => e = .returned (.bool true) ∧ Below w.heap.size w w' := by
  have HI0 := Lib.hid h0.inB
  clear h0
  have HJ0 := Lib.hid hh0.inB
  clear hh0
  by_cases hs0 : (((l0 + lb0) : Nat) : Int) ≤ 1048576
  · obtain ⟨zz0, hz0⟩ : ∃ z, leftOf 1048576 (l0 + lb0) = z := ⟨_, rfl⟩
    obtain ⟨z0_0, z1_0⟩ := leftOf_le (left := 1048576) (by omega) (by omega) hs0
    rw [hz0] at z0_0 z1_0
    have HZ0 := Lib.hid hz0
    clear hz0
    have hl0 : l0 ≤ 1048576 ∧ lb0 ≤ 1048576 := by omega
    clear hs0
    obtain ⟨r0, r1, zs, ys, vv, hval⟩ : ∃ r0 r1 zs ys vv, (turnGV gr0 gc0 Z0 Y0) = (r0, r1, zs, ys, vv) := ⟨_, _, _, _, _, rfl⟩
    have HV := Lib.hid hval
    have hlen0 : zs.length + ys.length ≤ 4096 := by have := turnGV_len gr0 gc0 Z0 Y0; rw [hval] at this; exact this
    clear hval
    obtain ⟨zl, hzl⟩ : ∃ zl, zs.length = zl := ⟨_, rfl⟩
    have HZL := Lib.hid hzl
    clear hzl
    obtain ⟨yl, hyl⟩ : ∃ yl, ys.length = yl := ⟨_, rfl⟩
    have HYL := Lib.hid hyl
    have hlen : zl + yl ≤ 4096 := by have := HZL.out; omega
    clear hlen0
    clear hyl
    go_enter Try.func6, Try.ntmps6
    go_wp2_with fail
    refine (szGameT_any gr0 gc0 a0 l0 c0 ab0 lb0 cb0 Z0 Y0 1048576 (by omega) (by omega) _ (HI0.out.keep below1).iat (HJ0.out.keep below1).iat).mono ?_
    rintro e w1 ⟨rfl, b1⟩
    rw [HZ0.out]
    have X0_1 := Lib.hid (Box4.below (heap1 (w := w) (o := .cells #[.int .i64 gr0, .int .i64 gc0, .slice a0 l0 c0, .slice ab0 lb0 cb0] 24)) b1)
    have B1 := Lib.hid (below_after below1 (Nat.le_refl _) b1)
    have s1 : w.heap.size + 1 ≤ w1.heap.size := by have := b1.size; simp at this; omega
    clear b1
    obtain ⟨⟨pc0, pc1, pc2, pc3⟩, _⟩ := X0_1.out.all
    have pclt := X0_1.out.lt
    go_wp2_with fail
    refine (toGame_any gr0 gc0 a0 l0 c0 ab0 lb0 cb0 Z0 Y0 w1 hl0.1 hl0.2 (HI0.out.keep B1.out).iat (HJ0.out.keep B1.out).iat).mono ?_
    clear pc2 pc3 pc0 pc1 pclt
    rintro e w2 ⟨s0, s0', rfl, o2, b2⟩
    have X0_2 := Lib.hid (X0_1.out.below b2)
    have B2 := Lib.hid (below_after B1.out (Nat.le_refl _) b2)
    have s2 := b2.size
    have C0s_2 := Lib.hid o2
    clear o2 b2
    go_wp2_with fail
    refine (specTurnG_any gr0 gc0 _ l0 l0 _ lb0 lb0 Z0 Y0 w2 C0s_2.out.a C0s_2.out.b).mono ?_
    rintro e w3 ⟨aS, nS, cS, dS, mS, fS, rfl, o3, b3⟩
    rw [HV.out] at o3 ⊢
    have en : nS = zl := o3.lens.1.symm.trans HZL.out
    subst en
    have em : mS = yl := o3.lens.2.symm.trans HYL.out
    subst em
    have RS_3 := Lib.hid (o3)
    have X0_3 := Lib.hid (X0_2.out.below b3)
    have B3 := Lib.hid (below_after B2.out (Nat.le_refl _) b3)
    have s3 := b3.size
    clear o3 b3
    obtain ⟨⟨pc0, pc1, pc2, pc3⟩, _⟩ := X0_3.out.all
    have pclt := X0_3.out.lt
    go_wp2_with fail
    have b3' : Below w3.heap.size w3 (w3.alloc (.cells #[.int .i64 r0, .int .i64 r1, .slice aS nS cS, .slice dS mS fS] 27)) := below1
    refine (toGame_any gr0 gc0 a0 l0 c0 ab0 lb0 cb0 Z0 Y0 _ hl0.1 hl0.2 (HI0.out.keep (below_after B3.out (Nat.le_refl _) b3')).iat (HJ0.out.keep (below_after B3.out (Nat.le_refl _) b3')).iat).mono ?_
    clear pc2 pc3 pc0 pc1 pclt
    rintro e w4 ⟨gx0, gx0', rfl, o4, b4⟩
    have SS_4 := Lib.hid (Box4.below (heap1 (w := w3) (o := .cells #[.int .i64 r0, .int .i64 r1, .slice aS nS cS, .slice dS mS fS] 27)) b4)
    have oo4 := o4.wide (lo' := w3.heap.size + 1) (hi' := w4.heap.size) (by simp) (Nat.le_refl _) (Nat.le_refl _)
    have X0_4 := Lib.hid ((X0_3.out.below b3').below b4)
    have RS_4 := Lib.hid ((RS_3.out.below b3').below b4)
    have B4 := Lib.hid (below_after (below_after B3.out (Nat.le_refl _) b3') (Nat.le_refl _) b4)
    have s4 : w3.heap.size + 1 ≤ w4.heap.size := by have := b4.size; simp at this; omega
    clear b3'
    have H0_4 := Lib.hid oo4
    clear o4 oo4 b4
    go_wp2_with fail
    have b4' : Below w4.heap.size w4 (w4.alloc (.cells #[.int .i64 gr0, .int .i64 gc0, .slice (some ⟨gx0, 0, none⟩) l0 l0, .slice (some ⟨gx0', 0, none⟩) lb0 lb0] 27)) := below1
    refine (implTurnG_any gr0 gc0 _ l0 l0 _ lb0 lb0 Z0 Y0 _ (H0_4.out.a.below b4') (H0_4.out.b.below b4')).mono ?_
    rintro e w5 ⟨ai, ni, ci, di, mi, fi, rfl, o5, b5⟩
    rw [HV.out] at o5 ⊢
    have en : ni = nS := o5.lens.1.symm.trans HZL.out
    subst en
    have em : mi = mS := o5.lens.2.symm.trans HYL.out
    subst em
    have oo5 := o5.wide (lo' := w4.heap.size + 1) (hi' := w5.heap.size) (by simp) (Nat.le_refl _) (Nat.le_refl _)
    have U0_5 := Lib.hid (Box4.below (heap1 (w := w4) (o := .cells #[.int .i64 gr0, .int .i64 gc0, .slice (some ⟨gx0, 0, none⟩) l0 l0, .slice (some ⟨gx0', 0, none⟩) lb0 lb0] 27)) b5)
    have X0_5 := Lib.hid ((X0_4.out.below b4').below b5)
    have RS_5 := Lib.hid ((RS_4.out.below b4').below b5)
    have SS_5 := Lib.hid ((SS_4.out.below b4').below b5)
    have H0_5 := Lib.hid ((H0_4.out.below b4').below b5)
    have B5 := Lib.hid (below_after (below_after B4.out (Nat.le_refl _) b4') (Nat.le_refl _) b5)
    have s5 : w4.heap.size + 1 ≤ w5.heap.size := by have := b5.size; simp at this; omega
    clear b4'
    have Ri_5 := Lib.hid oo5
    clear o5 oo5
    clear b5
    obtain ⟨⟨sc0, sc1, sc2, sc3⟩, _⟩ := SS_5.out.all
    have sclt := SS_5.out.lt
    go_wp2_with fail
    have b5' : Below w5.heap.size w5 (w5.alloc (.cells #[.int .i64 r0, .int .i64 r1, .slice ai ni ci, .slice di mi fi] 27)) := below1
    refine (eqGame_any r0 r1 ai _ _ di _ _ aS _ dS _ zs ys _ (Ri_5.out.a.below b5') (Ri_5.out.b.below b5') (RS_5.out.a.below b5') (RS_5.out.b.below b5')).mono ?_
    clear sc2 sc3 sc0 sc1 sclt
    rintro e w6 ⟨rfl, b6⟩
    have Si_6 := Lib.hid (Box4.below (heap1 (w := w5) (o := .cells #[.int .i64 r0, .int .i64 r1, .slice ai ni ci, .slice di mi fi] 27)) b6)
    have X0_6 := Lib.hid ((X0_5.out.below b5').below b6)
    have RS_6 := Lib.hid ((RS_5.out.below b5').below b6)
    have SS_6 := Lib.hid ((SS_5.out.below b5').below b6)
    have H0_6 := Lib.hid ((H0_5.out.below b5').below b6)
    have U0_6 := Lib.hid ((U0_5.out.below b5').below b6)
    have Ri_6 := Lib.hid ((Ri_5.out.below b5').below b6)
    have B6 := Lib.hid (below_after (below_after B5.out (Nat.le_refl _) b5') (Nat.le_refl _) b6)
    have s6 : w5.heap.size + 1 ≤ w6.heap.size := by have := b6.size; simp at this; omega
    clear b5'
    clear b6
    obtain ⟨⟨pc0, pc1, pc2, pc3⟩, _⟩ := X0_6.out.all
    have pclt := X0_6.out.lt
    obtain ⟨⟨qc0, qc1, qc2, qc3⟩, _⟩ := U0_6.out.all
    have qclt := U0_6.out.lt
    go_wp2_with fail
    go_region_held3 (fun w' => Hid (Below w6.heap.size w6 w') ∧ (w'.cell? ⟨w.heap.size, 0, none⟩ = some (.int .i64 gr0) ∧ w'.cell? ⟨w.heap.size, 1, none⟩ = some (.int .i64 gc0) ∧ w'.cell? ⟨w.heap.size, 2, none⟩ = some (.slice a0 l0 c0) ∧ w'.cell? ⟨w.heap.size, 3, none⟩ = some (.slice ab0 lb0 cb0)) ∧ (w'.cell? ⟨w4.heap.size, 0, none⟩ = some (.int .i64 gr0) ∧ w'.cell? ⟨w4.heap.size, 1, none⟩ = some (.int .i64 gc0) ∧ w'.cell? ⟨w4.heap.size, 2, none⟩ = some (.slice (some ⟨gx0, 0, none⟩) l0 l0) ∧ w'.cell? ⟨w4.heap.size, 3, none⟩ = some (.slice (some ⟨gx0', 0, none⟩) lb0 lb0)))
      (first | exact ⟨keep0, ⟨pc0, pc1, pc2, pc3⟩, ⟨qc0, qc1, qc2, qc3⟩⟩ | exact keep2 (by assumption) (by assumption))
      (first
        | (go_at_call 24; refine (toGame_any gr0 gc0 a0 l0 c0 ab0 lb0 cb0 Z0 Y0 _ hl0.1 hl0.2 (HI0.out.keep (below_after B6.out (Nat.le_refl _) (Hid.out (And.left (by assumption))))).iat (HJ0.out.keep (below_after B6.out (Nat.le_refl _) (Hid.out (And.left (by assumption))))).iat).mono ?_; rintro e wa ⟨ga, ga', rfl, oa, ba⟩; have HGA := Lib.hid oa; have BBA := Lib.hid ba; clear oa ba)
        | (go_at_call 26; refine (eqGame_any gr0 gc0 _ l0 l0 _ lb0 lb0 _ l0 _ lb0 Z0 Y0 _ (H0_6.out.a.below (Hid.out (And.left (by assumption)))) (H0_6.out.b.below (Hid.out (And.left (by assumption)))) HGA.out.a HGA.out.b).mono ?_; rintro e w7 ⟨rfl, bc⟩; have BBC := Lib.hid bc; clear bc))
    have b7 : Below w6.heap.size w6 w7 := Hid.out (And.left (by assumption))
    have X0_7 := Lib.hid (X0_6.out.below b7)
    have RS_7 := Lib.hid (RS_6.out.below b7)
    have SS_7 := Lib.hid (SS_6.out.below b7)
    have H0_7 := Lib.hid (H0_6.out.below b7)
    have U0_7 := Lib.hid (U0_6.out.below b7)
    have Ri_7 := Lib.hid (Ri_6.out.below b7)
    have Si_7 := Lib.hid (Si_6.out.below b7)
    have B7 := Lib.hid (below_after B6.out (Nat.le_refl _) b7)
    have s7 := b7.size
    clear HGA BBA BBC b7
    clear pc2 pc3 pc0 pc1 pclt qc2 qc3 qc0 qc1 qclt
    rename_i hHeld
    clear hHeld
    obtain ⟨⟨qc0, qc1, qc2, qc3⟩, _⟩ := U0_7.out.all
    have qclt := U0_7.out.lt
    go_wp2_with fail
    refine (markGame_any gr0 gc0 (w3.heap.size + 1) w4.heap.size _ l0 l0 _ lb0 lb0 Z0 Y0 1 w7 (by omega) (by omega) H0_7.out).mono ?_
    rintro e w8 ⟨rfl, _, k8⟩
    clear qc2 qc3 qc0 qc1 qclt
    have X0_8 := Lib.hid (X0_7.out.keeps k8 (by omega))
    have RS_8 := Lib.hid (RS_7.out.keeps k8 (by omega))
    have SS_8 := Lib.hid (SS_7.out.keeps k8 (by omega))
    have Ri_8 := Lib.hid (Ri_7.out.keeps k8 (by omega))
    have Si_8 := Lib.hid (Si_7.out.keeps k8 (by omega))
    have B8 := Lib.hid (B7.out.trans (k8.below (by omega) (by omega)))
    have s8 := k8.size
    clear k8
    obtain ⟨⟨gc0, gc1, gc2, gc3⟩, _⟩ := Si_8.out.all
    have gclt := Si_8.out.lt
    obtain ⟨⟨sc0, sc1, sc2, sc3⟩, _⟩ := SS_8.out.all
    have sclt := SS_8.out.lt
    go_wp2_with fail
    refine (eqGame_any r0 r1 ai _ _ di _ _ aS _ dS _ zs ys w8 Ri_8.out.a Ri_8.out.b RS_8.out.a RS_8.out.b).mono ?_
    clear gc2 gc3 gc0 gc1 gclt sc2 sc3 sc0 sc1 sclt
    rintro e w9 ⟨rfl, b9⟩
    have X0_9 := Lib.hid (X0_8.out.below b9)
    have RS_9 := Lib.hid (RS_8.out.below b9)
    have SS_9 := Lib.hid (SS_8.out.below b9)
    have Ri_9 := Lib.hid (Ri_8.out.below b9)
    have Si_9 := Lib.hid (Si_8.out.below b9)
    have B9 := Lib.hid (below_after B8.out (Nat.le_refl _) b9)
    have s9 := b9.size
    clear b9
    obtain ⟨⟨gc0, gc1, gc2, gc3⟩, _⟩ := Si_9.out.all
    have gclt := Si_9.out.lt
    go_wp2_with fail
    refine (markGame_any r0 r1 (w4.heap.size + 1) w5.heap.size ai ni ci di mi fi zs ys 1 w9 (by omega) (by omega) Ri_9.out).mono ?_
    rintro e w10 ⟨rfl, om, k10⟩
    clear gc2 gc3 gc0 gc1 gclt
    have OM_10 := Lib.hid om
    clear om
    have X0_10 := Lib.hid (X0_9.out.keeps k10 (by omega))
    have RS_10 := Lib.hid (RS_9.out.keeps k10 (by omega))
    have SS_10 := Lib.hid (SS_9.out.keeps k10 (by omega))
    have Si_10 := Lib.hid (Si_9.out.keeps k10 (by omega))
    have B10 := Lib.hid (B9.out.trans (k10.below (by omega) (by omega)))
    have s10 := k10.size
    clear k10
    obtain ⟨⟨gc0, gc1, gc2, gc3⟩, _⟩ := Si_10.out.all
    have gclt := Si_10.out.lt
    go_wp2_with fail
    refine (heldGame_any r0 r1 ai ni ci di mi fi 1 w10 (by omega) (by omega) OM_10.out.a OM_10.out.b).mono ?_
    rintro e w11 ⟨rfl, b11⟩
    clear gc2 gc3 gc0 gc1 gclt
    have X0_11 := Lib.hid (X0_10.out.below b11)
    have RS_11 := Lib.hid (RS_10.out.below b11)
    have SS_11 := Lib.hid (SS_10.out.below b11)
    have Si_11 := Lib.hid (Si_10.out.below b11)
    have OM_11 := Lib.hid (OM_10.out.below b11)
    have B11 := Lib.hid (below_after B10.out (Nat.le_refl _) b11)
    have s11 := b11.size
    clear b11
    obtain ⟨⟨pc0, pc1, pc2, pc3⟩, _⟩ := X0_11.out.all
    have pclt := X0_11.out.lt
    go_wp2_with fail
    refine (toGame_any gr0 gc0 a0 l0 c0 ab0 lb0 cb0 Z0 Y0 w11 hl0.1 hl0.2 (HI0.out.keep B11.out).iat (HJ0.out.keep B11.out).iat).mono ?_
    clear pc2 pc3 pc0 pc1 pclt
    rintro e w12 ⟨h0, h0', rfl, o12, b12⟩
    have X0_12 := Lib.hid (X0_11.out.below b12)
    have RS_12 := Lib.hid (RS_11.out.below b12)
    have SS_12 := Lib.hid (SS_11.out.below b12)
    have Si_12 := Lib.hid (Si_11.out.below b12)
    have OM_12 := Lib.hid (OM_11.out.below b12)
    have B12 := Lib.hid (below_after B11.out (Nat.le_refl _) b12)
    have s12 := b12.size
    have C0h_12 := Lib.hid o12
    clear o12 b12
    go_wp2_with fail
    refine (implTurnG_any gr0 gc0 _ l0 l0 _ lb0 lb0 Z0 Y0 w12 C0h_12.out.a C0h_12.out.b).mono ?_
    rintro e w13 ⟨aj, nj, cj, dj, mj, fj, rfl, o13, b13⟩
    rw [HV.out] at o13 ⊢
    have en : nj = ni := o13.lens.1.symm.trans HZL.out
    subst en
    have em : mj = mi := o13.lens.2.symm.trans HYL.out
    subst em
    have Rj_13 := Lib.hid o13
    have X0_13 := Lib.hid (X0_12.out.below b13)
    have RS_13 := Lib.hid (RS_12.out.below b13)
    have SS_13 := Lib.hid (SS_12.out.below b13)
    have Si_13 := Lib.hid (Si_12.out.below b13)
    have OM_13 := Lib.hid (OM_12.out.below b13)
    have B13 := Lib.hid (below_after B12.out (Nat.le_refl _) b13)
    have s13 := b13.size
    clear o13 b13
    obtain ⟨⟨sc0, sc1, sc2, sc3⟩, _⟩ := SS_13.out.all
    have sclt := SS_13.out.lt
    go_wp2_with fail
    have b13' : Below w13.heap.size w13 (w13.alloc (.cells #[.int .i64 r0, .int .i64 r1, .slice aj nj cj, .slice dj mj fj] 27)) := below1
    refine (eqGame_any r0 r1 aj _ _ dj _ _ aS _ dS _ zs ys _ (Rj_13.out.a.below b13') (Rj_13.out.b.below b13') (RS_13.out.a.below b13') (RS_13.out.b.below b13')).mono ?_
    clear sc2 sc3 sc0 sc1 sclt
    rintro e w14 ⟨rfl, b14⟩
    have Sj_14 := Lib.hid (Box4.below (heap1 (w := w13) (o := .cells #[.int .i64 r0, .int .i64 r1, .slice aj nj cj, .slice dj mj fj] 27)) b14)
    have X0_14 := Lib.hid ((X0_13.out.below b13').below b14)
    have RS_14 := Lib.hid ((RS_13.out.below b13').below b14)
    have SS_14 := Lib.hid ((SS_13.out.below b13').below b14)
    have Si_14 := Lib.hid ((Si_13.out.below b13').below b14)
    have OM_14 := Lib.hid ((OM_13.out.below b13').below b14)
    have Rj_14 := Lib.hid ((Rj_13.out.below b13').below b14)
    have B14 := Lib.hid (below_after (below_after B13.out (Nat.le_refl _) b13') (Nat.le_refl _) b14)
    have s14 : w13.heap.size + 1 ≤ w14.heap.size := by have := b14.size; simp at this; omega
    clear b13'
    clear b14
    obtain ⟨⟨gc0, gc1, gc2, gc3⟩, _⟩ := Si_14.out.all
    have gclt := Si_14.out.lt
    go_wp2_with fail
    refine (heldGame_any r0 r1 ai nj ci di mj fi 1 w14 (by omega) (by omega) OM_14.out.a OM_14.out.b).mono ?_
    rintro e w15 ⟨rfl, b15⟩
    clear gc2 gc3 gc0 gc1 gclt
    have X0_15 := Lib.hid (X0_14.out.below b15)
    have RS_15 := Lib.hid (RS_14.out.below b15)
    have SS_15 := Lib.hid (SS_14.out.below b15)
    have Si_15 := Lib.hid (Si_14.out.below b15)
    have OM_15 := Lib.hid (OM_14.out.below b15)
    have Rj_15 := Lib.hid (Rj_14.out.below b15)
    have Sj_15 := Lib.hid (Sj_14.out.below b15)
    have B15 := Lib.hid (below_after B14.out (Nat.le_refl _) b15)
    have s15 := b15.size
    clear b15
    go_wp2_with fail
    go_ret
    exact ⟨rfl, B15.out⟩
  · skip
    have HN := Lib.hid (leftOf_no hs0)
    clear hs0
    go_enter Try.func6, Try.ntmps6
    go_wp2_with fail
    refine (szGameT_any gr0 gc0 a0 l0 c0 ab0 lb0 cb0 Z0 Y0 1048576 (by omega) (by omega) _ (HI0.out.keep below1).iat (HJ0.out.keep below1).iat).mono ?_
    rintro e w1 ⟨rfl, b1⟩
    rw [HN.out]
    have X0_1 := Lib.hid (Box4.below (heap1 (w := w) (o := .cells #[.int .i64 gr0, .int .i64 gc0, .slice a0 l0 c0, .slice ab0 lb0 cb0] 24)) b1)
    have B1 := Lib.hid (below_after below1 (Nat.le_refl _) b1)
    have s1 : w.heap.size + 1 ≤ w1.heap.size := by have := b1.size; simp at this; omega
    clear b1
    go_wp2_with fail
    go_ret
    exact ⟨rfl, B1.out⟩
end Go.Proofs.Ytnmehenkbinfmaa
