/-
  The law on ZeroSum: every argument.
-/
import Derived.Test.YtnmehenkbinfmaaGZeroS
import Derived.Test.YtnmehenkbinfmaaLawKit
import Derived.Test.YtnmehenkbinfmaaGGame
namespace Go.Proofs.Ytnmehenkbinfmaa
open Go.RowKit Go.ChangeShapes Go.WideShapes
set_option linter.unusedVariables false

set_option maxHeartbeats 1000000 in
set_option maxRecDepth 20000 in
theorem walk_fnExactZeroSum (x0 : Int) (x1 : Int) (a2 : Option Addr) (l2 c2 : Nat) (Z2 : List Int) (w : World) (h0 : (Lit.int .i64 x0).wf = true) (h1 : (Lit.int .i64 x1).wf = true) (h2 : IAt w a2 l2 Z2) :
    Calls Try.prog 5 #[.int .i64 x0, .int .i64 x1, .slice a2 l2 c2] w fun e w' => e = .returned (.bool true) ∧ Below w.heap.size w w' := by
  have hb0 := big_of_wf h0
  clear h0
  have hb1 := big_of_wf h1
  clear h1
  have hm2 := h2.2.1
  have HI2 := Lib.hid h2.inB
  clear h2
  by_cases hs2 : (l2 : Int) ≤ 1048576
  · skip
    have hl2 : l2 ≤ 1048576 := by omega
    obtain ⟨r0, r1, zs, ys, vv, hval⟩ : ∃ r0 r1 zs ys vv, (zeroV x0 x1 Z2) = (r0, r1, zs, ys, vv) := ⟨_, _, _, _, _, rfl⟩
    have HV := Lib.hid hval
    have hlen0 : zs.length + ys.length ≤ 4096 := by have := zeroV_len x0 x1 Z2; rw [hval] at this; exact this
    clear hval
    obtain ⟨zl, hzl⟩ : ∃ zl, zs.length = zl := ⟨_, rfl⟩
    have HZL := Lib.hid hzl
    clear hzl
    obtain ⟨yl, hyl⟩ : ∃ yl, ys.length = yl := ⟨_, rfl⟩
    have HYL := Lib.hid hyl
    have hlen : zl + yl ≤ 4096 := by have := HZL.out; omega
    clear hlen0
    clear hyl
    go_enter Try.func5, Try.ntmps5
    go_wp2_with fail
    refine (copy_any a2 l2 c2 Z2 w hl2 (HI2.out.keep (Below.refl w.heap.size w)).iat).mono ?_
    rintro e w1 ⟨s2, rfl, o1, b1⟩
    have B1 := Lib.hid (b1)
    have s1 := b1.size
    have C2s_1 := Lib.hid o1
    clear o1 b1
    go_wp2_with fail
    refine (specZero_any x0 x1 _ l2 l2 Z2 w1 C2s_1.out.iat hb0 hb1 hl2).mono ?_
    rintro e w2 ⟨aS, nS, cS, dS, mS, fS, rfl, o2, b2⟩
    rw [HV.out] at o2 ⊢
    have en : nS = zl := o2.lens.1.symm.trans HZL.out
    subst en
    have em : mS = yl := o2.lens.2.symm.trans HYL.out
    subst em
    have RS_2 := Lib.hid (o2)
    have B2 := Lib.hid (below_after B1.out (Nat.le_refl _) b2)
    have s2 := b2.size
    clear o2 b2
    go_wp2_with fail
    have b2' : Below w2.heap.size w2 (w2.alloc (.cells #[.int .i64 r0, .int .i64 r1, .slice aS nS cS, .slice dS mS fS] 27)) := below1
    refine (copy_any a2 l2 c2 Z2 _ hl2 (HI2.out.keep (below_after B2.out (Nat.le_refl _) b2')).iat).mono ?_
    rintro e w3 ⟨gx2, rfl, o3, b3⟩
    have SS_3 := Lib.hid (Box4.below (heap1 (w := w2) (o := .cells #[.int .i64 r0, .int .i64 r1, .slice aS nS cS, .slice dS mS fS] 27)) b3)
    have oo3 := o3.wide (lo' := w2.heap.size + 1) (hi' := w3.heap.size) (by simp) (Nat.le_refl _) (Nat.le_refl _)
    have RS_3 := Lib.hid ((RS_2.out.below b2').below b3)
    have B3 := Lib.hid (below_after (below_after B2.out (Nat.le_refl _) b2') (Nat.le_refl _) b3)
    have s3 : w2.heap.size + 1 ≤ w3.heap.size := by have := b3.size; simp at this; omega
    clear b2'
    have H2_3 := Lib.hid oo3
    clear o3 oo3 b3
    go_wp2_with fail
    refine (implZero_any x0 x1 _ l2 l2 Z2 _ H2_3.out.iat hb0 hb1).mono ?_
    rintro e w4 ⟨ai, ni, ci, di, mi, fi, rfl, o4, b4⟩
    rw [HV.out] at o4 ⊢
    have en : ni = nS := o4.lens.1.symm.trans HZL.out
    subst en
    have em : mi = mS := o4.lens.2.symm.trans HYL.out
    subst em
    have oo4 := o4
    have RS_4 := Lib.hid (RS_3.out.below b4)
    have SS_4 := Lib.hid (SS_3.out.below b4)
    have H2_4 := Lib.hid (H2_3.out.below b4)
    have B4 := Lib.hid (below_after B3.out (Nat.le_refl _) b4)
    have s4 := b4.size
    have Ri_4 := Lib.hid oo4
    clear o4 oo4
    clear b4
    obtain ⟨⟨sc0, sc1, sc2, sc3⟩, _⟩ := SS_4.out.all
    have sclt := SS_4.out.lt
    go_wp2_with fail
    have b4' : Below w4.heap.size w4 (w4.alloc (.cells #[.int .i64 r0, .int .i64 r1, .slice ai ni ci, .slice di mi fi] 27)) := below1
    refine (eqGame_any r0 r1 ai _ _ di _ _ aS _ dS _ zs ys _ (Ri_4.out.a.below b4') (Ri_4.out.b.below b4') (RS_4.out.a.below b4') (RS_4.out.b.below b4')).mono ?_
    clear sc2 sc3 sc0 sc1 sclt
    rintro e w5 ⟨rfl, b5⟩
    have Si_5 := Lib.hid (Box4.below (heap1 (w := w4) (o := .cells #[.int .i64 r0, .int .i64 r1, .slice ai ni ci, .slice di mi fi] 27)) b5)
    have RS_5 := Lib.hid ((RS_4.out.below b4').below b5)
    have SS_5 := Lib.hid ((SS_4.out.below b4').below b5)
    have H2_5 := Lib.hid ((H2_4.out.below b4').below b5)
    have Ri_5 := Lib.hid ((Ri_4.out.below b4').below b5)
    have B5 := Lib.hid (below_after (below_after B4.out (Nat.le_refl _) b4') (Nat.le_refl _) b5)
    have s5 : w4.heap.size + 1 ≤ w5.heap.size := by have := b5.size; simp at this; omega
    clear b4'
    clear b5
    go_wp2_with fail
    refine (copy_any a2 l2 c2 Z2 w5 hl2 (HI2.out.keep B5.out).iat).mono ?_
    rintro e w6 ⟨ga, rfl, o6, b6⟩
    have RS_6 := Lib.hid (RS_5.out.below b6)
    have SS_6 := Lib.hid (SS_5.out.below b6)
    have H2_6 := Lib.hid (H2_5.out.below b6)
    have Ri_6 := Lib.hid (Ri_5.out.below b6)
    have Si_6 := Lib.hid (Si_5.out.below b6)
    have B6 := Lib.hid (below_after B5.out (Nat.le_refl _) b6)
    have s6 := b6.size
    have CA6 := Lib.hid o6
    clear o6 b6
    go_wp2_with fail
    refine (eqB_any _ _ l2 l2 l2 Z2 w6 H2_6.out.iat CA6.out.iat).mono ?_
    rintro e w7 ⟨rfl, b7⟩
    clear CA6
    have RS_7 := Lib.hid (RS_6.out.below b7)
    have SS_7 := Lib.hid (SS_6.out.below b7)
    have H2_7 := Lib.hid (H2_6.out.below b7)
    have Ri_7 := Lib.hid (Ri_6.out.below b7)
    have Si_7 := Lib.hid (Si_6.out.below b7)
    have B7 := Lib.hid (below_after B6.out (Nat.le_refl _) b7)
    have s7 := b7.size
    clear b7
    go_wp2_with fail
    refine (mark_any (w2.heap.size + 1) w3.heap.size _ l2 l2 Z2 1 w7 (by omega) (by omega) H2_7.out).mono ?_
    rintro e w8 ⟨rfl, _, k8, _⟩
    have RS_8 := Lib.hid (RS_7.out.keeps k8 (by omega))
    have SS_8 := Lib.hid (SS_7.out.keeps k8 (by omega))
    have Ri_8 := Lib.hid (Ri_7.out.keeps k8 (by omega))
    have Si_8 := Lib.hid (Si_7.out.keeps k8 (by omega))
    have B8 := Lib.hid (B7.out.trans (k8.below (by omega) (by omega)))
    have s8 := k8.size
    clear k8
    obtain ⟨⟨gc0, gc1, gc2, gc3⟩, _⟩ := Si_8.out.all
    have gclt := Si_8.out.lt
    obtain ⟨⟨sc0, sc1, sc2, sc3⟩, _⟩ := SS_8.out.all
    have sclt := SS_8.out.lt
    go_wp2_with fail
    refine (eqGame_any r0 r1 ai _ _ di _ _ aS _ dS _ zs ys w8 Ri_8.out.a Ri_8.out.b RS_8.out.a RS_8.out.b).mono ?_
    clear gc2 gc3 gc0 gc1 gclt sc2 sc3 sc0 sc1 sclt
    rintro e w9 ⟨rfl, b9⟩
    have RS_9 := Lib.hid (RS_8.out.below b9)
    have SS_9 := Lib.hid (SS_8.out.below b9)
    have Ri_9 := Lib.hid (Ri_8.out.below b9)
    have Si_9 := Lib.hid (Si_8.out.below b9)
    have B9 := Lib.hid (below_after B8.out (Nat.le_refl _) b9)
    have s9 := b9.size
    clear b9
    obtain ⟨⟨gc0, gc1, gc2, gc3⟩, _⟩ := Si_9.out.all
    have gclt := Si_9.out.lt
    go_wp2_with fail
    refine (markGame_any r0 r1 w3.heap.size w4.heap.size ai ni ci di mi fi zs ys 1 w9 (by omega) (by omega) Ri_9.out).mono ?_
    rintro e w10 ⟨rfl, om, k10⟩
    clear gc2 gc3 gc0 gc1 gclt
    have OM_10 := Lib.hid om
    clear om
    have RS_10 := Lib.hid (RS_9.out.keeps k10 (by omega))
    have SS_10 := Lib.hid (SS_9.out.keeps k10 (by omega))
    have Si_10 := Lib.hid (Si_9.out.keeps k10 (by omega))
    have B10 := Lib.hid (B9.out.trans (k10.below (by omega) (by omega)))
    have s10 := k10.size
    clear k10
    obtain ⟨⟨gc0, gc1, gc2, gc3⟩, _⟩ := Si_10.out.all
    have gclt := Si_10.out.lt
    go_wp2_with fail
    refine (heldGame_any r0 r1 ai ni ci di mi fi 1 w10 (by omega) (by omega) OM_10.out.a OM_10.out.b).mono ?_
    rintro e w11 ⟨rfl, b11⟩
    clear gc2 gc3 gc0 gc1 gclt
    have RS_11 := Lib.hid (RS_10.out.below b11)
    have SS_11 := Lib.hid (SS_10.out.below b11)
    have Si_11 := Lib.hid (Si_10.out.below b11)
    have OM_11 := Lib.hid (OM_10.out.below b11)
    have B11 := Lib.hid (below_after B10.out (Nat.le_refl _) b11)
    have s11 := b11.size
    clear b11
    go_wp2_with fail
    refine (copy_any a2 l2 c2 Z2 w11 hl2 (HI2.out.keep B11.out).iat).mono ?_
    rintro e w12 ⟨h2, rfl, o12, b12⟩
    have RS_12 := Lib.hid (RS_11.out.below b12)
    have SS_12 := Lib.hid (SS_11.out.below b12)
    have Si_12 := Lib.hid (Si_11.out.below b12)
    have OM_12 := Lib.hid (OM_11.out.below b12)
    have B12 := Lib.hid (below_after B11.out (Nat.le_refl _) b12)
    have s12 := b12.size
    have C2h_12 := Lib.hid o12
    clear o12 b12
    go_wp2_with fail
    refine (implZero_any x0 x1 _ l2 l2 Z2 w12 C2h_12.out.iat hb0 hb1).mono ?_
    rintro e w13 ⟨aj, nj, cj, dj, mj, fj, rfl, o13, b13⟩
    rw [HV.out] at o13 ⊢
    have en : nj = ni := o13.lens.1.symm.trans HZL.out
    subst en
    have em : mj = mi := o13.lens.2.symm.trans HYL.out
    subst em
    have Rj_13 := Lib.hid o13
    have RS_13 := Lib.hid (RS_12.out.below b13)
    have SS_13 := Lib.hid (SS_12.out.below b13)
    have Si_13 := Lib.hid (Si_12.out.below b13)
    have OM_13 := Lib.hid (OM_12.out.below b13)
    have B13 := Lib.hid (below_after B12.out (Nat.le_refl _) b13)
    have s13 := b13.size
    clear o13 b13
    obtain ⟨⟨sc0, sc1, sc2, sc3⟩, _⟩ := SS_13.out.all
    have sclt := SS_13.out.lt
    go_wp2_with fail
    have b13' : Below w13.heap.size w13 (w13.alloc (.cells #[.int .i64 r0, .int .i64 r1, .slice aj nj cj, .slice dj mj fj] 27)) := below1
    refine (eqGame_any r0 r1 aj _ _ dj _ _ aS _ dS _ zs ys _ (Rj_13.out.a.below b13') (Rj_13.out.b.below b13') (RS_13.out.a.below b13') (RS_13.out.b.below b13')).mono ?_
    clear sc2 sc3 sc0 sc1 sclt
    rintro e w14 ⟨rfl, b14⟩
    have Sj_14 := Lib.hid (Box4.below (heap1 (w := w13) (o := .cells #[.int .i64 r0, .int .i64 r1, .slice aj nj cj, .slice dj mj fj] 27)) b14)
    have RS_14 := Lib.hid ((RS_13.out.below b13').below b14)
    have SS_14 := Lib.hid ((SS_13.out.below b13').below b14)
    have Si_14 := Lib.hid ((Si_13.out.below b13').below b14)
    have OM_14 := Lib.hid ((OM_13.out.below b13').below b14)
    have Rj_14 := Lib.hid ((Rj_13.out.below b13').below b14)
    have B14 := Lib.hid (below_after (below_after B13.out (Nat.le_refl _) b13') (Nat.le_refl _) b14)
    have s14 : w13.heap.size + 1 ≤ w14.heap.size := by have := b14.size; simp at this; omega
    clear b13'
    clear b14
    obtain ⟨⟨gc0, gc1, gc2, gc3⟩, _⟩ := Si_14.out.all
    have gclt := Si_14.out.lt
    go_wp2_with fail
    refine (heldGame_any r0 r1 ai nj ci di mj fi 1 w14 (by omega) (by omega) OM_14.out.a OM_14.out.b).mono ?_
    rintro e w15 ⟨rfl, b15⟩
    clear gc2 gc3 gc0 gc1 gclt
    have RS_15 := Lib.hid (RS_14.out.below b15)
    have SS_15 := Lib.hid (SS_14.out.below b15)
    have Si_15 := Lib.hid (Si_14.out.below b15)
    have OM_15 := Lib.hid (OM_14.out.below b15)
    have Rj_15 := Lib.hid (Rj_14.out.below b15)
    have Sj_15 := Lib.hid (Sj_14.out.below b15)
    have B15 := Lib.hid (below_after B14.out (Nat.le_refl _) b15)
    have s15 := b15.size
    clear b15
    go_wp2_with fail
    go_ret
    exact ⟨rfl, B15.out⟩
  · skip
    clear HI2
    go_enter Try.func5, Try.ntmps5
    go_wp2_with fail
    go_ret
    exact ⟨rfl, (Below.refl w.heap.size w)⟩
end Go.Proofs.Ytnmehenkbinfmaa
