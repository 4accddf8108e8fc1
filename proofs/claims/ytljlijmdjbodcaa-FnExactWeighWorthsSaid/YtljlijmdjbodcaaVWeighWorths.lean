/-
  The law on WeighWorths: every argument.
-/
import Derived.Test.YtljlijmdjbodcaaWWeighS
import Derived.Test.YtljlijmdjbodcaaLawKit
import Derived.Deep.Cut
import Derived.Deep.RegionLaw
import Derived.Test.YtljlijmdjbodcaaCut2
namespace Go.Proofs.Ytljlijmdjbodcaa
open Go.RowKit Go.ChangeShapes Go.WideShapes
set_option linter.unusedVariables false

set_option maxHeartbeats 8000000 in
set_option maxRecDepth 20000 in
theorem walk_fnExactWeighWorths (v0_0 : Int) (a0 : Option Addr) (l0 c0 : Nat) (Z0 : List Int) (v1_0 : Int) (a1 : Option Addr) (l1 c1 : Nat) (Z1 : List Int) (x2 : Int) (x3 : Int) (w : World) (h0 : IAt w a0 l0 Z0) (h1 : IAt w a1 l1 Z1) (h2 : (Lit.int .i64 x2).wf = true) (h3 : (Lit.int .i64 x3).wf = true) :
    Calls Try.prog 5 #[worthsV v0_0 a0 l0 c0, worthsV v1_0 a1 l1 c1, .int .i64 x2, .int .i64 x3] w fun e w' => e = .returned (.bool true) ∧ Below w.heap.size w w' := by
  have hb2 := big_of_wf h2
  clear h2
  have hb3 := big_of_wf h3
  clear h3
  have hm0 := h0.2.1
  have HI0 := Lib.hid h0.inB
  clear h0
  have hm1 := h1.2.1
  have HI1 := Lib.hid h1.inB
  clear h1
  by_cases hs0 : (l0 : Int) ≤ 1048576
  · obtain ⟨zz0, hz0⟩ : ∃ z, leftOf 1048576 l0 = z := ⟨_, rfl⟩
    obtain ⟨z0_0, z1_0⟩ := leftOf_le (left := 1048576) (by omega) (by omega) hs0
    rw [hz0] at z0_0 z1_0
    have HZ0 := Lib.hid hz0
    clear hz0
    by_cases hs1 : (l1 : Int) ≤ zz0
    · obtain ⟨zz1, hz1⟩ : ∃ z, leftOf zz0 l1 = z := ⟨_, rfl⟩
      obtain ⟨z0_1, z1_1⟩ := leftOf_le (left := zz0) z0_0 z1_0 hs1
      rw [hz1] at z0_1 z1_1
      have HZ1 := Lib.hid hz1
      clear hz1
      have hl0 : l0 ≤ 1048576 := by omega
      have hl1 : l1 ≤ 1048576 := by omega
      obtain ⟨r0, zs, vv, hval⟩ : ∃ r0 zs vv, (weighV v0_0 Z0 v1_0 Z1 x2 x3) = (r0, zs, vv) := ⟨_, _, _, rfl⟩
      have HV := Lib.hid hval
      have hlen : zs.length ≤ 4096 := by have := weighV_len v0_0 Z0 v1_0 Z1 x2 x3; rw [hval] at this; exact this
      clear hval
      obtain ⟨zl, hzl⟩ : ∃ zl, zs.length = zl := ⟨_, rfl⟩
      rw [hzl] at hlen
      have HZL := Lib.hid hzl
      clear hzl
      go_enter Try.func5, Try.ntmps5
      go_wp2_with fail
      refine (szWorths_any v0_0 a0 l0 c0 1048576 (by omega) (by omega) hm0 _).mono ?_
      rintro e w1 ⟨rfl, b1⟩
      rw [HZ0.out]
      have X0_1 := Lib.hid (Box2.below (heap2a (w := w) (o := .cells #[.int .i64 v0_0, .slice a0 l0 c0] 24) (p := .cells #[.int .i64 v1_0, .slice a1 l1 c1] 24)) b1)
      have X1_1 := Lib.hid (Box2.below (heap2b (w := w) (o := .cells #[.int .i64 v0_0, .slice a0 l0 c0] 24) (p := .cells #[.int .i64 v1_0, .slice a1 l1 c1] 24)) b1)
      have B1 := Lib.hid (below_after below2 (Nat.le_refl _) b1)
      have s1 : w.heap.size + 2 ≤ w1.heap.size := by have := b1.size; simp at this; omega
      clear b1
      obtain ⟨⟨pc0, pc1⟩, _⟩ := X1_1.out.all
      have pclt := X1_1.out.lt
      go_wp2_with fail
      refine (szWorths_any v1_0 a1 l1 c1 zz0 z0_0 z1_0 hm1 _).mono ?_
      clear pc0 pc1 pclt
      rintro e w2 ⟨rfl, b2⟩
      rw [HZ1.out]
      have X0_2 := Lib.hid (X0_1.out.below b2)
      have X1_2 := Lib.hid (X1_1.out.below b2)
      have B2 := Lib.hid (below_after B1.out (Nat.le_refl _) b2)
      have s2 := b2.size
      clear b2
      obtain ⟨⟨pc0, pc1⟩, _⟩ := X0_2.out.all
      have pclt := X0_2.out.lt
      obtain ⟨⟨qc0, qc1⟩, _⟩ := X1_2.out.all
      have qclt := X1_2.out.lt
      go_upto_region 8 with fail
      go_cut [10, 11] from 21 (fun s1 s2 wx => ∃ (mS : Nat) (aS : Option Addr) (cS : Nat), s1 = .pointer (some ⟨mS, 0, none⟩) ∧ s2 = .bool vv ∧ Hid (Below w2.heap.size w2 wx) ∧ Hid (w2.heap.size ≤ mS ∧ mS < wx.heap.size) ∧ Hid (Box2 wx mS 27 (.int .i64 r0) (.slice aS zl cS)) ∧ Hid (Own wx w2.heap.size wx.heap.size aS zl cS zs))
      case first =>
        go_region_law (first
            | (go_simp; go_at_call_of 20 (Value.slice a0 l0 c0)
               refine (toWorths_any v0_0 a0 l0 c0 Z0 _ hl0 (by first | exact (HI0.out.keep (below_after B2.out (Nat.le_refl _) BB.out)).1 | exact (HI0.out.keep (below_after B2.out (Nat.le_refl _) (BB.out.alloc BB.out.size _))).1 | exact (HI0.out.keep (below_after B2.out (Nat.le_refl _) (Below.drew (Below.refl w2.heap.size w2)))).1 | exact (HI0.out.keep (below_after B2.out (Nat.le_refl _) (Below.drew (below1 (w := w2))))).1 | exact (HI0.out.keep (below_after B2.out (Nat.le_refl _) (Below.alloc (Below.drew (Below.refl w2.heap.size w2)) (Nat.le_refl _) _))).1)).mono ?_
               rintro e wA ⟨gA, rfl, oA, bA⟩
               have HGA := Lib.hid oA
               first
                 | replace HGB := Lib.hid (HGB.out.below bA)
                 | replace HGB := Lib.hid ((HGB.out.below below1).below bA)
                 | skip
               first
                 | replace BB := Lib.hid (below_after BB.out (Nat.le_refl _) bA)
                 | replace BB := Lib.hid (below_after (BB.out.alloc BB.out.size _) (Nat.le_refl _) bA)
                 | have BB := Lib.hid (below_after (Below.drew (Below.refl w2.heap.size w2)) (Nat.le_refl _) bA)
                 | have BB := Lib.hid (below_after (Below.drew (below1 (w := w2))) (Nat.le_refl _) bA)
                 | have BB := Lib.hid (below_after (Below.alloc (Below.drew (Below.refl w2.heap.size w2)) (Nat.le_refl _) _) (Nat.le_refl _) bA)
               first
                 | replace SB := Lib.hid (SB.out.below bA)
                 | have SB : Hid (Box2 _ w2.heap.size 27 (.int .i64 0) (.slice none 0 0)) := Lib.hid (Box2.below (w := (w2.alloc (.cells #[.int .i64 0, .slice none 0 0] 27)).drew) (show Box2 ((w2.alloc (.cells #[.int .i64 0, .slice none 0 0] 27)).drew) w2.heap.size 27 (.int .i64 0) (.slice none 0 0) from heap1 (w := w2) (o := .cells #[.int .i64 0, .slice none 0 0] 27)) bA)
                 | have SB : Hid (Box2 _ _ 27 (.int .i64 0) (.slice none 0 0)) := Lib.hid (Box2.below (heap1 (o := .cells #[.int .i64 0, .slice none 0 0] 27)) bA)
                 | skip
               have leA := BB.out.size
               clear oA bA
               have zlt := (X1_2.out.below BB.out).lt
               obtain ⟨⟨zc0, zc1⟩, _⟩ := (X1_2.out.below BB.out).all)
            | (go_simp; go_at_call_of 20 (Value.slice a1 l1 c1)
               refine (toWorths_any v1_0 a1 l1 c1 Z1 _ hl1 (by first | exact (HI1.out.keep (below_after B2.out (Nat.le_refl _) BB.out)).1 | exact (HI1.out.keep (below_after B2.out (Nat.le_refl _) (BB.out.alloc BB.out.size _))).1 | exact (HI1.out.keep (below_after B2.out (Nat.le_refl _) (Below.drew (Below.refl w2.heap.size w2)))).1 | exact (HI1.out.keep (below_after B2.out (Nat.le_refl _) (Below.drew (below1 (w := w2))))).1 | exact (HI1.out.keep (below_after B2.out (Nat.le_refl _) (Below.alloc (Below.drew (Below.refl w2.heap.size w2)) (Nat.le_refl _) _))).1)).mono ?_
               rintro e wB ⟨gB, rfl, oB, bB⟩
               have HGB := Lib.hid oB
               first
                 | replace HGA := Lib.hid (HGA.out.below bB)
                 | replace HGA := Lib.hid ((HGA.out.below below1).below bB)
                 | skip
               first
                 | replace BB := Lib.hid (below_after BB.out (Nat.le_refl _) bB)
                 | replace BB := Lib.hid (below_after (BB.out.alloc BB.out.size _) (Nat.le_refl _) bB)
                 | have BB := Lib.hid (below_after (Below.drew (Below.refl w2.heap.size w2)) (Nat.le_refl _) bB)
                 | have BB := Lib.hid (below_after (Below.drew (below1 (w := w2))) (Nat.le_refl _) bB)
                 | have BB := Lib.hid (below_after (Below.alloc (Below.drew (Below.refl w2.heap.size w2)) (Nat.le_refl _) _) (Nat.le_refl _) bB)
               first
                 | replace SB := Lib.hid (SB.out.below bB)
                 | have SB : Hid (Box2 _ w2.heap.size 27 (.int .i64 0) (.slice none 0 0)) := Lib.hid (Box2.below (w := (w2.alloc (.cells #[.int .i64 0, .slice none 0 0] 27)).drew) (show Box2 ((w2.alloc (.cells #[.int .i64 0, .slice none 0 0] 27)).drew) w2.heap.size 27 (.int .i64 0) (.slice none 0 0) from heap1 (w := w2) (o := .cells #[.int .i64 0, .slice none 0 0] 27)) bB)
                 | have SB : Hid (Box2 _ _ 27 (.int .i64 0) (.slice none 0 0)) := Lib.hid (Box2.below (heap1 (o := .cells #[.int .i64 0, .slice none 0 0] 27)) bB)
                 | skip
               have leB := BB.out.size
               clear oB bB
               have zlt := (X0_2.out.below BB.out).lt
               obtain ⟨⟨zc0, zc1⟩, _⟩ := (X0_2.out.below BB.out).all)
            | (go_simp; go_at_call 25
               refine (specWeigh_any v0_0 _ l0 l0 Z0 v1_0 _ l1 l1 Z1 x2 x3 _ (by first | exact HGA.out.iat | exact HGA.out.iat.below below1) (by first | exact HGB.out.iat | exact HGB.out.iat.below below1) hb2 hb3).mono ?_
               rintro e wF ⟨aS, nS, cS, rfl, oF, bF⟩
               rw [HV.out] at oF ⊢
               have en : nS = zl := oF.1.symm.trans HZL.out
               subst en
               first
                 | have nlo := SB.out.lt
                 | skip
               have leF := BB.out.size
               first
                 | replace BB := Lib.hid (below_after BB.out (Nat.le_refl _) bF)
                 | replace BB := Lib.hid (below_after (BB.out.alloc BB.out.size _) (Nat.le_refl _) bF)
                 | have BB := Lib.hid (below_after (Below.drew (Below.refl w2.heap.size w2)) (Nat.le_refl _) bF)
                 | have BB := Lib.hid (below_after (Below.drew (below1 (w := w2))) (Nat.le_refl _) bF)
                 | have BB := Lib.hid (below_after (Below.alloc (Below.drew (Below.refl w2.heap.size w2)) (Nat.le_refl _) _) (Nat.le_refl _) bF)
               first
                 | replace SB := Lib.hid (SB.out.below bF)
                 | have SB : Hid (Box2 _ w2.heap.size 27 (.int .i64 0) (.slice none 0 0)) := Lib.hid (Box2.below (w := (w2.alloc (.cells #[.int .i64 0, .slice none 0 0] 27)).drew) (show Box2 ((w2.alloc (.cells #[.int .i64 0, .slice none 0 0] 27)).drew) w2.heap.size 27 (.int .i64 0) (.slice none 0 0) from heap1 (w := w2) (o := .cells #[.int .i64 0, .slice none 0 0] 27)) bF)
                 | have SB : Hid (Box2 _ _ 27 (.int .i64 0) (.slice none 0 0)) := Lib.hid (Box2.below (heap1 (o := .cells #[.int .i64 0, .slice none 0 0] 27)) bF)
                 | skip
               have RF := Lib.hid oF
               clear oF bF
               first
                 | obtain ⟨⟨e0, e1⟩, f0, f1⟩ := SB.out.all
                 | skip))
        all_goals (try go_wp2_with fail)
        all_goals go_meet
        all_goals first
          | exact ⟨_, _, _, rfl, rfl, cut_early BB.out SB.out RF.out (by first | exact Nat.le_refl _ | omega) (by first | exact Nat.le_refl _ | omega | (simp; omega)) (Nat.le_refl _) (.inl (by first | omega | (simp; done) | (simp; omega)))⟩
          | exact ⟨_, _, _, rfl, rfl, cut_late BB.out RF.out (by first | exact Nat.le_refl _ | omega | (simp; omega)) (Nat.le_refl _)⟩
          | exact ⟨_, _, _, rfl, rfl, cut_new BB.out RF.out (by first | exact Nat.le_refl _ | omega | (simp; omega)) (Nat.le_refl _)⟩
      case rest =>
        skip
        obtain ⟨mSS, aS, cS, rfl, rfl, hcB, hcN, hcS, hcO⟩ := hcut
        obtain ⟨w3, hwn⟩ : ∃ w3, w3 = wc := ⟨_, rfl⟩
        subst hwn
        obtain ⟨nS, en⟩ : ∃ nS, nS = zl := ⟨_, rfl⟩
        subst en
        have b3 := hcB.out
        obtain ⟨hcNS, hcMS⟩ := hcN.out
        have RS_3 := hcO
        have SS_3 := hcS
        clear hcB hcN hcS hcO
        clear pc0 pc1 pclt qc0 qc1 qclt
        have X0_3 := Lib.hid (X0_2.out.below b3)
        have X1_3 := Lib.hid (X1_2.out.below b3)
        have B3 := Lib.hid (below_after B2.out (Nat.le_refl _) b3)
        have s3 := b3.size
        clear b3
        obtain ⟨⟨pc0, pc1⟩, _⟩ := X0_3.out.all
        have pclt := X0_3.out.lt
        go_wp2_with fail
        refine (toWorths_any v0_0 a0 l0 c0 Z0 w3 hl0 (HI0.out.keep B3.out).1).mono ?_
        clear pc0 pc1 pclt
        rintro e w4 ⟨gx0, rfl, o4, b4⟩
        have oo4 := o4
        have X0_4 := Lib.hid (X0_3.out.below b4)
        have X1_4 := Lib.hid (X1_3.out.below b4)
        have RS_4 := Lib.hid (RS_3.out.below b4)
        have SS_4 := Lib.hid (SS_3.out.below b4)
        have B4 := Lib.hid (below_after B3.out (Nat.le_refl _) b4)
        have s4 := b4.size
        have H0_4 := Lib.hid oo4
        clear o4 oo4 b4
        obtain ⟨⟨pc0, pc1⟩, _⟩ := X1_4.out.all
        have pclt := X1_4.out.lt
        go_wp2_with fail
        have b4' : Below w4.heap.size w4 (w4.alloc (.cells #[.int .i64 v0_0, .slice (some ⟨gx0, 0, none⟩) l0 l0] 27)) := below1
        refine (toWorths_any v1_0 a1 l1 c1 Z1 _ hl1 (HI1.out.keep (below_after B4.out (Nat.le_refl _) b4')).1).mono ?_
        clear pc0 pc1 pclt
        rintro e w5 ⟨gx1, rfl, o5, b5⟩
        have U0_5 := Lib.hid (Box2.below (heap1 (w := w4) (o := .cells #[.int .i64 v0_0, .slice (some ⟨gx0, 0, none⟩) l0 l0] 27)) b5)
        have oo5 := o5.wide (lo' := w4.heap.size + 1) (hi' := w5.heap.size) (by simp) (Nat.le_refl _) (Nat.le_refl _)
        have X0_5 := Lib.hid ((X0_4.out.below b4').below b5)
        have X1_5 := Lib.hid ((X1_4.out.below b4').below b5)
        have RS_5 := Lib.hid ((RS_4.out.below b4').below b5)
        have SS_5 := Lib.hid ((SS_4.out.below b4').below b5)
        have H0_5 := Lib.hid ((H0_4.out.below b4').below b5)
        have B5 := Lib.hid (below_after (below_after B4.out (Nat.le_refl _) b4') (Nat.le_refl _) b5)
        have s5 : w4.heap.size + 1 ≤ w5.heap.size := by have := b5.size; simp at this; omega
        clear b4'
        have H1_5 := Lib.hid oo5
        clear o5 oo5 b5
        obtain ⟨⟨pc0, pc1⟩, _⟩ := U0_5.out.all
        have pclt := U0_5.out.lt
        go_wp2_with fail
        have b5' : Below w5.heap.size w5 (w5.alloc (.cells #[.int .i64 v1_0, .slice (some ⟨gx1, 0, none⟩) l1 l1] 27)) := below1
        refine (implWeigh_any v0_0 _ l0 l0 Z0 v1_0 _ l1 l1 Z1 x2 x3 _ (H0_5.out.iat.below b5') (H1_5.out.iat.below b5') hb2 hb3).mono ?_
        clear pc0 pc1 pclt
        rintro e w6 ⟨ai, ni, ci, rfl, o6, b6⟩
        rw [HV.out] at o6 ⊢
        have en : ni = nS := o6.1.symm.trans HZL.out
        subst en
        have oo6 := o6.wide (lo' := w5.heap.size + 1) (hi' := w6.heap.size) (by simp) (Nat.le_refl _) (Nat.le_refl _)
        have U1_6 := Lib.hid (Box2.below (heap1 (w := w5) (o := .cells #[.int .i64 v1_0, .slice (some ⟨gx1, 0, none⟩) l1 l1] 27)) b6)
        have X0_6 := Lib.hid ((X0_5.out.below b5').below b6)
        have X1_6 := Lib.hid ((X1_5.out.below b5').below b6)
        have RS_6 := Lib.hid ((RS_5.out.below b5').below b6)
        have SS_6 := Lib.hid ((SS_5.out.below b5').below b6)
        have H0_6 := Lib.hid ((H0_5.out.below b5').below b6)
        have U0_6 := Lib.hid ((U0_5.out.below b5').below b6)
        have H1_6 := Lib.hid ((H1_5.out.below b5').below b6)
        have B6 := Lib.hid (below_after (below_after B5.out (Nat.le_refl _) b5') (Nat.le_refl _) b6)
        have s6 : w5.heap.size + 1 ≤ w6.heap.size := by have := b6.size; simp at this; omega
        clear b5'
        have Ri_6 := Lib.hid oo6
        clear o6 oo6
        clear b6
        obtain ⟨⟨sc0, sc1⟩, _⟩ := SS_6.out.all
        have sclt := SS_6.out.lt
        go_wp2_with fail
        have b6' : Below w6.heap.size w6 (w6.alloc (.cells #[.int .i64 r0, .slice ai ni ci] 27)) := below1
        refine (eqWorths_any r0 ai _ _ aS _ zs _ (Ri_6.out.iat.below b6') (RS_6.out.iat.below b6')).mono ?_
        clear sc0 sc1 sclt
        rintro e w7 ⟨rfl, b7⟩
        have Si_7 := Lib.hid (Box2.below (heap1 (w := w6) (o := .cells #[.int .i64 r0, .slice ai ni ci] 27)) b7)
        have X0_7 := Lib.hid ((X0_6.out.below b6').below b7)
        have X1_7 := Lib.hid ((X1_6.out.below b6').below b7)
        have RS_7 := Lib.hid ((RS_6.out.below b6').below b7)
        have SS_7 := Lib.hid ((SS_6.out.below b6').below b7)
        have H0_7 := Lib.hid ((H0_6.out.below b6').below b7)
        have U0_7 := Lib.hid ((U0_6.out.below b6').below b7)
        have H1_7 := Lib.hid ((H1_6.out.below b6').below b7)
        have U1_7 := Lib.hid ((U1_6.out.below b6').below b7)
        have Ri_7 := Lib.hid ((Ri_6.out.below b6').below b7)
        have B7 := Lib.hid (below_after (below_after B6.out (Nat.le_refl _) b6') (Nat.le_refl _) b7)
        have s7 : w6.heap.size + 1 ≤ w7.heap.size := by have := b7.size; simp at this; omega
        clear b6'
        clear b7
        obtain ⟨⟨pc0, pc1⟩, _⟩ := X0_7.out.all
        have pclt := X0_7.out.lt
        obtain ⟨⟨qc0, qc1⟩, _⟩ := U0_7.out.all
        have qclt := U0_7.out.lt
        go_wp2_with fail
        go_region_held3 (fun w' => Hid (Below w7.heap.size w7 w') ∧ (w'.cell? ⟨w.heap.size, 0, none⟩ = some (.int .i64 v0_0) ∧ w'.cell? ⟨w.heap.size, 1, none⟩ = some (.slice a0 l0 c0)) ∧ (w'.cell? ⟨w4.heap.size, 0, none⟩ = some (.int .i64 v0_0) ∧ w'.cell? ⟨w4.heap.size, 1, none⟩ = some (.slice (some ⟨gx0, 0, none⟩) l0 l0)))
          (first | exact ⟨keep0, ⟨pc0, pc1⟩, ⟨qc0, qc1⟩⟩ | exact keep2_2_2 (by assumption) (by assumption))
          (first
            | (go_at_call 20; refine (toWorths_any v0_0 a0 l0 c0 Z0 _ hl0 (HI0.out.keep (below_after B7.out (Nat.le_refl _) (Hid.out (And.left (by assumption))))).1).mono ?_; rintro e wa ⟨ga, rfl, oa, ba⟩; have HGA := Lib.hid oa; have BBA := Lib.hid ba; clear oa ba)
            | (go_at_call 22; refine (eqWorths_any v0_0 _ l0 l0 _ l0 Z0 _ (H0_7.out.iat.below (Hid.out (And.left (by assumption)))) HGA.out.iat).mono ?_; rintro e w8 ⟨rfl, bc⟩; have BBC := Lib.hid bc; clear bc))
        have b8 : Below w7.heap.size w7 w8 := Hid.out (And.left (by assumption))
        have X0_8 := Lib.hid (X0_7.out.below b8)
        have X1_8 := Lib.hid (X1_7.out.below b8)
        have RS_8 := Lib.hid (RS_7.out.below b8)
        have SS_8 := Lib.hid (SS_7.out.below b8)
        have H0_8 := Lib.hid (H0_7.out.below b8)
        have U0_8 := Lib.hid (U0_7.out.below b8)
        have H1_8 := Lib.hid (H1_7.out.below b8)
        have U1_8 := Lib.hid (U1_7.out.below b8)
        have Ri_8 := Lib.hid (Ri_7.out.below b8)
        have Si_8 := Lib.hid (Si_7.out.below b8)
        have B8 := Lib.hid (below_after B7.out (Nat.le_refl _) b8)
        have s8 := b8.size
        clear HGA BBA BBC b8
        clear pc0 pc1 pclt qc0 qc1 qclt
        rename_i hHeld
        clear hHeld
        obtain ⟨⟨pc0, pc1⟩, _⟩ := X1_8.out.all
        have pclt := X1_8.out.lt
        obtain ⟨⟨qc0, qc1⟩, _⟩ := U1_8.out.all
        have qclt := U1_8.out.lt
        go_wp2_with fail
        go_region_held3 (fun w' => Hid (Below w8.heap.size w8 w') ∧ (w'.cell? ⟨w.heap.size + 1, 0, none⟩ = some (.int .i64 v1_0) ∧ w'.cell? ⟨w.heap.size + 1, 1, none⟩ = some (.slice a1 l1 c1)) ∧ (w'.cell? ⟨w5.heap.size, 0, none⟩ = some (.int .i64 v1_0) ∧ w'.cell? ⟨w5.heap.size, 1, none⟩ = some (.slice (some ⟨gx1, 0, none⟩) l1 l1)))
          (first | exact ⟨keep0, ⟨pc0, pc1⟩, ⟨qc0, qc1⟩⟩ | exact keep2_2_2 (by assumption) (by assumption))
          (first
            | (go_at_call 20; refine (toWorths_any v1_0 a1 l1 c1 Z1 _ hl1 (HI1.out.keep (below_after B8.out (Nat.le_refl _) (Hid.out (And.left (by assumption))))).1).mono ?_; rintro e wa ⟨ga, rfl, oa, ba⟩; have HGA := Lib.hid oa; have BBA := Lib.hid ba; clear oa ba)
            | (go_at_call 22; refine (eqWorths_any v1_0 _ l1 l1 _ l1 Z1 _ (H1_8.out.iat.below (Hid.out (And.left (by assumption)))) HGA.out.iat).mono ?_; rintro e w9 ⟨rfl, bc⟩; have BBC := Lib.hid bc; clear bc))
        have b9 : Below w8.heap.size w8 w9 := Hid.out (And.left (by assumption))
        have X0_9 := Lib.hid (X0_8.out.below b9)
        have X1_9 := Lib.hid (X1_8.out.below b9)
        have RS_9 := Lib.hid (RS_8.out.below b9)
        have SS_9 := Lib.hid (SS_8.out.below b9)
        have H0_9 := Lib.hid (H0_8.out.below b9)
        have U0_9 := Lib.hid (U0_8.out.below b9)
        have H1_9 := Lib.hid (H1_8.out.below b9)
        have U1_9 := Lib.hid (U1_8.out.below b9)
        have Ri_9 := Lib.hid (Ri_8.out.below b9)
        have Si_9 := Lib.hid (Si_8.out.below b9)
        have B9 := Lib.hid (below_after B8.out (Nat.le_refl _) b9)
        have s9 := b9.size
        clear HGA BBA BBC b9
        clear pc0 pc1 pclt qc0 qc1 qclt
        rename_i hHeld
        clear hHeld
        skip
        obtain ⟨⟨qc0, qc1⟩, _⟩ := U0_9.out.all
        have qclt := U0_9.out.lt
        go_wp2_with fail
        refine (markWorths_any v0_0 w3.heap.size w4.heap.size _ l0 l0 Z0 1 w9 (by omega) (by omega) H0_9.out).mono ?_
        rintro e w10 ⟨rfl, _, k10⟩
        clear qc0 qc1 qclt
        have X0_10 := Lib.hid (X0_9.out.keeps k10 (by omega))
        have X1_10 := Lib.hid (X1_9.out.keeps k10 (by omega))
        have RS_10 := Lib.hid (RS_9.out.keeps k10 (by omega))
        have SS_10 := Lib.hid (SS_9.out.keeps k10 (by omega))
        have H1_10 := Lib.hid (H1_9.out.keeps k10 (by omega))
        have U1_10 := Lib.hid (U1_9.out.keeps k10 (by omega))
        have Ri_10 := Lib.hid (Ri_9.out.keeps k10 (by omega))
        have Si_10 := Lib.hid (Si_9.out.keeps k10 (by omega))
        have B10 := Lib.hid (B9.out.trans (k10.below (by omega) (by omega)))
        have s10 := k10.size
        clear k10
        skip
        obtain ⟨⟨qc0, qc1⟩, _⟩ := U1_10.out.all
        have qclt := U1_10.out.lt
        go_wp2_with fail
        refine (markWorths_any v1_0 (w4.heap.size + 1) w5.heap.size _ l1 l1 Z1 (1 + l0) w10 (by omega) (by omega) H1_10.out).mono ?_
        rintro e w11 ⟨rfl, _, k11⟩
        clear qc0 qc1 qclt
        have X0_11 := Lib.hid (X0_10.out.keeps k11 (by omega))
        have X1_11 := Lib.hid (X1_10.out.keeps k11 (by omega))
        have RS_11 := Lib.hid (RS_10.out.keeps k11 (by omega))
        have SS_11 := Lib.hid (SS_10.out.keeps k11 (by omega))
        have Ri_11 := Lib.hid (Ri_10.out.keeps k11 (by omega))
        have Si_11 := Lib.hid (Si_10.out.keeps k11 (by omega))
        have B11 := Lib.hid (B10.out.trans (k11.below (by omega) (by omega)))
        have s11 := k11.size
        clear k11
        obtain ⟨⟨gc0, gc1⟩, _⟩ := Si_11.out.all
        have gclt := Si_11.out.lt
        obtain ⟨⟨sc0, sc1⟩, _⟩ := SS_11.out.all
        have sclt := SS_11.out.lt
        go_wp2_with fail
        refine (eqWorths_any r0 ai _ _ aS _ zs w11 Ri_11.out.iat RS_11.out.iat).mono ?_
        clear gc0 gc1 gclt sc0 sc1 sclt
        rintro e w12 ⟨rfl, b12⟩
        have X0_12 := Lib.hid (X0_11.out.below b12)
        have X1_12 := Lib.hid (X1_11.out.below b12)
        have RS_12 := Lib.hid (RS_11.out.below b12)
        have SS_12 := Lib.hid (SS_11.out.below b12)
        have Ri_12 := Lib.hid (Ri_11.out.below b12)
        have Si_12 := Lib.hid (Si_11.out.below b12)
        have B12 := Lib.hid (below_after B11.out (Nat.le_refl _) b12)
        have s12 := b12.size
        clear b12
        obtain ⟨⟨gc0, gc1⟩, _⟩ := Si_12.out.all
        have gclt := Si_12.out.lt
        go_wp2_with fail
        refine (markWorths_any r0 (w5.heap.size + 1) w6.heap.size ai ni ci zs 1 w12 (by omega) (by omega) Ri_12.out).mono ?_
        rintro e w13 ⟨rfl, om, k13⟩
        clear gc0 gc1 gclt
        have OM_13 := Lib.hid om
        clear om
        have X0_13 := Lib.hid (X0_12.out.keeps k13 (by omega))
        have X1_13 := Lib.hid (X1_12.out.keeps k13 (by omega))
        have RS_13 := Lib.hid (RS_12.out.keeps k13 (by omega))
        have SS_13 := Lib.hid (SS_12.out.keeps k13 (by omega))
        have Si_13 := Lib.hid (Si_12.out.keeps k13 (by omega))
        have B13 := Lib.hid (B12.out.trans (k13.below (by omega) (by omega)))
        have s13 := k13.size
        clear k13
        obtain ⟨⟨gc0, gc1⟩, _⟩ := Si_13.out.all
        have gclt := Si_13.out.lt
        go_wp2_with fail
        refine (heldWorths_any r0 ai ni ci 1 w13 (by omega) (by omega) OM_13.out.iat).mono ?_
        rintro e w14 ⟨rfl, b14⟩
        clear gc0 gc1 gclt
        have X0_14 := Lib.hid (X0_13.out.below b14)
        have X1_14 := Lib.hid (X1_13.out.below b14)
        have RS_14 := Lib.hid (RS_13.out.below b14)
        have SS_14 := Lib.hid (SS_13.out.below b14)
        have Si_14 := Lib.hid (Si_13.out.below b14)
        have OM_14 := Lib.hid (OM_13.out.below b14)
        have B14 := Lib.hid (below_after B13.out (Nat.le_refl _) b14)
        have s14 := b14.size
        clear b14
        obtain ⟨⟨pc0, pc1⟩, _⟩ := X0_14.out.all
        have pclt := X0_14.out.lt
        obtain ⟨⟨qc0, qc1⟩, _⟩ := X1_14.out.all
        have qclt := X1_14.out.lt
        go_upto_region 31 with fail
        go_cut [19, 20] from 21 (fun s1 s2 wx => ∃ (mS : Nat) (aS : Option Addr) (cS : Nat), s1 = .pointer (some ⟨mS, 0, none⟩) ∧ s2 = .bool vv ∧ Hid (Below w14.heap.size w14 wx) ∧ Hid (w14.heap.size ≤ mS ∧ mS < wx.heap.size) ∧ Hid (Box2 wx mS 27 (.int .i64 r0) (.slice aS ni cS)) ∧ Hid (Own wx w14.heap.size wx.heap.size aS ni cS zs))
        case first =>
          go_region_law (first
              | (go_simp; go_at_call_of 20 (Value.slice a0 l0 c0)
                 refine (toWorths_any v0_0 a0 l0 c0 Z0 _ hl0 (by first | exact (HI0.out.keep (below_after B14.out (Nat.le_refl _) BB.out)).1 | exact (HI0.out.keep (below_after B14.out (Nat.le_refl _) (BB.out.alloc BB.out.size _))).1 | exact (HI0.out.keep (below_after B14.out (Nat.le_refl _) (Below.drew (Below.refl w14.heap.size w14)))).1 | exact (HI0.out.keep (below_after B14.out (Nat.le_refl _) (Below.drew (below1 (w := w14))))).1 | exact (HI0.out.keep (below_after B14.out (Nat.le_refl _) (Below.alloc (Below.drew (Below.refl w14.heap.size w14)) (Nat.le_refl _) _))).1)).mono ?_
                 rintro e wA ⟨gA, rfl, oA, bA⟩
                 have HGA := Lib.hid oA
                 first
                   | replace HGB := Lib.hid (HGB.out.below bA)
                   | replace HGB := Lib.hid ((HGB.out.below below1).below bA)
                   | skip
                 first
                   | replace BB := Lib.hid (below_after BB.out (Nat.le_refl _) bA)
                   | replace BB := Lib.hid (below_after (BB.out.alloc BB.out.size _) (Nat.le_refl _) bA)
                   | have BB := Lib.hid (below_after (Below.drew (Below.refl w14.heap.size w14)) (Nat.le_refl _) bA)
                   | have BB := Lib.hid (below_after (Below.drew (below1 (w := w14))) (Nat.le_refl _) bA)
                   | have BB := Lib.hid (below_after (Below.alloc (Below.drew (Below.refl w14.heap.size w14)) (Nat.le_refl _) _) (Nat.le_refl _) bA)
                 first
                   | replace SB := Lib.hid (SB.out.below bA)
                   | have SB : Hid (Box2 _ w14.heap.size 27 (.int .i64 0) (.slice none 0 0)) := Lib.hid (Box2.below (w := (w14.alloc (.cells #[.int .i64 0, .slice none 0 0] 27)).drew) (show Box2 ((w14.alloc (.cells #[.int .i64 0, .slice none 0 0] 27)).drew) w14.heap.size 27 (.int .i64 0) (.slice none 0 0) from heap1 (w := w14) (o := .cells #[.int .i64 0, .slice none 0 0] 27)) bA)
                   | have SB : Hid (Box2 _ _ 27 (.int .i64 0) (.slice none 0 0)) := Lib.hid (Box2.below (heap1 (o := .cells #[.int .i64 0, .slice none 0 0] 27)) bA)
                   | skip
                 have leA := BB.out.size
                 clear oA bA
                 have zlt := (X1_14.out.below BB.out).lt
                 obtain ⟨⟨zc0, zc1⟩, _⟩ := (X1_14.out.below BB.out).all)
              | (go_simp; go_at_call_of 20 (Value.slice a1 l1 c1)
                 refine (toWorths_any v1_0 a1 l1 c1 Z1 _ hl1 (by first | exact (HI1.out.keep (below_after B14.out (Nat.le_refl _) BB.out)).1 | exact (HI1.out.keep (below_after B14.out (Nat.le_refl _) (BB.out.alloc BB.out.size _))).1 | exact (HI1.out.keep (below_after B14.out (Nat.le_refl _) (Below.drew (Below.refl w14.heap.size w14)))).1 | exact (HI1.out.keep (below_after B14.out (Nat.le_refl _) (Below.drew (below1 (w := w14))))).1 | exact (HI1.out.keep (below_after B14.out (Nat.le_refl _) (Below.alloc (Below.drew (Below.refl w14.heap.size w14)) (Nat.le_refl _) _))).1)).mono ?_
                 rintro e wB ⟨gB, rfl, oB, bB⟩
                 have HGB := Lib.hid oB
                 first
                   | replace HGA := Lib.hid (HGA.out.below bB)
                   | replace HGA := Lib.hid ((HGA.out.below below1).below bB)
                   | skip
                 first
                   | replace BB := Lib.hid (below_after BB.out (Nat.le_refl _) bB)
                   | replace BB := Lib.hid (below_after (BB.out.alloc BB.out.size _) (Nat.le_refl _) bB)
                   | have BB := Lib.hid (below_after (Below.drew (Below.refl w14.heap.size w14)) (Nat.le_refl _) bB)
                   | have BB := Lib.hid (below_after (Below.drew (below1 (w := w14))) (Nat.le_refl _) bB)
                   | have BB := Lib.hid (below_after (Below.alloc (Below.drew (Below.refl w14.heap.size w14)) (Nat.le_refl _) _) (Nat.le_refl _) bB)
                 first
                   | replace SB := Lib.hid (SB.out.below bB)
                   | have SB : Hid (Box2 _ w14.heap.size 27 (.int .i64 0) (.slice none 0 0)) := Lib.hid (Box2.below (w := (w14.alloc (.cells #[.int .i64 0, .slice none 0 0] 27)).drew) (show Box2 ((w14.alloc (.cells #[.int .i64 0, .slice none 0 0] 27)).drew) w14.heap.size 27 (.int .i64 0) (.slice none 0 0) from heap1 (w := w14) (o := .cells #[.int .i64 0, .slice none 0 0] 27)) bB)
                   | have SB : Hid (Box2 _ _ 27 (.int .i64 0) (.slice none 0 0)) := Lib.hid (Box2.below (heap1 (o := .cells #[.int .i64 0, .slice none 0 0] 27)) bB)
                   | skip
                 have leB := BB.out.size
                 clear oB bB
                 have zlt := (X0_14.out.below BB.out).lt
                 obtain ⟨⟨zc0, zc1⟩, _⟩ := (X0_14.out.below BB.out).all)
              | (go_simp; go_at_call 26
                 refine (implWeigh_any v0_0 _ l0 l0 Z0 v1_0 _ l1 l1 Z1 x2 x3 _ (by first | exact HGA.out.iat | exact HGA.out.iat.below below1) (by first | exact HGB.out.iat | exact HGB.out.iat.below below1) hb2 hb3).mono ?_
                 rintro e wF ⟨aS, nS, cS, rfl, oF, bF⟩
                 rw [HV.out] at oF ⊢
                 have en : nS = ni := oF.1.symm.trans HZL.out
                 subst en
                 first
                   | have nlo := SB.out.lt
                   | skip
                 have leF := BB.out.size
                 first
                   | replace BB := Lib.hid (below_after BB.out (Nat.le_refl _) bF)
                   | replace BB := Lib.hid (below_after (BB.out.alloc BB.out.size _) (Nat.le_refl _) bF)
                   | have BB := Lib.hid (below_after (Below.drew (Below.refl w14.heap.size w14)) (Nat.le_refl _) bF)
                   | have BB := Lib.hid (below_after (Below.drew (below1 (w := w14))) (Nat.le_refl _) bF)
                   | have BB := Lib.hid (below_after (Below.alloc (Below.drew (Below.refl w14.heap.size w14)) (Nat.le_refl _) _) (Nat.le_refl _) bF)
                 first
                   | replace SB := Lib.hid (SB.out.below bF)
                   | have SB : Hid (Box2 _ w14.heap.size 27 (.int .i64 0) (.slice none 0 0)) := Lib.hid (Box2.below (w := (w14.alloc (.cells #[.int .i64 0, .slice none 0 0] 27)).drew) (show Box2 ((w14.alloc (.cells #[.int .i64 0, .slice none 0 0] 27)).drew) w14.heap.size 27 (.int .i64 0) (.slice none 0 0) from heap1 (w := w14) (o := .cells #[.int .i64 0, .slice none 0 0] 27)) bF)
                   | have SB : Hid (Box2 _ _ 27 (.int .i64 0) (.slice none 0 0)) := Lib.hid (Box2.below (heap1 (o := .cells #[.int .i64 0, .slice none 0 0] 27)) bF)
                   | skip
                 have RF := Lib.hid oF
                 clear oF bF
                 first
                   | obtain ⟨⟨e0, e1⟩, f0, f1⟩ := SB.out.all
                   | skip))
          all_goals (try go_wp2_with fail)
          all_goals go_meet
          all_goals first
            | exact ⟨_, _, _, rfl, rfl, cut_early BB.out SB.out RF.out (by first | exact Nat.le_refl _ | omega) (by first | exact Nat.le_refl _ | omega | (simp; omega)) (Nat.le_refl _) (.inl (by first | omega | (simp; done) | (simp; omega)))⟩
            | exact ⟨_, _, _, rfl, rfl, cut_late BB.out RF.out (by first | exact Nat.le_refl _ | omega | (simp; omega)) (Nat.le_refl _)⟩
            | exact ⟨_, _, _, rfl, rfl, cut_new BB.out RF.out (by first | exact Nat.le_refl _ | omega | (simp; omega)) (Nat.le_refl _)⟩
        case rest =>
          skip
          obtain ⟨mSj, aj, cj, rfl, rfl, hcB, hcN, hcS, hcO⟩ := hcut
          obtain ⟨w15, hwn⟩ : ∃ w15, w15 = wc := ⟨_, rfl⟩
          subst hwn
          obtain ⟨nj, en⟩ : ∃ nj, nj = ni := ⟨_, rfl⟩
          subst en
          have b15 := hcB.out
          obtain ⟨hcNj, hcMj⟩ := hcN.out
          have Rj_15 := hcO
          have Sj_15 := hcS
          clear hcB hcN hcS hcO
          clear pc0 pc1 pclt qc0 qc1 qclt
          have X0_15 := Lib.hid (X0_14.out.below b15)
          have X1_15 := Lib.hid (X1_14.out.below b15)
          have RS_15 := Lib.hid (RS_14.out.below b15)
          have SS_15 := Lib.hid (SS_14.out.below b15)
          have Si_15 := Lib.hid (Si_14.out.below b15)
          have OM_15 := Lib.hid (OM_14.out.below b15)
          have B15 := Lib.hid (below_after B14.out (Nat.le_refl _) b15)
          have s15 := b15.size
          clear b15
          obtain ⟨⟨gc0, gc1⟩, _⟩ := Sj_15.out.all
          have gclt := Sj_15.out.lt
          obtain ⟨⟨sc0, sc1⟩, _⟩ := SS_15.out.all
          have sclt := SS_15.out.lt
          go_wp2_with fail
          refine (eqWorths_any r0 aj _ _ aS _ zs w15 Rj_15.out.iat RS_15.out.iat).mono ?_
          clear gc0 gc1 gclt sc0 sc1 sclt
          rintro e w16 ⟨rfl, b16⟩
          have X0_16 := Lib.hid (X0_15.out.below b16)
          have X1_16 := Lib.hid (X1_15.out.below b16)
          have RS_16 := Lib.hid (RS_15.out.below b16)
          have SS_16 := Lib.hid (SS_15.out.below b16)
          have Si_16 := Lib.hid (Si_15.out.below b16)
          have OM_16 := Lib.hid (OM_15.out.below b16)
          have Rj_16 := Lib.hid (Rj_15.out.below b16)
          have Sj_16 := Lib.hid (Sj_15.out.below b16)
          have B16 := Lib.hid (below_after B15.out (Nat.le_refl _) b16)
          have s16 := b16.size
          clear b16
          obtain ⟨⟨gc0, gc1⟩, _⟩ := Si_16.out.all
          have gclt := Si_16.out.lt
          go_wp2_with fail
          refine (heldWorths_any r0 ai nj ci 1 w16 (by omega) (by omega) OM_16.out.iat).mono ?_
          rintro e w17 ⟨rfl, b17⟩
          clear gc0 gc1 gclt
          have X0_17 := Lib.hid (X0_16.out.below b17)
          have X1_17 := Lib.hid (X1_16.out.below b17)
          have RS_17 := Lib.hid (RS_16.out.below b17)
          have SS_17 := Lib.hid (SS_16.out.below b17)
          have Si_17 := Lib.hid (Si_16.out.below b17)
          have OM_17 := Lib.hid (OM_16.out.below b17)
          have Rj_17 := Lib.hid (Rj_16.out.below b17)
          have Sj_17 := Lib.hid (Sj_16.out.below b17)
          have B17 := Lib.hid (below_after B16.out (Nat.le_refl _) b17)
          have s17 := b17.size
          clear b17
          go_wp2_with fail
          go_ret
          exact ⟨rfl, B17.out⟩
    · skip
      clear HI0 HI1
      have HN := Lib.hid (leftOf_no hs1)
      go_enter Try.func5, Try.ntmps5
      go_wp2_with fail
      refine (szWorths_any v0_0 a0 l0 c0 1048576 (by omega) (by omega) hm0 _).mono ?_
      rintro e w1 ⟨rfl, b1⟩
      rw [HZ0.out]
      have X0_1 := Lib.hid (Box2.below (heap2a (w := w) (o := .cells #[.int .i64 v0_0, .slice a0 l0 c0] 24) (p := .cells #[.int .i64 v1_0, .slice a1 l1 c1] 24)) b1)
      have X1_1 := Lib.hid (Box2.below (heap2b (w := w) (o := .cells #[.int .i64 v0_0, .slice a0 l0 c0] 24) (p := .cells #[.int .i64 v1_0, .slice a1 l1 c1] 24)) b1)
      have B1 := Lib.hid (below_after below2 (Nat.le_refl _) b1)
      clear b1
      obtain ⟨⟨pc0, pc1⟩, _⟩ := X1_1.out.all
      go_wp2_with fail
      refine (szWorths_any v1_0 a1 l1 c1 zz0 z0_0 z1_0 hm1 _).mono ?_
      rintro e w2 ⟨rfl, b2⟩
      rw [HN.out]
      clear pc0 pc1
      have B2 := Lib.hid (below_after B1.out (Nat.le_refl _) b2)
      clear b2
      go_wp2_with fail
      go_ret
      exact ⟨rfl, B2.out⟩
  · skip
    clear HI0 HI1
    have HN := Lib.hid (leftOf_no hs0)
    go_enter Try.func5, Try.ntmps5
    go_wp2_with fail
    refine (szWorths_any v0_0 a0 l0 c0 1048576 (by omega) (by omega) hm0 _).mono ?_
    rintro e w1 ⟨rfl, b1⟩
    rw [HN.out]
    have X0_1 := Lib.hid (Box2.below (heap2a (w := w) (o := .cells #[.int .i64 v0_0, .slice a0 l0 c0] 24) (p := .cells #[.int .i64 v1_0, .slice a1 l1 c1] 24)) b1)
    have X1_1 := Lib.hid (Box2.below (heap2b (w := w) (o := .cells #[.int .i64 v0_0, .slice a0 l0 c0] 24) (p := .cells #[.int .i64 v1_0, .slice a1 l1 c1] 24)) b1)
    have B1 := Lib.hid (below_after below2 (Nat.le_refl _) b1)
    clear b1
    go_wp2_with fail
    go_ret
    exact ⟨rfl, B1.out⟩
end Go.Proofs.Ytljlijmdjbodcaa
