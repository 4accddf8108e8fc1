/-
  The law on WorseRows: every game.
-/
import Derived.Test.YtpopmcgieegikaaGWorI
import Derived.Test.YtpopmcgieegikaaLawKit
namespace Go.Proofs.Ytpopmcgieegikaa
open Go.RowKit Go.ChangeShapes Go.WideShapes
set_option linter.unusedVariables false

set_option maxHeartbeats 1000000 in
set_option maxRecDepth 20000 in
theorem walk_fnExactWorseRows (r c : Int) (a1 : Option Addr) (l1 c1 : Nat) (a2 : Option Addr) (l2 c2 : Nat) (A B : List Int) (w : World) (hA : IAt w a1 l1 A) (hB : IAt w a2 l2 B) :
    Calls Try.prog 9 #[gameV r c a1 l1 c1 a2 l2 c2] w fun e w' => e = .returned (.bool true) ∧ Below w.heap.size w w' := by
  have hm1 := hA.2.1
  have hm2 := hB.2.1
  have HA := Lib.hid hA.inB
  have HB := Lib.hid hB.inB
  clear hA hB
  by_cases hs : (l1 : Int) + l2 ≤ 1048576
  · have hz := Lib.hid (show (0 : Int) ≤ sizeOfGame 1048576 l1 l2 by unfold sizeOfGame; rw [if_pos hs]; omega)
    have hl1 : l1 ≤ 1048576 := by omega
    have hl2 : l2 ≤ 1048576 := by omega
    obtain ⟨zs, v, hval⟩ : ∃ zs v, (worseRowsV r c A B) = (zs, v) := ⟨_, _, rfl⟩
    have HV := Lib.hid hval
    have hlen : zs.length ≤ 4096 := by have := worseRowsV_len r c A B; rw [hval] at this; exact this
    clear hval
    obtain ⟨zl, hzl⟩ : ∃ zl, zs.length = zl := ⟨_, rfl⟩
    rw [hzl] at hlen
    have HZ := Lib.hid hzl
    clear hzl
    go_enter Try.func9, Try.ntmps9
    go_wp2_with fail
    refine (szGame_any r c a1 l1 c1 a2 l2 c2 1048576 (by omega) (by omega) hm1 hm2 _).mono ?_
    rintro e w1 ⟨rfl, b1⟩
    have hz1 := hz.out
    generalize sizeOfGame 1048576 l1 l2 = z at *
    have x1 : Box4 w1 w.heap.size 24 (.int .i64 r) (.int .i64 c) (.slice a1 l1 c1) (.slice a2 l2 c2) := Box4.below heap1 b1
    have B1 := Lib.hid (below_after below1 (Nat.le_refl _) b1)
    have s1 : w.heap.size + 1 ≤ w1.heap.size := by have := b1.size; simpa using this
    clear b1
    have X1 := Lib.hid x1
    obtain ⟨⟨p0, p1, p2, p3⟩, _⟩ := x1.all
    clear x1
    go_wp2_with fail
    refine (toGame_any r c a1 l1 c1 a2 l2 c2 A B w1 hl1 hl2 (HA.out.keep B1.out).1 (HB.out.keep B1.out).1).mono ?_
    clear p0 p1 p2 p3
    rintro e w2 ⟨g1, g2, rfl, G2, b2⟩
    have B2 := Lib.hid (below_after B1.out (Nat.le_refl _) b2)
    have X2 := Lib.hid (X1.out.below b2)
    obtain ⟨⟨p0, p1, p2, p3⟩, _⟩ := X2.out.all
    have H2 := Lib.hid G2
    have s2 := b2.size
    clear G2 b2
    go_wp2_with fail
    refine (specWorseRows_any r c _ l1 l1 _ l2 l2 A B w2 H2.out.a H2.out.b).mono ?_
    clear p0 p1 p2 p3
    rintro e w3 ⟨aS, ls, cs, rfl, os, b3⟩
    rw [HV.out] at os ⊢
    obtain rfl : ls = zl := os.1.symm.trans HZ.out
    have OS3 := Lib.hid os
    have B3 := Lib.hid (below_after B2.out (Nat.le_refl _) b3)
    have X3 := Lib.hid (X2.out.below b3)
    obtain ⟨⟨p0, p1, p2, p3⟩, _⟩ := X3.out.all
    have s3 := b3.size
    clear b3 os
    go_wp2_with fail
    refine (toGame_any r c a1 l1 c1 a2 l2 c2 A B w3 hl1 hl2 (HA.out.keep B3.out).1 (HB.out.keep B3.out).1).mono ?_
    clear p0 p1 p2 p3
    rintro e w4 ⟨g3, g4, rfl, G4, b4⟩
    have B4 := Lib.hid (below_after B3.out (Nat.le_refl _) b4)
    have X4 := Lib.hid (X3.out.below b4)
    have OS4 := Lib.hid (OS3.out.below b4)
    obtain ⟨⟨p0, p1, p2, p3⟩, _⟩ := X4.out.all
    have H4 := Lib.hid G4
    have s4 := b4.size
    clear G4 b4
    go_wp2_with fail
    have b4' : Below w4.heap.size w4 (w4.alloc (.cells #[.int .i64 r, .int .i64 c, .slice (some ⟨g3, 0, none⟩) l1 l1, .slice (some ⟨g4, 0, none⟩) l2 l2] 27)) := below1
    refine (implWorseRows_any r c _ l1 l1 _ l2 l2 A B _ (H4.out.a.below b4') (H4.out.b.below b4')).mono ?_
    clear p0 p1 p2 p3
    rintro e w5 ⟨ai, li, ci, rfl, oi, b5⟩
    rw [HV.out] at oi ⊢
    obtain rfl : li = ls := oi.1.symm.trans HZ.out
    have s5 : w4.heap.size + 1 ≤ w5.heap.size := by have := b5.size; simpa using this
    have OI5 := Lib.hid (oi.wide (lo' := w4.heap.size + 1) (hi' := w5.heap.size) (by simp) (Nat.le_refl _) (Nat.le_refl _))
    have B5 := Lib.hid (below_after (below_after B4.out (Nat.le_refl _) b4') (Nat.le_refl _) b5)
    have X5 := Lib.hid ((X4.out.below b4').below b5)
    have Y5 := Lib.hid (Box4.below (heap1 (w := w4) (o := .cells #[.int .i64 r, .int .i64 c, .slice (some ⟨g3, 0, none⟩) l1 l1, .slice (some ⟨g4, 0, none⟩) l2 l2] 27)) b5)
    have H5 := Lib.hid ((H4.out.below b4').below b5)
    have OS5 := Lib.hid ((OS4.out.below b4').below b5)
    clear b4' b5 oi
    go_wp2_with fail
    refine (eqB_any ai aS li ci cs zs w5 OI5.out.iat OS5.out.iat).mono ?_
    rintro e w6 ⟨rfl, b6⟩
    have B6 := Lib.hid (below_after B5.out (Nat.le_refl _) b6)
    have X6 := Lib.hid (X5.out.below b6)
    have Y6 := Lib.hid (Y5.out.below b6)
    have H6 := Lib.hid (H5.out.below b6)
    have OS6 := Lib.hid (OS5.out.below b6)
    have OI6 := Lib.hid (OI5.out.below b6)
    have s6 := b6.size
    obtain ⟨⟨p0, p1, p2, p3⟩, _⟩ := X6.out.all
    obtain ⟨⟨q0, q1, q2, q3⟩, _⟩ := Y6.out.all
    clear b6
    go_wp2_with fail
    go_region_held3 (fun w' => Hid (Below w6.heap.size w6 w') ∧ (w'.cell? ⟨w.heap.size, 0, none⟩ = some (.int .i64 r) ∧ w'.cell? ⟨w.heap.size, 1, none⟩ = some (.int .i64 c) ∧ w'.cell? ⟨w.heap.size, 2, none⟩ = some (.slice a1 l1 c1) ∧ w'.cell? ⟨w.heap.size, 3, none⟩ = some (.slice a2 l2 c2)) ∧
        (w'.cell? ⟨w4.heap.size, 0, none⟩ = some (.int .i64 r) ∧ w'.cell? ⟨w4.heap.size, 1, none⟩ = some (.int .i64 c) ∧ w'.cell? ⟨w4.heap.size, 2, none⟩ = some (.slice (some ⟨g3, 0, none⟩) l1 l1) ∧ w'.cell? ⟨w4.heap.size, 3, none⟩ = some (.slice (some ⟨g4, 0, none⟩) l2 l2)))
      (first | exact ⟨keep0, ⟨p0, p1, p2, p3⟩, ⟨q0, q1, q2, q3⟩⟩ | exact keep2 (by assumption) (by assumption))
      (first
        | (go_at_call 24; refine (toGame_any r c a1 l1 c1 a2 l2 c2 A B _ hl1 hl2 (HA.out.keep (below_after B6.out (Nat.le_refl _) (Hid.out (And.left (by assumption))))).1 (HB.out.keep (below_after B6.out (Nat.le_refl _) (Hid.out (And.left (by assumption))))).1).mono ?_; rintro e wa ⟨g5, g6, rfl, G6, ba⟩; have HG6 := Lib.hid G6; have BA := Lib.hid ba; clear G6 ba)
        | (go_at_call 26; refine (eqGame_any r c _ l1 l1 _ l2 l2 _ l1 _ l2 A B _ (H6.out.a.below (Hid.out (And.left (by assumption)))) (H6.out.b.below (Hid.out (And.left (by assumption)))) HG6.out.a HG6.out.b).mono ?_; rintro e w7 ⟨rfl, bc⟩; have BC := Lib.hid bc; clear bc))
    have b7 : Below w6.heap.size w6 w7 := Hid.out (And.left (by assumption))
    have B7 := Lib.hid (below_after B6.out (Nat.le_refl _) b7)
    have X7 := Lib.hid (X6.out.below b7)
    have Y7 := Lib.hid (Y6.out.below b7)
    have H7 := Lib.hid (H6.out.below b7)
    have OS7 := Lib.hid (OS6.out.below b7)
    have OI7 := Lib.hid (OI6.out.below b7)
    have s7 := b7.size
    clear p0 p1 p2 p3 q0 q1 q2 q3 b7
    rename_i hHeld
    clear hHeld
    obtain ⟨⟨q0, q1, q2, q3⟩, _⟩ := Y7.out.all
    go_wp2_with fail
    refine (markGame_any r c w3.heap.size w4.heap.size _ l1 l1 _ l2 l2 A B 1 w7 (by omega) (by omega) H7.out).mono ?_
    rintro e w8 ⟨rfl, _, k8⟩
    have B8 := Lib.hid (B7.out.trans (k8.below (by omega) (by omega)))
    have X8 := Lib.hid (X7.out.keeps k8 (by omega))
    have OS8 := Lib.hid (OS7.out.keeps k8 (by omega))
    have OI8 := Lib.hid (OI7.out.keeps k8 (by omega))
    have s8 := k8.size
    clear k8 q0 q1 q2 q3
    go_wp2_with fail
    refine (eqB_any ai aS li ci cs zs w8 OI8.out.iat OS8.out.iat).mono ?_
    rintro e w9 ⟨rfl, b9⟩
    have B9 := Lib.hid (below_after B8.out (Nat.le_refl _) b9)
    have X9 := Lib.hid (X8.out.below b9)
    have OS9 := Lib.hid (OS8.out.below b9)
    have OI9 := Lib.hid (OI8.out.below b9)
    have s9 := b9.size
    clear b9
    go_wp2_with fail
    refine (mark_any (w4.heap.size + 1) w5.heap.size ai li ci zs 1 w9 (by omega) (by omega) OI9.out).mono ?_
    rintro e w10 ⟨rfl, om, k10, _⟩
    have OM10 := Lib.hid om
    have B10 := Lib.hid (B9.out.trans (k10.below (by omega) (by omega)))
    have X10 := Lib.hid (X9.out.keeps k10 (by omega))
    have OS10 := Lib.hid (OS9.out.keeps k10 (by omega))
    have s10 := k10.size
    clear om k10
    go_wp2_with fail
    refine (heldB_any ai li ci 1 w10 (by omega) (by omega) OM10.out.iat).mono ?_
    rintro e w11 ⟨rfl, b11⟩
    have B11 := Lib.hid (below_after B10.out (Nat.le_refl _) b11)
    have X11 := Lib.hid (X10.out.below b11)
    have OS11 := Lib.hid (OS10.out.below b11)
    have OM11 := Lib.hid (OM10.out.below b11)
    have s11 := b11.size
    obtain ⟨⟨p0, p1, p2, p3⟩, _⟩ := X11.out.all
    clear b11
    go_wp2_with fail
    refine (toGame_any r c a1 l1 c1 a2 l2 c2 A B w11 hl1 hl2 (HA.out.keep B11.out).1 (HB.out.keep B11.out).1).mono ?_
    rintro e w12 ⟨g7, g8, rfl, G12, b12⟩
    have B12 := Lib.hid (below_after B11.out (Nat.le_refl _) b12)
    have OS12 := Lib.hid (OS11.out.below b12)
    have OM12 := Lib.hid (OM11.out.below b12)
    have H12 := Lib.hid G12
    have s12 := b12.size
    clear G12 b12 p0 p1 p2 p3
    go_wp2_with fail
    refine (implWorseRows_any r c _ l1 l1 _ l2 l2 A B _ H12.out.a H12.out.b).mono ?_
    rintro e w13 ⟨aj, lj, cj, rfl, oj, b13⟩
    rw [HV.out] at oj ⊢
    obtain rfl : lj = li := oj.1.symm.trans HZ.out
    have OJ13 := Lib.hid oj
    have B13 := Lib.hid (below_after B12.out (Nat.le_refl _) b13)
    have OS13 := Lib.hid (OS12.out.below b13)
    have OM13 := Lib.hid (OM12.out.below b13)
    clear oj b13
    go_wp2_with fail
    refine (eqB_any aj aS lj cj cs zs w13 OJ13.out.iat OS13.out.iat).mono ?_
    rintro e w14 ⟨rfl, b14⟩
    have B14 := Lib.hid (below_after B13.out (Nat.le_refl _) b14)
    have OM14 := Lib.hid (OM13.out.below b14)
    clear b14
    go_wp2_with fail
    refine (heldB_any ai lj ci 1 w14 (by omega) (by omega) OM14.out.iat).mono ?_
    rintro e w15 ⟨rfl, b15⟩
    have B15 := Lib.hid (below_after B14.out (Nat.le_refl _) b15)
    clear b15
    go_wp2_with fail
    go_ret
    exact ⟨rfl, B15.out⟩
  · have hz := Lib.hid (show sizeOfGame 1048576 l1 l2 = -1 by unfold sizeOfGame; rw [if_neg hs])
    clear HA HB hs
    go_enter Try.func9, Try.ntmps9
    go_wp2_with fail
    refine (szGame_any r c a1 l1 c1 a2 l2 c2 1048576 (by omega) (by omega) hm1 hm2 _).mono ?_
    rintro e w1 ⟨rfl, b1⟩
    rw [hz.out]
    have B1 := Lib.hid (below_after below1 (Nat.le_refl _) b1)
    clear b1
    go_wp2_with fail
    go_ret
    exact ⟨rfl, B1.out⟩
end Go.Proofs.Ytpopmcgieegikaa
