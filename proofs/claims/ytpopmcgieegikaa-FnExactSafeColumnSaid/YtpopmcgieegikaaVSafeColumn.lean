/-
  The law on SafeColumn: every game.
-/
import Derived.Test.YtpopmcgieegikaaGSafeC
import Derived.Test.YtpopmcgieegikaaLawKit
namespace Go.Proofs.Ytpopmcgieegikaa
open Go.RowKit Go.ChangeShapes Go.WideShapes
set_option linter.unusedVariables false

set_option maxHeartbeats 1000000 in
set_option maxRecDepth 20000 in
theorem walk_fnExactSafeColumn (r c : Int) (a1 : Option Addr) (l1 c1 : Nat) (a2 : Option Addr) (l2 c2 : Nat) (A B : List Int) (w : World) (hA : IAt w a1 l1 A) (hB : IAt w a2 l2 B) :
    Calls Try.prog 16 #[gameV r c a1 l1 c1 a2 l2 c2] w fun e w' => e = .returned (.bool true) ∧ Below w.heap.size w w' := by
  have hm1 := hA.2.1
  have hm2 := hB.2.1
  have HA := Lib.hid hA.inB
  have HB := Lib.hid hB.inB
  clear hA hB
  by_cases hs : (l1 : Int) + l2 ≤ 1048576
  · have hz := Lib.hid (show (0 : Int) ≤ sizeOfGame 1048576 l1 l2 by unfold sizeOfGame; rw [if_pos hs]; omega)
    have hl1 : l1 ≤ 1048576 := by omega
    have hl2 : l2 ≤ 1048576 := by omega
    obtain ⟨xx, yy, vv, hval⟩ : ∃ xx yy vv, safeColV r c A B = (xx, yy, vv) := ⟨_, _, _, rfl⟩
    have HV := Lib.hid hval
    clear hval
    go_enter Try.func16, Try.ntmps16
    go_wp2_with fail
    refine (szGame_any r c a1 l1 c1 a2 l2 c2 1048576 (by omega) (by omega) hm1 hm2 _).mono ?_
    rintro e w1 ⟨rfl, b1⟩
    have hz1 := hz.out
    generalize sizeOfGame 1048576 l1 l2 = z at *
    have x1 : Box4 w1 w.heap.size 24 (.int .i64 r) (.int .i64 c) (.slice a1 l1 c1) (.slice a2 l2 c2) := Box4.below heap1 b1
    have B1 := Lib.hid (below_after below1 (Nat.le_refl _) b1)
    clear b1
    have X1 := Lib.hid x1
    obtain ⟨⟨p0, p1, p2, p3⟩, _⟩ := x1.all
    clear x1
    go_wp2_with fail
    refine (toGame_any r c a1 l1 c1 a2 l2 c2 A B w1 hl1 hl2 (HA.out.keep B1.out).1 (HB.out.keep B1.out).1).mono ?_
    clear p0 p1 p2 p3
    rintro e w2 ⟨g1, g2, rfl, G2, b2⟩
    have B2 := Lib.hid (below_after B1.out (Nat.le_refl _) b2)
    have X2 := Lib.hid (X1.out.below b2)
    obtain ⟨⟨p0, p1, p2, p3⟩, _⟩ := X2.out.all
    have H2 := Lib.hid G2
    clear G2 b2
    go_wp2_with fail
    refine (specSafeCol_any r c _ l1 l1 _ l2 l2 A B w2 H2.out.a H2.out.b).mono ?_
    clear p0 p1 p2 p3
    rintro e w3 ⟨rfl, b3⟩
    rw [HV.out]
    have B3 := Lib.hid (below_after B2.out (Nat.le_refl _) b3)
    have X3 := Lib.hid (X2.out.below b3)
    obtain ⟨⟨p0, p1, p2, p3⟩, _⟩ := X3.out.all
    clear b3
    go_wp2_with fail
    refine (toGame_any r c a1 l1 c1 a2 l2 c2 A B w3 hl1 hl2 (HA.out.keep B3.out).1 (HB.out.keep B3.out).1).mono ?_
    clear p0 p1 p2 p3
    rintro e w4 ⟨g3, g4, rfl, G4, b4⟩
    have B4 := Lib.hid (below_after B3.out (Nat.le_refl _) b4)
    have X4 := Lib.hid (X3.out.below b4)
    obtain ⟨⟨p0, p1, p2, p3⟩, _⟩ := X4.out.all
    have H4 := Lib.hid G4
    clear G4 b4
    go_wp2_with fail
    have b4' : Below w4.heap.size w4 (w4.alloc (.cells #[.int .i64 r, .int .i64 c, .slice (some ⟨g3, 0, none⟩) l1 l1, .slice (some ⟨g4, 0, none⟩) l2 l2] 27)) := below1
    refine (implSafeCol_any r c _ l1 l1 _ l2 l2 A B _ (H4.out.a.below b4') (H4.out.b.below b4')).mono ?_
    clear p0 p1 p2 p3
    rintro e w5 ⟨rfl, b5⟩
    rw [HV.out]
    have B5 := Lib.hid (below_after (below_after B4.out (Nat.le_refl _) b4') (Nat.le_refl _) b5)
    have X5 := Lib.hid ((X4.out.below b4').below b5)
    have Y5 := Lib.hid (Box4.below (heap1 (w := w4) (o := .cells #[.int .i64 r, .int .i64 c, .slice (some ⟨g3, 0, none⟩) l1 l1, .slice (some ⟨g4, 0, none⟩) l2 l2] 27)) b5)
    have H5 := Lib.hid ((H4.out.below b4').below b5)
    obtain ⟨⟨p0, p1, p2, p3⟩, _⟩ := X5.out.all
    obtain ⟨⟨q0, q1, q2, q3⟩, _⟩ := Y5.out.all
    clear b4' b5
    go_wp2_with fail
    go_region_held3 (fun w' => Hid (Below w5.heap.size w5 w') ∧ (w'.cell? ⟨w.heap.size, 0, none⟩ = some (.int .i64 r) ∧ w'.cell? ⟨w.heap.size, 1, none⟩ = some (.int .i64 c) ∧ w'.cell? ⟨w.heap.size, 2, none⟩ = some (.slice a1 l1 c1) ∧ w'.cell? ⟨w.heap.size, 3, none⟩ = some (.slice a2 l2 c2)) ∧
        (w'.cell? ⟨w4.heap.size, 0, none⟩ = some (.int .i64 r) ∧ w'.cell? ⟨w4.heap.size, 1, none⟩ = some (.int .i64 c) ∧ w'.cell? ⟨w4.heap.size, 2, none⟩ = some (.slice (some ⟨g3, 0, none⟩) l1 l1) ∧ w'.cell? ⟨w4.heap.size, 3, none⟩ = some (.slice (some ⟨g4, 0, none⟩) l2 l2)))
      (first | exact ⟨keep0, ⟨p0, p1, p2, p3⟩, ⟨q0, q1, q2, q3⟩⟩ | exact keep2 (by assumption) (by assumption))
      (first
        | (go_at_call 24; refine (toGame_any r c a1 l1 c1 a2 l2 c2 A B _ hl1 hl2 (HA.out.keep (below_after B5.out (Nat.le_refl _) (Hid.out (And.left (by assumption))))).1 (HB.out.keep (below_after B5.out (Nat.le_refl _) (Hid.out (And.left (by assumption))))).1).mono ?_; rintro e w6 ⟨g5, g6, rfl, G6, b6⟩; have H6 := Lib.hid G6; have B6 := Lib.hid b6; clear G6 b6)
        | (go_at_call 26; refine (eqGame_any r c _ l1 l1 _ l2 l2 _ l1 _ l2 A B _ (H5.out.a.below (Hid.out (And.left (by assumption)))) (H5.out.b.below (Hid.out (And.left (by assumption)))) H6.out.a H6.out.b).mono ?_; rintro e w7 ⟨rfl, b7⟩; have B7 := Lib.hid b7; clear b7))
    go_wp2_with fail
    go_ret
    exact ⟨rfl, below_after B5.out (Nat.le_refl _) (Hid.out (And.left (by assumption)))⟩
  · have hz := Lib.hid (show sizeOfGame 1048576 l1 l2 = -1 by unfold sizeOfGame; rw [if_neg hs])
    clear HA HB hs
    go_enter Try.func16, Try.ntmps16
    go_wp2_with fail
    refine (szGame_any r c a1 l1 c1 a2 l2 c2 1048576 (by omega) (by omega) hm1 hm2 _).mono ?_
    rintro e w1 ⟨rfl, b1⟩
    rw [hz.out]
    have B1 := Lib.hid (below_after below1 (Nat.le_refl _) b1)
    clear b1
    go_wp2_with fail
    go_ret
    exact ⟨rfl, B1.out⟩
end Go.Proofs.Ytpopmcgieegikaa
