/-
  The law on ValidPlayer: every player, all numbers.
-/
import Derived.Test.YtnbmfnhbmbalmaaPlIs
import Derived.Test.YtnbmfnhbmbalmaaLawKit
namespace Go.Proofs.Ytnbmfnhbmbalmaa
open Go.RowKit Go.ChangeShapes Go.WideShapes
set_option linter.unusedVariables false

set_option maxRecDepth 20000 in
theorem walk_fnExactValidPlayer (a1 : Option Addr) (l1 c1 : Nat) (a2 : Option Addr) (l2 c2 : Nat) (A B : List Int) (own other : Int) (w : World) (hA : IAt w a1 l1 A) (hB : IAt w a2 l2 B) (hw1 : (Lit.int .i64 own).wf = true) (hw2 : (Lit.int .i64 other).wf = true) :
    Calls Try.prog 5 #[playerV a1 l1 c1 a2 l2 c2, .int .i64 own, .int .i64 other] w fun e w' => e = .returned (.bool true) ∧ Below w.heap.size w w' := by
  have hm1 := hA.2.1
  have hm2 := hB.2.1
  have HA := Lib.hid hA.inB
  have HB := Lib.hid hB.inB
  clear hA hB
  by_cases hs : (l1 : Int) + l2 ≤ 1048576
  · have hz := Lib.hid (show (0 : Int) ≤ sizePlayer 1048576 l1 l2 by unfold sizePlayer; rw [if_pos hs]; omega)
    have hl1 : l1 ≤ 1048576 := by omega
    have hl2 : l2 ≤ 1048576 := by omega
    go_enter Try.func5, Try.ntmps5
    go_wp2_with fail
    refine (szPlayer_any a1 l1 c1 a2 l2 c2 1048576 (by omega) (by omega) hm1 hm2 _).mono ?_
    rintro e w1 ⟨rfl, b1⟩
    have hz1 := hz.out
    generalize sizePlayer 1048576 l1 l2 = z at *
    have x1 : Box2 w1 w.heap.size 41 (.slice a1 l1 c1) (.slice a2 l2 c2) := Box2.below heap1 b1
    have B1 := Lib.hid (below_after below1 (Nat.le_refl _) b1)
    clear b1
    have X1 := Lib.hid x1
    obtain ⟨⟨p0, p1⟩, _⟩ := x1.all
    clear x1
    go_wp2_with fail
    refine (toPlayer_any a1 l1 c1 a2 l2 c2 A B w1 hl1 hl2 (HA.out.keep B1.out).1 (HB.out.keep B1.out).1).mono ?_
    clear p0 p1
    rintro e w2 ⟨g1, g2, rfl, G2, b2⟩
    have B2 := Lib.hid (below_after B1.out (Nat.le_refl _) b2)
    have X2 := Lib.hid (X1.out.below b2)
    obtain ⟨⟨p0, p1⟩, _⟩ := X2.out.all
    have H2 := Lib.hid G2
    clear G2 b2
    go_wp2_with fail
    refine (specPl_any _ l1 l1 _ l2 l2 A B own other w2 H2.out.a H2.out.b).mono ?_
    clear p0 p1
    rintro e w3 ⟨rfl, b3⟩
    have B3 := Lib.hid (below_after B2.out (Nat.le_refl _) b3)
    have X3 := Lib.hid (X2.out.below b3)
    obtain ⟨⟨p0, p1⟩, _⟩ := X3.out.all
    clear b3
    obtain ⟨ok, hok⟩ : ∃ ok, okPl A B own other = ok := ⟨_, rfl⟩
    have OK := Lib.hid hok
    clear hok
    rw [OK.out]
    go_wp2_with fail
    refine (toPlayer_any a1 l1 c1 a2 l2 c2 A B w3 hl1 hl2 (HA.out.keep B3.out).1 (HB.out.keep B3.out).1).mono ?_
    clear p0 p1
    rintro e w4 ⟨g3, g4, rfl, G4, b4⟩
    have B4 := Lib.hid (below_after B3.out (Nat.le_refl _) b4)
    have X4 := Lib.hid (X3.out.below b4)
    obtain ⟨⟨p0, p1⟩, _⟩ := X4.out.all
    have H4 := Lib.hid G4
    clear G4 b4
    go_wp2_with fail
    have b4' : Below w4.heap.size w4 (w4.alloc (.cells #[.slice (some ⟨g3, 0, none⟩) l1 l1, .slice (some ⟨g4, 0, none⟩) l2 l2] 44)) := below1
    refine (implPl_any _ l1 l1 _ l2 l2 A B own other _ (H4.out.a.below b4') (H4.out.b.below b4')).mono ?_
    clear p0 p1
    rintro e w5 ⟨rfl, b5⟩
    rw [OK.out]
    have B5 := Lib.hid (below_after (below_after B4.out (Nat.le_refl _) b4') (Nat.le_refl _) b5)
    have X5 := Lib.hid ((X4.out.below b4').below b5)
    have Y5 := Lib.hid (Box2.below (heap1 (w := w4) (o := .cells #[.slice (some ⟨g3, 0, none⟩) l1 l1, .slice (some ⟨g4, 0, none⟩) l2 l2] 44)) b5)
    have H5 := Lib.hid ((H4.out.below b4').below b5)
    obtain ⟨⟨p0, p1⟩, _⟩ := X5.out.all
    obtain ⟨⟨q0, q1⟩, _⟩ := Y5.out.all
    clear b4' b5
    go_wp2_with fail
    go_region_held3 (fun w' => Hid (Below w5.heap.size w5 w') ∧ (w'.cell? ⟨w.heap.size, 0, none⟩ = some (.slice a1 l1 c1) ∧ w'.cell? ⟨w.heap.size, 1, none⟩ = some (.slice a2 l2 c2)) ∧
        (w'.cell? ⟨w4.heap.size, 0, none⟩ = some (.slice (some ⟨g3, 0, none⟩) l1 l1) ∧ w'.cell? ⟨w4.heap.size, 1, none⟩ = some (.slice (some ⟨g4, 0, none⟩) l2 l2)))
      (first | exact ⟨keep0, ⟨p0, p1⟩, ⟨q0, q1⟩⟩ | exact keep2_2_2 (by assumption) (by assumption))
      (first
        | (go_at_call 23; refine (toPlayer_any a1 l1 c1 a2 l2 c2 A B _ hl1 hl2 (HA.out.keep (below_after B5.out (Nat.le_refl _) (Hid.out (And.left (by assumption))))).1 (HB.out.keep (below_after B5.out (Nat.le_refl _) (Hid.out (And.left (by assumption))))).1).mono ?_; rintro e w6 ⟨g5, g6, rfl, G6, b6⟩; have H6 := Lib.hid G6; have B6 := Lib.hid b6; clear G6 b6)
        | (go_at_call 25; refine (eqPlayer_any _ l1 l1 _ l2 l2 _ l1 _ l2 A B _ (H5.out.a.below (Hid.out (And.left (by assumption)))) (H5.out.b.below (Hid.out (And.left (by assumption)))) H6.out.a H6.out.b).mono ?_; rintro e w7 ⟨rfl, b7⟩; have B7 := Lib.hid b7; clear b7))
    go_wp2_with fail
    go_ret
    refine ⟨rfl, ?_⟩
    exact below_after B5.out (Nat.le_refl _) (Hid.out (And.left (by assumption)))
  · have hz := Lib.hid (show sizePlayer 1048576 l1 l2 = -1 by unfold sizePlayer; rw [if_neg hs])
    clear HA HB hs
    go_enter Try.func5, Try.ntmps5
    go_wp2_with fail
    refine (szPlayer_any a1 l1 c1 a2 l2 c2 1048576 (by omega) (by omega) hm1 hm2 _).mono ?_
    rintro e w1 ⟨rfl, b1⟩
    rw [hz.out]
    have B1 := Lib.hid (below_after below1 (Nat.le_refl _) b1)
    clear b1
    go_wp2_with fail
    go_ret
    exact ⟨rfl, B1.out⟩
end Go.Proofs.Ytnbmfnhbmbalmaa
