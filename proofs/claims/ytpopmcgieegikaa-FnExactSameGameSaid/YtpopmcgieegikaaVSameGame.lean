/-
  The law on SameGame: every two games.
-/
import Derived.Test.YtpopmcgieegikaaGSameI
import Derived.Test.YtpopmcgieegikaaLawKit
namespace Go.Proofs.Ytpopmcgieegikaa
open Go.RowKit Go.ChangeShapes Go.WideShapes
set_option linter.unusedVariables false

set_option maxHeartbeats 2000000 in
set_option maxRecDepth 20000 in
theorem walk_fnExactSameGame (r c : Int) (a1 : Option Addr) (l1 c1 : Nat) (a2 : Option Addr) (l2 c2 : Nat) (A B : List Int) (r' c' : Int) (a3 : Option Addr) (l3 c3 : Nat) (a4 : Option Addr) (l4 c4 : Nat) (A' B' : List Int) (w : World)
    (hA : IAt w a1 l1 A) (hB : IAt w a2 l2 B) (hA' : IAt w a3 l3 A') (hB' : IAt w a4 l4 B') :
    Calls Try.prog 4 #[gameV r c a1 l1 c1 a2 l2 c2, gameV r' c' a3 l3 c3 a4 l4 c4] w fun e w' => e = .returned (.bool true) ∧ Below w.heap.size w w' := by
  have hm1 := hA.2.1
  have hm2 := hB.2.1
  have hm3 := hA'.2.1
  have hm4 := hB'.2.1
  have HA := Lib.hid hA.inB
  have HB := Lib.hid hB.inB
  have HA' := Lib.hid hA'.inB
  have HB' := Lib.hid hB'.inB
  clear hA hB hA' hB'
  by_cases hs : (l1 : Int) + l2 ≤ 1048576
  · have hz := Lib.hid (show sizeOfGame 1048576 l1 l2 = 1048576 - l1 - l2 by unfold sizeOfGame; rw [if_pos hs])
    obtain ⟨z, hzz⟩ : ∃ z : Int, (1048576 : Int) - l1 - l2 = z := ⟨_, rfl⟩
    rw [hzz] at hz
    have z0 : 0 ≤ z := by omega
    have z1 : z ≤ 1048576 := by omega
    by_cases hs' : (l3 : Int) + l4 ≤ z
    · have hz2 := Lib.hid (show (0 : Int) ≤ sizeOfGame z l3 l4 by unfold sizeOfGame; rw [if_pos hs']; omega)
      have hl1 : l1 ≤ 1048576 := by omega
      have hl2 : l2 ≤ 1048576 := by omega
      have hl3 : l3 ≤ 1048576 := by omega
      have hl4 : l4 ≤ 1048576 := by omega
      clear hzz
      obtain ⟨v, hv⟩ : ∃ v, sameV r c A B r' c' A' B' = v := ⟨_, rfl⟩
      have HV := Lib.hid hv
      clear hv
      go_enter Try.func4, Try.ntmps4
      go_wp2_with fail
      refine (szGame_any r c a1 l1 c1 a2 l2 c2 1048576 (by omega) (by omega) hm1 hm2 _).mono ?_
      rintro e w1 ⟨rfl, b1⟩
      rw [hz.out]
      have X1 := Lib.hid (Box4.below (heap2a (w := w) (o := .cells #[.int .i64 r, .int .i64 c, .slice a1 l1 c1, .slice a2 l2 c2] 24) (p := .cells #[.int .i64 r', .int .i64 c', .slice a3 l3 c3, .slice a4 l4 c4] 24)) b1)
      have Y1 := Lib.hid (Box4.below (heap2b (w := w) (o := .cells #[.int .i64 r, .int .i64 c, .slice a1 l1 c1, .slice a2 l2 c2] 24) (p := .cells #[.int .i64 r', .int .i64 c', .slice a3 l3 c3, .slice a4 l4 c4] 24)) b1)
      have B1 := Lib.hid (below_after below2 (Nat.le_refl _) b1)
      clear b1
      obtain ⟨⟨q0, q1, q2, q3⟩, _⟩ := Y1.out.all
      go_wp2_with fail
      refine (szGame_any r' c' a3 l3 c3 a4 l4 c4 z z0 z1 hm3 hm4 _).mono ?_
      rintro e w2 ⟨rfl, b2⟩
      have hz3 := hz2.out
      generalize sizeOfGame z l3 l4 = zz at *
      have X2 := Lib.hid (X1.out.below b2)
      have Y2 := Lib.hid (Y1.out.below b2)
      have B2 := Lib.hid (below_after B1.out (Nat.le_refl _) b2)
      clear b2 q0 q1 q2 q3
      obtain ⟨⟨p0, p1, p2, p3⟩, _⟩ := X2.out.all
      obtain ⟨⟨q0, q1, q2, q3⟩, _⟩ := Y2.out.all
      go_wp2_with fail
      go_region_held3 (fun w' => Hid (Below w2.heap.size w2 w') ∧ (w'.cell? ⟨w.heap.size, 0, none⟩ = some (.int .i64 r) ∧ w'.cell? ⟨w.heap.size, 1, none⟩ = some (.int .i64 c) ∧ w'.cell? ⟨w.heap.size, 2, none⟩ = some (.slice a1 l1 c1) ∧ w'.cell? ⟨w.heap.size, 3, none⟩ = some (.slice a2 l2 c2)) ∧
          (w'.cell? ⟨w.heap.size + 1, 0, none⟩ = some (.int .i64 r') ∧ w'.cell? ⟨w.heap.size + 1, 1, none⟩ = some (.int .i64 c') ∧ w'.cell? ⟨w.heap.size + 1, 2, none⟩ = some (.slice a3 l3 c3) ∧ w'.cell? ⟨w.heap.size + 1, 3, none⟩ = some (.slice a4 l4 c4)))
        (first | exact ⟨keep0, ⟨p0, p1, p2, p3⟩, ⟨q0, q1, q2, q3⟩⟩ | exact keep2 (by assumption) (by assumption))
        (first
          | (go_at_call_of 24 (Value.slice a1 l1 c1); refine (toGame_any r c a1 l1 c1 a2 l2 c2 A B _ hl1 hl2 (HA.out.keep (below_after B2.out (Nat.le_refl _) (Hid.out (And.left (by assumption))))).1 (HB.out.keep (below_after B2.out (Nat.le_refl _) (Hid.out (And.left (by assumption))))).1).mono ?_; rintro e wa ⟨ga, gb, rfl, GA, ba⟩; have HGA := Lib.hid GA; have BA := Lib.hid ba; clear GA ba)
          | (go_at_call_of 24 (Value.slice a3 l3 c3); refine (toGame_any r' c' a3 l3 c3 a4 l4 c4 A' B' _ hl3 hl4 (HA'.out.keep (below_after B2.out (Nat.le_refl _) (Hid.out (And.left (by assumption))))).1 (HB'.out.keep (below_after B2.out (Nat.le_refl _) (Hid.out (And.left (by assumption))))).1).mono ?_; rintro e wb ⟨gc, gd, rfl, GB, bb⟩; have HGB := Lib.hid GB; have BB := Lib.hid bb; clear GB bb)
          | (go_at_call 27; refine (specSame_any r c _ l1 l1 _ l2 l2 A B r' c' _ l3 l3 _ l4 l4 A' B' _ (by first | exact HGA.out.a | exact HGA.out.a.below BB.out) (by first | exact HGA.out.b | exact HGA.out.b.below BB.out) (by first | exact HGB.out.a | exact HGB.out.a.below BA.out) (by first | exact HGB.out.b | exact HGB.out.b.below BA.out)).mono ?_; rintro e w3 ⟨rfl, bc⟩; rw [HV.out]; have BC := Lib.hid bc; clear bc))
      all_goals
        have b3 : Below w2.heap.size w2 w3 := Hid.out (And.left (by assumption))
        have B3 := Lib.hid (below_after B2.out (Nat.le_refl _) b3)
        have X3 := Lib.hid (X2.out.below b3)
        have Y3 := Lib.hid (Y2.out.below b3)
        clear HGA HGB BA BB BC p0 p1 p2 p3 q0 q1 q2 q3 b3
        rename_i hHeld
        clear hHeld
        obtain ⟨⟨p0, p1, p2, p3⟩, _⟩ := X3.out.all
        go_wp2_with fail
        refine (toGame_any r c a1 l1 c1 a2 l2 c2 A B w3 hl1 hl2 (HA.out.keep B3.out).1 (HB.out.keep B3.out).1).mono ?_
        clear p0 p1 p2 p3
        rintro e w4 ⟨g3, g4, rfl, G4, b4⟩
        have B4 := Lib.hid (below_after B3.out (Nat.le_refl _) b4)
        have X4 := Lib.hid (X3.out.below b4)
        have Y4 := Lib.hid (Y3.out.below b4)
        have H4 := Lib.hid G4
        clear G4 b4
        obtain ⟨⟨q0, q1, q2, q3⟩, _⟩ := Y4.out.all
        have hsy4 := Y4.out.lt
        go_wp2_with fail
        have b4' : Below w4.heap.size w4 (w4.alloc (.cells #[.int .i64 r, .int .i64 c, .slice (some ⟨g3, 0, none⟩) l1 l1, .slice (some ⟨g4, 0, none⟩) l2 l2] 27)) := below1
        refine (toGame_any r' c' a3 l3 c3 a4 l4 c4 A' B' _ hl3 hl4 (HA'.out.keep (below_after B4.out (Nat.le_refl _) b4')).1 (HB'.out.keep (below_after B4.out (Nat.le_refl _) b4')).1).mono ?_
        clear q0 q1 q2 q3
        rintro e w5 ⟨g5, g6, rfl, G5, b5⟩
        have B5 := Lib.hid (below_after (below_after B4.out (Nat.le_refl _) b4') (Nat.le_refl _) b5)
        have X5 := Lib.hid ((X4.out.below b4').below b5)
        have Y5 := Lib.hid ((Y4.out.below b4').below b5)
        have H5 := Lib.hid ((H4.out.below b4').below b5)
        have U5 := Lib.hid (Box4.below (heap1 (w := w4) (o := .cells #[.int .i64 r, .int .i64 c, .slice (some ⟨g3, 0, none⟩) l1 l1, .slice (some ⟨g4, 0, none⟩) l2 l2] 27)) b5)
        have K5 := Lib.hid G5
        clear b4' b5 G5
        obtain ⟨⟨p0, p1, p2, p3⟩, _⟩ := U5.out.all
        have hsu5 := U5.out.lt
        go_wp2_with fail
        have b5' : Below w5.heap.size w5 (w5.alloc (.cells #[.int .i64 r', .int .i64 c', .slice (some ⟨g5, 0, none⟩) l3 l3, .slice (some ⟨g6, 0, none⟩) l4 l4] 27)) := below1
        refine (implSame_any r c _ l1 l1 _ l2 l2 A B r' c' _ l3 l3 _ l4 l4 A' B' _ (H5.out.a.below b5') (H5.out.b.below b5') (K5.out.a.below b5') (K5.out.b.below b5')).mono ?_
        clear p0 p1 p2 p3
        rintro e w6 ⟨rfl, b6⟩
        rw [HV.out]
        have B6 := Lib.hid (below_after (below_after B5.out (Nat.le_refl _) b5') (Nat.le_refl _) b6)
        have X6 := Lib.hid ((X5.out.below b5').below b6)
        have Y6 := Lib.hid ((Y5.out.below b5').below b6)
        have U6 := Lib.hid ((U5.out.below b5').below b6)
        have V6 := Lib.hid (Box4.below (heap1 (w := w5) (o := .cells #[.int .i64 r', .int .i64 c', .slice (some ⟨g5, 0, none⟩) l3 l3, .slice (some ⟨g6, 0, none⟩) l4 l4] 27)) b6)
        have H6 := Lib.hid ((H5.out.below b5').below b6)
        have K6 := Lib.hid ((K5.out.below b5').below b6)
        clear b5' b6
        obtain ⟨⟨p0, p1, p2, p3⟩, _⟩ := X6.out.all
        obtain ⟨⟨q0, q1, q2, q3⟩, _⟩ := U6.out.all
        go_wp2_with fail
        go_region_held3 (fun w' => Hid (Below w6.heap.size w6 w') ∧ (w'.cell? ⟨w.heap.size, 0, none⟩ = some (.int .i64 r) ∧ w'.cell? ⟨w.heap.size, 1, none⟩ = some (.int .i64 c) ∧ w'.cell? ⟨w.heap.size, 2, none⟩ = some (.slice a1 l1 c1) ∧ w'.cell? ⟨w.heap.size, 3, none⟩ = some (.slice a2 l2 c2)) ∧
            (w'.cell? ⟨w4.heap.size, 0, none⟩ = some (.int .i64 r) ∧ w'.cell? ⟨w4.heap.size, 1, none⟩ = some (.int .i64 c) ∧ w'.cell? ⟨w4.heap.size, 2, none⟩ = some (.slice (some ⟨g3, 0, none⟩) l1 l1) ∧ w'.cell? ⟨w4.heap.size, 3, none⟩ = some (.slice (some ⟨g4, 0, none⟩) l2 l2)))
          (first | exact ⟨keep0, ⟨p0, p1, p2, p3⟩, ⟨q0, q1, q2, q3⟩⟩ | exact keep2 (by assumption) (by assumption))
          (first
            | (go_at_call 24; refine (toGame_any r c a1 l1 c1 a2 l2 c2 A B _ hl1 hl2 (HA.out.keep (below_after B6.out (Nat.le_refl _) (Hid.out (And.left (by assumption))))).1 (HB.out.keep (below_after B6.out (Nat.le_refl _) (Hid.out (And.left (by assumption))))).1).mono ?_; rintro e wa ⟨ga, gb, rfl, GA, ba⟩; have HGA := Lib.hid GA; have BA := Lib.hid ba; clear GA ba)
            | (go_at_call 26; refine (eqGame_any r c _ l1 l1 _ l2 l2 _ l1 _ l2 A B _ (H6.out.a.below (Hid.out (And.left (by assumption)))) (H6.out.b.below (Hid.out (And.left (by assumption)))) HGA.out.a HGA.out.b).mono ?_; rintro e w7 ⟨rfl, bc⟩; have BC := Lib.hid bc; clear bc))
        have b7 : Below w6.heap.size w6 w7 := Hid.out (And.left (by assumption))
        have B7 := Lib.hid (below_after B6.out (Nat.le_refl _) b7)
        have Y7 := Lib.hid (Y6.out.below b7)
        have V7 := Lib.hid (V6.out.below b7)
        have K7 := Lib.hid (K6.out.below b7)
        clear HGA BA BC p0 p1 p2 p3 q0 q1 q2 q3 b7
        rename_i hHeld
        clear hHeld
        obtain ⟨⟨p0, p1, p2, p3⟩, _⟩ := Y7.out.all
        obtain ⟨⟨q0, q1, q2, q3⟩, _⟩ := V7.out.all
        go_wp2_with fail
        go_region_held3 (fun w' => Hid (Below w7.heap.size w7 w') ∧ (w'.cell? ⟨w.heap.size + 1, 0, none⟩ = some (.int .i64 r') ∧ w'.cell? ⟨w.heap.size + 1, 1, none⟩ = some (.int .i64 c') ∧ w'.cell? ⟨w.heap.size + 1, 2, none⟩ = some (.slice a3 l3 c3) ∧ w'.cell? ⟨w.heap.size + 1, 3, none⟩ = some (.slice a4 l4 c4)) ∧
            (w'.cell? ⟨w5.heap.size, 0, none⟩ = some (.int .i64 r') ∧ w'.cell? ⟨w5.heap.size, 1, none⟩ = some (.int .i64 c') ∧ w'.cell? ⟨w5.heap.size, 2, none⟩ = some (.slice (some ⟨g5, 0, none⟩) l3 l3) ∧ w'.cell? ⟨w5.heap.size, 3, none⟩ = some (.slice (some ⟨g6, 0, none⟩) l4 l4)))
          (first | exact ⟨keep0, ⟨p0, p1, p2, p3⟩, ⟨q0, q1, q2, q3⟩⟩ | exact keep2 (by assumption) (by assumption))
          (first
            | (go_at_call 24; refine (toGame_any r' c' a3 l3 c3 a4 l4 c4 A' B' _ hl3 hl4 (HA'.out.keep (below_after B7.out (Nat.le_refl _) (Hid.out (And.left (by assumption))))).1 (HB'.out.keep (below_after B7.out (Nat.le_refl _) (Hid.out (And.left (by assumption))))).1).mono ?_; rintro e wa ⟨ga, gb, rfl, GA, ba⟩; have HGA := Lib.hid GA; have BA := Lib.hid ba; clear GA ba)
            | (go_at_call 26; refine (eqGame_any r' c' _ l3 l3 _ l4 l4 _ l3 _ l4 A' B' _ (K7.out.a.below (Hid.out (And.left (by assumption)))) (K7.out.b.below (Hid.out (And.left (by assumption)))) HGA.out.a HGA.out.b).mono ?_; rintro e w8 ⟨rfl, bc⟩; have BC := Lib.hid bc; clear bc))
        go_wp2_with fail
        go_ret
        exact ⟨rfl, below_after B7.out (Nat.le_refl _) (Hid.out (And.left (by assumption)))⟩
    · have hz2 := Lib.hid (show sizeOfGame z l3 l4 = -1 by unfold sizeOfGame; rw [if_neg hs'])
      clear HA HB HA' HB' hzz
      go_enter Try.func4, Try.ntmps4
      go_wp2_with fail
      refine (szGame_any r c a1 l1 c1 a2 l2 c2 1048576 (by omega) (by omega) hm1 hm2 _).mono ?_
      rintro e w1 ⟨rfl, b1⟩
      rw [hz.out]
      have Y1 := Lib.hid (Box4.below (heap2b (w := w) (o := .cells #[.int .i64 r, .int .i64 c, .slice a1 l1 c1, .slice a2 l2 c2] 24) (p := .cells #[.int .i64 r', .int .i64 c', .slice a3 l3 c3, .slice a4 l4 c4] 24)) b1)
      have B1 := Lib.hid (below_after below2 (Nat.le_refl _) b1)
      clear b1
      obtain ⟨⟨q0, q1, q2, q3⟩, _⟩ := Y1.out.all
      go_wp2_with fail
      refine (szGame_any r' c' a3 l3 c3 a4 l4 c4 z z0 z1 hm3 hm4 _).mono ?_
      rintro e w2 ⟨rfl, b2⟩
      rw [hz2.out]
      have B2 := Lib.hid (below_after B1.out (Nat.le_refl _) b2)
      clear b2 q0 q1 q2 q3
      go_wp2_with fail
      go_ret
      exact ⟨rfl, B2.out⟩
  · have hz := Lib.hid (show sizeOfGame 1048576 l1 l2 = -1 by unfold sizeOfGame; rw [if_neg hs])
    clear HA HB HA' HB' hs
    go_enter Try.func4, Try.ntmps4
    go_wp2_with fail
    refine (szGame_any r c a1 l1 c1 a2 l2 c2 1048576 (by omega) (by omega) hm1 hm2 _).mono ?_
    rintro e w1 ⟨rfl, b1⟩
    rw [hz.out]
    have B1 := Lib.hid (below_after below2 (Nat.le_refl _) b1)
    clear b1
    go_wp2_with fail
    go_ret
    exact ⟨rfl, B1.out⟩
end Go.Proofs.Ytpopmcgieegikaa
