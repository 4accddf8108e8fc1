/-
  BetterSteps: the program's and the reference's answers.
-/
import Derived.Test.YtpopmcgieegikaaGBetI
namespace Go.Proofs.Ytpopmcgieegikaa
open Go.RowKit Go.ChangeShapes Go.WideShapes
set_option linter.unusedVariables false

theorem index_nat {k : Int} {C : Nat} (h : okIndex k C = true) : ∃ K : Nat, k = K ∧ K < C := by
  simp only [okIndex, Bool.and_eq_true, decide_eq_true_eq] at h
  exact ⟨k.toNat, by omega, by omega⟩

set_option maxRecDepth 20000 in
theorem implBetter_any (r c row col : Int) (hbr : Big row) (hbc : Big col) (a1 : Option Addr) (l1 c1 : Nat) (a2 : Option Addr) (l2 c2 : Nat) (A B : List Int) (w : World) (hA : IAt w a1 l1 A) (hB : IAt w a2 l2 B) :
    Calls Try.prog 66 #[gameV r c a1 l1 c1 a2 l2 c2, .int .i64 row, .int .i64 col] w (PairOut w (betterV r c A B row col)) := by
  have HA := Lib.hid hA
  have HB := Lib.hid hB
  cases hok : okGame r c A B with
  | true =>
    have OK := Lib.hid hok
    cases hir : okIndex row r with
    | true =>
      have IR := Lib.hid hir
      cases hic : okIndex col c with
      | true =>
        have HV : betterV r c A B row col = (trail A B r.toNat c.toNat 37 [] row.toNat col.toNat, true) := by unfold betterV; rw [if_pos hok, if_pos hir, if_pos hic]
        rw [HV]
        obtain ⟨R, C, rfl, rfl, r1, r6, q1, q6, hlA, hlB, _, _⟩ := okGame_true hok
        obtain ⟨b, off, rfl, rfl, hb, hc⟩ := game_at hA hlA r1 q1
        obtain ⟨b', off', rfl, rfl, hb', hc'⟩ := game_at hB hlB r1 q1
        obtain ⟨I, rfl, hI⟩ := index_nat hir
        obtain ⟨K, rfl, hK⟩ := index_nat hic
        exact implBetter_yes R C I K b off c1 b' off' c2 A B w r1 q1 r6 q6 hI hK hA hB hb hb' hc hc' hok
      | false =>
        have IC := Lib.hid hic
        have HV : Hid (betterV r c A B row col = ([], false)) := Lib.hid (by unfold betterV; rw [if_pos hok, if_pos hir, hic]; rfl)
        clear hok hir hic hA hB
        go_enter Try.func66, Try.ntmps66
        go_wp2_with fail
        refine (implValid_any r c a1 l1 c1 a2 l2 c2 A B _ (HA.out.below below1) (HB.out.below below1)).mono ?_
        rintro e w1 ⟨rfl, b1⟩
        rw [OK.out]
        have x1 : Box4 w1 w.heap.size 27 (.int .i64 r) (.int .i64 c) (.slice a1 l1 c1) (.slice a2 l2 c2) := Box4.below heap1 b1
        have B1 := Lib.hid (below_after below1 (Nat.le_refl _) b1)
        obtain ⟨⟨p0, p1, p2, p3⟩, _⟩ := x1.all
        clear b1 x1
        go_wp2_with (go_at_call 82; refine (isIndex_any _ _ _).mono ?_; rintro e w' ⟨rfl, rfl⟩; first | rw [IR.out] | rw [IC.out])
        go_ret2
        rw [HV.out]
        exact ⟨none, 0, 0, rfl, own_nil _ (Nat.le_refl _), B1.out⟩
    | false =>
      have IR := Lib.hid hir
      have HV : Hid (betterV r c A B row col = ([], false)) := Lib.hid (by unfold betterV; rw [if_pos hok, hir]; rfl)
      clear hok hir hA hB
      go_enter Try.func66, Try.ntmps66
      go_wp2_with fail
      refine (implValid_any r c a1 l1 c1 a2 l2 c2 A B _ (HA.out.below below1) (HB.out.below below1)).mono ?_
      rintro e w1 ⟨rfl, b1⟩
      rw [OK.out]
      have x1 : Box4 w1 w.heap.size 27 (.int .i64 r) (.int .i64 c) (.slice a1 l1 c1) (.slice a2 l2 c2) := Box4.below heap1 b1
      have B1 := Lib.hid (below_after below1 (Nat.le_refl _) b1)
      obtain ⟨⟨p0, p1, p2, p3⟩, _⟩ := x1.all
      clear b1 x1
      go_wp2_with (go_at_call 82; refine (isIndex_any _ _ _).mono ?_; rintro e w' ⟨rfl, rfl⟩; rw [IR.out])
      go_ret2
      rw [HV.out]
      exact ⟨none, 0, 0, rfl, own_nil _ (Nat.le_refl _), B1.out⟩
  | false =>
    have OK := Lib.hid hok
    have HV : Hid (betterV r c A B row col = ([], false)) := Lib.hid (by unfold betterV; rw [hok]; rfl)
    clear hok hA hB
    go_enter Try.func66, Try.ntmps66
    go_wp2_with fail
    refine (implValid_any r c a1 l1 c1 a2 l2 c2 A B _ (HA.out.below below1) (HB.out.below below1)).mono ?_
    rintro e w1 ⟨rfl, b1⟩
    rw [OK.out]
    have B1 := Lib.hid (below_after below1 (Nat.le_refl _) b1)
    clear b1
    go_wp2_with fail
    go_ret2
    rw [HV.out]
    exact ⟨none, 0, 0, rfl, own_nil _ (Nat.le_refl _), B1.out⟩

set_option maxRecDepth 20000 in
theorem specBetter_any (r c row col : Int) (hbr : Big row) (hbc : Big col) (a1 : Option Addr) (l1 c1 : Nat) (a2 : Option Addr) (l2 c2 : Nat) (A B : List Int) (w : World) (hA : IAt w a1 l1 A) (hB : IAt w a2 l2 B) :
    Calls Try.prog 65 #[gameV r c a1 l1 c1 a2 l2 c2, .int .i64 row, .int .i64 col] w (PairOut w (betterV r c A B row col)) := by
  have HA := Lib.hid hA
  have HB := Lib.hid hB
  cases hok : okGame r c A B with
  | true =>
    have OK := Lib.hid hok
    obtain ⟨R, C, rfl, rfl, r1, r6, q1, q6, hlA, hlB, _, _⟩ := okGame_true hok
    cases hir : okIndex row R with
    | true =>
      have IR := Lib.hid hir
      cases hic : okIndex col C with
      | true =>
        have HV : betterV R C A B row col = (trail A B (R : Int).toNat (C : Int).toNat 37 [] row.toNat col.toNat, true) := by unfold betterV; rw [if_pos hok, if_pos hir, if_pos hic]
        rw [HV]
        obtain ⟨b, off, rfl, rfl, hb, hc⟩ := game_at hA hlA r1 q1
        obtain ⟨b', off', rfl, rfl, hb', hc'⟩ := game_at hB hlB r1 q1
        obtain ⟨I, rfl, hI⟩ := index_nat hir
        obtain ⟨K, rfl, hK⟩ := index_nat hic
        exact specBetter_yes R C I K b off c1 b' off' c2 A B w r1 q1 r6 q6 hI hK hA hB hb hb' hc hc' hok
      | false =>
        have IC := Lib.hid hic
        have HV : Hid (betterV R C A B row col = ([], false)) := Lib.hid (by unfold betterV; rw [if_pos hok, if_pos hir, hic]; rfl)
        clear hok hir hic hA hB
        go_enter Try.func65, Try.ntmps65
        go_wp2_with fail
        refine (specIs_any _ R C a1 l1 c1 a2 l2 c2 A B _ heap1 (HA.out.below below1) (HB.out.below below1)).mono ?_
        rintro e wS ⟨rfl, n1, hw1⟩
        rw [OK.out]
        have xS : Box4 wS w.heap.size 27 (.int .i64 R) (.int .i64 C) (.slice a1 l1 c1) (.slice a2 l2 c2) := Box4.below heap1 (same_below ⟨n1, hw1⟩ _)
        have HSB := Lib.hid (below1.trans (same_below ⟨n1, hw1⟩ _) : Below w.heap.size w wS)
        obtain ⟨⟨y0, y1, y2, y3⟩, _⟩ := xS.all
        clear hw1 xS
        go_wp2_with (go_at_call 79; refine (in_any _ _ _ _).mono ?_; rintro e w' ⟨rfl, rfl⟩; first | rw [specIndex r1, IR.out] | rw [specIndex q1, IC.out])
        go_ret2
        rw [HV.out]
        exact ⟨none, 0, 0, rfl, own_nil _ (Nat.le_refl _), HSB.out⟩
    | false =>
      have IR := Lib.hid hir
      have HV : Hid (betterV R C A B row col = ([], false)) := Lib.hid (by unfold betterV; rw [if_pos hok, hir]; rfl)
      clear hok hir hA hB
      go_enter Try.func65, Try.ntmps65
      go_wp2_with fail
      refine (specIs_any _ R C a1 l1 c1 a2 l2 c2 A B _ heap1 (HA.out.below below1) (HB.out.below below1)).mono ?_
      rintro e wS ⟨rfl, n1, hw1⟩
      rw [OK.out]
      have xS : Box4 wS w.heap.size 27 (.int .i64 R) (.int .i64 C) (.slice a1 l1 c1) (.slice a2 l2 c2) := Box4.below heap1 (same_below ⟨n1, hw1⟩ _)
      have HSB := Lib.hid (below1.trans (same_below ⟨n1, hw1⟩ _) : Below w.heap.size w wS)
      obtain ⟨⟨y0, y1, y2, y3⟩, _⟩ := xS.all
      clear hw1 xS
      go_wp2_with (go_at_call 79; refine (in_any _ _ _ _).mono ?_; rintro e w' ⟨rfl, rfl⟩; rw [specIndex r1, IR.out])
      go_ret2
      rw [HV.out]
      exact ⟨none, 0, 0, rfl, own_nil _ (Nat.le_refl _), HSB.out⟩
  | false =>
    have OK := Lib.hid hok
    have HV : Hid (betterV r c A B row col = ([], false)) := Lib.hid (by unfold betterV; rw [hok]; rfl)
    clear hok hA hB
    go_enter Try.func65, Try.ntmps65
    go_wp2_with fail
    refine (specIs_any _ r c a1 l1 c1 a2 l2 c2 A B _ heap1 (HA.out.below below1) (HB.out.below below1)).mono ?_
    rintro e w1 ⟨rfl, n1, rfl⟩
    rw [OK.out]
    go_wp2_with fail
    go_ret2
    rw [HV.out]
    exact ⟨none, 0, 0, rfl, own_nil _ (Nat.le_refl _), below1.trans (same_below ⟨n1, rfl⟩ _)⟩
end Go.Proofs.Ytpopmcgieegikaa
