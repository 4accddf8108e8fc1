/-
  Cells where no player gains by leaving: both sides (the program's only for what is no game).
-/
import Derived.Test.YtpopmcgieegikaaGPureS
namespace Go.Proofs.Ytpopmcgieegikaa
open Go.RowKit Go.ChangeShapes Go.WideShapes
set_option linter.unusedVariables false

def pureV (r c : Int) (A B : List Int) : List Int × Bool :=
  if okGame r c A B = true then (ints (pickL (pureP A B r.toNat c.toNat) (r.toNat * c.toNat)), true) else ([], false)

set_option maxRecDepth 20000 in
theorem specPure_any (r c : Int) (a1 : Option Addr) (l1 c1 : Nat) (a2 : Option Addr) (l2 c2 : Nat) (A B : List Int) (w : World) (hA : IAt w a1 l1 A) (hB : IAt w a2 l2 B) :
    Calls Try.prog 53 #[gameV r c a1 l1 c1 a2 l2 c2] w (PairOut w (pureV r c A B)) := by
  have HA := Lib.hid hA
  have HB := Lib.hid hB
  cases hok : okGame r c A B with
  | true =>
    obtain ⟨R, C, rfl, rfl, r1, r6, q1, q6, hlA, hlB, _, _⟩ := okGame_true hok
    obtain ⟨b, off, rfl, rfl, hb, hc⟩ := game_at hA hlA r1 q1
    obtain ⟨b', off', rfl, rfl, hb', hc'⟩ := game_at hB hlB r1 q1
    have HCA := Lib.hid hc
    have HCB := Lib.hid hc'
    have OK := Lib.hid hok
    clear hA hB hc hc' hlA hlB hok
    have X1 : Hid (Box4 (w.alloc (.cells #[.int .i64 R, .int .i64 C, .slice (some ⟨b, off, none⟩) (R * C) c1, .slice (some ⟨b', off', none⟩) (R * C) c2] 27)) w.heap.size 27 (.int .i64 R) (.int .i64 C) (.slice (some ⟨b, off, none⟩) (R * C) c1) (.slice (some ⟨b', off', none⟩) (R * C) c2)) := Lib.hid heap1
    have HV : Hid (pureV R C A B = (ints (pickL (pureP A B R C) (R * C)), true)) := Lib.hid (by unfold pureV; rw [OK.out]; simp)
    go_enter Try.func53, Try.ntmps53
    go_wp2_with fail
    refine (specIs_any _ R C _ (R * C) c1 _ (R * C) c2 A B _ X1.out (HA.out.below below1) (HB.out.below below1)).mono ?_
    rintro e w1 ⟨rfl, n1, rfl⟩
    rw [OK.out]
    have b1 : Below w.heap.size w ((w.alloc (.cells #[.int .i64 R, .int .i64 C, .slice (some ⟨b, off, none⟩) (R * C) c1, .slice (some ⟨b', off', none⟩) (R * C) c2] 27)).drewN n1) := below1.trans (same_below ⟨n1, rfl⟩ _)
    have B1 := Lib.hid b1
    clear b1
    go_wp2_with fail
    have b1 := B1.out
    refine (specPure_at w.heap.size R C b off c1 b' off' c2 A B _ r1 q1 r6 q6 (X1.out.below (same_below ⟨n1, rfl⟩ _)) (by simp; omega) (by simp; omega) HA.out.2.2.1 HB.out.2.2.1 (fun i hi => (b1.cell (p := ⟨b, off + i, none⟩) hb).trans (HCA.out i hi)) (fun i hi => (b1.cell (p := ⟨b', off' + i, none⟩) hb').trans (HCB.out i hi))).mono ?_
    clear b1
    rintro e w3 ⟨a, len, cap, rfl, ho, b3⟩
    have HO := Lib.hid ho
    have B3 := Lib.hid b3
    clear ho b3
    go_wp2_with fail
    go_ret2
    rw [HV.out]
    exact ⟨a, len, cap, rfl, HO.out.wide (by simp) (Nat.le_refl _) (Nat.le_refl _), below_after B1.out (Nat.le_refl _) B3.out⟩
  | false =>
    have OK := Lib.hid hok
    have HV : Hid (pureV r c A B = ([], false)) := Lib.hid (by unfold pureV; rw [OK.out]; simp)
    clear hok hA hB
    go_enter Try.func53, Try.ntmps53
    go_wp2_with fail
    refine (specIs_any _ r c a1 l1 c1 a2 l2 c2 A B _ heap1 (HA.out.below below1) (HB.out.below below1)).mono ?_
    rintro e w1 ⟨rfl, n1, rfl⟩
    rw [OK.out]
    go_wp2_with fail
    go_ret2
    rw [HV.out]
    exact ⟨none, 0, 0, rfl, own_nil _ (Nat.le_refl _), below1.trans (same_below ⟨n1, rfl⟩ _)⟩

set_option maxRecDepth 20000 in
theorem implPure_no (r c : Int) (a1 : Option Addr) (l1 c1 : Nat) (a2 : Option Addr) (l2 c2 : Nat) (A B : List Int) (w : World) (hA : IAt w a1 l1 A) (hB : IAt w a2 l2 B) (hok : okGame r c A B = false) :
    Calls Try.prog 54 #[gameV r c a1 l1 c1 a2 l2 c2] w (PairOut w (pureV r c A B)) := by
  have HA := Lib.hid hA
  have HB := Lib.hid hB
  have OK := Lib.hid hok
  have HV : Hid (pureV r c A B = ([], false)) := Lib.hid (by unfold pureV; rw [OK.out]; simp)
  clear hok hA hB
  go_enter Try.func54, Try.ntmps54
  go_wp2_with fail
  refine (implValid_any r c a1 l1 c1 a2 l2 c2 A B _ (HA.out.below below1) (HB.out.below below1)).mono ?_
  rintro e w1 ⟨rfl, b1⟩
  rw [OK.out]
  have B1 := Lib.hid (below_after below1 (Nat.le_refl _) b1)
  clear b1
  go_wp2_with fail
  go_ret2
  rw [HV.out]
  exact ⟨none, 0, 0, rfl, own_nil _ (Nat.le_refl _), B1.out⟩
end Go.Proofs.Ytpopmcgieegikaa
