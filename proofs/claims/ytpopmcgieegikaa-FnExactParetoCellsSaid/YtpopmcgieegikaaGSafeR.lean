/-
  SafeRow: the program's and the reference's answers.
-/
import Derived.Test.YtpopmcgieegikaaGSafeS
import Derived.Test.YtpopmcgieegikaaOut
namespace Go.Proofs.Ytpopmcgieegikaa
open Go.RowKit Go.ChangeShapes Go.WideShapes
set_option linter.unusedVariables false

def safeRowV (r c : Int) (A B : List Int) : Int × Int × Bool :=
  if okGame r c A B = true then (((topN (fun x => lowN (rowF A c.toNat x) c.toNat) r.toNat).1 : Nat), (topN (fun x => lowN (rowF A c.toNat x) c.toNat) r.toNat).2, true) else (0, 0, false)

set_option maxRecDepth 20000 in
theorem implSafeRow_any (r c : Int) (a1 : Option Addr) (l1 c1 : Nat) (a2 : Option Addr) (l2 c2 : Nat) (A B : List Int) (w : World) (hA : IAt w a1 l1 A) (hB : IAt w a2 l2 B) :
    Calls Try.prog 56 #[gameV r c a1 l1 c1 a2 l2 c2] w (TripOut w (safeRowV r c A B)) := by
  have HA := Lib.hid hA
  have HB := Lib.hid hB
  cases hok : okGame r c A B with
  | true =>
    obtain ⟨R, C, rfl, rfl, r1, r6, q1, q6, hlA, hlB, hgA, _⟩ := okGame_true hok
    obtain ⟨b, off, rfl, rfl, hb, hc⟩ := game_at hA hlA r1 q1
    obtain ⟨b', off', rfl, rfl, hb', hc'⟩ := game_at hB hlB r1 q1
    have HCA := Lib.hid hc
    have hRC : R * C ≤ 36 := Nat.mul_le_mul r6 q6
    have OK := Lib.hid hok
    clear hA hB hc hc' hlA hlB hok hgA
    have HV : Hid (safeRowV R C A B = ((((topN (fun x => lowN (rowF A C x) C) R).1 : Nat) : Int), (topN (fun x => lowN (rowF A C x) C) R).2, true)) := Lib.hid (by unfold safeRowV; rw [OK.out]; simp)
    go_enter Try.func56, Try.ntmps56
    go_wp2_with fail
    refine (implValid_any R C _ (R * C) c1 _ (R * C) c2 A B _ (HA.out.below below1) (HB.out.below below1)).mono ?_
    rintro e w1 ⟨rfl, b1⟩
    rw [OK.out]
    have x1 : Box4 w1 w.heap.size 27 (.int .i64 R) (.int .i64 C) (.slice (some ⟨b, off, none⟩) (R * C) c1) (.slice (some ⟨b', off', none⟩) (R * C) c2) := Box4.below heap1 b1
    have B1 := Lib.hid (below_after below1 (Nat.le_refl _) b1)
    obtain ⟨⟨p0, p1, p2, p3⟩, _⟩ := x1.all
    clear b1 x1
    go_wp2_with fail
    refine (firstSide_any R C _ (R * C) c1 _ (R * C) c2 w1).mono ?_
    clear p0 p1 p2 p3
    rintro e w2 ⟨n, rfl, hbx, b2⟩
    have HBX := Lib.hid hbx
    have B2 := Lib.hid (below_after B1.out (Nat.le_refl _) b2)
    clear b2 hbx
    go_wp2_with fail
    refine (safeFirst_any (rowF A C) R C n w2 r6 q6 ?_).mono ?_
    · intro x y w' hx hy hw
      exact firstSide_gain n R C x y b off c1 b' off' c2 A B w' hx hy hRC (HBX.out.below hw) fun i hi => ((B2.out.trans (hw.mono B2.out.size)).cell (p := ⟨b, off + i, none⟩) hb).trans (HCA.out i hi)
    rintro e w3 ⟨rfl, b3⟩
    have B3 := Lib.hid b3
    clear b3
    go_wp2_with fail
    go_ret3
    rw [HV.out]
    exact ⟨rfl, below_after B2.out (Nat.le_refl _) B3.out⟩
  | false =>
    have OK := Lib.hid hok
    have HV : Hid (safeRowV r c A B = (0, 0, false)) := Lib.hid (by unfold safeRowV; rw [OK.out]; simp)
    clear hok hA hB
    go_enter Try.func56, Try.ntmps56
    go_wp2_with fail
    refine (implValid_any r c a1 l1 c1 a2 l2 c2 A B _ (HA.out.below below1) (HB.out.below below1)).mono ?_
    rintro e w1 ⟨rfl, b1⟩
    rw [OK.out]
    have B1 := Lib.hid (below_after below1 (Nat.le_refl _) b1)
    clear b1
    go_wp2_with fail
    go_ret3
    rw [HV.out]
    exact ⟨rfl, B1.out⟩

set_option maxRecDepth 20000 in
theorem specSafeRow_any (r c : Int) (a1 : Option Addr) (l1 c1 : Nat) (a2 : Option Addr) (l2 c2 : Nat) (A B : List Int) (w : World) (hA : IAt w a1 l1 A) (hB : IAt w a2 l2 B) :
    Calls Try.prog 55 #[gameV r c a1 l1 c1 a2 l2 c2] w (TripOut w (safeRowV r c A B)) := by
  have HA := Lib.hid hA
  have HB := Lib.hid hB
  cases hok : okGame r c A B with
  | true =>
    obtain ⟨R, C, rfl, rfl, r1, r6, q1, q6, hlA, hlB, hgA, _⟩ := okGame_true hok
    obtain ⟨b, off, rfl, rfl, hb, hc⟩ := game_at hA hlA r1 q1
    obtain ⟨b', off', rfl, rfl, hb', hc'⟩ := game_at hB hlB r1 q1
    have HCA := Lib.hid hc
    have OK := Lib.hid hok
    have HG : Hid (∀ i, i < R * C → -1000 ≤ A.getD i 0 ∧ A.getD i 0 ≤ 1000) := Lib.hid fun i hi => okGains_at hgA (by omega)
    clear hA hB hc hc' hlA hlB hok hgA
    have X1 : Hid (Box4 (w.alloc (.cells #[.int .i64 R, .int .i64 C, .slice (some ⟨b, off, none⟩) (R * C) c1, .slice (some ⟨b', off', none⟩) (R * C) c2] 27)) w.heap.size 27 (.int .i64 R) (.int .i64 C) (.slice (some ⟨b, off, none⟩) (R * C) c1) (.slice (some ⟨b', off', none⟩) (R * C) c2)) := Lib.hid heap1
    have HV : Hid (safeRowV R C A B = ((((topN (fun x => lowN (rowF A C x) C) R).1 : Nat) : Int), (topN (fun x => lowN (rowF A C x) C) R).2, true)) := Lib.hid (by unfold safeRowV; rw [OK.out]; simp)
    go_enter Try.func55, Try.ntmps55
    go_wp2_with fail
    refine (specIs_any _ R C _ (R * C) c1 _ (R * C) c2 A B _ X1.out (HA.out.below below1) (HB.out.below below1)).mono ?_
    rintro e w1 ⟨rfl, n1, rfl⟩
    rw [OK.out]
    go_wp2_with fail
    have b1 : Below w.heap.size w ((w.alloc (.cells #[.int .i64 R, .int .i64 C, .slice (some ⟨b, off, none⟩) (R * C) c1, .slice (some ⟨b', off', none⟩) (R * C) c2] 27)).drewN n1) := below1.trans (same_below ⟨n1, rfl⟩ _)
    have B1 := Lib.hid b1
    refine (specSafe_at w.heap.size R C b off c1 _ A _ r6 q6 r1 q1 (X1.out.below (same_below ⟨n1, rfl⟩ _)) HG.out (fun i hi => (b1.cell (p := ⟨b, off + i, none⟩) hb).trans (HCA.out i hi))).mono ?_
    clear b1
    rintro e w3 ⟨rfl, h3⟩
    have B3 := Lib.hid (same_below h3 w.heap.size)
    clear h3
    go_wp2_with fail
    go_ret3
    rw [HV.out]
    exact ⟨rfl, B1.out.trans B3.out⟩
  | false =>
    have OK := Lib.hid hok
    have HV : Hid (safeRowV r c A B = (0, 0, false)) := Lib.hid (by unfold safeRowV; rw [OK.out]; simp)
    clear hok hA hB
    go_enter Try.func55, Try.ntmps55
    go_wp2_with fail
    refine (specIs_any _ r c a1 l1 c1 a2 l2 c2 A B _ heap1 (HA.out.below below1) (HB.out.below below1)).mono ?_
    rintro e w1 ⟨rfl, n1, rfl⟩
    rw [OK.out]
    go_wp2_with fail
    go_ret3
    rw [HV.out]
    exact ⟨rfl, below1.trans (same_below ⟨n1, rfl⟩ _)⟩
end Go.Proofs.Ytpopmcgieegikaa
