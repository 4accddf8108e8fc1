/-
  BestRows: the program's and the reference's answers.
-/
import Derived.Test.YtnmehenkbinfmaaGBestA
import Derived.Test.YtnmehenkbinfmaaOut
namespace Go.Proofs.Ytnmehenkbinfmaa
open Go.RowKit Go.ChangeShapes Go.WideShapes
set_option linter.unusedVariables false

def okIndex (i n : Int) : Bool := decide (0 ≤ i) && decide (i < n)
theorem isIndex_any (i n : Int) (w : World) :
    Calls Try.prog 82 #[.int .i64 i, .int .i64 n] w fun e w' => e = .returned (.bool (okIndex i n)) ∧ w = w' := by
  unfold okIndex
  by_cases h : 0 ≤ i
  · have e : (decide (0 ≤ i) && decide (i < n)) = decide (i < n) := by rw [decide_eq_true h]; rfl
    rw [e]
    clear e
    go_enter Try.func82, Try.ntmps82
    go_wp2
    go_ret
    exact ⟨rfl, rfl⟩
  · have e : (decide (0 ≤ i) && decide (i < n)) = false := by rw [decide_eq_false h]; rfl
    rw [e]
    clear e
    go_enter Try.func82, Try.ntmps82
    go_wp2
    go_ret
    exact ⟨rfl, rfl⟩

def bestRowsV (r c : Int) (A B : List Int) (k : Int) : List Int × Bool :=
  if okGame r c A B = true then (if okIndex k c = true then (ints (bestL (colAt A c.toNat k.toNat) r.toNat), true) else ([], false)) else ([], false)

theorem game_at {R C : Nat} {A : List Int} {w : World} {a : Option Addr} {len : Nat} (hA : IAt w a len A) (hl : A.length = R * C) (h1 : 1 ≤ R) (h2 : 1 ≤ C) :
    ∃ b off, a = some ⟨b, off, none⟩ ∧ len = R * C ∧ b < w.heap.size ∧ ∀ i, i < R * C → w.cell? ⟨b, off + i, none⟩ = some (.int .i64 (A.getD i 0)) := by
  obtain ⟨g1, g2, g3, h0 | ⟨b, off, rfl, hb, hc⟩⟩ := hA
  · have := Nat.mul_pos h1 h2
    omega
  · have e : len = R * C := by omega
    exact ⟨b, off, rfl, e, hb, fun i hi => hc i (by omega)⟩

set_option maxRecDepth 20000 in
theorem implBestRows_any (r c k : Int) (hbk : Big k) (a1 : Option Addr) (l1 c1 : Nat) (a2 : Option Addr) (l2 c2 : Nat) (A B : List Int) (w : World) (hA : IAt w a1 l1 A) (hB : IAt w a2 l2 B) :
    Calls Try.prog 50 #[gameV r c a1 l1 c1 a2 l2 c2, .int .i64 k] w (PairOut w (bestRowsV r c A B k)) := by
  have HA := Lib.hid hA
  have HB := Lib.hid hB
  cases hok : okGame r c A B with
  | true =>
    obtain ⟨R, C, rfl, rfl, r1, r6, q1, q6, hlA, hlB, _, _⟩ := okGame_true hok
    obtain ⟨b, off, rfl, rfl, hb, hc⟩ := game_at hA hlA r1 q1
    obtain ⟨b', off', rfl, rfl, hb', hc'⟩ := game_at hB hlB r1 q1
    have HCA := Lib.hid hc
    have HCB := Lib.hid hc'
    have hRC : R * C ≤ 36 := Nat.mul_le_mul r6 q6
    have HLA := Lib.hid hlA
    have OK := Lib.hid hok
    clear hA hB hc hc' hlA hlB hok
    cases hix : okIndex k C with
    | true =>
      have IX := Lib.hid hix
      obtain ⟨K, rfl, hKC⟩ : ∃ K : Nat, k = K ∧ K < C := by
        simp only [okIndex, Bool.and_eq_true, decide_eq_true_eq] at hix
        exact ⟨k.toNat, by omega, by omega⟩
      have HV : Hid (bestRowsV R C A B K = (ints (bestL (colAt A C K) R), true)) := Lib.hid (by unfold bestRowsV; rw [OK.out, IX.out]; simp)
      clear hix
      go_enter Try.func50, Try.ntmps50
      go_wp2_with fail
      refine (implValid_any R C _ (R * C) c1 _ (R * C) c2 A B _ (HA.out.below below1) (HB.out.below below1)).mono ?_
      rintro e w1 ⟨rfl, b1⟩
      rw [OK.out]
      have x1 : Box4 w1 w.heap.size 27 (.int .i64 R) (.int .i64 C) (.slice (some ⟨b, off, none⟩) (R * C) c1) (.slice (some ⟨b', off', none⟩) (R * C) c2) := Box4.below heap1 b1
      have B1 := Lib.hid (below_after below1 (Nat.le_refl _) b1)
      obtain ⟨⟨p0, p1, p2, p3⟩, _⟩ := x1.all
      clear b1 x1
      go_wp2_with (go_at_call 82; refine (isIndex_any _ _ _).mono ?_; rintro e w' ⟨rfl, rfl⟩; rw [IX.out])
      refine (firstSide_any R C _ (R * C) c1 _ (R * C) c2 w1).mono ?_
      clear p0 p1 p2 p3
      rintro e w2 ⟨n, rfl, hbx, b2⟩
      have HBX := Lib.hid hbx
      have hn := hbx.lt
      have B2 := Lib.hid (below_after B1.out (Nat.le_refl _) b2)
      clear b2 hbx
      go_wp2_with fail
      refine (bestFirst_any (colAt A C K) R C K n w2 r1 r6 hn ?_).mono ?_
      · intro x w' hx hw
        exact firstSide_gain n R C x K b off c1 b' off' c2 A B w' hx hKC hRC (HBX.out.below hw) fun i hi => ((B2.out.trans (hw.mono B2.out.size)).cell (p := ⟨b, off + i, none⟩) hb).trans (HCA.out i hi)
      rintro e w3 ⟨a, len, cap, rfl, ho, b3⟩
      have HO := Lib.hid ho
      have B3 := Lib.hid b3
      clear ho b3
      go_wp2_with fail
      go_ret2
      rw [HV.out]
      exact ⟨a, len, cap, rfl, HO.out.wide (Nat.le_trans B2.out.size (Nat.le_refl _)) (Nat.le_refl _) (Nat.le_refl _), below_after B2.out (Nat.le_refl _) B3.out⟩
    | false =>
      have IX := Lib.hid hix
      have HV : Hid (bestRowsV R C A B k = ([], false)) := Lib.hid (by unfold bestRowsV; rw [OK.out, IX.out]; simp)
      clear hix
      go_enter Try.func50, Try.ntmps50
      go_wp2_with fail
      refine (implValid_any R C _ (R * C) c1 _ (R * C) c2 A B _ (HA.out.below below1) (HB.out.below below1)).mono ?_
      rintro e w1 ⟨rfl, b1⟩
      rw [OK.out]
      have x1 : Box4 w1 w.heap.size 27 (.int .i64 R) (.int .i64 C) (.slice (some ⟨b, off, none⟩) (R * C) c1) (.slice (some ⟨b', off', none⟩) (R * C) c2) := Box4.below heap1 b1
      have B1 := Lib.hid (below_after below1 (Nat.le_refl _) b1)
      obtain ⟨⟨p0, p1, p2, p3⟩, _⟩ := x1.all
      clear b1 x1
      go_wp2_with (go_at_call 82; refine (isIndex_any _ _ _).mono ?_; rintro e w' ⟨rfl, rfl⟩; rw [IX.out])
      go_ret2
      rw [HV.out]
      exact ⟨none, 0, 0, rfl, own_nil _ (Nat.le_refl _), B1.out⟩
  | false =>
    have OK := Lib.hid hok
    have HV : Hid (bestRowsV r c A B k = ([], false)) := Lib.hid (by unfold bestRowsV; rw [OK.out]; simp)
    clear hok hA hB
    go_enter Try.func50, Try.ntmps50
    go_wp2_with fail
    refine (implValid_any r c a1 l1 c1 a2 l2 c2 A B _ (HA.out.below below1) (HB.out.below below1)).mono ?_
    rintro e w1 ⟨rfl, b1⟩
    rw [OK.out]
    have B1 := Lib.hid (below_after below1 (Nat.le_refl _) b1)
    clear b1
    go_wp2_with fail
    go_ret2
    rw [HV.out]
    exact ⟨none, 0, 0, rfl, own_nil _ (Nat.le_refl _), B1.out⟩

theorem specIndex {i : Int} {C : Nat} (h : 1 ≤ C) : (decide (0 ≤ i) && decide (i ≤ (C : Int) - 1)) = okIndex i C := by
  unfold okIndex
  congr 1
  exact decide_eq_decide.2 (by omega)

set_option maxRecDepth 20000 in
theorem specBestRows_any (r c k : Int) (hbk : Big k) (a1 : Option Addr) (l1 c1 : Nat) (a2 : Option Addr) (l2 c2 : Nat) (A B : List Int) (w : World) (hA : IAt w a1 l1 A) (hB : IAt w a2 l2 B) :
    Calls Try.prog 49 #[gameV r c a1 l1 c1 a2 l2 c2, .int .i64 k] w (PairOut w (bestRowsV r c A B k)) := by
  have HA := Lib.hid hA
  have HB := Lib.hid hB
  cases hok : okGame r c A B with
  | true =>
    obtain ⟨R, C, rfl, rfl, r1, r6, q1, q6, hlA, hlB, _, _⟩ := okGame_true hok
    obtain ⟨b, off, rfl, rfl, hb, hc⟩ := game_at hA hlA r1 q1
    obtain ⟨b', off', rfl, rfl, hb', hc'⟩ := game_at hB hlB r1 q1
    have HCA := Lib.hid hc
    have OK := Lib.hid hok
    clear hA hB hc hc' hlA hlB hok
    have X1 : Hid (Box4 (w.alloc (.cells #[.int .i64 R, .int .i64 C, .slice (some ⟨b, off, none⟩) (R * C) c1, .slice (some ⟨b', off', none⟩) (R * C) c2] 27)) w.heap.size 27 (.int .i64 R) (.int .i64 C) (.slice (some ⟨b, off, none⟩) (R * C) c1) (.slice (some ⟨b', off', none⟩) (R * C) c2)) := Lib.hid heap1
    cases hix : okIndex k C with
    | true =>
      have IX := Lib.hid hix
      obtain ⟨K, rfl, hKC⟩ : ∃ K : Nat, k = K ∧ K < C := by
        simp only [okIndex, Bool.and_eq_true, decide_eq_true_eq] at hix
        exact ⟨k.toNat, by omega, by omega⟩
      have HV : Hid (bestRowsV R C A B K = (ints (bestL (colAt A C K) R), true)) := Lib.hid (by unfold bestRowsV; rw [OK.out, IX.out]; simp)
      clear hix
      go_enter Try.func49, Try.ntmps49
      go_wp2_with fail
      refine (specIs_any _ R C _ (R * C) c1 _ (R * C) c2 A B _ X1.out (HA.out.below below1) (HB.out.below below1)).mono ?_
      rintro e w1 ⟨rfl, n1, rfl⟩
      rw [OK.out]
      go_wp2_with (go_at_call 79; refine (in_any _ _ _ _).mono ?_; rintro e w' ⟨rfl, rfl⟩; rw [specIndex q1, IX.out])
      have b1 : Below w.heap.size w ((w.alloc (.cells #[.int .i64 R, .int .i64 C, .slice (some ⟨b, off, none⟩) (R * C) c1, .slice (some ⟨b', off', none⟩) (R * C) c2] 27)).drewN n1) := below1.trans (same_below ⟨n1, rfl⟩ _)
      have B1 := Lib.hid b1
      refine (specBest_at w.heap.size R C K b off c1 _ A _ r6 q6 hKC (X1.out.below (same_below ⟨n1, rfl⟩ _)) (by simp; omega) (fun i hi => (b1.cell (p := ⟨b, off + i, none⟩) hb).trans (HCA.out i hi))).mono ?_
      clear b1
      rintro e w3 ⟨a, len, cap, rfl, ho, b3⟩
      have HO := Lib.hid ho
      have B3 := Lib.hid b3
      clear ho b3
      go_wp2_with fail
      go_ret2
      rw [HV.out]
      exact ⟨a, len, cap, rfl, HO.out.wide (by simp) (Nat.le_refl _) (Nat.le_refl _), below_after B1.out (Nat.le_refl _) B3.out⟩
    | false =>
      have IX := Lib.hid hix
      have HV : Hid (bestRowsV R C A B k = ([], false)) := Lib.hid (by unfold bestRowsV; rw [OK.out, IX.out]; simp)
      clear hix
      go_enter Try.func49, Try.ntmps49
      go_wp2_with fail
      refine (specIs_any _ R C _ (R * C) c1 _ (R * C) c2 A B _ X1.out (HA.out.below below1) (HB.out.below below1)).mono ?_
      rintro e w1 ⟨rfl, n1, rfl⟩
      rw [OK.out]
      go_wp2_with (go_at_call 79; refine (in_any _ _ _ _).mono ?_; rintro e w' ⟨rfl, rfl⟩; rw [specIndex q1, IX.out])
      go_ret2
      rw [HV.out]
      exact ⟨none, 0, 0, rfl, own_nil _ (Nat.le_refl _), below1.trans (same_below ⟨n1, rfl⟩ _)⟩
  | false =>
    have OK := Lib.hid hok
    have HV : Hid (bestRowsV r c A B k = ([], false)) := Lib.hid (by unfold bestRowsV; rw [OK.out]; simp)
    clear hok hA hB
    go_enter Try.func49, Try.ntmps49
    go_wp2_with fail
    refine (specIs_any _ r c a1 l1 c1 a2 l2 c2 A B _ heap1 (HA.out.below below1) (HB.out.below below1)).mono ?_
    rintro e w1 ⟨rfl, n1, rfl⟩
    rw [OK.out]
    go_wp2_with fail
    go_ret2
    rw [HV.out]
    exact ⟨none, 0, 0, rfl, own_nil _ (Nat.le_refl _), below1.trans (same_below ⟨n1, rfl⟩ _)⟩

theorem bestRowsV_len (r c : Int) (A B : List Int) (k : Int) : (bestRowsV r c A B k).1.length ≤ 4096 := by
  unfold bestRowsV
  split
  · rename_i hok
    obtain ⟨R, C, rfl, rfl, r1, r6, _⟩ := okGame_true hok
    split
    · have := pickL_length (fun i => (List.range R).all fun j => decide (colAt A (C : Int).toNat k.toNat j ≤ colAt A (C : Int).toNat k.toNat i)) R
      simp only [ints_length, bestL, Int.toNat_natCast] at *
      omega
    · simp
  · simp
end Go.Proofs.Ytnmehenkbinfmaa
