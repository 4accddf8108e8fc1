/-
  BestColumns, on both sides.
-/
import Derived.Test.YtpopmcgieegikaaGTurnS
namespace Go.Proofs.Ytpopmcgieegikaa
open Go.RowKit Go.ChangeShapes Go.WideShapes
set_option linter.unusedVariables false

theorem pickL_congr {p q : Nat → Bool} {n : Nat} (h : ∀ i, i < n → p i = q i) : pickL p n = pickL q n :=
  List.filter_congr fun i hi => h i (by simpa using hi)
theorem bestL_congr {f g : Nat → Int} {n : Nat} (h : ∀ i, i < n → f i = g i) : bestL f n = bestL g n := by
  refine pickL_congr fun i hi => ?_
  rw [Bool.eq_iff_iff, List.all_eq_true, List.all_eq_true]
  constructor <;> intro q j hj <;> have q := q j hj <;> have hj := List.mem_range.1 hj <;> simpa [h i hi, h j hj] using q

def rowAt (B : List Int) (C K : Nat) (j : Nat) : Int := B.getD (K * C + j) 0

theorem colAt_turn {B : List Int} {R C K : Nat} (hK : K < R) : ∀ j, j < C → colAt (tab (turnF B R C) (C * R)) R K j = rowAt B C K j := by
  intro j hj
  unfold colAt rowAt
  rw [tab_getD _ (place_lt hj hK), turnF_at hK]

set_option maxRecDepth 20000 in
theorem specBestCols_at (n R C K b off c1 b' off' c2 : Nat) (A B : List Int) (w : World) (r1 : 1 ≤ R) (q1 : 1 ≤ C) (hR : R ≤ 6) (hC : C ≤ 6) (hK : K < R)
    (hx : Box4 w n 27 (.int .i64 R) (.int .i64 C) (.slice (some ⟨b, off, none⟩) (R * C) c1) (.slice (some ⟨b', off', none⟩) (R * C) c2))
    (hb : b < w.heap.size) (hb' : b' < w.heap.size) (ha : ∀ z ∈ A, Big z) (hbg : ∀ z ∈ B, Big z)
    (hc : ∀ i, i < R * C → w.cell? ⟨b, off + i, none⟩ = some (.int .i64 (A.getD i 0))) (hc' : ∀ i, i < R * C → w.cell? ⟨b', off' + i, none⟩ = some (.int .i64 (B.getD i 0))) :
    Calls Try.prog 93 #[.pointer (some ⟨n, 0, none⟩), .int .i64 K] w (IntsOut w (ints (bestL (rowAt B C K) C))) := by
  have hn := hx.lt
  have HX := Lib.hid hx
  have HC := Lib.hid hc
  have HC' := Lib.hid hc'
  have HA := Lib.hid ha
  have HB := Lib.hid hbg
  clear hx hc hc' ha hbg
  have HE : Hid (bestL (colAt (tab (turnF B R C) (C * R)) R K) C = bestL (rowAt B C K) C) := Lib.hid (bestL_congr (colAt_turn hK))
  go_enter Try.func93, Try.ntmps93
  go_wp2_with fail
  refine (specTurn_at n R C b off c1 b' off' c2 A B w r1 q1 hR hC HX.out hb hb' HA.out HB.out HC.out HC'.out).mono ?_
  rintro e w1 ⟨a1, m1, a2, m2, rfl, o1, o2, _, b1⟩
  have B1 := Lib.hid b1
  have s1 := b1.size
  obtain ⟨g1, off1, rfl, _, hg1, hcc⟩ := game_at o1.iat (tab_length _ _) q1 r1
  have HCC := Lib.hid hcc
  clear o1 o2 b1 hcc
  go_wp2_with fail
  refine (specBest_at w1.heap.size C R K g1 off1 m1 _ (tab (turnF B R C) (C * R)) _ hC hR hK heap1 (by simp; omega) (fun i hi => (below1.cell (p := ⟨g1, off1 + i, none⟩) hg1).trans (HCC.out i hi))).mono ?_
  rintro e w3 ⟨a, l, cap, rfl, ho, b3⟩
  rw [HE.out] at ho
  have HO := Lib.hid ho
  have B3 := Lib.hid b3
  clear ho b3
  go_wp2_with fail
  go_ret
  exact ⟨a, l, cap, rfl, HO.out.wide (by simp; omega) (Nat.le_refl _) (Nat.le_refl _), below_after (below_after B1.out (Nat.le_refl _) below1) (Nat.le_refl _) B3.out⟩
end Go.Proofs.Ytpopmcgieegikaa
