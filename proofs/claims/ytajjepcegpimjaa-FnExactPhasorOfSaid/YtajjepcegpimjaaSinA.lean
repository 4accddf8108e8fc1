/-
  The sine's steps, plainly: what is left of some turns, and all values on the way; all are bounded.
-/
import Derived.Test.YtajjepcegpimjaaExact
namespace Go.Proofs.Ytajjepcegpimjaa
open Go.RowKit Fl

def gv (op : BinOp) (x y : Nat) : Nat := (floatBits op .f64 x y).getD 0
/-- 2 k (2 k + 1) for k = 8, 7, .. -/
def kd (i : Nat) : Nat := floatOfInt .f64 (2 * (8 - (i : Int)) * (2 * (8 - (i : Int)) + 1))
def fk (i : Nat) : Nat := floatOfInt .f64 (8 - (i : Int))
def fa (i : Nat) : Nat := floatOfInt .f64 (2 * (8 - (i : Int)))
def fb (i : Nat) : Nat := floatOfInt .f64 (2 * (8 - (i : Int)) + 1)
def ks (i : Nat) : Int := 8 - (i : Int)
def pq (u : Nat) : Nat → Nat
  | 0 => 4607182418800017408
  | i + 1 => gv .sub 4607182418800017408 (gv .quo (gv .mul u (pq u i)) (kd i))

theorem kd_le : ∀ i, i < 8 → rung Ieee.double (kd i) ≤ 2000 * 4503599627370496 ∧ 1025 * 4503599627370496 ≤ rung Ieee.double (kd i) := by decide +kernel
theorem fa_ok : ∀ i, i < 8 → floatBits .mul .f64 4611686018427387904 (fk i) = some (fa i) := by decide +kernel
theorem fb_ok : ∀ i, i < 8 → floatBits .add .f64 (fa i) 4607182418800017408 = some (fb i) := by decide +kernel
theorem fd_ok : ∀ i, i < 8 → floatBits .mul .f64 (fa i) (fb i) = some (kd i) := by decide +kernel
theorem fk_step : ∀ i, i < 8 → floatBits .sub .f64 (fk i) 4607182418800017408 = some (fk (i + 1)) := by decide +kernel
theorem fk_ge : ∀ i, i < 8 → (FloatKind.f64.format.order (fk i) 4607182418800017408 == some .gt || FloatKind.f64.format.order (fk i) 4607182418800017408 == some .eq) = true := by decide +kernel
theorem fk_end : (FloatKind.f64.format.order (fk 8) 4607182418800017408 == some .gt || FloatKind.f64.format.order (fk 8) 4607182418800017408 == some .eq) = false := by decide +kernel
theorem fk_down : ∀ i, i < 8 → fk (i + 1) < fk i := by decide +kernel

theorem pq_ok {u : Nat} (hu : Le 1033 u) : ∀ i, i ≤ 8 → Le (1023 + 9 * i) (pq u i) ∧ (i < 8 → floatBits .mul .f64 u (pq u i) = some (gv .mul u (pq u i)) ∧ floatBits .quo .f64 (gv .mul u (pq u i)) (kd i) = some (gv .quo (gv .mul u (pq u i)) (kd i)) ∧ floatBits .sub .f64 4607182418800017408 (gv .quo (gv .mul u (pq u i)) (kd i)) = some (pq u (i + 1))) := by
  have step : ∀ i, i < 8 → Le (1023 + 9 * i) (pq u i) → (floatBits .mul .f64 u (pq u i) = some (gv .mul u (pq u i)) ∧ floatBits .quo .f64 (gv .mul u (pq u i)) (kd i) = some (gv .quo (gv .mul u (pq u i)) (kd i)) ∧ floatBits .sub .f64 4607182418800017408 (gv .quo (gv .mul u (pq u i)) (kd i)) = some (pq u (i + 1))) ∧ Le (1023 + 9 * (i + 1)) (pq u (i + 1)) := by
    intro i hi hq
    have hk := kd_le i hi
    obtain ⟨r, h1, h2, _⟩ := mul_le (g := 1033 + 9 * i) hu hq (by omega) (by omega) (by omega) (by omega) (by omega) (by omega) (by omega)
    have e1 : gv .mul u (pq u i) = r := by unfold gv; rw [h1]; rfl
    obtain ⟨r', h3, h4, _⟩ := div_le (g := 1031 + 9 * i) h2 (show Le 2000 (kd i) from hk.1) (show Ge 1025 (kd i) from hk.2) (by omega) (by omega) (by omega) (by omega) (by omega) (by omega) (by omega) (by omega)
    have e2 : gv .quo r (kd i) = r' := by unfold gv; rw [h3]; rfl
    obtain ⟨r'', h5, h6⟩ := sub_le (g := 1032 + 9 * i) (show Le 1023 4607182418800017408 by unfold Le; decide) h4 (by omega) (by omega) (by omega) (by omega) (by omega)
    have e3 : pq u (i + 1) = r'' := by show gv .sub _ (gv .quo (gv .mul u (pq u i)) (kd i)) = r''; rw [e1, e2]; unfold gv; rw [h5]; rfl
    rw [e1, e2, e3]
    exact ⟨⟨h1, h3, h5⟩, h6.mono (by omega)⟩
  intro i
  induction i with
  | zero =>
    intro _
    have h0 : Le (1023 + 9 * 0) (pq u 0) := by show rung Ieee.double 4607182418800017408 ≤ _; decide
    exact ⟨h0, fun h => (step 0 h h0).1⟩
  | succ i ih =>
    intro hi
    have h1 := (step i (by omega) (ih (by omega)).1).2
    exact ⟨h1, fun h => (step (i + 1) h h1).1⟩

/-- the values on the way of the sine of a part f -/
structure SinAt (f : Nat) (below over : Bool) (f1 f2 z u zp : Nat) : Prop where
  hb : (FloatKind.f64.format.order f 4602678819172646912 == some .gt || FloatKind.f64.format.order f 4602678819172646912 == some .eq) = below
  h1 : below = true → floatBits .sub .f64 f 4602678819172646912 = some f1
  h1' : below = false → f1 = f
  ho : (FloatKind.f64.format.order f1 4598175219545276416 == some .gt) = over
  h2 : over = true → floatBits .sub .f64 4602678819172646912 f1 = some f2
  h2' : over = false → f2 = f1
  hz : floatBits .mul .f64 f2 4618760256179416344 = some z
  hu : floatBits .mul .f64 z z = some u
  hp : ∀ i, i < 8 → floatBits .mul .f64 u (pq u i) = some (gv .mul u (pq u i)) ∧ floatBits .quo .f64 (gv .mul u (pq u i)) (kd i) = some (gv .quo (gv .mul u (pq u i)) (kd i)) ∧ floatBits .sub .f64 4607182418800017408 (gv .quo (gv .mul u (pq u i)) (kd i)) = some (pq u (i + 1))
  hzp : floatBits .mul .f64 z (pq u 8) = some zp
  hle : Le 1100 zp

theorem sin_at {f : Nat} (hf : Le 1023 f) : ∃ below over f1 f2 z u zp, SinAt f below over f1 f2 z u zp := by
  have lh : Le 1023 4602678819172646912 := by unfold Le; decide
  obtain ⟨f1, l1, a1, a2⟩ : ∃ f1, Le 1024 f1 ∧ ((FloatKind.f64.format.order f 4602678819172646912 == some .gt || FloatKind.f64.format.order f 4602678819172646912 == some .eq) = true → floatBits .sub .f64 f 4602678819172646912 = some f1) ∧ ((FloatKind.f64.format.order f 4602678819172646912 == some .gt || FloatKind.f64.format.order f 4602678819172646912 == some .eq) = false → f1 = f) := by
    cases hb : (FloatKind.f64.format.order f 4602678819172646912 == some .gt || FloatKind.f64.format.order f 4602678819172646912 == some .eq)
    · exact ⟨f, hf.mono (by omega), (fun h => by cases h), fun _ => rfl⟩
    · obtain ⟨r, h1, h2⟩ := sub_le (g := 1024) hf lh (by omega) (by omega) (by omega) (by omega) (by omega)
      exact ⟨r, h2, fun _ => h1, fun h => by cases h⟩
  obtain ⟨f2, l2, b1, b2⟩ : ∃ f2, Le 1025 f2 ∧ ((FloatKind.f64.format.order f1 4598175219545276416 == some .gt) = true → floatBits .sub .f64 4602678819172646912 f1 = some f2) ∧ ((FloatKind.f64.format.order f1 4598175219545276416 == some .gt) = false → f2 = f1) := by
    cases hb : (FloatKind.f64.format.order f1 4598175219545276416 == some .gt)
    · exact ⟨f1, l1.mono (by omega), (fun h => by cases h), fun _ => rfl⟩
    · obtain ⟨r, h1, h2⟩ := sub_le (g := 1025) lh l1 (by omega) (by omega) (by omega) (by omega) (by omega)
      exact ⟨r, h2, fun _ => h1, fun h => by cases h⟩
  obtain ⟨z, hz, lz, _⟩ := mul_le (g := 1028) l2 (show Le 1026 4618760256179416344 by unfold Le; decide) (by omega) (by omega) (by omega) (by omega) (by omega) (by omega) (by omega)
  obtain ⟨u, hu, lu, _⟩ := mul_le (g := 1033) lz lz (by omega) (by omega) (by omega) (by omega) (by omega) (by omega) (by omega)
  have hq := pq_ok lu
  obtain ⟨zp, hzp, lzp, _⟩ := mul_le (g := 1100) lz (hq 8 (by omega)).1 (by omega) (by omega) (by omega) (by omega) (by omega) (by omega) (by omega)
  exact ⟨_, _, f1, f2, z, u, zp, rfl, a1, a2, rfl, b1, b2, hz, hu, fun i hi => (hq i (by omega)).2 hi, hzp, lzp⟩

/-- what is left of some turns -/
structure PartAt (y : Nat) (n : Int) (d : Nat) (neg : Bool) (f : Nat) : Prop where
  hn : floatToIntVal .f64 y .i64 = some n
  hd : floatBits .sub .f64 y (floatOfInt .f64 n) = some d
  ht : (FloatKind.f64.format.order d 0 == some .lt) = neg
  hf : neg = true → floatBits .add .f64 d 4607182418800017408 = some f
  hf' : neg = false → f = d
  hle : Le 1023 f

theorem val_one (T : Nat) (hT : T = 1074) : val64 4607182418800017408 = ((2 ^ T : Nat) : Int) ∧ mag64 4607182418800017408 = 2 ^ T := by
  have hm : mag64 4607182418800017408 = 2 ^ T := by
    unfold mag64
    obtain ⟨K, hK⟩ : ∃ K, K = 1023 := ⟨_, rfl⟩
    have hr : rung Ieee.double 4607182418800017408 = K * 4503599627370496 := by rw [hK]; decide
    rw [hr, mg_pow (by omega), show K + 51 = T by omega]
  refine ⟨?_, hm⟩
  unfold val64
  rw [hm, show sgn Ieee.double 4607182418800017408 = false by decide]; rfl

theorem part_at {y : Nat} (hy : Le 1075 y) : ∃ n d neg f, PartAt y n d neg f := by
  obtain ⟨T, hT⟩ : ∃ T, T = 1074 := ⟨_, rfl⟩
  obtain ⟨E, hE⟩ : ∃ E, E = 1075 := ⟨_, rfl⟩
  obtain ⟨n, hn, h1, h2, h3, h4⟩ := cut_val (show Le E y by rw [hE]; exact hy) hE T hT
  obtain ⟨z, c, s, k1, k2, k3, k4⟩ := sub_val hy (ofInt_le (n := n) (by omega)) (by omega) (by omega) (by omega) (by omega)
  rw [ofInt_val (by omega) T hT] at k2
  obtain ⟨G, hG⟩ : ∃ G, G = 1023 := ⟨_, rfl⟩
  have hTG : G + 51 = T := by omega
  have hz : z.natAbs * 2 ^ c ≤ 2 ^ (G + 51) := by
    rw [hTG]
    have : (z * 2 ^ c).natAbs = z.natAbs * 2 ^ c := by rw [Int.natAbs_mul, Int.natAbs_pow]; rfl
    rw [← this, k2]; omega
  have hw := written_le (s := s) hz (by omega) (by omega)
  generalize Ieee.double.nearest s z.natAbs (-1074 + (c : Int)) = d at *
  have ld : Le 1023 d := by rw [← hG]; exact hw.1
  cases hneg : (FloatKind.f64.format.order d 0 == some .lt)
  · exact ⟨n, d, false, d, hn, k1, hneg, (fun h => by cases h), fun _ => rfl, ld⟩
  · obtain ⟨z', c', s', m1, m2, _, _⟩ := add_val ld (show Le 1023 4607182418800017408 by unfold Le; decide) (by omega) (by omega) (by omega) (by omega)
    rw [lt_key .f64 (ld.num (by omega)) (pos_num (by omega)), (key_pos (x := 0) (by omega)).1] at hneg
    have hk : key .f64 d < 0 := by simpa using hneg
    have hs : sgn Ieee.double d = true := by
      unfold key at hk
      cases hh : sgn Ieee.double d
      · rw [show sgn FloatKind.f64.format d = false from hh] at hk
        simp only [Bool.false_eq_true, if_false] at hk
        omega
      · rfl
    have hm : mag64 d ≤ 2 ^ T := by
      obtain ⟨m', a', _, v1, w1⟩ := hw.1.read (by omega) (by omega)
      unfold mag64; rw [← w1, ← hTG]; exact v1
    have hv : val64 d = -(mag64 d : Int) := by unfold val64; rw [hs]; rfl
    rw [hv, (val_one T hT).1] at m2
    have hz' : z'.natAbs * 2 ^ c' ≤ 2 ^ (G + 51) := by
      rw [hTG]
      have : (z' * 2 ^ c').natAbs = z'.natAbs * 2 ^ c' := by rw [Int.natAbs_mul, Int.natAbs_pow]; rfl
      rw [← this, m2]; omega
    have hw' := written_le (s := s') hz' (by omega) (by omega)
    exact ⟨n, d, true, _, hn, k1, by rw [lt_key .f64 (ld.num (by omega)) (pos_num (by omega)), (key_pos (x := 0) (by omega)).1]; simpa using hk, fun _ => m1, (fun h => by cases h), by rw [← hG]; exact hw'.1⟩
end Go.Proofs.Ytajjepcegpimjaa
