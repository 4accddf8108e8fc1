/-
  The logarithm of a positive float64, by the program and by the model: the same steps, so the same word, bounded by 2^9.
-/
import Derived.Test.YtoihfnhplaboiaaCore
namespace Go.Proofs.Ytoihfnhplaboiaa
open Go.RowKit Fl

/-! ### the steps, plainly -/
def fv (op : BinOp) (x y : Nat) : Nat := (floatBits op .f64 x y).getD 0
/-- 1 / k for k = 25, 23, .. -/
def kf (i : Nat) : Nat := floatOfInt .f64 (25 - 2 * (i : Int))
def kq (i : Nat) : Nat := fv .quo 4607182418800017408 (kf i)
def lq (u : Nat) : Nat → Nat
  | 0 => 0
  | i + 1 => fv .add (kq i) (fv .mul u (lq u i))

theorem kq_ok : ∀ i, i < 13 → floatBits .quo .f64 4607182418800017408 (kf i) = some (kq i) := by decide +kernel
theorem kq_le : ∀ i, i < 13 → rung Ieee.double (kq i) ≤ 1023 * 4503599627370496 := by decide +kernel
theorem kf_step : ∀ i, i < 13 → floatBits .sub .f64 (kf i) 4611686018427387904 = some (kf (i + 1)) := by decide +kernel
theorem kf_ge : ∀ i, i < 13 → (FloatKind.f64.format.order (kf i) 4607182418800017408 == some .gt || FloatKind.f64.format.order (kf i) 4607182418800017408 == some .eq) = true := by decide +kernel
theorem kf_end : (FloatKind.f64.format.order (kf 13) 4607182418800017408 == some .gt || FloatKind.f64.format.order (kf 13) 4607182418800017408 == some .eq) = false := by decide +kernel
theorem up_one : ∀ j : Nat, j < 200 → floatBits .add .f64 (floatOfInt .f64 (j : Int)) 4607182418800017408 = some (floatOfInt .f64 ((j : Int) + 1)) := by decide +kernel
theorem down_one : ∀ j : Nat, j < 200 → floatBits .sub .f64 (floatOfInt .f64 (-(j : Int))) 4607182418800017408 = some (floatOfInt .f64 (-(j : Int) - 1)) := by decide +kernel
theorem e_le_up : ∀ j : Nat, j < 200 → rung Ieee.double (floatOfInt .f64 (j : Int)) ≤ 1031 * 4503599627370496 := by decide +kernel
theorem e_le_down : ∀ j : Nat, j < 200 → rung Ieee.double (floatOfInt .f64 (-(j : Int))) ≤ 1031 * 4503599627370496 := by decide +kernel

theorem lq_ok {u : Nat} (hu : Le 1021 u) : ∀ i, i ≤ 13 → Le 1024 (lq u i) ∧ (i < 13 → floatBits .mul .f64 u (lq u i) = some (fv .mul u (lq u i)) ∧ floatBits .add .f64 (kq i) (fv .mul u (lq u i)) = some (lq u (i + 1))) := by
  have step : ∀ i, i < 13 → Le 1024 (lq u i) → floatBits .mul .f64 u (lq u i) = some (fv .mul u (lq u i)) ∧ floatBits .add .f64 (kq i) (fv .mul u (lq u i)) = some (lq u (i + 1)) ∧ Le 1024 (lq u (i + 1)) := by
    intro i hi hq
    obtain ⟨r, h1, h2, _⟩ := mul_le (g := 1022) hu hq (by omega) (by omega) (by omega) (by omega) (by omega) (by omega) (by omega)
    have e1 : fv .mul u (lq u i) = r := by unfold fv; rw [h1]; rfl
    obtain ⟨r', h3, h4⟩ := add_le (g := 1024) (show Le 1023 (kq i) from kq_le i hi) h2 (by omega) (by omega) (by omega) (by omega) (by omega)
    have e2 : lq u (i + 1) = r' := by show fv .add (kq i) (fv .mul u (lq u i)) = r'; rw [e1]; unfold fv; rw [h3]; rfl
    rw [e1, e2]
    exact ⟨h1, h3, h4⟩
  intro i
  induction i with
  | zero =>
    intro _
    have h0 : Le 1024 (lq u 0) := by show rung Ieee.double 0 ≤ _; decide
    exact ⟨h0, fun h => ⟨(step 0 h h0).1, (step 0 h h0).2.1⟩⟩
  | succ i ih =>
    intro hi
    have h1 := (step i (by omega) (ih (by omega)).1).2.2
    exact ⟨h1, fun h => ⟨(step (i + 1) h h1).1, (step (i + 1) h h1).2.1⟩⟩

/-- all values on the way, for a word z from 0.75 on and below 1.5, and an exponent e -/
structure LogAt (z : Nat) (e : Int) (a b s u p1 p2 ec r : Nat) : Prop where
  ha : floatBits .sub .f64 z 4607182418800017408 = some a
  hb : floatBits .add .f64 z 4607182418800017408 = some b
  hs : floatBits .quo .f64 a b = some s
  hu : floatBits .mul .f64 s s = some u
  hq : ∀ i, i < 13 → floatBits .mul .f64 u (lq u i) = some (fv .mul u (lq u i)) ∧ floatBits .add .f64 (kq i) (fv .mul u (lq u i)) = some (lq u (i + 1))
  hp1 : floatBits .mul .f64 s (lq u 13) = some p1
  hp2 : floatBits .mul .f64 4611686018427387904 p1 = some p2
  hec : floatBits .mul .f64 (floatOfInt .f64 e) 4604418534313441775 = some ec
  hr : floatBits .add .f64 p2 ec = some r
  hle : Le 1032 r

theorem signed_zero_false (M : Nat) : Ieee.signed false M 0 = (M : Int) := by simp [Ieee.signed]
theorem signed_zero_true (M : Nat) : Ieee.signed (!false) M 0 = -(M : Int) := by simp [Ieee.signed]
theorem sig_pow (b c : Nat) (h : 52 + b ≤ c) : 4503599627370496 * 2 ^ b ≤ 2 ^ c := by
  have hk : (4503599627370496 : Nat) = 2 ^ 52 := by decide
  rw [hk, ← Nat.pow_add]
  exact Nat.pow_le_pow_right (by omega) h
theorem near_one {z : Nat} (h1 : 4604930618986332160 ≤ z) (h2 : z < 4609434218613702656) : ∃ a, floatBits .sub .f64 z 4607182418800017408 = some a ∧ Le 1022 a := by
  have hz := (key_pos (x := z) (by omega)).2
  obtain ⟨E, hE⟩ : ∃ E, E = 1024 := ⟨_, rfl⟩
  obtain ⟨m, a, r1, v1, w1⟩ := (show Le E z by unfold Le; rw [hz, hE]; omega).read (by omega) (by omega)
  have r2 : Ieee.double.read 4607182418800017408 = .number false 4503599627370496 (-1074 + (1022 : Nat)) := by decide
  have v2 : 4503599627370496 * 2 ^ 1022 ≤ 2 ^ (E + 51) := sig_pow 1022 (E + 51) (by omega)
  obtain ⟨d, hd, _, hv⟩ := sum_le (s := sgn Ieee.double z) (t := !false) v1 v2
  refine ⟨_, by show Ieee.double.sub z _ = some _; unfold Ieee.Format.sub; rw [r1, r2]; simp only [Ieee.Datum.opposite, hd]; rfl, ?_⟩
  have hs : sgn Ieee.double z = false := by unfold sgn; rw [sw64, Nat.div_eq_of_lt (by omega)]; rfl
  rw [hs] at hv
  have lo : 3 * 2 ^ 1072 ≤ m * 2 ^ a := by
    rw [w1, hz]
    have : mg 4503599627370496 4604930618986332160 = 3 * 2 ^ 1072 := by decide +kernel
    rw [← this]
    rcases Nat.lt_or_eq_of_le h1 with h | h
    · exact Nat.le_of_lt (mg_mono (by omega) h)
    · rw [h]; exact Nat.le_refl _
  have hi : m * 2 ^ a < 3 * 2 ^ 1073 := by
    rw [w1, hz]
    have : mg 4503599627370496 4609434218613702656 = 3 * 2 ^ 1073 := by decide +kernel
    rw [← this]
    exact mg_mono (by omega) h2
  have hone : 4503599627370496 * 2 ^ 1022 = 2 ^ 1074 := by decide +kernel
  rw [hone] at hv
  refine (nearest_le _ _ _ 1022 (by omega) (by omega) fun h0 => ?_).1
  have hle : d.natAbs * 2 ^ min a 1022 ≤ 2 ^ 1073 := by
    have e1 : (d * 2 ^ min a 1022).natAbs = d.natAbs * 2 ^ min a 1022 := by rw [Int.natAbs_mul]; congr 1
    rw [← e1, hv]
    have p1 : (2 : Nat) ^ 1074 = 4 * 2 ^ 1072 := by decide +kernel
    have p2 : (2 : Nat) ^ 1073 = 2 * 2 ^ 1072 := by decide +kernel
    rw [p1]
    rw [p2] at hi ⊢
    generalize (2 : Nat) ^ 1072 = U at *
    generalize m * 2 ^ a = M at *
    simp only [signed_zero_false, signed_zero_true]
    omega
  rcases log2_cases h0 hle with h | ⟨hp, h⟩
  · left; omega
  · right; exact ⟨hp, by omega⟩

/-- e halvings or doublings, at most 190 -/
theorem log_at {z : Nat} {e : Int} (h1 : 4604930618986332160 ≤ z) (h2 : z < 4609434218613702656) (e1 : -190 ≤ e) (e2 : e ≤ 190) :
    ∃ a b s u p1 p2 ec r, LogAt z e a b s u p1 p2 ec r := by
  have hz := (key_pos (x := z) (by omega)).2
  have hsz : sgn Ieee.double z = false := by unfold sgn; rw [sw64, Nat.div_eq_of_lt (by omega)]; rfl
  have hlz : Le 1024 z := by unfold Le; rw [hz]; omega
  have hgz : Ge 1022 z := by unfold Ge; rw [hz]; omega
  obtain ⟨a, ha, la⟩ := near_one h1 h2
  have l1 : Le 1023 4607182418800017408 := by unfold Le; decide
  have s1 : sgn Ieee.double 4607182418800017408 = false := by decide
  obtain ⟨b, hb, lb, gb, _⟩ := add_ge2 (g := 1025) hlz l1 (show Ge 1023 4607182418800017408 by unfold Ge; decide) hsz s1 (by omega) (by omega) (by omega) (by omega) (by omega) (by omega) (by omega)
  obtain ⟨s, hs, ls, _⟩ := div_le (g := 1022) la lb gb (by omega) (by omega) (by omega) (by omega) (by omega) (by omega) (by omega) (by omega)
  obtain ⟨u, hu, lu, _⟩ := mul_le (g := 1021) ls ls (by omega) (by omega) (by omega) (by omega) (by omega) (by omega) (by omega)
  have hq := lq_ok lu
  obtain ⟨p1, hp1, lp1, _⟩ := mul_le (g := 1023) ls (hq 13 (by omega)).1 (by omega) (by omega) (by omega) (by omega) (by omega) (by omega) (by omega)
  obtain ⟨p2, hp2, lp2, _⟩ := mul_le (g := 1024) (show Le 1024 4611686018427387904 by unfold Le; decide) lp1 (by omega) (by omega) (by omega) (by omega) (by omega) (by omega) (by omega)
  have le : Le 1031 (floatOfInt .f64 e) := by
    rcases Int.le_total 0 e with h | h
    · obtain ⟨n, rfl⟩ := Int.eq_ofNat_of_zero_le h
      exact e_le_up n (by omega)
    · obtain ⟨n, hn⟩ := Int.eq_ofNat_of_zero_le (show 0 ≤ -e by omega)
      obtain rfl : e = -(n : Int) := by omega
      exact e_le_down n (by omega)
  obtain ⟨ec, hec, lec, _⟩ := mul_le (g := 1031) le (show Le 1023 4604418534313441775 by unfold Le; decide) (by omega) (by omega) (by omega) (by omega) (by omega) (by omega) (by omega)
  obtain ⟨r, hr, lr⟩ := add_le (g := 1032) lp2 lec (by omega) (by omega) (by omega) (by omega) (by omega)
  exact ⟨a, b, s, u, p1, p2, ec, r, ha, hb, hs, hu, fun i hi => (hq i (by omega)).2 hi, hp1, hp2, hec, hr, lr⟩
end Go.Proofs.Ytoihfnhplaboiaa
