/-
  Floats, exactly: a number of at most 53 digits is written as it is; integers; a number less what is cut off behind its point.
-/
import Derived.Test.YtajjepcegpimjaaCore
namespace Go.Proofs.Ytajjepcegpimjaa.Fl
open Ieee

/-- the value of a word's magnitude, in units of 2^-1074 -/
def mag64 (x : Nat) : Nat := mg 4503599627370496 (rung Ieee.double x)

theorem mg_at (q M : Nat) (h1 : 4503599627370496 ≤ M) (h2 : M < 9007199254740992) : mg 4503599627370496 (q * 4503599627370496 + M) = M * 2 ^ q := by
  unfold mg
  have e1 : (q * 4503599627370496 + M) / 4503599627370496 = q + 1 := by omega
  have e2 : (q * 4503599627370496 + M) % 4503599627370496 = M - 4503599627370496 := by omega
  rw [if_neg (by omega), e1, e2, Nat.add_sub_cancel, show 4503599627370496 + (M - 4503599627370496) = M by omega]

theorem mg_small (M : Nat) (h2 : M < 9007199254740992) : mg 4503599627370496 M = M := by
  by_cases h : M < 4503599627370496
  · unfold mg; rw [if_pos h]
  · have := mg_at 0 M (by omega) h2
    rw [Nat.zero_mul, Nat.zero_add, Nat.pow_zero, Nat.mul_one] at this
    exact this

theorem top_bound {l a M : Nat} (h1 : l < 53) (h2 : a ≤ 1974) (h3 : M < 9007199254740992) : (l + a - 52) * 4503599627370496 + M ≤ 9218868437227405312 := by omega

/-- a magnitude of at most 53 digits is kept -/
theorem nearest_val (neg : Bool) (m a : Nat) (hm : m < 9007199254740992) (ha : a ≤ 1974) :
    mag64 (Ieee.double.nearest neg m (-1074 + (a : Int))) = m * 2 ^ a ∧ sgn Ieee.double (Ieee.double.nearest neg m (-1074 + (a : Int))) = neg := by
  unfold Format.nearest mag64
  by_cases h0 : m = 0
  · rw [if_pos h0, h0]
    have := word64_rung neg (r := 0) (by omega)
    rw [this.1]
    exact ⟨by rw [Nat.zero_mul]; exact mg_zero (by omega), this.2⟩
  · rw [if_neg h0]
    simp only [fb64, lp64, bin64, inf64]
    have h5 : m < 2 ^ (m.log2 + 1) := Nat.lt_log2_self
    have h6 : 2 ^ m.log2 ≤ m := Nat.log2_self_le h0
    have hl : m.log2 < 53 := (Nat.log2_lt h0).2 (by rw [show (2 : Nat) ^ 53 = 9007199254740992 by decide]; exact hm)
    by_cases hc : 52 ≤ m.log2 + a
    · have e1 : max (-1074 + (a : Int) + (m.log2 : Int) - ((52 : Nat) : Int)) (-1074) = -1074 + ((m.log2 + a - 52 : Nat) : Int) := by omega
      rw [e1]
      have e2 : (-1074 + (a : Int) - (-1074 + ((m.log2 + a - 52 : Nat) : Int))).toNat = 52 - m.log2 := by omega
      have e3 : (-1074 + ((m.log2 + a - 52 : Nat) : Int) - (-1074 + (a : Int))).toNat = 0 := by omega
      have e4 : (-1074 + ((m.log2 + a - 52 : Nat) : Int) - -1074).toNat = m.log2 + a - 52 := by omega
      have hs : 52 - m.log2 + (m.log2 + a - 52) = a := by omega
      rw [e2, e3, e4, cut_zero, Nat.shiftLeft_eq]
      have g1 : 4503599627370496 ≤ m * 2 ^ (52 - m.log2) := by
        have : 2 ^ m.log2 * 2 ^ (52 - m.log2) ≤ m * 2 ^ (52 - m.log2) := Nat.mul_le_mul_right _ h6
        rw [← Nat.pow_add, show m.log2 + (52 - m.log2) = 52 by omega, show (2 : Nat) ^ 52 = 4503599627370496 by decide] at this
        exact this
      have g2 : m * 2 ^ (52 - m.log2) < 9007199254740992 := by
        have : m * 2 ^ (52 - m.log2) < 2 ^ (m.log2 + 1) * 2 ^ (52 - m.log2) := Nat.mul_lt_mul_of_pos_right h5 (Nat.two_pow_pos _)
        rw [← Nat.pow_add, show m.log2 + 1 + (52 - m.log2) = 53 by omega, show (2 : Nat) ^ 53 = 9007199254740992 by decide] at this
        exact this
      generalize hM : m * 2 ^ (52 - m.log2) = M at *
      have hb1 : (m.log2 + a - 52) * 4503599627370496 + M ≤ 9218868437227405312 := top_bound hl ha g2
      have hmin : min ((m.log2 + a - 52) * 4503599627370496 + M) 9218868437227405312 = (m.log2 + a - 52) * 4503599627370496 + M := Nat.min_eq_left hb1
      rw [hmin]
      have := word64_rung neg (r := (m.log2 + a - 52) * 4503599627370496 + M) (Nat.lt_of_le_of_lt hb1 (by decide))
      refine ⟨?_, this.2⟩
      rw [this.1, mg_at _ _ g1 g2, ← hM, Nat.mul_assoc, ← Nat.pow_add, hs]
    · have e1 : max (-1074 + (a : Int) + (m.log2 : Int) - ((52 : Nat) : Int)) (-1074) = -1074 := by omega
      rw [e1]
      have e2 : (-1074 + (a : Int) - -1074).toNat = a := by omega
      have e3 : (-1074 - (-1074 + (a : Int))).toNat = 0 := by omega
      rw [e2, e3, cut_zero, Nat.shiftLeft_eq]
      have g2 : m * 2 ^ a < 4503599627370496 := by
        have : m * 2 ^ a < 2 ^ (m.log2 + 1) * 2 ^ a := Nat.mul_lt_mul_of_pos_right h5 (Nat.two_pow_pos _)
        rw [← Nat.pow_add] at this
        have h3 : 2 ^ (m.log2 + 1 + a) ≤ 2 ^ 52 := Nat.pow_le_pow_right (by omega) (by omega)
        rw [show (2 : Nat) ^ 52 = 4503599627370496 by decide] at h3
        omega
      generalize m * 2 ^ a = M at *
      rw [show (-1074 - -1074 : Int).toNat = 0 by decide, Nat.zero_mul, Nat.zero_add, Nat.min_eq_left (by omega)]
      have := word64_rung neg (r := M) (by omega)
      rw [this.1]
      exact ⟨mg_small _ (by omega), this.2⟩

/-- a signed value, in units of 2^-1074 -/
def val64 (x : Nat) : Int := if sgn Ieee.double x then -(mag64 x : Int) else mag64 x

theorem val_read {e x : Nat} (hx : Le e x) (_e1 : 1 ≤ e) (e2 : e ≤ 2046) : ∃ m a : Nat, Ieee.double.read x = .number (sgn Ieee.double x) m (-1074 + (a : Int)) ∧ m * 2 ^ a = mag64 x ∧ m < 9007199254740992 ∧ (a = 0 ∨ 4503599627370496 ≤ m) := by
  have h := hx.fin e2
  rw [inf64] at h
  unfold rung at h
  rw [sw64] at h
  unfold mag64 rung
  rw [sw64]
  by_cases h1 : x % 9223372036854775808 < 4503599627370496
  · refine ⟨x % 9223372036854775808, 0, ?_, ?_, by omega, .inl rfl⟩
    · unfold Format.read; simp only []; rw [sw64, bin64, if_pos h1, lp64]; simp [sgn, sw64]
    · rw [mg_small _ (by omega)]; simp
  · refine ⟨4503599627370496 + x % 9223372036854775808 % 4503599627370496, x % 9223372036854775808 / 4503599627370496 - 1, ?_, ?_, by omega, .inr (by omega)⟩
    · unfold Format.read; simp only []; rw [sw64, bin64, inf64, if_neg h1, if_pos h, lp64]; simp [sgn, sw64]
    · unfold mg; rw [if_neg h1]

theorem signed_val (s : Bool) (M : Nat) : signed s M 0 = if s then -(M : Int) else M := by cases s <;> simp [signed]

/-- a sum, by its values: the exact one, before it is written -/
theorem add_val {e f x y : Nat} (hx : Le e x) (hy : Le f y) (e1 : 1 ≤ e) (f1 : 1 ≤ f) (e2 : e ≤ 2040) (f2 : f ≤ 2040) :
    ∃ (z : Int) (c : Nat) (s : Bool), floatBits .add .f64 x y = some (Ieee.double.nearest s z.natAbs (-1074 + (c : Int))) ∧ z * 2 ^ c = val64 x + val64 y ∧ (z < 0 → s = true) ∧ (0 < z → s = false) := by
  obtain ⟨m, a, r1, w1, _⟩ := val_read hx e1 (by omega)
  obtain ⟨n, b, r2, w2, _⟩ := val_read hy f1 (by omega)
  have v1 : m * 2 ^ a ≤ 2 ^ (max e f + 51) := by
    have := (hx.mono (Nat.le_max_left e f)).read (by omega) (by omega)
    obtain ⟨m', a', r1', v1', w1'⟩ := this
    rw [w1]; unfold mag64; rw [← w1']; exact v1'
  have v2 : n * 2 ^ b ≤ 2 ^ (max e f + 51) := by
    have := (hy.mono (Nat.le_max_right e f)).read (by omega) (by omega)
    obtain ⟨m', a', r1', v1', w1'⟩ := this
    rw [w2]; unfold mag64; rw [← w1']; exact v1'
  obtain ⟨z, hz, _, hv⟩ := sum_le (s := sgn Ieee.double x) (t := sgn Ieee.double y) v1 v2
  refine ⟨z, min a b, (if z = 0 then sgn Ieee.double x && sgn Ieee.double y else decide (z < 0)), ?_, ?_, ?_, ?_⟩
  · show Ieee.double.add x y = some _; unfold Format.add; rw [r1, r2, hz]; rfl
  · rw [hv, w1, w2, signed_val, signed_val]; rfl
  · intro h; rw [if_neg (by omega)]; simpa using h
  · intro h; rw [if_neg (by omega)]; simp; omega

theorem sub_val {e f x y : Nat} (hx : Le e x) (hy : Le f y) (e1 : 1 ≤ e) (f1 : 1 ≤ f) (e2 : e ≤ 2040) (f2 : f ≤ 2040) :
    ∃ (z : Int) (c : Nat) (s : Bool), floatBits .sub .f64 x y = some (Ieee.double.nearest s z.natAbs (-1074 + (c : Int))) ∧ z * 2 ^ c = val64 x - val64 y ∧ (z < 0 → s = true) ∧ (0 < z → s = false) := by
  obtain ⟨m, a, r1, w1, _⟩ := val_read hx e1 (by omega)
  obtain ⟨n, b, r2, w2, _⟩ := val_read hy f1 (by omega)
  have v1 : m * 2 ^ a ≤ 2 ^ (max e f + 51) := by
    have := (hx.mono (Nat.le_max_left e f)).read (by omega) (by omega)
    obtain ⟨m', a', r1', v1', w1'⟩ := this
    rw [w1]; unfold mag64; rw [← w1']; exact v1'
  have v2 : n * 2 ^ b ≤ 2 ^ (max e f + 51) := by
    have := (hy.mono (Nat.le_max_right e f)).read (by omega) (by omega)
    obtain ⟨m', a', r1', v1', w1'⟩ := this
    rw [w2]; unfold mag64; rw [← w1']; exact v1'
  obtain ⟨z, hz, _, hv⟩ := sum_le (s := sgn Ieee.double x) (t := !sgn Ieee.double y) v1 v2
  refine ⟨z, min a b, (if z = 0 then sgn Ieee.double x && !sgn Ieee.double y else decide (z < 0)), ?_, ?_, ?_, ?_⟩
  · show Ieee.double.sub x y = some _; unfold Format.sub; rw [r1, r2]; simp only [Datum.opposite, hz]; rfl
  · rw [hv, w1, w2, signed_val, signed_val]
    unfold val64
    cases sgn Ieee.double x <;> cases sgn Ieee.double y <;> simp <;> omega
  · intro h; rw [if_neg (by omega)]; simpa using h
  · intro h; rw [if_neg (by omega)]; simp; omega

/-- bounds of a written sum, by its exact value -/
theorem written_le {z : Int} {c e : Nat} {s : Bool} (h : z.natAbs * 2 ^ c ≤ 2 ^ (e + 51)) (h2 : 2 ≤ e) (he : e ≤ 2046) : Le e (Ieee.double.nearest s z.natAbs (-1074 + (c : Int))) ∧ sgn Ieee.double (Ieee.double.nearest s z.natAbs (-1074 + (c : Int))) = s := by
  refine nearest_le _ _ _ e h2 he fun h0 => ?_
  rcases log2_cases h0 h with h | ⟨hp, h⟩
  · left; omega
  · right; exact ⟨hp, by omega⟩

/-! ### integers, and what is left of a number behind its point -/
theorem ofInt_core {n : Int} (h : n.natAbs < 9007199254740992) (T : Nat) (hT : T ≤ 1974) : val64 (Ieee.double.nearest (decide (n < 0)) n.natAbs (-1074 + (T : Int))) = n * 2 ^ T := by
  obtain ⟨h1, h2⟩ := nearest_val (decide (n < 0)) n.natAbs T h hT
  unfold val64
  rw [h1, h2]
  by_cases hn : n < 0
  · rw [decide_eq_true hn, if_pos rfl]
    have : (n.natAbs : Int) = -n := by omega
    rw [Int.natCast_mul, this, Int.neg_mul, Int.neg_neg, Int.natCast_pow]; rfl
  · rw [decide_eq_false hn, if_neg (by simp)]
    have : (n.natAbs : Int) = n := by omega
    rw [Int.natCast_mul, this, Int.natCast_pow]; rfl

theorem ofInt_val {n : Int} (h : n.natAbs < 9007199254740992) (T : Nat) (hT : T = 1074) : val64 (floatOfInt .f64 n) = n * 2 ^ T := by
  rw [← ofInt_core h T (by omega), hT]; rfl
theorem ofInt_le {n : Int} (h : n.natAbs < 9007199254740992) : Le 1077 (floatOfInt .f64 n) := by
  show Le 1077 (Ieee.double.nearest (decide (n < 0)) n.natAbs 0)
  refine (nearest_le _ _ _ 1077 (by omega) (by omega) fun h0 => .inl ?_).1
  have h3 : n.natAbs * 2 ^ 0 ≤ 2 ^ 53 := by
    rw [Nat.pow_zero, Nat.mul_one, show (2 : Nat) ^ 53 = 9007199254740992 by decide]; omega
  have := log2_add_le h0 h3
  omega
theorem signed_abs (s : Bool) (q : Nat) : (signed s q 0).natAbs = q := by cases s <;> simp [signed]

/-- cut towards zero: the integer, and how far the number is from it -/
theorem cut_val {E x : Nat} (hx : Le E x) (hE : E = 1075) (T : Nat) (hT : T = 1074) : ∃ n : Int, floatToIntVal .f64 x .i64 = some n ∧ n.natAbs ≤ 4503599627370496 ∧ (val64 x - n * 2 ^ T).natAbs < 2 ^ T ∧ (0 ≤ val64 x → 0 ≤ val64 x - n * 2 ^ T) ∧ (val64 x ≤ 0 → val64 x - n * 2 ^ T ≤ 0) := by
  obtain ⟨m, a, r1, w1, hm, _⟩ := val_read hx (by omega) (by omega)
  have hle : mag64 x ≤ 2 ^ 52 * 2 ^ T := by
    obtain ⟨m', a', r1', v1', w1'⟩ := hx.read (by omega) (by omega)
    unfold mag64; rw [← w1', ← Nat.pow_add]
    exact Nat.le_trans v1' (Nat.pow_le_pow_right (by omega) (by omega))
  -- the magnitude's whole part
  have key : Toward.zero.cut (sgn Ieee.double x) (m <<< (-1074 + (a : Int)).toNat) (-(-1074 + (a : Int))).toNat = mag64 x / 2 ^ T := by
    unfold Toward.cut
    simp only [Bool.toNat_false, Nat.add_zero, Nat.shiftLeft_eq, Nat.one_mul]
    by_cases h : T ≤ a
    · rw [show (-(-1074 + (a : Int))).toNat = 0 by omega, Nat.zero_min, Nat.pow_zero, Nat.div_one]
      rw [show (-1074 + (a : Int)).toNat = a - T by omega, ← w1]
      have : m * 2 ^ a = m * 2 ^ (a - T) * 2 ^ T := by rw [Nat.mul_assoc, ← Nat.pow_add, show a - T + T = a by omega]
      rw [this, Nat.mul_div_cancel _ (Nat.two_pow_pos T)]
    · rw [show (-1074 + (a : Int)).toNat = 0 by omega, Nat.pow_zero, Nat.mul_one, show (-(-1074 + (a : Int))).toNat = T - a by omega, ← w1]
      have h2 : m * 2 ^ a / 2 ^ T = m / 2 ^ (T - a) := by
        have : (2 : Nat) ^ T = 2 ^ (T - a) * 2 ^ a := by rw [← Nat.pow_add, show T - a + a = T by omega]
        rw [this, Nat.mul_div_mul_right _ _ (Nat.two_pow_pos a)]
      rw [h2]
      by_cases h3 : T - a ≤ m.log2 + 2
      · rw [Nat.min_eq_left h3]
      · rw [Nat.min_eq_right (by omega)]
        have h5 : m < 2 ^ (m.log2 + 1) := Nat.lt_log2_self
        have h6 : 2 ^ (m.log2 + 1) ≤ 2 ^ (m.log2 + 2) := Nat.pow_le_pow_right (by omega) (by omega)
        have h7 : 2 ^ (m.log2 + 2) ≤ 2 ^ (T - a) := Nat.pow_le_pow_right (by omega) (by omega)
        rw [Nat.div_eq_of_lt (by omega), Nat.div_eq_of_lt (by omega)]
  have hq : mag64 x / 2 ^ T ≤ 4503599627370496 := by
    rw [show (4503599627370496 : Nat) = 2 ^ 52 by decide]
    exact Nat.div_le_of_le_mul (by rw [Nat.mul_comm]; exact hle)
  have hdm := Nat.div_add_mod (mag64 x) (2 ^ T)
  have hmod := Nat.mod_lt (mag64 x) (Nat.two_pow_pos T)
  refine ⟨signed (sgn Ieee.double x) (mag64 x / 2 ^ T) 0, ?_, ?_, ?_⟩
  · unfold floatToIntVal
    have h3 : (FloatKind.f64.decode x).toInt .zero = some (signed (sgn Ieee.double x) (mag64 x / 2 ^ T) 0) := by
      show (Ieee.double.read x).toInt .zero = _
      unfold Datum.toInt
      rw [r1]
      simp only [Datum.integral, key]
    have hb : IntKind.i64.min ≤ signed (sgn Ieee.double x) (mag64 x / 2 ^ T) 0 ∧ signed (sgn Ieee.double x) (mag64 x / 2 ^ T) 0 ≤ IntKind.i64.max := by
      rw [show IntKind.i64.min = -9223372036854775808 by decide, show IntKind.i64.max = 9223372036854775807 by decide, signed_val]
      generalize mag64 x / 2 ^ T = q at *
      clear hdm hmod key hle w1
      cases sgn Ieee.double x <;> simp <;> omega
    rw [h3]
    simp only [hb, and_self, if_true]
  · rw [signed_abs]; exact hq
  · rw [signed_val]
    unfold val64
    have hz : ∀ q : Nat, (q : Int) * (2 : Int) ^ T = ((2 ^ T * q : Nat) : Int) := fun q => by rw [Int.natCast_mul, Int.natCast_pow, Int.mul_comm]; rfl
    generalize mag64 x / 2 ^ T = q at *
    generalize mag64 x % 2 ^ T = r at *
    generalize mag64 x = X at *
    clear key hle w1 hx r1 hq hm
    have hP : (0 : Nat) < 2 ^ T := Nat.two_pow_pos T
    cases sgn Ieee.double x
    · simp only [Bool.false_eq_true, if_false]
      rw [hz q]
      generalize 2 ^ T * q = Z at *
      generalize (2 : Nat) ^ T = P at *
      clear hz
      omega
    · simp only [if_true]
      rw [Int.neg_mul, hz q]
      generalize 2 ^ T * q = Z at *
      generalize (2 : Nat) ^ T = P at *
      clear hz
      omega
end Go.Proofs.Ytajjepcegpimjaa.Fl
