/-
  What is written is not above a word that the exact value is not above; a quarter taken away makes a word less.
-/
import Derived.Test.YtajjepcegpimjaaExact
namespace Go.Proofs.Ytajjepcegpimjaa.Fl
open Ieee

theorem mg_at' (Q L : Nat) (h : (4503599627370496 ≤ L ∨ Q = 0) ∧ L < 9007199254740992) : mg 4503599627370496 (Q * 4503599627370496 + L) = L * 2 ^ Q := by
  obtain ⟨h1, h2⟩ := h
  rcases h1 with h1 | h1
  · exact mg_at Q L h1 h2
  · subst h1; rw [Nat.zero_mul, Nat.zero_add, Nat.pow_zero, Nat.mul_one]; exact mg_small L h2

/-- the nearest word is not above a word r that is not below the value -/
theorem nearest_le_word (neg : Bool) (m c r : Nat) (hr : r < 9218868437227405312) (hV : m * 2 ^ c ≤ mg 4503599627370496 r) :
    rung Ieee.double (Ieee.double.nearest neg m (-1074 + (c : Int))) ≤ r := by
  unfold Format.nearest
  by_cases h0 : m = 0
  · rw [if_pos h0, (word64_rung neg (r := 0) (by omega)).1]; omega
  · rw [if_neg h0]
    simp only [fb64, lp64, bin64, inf64]
    have h5 : m < 2 ^ (m.log2 + 1) := Nat.lt_log2_self
    have h6 : 2 ^ m.log2 ≤ m := Nat.log2_self_le h0
    -- the words' places: Q, and the digits kept: K
    obtain ⟨Q, hQ⟩ : ∃ Q : Nat, max (-1074 + (c : Int) + (m.log2 : Int) - ((52 : Nat) : Int)) (-1074) = -1074 + (Q : Int) := ⟨(max ((c : Int) + (m.log2 : Int) - 52) 0).toNat, by omega⟩
    rw [hQ]
    have e4 : (-1074 + (Q : Int) - -1074).toNat = Q := by omega
    rw [e4]
    have hQ1 : Q = m.log2 + c - 52 := by omega
    suffices hs : Q * 4503599627370496 + Toward.even.cut neg (m <<< (-1074 + (c : Int) - (-1074 + (Q : Int))).toNat) (-1074 + (Q : Int) - (-1074 + (c : Int))).toNat ≤ r by
      have hm : min (Q * 4503599627370496 + Toward.even.cut neg (m <<< (-1074 + (c : Int) - (-1074 + (Q : Int))).toNat) (-1074 + (Q : Int) - (-1074 + (c : Int))).toNat) 9218868437227405312 ≤ r := Nat.le_trans (Nat.min_le_left _ _) hs
      rw [(word64_rung neg (r := min (Q * 4503599627370496 + Toward.even.cut neg (m <<< (-1074 + (c : Int) - (-1074 + (Q : Int))).toNat) (-1074 + (Q : Int) - (-1074 + (c : Int))).toNat) 9218868437227405312) (Nat.lt_of_le_of_lt (Nat.min_le_right _ _) (by decide))).1]
      exact hm
    have le_of_mg : ∀ s, mg 4503599627370496 s ≤ mg 4503599627370496 r → s ≤ r := by
      intro s h
      rcases Nat.lt_or_ge r s with g | g
      · have := mg_mono (B := 4503599627370496) (by omega) g; omega
      · exact g
    by_cases hc : Q ≤ c
    · -- nothing is cut
      have e2 : (-1074 + (c : Int) - (-1074 + (Q : Int))).toNat = c - Q := by omega
      have e3 : (-1074 + (Q : Int) - (-1074 + (c : Int))).toNat = 0 := by omega
      rw [e2, e3, cut_zero, Nat.shiftLeft_eq]
      apply le_of_mg
      have g2 : m * 2 ^ (c - Q) < 9007199254740992 := by
        have : m * 2 ^ (c - Q) < 2 ^ (m.log2 + 1) * 2 ^ (c - Q) := Nat.mul_lt_mul_of_pos_right h5 (Nat.two_pow_pos _)
        rw [← Nat.pow_add] at this
        have h3 : 2 ^ (m.log2 + 1 + (c - Q)) ≤ 2 ^ 53 := Nat.pow_le_pow_right (by omega) (by omega)
        rw [show (2 : Nat) ^ 53 = 9007199254740992 by decide] at h3
        omega
      have g1 : 4503599627370496 ≤ m * 2 ^ (c - Q) ∨ Q = 0 := by
        rcases Nat.eq_zero_or_pos Q with h | h
        · exact .inr h
        · left
          have : 2 ^ m.log2 * 2 ^ (c - Q) ≤ m * 2 ^ (c - Q) := Nat.mul_le_mul_right _ h6
          rw [← Nat.pow_add] at this
          have h3 : 2 ^ 52 ≤ 2 ^ (m.log2 + (c - Q)) := Nat.pow_le_pow_right (by omega) (by omega)
          rw [show (2 : Nat) ^ 52 = 4503599627370496 by decide] at h3
          omega
      rw [mg_at' Q _ ⟨g1, g2⟩, Nat.mul_assoc, ← Nat.pow_add, show c - Q + Q = c by omega]
      exact hV
    · -- some digits are cut
      have e2 : (-1074 + (c : Int) - (-1074 + (Q : Int))).toNat = 0 := by omega
      have e3 : (-1074 + (Q : Int) - (-1074 + (c : Int))).toNat = Q - c := by omega
      rw [e2, e3, Nat.shiftLeft_zero]
      have hd : Q - c ≤ m.log2 := by omega
      have hl : Q - c = m.log2 - 52 := by omega
      unfold Toward.cut
      have hg : min (Q - c) (m.log2 + 2) = Q - c := by omega
      simp only [hg, Nat.shiftLeft_eq, Nat.one_mul]
      have hdm := Nat.div_add_mod m (2 ^ (Q - c))
      have hmod := Nat.mod_lt m (Nat.two_pow_pos (Q - c))
      have g2 : m / 2 ^ (Q - c) < 9007199254740992 := by
        rw [Nat.div_lt_iff_lt_mul (Nat.two_pow_pos _), show 9007199254740992 = 2 ^ 53 by decide, ← Nat.pow_add]
        refine Nat.lt_of_lt_of_le h5 (Nat.pow_le_pow_right (by omega) (by omega))
      have g1 : 4503599627370496 ≤ m / 2 ^ (Q - c) := by
        rw [Nat.le_div_iff_mul_le (Nat.two_pow_pos _), show 4503599627370496 = 2 ^ 52 by decide, ← Nat.pow_add]
        refine Nat.le_trans (Nat.pow_le_pow_right (by omega) (by omega)) h6
      have hlow : mg 4503599627370496 (Q * 4503599627370496 + m / 2 ^ (Q - c)) = m / 2 ^ (Q - c) * 2 ^ Q := mg_at Q _ g1 g2
      have hval : m / 2 ^ (Q - c) * 2 ^ Q + m % 2 ^ (Q - c) * 2 ^ c = m * 2 ^ c := by
        have : (2 : Nat) ^ Q = 2 ^ (Q - c) * 2 ^ c := by rw [← Nat.pow_add, show Q - c + c = Q by omega]
        rw [this, ← Nat.mul_assoc, ← Nat.add_mul, Nat.mul_comm (m / 2 ^ (Q - c)), hdm]
      by_cases hz : m % 2 ^ (Q - c) = 0
      · -- nothing is left over: the digits as they are
        have hp := Nat.two_pow_pos (Q - c)
        have e5 : (decide (2 ^ (Q - c) < 2 * (m % 2 ^ (Q - c))) || 2 ^ (Q - c) == 2 * (m % 2 ^ (Q - c)) && m / 2 ^ (Q - c) % 2 == 1) = false := by
          rw [hz]; simp
        rw [e5]
        apply le_of_mg
        show mg 4503599627370496 (Q * 4503599627370496 + (m / 2 ^ (Q - c) + 0)) ≤ _
        rw [Nat.add_zero, hlow]
        omega
      · have hb : (decide (2 ^ (Q - c) < 2 * (m % 2 ^ (Q - c))) || 2 ^ (Q - c) == 2 * (m % 2 ^ (Q - c)) && m / 2 ^ (Q - c) % 2 == 1).toNat ≤ 1 := Bool.toNat_le _
        have hlt : mg 4503599627370496 (Q * 4503599627370496 + m / 2 ^ (Q - c)) < mg 4503599627370496 r := by
          rw [hlow]
          have : 0 < m % 2 ^ (Q - c) * 2 ^ c := Nat.mul_pos (by omega) (Nat.two_pow_pos c)
          omega
        rw [mg_lt_iff (by omega)] at hlt
        generalize (decide (2 ^ (Q - c) < 2 * (m % 2 ^ (Q - c))) || 2 ^ (Q - c) == 2 * (m % 2 ^ (Q - c)) && m / 2 ^ (Q - c) % 2 == 1).toNat = bb at *
        clear hval hlow hdm hmod hz hV h5 h6 g1 g2
        generalize m / 2 ^ (Q - c) = LL at *
        omega

theorem mg_pred {f : Nat} (h1 : 9007199254740992 ≤ f) : mg 4503599627370496 f ≤ mg 4503599627370496 (f - 1) + 2 ^ (f / 4503599627370496 - 1) := by
  have hdm := Nat.div_add_mod f 4503599627370496
  have hm := Nat.mod_lt f (show 0 < 4503599627370496 by omega)
  by_cases ht : f % 4503599627370496 = 0
  · have e1 : (f - 1) / 4503599627370496 = f / 4503599627370496 - 1 := by omega
    have e2 : (f - 1) % 4503599627370496 = 4503599627370495 := by omega
    unfold mg
    rw [if_neg (by omega), if_neg (by omega), e1, e2, ht]
    obtain ⟨q, hq⟩ : ∃ q, f / 4503599627370496 = q + 2 := ⟨f / 4503599627370496 - 2, by omega⟩
    rw [hq, show q + 2 - 1 = q + 1 by omega, show q + 1 - 1 = q by omega, Nat.pow_succ]
    generalize 2 ^ q = P
    omega
  · have e1 : (f - 1) / 4503599627370496 = f / 4503599627370496 := by omega
    have e2 : (f - 1) % 4503599627370496 = f % 4503599627370496 - 1 := by omega
    unfold mg
    rw [if_neg (by omega), if_neg (by omega), e1, e2]
    obtain ⟨t, ht'⟩ : ∃ t, f % 4503599627370496 = t + 1 := ⟨f % 4503599627370496 - 1, by omega⟩
    rw [ht', show t + 1 - 1 = t by omega, show 4503599627370496 + (t + 1) = 4503599627370496 + t + 1 by omega, Nat.add_mul, Nat.one_mul]
    exact Nat.le_refl _

/-- a quarter taken away from a word from 0.25 to 1: a lesser word, not below 0 -/
theorem quarter {f : Nat} (h1 : 4598175219545276416 ≤ f) (h2 : f ≤ 4607182418800017408) : ∃ g, floatBits .sub .f64 f 4598175219545276416 = some g ∧ g < f := by
  have hf := (key_pos' (x := f) (by omega))
  have sf : sgn Ieee.double f = false := by unfold sgn; rw [sw64, Nat.div_eq_of_lt (by omega)]; rfl
  have lf : Le 1023 f := by unfold Le; rw [hf]; omega
  have lq : Le 1023 4598175219545276416 := by unfold Le; decide
  obtain ⟨m, a, r1, w1, _⟩ := val_read lf (by omega) (by omega)
  obtain ⟨n, b, r2, w2, _⟩ := val_read lq (by omega) (by omega)
  have sq : sgn Ieee.double 4598175219545276416 = false := by decide
  rw [sf] at r1; rw [sq] at r2
  obtain ⟨G, hG⟩ : ∃ G, G = 1023 := ⟨_, rfl⟩
  have v1 : m * 2 ^ a ≤ 2 ^ (G + 51) := by
    obtain ⟨m', a', _, v1', w1'⟩ := (show Le G f by rw [hG]; exact lf).read (by omega) (by omega)
    rw [w1]; unfold mag64; rw [← w1']; exact v1'
  have v2 : n * 2 ^ b ≤ 2 ^ (G + 51) := by
    obtain ⟨m', a', _, v1', w1'⟩ := (show Le G 4598175219545276416 by rw [hG]; exact lq).read (by omega) (by omega)
    rw [w2]; unfold mag64; rw [← w1']; exact v1'
  obtain ⟨z, hz, _, hv⟩ := sum_le (s := false) (t := !false) v1 v2
  have hmg : mag64 4598175219545276416 ≤ mag64 f := by
    unfold mag64
    rw [hf, show rung Ieee.double 4598175219545276416 = 4598175219545276416 by decide]
    rcases Nat.lt_or_eq_of_le h1 with h | h
    · exact Nat.le_of_lt (mg_mono (by omega) h)
    · rw [h]; exact Nat.le_refl _
  have hzv : z * 2 ^ min a b = ((mag64 f - mag64 4598175219545276416 : Nat) : Int) := by
    rw [hv, w1, w2]; simp [signed]; omega
  have hz0 : 0 ≤ z := by
    have : (0 : Int) ≤ z * 2 ^ min a b := by rw [hzv]; omega
    rcases Int.lt_or_le z 0 with h | h
    · have : z * 2 ^ min a b < 0 := Int.mul_neg_of_neg_of_pos h (Int.pow_pos (by omega))
      omega
    · exact h
  have hs : (if z = 0 then false && !false else decide (z < 0)) = false := by
    by_cases h : z = 0
    · rw [if_pos h]; rfl
    · rw [if_neg h]; simp; omega
  rw [hs] at hz
  have hmag : z.natAbs * 2 ^ min a b ≤ mg 4503599627370496 (f - 1) := by
    have e1 : z.natAbs * 2 ^ min a b = mag64 f - mag64 4598175219545276416 := by
      have : (z * 2 ^ min a b).natAbs = z.natAbs * 2 ^ min a b := by rw [Int.natAbs_mul, Int.natAbs_pow]; rfl
      rw [← this, hzv]; exact Int.natAbs_natCast _
    rw [e1]
    have hp := mg_pred (f := f) (by omega)
    have hq : 2 ^ (f / 4503599627370496 - 1) ≤ mag64 4598175219545276416 := by
      unfold mag64
      obtain ⟨K, hK⟩ : ∃ K, K = 1021 := ⟨_, rfl⟩
      have hr : rung Ieee.double 4598175219545276416 = K * 4503599627370496 := by rw [hK]; decide
      rw [hr, mg_pow (by omega)]
      exact Nat.pow_le_pow_right (by omega) (by omega)
    unfold mag64 at hq ⊢
    rw [hf]
    omega
  have hw := nearest_le_word false z.natAbs (min a b) (f - 1) (by omega) hmag
  have hsg := (written_le (s := false) (z := z) (c := min a b) (e := 1023) (by
    have e1 : z.natAbs * 2 ^ min a b = mag64 f - mag64 4598175219545276416 := by
      have : (z * 2 ^ min a b).natAbs = z.natAbs * 2 ^ min a b := by rw [Int.natAbs_mul, Int.natAbs_pow]; rfl
      rw [← this, hzv]; exact Int.natAbs_natCast _
    rw [e1]
    rw [w1, hG] at v1
    exact Nat.le_trans (Nat.sub_le _ _) v1) (by omega) (by omega)).2
  refine ⟨_, by show Ieee.double.sub f _ = some _; unfold Format.sub; rw [r1, r2]; simp only [Datum.opposite, hz]; rfl, ?_⟩
  show Ieee.double.nearest false z.natAbs (-1074 + ((min a b : Nat) : Int)) < f
  have hlt := Ieee.Format.nearest_lt Ieee.double false z.natAbs (-1074 + ((min a b : Nat) : Int))
  rw [show (2 : Nat) ^ Ieee.double.width = 18446744073709551616 by decide] at hlt
  generalize Ieee.double.nearest false z.natAbs (-1074 + ((min a b : Nat) : Int)) = g at *
  unfold rung at hw
  unfold sgn at hsg
  rw [sw64] at hw hsg
  have : g / 9223372036854775808 % 2 ≠ 1 := by simpa using hsg
  omega
end Go.Proofs.Ytajjepcegpimjaa.Fl
