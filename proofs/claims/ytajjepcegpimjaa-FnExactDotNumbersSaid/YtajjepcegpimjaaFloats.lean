/-
  Floats, plainly: words of float32 and float64 compare as integers; float32 becomes float64 exactly; a drawn NaN is a NaN; bounds of magnitudes by powers of two through sums, products, quotients and roots; halves and doubles are exact; when a float64 is narrowed without overflow. No condition.
-/
import Derived.WalkKit
import Derived.WalkLawsBesides
import Derived.Deep.Draws
namespace Go.Proofs.Ytajjepcegpimjaa.Fl
open Ieee

/-! ### Magnitudes -/
/-- the magnitude of rung r, in units of the least place -/
def mg (B r : Nat) : Nat := if r < B then r else (B + r % B) * 2 ^ (r / B - 1)

theorem mg_succ {B r : Nat} (hB : 0 < B) : mg B r < mg B (r + 1) := by
  unfold mg
  by_cases h1 : r + 1 < B
  · rw [if_pos (by omega), if_pos h1]; omega
  · by_cases h2 : r < B
    · obtain rfl : B = r + 1 := by omega
      rw [if_pos h2, if_neg h1]
      simp
    · rw [if_neg h2, if_neg h1]
      have hd : 1 ≤ r / B := (Nat.le_div_iff_mul_le hB).2 (by omega)
      by_cases h3 : (r + 1) % B = 0
      · have e1 : (r + 1) / B = r / B + 1 := by rw [Nat.succ_div, if_pos (Nat.dvd_of_mod_eq_zero h3)]
        rw [h3, e1]
        obtain ⟨e, he⟩ : ∃ e, r / B = e + 1 := ⟨r / B - 1, by omega⟩
        rw [he]; simp only [Nat.add_sub_cancel, Nat.add_zero]
        have hm : r % B < B := Nat.mod_lt _ hB
        rw [Nat.pow_succ, ← Nat.mul_assoc, Nat.mul_comm B (2 ^ e), Nat.mul_assoc, Nat.mul_comm (2 ^ e)]
        exact Nat.mul_lt_mul_of_pos_right (by omega) (Nat.two_pow_pos e)
      · have e1 : (r + 1) / B = r / B := by
          rw [Nat.succ_div, if_neg]; · rfl
          intro hh; exact h3 (Nat.mod_eq_zero_of_dvd hh)
        have e2 : (r + 1) % B = r % B + 1 := by
          have a := Nat.div_add_mod r B
          have b := Nat.div_add_mod (r + 1) B
          rw [e1] at b; omega
        rw [e1, e2]
        exact Nat.mul_lt_mul_of_pos_right (by omega) (Nat.two_pow_pos _)

theorem mg_mono {B : Nat} (hB : 0 < B) {r s : Nat} (h : r < s) : mg B r < mg B s := by
  induction s with
  | zero => omega
  | succ s ih =>
    by_cases e : r = s
    · subst e; exact mg_succ hB
    · exact Nat.lt_trans (ih (by omega)) (mg_succ hB)

theorem mg_lt_iff {B : Nat} (hB : 0 < B) {r s : Nat} : mg B r < mg B s ↔ r < s := by
  constructor
  · intro h
    rcases Nat.lt_trichotomy r s with g | g | g
    · exact g
    · subst g; omega
    · have := mg_mono hB g; omega
  · exact mg_mono hB

theorem mg_eq_iff {B : Nat} (hB : 0 < B) {r s : Nat} : mg B r = mg B s ↔ r = s := by
  constructor
  · intro h
    rcases Nat.lt_trichotomy r s with g | g | g
    · have := mg_mono hB g; omega
    · exact g
    · have := mg_mono hB g; omega
  · rintro rfl; rfl

theorem mg_zero {B : Nat} (hB : 0 < B) : mg B 0 = 0 := by simp [mg, hB]
theorem mg_pos {B : Nat} (hB : 0 < B) {r : Nat} (h : 0 < r) : 0 < mg B r := by
  have := mg_mono hB h; omega

/-! ### Reading -/

def sgn (f : Format) (w : Nat) : Bool := w / f.signWeight % 2 == 1
def rung (f : Format) (w : Nat) : Nat := w % f.signWeight

theorem binade_pos (f : Format) : 0 < f.binade := Nat.two_pow_pos _

theorem read_fin (f : Format) {w : Nat} (h : rung f w < f.infRung) :
    ∃ (m a : Nat), f.read w = .number (sgn f w) m (f.leastPlace + a) ∧ m * 2 ^ a = mg f.binade (rung f w) := by
  unfold rung at h
  by_cases h1 : w % f.signWeight < f.binade
  · refine ⟨w % f.signWeight, 0, ?_, ?_⟩
    · unfold Format.read; simp only []; rw [if_pos h1]; simp [sgn]
    · simp [mg, rung, h1]
  · refine ⟨f.binade + w % f.signWeight % f.binade, w % f.signWeight / f.binade - 1, ?_, ?_⟩
    · unfold Format.read; simp only []; rw [if_neg h1, if_pos h]; simp [sgn]
    · simp [mg, rung, h1]

theorem inf_ge (k : FloatKind) : k.format.binade ≤ k.format.infRung := by cases k <;> decide

theorem read_inf (k : FloatKind) {w : Nat} (h : rung k.format w = k.format.infRung) : k.format.read w = .infinity (sgn k.format w) := by
  have := inf_ge k
  unfold rung at h
  unfold Format.read; simp only []; rw [if_neg (by omega), if_neg (by omega), if_pos h]; simp [sgn]

theorem read_nan (k : FloatKind) {w : Nat} (h : k.format.infRung < rung k.format w) : k.format.read w = .nan (sgn k.format w) (rung k.format w - k.format.infRung) := by
  have := inf_ge k
  unfold rung at h
  unfold Format.read; simp only []; rw [if_neg (by omega), if_neg (by omega), if_neg (by omega)]; simp [sgn, rung]

/-! ### Order: by integer keys -/
/-- a word that is no NaN, as an integer that goes with the order -/
def key (k : FloatKind) (w : Nat) : Int := if sgn k.format w then -(rung k.format w : Int) else rung k.format w
/-- no NaN -/
def Num (k : FloatKind) (w : Nat) : Prop := rung k.format w ≤ k.format.infRung

theorem cmp_int {a b c d : Int} (h1 : a < b ↔ c < d) (h2 : a = b ↔ c = d) : compare a b = compare c d := by
  rcases Int.lt_trichotomy a b with h | h | h
  · rw [Int.compare_eq_lt.2 h, Int.compare_eq_lt.2 (h1.1 h)]
  · rw [Int.compare_eq_eq.2 h, Int.compare_eq_eq.2 (h2.1 h)]
  · rw [Int.compare_eq_gt.2 h, Int.compare_eq_gt.2 (by omega)]

theorem shl_cancel {m n a b c d : Nat} (h : m * 2 ^ a = c) (h' : n * 2 ^ b = d) :
    ((m <<< (a - min a b) < n <<< (b - min a b)) ↔ c < d) ∧ ((m <<< (a - min a b) = n <<< (b - min a b)) ↔ c = d) := by
  have hp : 0 < 2 ^ min a b := Nat.two_pow_pos _
  have e1 : m <<< (a - min a b) * 2 ^ min a b = c := by
    rw [Nat.shiftLeft_eq, Nat.mul_assoc, ← Nat.pow_add, Nat.sub_add_cancel (Nat.min_le_left _ _), h]
  have e2 : n <<< (b - min a b) * 2 ^ min a b = d := by
    rw [Nat.shiftLeft_eq, Nat.mul_assoc, ← Nat.pow_add, Nat.sub_add_cancel (Nat.min_le_right _ _), h']
  rw [← e1, ← e2]
  exact ⟨(Nat.mul_lt_mul_right hp).symm, (Nat.mul_left_inj (by omega)).symm⟩

theorem key_eq (k : FloatKind) (w : Nat) : key k w = if sgn k.format w then -(rung k.format w : Int) else rung k.format w := rfl

theorem mul_pow_zero (m a b : Nat) : m * 2 ^ a = 0 ↔ m * 2 ^ b = 0 := by
  constructor <;> intro h <;> rcases Nat.mul_eq_zero.1 h with h | h
  · simp [h]
  · have := Nat.two_pow_pos a; omega
  · simp [h]
  · have := Nat.two_pow_pos b; omega

theorem order_fin (k : FloatKind) {x y : Nat} (hx : rung k.format x < k.format.infRung) (hy : rung k.format y < k.format.infRung) :
    k.format.order x y = some (compare (key k x) (key k y)) := by
  have hB := binade_pos k.format
  obtain ⟨m, a, e1, f1⟩ := read_fin k.format hx
  obtain ⟨n, b, e2, f2⟩ := read_fin k.format hy
  unfold Format.order
  rw [e1, e2]
  have g1 : (k.format.leastPlace + (a : Int) - min (k.format.leastPlace + (a : Int)) (k.format.leastPlace + (b : Int))).toNat = a - min a b := by omega
  have g2 : (k.format.leastPlace + (b : Int) - min (k.format.leastPlace + (a : Int)) (k.format.leastPlace + (b : Int))).toNat = b - min a b := by omega
  simp only [Datum.order, g1, g2]
  congr 1
  obtain ⟨c1, c2⟩ := shl_cancel f1 f2
  rw [mg_lt_iff hB] at c1
  rw [mg_eq_iff hB] at c2
  have z1 : m <<< (a - min a b) = 0 ↔ rung k.format x = 0 := by
    have : mg k.format.binade (rung k.format x) = 0 ↔ rung k.format x = 0 := by
      rw [← mg_zero hB, mg_eq_iff hB, mg_zero hB]
    rw [← this, ← f1, Nat.shiftLeft_eq]
    exact mul_pow_zero m _ _
  have z2 : n <<< (b - min a b) = 0 ↔ rung k.format y = 0 := by
    have : mg k.format.binade (rung k.format y) = 0 ↔ rung k.format y = 0 := by
      rw [← mg_zero hB, mg_eq_iff hB, mg_zero hB]
    rw [← this, ← f2, Nat.shiftLeft_eq]
    exact mul_pow_zero n _ _
  simp only [key_eq, signed]
  clear f1 f2 e1 e2 g1 g2
  generalize m <<< (a - min a b) = M at *
  generalize n <<< (b - min a b) = N at *
  apply cmp_int <;> cases sgn k.format x <;> cases sgn k.format y <;> simp only [if_true, if_false, Bool.false_eq_true] <;> omega

theorem order_num (k : FloatKind) {x y : Nat} (hx : Num k x) (hy : Num k y) :
    k.format.order x y = some (compare (key k x) (key k y)) := by
  unfold Num at hx hy
  have hB := binade_pos k.format
  have hI : 0 < k.format.infRung := Nat.lt_of_lt_of_le hB (inf_ge k)
  by_cases h1 : rung k.format x < k.format.infRung
  · by_cases h2 : rung k.format y < k.format.infRung
    · exact order_fin k h1 h2
    · have h2 : rung k.format y = k.format.infRung := by omega
      obtain ⟨m, a, e1, f1⟩ := read_fin k.format h1
      unfold Format.order
      rw [e1, read_inf k h2]
      simp only [Datum.order, key_eq]
      cases hs : sgn k.format y <;> cases hs' : sgn k.format x <;> simp only [if_true, if_false, Bool.false_eq_true] <;> congr 1 <;> symm <;> first | (apply Int.compare_eq_lt.2; omega) | (apply Int.compare_eq_gt.2; omega)
  · have h1 : rung k.format x = k.format.infRung := by omega
    by_cases h2 : rung k.format y < k.format.infRung
    · obtain ⟨m, a, e1, f1⟩ := read_fin k.format h2
      unfold Format.order
      rw [e1, read_inf k h1]
      simp only [Datum.order, key_eq]
      cases hs : sgn k.format y <;> cases hs' : sgn k.format x <;> simp only [if_true, if_false, Bool.false_eq_true] <;> congr 1 <;> symm <;> first | (apply Int.compare_eq_lt.2; omega) | (apply Int.compare_eq_gt.2; omega)
    · have h2 : rung k.format y = k.format.infRung := by omega
      unfold Format.order
      rw [read_inf k h1, read_inf k h2]
      simp only [Datum.order, key_eq, h1, h2]
      cases hs : sgn k.format y <;> cases hs' : sgn k.format x <;> simp only [if_true, if_false, Bool.false_eq_true, Bool.toNat_true, Bool.toNat_false] <;> congr 1 <;> symm <;> first | (rw [Nat.compare_eq_lt.2 (by omega)]; apply Int.compare_eq_lt.2; omega) | (rw [Nat.compare_eq_gt.2 (by omega)]; apply Int.compare_eq_gt.2; omega) | (rw [Nat.compare_eq_eq.2 rfl]; apply Int.compare_eq_eq.2; omega)

theorem order_nan_left (k : FloatKind) {x : Nat} (hx : ¬ Num k x) (y : Nat) : k.format.order x y = none := by
  unfold Format.order
  rw [read_nan k (w := x) (by unfold Num at hx; omega)]
  cases k.format.read y <;> rfl

theorem order_nan_right (k : FloatKind) {y : Nat} (hy : ¬ Num k y) (x : Nat) : k.format.order x y = none := by
  unfold Format.order
  rw [read_nan k (w := y) (by unfold Num at hy; omega)]
  cases k.format.read x <;> rfl

section
variable (k : FloatKind) {x y : Nat}
theorem lt_key (hx : Num k x) (hy : Num k y) : (k.format.order x y == some .lt) = decide (key k x < key k y) := by
  rw [order_num k hx hy, Bool.eq_iff_iff]; simp [Int.compare_eq_lt]
theorem gt_key (hx : Num k x) (hy : Num k y) : (k.format.order x y == some .gt) = decide (key k y < key k x) := by
  rw [order_num k hx hy, Bool.eq_iff_iff]; simp [Int.compare_eq_gt]
theorem eq_key (hx : Num k x) (hy : Num k y) : (k.format.order x y == some .eq) = decide (key k x = key k y) := by
  rw [order_num k hx hy, Bool.eq_iff_iff]; simp
theorem ne_key (hx : Num k x) (hy : Num k y) : (k.format.order x y != some .eq) = decide (key k x ≠ key k y) := by
  have := eq_key k hx hy
  rw [bne, this]; simp
theorem le_key (hx : Num k x) (hy : Num k y) : (k.format.order x y == some .lt || k.format.order x y == some .eq) = decide (key k x ≤ key k y) := by
  rw [lt_key k hx hy, eq_key k hx hy, Bool.eq_iff_iff]; simp; omega
theorem ge_key (hx : Num k x) (hy : Num k y) : (k.format.order x y == some .gt || k.format.order x y == some .eq) = decide (key k y ≤ key k x) := by
  rw [gt_key k hx hy, eq_key k hx hy, Bool.eq_iff_iff]; simp; omega
end

/-! ### float32 to float64 -/
def up (x : Nat) : Nat := Ieee.double.write (Ieee.single.read x)
/-- the rung of a float64 for the rung of a float32 -/
def upr (r : Nat) : Nat :=
  if r = 0 then 0 else if r < 8388608 then (873 + r.log2) * 4503599627370496 + r * 2 ^ (52 - r.log2) else if r < 2139095040 then r * 536870912 + 4035225266123964416 else 9218868437227405312

theorem cut_zero (neg : Bool) (n : Nat) : Toward.even.cut neg n 0 = n := by
  unfold Toward.cut; simp [Nat.mod_one]

theorem word_rung (neg : Bool) (r : Nat) : Ieee.double.word neg r = if neg then 9223372036854775808 + r else r := rfl

theorem up_eq {x : Nat} (hx : rung Ieee.single x ≤ Ieee.single.infRung) : up x = Ieee.double.word (sgn Ieee.single x) (upr (rung Ieee.single x)) := by
  unfold up
  have hI : Ieee.single.infRung = 2139095040 := by decide
  have hB : Ieee.single.binade = 8388608 := by decide
  rw [hI] at hx
  by_cases h : rung Ieee.single x = 2139095040
  · have := read_inf .f32 (w := x) (by show _ = Ieee.single.infRung; rw [hI]; exact h)
    rw [show Ieee.single.read x = _ from this]
    have h2 : upr (rung Ieee.single x) = 9218868437227405312 := by rw [h]; rfl
    rw [h2]; rfl
  · have hlt : rung Ieee.single x < 2139095040 := by omega
    generalize hr : rung Ieee.single x = r at *
    have hread : Ieee.single.read x = if r < 8388608 then .number (sgn Ieee.single x) r (-149) else .number (sgn Ieee.single x) (8388608 + r % 8388608) (-149 + (r / 8388608 - 1 : Nat)) := by
      unfold rung at hr
      unfold Format.read
      simp only [hr, hB, hI]
      by_cases h1 : r < 8388608
      · rw [if_pos h1, if_pos h1]; rfl
      · rw [if_neg h1, if_neg h1, if_pos hlt]; rfl
    rw [hread]
    by_cases h1 : r < 8388608
    · rw [if_pos h1]
      show Ieee.double.nearest _ _ _ = _
      unfold Format.nearest
      by_cases h0 : r = 0
      · rw [if_pos h0]; simp [upr, h0]
      · rw [if_neg h0]
        have hl : r.log2 < 23 := (Nat.log2_lt h0).2 (by omega)
        have e1 : max (-149 + (r.log2 : Int) - (Ieee.double.fractionBits : Int)) Ieee.double.leastPlace = -201 + r.log2 := by
          show max (-149 + (r.log2 : Int) - (52 : Nat)) (2 - 2 ^ 10 - 52) = _
          omega
        simp only [e1]
        have e2 : (-149 - (-201 + (r.log2 : Int))).toNat = 52 - r.log2 := by omega
        have e3 : (-201 + (r.log2 : Int) - -149).toNat = 0 := by omega
        have e4 : (-201 + (r.log2 : Int) - Ieee.double.leastPlace).toNat = 873 + r.log2 := by
          show (-201 + (r.log2 : Int) - (2 - 2 ^ 10 - 52)).toNat = _
          omega
        rw [e2, e3, e4, cut_zero, Nat.shiftLeft_eq]
        have hb : Ieee.double.binade = 4503599627370496 := by decide
        have hi : Ieee.double.infRung = 9218868437227405312 := by decide
        rw [hb, hi]
        have hp : r * 2 ^ (52 - r.log2) < 2 ^ 53 := by
          have h5 : r < 2 ^ (r.log2 + 1) := Nat.lt_log2_self
          calc r * 2 ^ (52 - r.log2) < 2 ^ (r.log2 + 1) * 2 ^ (52 - r.log2) := Nat.mul_lt_mul_of_pos_right h5 (Nat.two_pow_pos _)
            _ = 2 ^ 53 := by rw [← Nat.pow_add]; congr 1; omega
        have h2 : (873 + r.log2) * 4503599627370496 + r * 2 ^ (52 - r.log2) ≤ 9218868437227405312 := by
          generalize r * 2 ^ (52 - r.log2) = z at *; omega
        rw [Nat.min_eq_left h2]
        simp [upr, h0, h1]
    · rw [if_neg h1]
      show Ieee.double.nearest _ _ _ = _
      unfold Format.nearest
      rw [if_neg (by omega)]
      have hd : 1 ≤ r / 8388608 := by omega
      have hd2 : r / 8388608 ≤ 254 := by omega
      have hdm := Nat.div_add_mod r 8388608
      have hm := Nat.mod_lt r (show 0 < 8388608 by decide)
      generalize r / 8388608 = q at *
      generalize r % 8388608 = t at *
      have hl : (8388608 + t).log2 = 23 := by
        apply (Nat.log2_eq_iff (by omega)).2; omega
      rw [hl]
      have e1 : max (-149 + ((q - 1 : Nat) : Int) + ((23 : Nat) : Int) - (Ieee.double.fractionBits : Int)) Ieee.double.leastPlace = -178 + ((q - 1 : Nat) : Int) := by
        show max (-149 + ((q - 1 : Nat) : Int) + ((23 : Nat) : Int) - (52 : Nat)) (2 - 2 ^ 10 - 52) = _
        omega
      simp only [e1]
      have e2 : (-149 + ((q - 1 : Nat) : Int) - (-178 + ((q - 1 : Nat) : Int))).toNat = 29 := by omega
      have e3 : (-178 + ((q - 1 : Nat) : Int) - (-149 + ((q - 1 : Nat) : Int))).toNat = 0 := by omega
      have e4 : (-178 + ((q - 1 : Nat) : Int) - Ieee.double.leastPlace).toNat = 896 + (q - 1) := by
        show (-178 + ((q - 1 : Nat) : Int) - (2 - 2 ^ 10 - 52)).toNat = _
        omega
      rw [e2, e3, e4, cut_zero, Nat.shiftLeft_eq]
      have hb : Ieee.double.binade = 4503599627370496 := by decide
      have hi : Ieee.double.infRung = 9218868437227405312 := by decide
      rw [hb, hi, Nat.min_eq_left (by omega)]
      have h3 : upr r = r * 536870912 + 4035225266123964416 := by
        unfold upr; rw [if_neg (by omega), if_neg (by omega), if_pos (by omega)]
      rw [h3, show (896 + (q - 1)) * 4503599627370496 + (8388608 + t) * 2 ^ 29 = r * 536870912 + 4035225266123964416 by omega]

theorem inf32 : Ieee.single.infRung = 2139095040 := by decide
theorem inf64 : Ieee.double.infRung = 9218868437227405312 := by decide

theorem log2_lt_23 {r : Nat} (h0 : r ≠ 0) (h : r < 8388608) : r.log2 < 23 := (Nat.log2_lt h0).2 (by omega)

theorem upr_sub {r : Nat} (h0 : r ≠ 0) (h : r < 8388608) : 3931642474694443008 + 4503599627370496 ≤ upr r ∧ upr r < 4039728865751334912 := by
  have hl := log2_lt_23 h0 h
  have h5 : r < 2 ^ (r.log2 + 1) := Nat.lt_log2_self
  have h6 : 2 ^ r.log2 ≤ r := Nat.log2_self_le h0
  have e : 2 ^ 52 = 2 ^ r.log2 * 2 ^ (52 - r.log2) := by rw [← Nat.pow_add]; congr 1; omega
  have e' : 2 ^ 53 = 2 ^ (r.log2 + 1) * 2 ^ (52 - r.log2) := by rw [← Nat.pow_add]; congr 1; omega
  have g1 : 2 ^ 52 ≤ r * 2 ^ (52 - r.log2) := by rw [e]; exact Nat.mul_le_mul_right _ h6
  have g2 : r * 2 ^ (52 - r.log2) < 2 ^ 53 := by rw [e']; exact Nat.mul_lt_mul_of_pos_right h5 (Nat.two_pow_pos _)
  unfold upr
  rw [if_neg h0, if_pos h]
  generalize r * 2 ^ (52 - r.log2) = z at *
  omega

theorem upr_norm {r : Nat} (h : 8388608 ≤ r) (h2 : r < 2139095040) : upr r = r * 536870912 + 4035225266123964416 := by
  unfold upr; rw [if_neg (by omega), if_neg (by omega), if_pos h2]
theorem upr_inf : upr 2139095040 = 9218868437227405312 := by rfl
theorem upr_zero : upr 0 = 0 := by rfl

theorem upr_le {r : Nat} (h : r ≤ 2139095040) : upr r ≤ 9218868437227405312 := by
  by_cases h0 : r = 0
  · subst h0; rw [upr_zero]; omega
  · by_cases h1 : r < 8388608
    · have := upr_sub h0 h1; omega
    · by_cases h2 : r < 2139095040
      · rw [upr_norm (by omega) h2]; omega
      · obtain rfl : r = 2139095040 := by omega
        rw [upr_inf]; omega

theorem upr_fin {r : Nat} (h : r ≤ 2139095040) : upr r ≤ 5183643170566569984 ↔ r < 2139095040 := by
  by_cases h0 : r = 0
  · subst h0; rw [upr_zero]; omega
  · by_cases h1 : r < 8388608
    · have := upr_sub h0 h1; omega
    · by_cases h2 : r < 2139095040
      · rw [upr_norm (by omega) h2]; omega
      · obtain rfl : r = 2139095040 := by omega
        rw [upr_inf]; omega

theorem upr_small {r : Nat} (h : r ≤ 2139095040) : upr r < 4039728865751334912 ↔ r < 8388608 := by
  by_cases h0 : r = 0
  · subst h0; rw [upr_zero]; omega
  · by_cases h1 : r < 8388608
    · have := upr_sub h0 h1; omega
    · by_cases h2 : r < 2139095040
      · rw [upr_norm (by omega) h2]; omega
      · obtain rfl : r = 2139095040 := by omega
        rw [upr_inf]; omega

theorem upr_eq_zero {r : Nat} (h : r ≤ 2139095040) : upr r = 0 ↔ r = 0 := by
  by_cases h0 : r = 0
  · subst h0; rw [upr_zero]
  · by_cases h1 : r < 8388608
    · have := upr_sub h0 h1; omega
    · by_cases h2 : r < 2139095040
      · rw [upr_norm (by omega) h2]; omega
      · obtain rfl : r = 2139095040 := by omega
        rw [upr_inf]; omega

theorem word64_rung (neg : Bool) {r : Nat} (h : r < 9223372036854775808) : rung Ieee.double (Ieee.double.word neg r) = r ∧ sgn Ieee.double (Ieee.double.word neg r) = neg := by
  have hs : Ieee.double.signWeight = 9223372036854775808 := by decide
  unfold rung sgn Format.word
  rw [hs]
  cases neg
  · rw [if_neg (by simp)]
    constructor
    · omega
    · rw [Nat.div_eq_of_lt h]; rfl
  · rw [if_pos rfl]
    constructor
    · omega
    · rw [show (9223372036854775808 + r) / 9223372036854775808 = 1 by omega]; rfl

theorem num32 {x : Nat} : Num .f32 x ↔ rung Ieee.single x ≤ 2139095040 := by
  unfold Num; show rung Ieee.single x ≤ Ieee.single.infRung ↔ _; rw [inf32]
theorem num64 {x : Nat} : Num .f64 x ↔ rung Ieee.double x ≤ 9218868437227405312 := by
  unfold Num; show rung Ieee.double x ≤ Ieee.double.infRung ↔ _; rw [inf64]

theorem up_rung {x : Nat} (hx : Num .f32 x) : rung Ieee.double (up x) = upr (rung Ieee.single x) ∧ sgn Ieee.double (up x) = sgn Ieee.single x := by
  have h := num32.1 hx
  have hu := upr_le h
  rw [up_eq (by rw [inf32]; exact h)]
  exact word64_rung _ (by omega)

theorem up_num {x : Nat} (hx : Num .f32 x) : Num .f64 (up x) := by
  rw [num64, (up_rung hx).1]; exact upr_le (num32.1 hx)

/-! ### The walk's laws -/
/-- the bits of a drawn NaN -/
def nanAt (q : Question) (w : World) : Nat := q.cut (w.tape w.drawn q)

theorem nanAt_conv64 (b : Nat) (w : World) : ¬ Num .f64 (nanAt (.nanConv .f64 b) w) := by
  rw [num64]
  unfold nanAt rung Question.cut
  have hs : Ieee.double.signWeight = 9223372036854775808 := by decide
  rw [hs]
  simp only []
  generalize w.tape w.drawn (Question.nanConv FloatKind.f64 b) = t
  rcases Nat.mod_two_eq_zero_or_one t with h | h <;> rw [h] <;> omega
theorem nanAt_bits64 (x y : Nat) (w : World) : ¬ Num .f64 (nanAt (.nanBits .f64 x y) w) := by
  rw [num64]
  unfold nanAt rung Question.cut
  have hs : Ieee.double.signWeight = 9223372036854775808 := by decide
  rw [hs]
  simp only []
  generalize w.tape w.drawn (Question.nanBits FloatKind.f64 x y) = t
  rcases Nat.mod_two_eq_zero_or_one t with h | h <;> rw [h] <;> omega
theorem nanAt_conv32 (b : Nat) (w : World) : ¬ Num .f32 (nanAt (.nanConv .f32 b) w) := by
  rw [num32]
  unfold nanAt rung Question.cut
  have hs : Ieee.single.signWeight = 2147483648 := by decide
  rw [hs]
  simp only []
  generalize w.tape w.drawn (Question.nanConv FloatKind.f32 b) = t
  rcases Nat.mod_two_eq_zero_or_one t with h | h <;> rw [h] <;> omega
theorem nanAt_bits32 (x y : Nat) (w : World) : ¬ Num .f32 (nanAt (.nanBits .f32 x y) w) := by
  rw [num32]
  unfold nanAt rung Question.cut
  have hs : Ieee.single.signWeight = 2147483648 := by decide
  rw [hs]
  simp only []
  generalize w.tape w.drawn (Question.nanBits FloatKind.f32 x y) = t
  rcases Nat.mod_two_eq_zero_or_one t with h | h <;> rw [h] <;> omega

section
variable {P : Program} (w : World)

theorem run_up (src dst : TypeId) {x : Nat} (hx : Num .f32 x) (hs : (P.underlying src).isSome = true) (hd : P.underlying dst = some (.float .f64)) :
    (convert src dst (.float .f32 x)).run P w = .ok (.float .f64 (up x)) w := by
  refine run_convert_float_float w src dst .f32 .f64 x (up x) hs hd ?_
  unfold floatToFloatBits
  rw [if_neg (by decide)]
  have hB := binade_pos Ieee.single
  have h := hx
  unfold Num at h
  rcases Nat.lt_or_eq_of_le h with h | h
  · obtain ⟨m, a, e1, _⟩ := read_fin Ieee.single (w := x) h
    show (match Ieee.single.read x with | _ => _) = _
    have e2 : FloatKind.f32.decode x = .number (sgn Ieee.single x) m (Ieee.single.leastPlace + a) := e1
    rw [e2]
    have e3 : FloatKind.f64.encode (.number (sgn Ieee.single x) m (Ieee.single.leastPlace + a)) = up x := by unfold up; rw [e1]; rfl
    simp only [e3]
    have e4 : (FloatKind.f64.decode (up x)).isInfinity = false := by
      have hr := up_rung hx
      have hlt : rung Ieee.double (up x) < Ieee.double.infRung := by
        rw [hr.1, inf64]
        have := (upr_fin (num32.1 hx)).2 (by have : rung Ieee.single x < Ieee.single.infRung := h; rwa [inf32] at this)
        omega
      obtain ⟨m', a', e5, _⟩ := read_fin Ieee.double hlt
      show (Ieee.double.read (up x)).isInfinity = false
      rw [e5]; rfl
    rw [e4]; rfl
  · have e1 := read_inf .f32 (w := x) h
    have e2 : FloatKind.f32.decode x = .infinity (sgn Ieee.single x) := e1
    rw [e2]
    have e3 : FloatKind.f64.encode (.infinity (sgn Ieee.single x)) = up x := by unfold up; rw [show Ieee.single.read x = _ from e1]; rfl
    simp only [e3]

theorem run_up_nan (src dst : TypeId) {x : Nat} (hx : ¬ Num .f32 x) (hs : (P.underlying src).isSome = true) (hd : P.underlying dst = some (.float .f64)) :
    (convert src dst (.float .f32 x)).run P w = .ok (.float .f64 (nanAt (.nanConv .f64 x) w)) w.drew := by
  obtain ⟨u, hs'⟩ := Option.isSome_iff_exists.1 hs
  have e : FloatKind.f32.decode x = .nan _ _ := read_nan .f32 (w := x) (by unfold Num at hx; omega)
  cases u <;> simp [convert, run_underlying hs', run_underlying hd, Conv.floatToFloat, e, nanAt, Question.forced]

theorem run_down_nan (src dst : TypeId) {x : Nat} (hx : ¬ Num .f64 x) (hs : (P.underlying src).isSome = true) (hd : P.underlying dst = some (.float .f32)) :
    (convert src dst (.float .f64 x)).run P w = .ok (.float .f32 (nanAt (.nanConv .f32 x) w)) w.drew := by
  obtain ⟨u, hs'⟩ := Option.isSome_iff_exists.1 hs
  have e : FloatKind.f64.decode x = .nan _ _ := read_nan .f64 (w := x) (by unfold Num at hx; omega)
  cases u <;> simp [convert, run_underlying hs', run_underlying hd, Conv.floatToFloat, e, nanAt, Question.forced]

/-- an operation that is not valid -/
theorem run_arith_nan (op : BinOp) (hop : op = .add ∨ op = .sub ∨ op = .mul ∨ op = .quo) (t : TypeId) (k : FloatKind) (x y : Nat) (h : floatBits op k x y = none) :
    (binOp op t (.float k x) (.float k y)).run P w = .ok (.float k (nanAt (.nanBits k x y) w)) w.drew := by
  unfold floatBits at h
  rcases hop with rfl | rfl | rfl | rfl <;> simp only at h <;> simp [binOp, Op.floatArith, h, nanAt, Question.forced]
end

theorem nan_arith (op : BinOp) (k : FloatKind) {x y : Nat} (h : ¬ Num k x ∨ ¬ Num k y) : floatBits op k x y = none := by
  have h' : (k.format.read x).isNaN = true ∨ (k.format.read y).isNaN = true := by
    rcases h with h | h
    · left; rw [read_nan k (w := x) (by unfold Num at h; omega)]; rfl
    · right; rw [read_nan k (w := y) (by unfold Num at h; omega)]; rfl
  unfold floatBits
  generalize hx : k.format.read x = dx at *
  generalize hy : k.format.read y = dy at *
  cases op <;> simp only [Format.add, Format.sub, Format.mul, Format.div, hx, hy] <;> cases dx <;> cases dy <;> simp_all [Datum.isNaN, Datum.sum, Datum.product, Datum.quotient, Datum.opposite]

/-- 'x - x' -/
theorem sub_self_fin (k : FloatKind) {x : Nat} (h : rung k.format x < k.format.infRung) : floatBits .sub k x x = some 0 := by
  obtain ⟨m, a, e, _⟩ := read_fin k.format h
  show k.format.sub x x = _
  unfold Format.sub
  rw [e]
  have hz : ∀ (s : Bool) (M : Nat), signed s M 0 + signed (!s) M 0 = 0 := by
    intro s M; cases s <;> simp [signed] <;> omega
  have hc : ∀ s : Bool, (s && !s) = false := by decide
  simp only [Datum.opposite, Datum.sum, Int.min_self, Int.sub_self, Int.toNat_zero, hz, if_true, hc, Option.map_some, Int.natAbs_zero]
  cases k <;> rfl

theorem sub_self_inf (k : FloatKind) {x : Nat} (h : rung k.format x = k.format.infRung) : floatBits .sub k x x = none := by
  have e := read_inf k h
  show k.format.sub x x = _
  unfold Format.sub
  rw [e]
  cases sgn k.format x <;> rfl

/-! ### Bounds of float64 magnitudes, by powers of two: 'Le e x': |x| ≤ 2^(e - 1023) -/
def Le (e x : Nat) : Prop := rung Ieee.double x ≤ e * 4503599627370496
def Ge (e x : Nat) : Prop := e * 4503599627370496 ≤ rung Ieee.double x

theorem bin64 : Ieee.double.binade = 4503599627370496 := by decide
theorem lp64 : Ieee.double.leastPlace = -1074 := by decide
theorem fb64 : Ieee.double.fractionBits = 52 := rfl
theorem sw64 : Ieee.double.signWeight = 9223372036854775808 := by decide

theorem mg_pow' {B e : Nat} (hB : 0 < B) (h : 1 ≤ e) : mg B (e * B) = B * 2 ^ (e - 1) := by
  unfold mg
  have : ¬ e * B < B := by have := Nat.mul_le_mul_right B h; omega
  rw [if_neg this, Nat.mul_mod_left, Nat.mul_div_cancel _ hB, Nat.add_zero]

theorem mg_pow {e : Nat} (h : 1 ≤ e) : mg 4503599627370496 (e * 4503599627370496) = 2 ^ (e + 51) := by
  have h' : mg 4503599627370496 (e * 4503599627370496) = 4503599627370496 * 2 ^ (e - 1) := mg_pow' (Nat.zero_lt_succ _) h
  rw [h']
  have hk : (2 : Nat) ^ 52 = 4503599627370496 := by decide
  have : e + 51 = 52 + (e - 1) := by omega
  rw [this, Nat.pow_add, hk]

theorem Le.fin {e x : Nat} (h : Le e x) (he : e ≤ 2046) : rung Ieee.double x < Ieee.double.infRung := by
  unfold Le at h; rw [inf64]; omega
theorem Le.num {e x : Nat} (h : Le e x) (he : e ≤ 2046) : Num .f64 x := by
  unfold Le at h; rw [num64]; omega
theorem Le.mono {e f x : Nat} (h : Le e x) (hf : e ≤ f) : Le f x := Nat.le_trans h (Nat.mul_le_mul_right _ hf)

/-- what a bounded word stands for -/
theorem Le.read {e x : Nat} (h : Le e x) (h1 : 1 ≤ e) (he : e ≤ 2046) :
    ∃ m a : Nat, Ieee.double.read x = .number (sgn Ieee.double x) m (-1074 + a) ∧ m * 2 ^ a ≤ 2 ^ (e + 51) ∧ m * 2 ^ a = mg 4503599627370496 (rung Ieee.double x) := by
  obtain ⟨m, a, e1, e2⟩ := read_fin Ieee.double (h.fin he)
  rw [lp64] at e1; rw [bin64] at e2
  refine ⟨m, a, e1, ?_, e2⟩
  rw [e2, ← mg_pow h1]
  unfold Le at h
  rcases Nat.lt_or_eq_of_le h with h | h
  · exact Nat.le_of_lt (mg_mono (by omega) h)
  · rw [h]; exact Nat.le_refl _

theorem Ge.val {c x : Nat} (h : Ge c x) (h1 : 1 ≤ c) {z : Nat} (hz : z = mg 4503599627370496 (rung Ieee.double x)) : 2 ^ (c + 51) ≤ z := by
  rw [hz, ← mg_pow h1]
  unfold Ge at h
  rcases Nat.lt_or_eq_of_le h with h | h
  · exact Nat.le_of_lt (mg_mono (by omega) h)
  · rw [h]; exact Nat.le_refl _

theorem log2_add_le {m a t : Nat} (h0 : m ≠ 0) (h : m * 2 ^ a ≤ 2 ^ t) : m.log2 + a ≤ t := by
  have h6 : 2 ^ m.log2 ≤ m := Nat.log2_self_le h0
  have : 2 ^ (m.log2 + a) ≤ 2 ^ t := by rw [Nat.pow_add]; exact Nat.le_trans (Nat.mul_le_mul_right _ h6) h
  exact (Nat.pow_le_pow_iff_right (by omega)).1 this

theorem le_log2_add {m a t : Nat} (h : 2 ^ t ≤ m * 2 ^ a) : t ≤ m.log2 + a := by
  have h5 : m < 2 ^ (m.log2 + 1) := Nat.lt_log2_self
  have : 2 ^ t < 2 ^ (m.log2 + 1 + a) := by
    rw [Nat.pow_add]; exact Nat.lt_of_le_of_lt h (Nat.mul_lt_mul_of_pos_right h5 (Nat.two_pow_pos _))
  have := (Nat.pow_lt_pow_iff_right (a := 2) (by omega)).1 this
  omega

theorem cut_le (neg : Bool) (n d : Nat) : Toward.even.cut neg n d ≤ n / 2 ^ min d (n.log2 + 2) + 1 := by
  unfold Toward.cut
  simp only [Nat.shiftLeft_eq, Nat.one_mul]
  apply Nat.add_le_add_left
  exact Bool.toNat_le _

theorem le_cut (neg : Bool) (n d : Nat) : n / 2 ^ min d (n.log2 + 2) ≤ Toward.even.cut neg n d := by
  unfold Toward.cut
  simp only [Nat.shiftLeft_eq, Nat.one_mul]
  omega

/-- the digits that are kept: at most 2^53 -/
theorem kept_le (neg : Bool) (mag : Nat) (_h0 : mag ≠ 0) (place last : Int) (hl : place + mag.log2 - 52 ≤ last) :
    Toward.even.cut neg (mag <<< (place - last).toNat) (last - place).toNat ≤ 9007199254740992 := by
  have h5 : mag < 2 ^ (mag.log2 + 1) := Nat.lt_log2_self
  by_cases h : last ≤ place
  · rw [show (last - place).toNat = 0 by omega, cut_zero, Nat.shiftLeft_eq]
    have : mag * 2 ^ (place - last).toNat < 2 ^ (mag.log2 + 1) * 2 ^ (place - last).toNat := Nat.mul_lt_mul_of_pos_right h5 (Nat.two_pow_pos _)
    rw [← Nat.pow_add] at this
    have h2 : 2 ^ (mag.log2 + 1 + (place - last).toNat) ≤ 2 ^ 53 := Nat.pow_le_pow_right (by omega) (by omega)
    have : (2 : Nat) ^ 53 = 9007199254740992 := by decide
    omega
  · rw [show (place - last).toNat = 0 by omega, Nat.shiftLeft_zero]
    refine Nat.le_trans (cut_le _ _ _) ?_
    have hd : (mag.log2 : Int) - 52 ≤ (last - place).toNat := by omega
    generalize (last - place).toNat = d at *
    have : mag / 2 ^ min d (mag.log2 + 2) < 9007199254740992 := by
      rw [Nat.div_lt_iff_lt_mul (Nat.two_pow_pos _)]
      refine Nat.lt_of_lt_of_le h5 ?_
      rw [show 9007199254740992 = 2 ^ 53 by decide, ← Nat.pow_add]
      exact Nat.pow_le_pow_right (by omega) (by omega)
    omega

theorem le_kept (neg : Bool) (mag : Nat) (h0 : mag ≠ 0) (place last : Int) (hl : place + mag.log2 - 52 = last) :
    4503599627370496 ≤ Toward.even.cut neg (mag <<< (place - last).toNat) (last - place).toNat := by
  have h6 : 2 ^ mag.log2 ≤ mag := Nat.log2_self_le h0
  by_cases h : last ≤ place
  · rw [show (last - place).toNat = 0 by omega, cut_zero, Nat.shiftLeft_eq]
    have : 2 ^ mag.log2 * 2 ^ (place - last).toNat ≤ mag * 2 ^ (place - last).toNat := Nat.mul_le_mul_right _ h6
    rw [← Nat.pow_add] at this
    have h2 : 2 ^ 52 ≤ 2 ^ (mag.log2 + (place - last).toNat) := Nat.pow_le_pow_right (by omega) (by omega)
    have : (2 : Nat) ^ 52 = 4503599627370496 := by decide
    omega
  · rw [show (place - last).toNat = 0 by omega, Nat.shiftLeft_zero]
    refine Nat.le_trans ?_ (le_cut _ _ _)
    rw [Nat.le_div_iff_mul_le (Nat.two_pow_pos _)]
    refine Nat.le_trans ?_ h6
    rw [show 4503599627370496 = 2 ^ 52 by decide, ← Nat.pow_add]
    exact Nat.pow_le_pow_right (by omega) (by omega)

theorem log2_cases {m a t : Nat} (h0 : m ≠ 0) (h : m * 2 ^ a ≤ 2 ^ t) : m.log2 + a + 1 ≤ t ∨ (m = 2 ^ m.log2 ∧ m.log2 + a = t) := by
  have h1 := log2_add_le h0 h
  rcases Nat.lt_or_eq_of_le h1 with h2 | h2
  · left; omega
  · right
    refine ⟨?_, h2⟩
    rw [← h2, Nat.pow_add] at h
    have h3 := Nat.le_of_mul_le_mul_right h (Nat.two_pow_pos a)
    have h4 : 2 ^ m.log2 ≤ m := Nat.log2_self_le h0
    omega

/-- a power of two is kept as it is -/
theorem kept_pow (neg : Bool) (l : Nat) (place last : Int) (hl : place + l - 52 = last) :
    Toward.even.cut neg (2 ^ l <<< (place - last).toNat) (last - place).toNat = 4503599627370496 := by
  have hk : (2 : Nat) ^ 52 = 4503599627370496 := by decide
  by_cases h : last ≤ place
  · rw [show (last - place).toNat = 0 by omega, cut_zero, Nat.shiftLeft_eq, ← Nat.pow_add, ← hk]
    congr 1; omega
  · rw [show (place - last).toNat = 0 by omega, Nat.shiftLeft_zero]
    have hd : (last - place).toNat = l - 52 := by omega
    have hl52 : 52 ≤ l := by omega
    rw [hd]
    unfold Toward.cut
    have hg : min (l - 52) ((2 ^ l).log2 + 2) = l - 52 := by rw [Nat.log2_two_pow]; omega
    simp only [hg, Nat.shiftLeft_eq, Nat.one_mul]
    have e1 : 2 ^ l / 2 ^ (l - 52) = 2 ^ 52 := by rw [Nat.pow_div (by omega) (by omega)]; congr 1; omega
    have e2 : 2 ^ l % 2 ^ (l - 52) = 0 := Nat.mod_eq_zero_of_dvd (Nat.pow_dvd_pow 2 (by omega))
    rw [e1, e2, hk]
    have hp := Nat.two_pow_pos (l - 52)
    have e3 : (decide (2 ^ (l - 52) < 2 * 0) || 2 ^ (l - 52) == 2 * 0 && 4503599627370496 % 2 == 1) = false := by
      simp
    rw [e3]; rfl

theorem nearest_le (neg : Bool) (mag : Nat) (place : Int) (e : Nat) (h2 : 2 ≤ e) (he : e ≤ 2046)
    (h : mag ≠ 0 → (mag.log2 : Int) + place + 1 ≤ (e : Int) - 1023 ∨ (mag = 2 ^ mag.log2 ∧ (mag.log2 : Int) + place ≤ (e : Int) - 1023)) :
    Le e (Ieee.double.nearest neg mag place) ∧ sgn Ieee.double (Ieee.double.nearest neg mag place) = neg := by
  unfold Format.nearest
  by_cases h0 : mag = 0
  · rw [if_pos h0]
    have := word64_rung neg (r := 0) (by omega)
    exact ⟨by unfold Le; rw [this.1]; omega, this.2⟩
  · rw [if_neg h0]
    have h := h h0
    simp only [fb64, lp64, bin64, inf64]
    have hk := kept_le neg mag h0 place (max (place + mag.log2 - (52 : Nat)) (-1074)) (by omega)
    have hk2 : mag = 2 ^ mag.log2 → place + mag.log2 - 52 = max (place + mag.log2 - (52 : Nat)) (-1074) → Toward.even.cut neg (mag <<< (place - max (place + mag.log2 - (52 : Nat)) (-1074)).toNat) (max (place + mag.log2 - (52 : Nat)) (-1074) - place).toNat = 4503599627370496 := by
      intro hm hl
      have := kept_pow neg mag.log2 place (max (place + mag.log2 - (52 : Nat)) (-1074)) (by omega)
      rw [← hm] at this
      exact this
    generalize Toward.even.cut neg (mag <<< (place - max (place + mag.log2 - (52 : Nat)) (-1074)).toNat) (max (place + mag.log2 - (52 : Nat)) (-1074) - place).toNat = K at *
    have hm : min ((max (place + (mag.log2 : Int) - (52 : Nat)) (-1074) - -1074).toNat * 4503599627370496 + K) 9218868437227405312 ≤ e * 4503599627370496 := by
      refine Nat.le_trans (Nat.min_le_left _ _) ?_
      rcases h with h | ⟨hp, h⟩
      · omega
      · have hk2 := hk2 hp
        clear hp
        by_cases hc : place + (mag.log2 : Int) - 52 = max (place + (mag.log2 : Int) - (52 : Nat)) (-1074)
        · have hk2 := hk2 hc
          omega
        · omega
    have := word64_rung neg (r := min ((max (place + (mag.log2 : Int) - (52 : Nat)) (-1074) - -1074).toNat * 4503599627370496 + K) 9218868437227405312) (by omega)
    exact ⟨by unfold Le; rw [this.1]; exact hm, this.2⟩

theorem nearest_ge (neg : Bool) (mag : Nat) (place : Int) (c : Nat) (h1 : 1 ≤ c) (hc : c ≤ 2046) (h0 : mag ≠ 0)
    (h : (c : Int) - 1023 ≤ mag.log2 + place) : Ge c (Ieee.double.nearest neg mag place) := by
  unfold Format.nearest
  rw [if_neg h0]
  simp only [fb64, lp64, bin64, inf64]
  have hk := le_kept neg mag h0 place (max (place + mag.log2 - (52 : Nat)) (-1074)) (by omega)
  generalize Toward.even.cut neg (mag <<< (place - max (place + mag.log2 - (52 : Nat)) (-1074)).toNat) (max (place + mag.log2 - (52 : Nat)) (-1074) - place).toNat = K at *
  have := word64_rung neg (r := min ((max (place + (mag.log2 : Int) - (52 : Nat)) (-1074) - -1074).toNat * 4503599627370496 + K) 9218868437227405312) (by omega)
  unfold Ge; rw [this.1]
  omega

/-! ### The operations -/
theorem log2_mul_le {m n t : Nat} (hm : m * n ≠ 0) (h : m * n < 2 ^ t) : (m * n).log2 + 1 ≤ t := by
  have := (Nat.log2_lt hm).2 h; omega

theorem mul_le {e f g x y : Nat} (hx : Le e x) (hy : Le f y) (e1 : 1 ≤ e) (e2 : e ≤ 2046) (f1 : 1 ≤ f) (f2 : f ≤ 2046) (g2 : 2 ≤ g) (g3 : g ≤ 2046) (hg : e + f ≤ g + 1023) :
    ∃ r, floatBits .mul .f64 x y = some r ∧ Le g r ∧ sgn Ieee.double r = (sgn Ieee.double x ^^ sgn Ieee.double y) := by
  obtain ⟨m, a, r1, v1, _⟩ := hx.read e1 e2
  obtain ⟨n, b, r2, v2, _⟩ := hy.read f1 f2
  refine ⟨_, by show Ieee.double.mul x y = some _; unfold Format.mul; rw [r1, r2]; rfl, ?_⟩
  refine nearest_le _ _ _ g g2 g3 fun h0 => ?_
  have h : m * n * 2 ^ (a + b) ≤ 2 ^ (e + 51 + (f + 51)) := by
    rw [Nat.pow_add, Nat.pow_add 2 (e + 51)]
    calc m * n * (2 ^ a * 2 ^ b) = m * 2 ^ a * (n * 2 ^ b) := by ac_rfl
      _ ≤ _ := Nat.mul_le_mul v1 v2
  rcases log2_cases h0 h with h | ⟨hp, h⟩
  · left; omega
  · right; exact ⟨hp, by omega⟩

theorem signed_natAbs (s : Bool) (M N : Nat) (t : Bool) : (signed s M 0 + signed t N 0).natAbs ≤ M + N := by
  cases s <;> cases t <;> simp [signed] <;> omega

theorem signed_shift (s : Bool) (m k : Nat) : signed s m k = signed s (m * 2 ^ k) 0 := by
  unfold signed; simp [Nat.shiftLeft_eq]

theorem sum_le {e : Nat} {t : Bool} {m n a b : Nat} {s : Bool} (v1 : m * 2 ^ a ≤ 2 ^ (e + 51)) (v2 : n * 2 ^ b ≤ 2 ^ (e + 51)) :
    ∃ (z : Int), (Datum.number s m (-1074 + (a : Int))).sum (.number t n (-1074 + (b : Int))) = some (.number (if z = 0 then s && t else z < 0) z.natAbs (-1074 + (min a b : Nat))) ∧
      (z.natAbs ≠ 0 → z.natAbs * 2 ^ min a b ≤ 2 ^ (e + 52)) ∧
      z * 2 ^ min a b = signed s (m * 2 ^ a) 0 + signed t (n * 2 ^ b) 0 := by
  have g1 : (-1074 + (a : Int) - min (-1074 + (a : Int)) (-1074 + (b : Int))).toNat = a - min a b := by omega
  have g2 : (-1074 + (b : Int) - min (-1074 + (a : Int)) (-1074 + (b : Int))).toNat = b - min a b := by omega
  have g3 : min (-1074 + (a : Int)) (-1074 + (b : Int)) = -1074 + (min a b : Nat) := by omega
  refine ⟨signed s m (a - min a b) + signed t n (b - min a b), ?_, ?_, ?_⟩
  · simp only [Datum.sum]; rw [g1, g2, g3]
  · intro _
    have hp1 : m * 2 ^ (a - min a b) * 2 ^ min a b ≤ 2 ^ (e + 51) := by
      rw [Nat.mul_assoc, ← Nat.pow_add, Nat.sub_add_cancel (Nat.min_le_left _ _)]; exact v1
    have hp2 : n * 2 ^ (b - min a b) * 2 ^ min a b ≤ 2 ^ (e + 51) := by
      rw [Nat.mul_assoc, ← Nat.pow_add, Nat.sub_add_cancel (Nat.min_le_right _ _)]; exact v2
    have hz := signed_natAbs s (m * 2 ^ (a - min a b)) (n * 2 ^ (b - min a b)) t
    rw [← signed_shift, ← signed_shift] at hz
    exact by
      calc _ ≤ (m * 2 ^ (a - min a b) + n * 2 ^ (b - min a b)) * 2 ^ min a b := Nat.mul_le_mul_right _ hz
        _ ≤ 2 ^ (e + 51) + 2 ^ (e + 51) := by rw [Nat.add_mul]; exact Nat.add_le_add hp1 hp2
        _ = 2 ^ (e + 52) := by rw [← Nat.two_mul, Nat.mul_comm, ← Nat.pow_succ]
  · rw [signed_shift s m, signed_shift t n, Int.add_mul]
    have k1 : m * 2 ^ (a - min a b) * 2 ^ min a b = m * 2 ^ a := by
      rw [Nat.mul_assoc, ← Nat.pow_add, Nat.sub_add_cancel (Nat.min_le_left _ _)]
    have k2 : n * 2 ^ (b - min a b) * 2 ^ min a b = n * 2 ^ b := by
      rw [Nat.mul_assoc, ← Nat.pow_add, Nat.sub_add_cancel (Nat.min_le_right _ _)]
    rw [← k1, ← k2]
    have ks : ∀ (s : Bool) (u v : Nat), signed s u 0 * ((2 : Int) ^ v) = signed s (u * 2 ^ v) 0 := by
      intro s u v; cases s <;> simp [signed, Int.natCast_mul, Int.natCast_pow, Int.neg_mul]
    rw [ks, ks]

theorem sum_near {z c e g : Nat} (h0 : z ≠ 0) (h : z * 2 ^ c ≤ 2 ^ (e + 52)) (hg : e + 1 ≤ g) :
    (z.log2 : Int) + (-1074 + (c : Nat)) + 1 ≤ (g : Int) - 1023 ∨ (z = 2 ^ z.log2 ∧ (z.log2 : Int) + (-1074 + (c : Nat)) ≤ (g : Int) - 1023) := by
  rcases log2_cases h0 h with h | ⟨hp, h⟩
  · left; omega
  · right; exact ⟨hp, by omega⟩

theorem add_le {e f g x y : Nat} (hx : Le e x) (hy : Le f y) (e1 : 1 ≤ e) (f1 : 1 ≤ f) (eg : e + 1 ≤ g) (fg : f + 1 ≤ g) (g3 : g ≤ 2046) :
    ∃ r, floatBits .add .f64 x y = some r ∧ Le g r := by
  obtain ⟨m, a, r1, v1, _⟩ := (hx.mono (show e ≤ g - 1 by omega)).read (by omega) (by omega)
  obtain ⟨n, b, r2, v2, _⟩ := (hy.mono (show f ≤ g - 1 by omega)).read (by omega) (by omega)
  obtain ⟨z, hz, hl, _⟩ := sum_le (s := sgn Ieee.double x) (t := sgn Ieee.double y) v1 v2
  refine ⟨_, by show Ieee.double.add x y = some _; unfold Format.add; rw [r1, r2, hz]; rfl, ?_⟩
  exact (nearest_le _ _ _ g (by omega) g3 fun h0 => sum_near h0 (hl h0) (by omega)).1

theorem sub_le {e f g x y : Nat} (hx : Le e x) (hy : Le f y) (e1 : 1 ≤ e) (f1 : 1 ≤ f) (eg : e + 1 ≤ g) (fg : f + 1 ≤ g) (g3 : g ≤ 2046) :
    ∃ r, floatBits .sub .f64 x y = some r ∧ Le g r := by
  obtain ⟨m, a, r1, v1, _⟩ := (hx.mono (show e ≤ g - 1 by omega)).read (by omega) (by omega)
  obtain ⟨n, b, r2, v2, _⟩ := (hy.mono (show f ≤ g - 1 by omega)).read (by omega) (by omega)
  obtain ⟨z, hz, hl, _⟩ := sum_le (s := sgn Ieee.double x) (t := !sgn Ieee.double y) v1 v2
  refine ⟨_, by show Ieee.double.sub x y = some _; unfold Format.sub; rw [r1, r2]; simp only [Datum.opposite, hz]; rfl, ?_⟩
  exact (nearest_le _ _ _ g (by omega) g3 fun h0 => sum_near h0 (hl h0) (by omega)).1

/-- a sum of two that are not below 0, the first at least 2^(c - 1023) -/
theorem add_ge {e f g c x y : Nat} (hx : Le e x) (hy : Le f y) (hc : Ge c x) (sx : sgn Ieee.double x = false) (sy : sgn Ieee.double y = false) (c1 : 1 ≤ c) (c2 : c ≤ 2046) (e1 : 1 ≤ e) (f1 : 1 ≤ f) (eg : e + 1 ≤ g) (fg : f + 1 ≤ g) (g3 : g ≤ 2046) :
    ∃ r, floatBits .add .f64 x y = some r ∧ Le g r ∧ Ge c r ∧ sgn Ieee.double r = false := by
  obtain ⟨m, a, r1, v1, w1⟩ := (hx.mono (show e ≤ g - 1 by omega)).read (by omega) (by omega)
  obtain ⟨n, b, r2, v2, _⟩ := (hy.mono (show f ≤ g - 1 by omega)).read (by omega) (by omega)
  rw [sx] at r1; rw [sy] at r2
  obtain ⟨z, hz, hl, hv⟩ := sum_le (s := false) (t := false) v1 v2
  have hcm := hc.val c1 w1
  have hv' : z * 2 ^ min a b = ((m * 2 ^ a + n * 2 ^ b : Nat) : Int) := by
    rw [hv]; simp [signed]
  have hz0 : 0 < z := by
    have h1 : 0 < ((m * 2 ^ a + n * 2 ^ b : Nat) : Int) := by have := Nat.two_pow_pos (c + 51); omega
    rw [← hv'] at h1
    exact Int.pos_of_mul_pos_left h1 (by have := Nat.two_pow_pos (min a b); exact_mod_cast this) |> fun h => h
  have hn : z.natAbs * 2 ^ min a b = m * 2 ^ a + n * 2 ^ b := by
    have : ((z.natAbs * 2 ^ min a b : Nat) : Int) = ((m * 2 ^ a + n * 2 ^ b : Nat) : Int) := by
      rw [← hv']; push_cast; rw [Int.ofNat_natAbs_of_nonneg (by omega)]
    exact_mod_cast this
  have hs : (if z = 0 then false && false else decide (z < 0)) = false := by rw [if_neg (by omega)]; simp; omega
  rw [hs] at hz
  refine ⟨_, by show Ieee.double.add x y = some _; unfold Format.add; rw [r1, r2, hz]; rfl, ?_⟩
  have hl' := le_log2_add (m := z.natAbs) (a := min a b) (t := c + 51) (by omega)
  have hh := nearest_le false z.natAbs (-1074 + (min a b : Nat)) g (by omega) g3 fun h0 => sum_near h0 (hl h0) (by omega)
  exact ⟨hh.1, nearest_ge _ _ _ c c1 c2 (by omega) (by omega), hh.2⟩

/-- a sum of two that are not below 0, the second at least 2^(c - 1023) -/
theorem add_ge2 {e f g c x y : Nat} (hx : Le e x) (hy : Le f y) (hc : Ge c y) (sx : sgn Ieee.double x = false) (sy : sgn Ieee.double y = false) (c1 : 1 ≤ c) (c2 : c ≤ 2046) (e1 : 1 ≤ e) (f1 : 1 ≤ f) (eg : e + 1 ≤ g) (fg : f + 1 ≤ g) (g3 : g ≤ 2046) :
    ∃ r, floatBits .add .f64 x y = some r ∧ Le g r ∧ Ge c r ∧ sgn Ieee.double r = false := by
  obtain ⟨m, a, r1, v1, _⟩ := (hx.mono (show e ≤ g - 1 by omega)).read (by omega) (by omega)
  obtain ⟨n, b, r2, v2, w1⟩ := (hy.mono (show f ≤ g - 1 by omega)).read (by omega) (by omega)
  rw [sx] at r1; rw [sy] at r2
  obtain ⟨z, hz, hl, hv⟩ := sum_le (s := false) (t := false) v1 v2
  have hcm := hc.val c1 w1
  have hv' : z * 2 ^ min a b = ((m * 2 ^ a + n * 2 ^ b : Nat) : Int) := by
    rw [hv]; simp [signed]
  have hz0 : 0 < z := by
    have h1 : 0 < ((m * 2 ^ a + n * 2 ^ b : Nat) : Int) := by have := Nat.two_pow_pos (c + 51); omega
    rw [← hv'] at h1
    exact Int.pos_of_mul_pos_left h1 (by have := Nat.two_pow_pos (min a b); exact_mod_cast this) |> fun h => h
  have hn : z.natAbs * 2 ^ min a b = m * 2 ^ a + n * 2 ^ b := by
    have : ((z.natAbs * 2 ^ min a b : Nat) : Int) = ((m * 2 ^ a + n * 2 ^ b : Nat) : Int) := by
      rw [← hv']; push_cast; rw [Int.ofNat_natAbs_of_nonneg (by omega)]
    exact_mod_cast this
  have hs : (if z = 0 then false && false else decide (z < 0)) = false := by rw [if_neg (by omega)]; simp; omega
  rw [hs] at hz
  refine ⟨_, by show Ieee.double.add x y = some _; unfold Format.add; rw [r1, r2, hz]; rfl, ?_⟩
  have hl' := le_log2_add (m := z.natAbs) (a := min a b) (t := c + 51) (by omega)
  have hh := nearest_le false z.natAbs (-1074 + (min a b : Nat)) g (by omega) g3 fun h0 => sum_near h0 (hl h0) (by omega)
  exact ⟨hh.1, nearest_ge _ _ _ c c1 c2 (by omega) (by omega), hh.2⟩

theorem key_pos' {x : Nat} (h : x < 9223372036854775808) : rung Ieee.double x = x := by
  unfold rung; rw [sw64]; exact Nat.mod_eq_of_lt h

theorem Ge.pos {c y : Nat} (h : Ge c y) (c1 : 1 ≤ c) : 0 < rung Ieee.double y := by
  unfold Ge at h
  have : 1 * 4503599627370496 ≤ c * 4503599627370496 := Nat.mul_le_mul_right _ c1
  omega

theorem ne_zero_of_pow {m a z : Nat} (h : m * 2 ^ a = z) (hz : 0 < z) : m ≠ 0 := by
  rintro rfl; simp at h; omega

/-- the quotient's digits: a quotient of at most 2^K -/
theorem quot_le {m n more K : Nat} (hn : 0 < n) (h : m * 2 ^ more ≤ n * 2 ^ K) :
    2 * (m <<< more / n) + (m <<< more % n != 0).toNat ≤ 2 ^ (K + 1) := by
  rw [Nat.shiftLeft_eq, Nat.pow_succ]
  have hb : (m * 2 ^ more % n != 0).toNat ≤ 1 := Bool.toNat_le _
  rcases Nat.lt_or_eq_of_le h with h | h
  · have hq : m * 2 ^ more / n < 2 ^ K := by rw [Nat.div_lt_iff_lt_mul hn, Nat.mul_comm (2 ^ K)]; exact h
    omega
  · have e1 : m * 2 ^ more / n = 2 ^ K := by rw [h, Nat.mul_div_cancel_left _ hn]
    have e2 : m * 2 ^ more % n = 0 := by rw [h, Nat.mul_mod_right]
    rw [e1, e2]
    simp; omega

theorem quot_pos {m n more : Nat} (hn : 0 < n) (h : n ≤ m * 2 ^ more) : 1 ≤ m <<< more / n := by
  rw [Nat.shiftLeft_eq, Nat.le_div_iff_mul_le hn, Nat.one_mul]; exact h

theorem div_core {x y g : Nat} {s t : Bool} {m a n b e c : Nat} (r1 : Ieee.double.read x = .number s m (-1074 + a)) (r2 : Ieee.double.read y = .number t n (-1074 + b)) (hn : n ≠ 0) (g2 : 2 ≤ g) (g3 : g ≤ 2046)
    (h : m * 2 ^ (a + c) ≤ n * 2 ^ (b + e)) (hg : (e : Int) - c ≤ (g : Int) - 1023) :
    ∃ r, floatBits .quo .f64 x y = some r ∧ Le g r ∧ sgn Ieee.double r = (s ^^ t) := by
  refine ⟨_, by show Ieee.double.div x y = some _; unfold Format.div; rw [r1, r2]; simp only [Datum.quotient, hn, if_false]; rfl, ?_⟩
  refine nearest_le _ _ _ g g2 g3 fun h0 => ?_
  by_cases hm : m = 0
  · subst hm; simp at h0
  · have hmore : n ≤ m * 2 ^ (Ieee.double.fractionBits + 2 + n.log2 - m.log2) := by
      have hn5 : n < 2 ^ (n.log2 + 1) := Nat.lt_log2_self
      have hm6 : 2 ^ m.log2 ≤ m := Nat.log2_self_le hm
      rw [fb64]
      have h1 : 2 ^ m.log2 * 2 ^ (52 + 2 + n.log2 - m.log2) ≤ m * 2 ^ (52 + 2 + n.log2 - m.log2) := Nat.mul_le_mul_right _ hm6
      rw [← Nat.pow_add] at h1
      have h2 : 2 ^ (n.log2 + 1) ≤ 2 ^ (m.log2 + (52 + 2 + n.log2 - m.log2)) := Nat.pow_le_pow_right (by omega) (by omega)
      omega
    generalize Ieee.double.fractionBits + 2 + n.log2 - m.log2 = more at *
    -- the exponent of the bound
    have hle : a + c ≤ b + e + more := by
      rcases Nat.lt_or_ge (b + e + more) (a + c) with hlt | hge
      · exfalso
        have h1 : m * 2 ^ more * 2 ^ (a + c) ≤ n * 2 ^ (b + e + more) := by
          rw [Nat.pow_add 2 (b + e) more, ← Nat.mul_assoc]
          calc m * 2 ^ more * 2 ^ (a + c) = m * 2 ^ (a + c) * 2 ^ more := by ac_rfl
            _ ≤ _ := Nat.mul_le_mul_right _ h
        have h2 : n * 2 ^ (b + e + more) < m * 2 ^ more * 2 ^ (a + c) :=
          calc n * 2 ^ (b + e + more) < n * 2 ^ (a + c) := Nat.mul_lt_mul_of_pos_left ((Nat.pow_lt_pow_iff_right (by omega)).2 hlt) (by omega)
            _ ≤ _ := Nat.mul_le_mul_right _ hmore
        omega
      · exact hge
    obtain ⟨K, hK⟩ : ∃ K, b + e + more = a + c + K := ⟨b + e + more - (a + c), by omega⟩
    have hq : m * 2 ^ more ≤ n * 2 ^ K := by
      have h1 : m * 2 ^ more * 2 ^ (a + c) ≤ n * 2 ^ K * 2 ^ (a + c) := by
        calc m * 2 ^ more * 2 ^ (a + c) = m * 2 ^ (a + c) * 2 ^ more := by ac_rfl
          _ ≤ n * 2 ^ (b + e) * 2 ^ more := Nat.mul_le_mul_right _ h
          _ = n * 2 ^ K * 2 ^ (a + c) := by rw [Nat.mul_assoc, ← Nat.pow_add, hK, Nat.pow_add, Nat.mul_comm (2 ^ (a + c)), Nat.mul_assoc]
      exact Nat.le_of_mul_le_mul_right h1 (Nat.two_pow_pos _)
    have hmag := quot_le (by omega) hq
    have : (2 * (m <<< more / n) + (m <<< more % n != 0).toNat) * 2 ^ 0 ≤ 2 ^ (K + 1) := by rw [Nat.pow_zero, Nat.mul_one]; exact hmag
    rcases log2_cases h0 this with h | ⟨hp, h⟩
    · left; omega
    · right; exact ⟨hp, by omega⟩

theorem div_le {e f c g x y : Nat} (hx : Le e x) (hy : Le f y) (hc : Ge c y) (e1 : 1 ≤ e) (e2 : e ≤ 2046) (f1 : 1 ≤ f) (f2 : f ≤ 2046) (c1 : 1 ≤ c) (g2 : 2 ≤ g) (g3 : g ≤ 2046) (hg : e + 1023 ≤ g + c) :
    ∃ r, floatBits .quo .f64 x y = some r ∧ Le g r ∧ sgn Ieee.double r = (sgn Ieee.double x ^^ sgn Ieee.double y) := by
  obtain ⟨m, a, r1, v1, w1⟩ := hx.read e1 e2
  obtain ⟨n, b, r2, v2, w2⟩ := hy.read f1 f2
  have hcm := hc.val c1 w2
  refine div_core (e := e) (c := c) r1 r2 (ne_zero_of_pow rfl (Nat.lt_of_lt_of_le (Nat.two_pow_pos _) hcm)) g2 g3 ?_ (by omega)
  have h1 : m * 2 ^ (a + c) * 2 ^ 51 ≤ n * 2 ^ (b + e) * 2 ^ 51 := by
    calc m * 2 ^ (a + c) * 2 ^ 51 = m * 2 ^ a * 2 ^ (c + 51) := by rw [Nat.pow_add 2 a, Nat.pow_add 2 c]; ac_rfl
      _ ≤ 2 ^ (e + 51) * (n * 2 ^ b) := Nat.mul_le_mul v1 hcm
      _ = n * 2 ^ (b + e) * 2 ^ 51 := by rw [Nat.pow_add 2 b, Nat.pow_add 2 e]; ac_rfl
  exact Nat.le_of_mul_le_mul_right h1 (Nat.two_pow_pos _)

theorem div_le_one {f x y : Nat} (hxy : rung Ieee.double x ≤ rung Ieee.double y) (hy : Le f y) (hp : 0 < rung Ieee.double y) (f1 : 1 ≤ f) (f2 : f ≤ 2046) :
    ∃ r, floatBits .quo .f64 x y = some r ∧ Le 1023 r ∧ sgn Ieee.double r = (sgn Ieee.double x ^^ sgn Ieee.double y) := by
  have hx : Le f x := Nat.le_trans hxy hy
  obtain ⟨m, a, r1, v1, w1⟩ := hx.read f1 f2
  obtain ⟨n, b, r2, v2, w2⟩ := hy.read f1 f2
  have hn : n ≠ 0 := ne_zero_of_pow w2 (mg_pos (by omega) hp)
  refine div_core (e := 0) (c := 0) r1 r2 hn (by omega) (by omega) ?_ (by omega)
  rw [Nat.add_zero, Nat.add_zero, w1, w2]
  rcases Nat.lt_or_eq_of_le hxy with h | h
  · exact Nat.le_of_lt (mg_mono (by omega) h)
  · rw [h]; exact Nat.le_refl _

theorem rootFrom_le (n : Nat) : ∀ (todo r : Nat), r * r ≤ n → Datum.rootFrom n todo r * Datum.rootFrom n todo r ≤ n := by
  intro todo
  induction todo with
  | zero => intro r h; exact h
  | succ k ih =>
    intro r h
    unfold Datum.rootFrom
    simp only []
    by_cases hc : (r + 1 <<< k) * (r + 1 <<< k) ≤ n
    · rw [if_pos hc]; exact ih _ hc
    · rw [if_neg hc]; exact ih _ h

theorem sqrt_le {e g x : Nat} (hx : Le e x) (sx : sgn Ieee.double x = false) (e1 : 1 ≤ e) (e2 : e ≤ 2046) (g2 : 2 ≤ g) (g3 : g ≤ 2046) (hg : e + 1025 ≤ 2 * g) :
    ∃ r, Ieee.double.sqrt x = some r ∧ Le g r ∧ sgn Ieee.double r = false := by
  obtain ⟨m, a, r1, v1, _⟩ := hx.read e1 e2
  rw [sx] at r1
  by_cases hm : m = 0
  · subst hm
    refine ⟨_, by unfold Format.sqrt; rw [r1]; simp only [Datum.root, if_true]; rfl, ?_⟩
    exact nearest_le _ _ _ g g2 g3 fun h0 => absurd rfl h0
  · refine ⟨_, by unfold Format.sqrt; rw [r1]; simp only [Datum.root, hm, if_false, Bool.false_eq_true]; rfl, ?_⟩
    refine nearest_le _ _ _ g g2 g3 fun h0 => .inl ?_
    have h1 := log2_add_le hm v1
    have hmore : 108 ≤ m.log2 + (2 * (Ieee.double.fractionBits + 2) - m.log2) := by rw [fb64]; omega
    have hmore2 : 2 * (Ieee.double.fractionBits + 2) - m.log2 ≤ 108 := by rw [fb64]; omega
    generalize 2 * (Ieee.double.fractionBits + 2) - m.log2 = more0 at *
    have hmod : ((-1074 + (a : Int) - (more0 : Int)) % 2).toNat ≤ 1 := by omega
    generalize ((-1074 + (a : Int) - (more0 : Int)) % 2).toNat = par at *
    rw [Nat.shiftLeft_eq] at *
    have hw := rootFrom_le (m * 2 ^ (more0 + par)) ((m * 2 ^ (more0 + par)).log2 / 2 + 1) 0 (by omega)
    generalize Datum.rootFrom (m * 2 ^ (more0 + par)) ((m * 2 ^ (more0 + par)).log2 / 2 + 1) 0 = R at *
    have hb : (R * R != m * 2 ^ (more0 + par)).toNat ≤ 1 := Bool.toNat_le _
    generalize (R * R != m * 2 ^ (more0 + par)).toNat = B at *
    have hm5 : m < 2 ^ (m.log2 + 1) := Nat.lt_log2_self
    by_cases hR : R = 0
    · subst hR
      have : (2 * 0 + B).log2 = 0 := by
        have : B = 1 := by omega
        subst this; rfl
      rw [this]
      omega
    · have hR6 : 2 ^ R.log2 ≤ R := Nat.log2_self_le hR
      have hR5 : R < 2 ^ (R.log2 + 1) := Nat.lt_log2_self
      have hl2 : (2 * R + B).log2 = R.log2 + 1 := by
        apply (Nat.log2_eq_iff (by omega)).2
        rw [Nat.pow_succ, Nat.pow_succ]
        rw [Nat.pow_succ] at hR5
        omega
      rw [hl2]
      have h3 : 2 ^ (R.log2 + R.log2) < 2 ^ (m.log2 + 1 + (more0 + par)) := by
        rw [Nat.pow_add, Nat.pow_add]
        calc 2 ^ R.log2 * 2 ^ R.log2 ≤ R * R := Nat.mul_le_mul hR6 hR6
          _ ≤ m * 2 ^ (more0 + par) := hw
          _ < _ := Nat.mul_lt_mul_of_pos_right hm5 (Nat.two_pow_pos _)
      have := (Nat.pow_lt_pow_iff_right (a := 2) (by omega)).1 h3
      omega

/-! ### float64 to float32, without overflow -/
def down (x : Nat) : Nat := Ieee.single.write (Ieee.double.read x)

theorem kept32_le (neg : Bool) (mag : Nat) (place last : Int) (hl : place + mag.log2 - 23 ≤ last) :
    Toward.even.cut neg (mag <<< (place - last).toNat) (last - place).toNat ≤ 16777216 := by
  have h5 : mag < 2 ^ (mag.log2 + 1) := Nat.lt_log2_self
  by_cases h : last ≤ place
  · rw [show (last - place).toNat = 0 by omega, cut_zero, Nat.shiftLeft_eq]
    have : mag * 2 ^ (place - last).toNat < 2 ^ (mag.log2 + 1) * 2 ^ (place - last).toNat := Nat.mul_lt_mul_of_pos_right h5 (Nat.two_pow_pos _)
    rw [← Nat.pow_add] at this
    have h2 : 2 ^ (mag.log2 + 1 + (place - last).toNat) ≤ 2 ^ 24 := Nat.pow_le_pow_right (by omega) (by omega)
    have : (2 : Nat) ^ 24 = 16777216 := by decide
    omega
  · rw [show (place - last).toNat = 0 by omega, Nat.shiftLeft_zero]
    refine Nat.le_trans (cut_le _ _ _) ?_
    have hd : (mag.log2 : Int) - 23 ≤ (last - place).toNat := by omega
    generalize (last - place).toNat = d at *
    have : mag / 2 ^ min d (mag.log2 + 2) < 16777216 := by
      rw [Nat.div_lt_iff_lt_mul (Nat.two_pow_pos _)]
      refine Nat.lt_of_lt_of_le h5 ?_
      rw [show 16777216 = 2 ^ 24 by decide, ← Nat.pow_add]
      exact Nat.pow_le_pow_right (by omega) (by omega)
    omega

theorem word32_rung (neg : Bool) {r : Nat} (h : r < 2147483648) : rung Ieee.single (Ieee.single.word neg r) = r ∧ sgn Ieee.single (Ieee.single.word neg r) = neg := by
  have hs : Ieee.single.signWeight = 2147483648 := by decide
  unfold rung sgn Format.word
  rw [hs]
  cases neg
  · rw [if_neg (by simp)]
    constructor
    · omega
    · rw [Nat.div_eq_of_lt h]; rfl
  · rw [if_pos rfl]
    constructor
    · omega
    · rw [show (2147483648 + r) / 2147483648 = 1 by omega]; rfl

theorem down_fin {e x : Nat} (hx : Le e x) (e1 : 1 ≤ e) (he : e ≤ 1148) : rung Ieee.single (down x) < Ieee.single.infRung ∧ sgn Ieee.single (down x) = sgn Ieee.double x := by
  obtain ⟨m, a, r1, v1, _⟩ := hx.read e1 (by omega)
  unfold down
  rw [r1]
  show rung Ieee.single (Ieee.single.nearest _ _ _) < _ ∧ sgn Ieee.single (Ieee.single.nearest _ _ _) = _
  unfold Format.nearest
  have hb : Ieee.single.binade = 8388608 := by decide
  have hl : Ieee.single.leastPlace = -149 := by decide
  have hf : Ieee.single.fractionBits = 23 := rfl
  by_cases h0 : m = 0
  · rw [if_pos h0]
    have := word32_rung (sgn Ieee.double x) (r := 0) (by omega)
    rw [this.1, inf32]; exact ⟨by omega, this.2⟩
  · rw [if_neg h0]
    have h1 := log2_add_le h0 v1
    simp only [hf, hl, hb, inf32]
    have hk := kept32_le (sgn Ieee.double x) m (-1074 + (a : Int)) (max (-1074 + (a : Int) + m.log2 - (23 : Nat)) (-149)) (by omega)
    generalize Toward.even.cut (sgn Ieee.double x) (m <<< (-1074 + (a : Int) - max (-1074 + (a : Int) + m.log2 - (23 : Nat)) (-149)).toNat) (max (-1074 + (a : Int) + m.log2 - (23 : Nat)) (-149) - (-1074 + (a : Int))).toNat = K at *
    have := word32_rung (sgn Ieee.double x) (r := min ((max (-1074 + (a : Int) + m.log2 - (23 : Nat)) (-149) - -149).toNat * 8388608 + K) 2139095040) (Nat.lt_of_le_of_lt (Nat.min_le_right _ _) (by decide))
    have hs := this.2
    rw [this.1]
    clear v1 this r1
    refine ⟨?_, hs⟩
    clear hs
    omega

theorem down_lt (x : Nat) : down x < 4294967296 := Ieee.single.write_lt _

theorem bits_of_parts {x d m m' : Nat} {s s' : Bool} {e e' : Int} (h1 : FloatKind.f64.decode x = .number s m e) (h2 : FloatKind.f32.encode (.number s m e) = d) (h3 : FloatKind.f32.decode d = .number s' m' e') :
    floatToFloatBits .f64 x .f32 = some d := by
  have hne : ¬ (FloatKind.f64 = FloatKind.f32) := by decide
  simp only [floatToFloatBits, h1, h2, h3, hne, if_false, Datum.isInfinity, Bool.false_eq_true]

theorem down_bits {e x : Nat} (hx : Le e x) (e1 : 1 ≤ e) (he : e ≤ 1148) : floatToFloatBits .f64 x .f32 = some (down x) := by
  obtain ⟨m, a, r1, _, _⟩ := hx.read e1 (by omega)
  have h := (down_fin hx e1 he).1
  obtain ⟨m', a', e5, _⟩ := read_fin Ieee.single h
  exact bits_of_parts r1 (by unfold down; rw [r1]; rfl) e5

section
variable {P : Program} (w : World)
theorem run_down {e x : Nat} (src dst : TypeId) (hx : Le e x) (e1 : 1 ≤ e) (he : e ≤ 1148) (hs : (P.underlying src).isSome = true) (hd : P.underlying dst = some (.float .f32)) :
    (convert src dst (.float .f64 x)).run P w = .ok (.float .f32 (down x)) w :=
  run_convert_float_float w src dst .f64 .f32 x (down x) hs hd (down_bits hx e1 he)
end

/-! ### Halves and doubles, exactly -/
theorem read_pos {x : Nat} (h1 : 4503599627370496 ≤ x) (h2 : x < 9218868437227405312) :
    Ieee.double.read x = .number false (4503599627370496 + x % 4503599627370496) (-1074 + ((x / 4503599627370496 - 1 : Nat) : Int)) := by
  have hr := (key_pos' (x := x) (by omega))
  unfold Format.read
  have e1 : x % Ieee.double.signWeight = x := by rw [sw64]; omega
  have e2 : x / Ieee.double.signWeight = 0 := by rw [sw64]; omega
  simp only [e1, e2, bin64, inf64, lp64]
  rw [if_neg (by omega), if_pos h2]
  rfl

theorem log2_sig (t : Nat) (h : t < 4503599627370496) : (4503599627370496 + t).log2 = 52 := by
  apply (Nat.log2_eq_iff (by omega)).2
  have h1 : (2 : Nat) ^ 52 = 4503599627370496 := by decide
  have h2 : (2 : Nat) ^ 53 = 9007199254740992 := by decide
  rw [h1, h2]; omega

theorem log2_mul_pow (m k : Nat) (hm : m ≠ 0) : (m * 2 ^ k).log2 = m.log2 + k := by
  have h5 : m < 2 ^ (m.log2 + 1) := Nat.lt_log2_self
  have h6 : 2 ^ m.log2 ≤ m := Nat.log2_self_le hm
  have hp := Nat.two_pow_pos k
  apply (Nat.log2_eq_iff (by have := Nat.mul_ne_zero hm (Nat.ne_of_gt hp); exact this)).2
  constructor
  · rw [Nat.pow_add]; exact Nat.mul_le_mul_right _ h6
  · rw [show m.log2 + k + 1 = m.log2 + 1 + k by omega, Nat.pow_add]; exact Nat.mul_lt_mul_of_pos_right h5 hp

theorem cut_exact (neg : Bool) (m k : Nat) (hk : k ≤ m.log2 + k + 2) (hm : m ≠ 0) : Toward.even.cut neg (m * 2 ^ k) k = m := by
  unfold Toward.cut
  have hg : min k ((m * 2 ^ k).log2 + 2) = k := by rw [log2_mul_pow m k hm]; omega
  simp only [hg, Nat.shiftLeft_eq, Nat.one_mul]
  have hp := Nat.two_pow_pos k
  rw [Nat.mul_div_cancel _ hp, Nat.mul_mod_left]
  have e3 : (decide (2 ^ k < 2 * 0) || 2 ^ k == 2 * 0 && m % 2 == 1) = false := by simp
  rw [e3]; rfl

/-- a significand with zeros behind it: the exact word -/
theorem nearest_exact (m k q : Nat) (hm : 4503599627370496 ≤ m) (hm2 : m < 9007199254740992) (hq : q ≤ 2045) :
    Ieee.double.nearest false (m * 2 ^ k) (-1074 + (q : Int) - k) = q * 4503599627370496 + m := by
  have hl : m.log2 = 52 := by
    have := log2_sig (m - 4503599627370496) (by omega)
    rwa [show 4503599627370496 + (m - 4503599627370496) = m by omega] at this
  unfold Format.nearest
  have h0 : m * 2 ^ k ≠ 0 := Nat.mul_ne_zero (by omega) (Nat.ne_of_gt (Nat.two_pow_pos k))
  rw [if_neg h0, log2_mul_pow m k (by omega), hl]
  simp only [fb64, lp64, bin64, inf64]
  have e1 : max (-1074 + (q : Int) - k + ((52 + k : Nat) : Int) - ((52 : Nat) : Int)) (-1074) = -1074 + q := by omega
  rw [e1]
  have e2 : (-1074 + (q : Int) - k - (-1074 + q)).toNat = 0 := by omega
  have e3 : (-1074 + (q : Int) - (-1074 + (q : Int) - k)).toNat = k := by omega
  have e4 : (-1074 + (q : Int) - -1074).toNat = q := by omega
  rw [e2, e3, e4, Nat.shiftLeft_zero, cut_exact false m k (by omega) (by omega), Nat.min_eq_left (by omega)]
  rfl

theorem half_eq {x : Nat} (h1 : 9007199254740992 ≤ x) (h2 : x < 9218868437227405312) :
    floatBits .quo .f64 x 4611686018427387904 = some (x - 4503599627370496) := by
  show Ieee.double.div x 4611686018427387904 = _
  unfold Format.div
  have r2 : Ieee.double.read 4611686018427387904 = .number false 4503599627370496 (-51) := by decide
  rw [read_pos (by omega) h2, r2]
  have hm := Nat.mod_lt x (show 0 < 4503599627370496 by omega)
  have hdm := Nat.div_add_mod x 4503599627370496
  have hl := log2_sig (x % 4503599627370496) hm
  have hl2 : Nat.log2 4503599627370496 = 52 := by decide
  have hn : ¬ (4503599627370496 = 0) := by omega
  simp only [Datum.quotient, hl, hl2, fb64, Bool.xor_self, Option.map_some, hn, if_false]
  rw [show 52 + 2 + 52 - 52 = 54 by rfl, Nat.shiftLeft_eq]
  generalize hM : 4503599627370496 + x % 4503599627370496 = M at *
  have hq : M * 2 ^ 54 / 4503599627370496 = M * 2 ^ 2 := by
    rw [show (2 : Nat) ^ 54 = 4 * 4503599627370496 by decide, ← Nat.mul_assoc, Nat.mul_div_cancel _ (by omega)]
  have hr : M * 2 ^ 54 % 4503599627370496 = 0 := by
    rw [show (2 : Nat) ^ 54 = 4 * 4503599627370496 by decide, ← Nat.mul_assoc, Nat.mul_mod_left]
  rw [hq, hr]
  have e1 : 2 * (M * 2 ^ 2) + ((0 : Nat) != 0).toNat = M * 2 ^ 3 := by
    rw [show ((0 : Nat) != 0).toNat = 0 by rfl]; omega
  rw [e1]
  show some (Ieee.double.nearest false (M * 2 ^ 3) (-1074 + ((x / 4503599627370496 - 1 : Nat) : Int) - -51 - (54 : Nat) - 1)) = _
  have e2 : (-1074 + ((x / 4503599627370496 - 1 : Nat) : Int) - -51 - (54 : Nat) - 1) = -1074 + ((x / 4503599627370496 - 2 : Nat) : Int) - (3 : Nat) := by omega
  rw [e2, nearest_exact M 3 _ (by omega) (by omega) (by omega), show (x / 4503599627370496 - 2) * 4503599627370496 + M = x - 4503599627370496 by omega]

theorem double_eq {x : Nat} (h1 : 4503599627370496 ≤ x) (h2 : x < 9214364837600034816) :
    floatBits .mul .f64 x 4611686018427387904 = some (x + 4503599627370496) := by
  show Ieee.double.mul x 4611686018427387904 = _
  unfold Format.mul
  have r2 : Ieee.double.read 4611686018427387904 = .number false 4503599627370496 (-51) := by decide
  rw [read_pos h1 (by omega), r2]
  have hm := Nat.mod_lt x (show 0 < 4503599627370496 by omega)
  have hdm := Nat.div_add_mod x 4503599627370496
  simp only [Datum.product, Bool.xor_self, Option.map_some]
  generalize hM : 4503599627370496 + x % 4503599627370496 = M at *
  rw [show M * 4503599627370496 = M * 2 ^ 52 by rw [show (2 : Nat) ^ 52 = 4503599627370496 by decide]]
  show some (Ieee.double.nearest false (M * 2 ^ 52) (-1074 + ((x / 4503599627370496 - 1 : Nat) : Int) + -51)) = _
  have e2 : (-1074 + ((x / 4503599627370496 - 1 : Nat) : Int) + -51) = -1074 + ((x / 4503599627370496 : Nat) : Int) - (52 : Nat) := by omega
  rw [e2, nearest_exact M 52 _ (by omega) (by omega) (by omega), show (x / 4503599627370496) * 4503599627370496 + M = x + 4503599627370496 by omega]
end Go.Proofs.Ytajjepcegpimjaa.Fl
