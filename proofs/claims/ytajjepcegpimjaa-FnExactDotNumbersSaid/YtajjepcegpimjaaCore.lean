/-
  Contracts that all laws on floats use: math.Abs, math.IsNaN, IsFinite, sameFloat; comparisons of words; for every word. No condition.
-/
import Derived.Test.YtajjepcegpimjaaRows
import Derived.Test.YtajjepcegpimjaaFloats
import Derived.WalkKit
import Derived.WalkLawsBesides
import Derived.Deep.Draws
import Derived.Outline
import Derived.Laws.BitsAllLaws
import Derived.Laws.Bits64
import Derived.Laws.Externs
import Derived.Lib.Hide
namespace Go.Proofs.Ytajjepcegpimjaa
open Go.RowKit Fl

theorem ne_self_num (k : FloatKind) {x : Nat} (h : Num k x) : (k.format.order x x != some .eq) = false := by rw [ne_key k h h]; simp
theorem ne_self_nan (k : FloatKind) {x : Nat} (h : ¬ Num k x) : (k.format.order x x != some .eq) = true := by rw [order_nan_left k h]; rfl

@[go_sem] theorem run_f64bits (x : Nat) (w : World) : (callFunc 65 #[.float .f64 x]).run Try.prog w = .ok (.value (.int .u64 x)) w := by kernel_rfl
@[go_sem] theorem run_f64from (x : Int) (w : World) : (callFunc 58 #[.int .u64 x]).run Try.prog w = .ok (.value (.float .f64 x.toNat)) w := by kernel_rfl

theorem abs_bits (x : Nat) (hx : x < 18446744073709551616) : (bits BinOp.andNot IntKind.u64 (x : Int) 9223372036854775808).toNat = rung Ieee.double x := by
  rw [show (9223372036854775808 : Int) = ((9223372036854775808 : Nat) : Int) from rfl, u64_andNot_nat x _ hx (by decide), Int.toNat_natCast]
  rw [show 18446744073709551615 - 9223372036854775808 = 2 ^ 63 - 1 by decide, Nat.and_two_pow_sub_one_eq_mod]
  rfl

theorem abs_any (x : Nat) (hx : x < 18446744073709551616) (w : World) :
    Calls Try.prog 47 #[.float .f64 x] w fun e w' => e = .returned (.float .f64 (rung Ieee.double x)) ∧ w = w' := by
  go_enter Try.func47, Try.ntmps47
  go_wp2
  go_ret
  exact ⟨by rw [abs_bits x hx]; rfl, rfl⟩

theorem isNaN_num (x : Nat) (hn : Num .f64 x) (w : World) :
    Calls Try.prog 69 #[.float .f64 x] w fun e w' => e = .returned (.bool false) ∧ w = w' := by
  have e1 := ne_self_num .f64 hn
  go_enter Try.func69, Try.ntmps69
  go_wp2
  go_ret
  exact ⟨rfl, rfl⟩

theorem isNaN_nan (x : Nat) (hn : ¬ Num .f64 x) (w : World) :
    Calls Try.prog 69 #[.float .f64 x] w fun e w' => e = .returned (.bool true) ∧ w = w' := by
  have e1 := ne_self_nan .f64 hn
  go_enter Try.func69, Try.ntmps69
  go_wp2
  go_ret
  exact ⟨rfl, rfl⟩

theorem lt_of_wf32 {x : Nat} (h : (Lit.float .f32 x).wf = true) : x < 4294967296 := by
  simp [Lit.wf] at h; exact h
theorem lt_of_wf64 {x : Nat} (h : (Lit.float .f64 x).wf = true) : x < 18446744073709551616 := by
  simp [Lit.wf] at h; exact h
theorem below_drewn (w : World) (n : Nat) : Below w.heap.size w (w.drewN n) := ⟨rfl, rfl, rfl, Nat.le_refl _, fun _ _ => rfl⟩

theorem zero_of_key {a : Nat} (ha : a < 18446744073709551616) (hk : key .f64 a = key .f64 0) : a = 0 ∨ a = 9223372036854775808 := by
  have h0 : key .f64 0 = 0 := by decide
  rw [h0] at hk
  unfold key at hk
  have hr : rung Ieee.double a = 0 := by
    split at hk
    · show rung FloatKind.f64.format a = 0; omega
    · show rung FloatKind.f64.format a = 0; omega
  unfold rung at hr
  rw [sw64] at hr
  omega

theorem sameFloat_num (a : Nat) (ha : a < 18446744073709551616) (hn : Num .f64 a) (w : World) :
    Calls Try.prog 18 #[.float .f64 a, .float .f64 a] w fun e w' => e = .returned (.bool true) ∧ w = w' := by
  by_cases hz : key .f64 a = key .f64 0
  · have d0 : ∀ (t : TypeId) (w : World), (binOp .quo t (.float .f64 4607182418800017408) (.float .f64 0)).run Try.prog w = .ok (.float .f64 9218868437227405312) w := fun t w => run_float_arith w .quo t .f64 _ _ _ (by decide)
    have d1 : ∀ (t : TypeId) (w : World), (binOp .quo t (.float .f64 4607182418800017408) (.float .f64 9223372036854775808)).run Try.prog w = .ok (.float .f64 18442240474082181120) w := fun t w => run_float_arith w .quo t .f64 _ _ _ (by decide)
    rcases zero_of_key ha hz with rfl | rfl
    · have o1 : (FloatKind.f64.format.order 0 0 != some .eq) = false := by decide
      have o2 : (FloatKind.f64.format.order 0 0 == some .eq) = true := by decide
      have o3 : (FloatKind.f64.format.order 9218868437227405312 0 == some .gt) = true := by decide
      go_enter Try.func18, Try.ntmps18
      go_wp2
      go_ret
      exact ⟨rfl, rfl⟩
    · have o1 : (FloatKind.f64.format.order 9223372036854775808 9223372036854775808 != some .eq) = false := by decide
      have o2 : (FloatKind.f64.format.order 9223372036854775808 0 == some .eq) = true := by decide
      have o3 : (FloatKind.f64.format.order 18442240474082181120 0 == some .gt) = false := by decide
      go_enter Try.func18, Try.ntmps18
      go_wp2
      go_ret
      exact ⟨rfl, rfl⟩
  · have o1 := ne_self_num .f64 hn
    have o2 : (FloatKind.f64.format.order a 0 == some .eq) = false := by rw [eq_key .f64 hn (num64.2 (by decide))]; simpa using hz
    have o3 : (FloatKind.f64.format.order a a == some .eq) = true := by rw [eq_key .f64 hn hn]; simp
    clear hz hn ha
    go_enter Try.func18, Try.ntmps18
    go_wp2
    go_ret
    exact ⟨rfl, rfl⟩

theorem sameFloat_nan (a b : Nat) (ha : ¬ Num .f64 a) (hb : ¬ Num .f64 b) (w : World) :
    Calls Try.prog 18 #[.float .f64 a, .float .f64 b] w fun e w' => e = .returned (.bool true) ∧ w = w' := by
  have o1 := ne_self_nan .f64 ha
  have o2 := ne_self_nan .f64 hb
  go_enter Try.func18, Try.ntmps18
  go_wp2
  go_ret
  exact ⟨rfl, rfl⟩
theorem up_lt (x : Nat) : up x < 18446744073709551616 := Ieee.double.write_lt _
/-! ### finite -/
theorem rung_fmt64 (x : Nat) : rung FloatKind.f64.format x = rung Ieee.double x := rfl

theorem l01Finite_fin (x : Nat) (h : rung Ieee.single x < Ieee.single.infRung) (w : World) :
    Calls Try.prog 38 #[.float .f32 x] w fun e w' => e = .returned (.bool true) ∧ ∃ n, w' = w.drewN n := by
  have d : ∀ (t : TypeId) (w : World), (binOp .sub t (.float .f32 x) (.float .f32 x)).run Try.prog w = .ok (.float .f32 0) w := fun t w => run_float_arith w .sub t .f32 _ _ _ (sub_self_fin .f32 h)
  have o : (FloatKind.f32.format.order 0 0 == some .eq) = true := by decide
  clear h
  go_enter Try.func38, Try.ntmps38
  go_wp2
  go_ret
  exact ⟨rfl, 0, rfl⟩

theorem l01Finite_not (x : Nat) (h : ¬ rung Ieee.single x < Ieee.single.infRung) (w : World) :
    Calls Try.prog 38 #[.float .f32 x] w fun e w' => e = .returned (.bool false) ∧ ∃ n, w' = w.drewN n := by
  have hs : floatBits .sub .f32 x x = none := by
    by_cases hn : Num .f32 x
    · exact sub_self_inf .f32 (by unfold Num at hn; show rung Ieee.single x = Ieee.single.infRung; have : rung Ieee.single x ≤ Ieee.single.infRung := hn; omega)
    · exact nan_arith .sub .f32 (.inl hn)
  have d : ∀ (t : TypeId) (w : World), (binOp .sub t (.float .f32 x) (.float .f32 x)).run Try.prog w = .ok (.float .f32 (nanAt (.nanBits .f32 x x) w)) w.drew := fun t w => run_arith_nan w .sub (by simp) t .f32 _ _ hs
  have o : ∀ w, (FloatKind.f32.format.order (nanAt (.nanBits .f32 x x) w) 0 == some .eq) = false := fun w => by rw [order_nan_left .f32 (nanAt_bits32 x x w)]; rfl
  clear h hs
  go_enter Try.func38, Try.ntmps38
  go_wp2
  go_ret
  exact ⟨rfl, 1, rfl⟩

theorem rung64_lt (x : Nat) : rung Ieee.double x < 9223372036854775808 := by
  unfold rung; rw [sw64]; exact Nat.mod_lt _ (by decide)
theorem key_pos {x : Nat} (h : x < 9223372036854775808) : key .f64 x = x ∧ rung Ieee.double x = x := by
  have h1 : x / 9223372036854775808 = 0 := Nat.div_eq_of_lt h
  have h2 : x % 9223372036854775808 = x := Nat.mod_eq_of_lt h
  have hr : rung Ieee.double x = x := by unfold rung; rw [sw64, h2]
  have hs : sgn FloatKind.f64.format x = false := by
    show sgn Ieee.double x = false
    unfold sgn; rw [sw64, h1]; rfl
  unfold key
  rw [hs]
  exact ⟨by show ((rung Ieee.double x : Nat) : Int) = x; rw [hr], hr⟩

/-- '|x| <= c', '|x| < c' of a float64 that is no NaN -/
theorem abs_le {x c : Nat} (hx : Num .f64 x) (hc : c ≤ 9218868437227405312) :
    (FloatKind.f64.format.order (rung Ieee.double x) c == some .lt || FloatKind.f64.format.order (rung Ieee.double x) c == some .eq) = decide (rung Ieee.double x ≤ c) := by
  have h1 := key_pos (rung64_lt x)
  have h2 := key_pos (x := c) (by omega)
  rw [le_key .f64 (num64.2 (by rw [h1.2]; exact num64.1 hx)) (num64.2 (by rw [h2.2]; exact hc)), h1.1, h2.1, Bool.eq_iff_iff]
  simp
theorem abs_lt {x c : Nat} (hx : Num .f64 x) (hc : c ≤ 9218868437227405312) :
    (FloatKind.f64.format.order (rung Ieee.double x) c == some .lt) = decide (rung Ieee.double x < c) := by
  have h1 := key_pos (rung64_lt x)
  have h2 := key_pos (x := c) (by omega)
  rw [lt_key .f64 (num64.2 (by rw [h1.2]; exact num64.1 hx)) (num64.2 (by rw [h2.2]; exact hc)), h1.1, h2.1, Bool.eq_iff_iff]
  simp
theorem abs_ge {x c : Nat} (hx : Num .f64 x) (hc : c ≤ 9218868437227405312) :
    (FloatKind.f64.format.order (rung Ieee.double x) c == some .gt || FloatKind.f64.format.order (rung Ieee.double x) c == some .eq) = decide (c ≤ rung Ieee.double x) := by
  have h1 := key_pos (rung64_lt x)
  have h2 := key_pos (x := c) (by omega)
  rw [ge_key .f64 (num64.2 (by rw [h1.2]; exact num64.1 hx)) (num64.2 (by rw [h2.2]; exact hc)), h1.1, h2.1, Bool.eq_iff_iff]
  simp
theorem abs_nan {x : Nat} (hx : ¬ Num .f64 x) : ¬ Num .f64 (rung Ieee.double x) := by
  have h1 := key_pos (rung64_lt x)
  rw [num64] at *
  rw [h1.2]; exact hx

theorem isFinite_fin (x : Nat) (h : rung Ieee.single x < Ieee.single.infRung) (w : World) :
    Calls Try.prog 40 #[.float .f32 x] w fun e w' => e = .returned (.bool true) ∧ ∃ n, w' = w.drewN n := by
  have hn : Num .f32 x := Nat.le_of_lt h
  have c1 : ∀ w, (convert 28 22 (.float .f32 x)).run Try.prog w = .ok (.float .f64 (up x)) w := fun w => run_up w _ _ hn (by kernel_rfl) Try.underlying22
  have o := abs_le (c := 5183643170566569984) (up_num hn) (by decide)
  have hle : rung Ieee.double (up x) ≤ 5183643170566569984 := by rw [(up_rung hn).1]; exact (upr_fin (num32.1 hn)).2 (by rw [inf32] at h; exact h)
  rw [decide_eq_true hle] at o
  clear h hle
  go_enter Try.func40, Try.ntmps40
  go_wp2_with (go_at_call 47; refine (abs_any _ (up_lt _) _).mono ?_; rintro e w' ⟨rfl, rfl⟩)
  go_ret
  exact ⟨by first | rfl | (rw [o]; rfl) | (simp [o]), 0, rfl⟩

theorem isFinite_not (x : Nat) (h : ¬ rung Ieee.single x < Ieee.single.infRung) (w : World) :
    Calls Try.prog 40 #[.float .f32 x] w fun e w' => e = .returned (.bool false) ∧ ∃ n, w' = w.drewN n := by
  by_cases hn : Num .f32 x
  · have c1 : ∀ w, (convert 28 22 (.float .f32 x)).run Try.prog w = .ok (.float .f64 (up x)) w := fun w => run_up w _ _ hn (by kernel_rfl) Try.underlying22
    have o := abs_le (c := 5183643170566569984) (up_num hn) (by decide)
    have hle : ¬ rung Ieee.double (up x) ≤ 5183643170566569984 := by rw [(up_rung hn).1, upr_fin (num32.1 hn)]; rw [inf32] at h; exact h
    rw [decide_eq_false hle] at o
    clear h hle
    go_enter Try.func40, Try.ntmps40
    go_wp2_with (go_at_call 47; refine (abs_any _ (up_lt _) _).mono ?_; rintro e w' ⟨rfl, rfl⟩)
    go_ret
    exact ⟨by first | rfl | (rw [o]; rfl) | (simp [o]), 0, rfl⟩
  · have c1 : ∀ w, (convert 28 22 (.float .f32 x)).run Try.prog w = .ok (.float .f64 (nanAt (.nanConv .f64 x) w)) w.drew := fun w => run_up_nan w _ _ hn (by kernel_rfl) Try.underlying22
    have hb : ∀ w, nanAt (.nanConv .f64 x) w < 18446744073709551616 := fun w => by
      unfold nanAt Question.cut; simp only []; generalize w.tape w.drawn (Question.nanConv FloatKind.f64 x) = t; rcases Nat.mod_two_eq_zero_or_one t with h | h <;> rw [h] <;> omega
    have o : ∀ w, (FloatKind.f64.format.order (rung Ieee.double (nanAt (.nanConv .f64 x) w)) 5183643170566569984 == some .lt || FloatKind.f64.format.order (rung Ieee.double (nanAt (.nanConv .f64 x) w)) 5183643170566569984 == some .eq) = false := fun w => by
      rw [order_nan_left .f64 (abs_nan (nanAt_conv64 x w))]; rfl
    clear h
    go_enter Try.func40, Try.ntmps40
    go_wp2_with (go_at_call 47; refine (abs_any _ (hb _) _).mono ?_; rintro e w' ⟨rfl, rfl⟩)
    go_ret
    exact ⟨by first | rfl | (rw [o]; rfl) | (simp [o]), 1, rfl⟩

theorem nanAt64_lt (x : Nat) (w : World) : nanAt (.nanConv .f64 x) w < 18446744073709551616 := by
  unfold nanAt Question.cut; simp only []; generalize w.tape w.drawn (Question.nanConv FloatKind.f64 x) = t; rcases Nat.mod_two_eq_zero_or_one t with h | h <;> rw [h] <;> omega

/-! ### comparisons of words that are not below 0 -/
theorem pos_num {x : Nat} (h : x ≤ 9218868437227405312) : Num .f64 x := num64.2 (by rw [(key_pos (x := x) (by omega)).2]; exact h)
theorem pos_lt {x c : Nat} (hx : x ≤ 9218868437227405312) (hc : c ≤ 9218868437227405312) : (FloatKind.f64.format.order x c == some .lt) = decide (x < c) := by
  rw [lt_key .f64 (pos_num hx) (pos_num hc), (key_pos (x := x) (by omega)).1, (key_pos (x := c) (by omega)).1, Bool.eq_iff_iff]; simp
theorem pos_gt {x c : Nat} (hx : x ≤ 9218868437227405312) (hc : c ≤ 9218868437227405312) : (FloatKind.f64.format.order x c == some .gt) = decide (c < x) := by
  rw [gt_key .f64 (pos_num hx) (pos_num hc), (key_pos (x := x) (by omega)).1, (key_pos (x := c) (by omega)).1, Bool.eq_iff_iff]; simp
theorem pos_ge {x c : Nat} (hx : x ≤ 9218868437227405312) (hc : c ≤ 9218868437227405312) : (FloatKind.f64.format.order x c == some .gt || FloatKind.f64.format.order x c == some .eq) = decide (c ≤ x) := by
  rw [ge_key .f64 (pos_num hx) (pos_num hc), (key_pos (x := x) (by omega)).1, (key_pos (x := c) (by omega)).1, Bool.eq_iff_iff]; simp
theorem pos_le {x c : Nat} (hx : x ≤ 9218868437227405312) (hc : c ≤ 9218868437227405312) : (FloatKind.f64.format.order x c == some .lt || FloatKind.f64.format.order x c == some .eq) = decide (x ≤ c) := by
  rw [le_key .f64 (pos_num hx) (pos_num hc), (key_pos (x := x) (by omega)).1, (key_pos (x := c) (by omega)).1, Bool.eq_iff_iff]; simp
theorem pos_eq {x c : Nat} (hx : x ≤ 9218868437227405312) (hc : c ≤ 9218868437227405312) : (FloatKind.f64.format.order x c == some .eq) = decide (x = c) := by
  rw [eq_key .f64 (pos_num hx) (pos_num hc), (key_pos (x := x) (by omega)).1, (key_pos (x := c) (by omega)).1, Bool.eq_iff_iff]; simp; omega

theorem key32_pos {c : Nat} (hc : c ≤ 2139095040) : key .f32 c = c ∧ Num .f32 c := by
  have h1 : c / 2147483648 = 0 := Nat.div_eq_of_lt (by omega)
  have h2 : c % 2147483648 = c := Nat.mod_eq_of_lt (by omega)
  have hsw : Ieee.single.signWeight = 2147483648 := by decide
  have hr : rung Ieee.single c = c := by unfold rung; rw [hsw, h2]
  have hs : sgn FloatKind.f32.format c = false := by
    show sgn Ieee.single c = false
    unfold sgn; rw [hsw, h1]; rfl
  refine ⟨?_, num32.2 (by rw [hr]; exact hc)⟩
  unfold key
  rw [hs]
  show ((rung Ieee.single c : Nat) : Int) = c
  rw [hr]

/-- the bits in a slot: for a loop's measure -/
def fOf : Value → Nat | .float _ b => b | _ => 0
theorem op64 {op : BinOp} {x y r : Nat} (h : floatBits op .f64 x y = some r) (t : TypeId) (w : World) : (binOp op t (.float .f64 x) (.float .f64 y)).run Try.prog w = .ok (.float .f64 r) w := run_float_arith w op t .f64 x y r h
end Go.Proofs.Ytajjepcegpimjaa
