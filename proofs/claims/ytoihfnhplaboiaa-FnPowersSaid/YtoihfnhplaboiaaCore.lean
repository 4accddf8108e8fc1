/-
  Contracts that all laws on floats use: math.Abs, math.IsNaN, IsFinite, sameFloat; comparisons of words; for every word. No condition.
-/
import Derived.Test.YtoihfnhplaboiaaRows
import Derived.Test.YtoihfnhplaboiaaFloats
import Derived.WalkKit
import Derived.WalkLawsBesides
import Derived.Deep.Draws
import Derived.Outline
import Derived.Laws.BitsAllLaws
import Derived.Laws.Bits64
import Derived.Laws.Externs
import Derived.Lib.Hide
namespace Go.Proofs.Ytoihfnhplaboiaa
open Go.RowKit Fl

theorem ne_self_num (k : FloatKind) {x : Nat} (h : Num k x) : (k.format.order x x != some .eq) = false := by rw [ne_key k h h]; simp
theorem ne_self_nan (k : FloatKind) {x : Nat} (h : ¬ Num k x) : (k.format.order x x != some .eq) = true := by rw [order_nan_left k h]; rfl

@[go_sem] theorem run_f64bits (x : Nat) (w : World) : (callFunc 67 #[.float .f64 x]).run Try.prog w = .ok (.value (.int .u64 x)) w := by kernel_rfl
@[go_sem] theorem run_f64from (x : Int) (w : World) : (callFunc 53 #[.int .u64 x]).run Try.prog w = .ok (.value (.float .f64 x.toNat)) w := by kernel_rfl

theorem abs_bits (x : Nat) (hx : x < 18446744073709551616) : (bits BinOp.andNot IntKind.u64 (x : Int) 9223372036854775808).toNat = rung Ieee.double x := by
  rw [show (9223372036854775808 : Int) = ((9223372036854775808 : Nat) : Int) from rfl, u64_andNot_nat x _ hx (by decide), Int.toNat_natCast]
  rw [show 18446744073709551615 - 9223372036854775808 = 2 ^ 63 - 1 by decide, Nat.and_two_pow_sub_one_eq_mod]
  rfl

theorem abs_any (x : Nat) (hx : x < 18446744073709551616) (w : World) :
    Calls Try.prog 52 #[.float .f64 x] w fun e w' => e = .returned (.float .f64 (rung Ieee.double x)) ∧ w = w' := by
  go_enter Try.func52, Try.ntmps52
  go_wp2
  go_ret
  exact ⟨by rw [abs_bits x hx]; rfl, rfl⟩

theorem isNaN_num (x : Nat) (hn : Num .f64 x) (w : World) :
    Calls Try.prog 69 #[.float .f64 x] w fun e w' => e = .returned (.bool false) ∧ w = w' := by
  have e1 := ne_self_num .f64 hn
  go_enter Try.func69, Try.ntmps69
  go_wp2
  go_ret
  exact ⟨rfl, rfl⟩

theorem isNaN_nan (x : Nat) (hn : ¬ Num .f64 x) (w : World) :
    Calls Try.prog 69 #[.float .f64 x] w fun e w' => e = .returned (.bool true) ∧ w = w' := by
  have e1 := ne_self_nan .f64 hn
  go_enter Try.func69, Try.ntmps69
  go_wp2
  go_ret
  exact ⟨rfl, rfl⟩

theorem lt_of_wf32 {x : Nat} (h : (Lit.float .f32 x).wf = true) : x < 4294967296 := by
  simp [Lit.wf] at h; exact h
theorem lt_of_wf64 {x : Nat} (h : (Lit.float .f64 x).wf = true) : x < 18446744073709551616 := by
  simp [Lit.wf] at h; exact h
theorem below_drewn (w : World) (n : Nat) : Below w.heap.size w (w.drewN n) := ⟨rfl, rfl, rfl, Nat.le_refl _, fun _ _ => rfl⟩

theorem up_lt (x : Nat) : up x < 18446744073709551616 := Ieee.double.write_lt _
/-! ### finite -/
theorem rung_fmt64 (x : Nat) : rung FloatKind.f64.format x = rung Ieee.double x := rfl

theorem rung64_lt (x : Nat) : rung Ieee.double x < 9223372036854775808 := by
  unfold rung; rw [sw64]; exact Nat.mod_lt _ (by decide)
theorem key_pos {x : Nat} (h : x < 9223372036854775808) : key .f64 x = x ∧ rung Ieee.double x = x := by
  have h1 : x / 9223372036854775808 = 0 := Nat.div_eq_of_lt h
  have h2 : x % 9223372036854775808 = x := Nat.mod_eq_of_lt h
  have hr : rung Ieee.double x = x := by unfold rung; rw [sw64, h2]
  have hs : sgn FloatKind.f64.format x = false := by
    show sgn Ieee.double x = false
    unfold sgn; rw [sw64, h1]; rfl
  unfold key
  rw [hs]
  exact ⟨by show ((rung Ieee.double x : Nat) : Int) = x; rw [hr], hr⟩

/-- '|x| <= c', '|x| < c' of a float64 that is no NaN -/
theorem abs_le {x c : Nat} (hx : Num .f64 x) (hc : c ≤ 9218868437227405312) :
    (FloatKind.f64.format.order (rung Ieee.double x) c == some .lt || FloatKind.f64.format.order (rung Ieee.double x) c == some .eq) = decide (rung Ieee.double x ≤ c) := by
  have h1 := key_pos (rung64_lt x)
  have h2 := key_pos (x := c) (by omega)
  rw [le_key .f64 (num64.2 (by rw [h1.2]; exact num64.1 hx)) (num64.2 (by rw [h2.2]; exact hc)), h1.1, h2.1, Bool.eq_iff_iff]
  simp
theorem abs_lt {x c : Nat} (hx : Num .f64 x) (hc : c ≤ 9218868437227405312) :
    (FloatKind.f64.format.order (rung Ieee.double x) c == some .lt) = decide (rung Ieee.double x < c) := by
  have h1 := key_pos (rung64_lt x)
  have h2 := key_pos (x := c) (by omega)
  rw [lt_key .f64 (num64.2 (by rw [h1.2]; exact num64.1 hx)) (num64.2 (by rw [h2.2]; exact hc)), h1.1, h2.1, Bool.eq_iff_iff]
  simp
theorem abs_ge {x c : Nat} (hx : Num .f64 x) (hc : c ≤ 9218868437227405312) :
    (FloatKind.f64.format.order (rung Ieee.double x) c == some .gt || FloatKind.f64.format.order (rung Ieee.double x) c == some .eq) = decide (c ≤ rung Ieee.double x) := by
  have h1 := key_pos (rung64_lt x)
  have h2 := key_pos (x := c) (by omega)
  rw [ge_key .f64 (num64.2 (by rw [h1.2]; exact num64.1 hx)) (num64.2 (by rw [h2.2]; exact hc)), h1.1, h2.1, Bool.eq_iff_iff]
  simp
theorem abs_nan {x : Nat} (hx : ¬ Num .f64 x) : ¬ Num .f64 (rung Ieee.double x) := by
  have h1 := key_pos (rung64_lt x)
  rw [num64] at *
  rw [h1.2]; exact hx

theorem isFinite_fin (x : Nat) (h : rung Ieee.single x < Ieee.single.infRung) (w : World) :
    Calls Try.prog 37 #[.float .f32 x] w fun e w' => e = .returned (.bool true) ∧ ∃ n, w' = w.drewN n := by
  have hn : Num .f32 x := Nat.le_of_lt h
  have c1 : ∀ w, (convert 28 27 (.float .f32 x)).run Try.prog w = .ok (.float .f64 (up x)) w := fun w => run_up w _ _ hn (by kernel_rfl) Try.underlying27
  have o := abs_le (c := 5183643170566569984) (up_num hn) (by decide)
  have hle : rung Ieee.double (up x) ≤ 5183643170566569984 := by rw [(up_rung hn).1]; exact (upr_fin (num32.1 hn)).2 (by rw [inf32] at h; exact h)
  rw [decide_eq_true hle] at o
  clear h hle
  go_enter Try.func37, Try.ntmps37
  go_wp2_with (go_at_call 52; refine (abs_any _ (up_lt _) _).mono ?_; rintro e w' ⟨rfl, rfl⟩)
  go_ret
  exact ⟨by first | rfl | (rw [o]; rfl) | (simp [o]), 0, rfl⟩

theorem isFinite_not (x : Nat) (h : ¬ rung Ieee.single x < Ieee.single.infRung) (w : World) :
    Calls Try.prog 37 #[.float .f32 x] w fun e w' => e = .returned (.bool false) ∧ ∃ n, w' = w.drewN n := by
  by_cases hn : Num .f32 x
  · have c1 : ∀ w, (convert 28 27 (.float .f32 x)).run Try.prog w = .ok (.float .f64 (up x)) w := fun w => run_up w _ _ hn (by kernel_rfl) Try.underlying27
    have o := abs_le (c := 5183643170566569984) (up_num hn) (by decide)
    have hle : ¬ rung Ieee.double (up x) ≤ 5183643170566569984 := by rw [(up_rung hn).1, upr_fin (num32.1 hn)]; rw [inf32] at h; exact h
    rw [decide_eq_false hle] at o
    clear h hle
    go_enter Try.func37, Try.ntmps37
    go_wp2_with (go_at_call 52; refine (abs_any _ (up_lt _) _).mono ?_; rintro e w' ⟨rfl, rfl⟩)
    go_ret
    exact ⟨by first | rfl | (rw [o]; rfl) | (simp [o]), 0, rfl⟩
  · have c1 : ∀ w, (convert 28 27 (.float .f32 x)).run Try.prog w = .ok (.float .f64 (nanAt (.nanConv .f64 x) w)) w.drew := fun w => run_up_nan w _ _ hn (by kernel_rfl) Try.underlying27
    have hb : ∀ w, nanAt (.nanConv .f64 x) w < 18446744073709551616 := fun w => by
      unfold nanAt Question.cut; simp only []; generalize w.tape w.drawn (Question.nanConv FloatKind.f64 x) = t; rcases Nat.mod_two_eq_zero_or_one t with h | h <;> rw [h] <;> omega
    have o : ∀ w, (FloatKind.f64.format.order (rung Ieee.double (nanAt (.nanConv .f64 x) w)) 5183643170566569984 == some .lt || FloatKind.f64.format.order (rung Ieee.double (nanAt (.nanConv .f64 x) w)) 5183643170566569984 == some .eq) = false := fun w => by
      rw [order_nan_left .f64 (abs_nan (nanAt_conv64 x w))]; rfl
    clear h
    go_enter Try.func37, Try.ntmps37
    go_wp2_with (go_at_call 52; refine (abs_any _ (hb _) _).mono ?_; rintro e w' ⟨rfl, rfl⟩)
    go_ret
    exact ⟨by first | rfl | (rw [o]; rfl) | (simp [o]), 1, rfl⟩

theorem nanAt64_lt (x : Nat) (w : World) : nanAt (.nanConv .f64 x) w < 18446744073709551616 := by
  unfold nanAt Question.cut; simp only []; generalize w.tape w.drawn (Question.nanConv FloatKind.f64 x) = t; rcases Nat.mod_two_eq_zero_or_one t with h | h <;> rw [h] <;> omega

/-! ### comparisons of words that are not below 0 -/
theorem pos_num {x : Nat} (h : x ≤ 9218868437227405312) : Num .f64 x := num64.2 (by rw [(key_pos (x := x) (by omega)).2]; exact h)
theorem pos_lt {x c : Nat} (hx : x ≤ 9218868437227405312) (hc : c ≤ 9218868437227405312) : (FloatKind.f64.format.order x c == some .lt) = decide (x < c) := by
  rw [lt_key .f64 (pos_num hx) (pos_num hc), (key_pos (x := x) (by omega)).1, (key_pos (x := c) (by omega)).1, Bool.eq_iff_iff]; simp
theorem pos_gt {x c : Nat} (hx : x ≤ 9218868437227405312) (hc : c ≤ 9218868437227405312) : (FloatKind.f64.format.order x c == some .gt) = decide (c < x) := by
  rw [gt_key .f64 (pos_num hx) (pos_num hc), (key_pos (x := x) (by omega)).1, (key_pos (x := c) (by omega)).1, Bool.eq_iff_iff]; simp
theorem pos_ge {x c : Nat} (hx : x ≤ 9218868437227405312) (hc : c ≤ 9218868437227405312) : (FloatKind.f64.format.order x c == some .gt || FloatKind.f64.format.order x c == some .eq) = decide (c ≤ x) := by
  rw [ge_key .f64 (pos_num hx) (pos_num hc), (key_pos (x := x) (by omega)).1, (key_pos (x := c) (by omega)).1, Bool.eq_iff_iff]; simp
theorem pos_le {x c : Nat} (hx : x ≤ 9218868437227405312) (hc : c ≤ 9218868437227405312) : (FloatKind.f64.format.order x c == some .lt || FloatKind.f64.format.order x c == some .eq) = decide (x ≤ c) := by
  rw [le_key .f64 (pos_num hx) (pos_num hc), (key_pos (x := x) (by omega)).1, (key_pos (x := c) (by omega)).1, Bool.eq_iff_iff]; simp
theorem pos_eq {x c : Nat} (hx : x ≤ 9218868437227405312) (hc : c ≤ 9218868437227405312) : (FloatKind.f64.format.order x c == some .eq) = decide (x = c) := by
  rw [eq_key .f64 (pos_num hx) (pos_num hc), (key_pos (x := x) (by omega)).1, (key_pos (x := c) (by omega)).1, Bool.eq_iff_iff]; simp; omega

theorem key32_pos {c : Nat} (hc : c ≤ 2139095040) : key .f32 c = c ∧ Num .f32 c := by
  have h1 : c / 2147483648 = 0 := Nat.div_eq_of_lt (by omega)
  have h2 : c % 2147483648 = c := Nat.mod_eq_of_lt (by omega)
  have hsw : Ieee.single.signWeight = 2147483648 := by decide
  have hr : rung Ieee.single c = c := by unfold rung; rw [hsw, h2]
  have hs : sgn FloatKind.f32.format c = false := by
    show sgn Ieee.single c = false
    unfold sgn; rw [hsw, h1]; rfl
  refine ⟨?_, num32.2 (by rw [hr]; exact hc)⟩
  unfold key
  rw [hs]
  show ((rung Ieee.single c : Nat) : Int) = c
  rw [hr]

/-- the bits in a slot: for a loop's measure -/
def fOf : Value → Nat | .float _ b => b | _ => 0
theorem op64 {op : BinOp} {x y r : Nat} (h : floatBits op .f64 x y = some r) (t : TypeId) (w : World) : (binOp op t (.float .f64 x) (.float .f64 y)).run Try.prog w = .ok (.float .f64 r) w := run_float_arith w op t .f64 x y r h
end Go.Proofs.Ytoihfnhplaboiaa
