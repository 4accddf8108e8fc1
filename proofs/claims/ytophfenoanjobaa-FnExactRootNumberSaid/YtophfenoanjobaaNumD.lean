/-
  sameFloat answers true of a word with itself, and of two not-a-numbers.
-/
import Derived.Test.YtophfenoanjobaaNumC
namespace Go.Proofs.Ytophfenoanjobaa
open Go.RowKit Fl

theorem zero_of_key {a : Nat} (ha : a < 18446744073709551616) (hk : key .f64 a = key .f64 0) : a = 0 ∨ a = 9223372036854775808 := by
  have h0 : key .f64 0 = 0 := by decide
  rw [h0] at hk
  unfold key at hk
  have hr : rung Ieee.double a = 0 := by
    split at hk
    · show rung FloatKind.f64.format a = 0; omega
    · show rung FloatKind.f64.format a = 0; omega
  unfold rung at hr
  rw [sw64] at hr
  omega

theorem sameFloat_num (a : Nat) (ha : a < 18446744073709551616) (hn : Num .f64 a) (w : World) :
    Calls Try.prog 19 #[.float .f64 a, .float .f64 a] w fun e w' => e = .returned (.bool true) ∧ w = w' := by
  by_cases hz : key .f64 a = key .f64 0
  · have d0 : ∀ (t : TypeId) (w : World), (binOp .quo t (.float .f64 4607182418800017408) (.float .f64 0)).run Try.prog w = .ok (.float .f64 9218868437227405312) w := fun t w => run_float_arith w .quo t .f64 _ _ _ (by decide)
    have d1 : ∀ (t : TypeId) (w : World), (binOp .quo t (.float .f64 4607182418800017408) (.float .f64 9223372036854775808)).run Try.prog w = .ok (.float .f64 18442240474082181120) w := fun t w => run_float_arith w .quo t .f64 _ _ _ (by decide)
    rcases zero_of_key ha hz with rfl | rfl
    · have o1 : (FloatKind.f64.format.order 0 0 != some .eq) = false := by decide
      have o2 : (FloatKind.f64.format.order 0 0 == some .eq) = true := by decide
      have o3 : (FloatKind.f64.format.order 9218868437227405312 0 == some .gt) = true := by decide
      go_enter Try.func19, Try.ntmps19
      go_wp2
      go_ret
      exact ⟨rfl, rfl⟩
    · have o1 : (FloatKind.f64.format.order 9223372036854775808 9223372036854775808 != some .eq) = false := by decide
      have o2 : (FloatKind.f64.format.order 9223372036854775808 0 == some .eq) = true := by decide
      have o3 : (FloatKind.f64.format.order 18442240474082181120 0 == some .gt) = false := by decide
      go_enter Try.func19, Try.ntmps19
      go_wp2
      go_ret
      exact ⟨rfl, rfl⟩
  · have o1 := ne_self_num .f64 hn
    have o2 : (FloatKind.f64.format.order a 0 == some .eq) = false := by rw [eq_key .f64 hn (num64.2 (by decide))]; simpa using hz
    have o3 : (FloatKind.f64.format.order a a == some .eq) = true := by rw [eq_key .f64 hn hn]; simp
    clear hz hn ha
    go_enter Try.func19, Try.ntmps19
    go_wp2
    go_ret
    exact ⟨rfl, rfl⟩

theorem sameFloat_nan (a b : Nat) (ha : ¬ Num .f64 a) (hb : ¬ Num .f64 b) (w : World) :
    Calls Try.prog 19 #[.float .f64 a, .float .f64 b] w fun e w' => e = .returned (.bool true) ∧ w = w' := by
  have o1 := ne_self_nan .f64 ha
  have o2 := ne_self_nan .f64 hb
  go_enter Try.func19, Try.ntmps19
  go_wp2
  go_ret
  exact ⟨rfl, rfl⟩
end Go.Proofs.Ytophfenoanjobaa
