/-
  Contracts of math.Abs, math.IsNaN, sameFloat and the like, for every word.
-/
import Derived.Test.YtophfenoanjobaaNumA
import Derived.Laws.BitsAllLaws
import Derived.Laws.Bits64
namespace Go.Proofs.Ytophfenoanjobaa
open Go.RowKit Fl

@[go_sem] theorem run_f64bits (x : Nat) (w : World) : (callFunc 43 #[.float .f64 x]).run Try.prog w = .ok (.value (.int .u64 x)) w := by kernel_rfl
@[go_sem] theorem run_f64from (x : Int) (w : World) : (callFunc 42 #[.int .u64 x]).run Try.prog w = .ok (.value (.float .f64 x.toNat)) w := by kernel_rfl

theorem abs_bits (x : Nat) (hx : x < 18446744073709551616) : (bits BinOp.andNot IntKind.u64 (x : Int) 9223372036854775808).toNat = rung Ieee.double x := by
  rw [show (9223372036854775808 : Int) = ((9223372036854775808 : Nat) : Int) from rfl, u64_andNot_nat x _ hx (by decide), Int.toNat_natCast]
  rw [show 18446744073709551615 - 9223372036854775808 = 2 ^ 63 - 1 by decide, Nat.and_two_pow_sub_one_eq_mod]
  rfl

theorem abs_any (x : Nat) (hx : x < 18446744073709551616) (w : World) :
    Calls Try.prog 30 #[.float .f64 x] w fun e w' => e = .returned (.float .f64 (rung Ieee.double x)) ∧ w = w' := by
  go_enter Try.func30, Try.ntmps30
  go_wp2
  go_ret
  exact ⟨by rw [abs_bits x hx]; rfl, rfl⟩

theorem isNaN_num (x : Nat) (hn : Num .f64 x) (w : World) :
    Calls Try.prog 32 #[.float .f64 x] w fun e w' => e = .returned (.bool false) ∧ w = w' := by
  have e1 := ne_self_num .f64 hn
  go_enter Try.func32, Try.ntmps32
  go_wp2
  go_ret
  exact ⟨rfl, rfl⟩

theorem isNaN_nan (x : Nat) (hn : ¬ Num .f64 x) (w : World) :
    Calls Try.prog 32 #[.float .f64 x] w fun e w' => e = .returned (.bool true) ∧ w = w' := by
  have e1 := ne_self_nan .f64 hn
  go_enter Try.func32, Try.ntmps32
  go_wp2
  go_ret
  exact ⟨rfl, rfl⟩

theorem bitsOf_any (x : Nat) (hx : x < 4294967296) (w : World) :
    Calls Try.prog 16 #[.float .f32 x] w fun e w' => e = .returned (.int .i64 (bts x)) ∧ ∃ n, w' = w.drewN n := by
  by_cases hn : Num .f32 x
  · have c1 : ∀ w, (convert 22 29 (.float .f32 x)).run Try.prog w = .ok (.float .f64 (up x)) w := fun w => run_up w _ _ hn (by kernel_rfl) Try.underlying29
    rw [bts_num hn]
    go_enter Try.func16, Try.ntmps16
    go_wp2_with (go_at_call 32; refine (isNaN_num _ (up_num hn) _).mono ?_; rintro e w' ⟨rfl, rfl⟩)
    go_ret
    exact ⟨rfl, 0, rfl⟩
  · have c1 : ∀ w, (convert 22 29 (.float .f32 x)).run Try.prog w = .ok (.float .f64 (nanAt (.nanConv .f64 x) w)) w.drew := fun w => run_up_nan w _ _ hn (by kernel_rfl) Try.underlying29
    rw [bts_nan hn]
    go_enter Try.func16, Try.ntmps16
    go_wp2_with (go_at_call 32; refine (isNaN_nan _ (nanAt_conv64 _ _) _).mono ?_; rintro e w' ⟨rfl, rfl⟩)
    go_ret
    exact ⟨rfl, 1, rfl⟩

theorem l01Same_any (x y : Nat) (hx : x < 4294967296) (hy : y < 4294967296) (w : World) :
    Calls Try.prog 28 #[.float .f32 x, .float .f32 y] w fun e w' => e = .returned (.bool (bts x == bts y)) ∧ w = w' := by
  go_enter Try.func28, Try.ntmps28
  go_wp2_with (go_at_call 31; refine (l01Bits_any _ (by assumption) _).mono ?_; rintro e w' ⟨rfl, rfl⟩)
  go_ret
  exact ⟨rfl, rfl⟩

theorem sameNumber_any (x y : Nat) (hx : x < 4294967296) (hy : y < 4294967296) (w : World) :
    Calls Try.prog 12 #[.float .f32 x, .float .f32 y] w fun e w' => e = .returned (.bool (bts x == bts y)) ∧ ∃ n, w' = w.drewN n := by
  go_enter Try.func12, Try.ntmps12
  go_wp2_with (go_at_call 16; refine (bitsOf_any _ (by assumption) _).mono ?_; rintro e w' ⟨rfl, n, rfl⟩)
  go_ret
  exact ⟨rfl, _, rfl⟩
end Go.Proofs.Ytophfenoanjobaa
