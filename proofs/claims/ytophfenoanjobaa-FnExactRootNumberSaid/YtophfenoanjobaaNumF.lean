/-
  The walks of the laws on IsSubnormal, FlushNumber and RootNumber.
-/
import Derived.Test.YtophfenoanjobaaNumE
import Derived.Deep.QuietTactic
import Derived.BigQuiet
import Derived.Laws.Externs
namespace Go.Proofs.Ytophfenoanjobaa
open Go.RowKit Fl

theorem i64_and_nat (a b : Nat) (ha : a < 9223372036854775808) (hb : b < 9223372036854775808) : bits .and .i64 (a : Int) (b : Int) = ((a &&& b : Nat) : Int) := by
  have h1 : (BitVec.ofInt 64 (a : Int)).toNat = a := by rw [BitVec.toNat_ofInt]; omega
  have h2 : (BitVec.ofInt 64 (b : Int)).toNat = b := by rw [BitVec.toNat_ofInt]; omega
  show IntKind.i64.wrap ((BitVec.ofInt 64 (a : Int) &&& BitVec.ofInt 64 (b : Int)).toNat : Int) = _
  rw [BitVec.toNat_and, h1, h2, IntKind.wrap_i64]
  have : a &&& b ≤ a := Nat.and_le_left
  omega

theorem mask_exp (a : Nat) (ha : a < 4294967296) : bits .and .i64 (a : Int) 2139095040 = ((rung Ieee.single a / 8388608 * 8388608 : Nat) : Int) := by
  rw [show (2139095040 : Int) = ((2139095040 : Nat) : Int) from rfl, i64_and_nat a _ (by omega) (by decide)]
  have h := nat_midmask 31 23 a (by decide)
  rw [show (2 : Nat) ^ 31 - 2 ^ 23 = 2139095040 by decide, show (2 : Nat) ^ 31 = 2147483648 by decide, show (2 : Nat) ^ 23 = 8388608 by decide] at h
  rw [h]
  rfl

theorem mask_sign (a : Nat) (ha : a < 4294967296) : bits .and .i64 (a : Int) 2147483648 = ((a / 2147483648 * 2147483648 : Nat) : Int) := by
  rw [show (2147483648 : Int) = ((2147483648 : Nat) : Int) from rfl, i64_and_nat a _ (by omega) (by decide)]
  have h := nat_bit 31 a
  rw [show (2 : Nat) ^ 31 = 2147483648 by decide] at h
  have h2 : a / 2147483648 % 2 = a / 2147483648 := Nat.mod_eq_of_lt (by omega)
  rw [h, h2]

theorem zero32 {x : Nat} (hn : Num .f32 x) : (FloatKind.f32.format.order x 0 != some .eq) = decide (0 < rung Ieee.single x) := by
  rw [ne_key .f32 hn (num32.2 (by decide)), Bool.eq_iff_iff]
  have h0 : key .f32 0 = 0 := by decide
  rw [h0]
  unfold key
  simp only [decide_eq_true_eq]
  show (if sgn Ieee.single x then -(rung Ieee.single x : Int) else (rung Ieee.single x : Int)) ≠ 0 ↔ 0 < rung Ieee.single x
  cases sgn Ieee.single x
  · simp; omega
  · simp; omega

theorem rung_lt (x : Nat) : rung Ieee.single x < 2147483648 := by
  unfold rung; rw [show Ieee.single.signWeight = 2147483648 by decide]; exact Nat.mod_lt _ (by decide)

/-- below 2 to the power of -126, and not zero -/
def sub (x : Nat) : Bool := decide (0 < rung Ieee.single x ∧ rung Ieee.single x < 8388608)

theorem specSub_any (x : Nat) (hx : x < 4294967296) (w : World) :
    Calls Try.prog 24 #[.float .f32 x] w fun e w' => e = .returned (.bool (sub x)) ∧ w = w' := by
  by_cases hn : Num .f32 x
  · by_cases hz : 0 < rung Ieee.single x
    · have e1 : (FloatKind.f32.format.order x 0 != some .eq) = true := by rw [zero32 hn]; simpa using hz
      have e2 : (bits .and .i64 (bts x) 2139095040 == 0) = sub x := by
        rw [bts_num hn, mask_exp x hx]
        unfold sub
        rw [Bool.eq_iff_iff]
        simp only [beq_iff_eq, decide_eq_true_eq]
        omega
      clear hn hz
      go_enter Try.func24, Try.ntmps24
      go_wp2_with (go_at_call 31; refine (l01Bits_any _ hx _).mono ?_; rintro e w' ⟨rfl, rfl⟩)
      go_ret
      exact ⟨rfl, rfl⟩
    · have e1 : (FloatKind.f32.format.order x 0 != some .eq) = false := by rw [zero32 hn]; simpa using hz
      have e2 : sub x = false := by unfold sub; simp only [decide_eq_false_iff_not]; omega
      rw [e2]
      clear hn hz e2
      go_enter Try.func24, Try.ntmps24
      go_wp2
      go_ret
      exact ⟨rfl, rfl⟩
  · have e1 := order_nan_left .f32 hn 0
    have e1 : (FloatKind.f32.format.order x 0 != some .eq) = true := by rw [e1]; rfl
    have e2 : (bits .and .i64 (bts x) 2139095040 == 0) = false := by
      rw [bts_nan hn]
      have := mask_exp 2143289344 (by decide)
      rw [show (2143289344 : Int) = ((2143289344 : Nat) : Int) from rfl, this]; decide
    have e3 : sub x = false := by
      unfold sub; simp only [decide_eq_false_iff_not]
      rw [num32] at hn; omega
    rw [e3]
    clear hn e3
    go_enter Try.func24, Try.ntmps24
    go_wp2_with (go_at_call 31; refine (l01Bits_any _ hx _).mono ?_; rintro e w' ⟨rfl, rfl⟩)
    go_ret
    exact ⟨rfl, rfl⟩

theorem nanAt64_lt (x : Nat) (w : World) : nanAt (.nanConv .f64 x) w < 18446744073709551616 := by
  unfold nanAt Question.cut; simp only []; generalize w.tape w.drawn (Question.nanConv FloatKind.f64 x) = t; rcases Nat.mod_two_eq_zero_or_one t with h | h <;> rw [h] <;> omega

theorem implSub_any (x : Nat) (w : World) :
    Calls Try.prog 25 #[.float .f32 x] w fun e w' => e = .returned (.bool (sub x)) ∧ ∃ n, w' = w.drewN n := by
  by_cases hn : Num .f32 x
  · by_cases hz : 0 < rung Ieee.single x
    · have c1 : ∀ w, (convert 22 29 (.float .f32 x)).run Try.prog w = .ok (.float .f64 (up x)) w := fun w => run_up w _ _ hn (by kernel_rfl) Try.underlying29
      have e1 : (FloatKind.f32.format.order x 0 != some .eq) = true := by rw [zero32 hn]; simpa using hz
      have o : (FloatKind.f64.format.order (rung Ieee.double (up x)) 4039728865751334912 == some .lt) = sub x := by
        rw [abs_lt (c := 4039728865751334912) (up_num hn) (by decide), (up_rung hn).1]
        unfold sub
        rw [Bool.eq_iff_iff]
        simp only [decide_eq_true_eq]
        rw [upr_small (num32.1 hn)]
        omega
      clear hn hz
      go_enter Try.func25, Try.ntmps25
      go_wp2_with (go_at_call 30; refine (abs_any _ (up_lt _) _).mono ?_; rintro e w' ⟨rfl, rfl⟩)
      go_ret
      exact ⟨rfl, 0, rfl⟩
    · have e1 : (FloatKind.f32.format.order x 0 != some .eq) = false := by rw [zero32 hn]; simpa using hz
      have e2 : sub x = false := by unfold sub; simp only [decide_eq_false_iff_not]; omega
      rw [e2]
      clear hn hz e2
      go_enter Try.func25, Try.ntmps25
      go_wp2
      go_ret
      exact ⟨rfl, 0, rfl⟩
  · have c1 : ∀ w, (convert 22 29 (.float .f32 x)).run Try.prog w = .ok (.float .f64 (nanAt (.nanConv .f64 x) w)) w.drew := fun w => run_up_nan w _ _ hn (by kernel_rfl) Try.underlying29
    have e1 : (FloatKind.f32.format.order x 0 != some .eq) = true := by rw [order_nan_left .f32 hn 0]; rfl
    have o : ∀ w, (FloatKind.f64.format.order (rung Ieee.double (nanAt (.nanConv .f64 x) w)) 4039728865751334912 == some .lt) = false := fun w => by
      rw [order_nan_left .f64 (abs_nan (nanAt_conv64 x w))]; rfl
    have e3 : sub x = false := by
      unfold sub; simp only [decide_eq_false_iff_not]
      rw [num32] at hn; omega
    rw [e3]
    clear hn e3
    go_enter Try.func25, Try.ntmps25
    go_wp2_with (go_at_call 30; refine (abs_any _ (nanAt64_lt _ _) _).mono ?_; rintro e w' ⟨rfl, rfl⟩)
    go_ret
    exact ⟨rfl, 1, rfl⟩

theorem walk_fnExactIsSubnormal (a0 : Nat) (w : World) (w0 : (Lit.float .f32 a0).wf = true) :
    Calls Try.prog 9 #[.float .f32 a0] w fun e w' => e = .returned (.bool true) ∧ Below w.heap.size w w' := by
  have h0 := lt_of_wf32 w0
  go_enter Try.func9, Try.ntmps9
  go_wp2_with (first | (go_at_call 24; refine (specSub_any _ h0 _).mono ?_; rintro e w' ⟨rfl, rfl⟩) | (go_at_call 25; refine (implSub_any _ _).mono ?_; rintro e w' ⟨rfl, n, rfl⟩))
  go_ret
  exact ⟨rfl, below_drewn _ _⟩

/-! ### flushed -/
theorem l01Flush_sub (x : Nat) (hx : x < 4294967296) (h : rung Ieee.single x < 8388608) (w : World) :
    Calls Try.prog 40 #[.float .f32 x] w fun e w' => e = .returned (.float .f32 (x / 2147483648 * 2147483648)) ∧ w = w' := by
  have hn : Num .f32 x := num32.2 (by omega)
  have e2 : (bits .and .i64 (bts x) 2139095040 == 0) = true := by
    rw [bts_num hn, mask_exp x hx, show rung Ieee.single x / 8388608 = 0 by omega]; rfl
  have e3 : bits .and .i64 (bts x) 2147483648 = ((x / 2147483648 * 2147483648 : Nat) : Int) := by rw [bts_num hn, mask_sign x hx]
  have e4 : (((x / 2147483648 * 2147483648 : Nat) : Int) % 4294967296).toNat = x / 2147483648 * 2147483648 := by omega
  clear hn h
  generalize x / 2147483648 * 2147483648 = z at *
  go_enter Try.func40, Try.ntmps40
  go_wp2_with (first | (go_at_call 31; refine (l01Bits_any _ hx _).mono ?_; rintro e w' ⟨rfl, rfl⟩) | go_in)
  go_ret
  exact ⟨by first | rfl | (simp only [e4]; rfl), rfl⟩

theorem l01Flush_not (x : Nat) (hx : x < 4294967296) (h : ¬ rung Ieee.single x < 8388608) (w : World) :
    Calls Try.prog 40 #[.float .f32 x] w fun e w' => e = .returned (.float .f32 x) ∧ w = w' := by
  have e2 : (bits .and .i64 (bts x) 2139095040 == 0) = false := by
    by_cases hn : Num .f32 x
    · rw [bts_num hn, mask_exp x hx]; simp; omega
    · rw [bts_nan hn]
      have := mask_exp 2143289344 (by decide)
      rw [show (2143289344 : Int) = ((2143289344 : Nat) : Int) from rfl, this]; decide
  clear h
  go_enter Try.func40, Try.ntmps40
  go_wp2_with (go_at_call 31; refine (l01Bits_any _ hx _).mono ?_; rintro e w' ⟨rfl, rfl⟩)
  go_ret
  exact ⟨rfl, rfl⟩

theorem copysign_zero (x : Nat) (hx : x < 18446744073709551616) (w : World) :
    Calls Try.prog 41 #[.float .f64 0, .float .f64 x] w fun e w' => e = .returned (.float .f64 (x / 9223372036854775808 * 9223372036854775808)) ∧ w = w' := by
  have e1 : bits .andNot .u64 0 9223372036854775808 = 0 := by decide
  have e2 : bits .and .u64 (x : Int) 9223372036854775808 = ((x / 9223372036854775808 * 9223372036854775808 : Nat) : Int) := by
    rw [show (9223372036854775808 : Int) = ((9223372036854775808 : Nat) : Int) from rfl, u64_and_nat x _ hx (by decide)]
    have h := nat_bit 63 x
    rw [show (2 : Nat) ^ 63 = 9223372036854775808 by decide] at h
    have h2 : x / 9223372036854775808 % 2 = x / 9223372036854775808 := Nat.mod_eq_of_lt (by omega)
    rw [h, h2]
  have e3 : bits .or .u64 0 ((x / 9223372036854775808 * 9223372036854775808 : Nat) : Int) = ((x / 9223372036854775808 * 9223372036854775808 : Nat) : Int) := by
    have := u64_or_nat 0 (x / 9223372036854775808 * 9223372036854775808) (by decide) (by omega)
    rw [Nat.zero_or] at this
    exact this
  generalize x / 9223372036854775808 * 9223372036854775808 = z at *
  go_enter Try.func41, Try.ntmps41
  go_wp2
  go_ret
  exact ⟨by first | rfl | (simp [e1, e2, e3]), rfl⟩

theorem sub_false_of {x : Nat} (h : rung Ieee.single x = 0) : sub x = false := by
  unfold sub; simp only [decide_eq_false_iff_not]; omega

/-- what the program makes of a word -/
def flu (x : Nat) : Nat := if sub x then x / 2147483648 * 2147483648 else x

theorem sgn32_of {x : Nat} (hx : x < 4294967296) : sgn Ieee.single x = decide (2147483648 ≤ x) := by
  unfold sgn
  rw [show Ieee.single.signWeight = 2147483648 by decide, Bool.eq_iff_iff]
  simp
  omega
theorem sgn64_of {x : Nat} (hx : x < 18446744073709551616) : sgn Ieee.double x = decide (9223372036854775808 ≤ x) := by
  unfold sgn
  rw [sw64, Bool.eq_iff_iff]
  simp
  omega

theorem div_hi {x : Nat} (hx : x < 4294967296) (h : 2147483648 ≤ x) : x / 2147483648 * 2147483648 = 2147483648 := by omega
theorem div_lo {x : Nat} (h : ¬ 2147483648 ≤ x) : x / 2147483648 * 2147483648 = 0 := by omega

theorem flush_any (x : Nat) (hx : x < 4294967296) (w : World) :
    Calls Try.prog 27 #[.float .f32 x] w fun e w' => e = .returned (.float .f32 (flu x)) ∧ ∃ n, w' = w.drewN n := by
  cases hs : sub x
  · have e1 : flu x = x := by unfold flu; rw [hs]; rfl
    rw [e1]
    clear e1
    go_enter Try.func27, Try.ntmps27
    go_wp2_with (go_at_call 25; refine (implSub_any _ _).mono ?_; rintro e w' ⟨rfl, n, rfl⟩)
    go_ret
    exact ⟨rfl, _, rfl⟩
  · have e1 : flu x = x / 2147483648 * 2147483648 := by unfold flu; rw [hs]; rfl
    have hr : rung Ieee.single x < 8388608 := by unfold sub at hs; simp only [decide_eq_true_eq] at hs; omega
    have hn : Num .f32 x := num32.2 (by omega)
    have c1 : ∀ w, (convert 22 29 (.float .f32 x)).run Try.prog w = .ok (.float .f64 (up x)) w := fun w => run_up w _ _ hn (by kernel_rfl) Try.underlying29
    have c2 : ∀ w, (convert 29 22 (.float .f64 (up x / 9223372036854775808 * 9223372036854775808))).run Try.prog w = .ok (.float .f32 (x / 2147483648 * 2147483648)) w := by
      intro w
      have hsg := (up_rung hn).2
      rw [sgn32_of hx, sgn64_of (up_lt x)] at hsg
      have hsg : (9223372036854775808 ≤ up x) ↔ (2147483648 ≤ x) := by simpa using hsg
      have hu := up_lt x
      generalize up x = u at *
      by_cases h : 2147483648 ≤ x
      · have h1 : u / 9223372036854775808 * 9223372036854775808 = 9223372036854775808 := by have := hsg.2 h; omega
        have h2 := div_hi hx h
        rw [h1, h2]
        exact run_convert_float_float w _ _ .f64 .f32 _ _ (by kernel_rfl) Try.underlying22 (by decide)
      · have h1 : u / 9223372036854775808 * 9223372036854775808 = 0 := by have : ¬ 9223372036854775808 ≤ u := fun hh => h (hsg.1 hh); omega
        have h2 := div_lo h
        rw [h1, h2]
        exact run_convert_float_float w _ _ .f64 .f32 _ _ (by kernel_rfl) Try.underlying22 (by decide)
    rw [e1]
    clear e1 hr hn
    go_enter Try.func27, Try.ntmps27
    go_wp2_with (first | (go_at_call 25; refine (implSub_any _ _).mono ?_; rintro e w' ⟨rfl, n, rfl⟩) | (go_at_call 41; refine (copysign_zero _ (up_lt _) _).mono ?_; rintro e w' ⟨rfl, rfl⟩))
    go_ret
    exact ⟨rfl, _, rfl⟩

theorem flu_lt {x : Nat} (hx : x < 4294967296) : flu x < 4294967296 := by
  unfold flu; split <;> omega

/-- the model flushes a zero, too: it stays what it is -/
theorem flu_zero {x : Nat} (hx : x < 4294967296) (h : rung Ieee.single x < 8388608) : flu x = x / 2147483648 * 2147483648 := by
  unfold flu
  by_cases hz : rung Ieee.single x = 0
  · rw [sub_false_of hz]
    unfold rung at hz
    rw [show Ieee.single.signWeight = 2147483648 by decide] at hz
    simp only [Bool.false_eq_true, if_false]
    omega
  · have : sub x = true := by unfold sub; simp only [decide_eq_true_eq]; omega
    rw [this]; rfl
theorem flu_not {x : Nat} (h : ¬ rung Ieee.single x < 8388608) : flu x = x := by
  unfold flu
  have : sub x = false := by unfold sub; simp only [decide_eq_false_iff_not]; omega
  rw [this]; rfl

theorem specFlush_any (x : Nat) (hx : x < 4294967296) (w : World) :
    Calls Try.prog 26 #[.float .f32 x] w fun e w' => e = .returned (.float .f32 (flu x)) ∧ w = w' := by
  by_cases h : rung Ieee.single x < 8388608
  · rw [flu_zero hx h]
    go_enter Try.func26, Try.ntmps26
    go_wp2_with (go_at_call 40; refine (l01Flush_sub _ hx h _).mono ?_; rintro e w' ⟨rfl, rfl⟩)
    go_ret
    exact ⟨rfl, rfl⟩
  · rw [flu_not h]
    go_enter Try.func26, Try.ntmps26
    go_wp2_with (go_at_call 40; refine (l01Flush_not _ hx h _).mono ?_; rintro e w' ⟨rfl, rfl⟩)
    go_ret
    exact ⟨rfl, rfl⟩

theorem walk_fnExactFlushNumber (a0 : Nat) (w : World) (w0 : (Lit.float .f32 a0).wf = true) :
    Calls Try.prog 10 #[.float .f32 a0] w fun e w' => e = .returned (.bool true) ∧ Below w.heap.size w w' := by
  have h0 := lt_of_wf32 w0
  by_cases hn : Num .f32 (flu a0)
  · have c1 : ∀ w, (convert 22 29 (.float .f32 (flu a0))).run Try.prog w = .ok (.float .f64 (up (flu a0))) w := fun w => run_up w _ _ hn (by kernel_rfl) Try.underlying29
    go_enter Try.func10, Try.ntmps10
    go_wp2_with (first | (go_at_call 19; refine (sameFloat_num _ (up_lt _) (up_num hn) _).mono ?_; rintro e w' ⟨rfl, rfl⟩) | (go_at_call 26; refine (specFlush_any _ h0 _).mono ?_; rintro e w' ⟨rfl, rfl⟩) | (go_at_call 27; refine (flush_any _ h0 _).mono ?_; rintro e w' ⟨rfl, n, rfl⟩))
    go_ret
    exact ⟨rfl, below_drewn _ _⟩
  · have c1 : ∀ w, (convert 22 29 (.float .f32 (flu a0))).run Try.prog w = .ok (.float .f64 (nanAt (.nanConv .f64 (flu a0)) w)) w.drew := fun w => run_up_nan w _ _ hn (by kernel_rfl) Try.underlying29
    go_enter Try.func10, Try.ntmps10
    go_wp2_with (first | (go_at_call 19; refine (sameFloat_nan _ _ (nanAt_conv64 _ _) (nanAt_conv64 _ _) _).mono ?_; rintro e w' ⟨rfl, rfl⟩) | (go_at_call 26; refine (specFlush_any _ h0 _).mono ?_; rintro e w' ⟨rfl, rfl⟩) | (go_at_call 27; refine (flush_any _ h0 _).mono ?_; rintro e w' ⟨rfl, n, rfl⟩))
    go_ret
    exact ⟨rfl, below_drewn _ _⟩

/-! ### the square root -/
theorem run_sqrt_some (x r : Nat) (h : Ieee.double.sqrt x = some r) (w : World) : (callFunc 44 #[.float .f64 x]).run Try.prog w = .ok (.value (.float .f64 r)) w := by
  have e : (callFunc 44 #[.float .f64 x]).run Try.prog w = ((Extern.MathSqrt.sqrt #[.float .f64 x]).run Try.prog w).andThen fun v w' => .ok (.value v) w' := run_callFunc_extern Try.func44 (by kernel_rfl) (by kernel_rfl) (by kernel_rfl) (by kernel_rfl) _ _
  rw [e]
  change (Sem.run Try.prog (match Ieee.double.sqrt x with | some r => pure (Value.float .f64 r) | none => do pure (Value.float .f64 (← choose (.nanBits .f64 x x)))) w).andThen _ = _
  rw [h]
  rfl
theorem run_sqrt_none (x : Nat) (h : Ieee.double.sqrt x = none) (w : World) : (callFunc 44 #[.float .f64 x]).run Try.prog w = .ok (.value (.float .f64 (nanAt (.nanBits .f64 x x) w))) w.drew := by
  have e : (callFunc 44 #[.float .f64 x]).run Try.prog w = ((Extern.MathSqrt.sqrt #[.float .f64 x]).run Try.prog w).andThen fun v w' => .ok (.value v) w' := run_callFunc_extern Try.func44 (by kernel_rfl) (by kernel_rfl) (by kernel_rfl) (by kernel_rfl) _ _
  rw [e]
  change (Sem.run Try.prog (match Ieee.double.sqrt x with | some r => pure (Value.float .f64 r) | none => do pure (Value.float .f64 (← choose (.nanBits .f64 x x)))) w).andThen _ = _
  rw [h]
  simp [nanAt, Question.forced]

theorem sqrt_nan {x : Nat} (h : ¬ Num .f64 x) : Ieee.double.sqrt x = none := by
  unfold Ieee.Format.sqrt
  rw [show Ieee.double.read x = _ from read_nan .f64 (w := x) (by unfold Num at h; omega)]; rfl
theorem sqrt_neg {x : Nat} (h : Num .f64 x) (hs : sgn Ieee.double x = true) (hp : 0 < rung Ieee.double x) : Ieee.double.sqrt x = none := by
  rw [num64] at h
  unfold Ieee.Format.sqrt
  by_cases hi : rung Ieee.double x = 9218868437227405312
  · rw [show Ieee.double.read x = _ from read_inf .f64 (w := x) (by show rung Ieee.double x = Ieee.double.infRung; rw [inf64]; exact hi)]
    rw [show sgn FloatKind.f64.format x = true from hs]; rfl
  · obtain ⟨m, a, e, f⟩ := read_fin Ieee.double (w := x) (by rw [inf64]; omega)
    rw [e, hs]
    have hm : m ≠ 0 := ne_zero_of_pow f (mg_pos (by rw [bin64]; omega) hp)
    simp only [Ieee.Datum.root, hm, if_false, if_true]; rfl

/-- the root of a float32 that has one, as a float32 -/
theorem root_num {x : Nat} (hx : x < 4294967296) (hn : Num .f32 x) (hs : sgn Ieee.single x = false ∨ rung Ieee.single x = 0) :
    ∃ r q, Ieee.double.sqrt (up x) = some r ∧ Num .f32 q ∧ floatToFloatBits .f64 r .f32 = some q := by
  have hr := up_rung hn
  have h := num32.1 hn
  by_cases hi : rung Ieee.single x = 2139095040
  · have hs : sgn Ieee.single x = false := by rcases hs with h | h; exact h; omega
    have hu : up x = 9218868437227405312 := by rw [up_eq (by rw [inf32]; exact h), hi, hs]; rfl
    rw [hu]
    exact ⟨9218868437227405312, 2139095040, by decide, num32.2 (by decide), by decide⟩
  · by_cases hz : rung Ieee.single x = 0
    · have hu : up x = 0 ∨ up x = 9223372036854775808 := by
        rw [up_eq (by rw [inf32]; exact h), hz]
        cases sgn Ieee.single x
        · left; rfl
        · right; rfl
      rcases hu with hu | hu <;> rw [hu]
      · exact ⟨0, 0, by decide, num32.2 (by decide), by decide⟩
      · exact ⟨9223372036854775808, 2147483648, by decide, num32.2 (by decide), by decide⟩
    · have hs : sgn Ieee.single x = false := by rcases hs with h | h; exact h; omega
      have hle : Le 1151 (up x) := by
        unfold Le; rw [hr.1]
        have := (upr_fin h).2 (by omega)
        omega
      obtain ⟨r, e1, e2, e3⟩ := sqrt_le (g := 1088) hle (by rw [hr.2, hs]) (by decide) (by decide) (by decide) (by decide) (by decide)
      refine ⟨r, down r, e1, ?_, down_bits e2 (by decide) (by decide)⟩
      have := (down_fin e2 (by decide) (by decide)).1
      rw [inf32] at this
      exact num32.2 (by omega)

theorem walk_fnExactRootNumber (a0 : Nat) (w : World) (w0 : (Lit.float .f32 a0).wf = true) :
    Calls Try.prog 7 #[.float .f32 a0] w fun e w' => e = .returned (.bool true) ∧ Below w.heap.size w w' := by
  have h0 := lt_of_wf32 w0
  by_cases hn : Num .f32 a0
  · have c1 : ∀ w, (convert 22 29 (.float .f32 a0)).run Try.prog w = .ok (.float .f64 (up a0)) w := fun w => run_up w _ _ hn (by kernel_rfl) Try.underlying29
    by_cases hs : sgn Ieee.single a0 = false ∨ rung Ieee.single a0 = 0
    · obtain ⟨r, q, e1, e2, e3⟩ := root_num h0 hn hs
      have c2 : ∀ w, (convert 29 22 (.float .f64 r)).run Try.prog w = .ok (.float .f32 q) w := fun w => run_convert_float_float w _ _ .f64 .f32 _ _ (by kernel_rfl) Try.underlying22 e3
      have c3 : ∀ w, (convert 22 29 (.float .f32 q)).run Try.prog w = .ok (.float .f64 (up q)) w := fun w => run_up w _ _ e2 (by kernel_rfl) Try.underlying29
      have c4 := run_sqrt_some _ _ e1
      clear hs hn e1 e3
      go_enter Try.func7, Try.ntmps7
      go_wp2_with (first | (go_at_call 19; refine (sameFloat_num _ (up_lt _) (up_num e2) _).mono ?_; rintro e w' ⟨rfl, rfl⟩) | go_in)
      go_ret
      exact ⟨rfl, below_drewn _ 0⟩
    · have e1 : Ieee.double.sqrt (up a0) = none := by
        have h : sgn Ieee.single a0 = true ∧ rung Ieee.single a0 ≠ 0 := by
          cases hh : sgn Ieee.single a0
          · exact absurd (.inl hh) hs
          · exact ⟨rfl, fun h => hs (.inr h)⟩
        have hr := up_rung hn
        exact sqrt_neg (up_num hn) (by rw [hr.2]; exact h.1) (by rw [hr.1]; have := upr_eq_zero (num32.1 hn); omega)
      have c2 : ∀ w q, (convert 29 22 (.float .f64 (nanAt (.nanBits .f64 (up a0) (up a0)) q))).run Try.prog w = .ok (.float .f32 (nanAt (.nanConv .f32 (nanAt (.nanBits .f64 (up a0) (up a0)) q)) w)) w.drew := fun w q => run_down_nan w _ _ (nanAt_bits64 _ _ _) (by kernel_rfl) Try.underlying22
      have c3 : ∀ w b q, (convert 22 29 (.float .f32 (nanAt (.nanConv .f32 b) q))).run Try.prog w = .ok (.float .f64 (nanAt (.nanConv .f64 (nanAt (.nanConv .f32 b) q)) w)) w.drew := fun w b q => run_up_nan w _ _ (nanAt_conv32 _ _) (by kernel_rfl) Try.underlying29
      have c4 := run_sqrt_none _ e1
      clear hs hn e1
      go_enter Try.func7, Try.ntmps7
      go_wp2_with (first | (go_at_call 19; refine (sameFloat_nan _ _ (nanAt_conv64 _ _) (nanAt_conv64 _ _) _).mono ?_; rintro e w' ⟨rfl, rfl⟩) | go_in)
      go_ret
      exact ⟨rfl, below_drewn _ 6⟩
  · have c1 : ∀ w, (convert 22 29 (.float .f32 a0)).run Try.prog w = .ok (.float .f64 (nanAt (.nanConv .f64 a0) w)) w.drew := fun w => run_up_nan w _ _ hn (by kernel_rfl) Try.underlying29
    have c2 : ∀ w b q, (convert 29 22 (.float .f64 (nanAt (.nanBits .f64 b b) q))).run Try.prog w = .ok (.float .f32 (nanAt (.nanConv .f32 (nanAt (.nanBits .f64 b b) q)) w)) w.drew := fun w b q => run_down_nan w _ _ (nanAt_bits64 _ _ _) (by kernel_rfl) Try.underlying22
    have c3 : ∀ w b q, (convert 22 29 (.float .f32 (nanAt (.nanConv .f32 b) q))).run Try.prog w = .ok (.float .f64 (nanAt (.nanConv .f64 (nanAt (.nanConv .f32 b) q)) w)) w.drew := fun w b q => run_up_nan w _ _ (nanAt_conv32 _ _) (by kernel_rfl) Try.underlying29
    have c4 := fun q w => run_sqrt_none (nanAt (.nanConv .f64 a0) q) (sqrt_nan (nanAt_conv64 _ _)) w
    clear hn
    go_enter Try.func7, Try.ntmps7
    go_wp2_with (first | (go_at_call 19; refine (sameFloat_nan _ _ (nanAt_conv64 _ _) (nanAt_conv64 _ _) _).mono ?_; rintro e w' ⟨rfl, rfl⟩) | go_in)
    go_ret
    exact ⟨rfl, below_drewn _ 8⟩
end Go.Proofs.Ytophfenoanjobaa
