/-
  The walks of the laws on FromBits, IsFinite, IsSubnormal and FlushNumber.
-/
import Derived.Test.YtophfenoanjobaaNumD
namespace Go.Proofs.Ytophfenoanjobaa
open Go.RowKit Fl

theorem up_lt (x : Nat) : up x < 18446744073709551616 := Ieee.double.write_lt _
@[go_sem] theorem run_f32from (x : Int) (w : World) : (callFunc 36 #[.int .u32 x]).run Try.prog w = .ok (.value (.float .f32 x.toNat)) w := by kernel_rfl

theorem walk_fnExactFromBits (a0 : Int) (w : World) (w0 : (Lit.int .i64 a0).wf = true) :
    Calls Try.prog 6 #[.int .i64 a0] w fun e w' => e = .returned (.bool true) ∧ Below w.heap.size w w' := by
  by_cases hin : 0 ≤ a0 ∧ a0 ≤ 4294967295
  · obtain ⟨hlo, hhi⟩ := hin
    by_cases hn : Num .f32 a0.toNat
    · have c1 : ∀ w, (convert 22 29 (.float .f32 a0.toNat)).run Try.prog w = .ok (.float .f64 (up a0.toNat)) w := fun w => run_up w _ _ hn (by kernel_rfl) Try.underlying29
      go_enter Try.func6, Try.ntmps6
      go_wp2_with (first | (go_at_call 19; refine (sameFloat_num _ (up_lt _) (up_num hn) _).mono ?_; rintro e w' ⟨rfl, rfl⟩) | go_in)
      go_ret
      exact ⟨rfl, below_drewn _ 0⟩
    · have c1 : ∀ w, (convert 22 29 (.float .f32 a0.toNat)).run Try.prog w = .ok (.float .f64 (nanAt (.nanConv .f64 a0.toNat) w)) w.drew := fun w => run_up_nan w _ _ hn (by kernel_rfl) Try.underlying29
      go_enter Try.func6, Try.ntmps6
      go_wp2_with (first | (go_at_call 19; refine (sameFloat_nan _ _ (nanAt_conv64 _ _) (nanAt_conv64 _ _) _).mono ?_; rintro e w' ⟨rfl, rfl⟩) | go_in)
      go_ret
      exact ⟨rfl, below_drewn _ 2⟩
  · have c1 : ∀ w, (convert 22 29 (.float .f32 0)).run Try.prog w = .ok (.float .f64 (up 0)) w := fun w => run_up w _ _ (num32.2 (by decide)) (by kernel_rfl) Try.underlying29
    rcases (show a0 < 0 ∨ 4294967295 < a0 by omega) with h | h
    · clear hin
      go_enter Try.func6, Try.ntmps6
      go_wp2_with (first | (go_at_call 19; refine (sameFloat_num _ (up_lt _) (up_num (num32.2 (by decide))) _).mono ?_; rintro e w' ⟨rfl, rfl⟩) | go_in)
      go_ret
      exact ⟨rfl, below_drewn _ 0⟩
    · clear hin
      have h' : 0 ≤ a0 := by omega
      have hd : decide (a0 ≤ 4294967295) = false := by simp; omega
      go_enter Try.func6, Try.ntmps6
      go_wp2_with (first | (go_at_call 19; refine (sameFloat_num _ (up_lt _) (up_num (num32.2 (by decide))) _).mono ?_; rintro e w' ⟨rfl, rfl⟩) | go_in)
      go_ret
      exact ⟨rfl, below_drewn _ 0⟩

/-! ### finite -/
theorem rung_fmt64 (x : Nat) : rung FloatKind.f64.format x = rung Ieee.double x := rfl

theorem l01Finite_fin (x : Nat) (h : rung Ieee.single x < Ieee.single.infRung) (w : World) :
    Calls Try.prog 29 #[.float .f32 x] w fun e w' => e = .returned (.bool true) ∧ ∃ n, w' = w.drewN n := by
  have d : ∀ (t : TypeId) (w : World), (binOp .sub t (.float .f32 x) (.float .f32 x)).run Try.prog w = .ok (.float .f32 0) w := fun t w => run_float_arith w .sub t .f32 _ _ _ (sub_self_fin .f32 h)
  have o : (FloatKind.f32.format.order 0 0 == some .eq) = true := by decide
  clear h
  go_enter Try.func29, Try.ntmps29
  go_wp2
  go_ret
  exact ⟨rfl, 0, rfl⟩

theorem l01Finite_not (x : Nat) (h : ¬ rung Ieee.single x < Ieee.single.infRung) (w : World) :
    Calls Try.prog 29 #[.float .f32 x] w fun e w' => e = .returned (.bool false) ∧ ∃ n, w' = w.drewN n := by
  have hs : floatBits .sub .f32 x x = none := by
    by_cases hn : Num .f32 x
    · exact sub_self_inf .f32 (by unfold Num at hn; show rung Ieee.single x = Ieee.single.infRung; have : rung Ieee.single x ≤ Ieee.single.infRung := hn; omega)
    · exact nan_arith .sub .f32 (.inl hn)
  have d : ∀ (t : TypeId) (w : World), (binOp .sub t (.float .f32 x) (.float .f32 x)).run Try.prog w = .ok (.float .f32 (nanAt (.nanBits .f32 x x) w)) w.drew := fun t w => run_arith_nan w .sub (by simp) t .f32 _ _ hs
  have o : ∀ w, (FloatKind.f32.format.order (nanAt (.nanBits .f32 x x) w) 0 == some .eq) = false := fun w => by rw [order_nan_left .f32 (nanAt_bits32 x x w)]; rfl
  clear h hs
  go_enter Try.func29, Try.ntmps29
  go_wp2
  go_ret
  exact ⟨rfl, 1, rfl⟩

theorem rung64_lt (x : Nat) : rung Ieee.double x < 9223372036854775808 := by
  unfold rung; rw [sw64]; exact Nat.mod_lt _ (by decide)
theorem key_pos {x : Nat} (h : x < 9223372036854775808) : key .f64 x = x ∧ rung Ieee.double x = x := by
  have h1 : x / 9223372036854775808 = 0 := Nat.div_eq_of_lt h
  have h2 : x % 9223372036854775808 = x := Nat.mod_eq_of_lt h
  have hr : rung Ieee.double x = x := by unfold rung; rw [sw64, h2]
  have hs : sgn FloatKind.f64.format x = false := by
    show sgn Ieee.double x = false
    unfold sgn; rw [sw64, h1]; rfl
  unfold key
  rw [hs]
  exact ⟨by show ((rung Ieee.double x : Nat) : Int) = x; rw [hr], hr⟩

/-- '|x| <= c', '|x| < c' of a float64 that is no NaN -/
theorem abs_le {x c : Nat} (hx : Num .f64 x) (hc : c ≤ 9218868437227405312) :
    (FloatKind.f64.format.order (rung Ieee.double x) c == some .lt || FloatKind.f64.format.order (rung Ieee.double x) c == some .eq) = decide (rung Ieee.double x ≤ c) := by
  have h1 := key_pos (rung64_lt x)
  have h2 := key_pos (x := c) (by omega)
  rw [le_key .f64 (num64.2 (by rw [h1.2]; exact num64.1 hx)) (num64.2 (by rw [h2.2]; exact hc)), h1.1, h2.1, Bool.eq_iff_iff]
  simp
theorem abs_lt {x c : Nat} (hx : Num .f64 x) (hc : c ≤ 9218868437227405312) :
    (FloatKind.f64.format.order (rung Ieee.double x) c == some .lt) = decide (rung Ieee.double x < c) := by
  have h1 := key_pos (rung64_lt x)
  have h2 := key_pos (x := c) (by omega)
  rw [lt_key .f64 (num64.2 (by rw [h1.2]; exact num64.1 hx)) (num64.2 (by rw [h2.2]; exact hc)), h1.1, h2.1, Bool.eq_iff_iff]
  simp
theorem abs_ge {x c : Nat} (hx : Num .f64 x) (hc : c ≤ 9218868437227405312) :
    (FloatKind.f64.format.order (rung Ieee.double x) c == some .gt || FloatKind.f64.format.order (rung Ieee.double x) c == some .eq) = decide (c ≤ rung Ieee.double x) := by
  have h1 := key_pos (rung64_lt x)
  have h2 := key_pos (x := c) (by omega)
  rw [ge_key .f64 (num64.2 (by rw [h1.2]; exact num64.1 hx)) (num64.2 (by rw [h2.2]; exact hc)), h1.1, h2.1, Bool.eq_iff_iff]
  simp
theorem abs_nan {x : Nat} (hx : ¬ Num .f64 x) : ¬ Num .f64 (rung Ieee.double x) := by
  have h1 := key_pos (rung64_lt x)
  rw [num64] at *
  rw [h1.2]; exact hx

theorem isFinite_fin (x : Nat) (h : rung Ieee.single x < Ieee.single.infRung) (w : World) :
    Calls Try.prog 14 #[.float .f32 x] w fun e w' => e = .returned (.bool true) ∧ ∃ n, w' = w.drewN n := by
  have hn : Num .f32 x := Nat.le_of_lt h
  have c1 : ∀ w, (convert 22 29 (.float .f32 x)).run Try.prog w = .ok (.float .f64 (up x)) w := fun w => run_up w _ _ hn (by kernel_rfl) Try.underlying29
  have o := abs_le (c := 5183643170566569984) (up_num hn) (by decide)
  have hle : rung Ieee.double (up x) ≤ 5183643170566569984 := by rw [(up_rung hn).1]; exact (upr_fin (num32.1 hn)).2 (by rw [inf32] at h; exact h)
  rw [decide_eq_true hle] at o
  clear h hle
  go_enter Try.func14, Try.ntmps14
  go_wp2_with (go_at_call 30; refine (abs_any _ (up_lt _) _).mono ?_; rintro e w' ⟨rfl, rfl⟩)
  go_ret
  exact ⟨by first | rfl | (rw [o]; rfl) | (simp [o]), 0, rfl⟩

theorem isFinite_not (x : Nat) (h : ¬ rung Ieee.single x < Ieee.single.infRung) (w : World) :
    Calls Try.prog 14 #[.float .f32 x] w fun e w' => e = .returned (.bool false) ∧ ∃ n, w' = w.drewN n := by
  by_cases hn : Num .f32 x
  · have c1 : ∀ w, (convert 22 29 (.float .f32 x)).run Try.prog w = .ok (.float .f64 (up x)) w := fun w => run_up w _ _ hn (by kernel_rfl) Try.underlying29
    have o := abs_le (c := 5183643170566569984) (up_num hn) (by decide)
    have hle : ¬ rung Ieee.double (up x) ≤ 5183643170566569984 := by rw [(up_rung hn).1, upr_fin (num32.1 hn)]; rw [inf32] at h; exact h
    rw [decide_eq_false hle] at o
    clear h hle
    go_enter Try.func14, Try.ntmps14
    go_wp2_with (go_at_call 30; refine (abs_any _ (up_lt _) _).mono ?_; rintro e w' ⟨rfl, rfl⟩)
    go_ret
    exact ⟨by first | rfl | (rw [o]; rfl) | (simp [o]), 0, rfl⟩
  · have c1 : ∀ w, (convert 22 29 (.float .f32 x)).run Try.prog w = .ok (.float .f64 (nanAt (.nanConv .f64 x) w)) w.drew := fun w => run_up_nan w _ _ hn (by kernel_rfl) Try.underlying29
    have hb : ∀ w, nanAt (.nanConv .f64 x) w < 18446744073709551616 := fun w => by
      unfold nanAt Question.cut; simp only []; generalize w.tape w.drawn (Question.nanConv FloatKind.f64 x) = t; rcases Nat.mod_two_eq_zero_or_one t with h | h <;> rw [h] <;> omega
    have o : ∀ w, (FloatKind.f64.format.order (rung Ieee.double (nanAt (.nanConv .f64 x) w)) 5183643170566569984 == some .lt || FloatKind.f64.format.order (rung Ieee.double (nanAt (.nanConv .f64 x) w)) 5183643170566569984 == some .eq) = false := fun w => by
      rw [order_nan_left .f64 (abs_nan (nanAt_conv64 x w))]; rfl
    clear h
    go_enter Try.func14, Try.ntmps14
    go_wp2_with (go_at_call 30; refine (abs_any _ (hb _) _).mono ?_; rintro e w' ⟨rfl, rfl⟩)
    go_ret
    exact ⟨by first | rfl | (rw [o]; rfl) | (simp [o]), 1, rfl⟩

theorem walk_fnExactIsFinite (a0 : Nat) (w : World) (w0 : (Lit.float .f32 a0).wf = true) :
    Calls Try.prog 4 #[.float .f32 a0] w fun e w' => e = .returned (.bool true) ∧ Below w.heap.size w w' := by
  by_cases h : rung Ieee.single a0 < Ieee.single.infRung
  · go_enter Try.func4, Try.ntmps4
    go_wp2_with (first | (go_at_call 29; refine (l01Finite_fin _ h _).mono ?_; rintro e w' ⟨rfl, n, rfl⟩) | (go_at_call 14; refine (isFinite_fin _ h _).mono ?_; rintro e w' ⟨rfl, n, rfl⟩) | (go_at_call 13; go_in))
    go_ret
    exact ⟨rfl, below_drewn _ _⟩
  · go_enter Try.func4, Try.ntmps4
    go_wp2_with (first | (go_at_call 29; refine (l01Finite_not _ h _).mono ?_; rintro e w' ⟨rfl, n, rfl⟩) | (go_at_call 14; refine (isFinite_not _ h _).mono ?_; rintro e w' ⟨rfl, n, rfl⟩) | (go_at_call 13; go_in))
    go_ret
    exact ⟨rfl, below_drewn _ _⟩
end Go.Proofs.Ytophfenoanjobaa
