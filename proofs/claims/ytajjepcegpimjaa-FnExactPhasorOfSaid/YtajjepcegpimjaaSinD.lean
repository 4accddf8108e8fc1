/-
  The walk of the law on SineTurns.
-/
import Derived.Test.YtajjepcegpimjaaSinC
import Derived.Test.YtajjepcegpimjaaLogC
namespace Go.Proofs.Ytajjepcegpimjaa
open Go.RowKit Fl

theorem neg_rung (b : Nat) : rung Ieee.double (Op.negFloat .f64 b) = rung Ieee.double b := by
  unfold rung Op.negFloat
  rw [sw64]
  show (b ^^^ 2 ^ 63) % 2 ^ 63 = b % 2 ^ 63
  rw [Nat.xor_mod_two_pow, Nat.mod_self, Nat.xor_zero]
theorem sr_le {e : Nat} {b : Bool} {zp : Nat} (h : Le e zp) : Le e (sr b zp) := by
  unfold sr; cases b
  · exact h
  · simp only [if_true]; unfold Le; rw [neg_rung]; exact h

/-- many turns: what the model asks ahead -/
theorem many_turns {y : Nat} (hn : Num .f64 y) (hy : ¬ rung Ieee.double y < 1075 * 4503599627370496) :
    (FloatKind.f64.format.order y 4841369599423283200 == some .gt || FloatKind.f64.format.order y 4841369599423283200 == some .eq) = true ∨ ((FloatKind.f64.format.order y 4841369599423283200 == some .gt || FloatKind.f64.format.order y 4841369599423283200 == some .eq) = false ∧ (FloatKind.f64.format.order y 14064741636278059008 == some .lt || FloatKind.f64.format.order y 14064741636278059008 == some .eq) = true) := by
  have hk : 4841369599423283200 ≤ key .f64 y ∨ (¬ 4841369599423283200 ≤ key .f64 y ∧ key .f64 y ≤ -4841369599423283200) := by
    unfold key
    rw [show rung FloatKind.f64.format y = rung Ieee.double y from rfl]
    generalize rung Ieee.double y = r at *
    cases sgn FloatKind.f64.format y <;> simp <;> omega
  have k2 : key .f64 14064741636278059008 = -4841369599423283200 := by decide
  rw [ge_key .f64 hn (pos_num (by omega)), (key_pos (x := 4841369599423283200) (by omega)).1, le_key .f64 hn (num64.2 (by decide)), k2]
  rcases hk with h | ⟨h, h'⟩
  · left; simpa using h
  · right; exact ⟨by simpa using h, by simpa using h'⟩

theorem areMany_any {y : Nat} (hy : y < 18446744073709551616) (hn : Num .f64 y) (w : World) :
    Calls Try.prog 34 #[.float .f64 y] w fun x w' => x = .returned (.bool (decide (1075 * 4503599627370496 ≤ rung Ieee.double y))) ∧ w = w' := by
  have o := abs_ge (c := 4841369599423283200) hn (by decide)
  have e : decide (4841369599423283200 ≤ rung Ieee.double y) = decide (1075 * 4503599627370496 ≤ rung Ieee.double y) := by rw [decide_eq_decide]
  rw [e] at o
  generalize decide (1075 * 4503599627370496 ≤ rung Ieee.double y) = b at *
  clear e
  go_enter Try.func34, Try.ntmps34
  go_wp2_with (go_at_call 47; refine (abs_any _ hy _).mono ?_; rintro e w' ⟨rfl, rfl⟩)
  go_ret
  exact ⟨by first | rfl | (rw [o]; rfl) | (simp [o]), rfl⟩

theorem areMany_b {y : Nat} (hy : y < 18446744073709551616) (hn : Num .f64 y) (b : Bool) (hb : decide (1075 * 4503599627370496 ≤ rung Ieee.double y) = b) (w : World) :
    Calls Try.prog 34 #[.float .f64 y] w fun x w' => x = .returned (.bool b) ∧ w = w' := by
  subst hb; exact areMany_any hy hn w

theorem walk_fnExactSineTurns (a0 : Nat) (w : World) (w0 : (Lit.float .f32 a0).wf = true) :
    Calls Try.prog 5 #[.float .f32 a0] w fun e w' => e = .returned (.bool true) ∧ Below w.heap.size w w' := by
  have h0 := lt_of_wf32 w0
  by_cases hfin : rung Ieee.single a0 < Ieee.single.infRung
  · have hn : Num .f32 a0 := Nat.le_of_lt hfin
    have c1 : ∀ w, (convert 28 22 (.float .f32 a0)).run Try.prog w = .ok (.float .f64 (up a0)) w := fun w => run_up w _ _ hn (by kernel_rfl) Try.underlying22
    have HF := Lib.hid hfin
    have HN := Lib.hid (up_num hn)
    have hyf : rung Ieee.double (up a0) < Ieee.double.infRung := by
      rw [(up_rung hn).1, inf64]
      have := (upr_fin (num32.1 hn)).2 (by rw [inf32] at hfin; exact hfin)
      omega
    by_cases hm : rung Ieee.double (up a0) < 1075 * 4503599627370496
    · obtain ⟨n, d, neg, f, hP⟩ := part_at (y := up a0) (by unfold Le; omega)
      obtain ⟨below, over, f1, f2, z, u, zp, hS⟩ := sin_at hP.hle
      have hr := sr_le (b := below) hS.hle
      have c4 : ∀ w, (convert 22 28 (.float .f64 (sr below zp))).run Try.prog w = .ok (.float .f32 (down (sr below zp))) w := fun w => run_down w _ _ hr (by omega) (by omega) (by kernel_rfl) Try.underlying28
      have hq : Num .f32 (down (sr below zp)) := by
        have := (down_fin hr (by omega) (by omega)).1
        rw [inf32] at this
        exact num32.2 (by omega)
      have c5 : ∀ w, (convert 28 22 (.float .f32 (down (sr below zp)))).run Try.prog w = .ok (.float .f64 (up (down (sr below zp)))) w := fun w => run_up w _ _ hq (by kernel_rfl) Try.underlying22
      have HQ := Lib.hid hq
      have HP := Lib.hid hP
      have HS := Lib.hid hS
      have HM := Lib.hid hm
      have HB : Hid (decide (1075 * 4503599627370496 ≤ rung Ieee.double (up a0)) = false) := Lib.hid (decide_eq_false (by omega))
      generalize down (sr below zp) = q at *
      clear hfin hn hm hP hS hr hq hyf
      go_enter Try.func5, Try.ntmps5
      go_wp2_with (first | (go_at_call 18; refine (sameFloat_num _ (up_lt _) (up_num HQ.out) _).mono ?_; rintro e w' ⟨rfl, rfl⟩) | (go_at_call 40; refine (isFinite_fin _ HF.out _).mono ?_; rintro e w' ⟨rfl, n, rfl⟩) | (go_at_call 34; refine (areMany_b (up_lt _) HN.out _ HB.out _).mono ?_; rintro e w' ⟨rfl, rfl⟩) | (go_at_call 56; refine (specSine HM.out HP.out HS.out _).mono ?_; rintro e w' ⟨rfl, rfl⟩) | (go_at_call 36; refine (sineOf_any HP.out HS.out _).mono ?_; rintro e w' ⟨rfl, rfl⟩) | go_in)
      go_ret
      exact ⟨rfl, below_drewn _ _⟩
    · have s1 := op64 (sub_self_fin .f64 (x := up a0) hyf)
      have s2 : (FloatKind.f64.format.order 0 0 != some .eq) = false := by decide
      have c4 : ∀ w, (convert 22 28 (.float .f64 0)).run Try.prog w = .ok (.float .f32 0) w := fun w => run_convert_float_float w _ _ .f64 .f32 _ _ (by kernel_rfl) Try.underlying28 (by decide)
      have c5 : ∀ w, (convert 28 22 (.float .f32 0)).run Try.prog w = .ok (.float .f64 0) w := fun w => run_convert_float_float w _ _ .f32 .f64 _ _ (by kernel_rfl) Try.underlying22 (by decide)
      have HB : Hid (decide (1075 * 4503599627370496 ≤ rung Ieee.double (up a0)) = true) := Lib.hid (decide_eq_true (by omega))
      have HT := many_turns (up_num hn) hm
      rcases HT with t | ⟨t, t'⟩
      · clear hfin hn hm hyf
        go_enter Try.func5, Try.ntmps5
        go_wp2_with (first | (go_at_call 18; refine (sameFloat_num _ (by decide) (num64.2 (by decide)) _).mono ?_; rintro e w' ⟨rfl, rfl⟩) | (go_at_call 40; refine (isFinite_fin _ HF.out _).mono ?_; rintro e w' ⟨rfl, n, rfl⟩) | (go_at_call 34; refine (areMany_b (up_lt _) HN.out _ HB.out _).mono ?_; rintro e w' ⟨rfl, rfl⟩) | go_in)
        go_ret
        exact ⟨rfl, below_drewn _ _⟩
      · clear hfin hn hm hyf
        go_enter Try.func5, Try.ntmps5
        go_wp2_with (first | (go_at_call 18; refine (sameFloat_num _ (by decide) (num64.2 (by decide)) _).mono ?_; rintro e w' ⟨rfl, rfl⟩) | (go_at_call 40; refine (isFinite_fin _ HF.out _).mono ?_; rintro e w' ⟨rfl, n, rfl⟩) | (go_at_call 34; refine (areMany_b (up_lt _) HN.out _ HB.out _).mono ?_; rintro e w' ⟨rfl, rfl⟩) | go_in)
        go_ret
        exact ⟨rfl, below_drewn _ _⟩
  · have HF := Lib.hid hfin
    have c2 : ∀ w, (convert 22 28 (.float .f64 9221120237041090561)).run Try.prog w = .ok (.float .f32 (nanAt (.nanConv .f32 9221120237041090561) w)) w.drew := fun w => run_down_nan w _ _ nanC_nan (by kernel_rfl) Try.underlying28
    have c3 : ∀ w b q, (convert 28 22 (.float .f32 (nanAt (.nanConv .f32 b) q))).run Try.prog w = .ok (.float .f64 (nanAt (.nanConv .f64 (nanAt (.nanConv .f32 b) q)) w)) w.drew := fun w b q => run_up_nan w _ _ (nanAt_conv32 _ _) (by kernel_rfl) Try.underlying22
    by_cases hn : Num .f32 a0
    · have c1 : ∀ w, (convert 28 22 (.float .f32 a0)).run Try.prog w = .ok (.float .f64 (up a0)) w := fun w => run_up w _ _ hn (by kernel_rfl) Try.underlying22
      have hi : rung Ieee.double (up a0) = Ieee.double.infRung := by
        have h1 : rung Ieee.single a0 = 2139095040 := by have := num32.1 hn; rw [inf32] at hfin; omega
        rw [(up_rung hn).1, h1, upr_inf, inf64]
      have hs := sub_self_inf .f64 (x := up a0) hi
      have d : ∀ (t : TypeId) (w : World), (binOp .sub t (.float .f64 (up a0)) (.float .f64 (up a0))).run Try.prog w = .ok (.float .f64 (nanAt (.nanBits .f64 (up a0) (up a0)) w)) w.drew := fun t w => run_arith_nan w .sub (by simp) t .f64 _ _ hs
      have o : ∀ w, (FloatKind.f64.format.order (nanAt (.nanBits .f64 (up a0) (up a0)) w) 0 != some .eq) = true := fun w => by rw [order_nan_left .f64 (nanAt_bits64 _ _ w)]; rfl
      clear hfin hn hi hs
      go_enter Try.func5, Try.ntmps5
      go_wp2_with (first | (go_at_call 18; refine (sameFloat_nan _ _ (nanAt_conv64 _ _) (nanAt_conv64 _ _) _).mono ?_; rintro e w' ⟨rfl, rfl⟩) | (go_at_call 40; refine (isFinite_not _ HF.out _).mono ?_; rintro e w' ⟨rfl, n, rfl⟩) | go_in)
      go_ret
      exact ⟨rfl, below_drewn _ _⟩
    · have c1 : ∀ w, (convert 28 22 (.float .f32 a0)).run Try.prog w = .ok (.float .f64 (nanAt (.nanConv .f64 a0) w)) w.drew := fun w => run_up_nan w _ _ hn (by kernel_rfl) Try.underlying22
      have d : ∀ (q : World) (t : TypeId) (w : World), (binOp .sub t (.float .f64 (nanAt (.nanConv .f64 a0) q)) (.float .f64 (nanAt (.nanConv .f64 a0) q))).run Try.prog w = .ok (.float .f64 (nanAt (.nanBits .f64 (nanAt (.nanConv .f64 a0) q) (nanAt (.nanConv .f64 a0) q)) w)) w.drew := fun q t w => run_arith_nan w .sub (by simp) t .f64 _ _ (nan_arith .sub .f64 (.inl (nanAt_conv64 _ _)))
      have o : ∀ x y w, (FloatKind.f64.format.order (nanAt (.nanBits .f64 x y) w) 0 != some .eq) = true := fun x y w => by rw [order_nan_left .f64 (nanAt_bits64 _ _ w)]; rfl
      clear hfin hn
      go_enter Try.func5, Try.ntmps5
      go_wp2_with (first | (go_at_call 18; refine (sameFloat_nan _ _ (nanAt_conv64 _ _) (nanAt_conv64 _ _) _).mono ?_; rintro e w' ⟨rfl, rfl⟩) | (go_at_call 40; refine (isFinite_not _ HF.out _).mono ?_; rintro e w' ⟨rfl, n, rfl⟩) | go_in)
      go_ret
      exact ⟨rfl, below_drewn _ _⟩
end Go.Proofs.Ytajjepcegpimjaa
