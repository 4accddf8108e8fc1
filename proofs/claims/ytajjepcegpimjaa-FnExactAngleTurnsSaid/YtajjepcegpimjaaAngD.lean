/-
  The walk of the law on AngleTurns: all points.
-/
import Derived.Test.YtajjepcegpimjaaAngC
namespace Go.Proofs.Ytajjepcegpimjaa
open Go.RowKit Fl

theorem fin_up {v : Nat} (h : rung Ieee.single v < Ieee.single.infRung) : rung Ieee.double (up v) ≤ 5183643170566569984 := by
  have hn : Num .f32 v := Nat.le_of_lt h
  rw [(up_rung hn).1]
  exact (upr_fin (num32.1 hn)).2 (by rw [inf32] at h; exact h)

theorem ang_middle (a0 a1 : Nat) (w : World) (f0 : rung Ieee.single a0 < Ieee.single.infRung) (f1 : rung Ieee.single a1 < Ieee.single.infRung)
    (z0 : (FloatKind.f32.format.order a0 0 == some .eq) = true) (z1 : (FloatKind.f32.format.order a1 0 == some .eq) = true) :
    Calls Try.prog 6 #[.float .f32 a0, .float .f32 a1] w fun e w' => e = .returned (.bool true) ∧ Below w.heap.size w w' := by
  have n0 : Num .f32 a0 := Nat.le_of_lt f0
  have n1 : Num .f32 a1 := Nat.le_of_lt f1
  have c0 : ∀ w, (convert 28 22 (.float .f32 a0)).run Try.prog w = .ok (.float .f64 (up a0)) w := fun w => run_up w _ _ n0 (by kernel_rfl) Try.underlying22
  have c1 : ∀ w, (convert 28 22 (.float .f32 a1)).run Try.prog w = .ok (.float .f64 (up a1)) w := fun w => run_up w _ _ n1 (by kernel_rfl) Try.underlying22
  have y1 := op64 (sub_self_fin .f64 (x := up a0) (by have := fin_up f0; show rung Ieee.double (up a0) < Ieee.double.infRung; rw [inf64]; omega))
  have x1 := op64 (sub_self_fin .f64 (x := up a1) (by have := fin_up f1; show rung Ieee.double (up a1) < Ieee.double.infRung; rw [inf64]; omega))
  have o0 : (FloatKind.f64.format.order 0 0 != some .eq) = false := by decide
  have z2 := (up_eq0 n0).trans z0
  have z3 := (up_eq0 n1).trans z1
  have c4 : ∀ w, (convert 22 28 (.float .f64 0)).run Try.prog w = .ok (.float .f32 0) w := fun w => run_convert_float_float w _ _ .f64 .f32 _ _ (by kernel_rfl) Try.underlying28 (by decide)
  have c5 : ∀ w, (convert 28 22 (.float .f32 0)).run Try.prog w = .ok (.float .f64 0) w := fun w => run_convert_float_float w _ _ .f32 .f64 _ _ (by kernel_rfl) Try.underlying22 (by decide)
  have HX := Lib.hid f1
  have HY := Lib.hid f0
  clear f0 f1 n0 n1
  go_enter Try.func6, Try.ntmps6
  go_wp2_with (first | (go_at_call 18; refine (sameFloat_num _ (by decide) (num64.2 (by decide)) _).mono ?_; rintro e w' ⟨rfl, rfl⟩) | (go_at_call 40; refine (isFinite_fin _ HY.out _).mono ?_; rintro e w' ⟨rfl, n, rfl⟩) | (go_at_call 40; refine (isFinite_fin _ HX.out _).mono ?_; rintro e w' ⟨rfl, n, rfl⟩) | go_in)
  go_ret
  exact ⟨rfl, below_drewn _ _⟩

theorem ang_point (a0 a1 : Nat) (w : World) (f0 : rung Ieee.single a0 < Ieee.single.infRung) (f1 : rung Ieee.single a1 < Ieee.single.infRung)
    (hz : (FloatKind.f32.format.order a0 0 == some .eq) = false ∨ (FloatKind.f32.format.order a1 0 == some .eq) = false) :
    Calls Try.prog 6 #[.float .f32 a0, .float .f32 a1] w fun e w' => e = .returned (.bool true) ∧ Below w.heap.size w w' := by
  have n0 : Num .f32 a0 := Nat.le_of_lt f0
  have n1 : Num .f32 a1 := Nat.le_of_lt f1
  obtain ⟨over, t0, u, q1, q2, r, g1, g2, hA⟩ := ang_at (a := rung Ieee.double (up a0)) (b := rung Ieee.double (up a1)) (FloatKind.f32.format.order a1 0 == some .lt) (FloatKind.f32.format.order a0 0 == some .lt) (fin_up f0) (fin_up f1) (by
    rcases hz with h | h
    · exact .inl (eq0_rung n0 h)
    · exact .inr (eq0_rung n1 h))
  have c0 : ∀ w, (convert 28 22 (.float .f32 a0)).run Try.prog w = .ok (.float .f64 (up a0)) w := fun w => run_up w _ _ n0 (by kernel_rfl) Try.underlying22
  have c1 : ∀ w, (convert 28 22 (.float .f32 a1)).run Try.prog w = .ok (.float .f64 (up a1)) w := fun w => run_up w _ _ n1 (by kernel_rfl) Try.underlying22
  have I1 : Hid (∀ w, Calls Try.prog 20 #[.float .f32 a0, .float .f32 a1] w fun e w' => e = .returned (.float .f32 (down (ng (FloatKind.f32.format.order a0 0 == some .lt) g2))) ∧ ∃ n, w' = w.drewN n) :=
    fun w => implAng f0 f1 rfl (by intro h; rcases hz with h' | h'; (rw [h'] at h; cases h); exact h') (by intro h; exact eq0_lt n0 h) rfl rfl hA w
  have I2 : Hid (∀ w, Calls Try.prog 63 #[.float .f64 (up a0), .float .f64 (up a1)] w fun e w' => e = .returned (.float .f64 (ng (FloatKind.f32.format.order a0 0 == some .lt) g2)) ∧ w = w') :=
    fun w => specAng (up_lt _) (up_lt _) (by have := fin_up f0; rw [inf64]; omega) (by have := fin_up f1; rw [inf64]; omega) (up_eq0 n1) (by intro h; rw [up_eq0 n0]; rcases hz with h' | h'; exact h'; (rw [h'] at h; cases h)) (by intro h; exact eq0_lt n1 h) (up_lt0 n1) (up_lt0 n0) hA w
  have hg := hA.hle
  generalize (FloatKind.f32.format.order a0 0 == some .lt) = yn at *
  have hr := ng_le (b := yn) hg
  have c4 : ∀ w, (convert 22 28 (.float .f64 (ng yn g2))).run Try.prog w = .ok (.float .f32 (down (ng yn g2))) w := fun w => run_down w _ _ hr (by omega) (by omega) (by kernel_rfl) Try.underlying28
  have hq : Num .f32 (down (ng yn g2)) := by
    have := (down_fin hr (by omega) (by omega)).1
    rw [inf32] at this
    exact num32.2 (by omega)
  have c5 : ∀ w, (convert 28 22 (.float .f32 (down (ng yn g2)))).run Try.prog w = .ok (.float .f64 (up (down (ng yn g2)))) w := fun w => run_up w _ _ hq (by kernel_rfl) Try.underlying22
  have HQ := Lib.hid hq
  generalize down (ng yn g2) = q at *
  clear hA hg hr hq hz f0 f1 n0 n1
  go_enter Try.func6, Try.ntmps6
  go_wp2_with (first | (go_at_call 18; refine (sameFloat_num _ (up_lt _) (up_num HQ.out) _).mono ?_; rintro e w' ⟨rfl, rfl⟩) | (go_at_call 20; refine (I1.out _).mono ?_; rintro e w' ⟨rfl, n, rfl⟩) | (go_at_call 63; refine (I2.out _).mono ?_; rintro e w' ⟨rfl, rfl⟩) | (go_at_call 19; go_in) | (go_at_call 45; go_in) | (go_at_call 57; go_in))
  go_ret
  exact ⟨rfl, below_drewn _ _⟩

theorem inf_up {v : Nat} (hn : Num .f32 v) (hf : ¬ rung Ieee.single v < Ieee.single.infRung) : rung Ieee.double (up v) = Ieee.double.infRung := by
  have h1 : rung Ieee.single v = 2139095040 := by have := num32.1 hn; rw [inf32] at hf; omega
  rw [(up_rung hn).1, h1, upr_inf, inf64]

theorem ang_inf_num (a0 a1 : Nat) (w : World) (f0 : ¬ rung Ieee.single a0 < Ieee.single.infRung) (n0 : Num .f32 a0) (n1 : Num .f32 a1) :
    Calls Try.prog 6 #[.float .f32 a0, .float .f32 a1] w fun e w' => e = .returned (.bool true) ∧ Below w.heap.size w w' := by
  have c0 : ∀ w, (convert 28 22 (.float .f32 a0)).run Try.prog w = .ok (.float .f64 (up a0)) w := fun w => run_up w _ _ n0 (by kernel_rfl) Try.underlying22
  have c1 : ∀ w, (convert 28 22 (.float .f32 a1)).run Try.prog w = .ok (.float .f64 (up a1)) w := fun w => run_up w _ _ n1 (by kernel_rfl) Try.underlying22
  have d0 : ∀ (t : TypeId) (w : World), (binOp .sub t (.float .f64 (up a0)) (.float .f64 (up a0))).run Try.prog w = .ok (.float .f64 (nanAt (.nanBits .f64 (up a0) (up a0)) w)) w.drew := fun t w => run_arith_nan w .sub (by simp) t .f64 _ _ (sub_self_inf .f64 (x := up a0) (inf_up n0 f0))
  have o : ∀ x y w, (FloatKind.f64.format.order (nanAt (.nanBits .f64 x y) w) 0 != some .eq) = true := fun x y w => by rw [order_nan_left .f64 (nanAt_bits64 _ _ w)]; rfl
  have c2 : ∀ w, (convert 22 28 (.float .f64 9221120237041090561)).run Try.prog w = .ok (.float .f32 (nanAt (.nanConv .f32 9221120237041090561) w)) w.drew := fun w => run_down_nan w _ _ nanC_nan (by kernel_rfl) Try.underlying28
  have c3 : ∀ w b q, (convert 28 22 (.float .f32 (nanAt (.nanConv .f32 b) q))).run Try.prog w = .ok (.float .f64 (nanAt (.nanConv .f64 (nanAt (.nanConv .f32 b) q)) w)) w.drew := fun w b q => run_up_nan w _ _ (nanAt_conv32 _ _) (by kernel_rfl) Try.underlying22
  have HY := Lib.hid f0
  clear f0 n0 n1
  go_enter Try.func6, Try.ntmps6
  go_wp2_with (first | (go_at_call 18; refine (sameFloat_nan _ _ (nanAt_conv64 _ _) (nanAt_conv64 _ _) _).mono ?_; rintro e w' ⟨rfl, rfl⟩) | (go_at_call 40; refine (isFinite_not _ HY.out _).mono ?_; rintro e w' ⟨rfl, n, rfl⟩) | go_in)
  go_ret
  exact ⟨rfl, below_drewn _ _⟩

theorem ang_inf_nan (a0 a1 : Nat) (w : World) (f0 : ¬ rung Ieee.single a0 < Ieee.single.infRung) (n0 : Num .f32 a0) (n1 : ¬ Num .f32 a1) :
    Calls Try.prog 6 #[.float .f32 a0, .float .f32 a1] w fun e w' => e = .returned (.bool true) ∧ Below w.heap.size w w' := by
  have c0 : ∀ w, (convert 28 22 (.float .f32 a0)).run Try.prog w = .ok (.float .f64 (up a0)) w := fun w => run_up w _ _ n0 (by kernel_rfl) Try.underlying22
  have c1 : ∀ w, (convert 28 22 (.float .f32 a1)).run Try.prog w = .ok (.float .f64 (nanAt (.nanConv .f64 a1) w)) w.drew := fun w => run_up_nan w _ _ n1 (by kernel_rfl) Try.underlying22
  have d0 : ∀ (t : TypeId) (w : World), (binOp .sub t (.float .f64 (up a0)) (.float .f64 (up a0))).run Try.prog w = .ok (.float .f64 (nanAt (.nanBits .f64 (up a0) (up a0)) w)) w.drew := fun t w => run_arith_nan w .sub (by simp) t .f64 _ _ (sub_self_inf .f64 (x := up a0) (inf_up n0 f0))
  have o : ∀ x y w, (FloatKind.f64.format.order (nanAt (.nanBits .f64 x y) w) 0 != some .eq) = true := fun x y w => by rw [order_nan_left .f64 (nanAt_bits64 _ _ w)]; rfl
  have c2 : ∀ w, (convert 22 28 (.float .f64 9221120237041090561)).run Try.prog w = .ok (.float .f32 (nanAt (.nanConv .f32 9221120237041090561) w)) w.drew := fun w => run_down_nan w _ _ nanC_nan (by kernel_rfl) Try.underlying28
  have c3 : ∀ w b q, (convert 28 22 (.float .f32 (nanAt (.nanConv .f32 b) q))).run Try.prog w = .ok (.float .f64 (nanAt (.nanConv .f64 (nanAt (.nanConv .f32 b) q)) w)) w.drew := fun w b q => run_up_nan w _ _ (nanAt_conv32 _ _) (by kernel_rfl) Try.underlying22
  have HY := Lib.hid f0
  clear f0 n0 n1
  go_enter Try.func6, Try.ntmps6
  go_wp2_with (first | (go_at_call 18; refine (sameFloat_nan _ _ (nanAt_conv64 _ _) (nanAt_conv64 _ _) _).mono ?_; rintro e w' ⟨rfl, rfl⟩) | (go_at_call 40; refine (isFinite_not _ HY.out _).mono ?_; rintro e w' ⟨rfl, n, rfl⟩) | go_in)
  go_ret
  exact ⟨rfl, below_drewn _ _⟩

theorem ang_nan_num (a0 a1 : Nat) (w : World) (f0 : ¬ rung Ieee.single a0 < Ieee.single.infRung) (n0 : ¬ Num .f32 a0) (n1 : Num .f32 a1) :
    Calls Try.prog 6 #[.float .f32 a0, .float .f32 a1] w fun e w' => e = .returned (.bool true) ∧ Below w.heap.size w w' := by
  have c0 : ∀ w, (convert 28 22 (.float .f32 a0)).run Try.prog w = .ok (.float .f64 (nanAt (.nanConv .f64 a0) w)) w.drew := fun w => run_up_nan w _ _ n0 (by kernel_rfl) Try.underlying22
  have c1 : ∀ w, (convert 28 22 (.float .f32 a1)).run Try.prog w = .ok (.float .f64 (up a1)) w := fun w => run_up w _ _ n1 (by kernel_rfl) Try.underlying22
  have d0 : ∀ (q : World) (t : TypeId) (w : World), (binOp .sub t (.float .f64 (nanAt (.nanConv .f64 a0) q)) (.float .f64 (nanAt (.nanConv .f64 a0) q))).run Try.prog w = .ok (.float .f64 (nanAt (.nanBits .f64 (nanAt (.nanConv .f64 a0) q) (nanAt (.nanConv .f64 a0) q)) w)) w.drew := fun q t w => run_arith_nan w .sub (by simp) t .f64 _ _ (nan_arith .sub .f64 (.inl (nanAt_conv64 _ _)))
  have o : ∀ x y w, (FloatKind.f64.format.order (nanAt (.nanBits .f64 x y) w) 0 != some .eq) = true := fun x y w => by rw [order_nan_left .f64 (nanAt_bits64 _ _ w)]; rfl
  have c2 : ∀ w, (convert 22 28 (.float .f64 9221120237041090561)).run Try.prog w = .ok (.float .f32 (nanAt (.nanConv .f32 9221120237041090561) w)) w.drew := fun w => run_down_nan w _ _ nanC_nan (by kernel_rfl) Try.underlying28
  have c3 : ∀ w b q, (convert 28 22 (.float .f32 (nanAt (.nanConv .f32 b) q))).run Try.prog w = .ok (.float .f64 (nanAt (.nanConv .f64 (nanAt (.nanConv .f32 b) q)) w)) w.drew := fun w b q => run_up_nan w _ _ (nanAt_conv32 _ _) (by kernel_rfl) Try.underlying22
  have HY := Lib.hid f0
  clear f0 n0 n1
  go_enter Try.func6, Try.ntmps6
  go_wp2_with (first | (go_at_call 18; refine (sameFloat_nan _ _ (nanAt_conv64 _ _) (nanAt_conv64 _ _) _).mono ?_; rintro e w' ⟨rfl, rfl⟩) | (go_at_call 40; refine (isFinite_not _ HY.out _).mono ?_; rintro e w' ⟨rfl, n, rfl⟩) | go_in)
  go_ret
  exact ⟨rfl, below_drewn _ _⟩

theorem ang_nan_nan (a0 a1 : Nat) (w : World) (f0 : ¬ rung Ieee.single a0 < Ieee.single.infRung) (n0 : ¬ Num .f32 a0) (n1 : ¬ Num .f32 a1) :
    Calls Try.prog 6 #[.float .f32 a0, .float .f32 a1] w fun e w' => e = .returned (.bool true) ∧ Below w.heap.size w w' := by
  have c0 : ∀ w, (convert 28 22 (.float .f32 a0)).run Try.prog w = .ok (.float .f64 (nanAt (.nanConv .f64 a0) w)) w.drew := fun w => run_up_nan w _ _ n0 (by kernel_rfl) Try.underlying22
  have c1 : ∀ w, (convert 28 22 (.float .f32 a1)).run Try.prog w = .ok (.float .f64 (nanAt (.nanConv .f64 a1) w)) w.drew := fun w => run_up_nan w _ _ n1 (by kernel_rfl) Try.underlying22
  have d0 : ∀ (q : World) (t : TypeId) (w : World), (binOp .sub t (.float .f64 (nanAt (.nanConv .f64 a0) q)) (.float .f64 (nanAt (.nanConv .f64 a0) q))).run Try.prog w = .ok (.float .f64 (nanAt (.nanBits .f64 (nanAt (.nanConv .f64 a0) q) (nanAt (.nanConv .f64 a0) q)) w)) w.drew := fun q t w => run_arith_nan w .sub (by simp) t .f64 _ _ (nan_arith .sub .f64 (.inl (nanAt_conv64 _ _)))
  have o : ∀ x y w, (FloatKind.f64.format.order (nanAt (.nanBits .f64 x y) w) 0 != some .eq) = true := fun x y w => by rw [order_nan_left .f64 (nanAt_bits64 _ _ w)]; rfl
  have c2 : ∀ w, (convert 22 28 (.float .f64 9221120237041090561)).run Try.prog w = .ok (.float .f32 (nanAt (.nanConv .f32 9221120237041090561) w)) w.drew := fun w => run_down_nan w _ _ nanC_nan (by kernel_rfl) Try.underlying28
  have c3 : ∀ w b q, (convert 28 22 (.float .f32 (nanAt (.nanConv .f32 b) q))).run Try.prog w = .ok (.float .f64 (nanAt (.nanConv .f64 (nanAt (.nanConv .f32 b) q)) w)) w.drew := fun w b q => run_up_nan w _ _ (nanAt_conv32 _ _) (by kernel_rfl) Try.underlying22
  have HY := Lib.hid f0
  clear f0 n0 n1
  go_enter Try.func6, Try.ntmps6
  go_wp2_with (first | (go_at_call 18; refine (sameFloat_nan _ _ (nanAt_conv64 _ _) (nanAt_conv64 _ _) _).mono ?_; rintro e w' ⟨rfl, rfl⟩) | (go_at_call 40; refine (isFinite_not _ HY.out _).mono ?_; rintro e w' ⟨rfl, n, rfl⟩) | go_in)
  go_ret
  exact ⟨rfl, below_drewn _ _⟩

theorem ang_fin_inf (a0 a1 : Nat) (w : World) (f0 : rung Ieee.single a0 < Ieee.single.infRung) (f1 : ¬ rung Ieee.single a1 < Ieee.single.infRung) (n1 : Num .f32 a1) :
    Calls Try.prog 6 #[.float .f32 a0, .float .f32 a1] w fun e w' => e = .returned (.bool true) ∧ Below w.heap.size w w' := by
  have n0 : Num .f32 a0 := Nat.le_of_lt f0
  have c0 : ∀ w, (convert 28 22 (.float .f32 a0)).run Try.prog w = .ok (.float .f64 (up a0)) w := fun w => run_up w _ _ n0 (by kernel_rfl) Try.underlying22
  have c1 : ∀ w, (convert 28 22 (.float .f32 a1)).run Try.prog w = .ok (.float .f64 (up a1)) w := fun w => run_up w _ _ n1 (by kernel_rfl) Try.underlying22
  have d0 := op64 (sub_self_fin .f64 (x := up a0) (by have := fin_up f0; show rung Ieee.double (up a0) < Ieee.double.infRung; rw [inf64]; omega))
  have d1 : ∀ (t : TypeId) (w : World), (binOp .sub t (.float .f64 (up a1)) (.float .f64 (up a1))).run Try.prog w = .ok (.float .f64 (nanAt (.nanBits .f64 (up a1) (up a1)) w)) w.drew := fun t w => run_arith_nan w .sub (by simp) t .f64 _ _ (sub_self_inf .f64 (x := up a1) (inf_up n1 f1))
  have o0 : (FloatKind.f64.format.order 0 0 != some .eq) = false := by decide
  have o : ∀ x y w, (FloatKind.f64.format.order (nanAt (.nanBits .f64 x y) w) 0 != some .eq) = true := fun x y w => by rw [order_nan_left .f64 (nanAt_bits64 _ _ w)]; rfl
  have c2 : ∀ w, (convert 22 28 (.float .f64 9221120237041090561)).run Try.prog w = .ok (.float .f32 (nanAt (.nanConv .f32 9221120237041090561) w)) w.drew := fun w => run_down_nan w _ _ nanC_nan (by kernel_rfl) Try.underlying28
  have c3 : ∀ w b q, (convert 28 22 (.float .f32 (nanAt (.nanConv .f32 b) q))).run Try.prog w = .ok (.float .f64 (nanAt (.nanConv .f64 (nanAt (.nanConv .f32 b) q)) w)) w.drew := fun w b q => run_up_nan w _ _ (nanAt_conv32 _ _) (by kernel_rfl) Try.underlying22
  have HY := Lib.hid f0
  have HX := Lib.hid f1
  clear f1
  clear f0 n0 n1
  go_enter Try.func6, Try.ntmps6
  go_wp2_with (first | (go_at_call 18; refine (sameFloat_nan _ _ (nanAt_conv64 _ _) (nanAt_conv64 _ _) _).mono ?_; rintro e w' ⟨rfl, rfl⟩) | (go_at_call 40; refine (isFinite_fin _ HY.out _).mono ?_; rintro e w' ⟨rfl, n, rfl⟩) | (go_at_call 40; refine (isFinite_not _ HX.out _).mono ?_; rintro e w' ⟨rfl, n, rfl⟩) | go_in)
  go_ret
  exact ⟨rfl, below_drewn _ _⟩

theorem ang_fin_nan (a0 a1 : Nat) (w : World) (f0 : rung Ieee.single a0 < Ieee.single.infRung) (n1 : ¬ Num .f32 a1) (f1 : ¬ rung Ieee.single a1 < Ieee.single.infRung) :
    Calls Try.prog 6 #[.float .f32 a0, .float .f32 a1] w fun e w' => e = .returned (.bool true) ∧ Below w.heap.size w w' := by
  have n0 : Num .f32 a0 := Nat.le_of_lt f0
  have c0 : ∀ w, (convert 28 22 (.float .f32 a0)).run Try.prog w = .ok (.float .f64 (up a0)) w := fun w => run_up w _ _ n0 (by kernel_rfl) Try.underlying22
  have c1 : ∀ w, (convert 28 22 (.float .f32 a1)).run Try.prog w = .ok (.float .f64 (nanAt (.nanConv .f64 a1) w)) w.drew := fun w => run_up_nan w _ _ n1 (by kernel_rfl) Try.underlying22
  have d0 := op64 (sub_self_fin .f64 (x := up a0) (by have := fin_up f0; show rung Ieee.double (up a0) < Ieee.double.infRung; rw [inf64]; omega))
  have d1 : ∀ (q : World) (t : TypeId) (w : World), (binOp .sub t (.float .f64 (nanAt (.nanConv .f64 a1) q)) (.float .f64 (nanAt (.nanConv .f64 a1) q))).run Try.prog w = .ok (.float .f64 (nanAt (.nanBits .f64 (nanAt (.nanConv .f64 a1) q) (nanAt (.nanConv .f64 a1) q)) w)) w.drew := fun q t w => run_arith_nan w .sub (by simp) t .f64 _ _ (nan_arith .sub .f64 (.inl (nanAt_conv64 _ _)))
  have o0 : (FloatKind.f64.format.order 0 0 != some .eq) = false := by decide
  have o : ∀ x y w, (FloatKind.f64.format.order (nanAt (.nanBits .f64 x y) w) 0 != some .eq) = true := fun x y w => by rw [order_nan_left .f64 (nanAt_bits64 _ _ w)]; rfl
  have c2 : ∀ w, (convert 22 28 (.float .f64 9221120237041090561)).run Try.prog w = .ok (.float .f32 (nanAt (.nanConv .f32 9221120237041090561) w)) w.drew := fun w => run_down_nan w _ _ nanC_nan (by kernel_rfl) Try.underlying28
  have c3 : ∀ w b q, (convert 28 22 (.float .f32 (nanAt (.nanConv .f32 b) q))).run Try.prog w = .ok (.float .f64 (nanAt (.nanConv .f64 (nanAt (.nanConv .f32 b) q)) w)) w.drew := fun w b q => run_up_nan w _ _ (nanAt_conv32 _ _) (by kernel_rfl) Try.underlying22
  have HY := Lib.hid f0
  have HX := Lib.hid f1
  clear f1
  clear f0 n0 n1
  go_enter Try.func6, Try.ntmps6
  go_wp2_with (first | (go_at_call 18; refine (sameFloat_nan _ _ (nanAt_conv64 _ _) (nanAt_conv64 _ _) _).mono ?_; rintro e w' ⟨rfl, rfl⟩) | (go_at_call 40; refine (isFinite_fin _ HY.out _).mono ?_; rintro e w' ⟨rfl, n, rfl⟩) | (go_at_call 40; refine (isFinite_not _ HX.out _).mono ?_; rintro e w' ⟨rfl, n, rfl⟩) | go_in)
  go_ret
  exact ⟨rfl, below_drewn _ _⟩

theorem walk_fnExactAngleTurns (a0 a1 : Nat) (w : World) (_w0 : (Lit.float .f32 a0).wf = true) (_w1 : (Lit.float .f32 a1).wf = true) :
    Calls Try.prog 6 #[.float .f32 a0, .float .f32 a1] w fun e w' => e = .returned (.bool true) ∧ Below w.heap.size w w' := by
  by_cases f0 : rung Ieee.single a0 < Ieee.single.infRung
  · by_cases f1 : rung Ieee.single a1 < Ieee.single.infRung
    · cases z0 : (FloatKind.f32.format.order a0 0 == some .eq)
      · exact ang_point a0 a1 w f0 f1 (.inl z0)
      · cases z1 : (FloatKind.f32.format.order a1 0 == some .eq)
        · exact ang_point a0 a1 w f0 f1 (.inr z1)
        · exact ang_middle a0 a1 w f0 f1 z0 z1
    · by_cases n1 : Num .f32 a1
      · exact ang_fin_inf a0 a1 w f0 f1 n1
      · exact ang_fin_nan a0 a1 w f0 n1 f1
  · by_cases n0 : Num .f32 a0
    · by_cases n1 : Num .f32 a1
      · exact ang_inf_num a0 a1 w f0 n0 n1
      · exact ang_inf_nan a0 a1 w f0 n0 n1
    · by_cases n1 : Num .f32 a1
      · exact ang_nan_num a0 a1 w f0 n0 n1
      · exact ang_nan_nan a0 a1 w f0 n0 n1
end Go.Proofs.Ytajjepcegpimjaa
