/-
  The walks of the phasor, by the program and by the model.
-/
import Derived.Test.YtajjepcegpimjaaPhasA
namespace Go.Proofs.Ytajjepcegpimjaa
open Go.RowKit Fl

/-- both parts, by the number of quarters -/
def pr (N c s mc ms : Nat) : Nat := if N = 1 then down ms else if N = 2 then down mc else if N = 3 then down s else down c
def pim (N c s mc ms : Nat) : Nat := if N = 1 then down c else if N = 2 then down ms else if N = 3 then down mc else down s

theorem sineOf_ex {x v : Nat} (h : ∃ n d neg p below over f1 f2 z u zp, PartAt x n d neg p ∧ SinAt p below over f1 f2 z u zp ∧ v = sr below zp) (w : World) :
    Calls Try.prog 36 #[.float .f64 x] w fun e w' => e = .returned (.float .f64 v) ∧ w = w' := by
  obtain ⟨n, d, neg, p, below, over, f1, f2, z, u, zp, hP, hS, rfl⟩ := h
  exact sineOf_any hP hS w
theorem specSine_ex {x v : Nat} (hx : rung Ieee.double x < 1075 * 4503599627370496) (h : ∃ n d neg p below over f1 f2 z u zp, PartAt x n d neg p ∧ SinAt p below over f1 f2 z u zp ∧ v = sr below zp) (w : World) :
    Calls Try.prog 56 #[.float .f64 x] w fun e w' => e = .returned (.float .f64 v) ∧ w = w' := by
  obtain ⟨n, d, neg, p, below, over, f1, f2, z, u, zp, hP, hS, rfl⟩ := h
  exact specSine hx hP hS w

theorem wide_fin {y : Nat} (hy : y < 18446744073709551616) (hf : rung Ieee.double y < Ieee.double.infRung) (w : World) :
    Calls Try.prog 32 #[.float .f64 y] w fun e w' => e = .returned (.bool true) ∧ w = w' := by
  rw [inf64] at hf
  have o := abs_le (c := 9218868437227405311) (num64.2 (by omega) : Num .f64 y) (by decide)
  rw [decide_eq_true (show rung Ieee.double y ≤ 9218868437227405311 by omega)] at o
  have HY := Lib.hid hy
  clear hy hf
  go_enter Try.func32, Try.ntmps32
  go_wp2_with (go_at_call 47; refine (abs_any _ HY.out _).mono ?_; rintro e w' ⟨rfl, rfl⟩)
  go_ret
  exact ⟨by first | rfl | (rw [o]; rfl) | (simp [o]), rfl⟩

theorem wide_not {y : Nat} (hy : y < 18446744073709551616) (hf : ¬ rung Ieee.double y < Ieee.double.infRung) (w : World) :
    Calls Try.prog 32 #[.float .f64 y] w fun e w' => e = .returned (.bool false) ∧ w = w' := by
  rw [inf64] at hf
  have o : (FloatKind.f64.format.order (rung Ieee.double y) 9218868437227405311 == some .lt || FloatKind.f64.format.order (rung Ieee.double y) 9218868437227405311 == some .eq) = false := by
    by_cases hn : Num .f64 y
    · rw [abs_le hn (by decide)]; exact decide_eq_false (by omega)
    · rw [order_nan_left .f64 (abs_nan hn)]; rfl
  have HY := Lib.hid hy
  clear hy hf
  go_enter Try.func32, Try.ntmps32
  go_wp2_with (go_at_call 47; refine (abs_any _ HY.out _).mono ?_; rintro e w' ⟨rfl, rfl⟩)
  go_ret
  exact ⟨by first | rfl | (rw [o]; rfl) | (simp [o]), rfl⟩

set_option maxHeartbeats 2000000 in
theorem implPhas {y : Nat} {n : Int} {d : Nat} {neg : Bool} {f0 N f h' c s mc ms : Nat} (hyb : y < 18446744073709551616) (hy : rung Ieee.double y < 1075 * 4503599627370496) (hP : PartAt y n d neg f0) (h : PhasAt f0 N f h' c s mc ms) (w : World) :
    Calls Try.prog 12 #[.float .f64 y] w fun e w' => e = .returned (.complex .f32 (pr N c s mc ms) (pim N c s mc ms)) ∧ w = w' := by
  have HN := Lib.hid (num64.2 (show rung Ieee.double y ≤ 9218868437227405312 by omega))
  have HB : Hid (decide (1075 * 4503599627370496 ≤ rung Ieee.double y) = false) := Lib.hid (decide_eq_false (by omega))
  have HF : Hid (rung Ieee.double y < Ieee.double.infRung) := Lib.hid (by rw [inf64]; omega)
  have HYB := Lib.hid hyb
  have c4 : ∀ w, (convert 22 28 (.float .f64 c)).run Try.prog w = .ok (.float .f32 (down c)) w := fun w => run_down w _ _ h.lc (by omega) (by omega) (by kernel_rfl) Try.underlying28
  have c5 : ∀ w, (convert 22 28 (.float .f64 s)).run Try.prog w = .ok (.float .f32 (down s)) w := fun w => run_down w _ _ h.ls (by omega) (by omega) (by kernel_rfl) Try.underlying28
  have c6 : ∀ w, (convert 22 28 (.float .f64 mc)).run Try.prog w = .ok (.float .f32 (down mc)) w := fun w => run_down w _ _ h.lmc (by omega) (by omega) (by kernel_rfl) Try.underlying28
  have c7 : ∀ w, (convert 22 28 (.float .f64 ms)).run Try.prog w = .ok (.float .f32 (down ms)) w := fun w => run_down w _ _ h.lms (by omega) (by omega) (by kernel_rfl) Try.underlying28
  have d1 := op64 h.hh
  have d2 := op64 h.hmc
  have d3 := op64 h.hms
  have EF := Lib.hid h.hf
  have H := Lib.hid h
  have HP := Lib.hid hP
  clear h hP hy hyb
  go_enter Try.func12, Try.ntmps12
  go_wp2_with (first | (go_at_call 32; refine (wide_fin HYB.out HF.out _).mono ?_; rintro e w' ⟨rfl, rfl⟩) | (go_at_call 34; refine (areMany_b HYB.out HN.out _ HB.out _).mono ?_; rintro e w' ⟨rfl, rfl⟩) | (go_at_call 35; refine (turnPart_any HP.out _).mono ?_; rintro e w' ⟨rfl, rfl⟩))
  go_loop [4, 5] (fun g k => ∃ i : Nat, i ≤ N ∧ g = .float .f64 (fq f0 i) ∧ k = .int .i64 i) (fun _ k => N - (intOf k).toNat)
  case atStart => exact ⟨0, Nat.zero_le _, rfl, rfl⟩
  case round =>
    obtain ⟨i, hi, rfl, rfl⟩ := hrel
    have hI : i ≤ N := hi
    have hN9 := H.out.hN
    by_cases c3 : i < N
    · obtain ⟨q1, q2⟩ := H.out.hq i c3
      have t : (FloatKind.f64.format.order (fq f0 i) 4598175219545276416 == some .gt || FloatKind.f64.format.order (fq f0 i) 4598175219545276416 == some .eq) = true := q1
      have q2 := op64 q2
      clear q1
      go_wp2_with fail
      go_round
      case rel => exact ⟨i + 1, by omega, rfl, by go_num⟩
      case measure => simp [intOf]; omega
    · obtain rfl : i = N := by omega
      have t : (FloatKind.f64.format.order (fq f0 i) 4598175219545276416 == some .gt || FloatKind.f64.format.order (fq f0 i) 4598175219545276416 == some .eq) = false := H.out.he
      have ef := EF.out
      rw [← ef] at t ⊢
      clear ef hI hi c3
      rcases (show i = 1 ∨ i = 2 ∨ i = 3 ∨ i = 0 ∨ 4 ≤ i by omega) with rfl | rfl | rfl | rfl | h4
      · go_wp2_with (first | (go_at_call 36; (with_reducible refine (sineOf_ex H.out.hc _).mono ?_); rintro e w' ⟨rfl, rfl⟩) | (go_at_call 36; (with_reducible refine (sineOf_ex H.out.hs _).mono ?_); rintro e w' ⟨rfl, rfl⟩) | (go_at_call 37; go_in) | (go_at_call 44; go_in))
        go_ret
        exact ⟨rfl, rfl⟩
      · go_wp2_with (first | (go_at_call 36; (with_reducible refine (sineOf_ex H.out.hc _).mono ?_); rintro e w' ⟨rfl, rfl⟩) | (go_at_call 36; (with_reducible refine (sineOf_ex H.out.hs _).mono ?_); rintro e w' ⟨rfl, rfl⟩) | (go_at_call 37; go_in) | (go_at_call 44; go_in))
        go_ret
        exact ⟨rfl, rfl⟩
      · go_wp2_with (first | (go_at_call 36; (with_reducible refine (sineOf_ex H.out.hc _).mono ?_); rintro e w' ⟨rfl, rfl⟩) | (go_at_call 36; (with_reducible refine (sineOf_ex H.out.hs _).mono ?_); rintro e w' ⟨rfl, rfl⟩) | (go_at_call 37; go_in) | (go_at_call 44; go_in))
        go_ret
        exact ⟨rfl, rfl⟩
      · go_wp2_with (first | (go_at_call 36; (with_reducible refine (sineOf_ex H.out.hc _).mono ?_); rintro e w' ⟨rfl, rfl⟩) | (go_at_call 36; (with_reducible refine (sineOf_ex H.out.hs _).mono ?_); rintro e w' ⟨rfl, rfl⟩) | (go_at_call 37; go_in) | (go_at_call 44; go_in))
        go_ret
        exact ⟨rfl, rfl⟩
      · go_wp2_with (first | (go_at_call 36; (with_reducible refine (sineOf_ex H.out.hc _).mono ?_); rintro e w' ⟨rfl, rfl⟩) | (go_at_call 36; (with_reducible refine (sineOf_ex H.out.hs _).mono ?_); rintro e w' ⟨rfl, rfl⟩) | (go_at_call 37; go_in) | (go_at_call 44; go_in))
        go_ret
        exact ⟨by unfold pr pim; rw [if_neg (by omega), if_neg (by omega), if_neg (by omega), if_neg (by omega), if_neg (by omega), if_neg (by omega)]; rfl, rfl⟩

set_option maxHeartbeats 2000000 in
theorem specPhas_false {y : Nat} {n : Int} {d : Nat} {f0 N f h' c s mc ms : Nat} (hy : rung Ieee.double y < 1075 * 4503599627370496) (hP : PartAt y n d false f0) (h : PhasAt f0 N f h' c s mc ms) (w : World) :
    Calls Try.prog 31 #[.float .f64 y] w fun e w' => e = .returned (.complex .f32 (pr N c s mc ms) (pim N c s mc ms)) ∧ w = w' := by
  have s1 := op64 (sub_self_fin .f64 (x := y) (by show rung Ieee.double y < Ieee.double.infRung; rw [inf64]; omega))
  have s2 : (FloatKind.f64.format.order 0 0 != some .eq) = false := by decide
  obtain ⟨s3, s4⟩ := few_turns hy
  have c1 : ∀ w, (convert 22 2 (.float .f64 y)).run Try.prog w = .ok (.int .i64 n) w := fun w => run_convert_float_int w _ _ _ _ _ _ (by kernel_rfl) Try.underlying2 hP.hn
  have d0 := op64 hP.hd
  have t0 := hP.ht
  have c4 : ∀ w, (convert 22 28 (.float .f64 c)).run Try.prog w = .ok (.float .f32 (down c)) w := fun w => run_down w _ _ h.lc (by omega) (by omega) (by kernel_rfl) Try.underlying28
  have c5 : ∀ w, (convert 22 28 (.float .f64 s)).run Try.prog w = .ok (.float .f32 (down s)) w := fun w => run_down w _ _ h.ls (by omega) (by omega) (by kernel_rfl) Try.underlying28
  have c6 : ∀ w, (convert 22 28 (.float .f64 mc)).run Try.prog w = .ok (.float .f32 (down mc)) w := fun w => run_down w _ _ h.lmc (by omega) (by omega) (by kernel_rfl) Try.underlying28
  have c7 : ∀ w, (convert 22 28 (.float .f64 ms)).run Try.prog w = .ok (.float .f32 (down ms)) w := fun w => run_down w _ _ h.lms (by omega) (by omega) (by kernel_rfl) Try.underlying28
  have d1 := op64 h.hh
  have d2 := op64 h.hmc
  have d3 := op64 h.hms
  have EF := Lib.hid h.hf
  have H := Lib.hid h
  have HP := Lib.hid hP
  have x1 := hP.hf' rfl
  clear h hP hy HP
  subst x1
  go_enter Try.func31, Try.ntmps31
  go_wp2_with fail
  go_loop [3, 4] (fun g k => ∃ i : Nat, i ≤ N ∧ g = .float .f64 (fq f0 i) ∧ k = .int .i64 i) (fun _ k => N - (intOf k).toNat)
  case atStart => exact ⟨0, Nat.zero_le _, rfl, rfl⟩
  case round =>
    obtain ⟨i, hi, rfl, rfl⟩ := hrel
    have hI : i ≤ N := hi
    have hN9 := H.out.hN
    by_cases c3 : i < N
    · obtain ⟨q1, q2⟩ := H.out.hq i c3
      have t : (FloatKind.f64.format.order (fq f0 i) 4598175219545276416 == some .gt || FloatKind.f64.format.order (fq f0 i) 4598175219545276416 == some .eq) = true := q1
      have q2 := op64 q2
      clear q1
      go_wp2_with fail
      go_round
      case rel => exact ⟨i + 1, by omega, rfl, by go_num⟩
      case measure => simp [intOf]; omega
    · obtain rfl : i = N := by omega
      have t : (FloatKind.f64.format.order (fq f0 i) 4598175219545276416 == some .gt || FloatKind.f64.format.order (fq f0 i) 4598175219545276416 == some .eq) = false := H.out.he
      have ef := EF.out
      rw [← ef] at t ⊢
      clear ef hI hi c3
      rcases (show i = 1 ∨ i = 2 ∨ i = 3 ∨ i = 0 ∨ 4 ≤ i by omega) with rfl | rfl | rfl | rfl | h4
      · go_wp2_with (first | (go_at_call 56; (with_reducible refine (specSine_ex H.out.hhw H.out.hc _).mono ?_); rintro e w' ⟨rfl, rfl⟩) | (go_at_call 56; (with_reducible refine (specSine_ex H.out.hfw H.out.hs _).mono ?_); rintro e w' ⟨rfl, rfl⟩) | (go_at_call 57; go_in))
        go_ret
        exact ⟨rfl, rfl⟩
      · go_wp2_with (first | (go_at_call 56; (with_reducible refine (specSine_ex H.out.hhw H.out.hc _).mono ?_); rintro e w' ⟨rfl, rfl⟩) | (go_at_call 56; (with_reducible refine (specSine_ex H.out.hfw H.out.hs _).mono ?_); rintro e w' ⟨rfl, rfl⟩) | (go_at_call 57; go_in))
        go_ret
        exact ⟨rfl, rfl⟩
      · go_wp2_with (first | (go_at_call 56; (with_reducible refine (specSine_ex H.out.hhw H.out.hc _).mono ?_); rintro e w' ⟨rfl, rfl⟩) | (go_at_call 56; (with_reducible refine (specSine_ex H.out.hfw H.out.hs _).mono ?_); rintro e w' ⟨rfl, rfl⟩) | (go_at_call 57; go_in))
        go_ret
        exact ⟨rfl, rfl⟩
      · go_wp2_with (first | (go_at_call 56; (with_reducible refine (specSine_ex H.out.hhw H.out.hc _).mono ?_); rintro e w' ⟨rfl, rfl⟩) | (go_at_call 56; (with_reducible refine (specSine_ex H.out.hfw H.out.hs _).mono ?_); rintro e w' ⟨rfl, rfl⟩) | (go_at_call 57; go_in))
        go_ret
        exact ⟨rfl, rfl⟩
      · go_wp2_with (first | (go_at_call 56; (with_reducible refine (specSine_ex H.out.hhw H.out.hc _).mono ?_); rintro e w' ⟨rfl, rfl⟩) | (go_at_call 56; (with_reducible refine (specSine_ex H.out.hfw H.out.hs _).mono ?_); rintro e w' ⟨rfl, rfl⟩) | (go_at_call 57; go_in))
        go_ret
        exact ⟨by unfold pr pim; rw [if_neg (by omega), if_neg (by omega), if_neg (by omega), if_neg (by omega), if_neg (by omega), if_neg (by omega)]; rfl, rfl⟩

set_option maxHeartbeats 2000000 in
theorem specPhas_true {y : Nat} {n : Int} {d : Nat} {f0 N f h' c s mc ms : Nat} (hy : rung Ieee.double y < 1075 * 4503599627370496) (hP : PartAt y n d true f0) (h : PhasAt f0 N f h' c s mc ms) (w : World) :
    Calls Try.prog 31 #[.float .f64 y] w fun e w' => e = .returned (.complex .f32 (pr N c s mc ms) (pim N c s mc ms)) ∧ w = w' := by
  have s1 := op64 (sub_self_fin .f64 (x := y) (by show rung Ieee.double y < Ieee.double.infRung; rw [inf64]; omega))
  have s2 : (FloatKind.f64.format.order 0 0 != some .eq) = false := by decide
  obtain ⟨s3, s4⟩ := few_turns hy
  have c1 : ∀ w, (convert 22 2 (.float .f64 y)).run Try.prog w = .ok (.int .i64 n) w := fun w => run_convert_float_int w _ _ _ _ _ _ (by kernel_rfl) Try.underlying2 hP.hn
  have d0 := op64 hP.hd
  have t0 := hP.ht
  have c4 : ∀ w, (convert 22 28 (.float .f64 c)).run Try.prog w = .ok (.float .f32 (down c)) w := fun w => run_down w _ _ h.lc (by omega) (by omega) (by kernel_rfl) Try.underlying28
  have c5 : ∀ w, (convert 22 28 (.float .f64 s)).run Try.prog w = .ok (.float .f32 (down s)) w := fun w => run_down w _ _ h.ls (by omega) (by omega) (by kernel_rfl) Try.underlying28
  have c6 : ∀ w, (convert 22 28 (.float .f64 mc)).run Try.prog w = .ok (.float .f32 (down mc)) w := fun w => run_down w _ _ h.lmc (by omega) (by omega) (by kernel_rfl) Try.underlying28
  have c7 : ∀ w, (convert 22 28 (.float .f64 ms)).run Try.prog w = .ok (.float .f32 (down ms)) w := fun w => run_down w _ _ h.lms (by omega) (by omega) (by kernel_rfl) Try.underlying28
  have d1 := op64 h.hh
  have d2 := op64 h.hmc
  have d3 := op64 h.hms
  have EF := Lib.hid h.hf
  have H := Lib.hid h
  have HP := Lib.hid hP
  have x1 := op64 (hP.hf rfl)
  clear h hP hy
  go_enter Try.func31, Try.ntmps31
  go_wp2_with fail
  go_loop [3, 4] (fun g k => ∃ i : Nat, i ≤ N ∧ g = .float .f64 (fq f0 i) ∧ k = .int .i64 i) (fun _ k => N - (intOf k).toNat)
  case atStart => exact ⟨0, Nat.zero_le _, rfl, rfl⟩
  case round =>
    obtain ⟨i, hi, rfl, rfl⟩ := hrel
    have hI : i ≤ N := hi
    have hN9 := H.out.hN
    by_cases c3 : i < N
    · obtain ⟨q1, q2⟩ := H.out.hq i c3
      have t : (FloatKind.f64.format.order (fq f0 i) 4598175219545276416 == some .gt || FloatKind.f64.format.order (fq f0 i) 4598175219545276416 == some .eq) = true := q1
      have q2 := op64 q2
      clear q1
      go_wp2_with fail
      go_round
      case rel => exact ⟨i + 1, by omega, rfl, by go_num⟩
      case measure => simp [intOf]; omega
    · obtain rfl : i = N := by omega
      have t : (FloatKind.f64.format.order (fq f0 i) 4598175219545276416 == some .gt || FloatKind.f64.format.order (fq f0 i) 4598175219545276416 == some .eq) = false := H.out.he
      have ef := EF.out
      rw [← ef] at t ⊢
      clear ef hI hi c3
      rcases (show i = 1 ∨ i = 2 ∨ i = 3 ∨ i = 0 ∨ 4 ≤ i by omega) with rfl | rfl | rfl | rfl | h4
      · go_wp2_with (first | (go_at_call 56; (with_reducible refine (specSine_ex H.out.hhw H.out.hc _).mono ?_); rintro e w' ⟨rfl, rfl⟩) | (go_at_call 56; (with_reducible refine (specSine_ex H.out.hfw H.out.hs _).mono ?_); rintro e w' ⟨rfl, rfl⟩) | (go_at_call 57; go_in))
        go_ret
        exact ⟨rfl, rfl⟩
      · go_wp2_with (first | (go_at_call 56; (with_reducible refine (specSine_ex H.out.hhw H.out.hc _).mono ?_); rintro e w' ⟨rfl, rfl⟩) | (go_at_call 56; (with_reducible refine (specSine_ex H.out.hfw H.out.hs _).mono ?_); rintro e w' ⟨rfl, rfl⟩) | (go_at_call 57; go_in))
        go_ret
        exact ⟨rfl, rfl⟩
      · go_wp2_with (first | (go_at_call 56; (with_reducible refine (specSine_ex H.out.hhw H.out.hc _).mono ?_); rintro e w' ⟨rfl, rfl⟩) | (go_at_call 56; (with_reducible refine (specSine_ex H.out.hfw H.out.hs _).mono ?_); rintro e w' ⟨rfl, rfl⟩) | (go_at_call 57; go_in))
        go_ret
        exact ⟨rfl, rfl⟩
      · go_wp2_with (first | (go_at_call 56; (with_reducible refine (specSine_ex H.out.hhw H.out.hc _).mono ?_); rintro e w' ⟨rfl, rfl⟩) | (go_at_call 56; (with_reducible refine (specSine_ex H.out.hfw H.out.hs _).mono ?_); rintro e w' ⟨rfl, rfl⟩) | (go_at_call 57; go_in))
        go_ret
        exact ⟨rfl, rfl⟩
      · go_wp2_with (first | (go_at_call 56; (with_reducible refine (specSine_ex H.out.hhw H.out.hc _).mono ?_); rintro e w' ⟨rfl, rfl⟩) | (go_at_call 56; (with_reducible refine (specSine_ex H.out.hfw H.out.hs _).mono ?_); rintro e w' ⟨rfl, rfl⟩) | (go_at_call 57; go_in))
        go_ret
        exact ⟨by unfold pr pim; rw [if_neg (by omega), if_neg (by omega), if_neg (by omega), if_neg (by omega), if_neg (by omega), if_neg (by omega)]; rfl, rfl⟩

theorem specPhas {y : Nat} {n : Int} {d : Nat} {neg : Bool} {f0 N f h' c s mc ms : Nat} (hy : rung Ieee.double y < 1075 * 4503599627370496) (hP : PartAt y n d neg f0) (h : PhasAt f0 N f h' c s mc ms) (w : World) :
    Calls Try.prog 31 #[.float .f64 y] w fun e w' => e = .returned (.complex .f32 (pr N c s mc ms) (pim N c s mc ms)) ∧ w = w' := by
  cases neg
  · exact specPhas_false hy hP h w
  · exact specPhas_true hy hP h w
end Go.Proofs.Ytajjepcegpimjaa
