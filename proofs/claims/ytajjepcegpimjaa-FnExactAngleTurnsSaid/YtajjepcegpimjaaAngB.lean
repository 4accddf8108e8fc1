/-
  The walks of the angle, by the program and by the model.
-/
import Derived.Test.YtajjepcegpimjaaAngA
import Derived.Test.YtajjepcegpimjaaSinD
namespace Go.Proofs.Ytajjepcegpimjaa
open Go.RowKit Fl

set_option maxHeartbeats 1000000 in
theorem flat_any {t0 u q1 q2 r : Nat} (h : FlatAt t0 u q1 q2 r) (w : World) :
    Calls Try.prog 64 #[.float .f64 t0] w fun x w' => x = .returned (.float .f64 r) ∧ w = w' := by
  have H := Lib.hid h
  clear h
  go_enter Try.func64, Try.ntmps64
  go_wp2_with go_in
  go_loop [0, 6] (fun t k => ∃ i : Nat, i ≤ 3 ∧ t = .float .f64 (tq t0 i) ∧ k = .int .i64 i) (fun _ k => 3 - (intOf k).toNat)
  case atStart => exact ⟨0, by omega, rfl, rfl⟩
  case round =>
    obtain ⟨i, hi, rfl, rfl⟩ := hrel
    by_cases c : i < 3
    · obtain ⟨m1, m2, m3, m4, m5⟩ := H.out.ht i c
      have m1 := op64 m1
      have m2 := op64 m2
      have m3 := run_sqrt_some _ _ m3
      have m4 := op64 m4
      have m5 := op64 m5
      go_wp2_with go_in
      go_round
      case rel => exact ⟨i + 1, by omega, rfl, by go_num⟩
      case measure => simp [intOf]; omega
    · obtain rfl : i = 3 := by omega
      have n1 := op64 H.out.hu
      go_wp2_with go_in
      go_loop [4, 5] (fun p k => ∃ i : Nat, i ≤ 8 ∧ p = .float .f64 (aq u i) ∧ k = .float .f64 (kh i)) (fun _ k => kOf k)
      case atStart => exact ⟨0, by omega, rfl, by rw [show kh 0 = 4624633867356078080 by decide]⟩
      case round =>
        clear n1
        obtain ⟨i, hi, rfl, rfl⟩ := hrel
        by_cases c3 : i < 8
        · have f0 := kh_ge i c3
          have f1 := op64 (ah_ok i c3)
          have f4 := op64 (kh_step i c3)
          obtain ⟨m1, m2⟩ := H.out.ha i c3
          have f2 := op64 m1
          have f3 := op64 m2
          clear m1 m2
          go_wp2_with go_in
          go_round
          case rel => exact ⟨i + 1, by omega, rfl, rfl⟩
          case measure => exact kh_down i c3
        · obtain rfl : i = 8 := by omega
          have f0 := kh_end
          have f1 := op64 H.out.h1
          have f2 := op64 H.out.h2
          have f3 := op64 H.out.hr
          go_wp2_with go_in
          go_ret
          exact ⟨rfl, rfl⟩

def ng (b : Bool) (x : Nat) : Nat := if b then Op.negFloat .f64 x else x

set_option maxHeartbeats 1000000 in
theorem specAng_false_false_false_false {y x t0 u q1 q2 r g1 g2 : Nat} (hy : y < 18446744073709551616) (hx : x < 18446744073709551616) (fy : rung Ieee.double y < Ieee.double.infRung) (fx : rung Ieee.double x < Ieee.double.infRung)
    (z1 : (FloatKind.f64.format.order x 0 == some .eq) = false) (k1 : (FloatKind.f64.format.order x 0 == some .lt) = false) (k2 : (FloatKind.f64.format.order y 0 == some .lt) = false)
    (h : AngAt (rung Ieee.double y) (rung Ieee.double x) false false false t0 u q1 q2 r g1 g2) (w : World) :
    Calls Try.prog 63 #[.float .f64 y, .float .f64 x] w fun e w' => e = .returned (.float .f64 (ng false g2)) ∧ w = w' := by
  have y1 := op64 (sub_self_fin .f64 (x := y) fy)
  have x1 := op64 (sub_self_fin .f64 (x := x) fx)
  have o0 : (FloatKind.f64.format.order 0 0 != some .eq) = false := by decide
  have to := h.ho
  have HX := Lib.hid hx
  have HY := Lib.hid hy
  have H := Lib.hid h
  have e0 := op64 (h.h0' rfl)
  have e1 := h.h1' rfl
  have e2 := h.h2' rfl
  clear h hx hy fx fy
  subst e1
  subst e2
  go_enter Try.func63, Try.ntmps63
  go_wp2_with (first | (go_at_call 47; refine (abs_any _ HY.out _).mono ?_; rintro e w' ⟨rfl, rfl⟩) | (go_at_call 47; refine (abs_any _ HX.out _).mono ?_; rintro e w' ⟨rfl, rfl⟩))
  go_loop [8, 9] (fun t k => ∃ i : Nat, i ≤ 3 ∧ t = .float .f64 (tq t0 i) ∧ k = .int .i64 i) (fun _ k => 3 - (intOf k).toNat)
  case atStart => exact ⟨0, by omega, rfl, rfl⟩
  case round =>
    clear y1 x1 o0 to e0 z1
    obtain ⟨i, hi, rfl, rfl⟩ := hrel
    by_cases c : i < 3
    · obtain ⟨m1, m2, m3, m4, m5⟩ := H.out.hf.ht i c
      have m1 := op64 m1
      have m2 := op64 m2
      have m3 := run_sqrt_some _ _ m3
      have m4 := op64 m4
      have m5 := op64 m5
      go_wp2_with go_in
      go_round
      case rel => exact ⟨i + 1, by omega, rfl, by go_num⟩
      case measure => simp [intOf]; omega
    · obtain rfl : i = 3 := by omega
      have n1 := op64 H.out.hf.hu
      go_wp2_with go_in
      go_loop [11, 12] (fun p k => ∃ i : Nat, i ≤ 8 ∧ p = .float .f64 (aq u i) ∧ k = .int .i64 (15 - 2 * (i : Int))) (fun _ k => (intOf k + 2).toNat)
      case atStart => exact ⟨0, by omega, rfl, rfl⟩
      case round =>
        clear n1
        obtain ⟨i, hi, rfl, rfl⟩ := hrel
        have hI : i ≤ 8 := hi
        by_cases c3 : i < 8
        · have f0 : floatOfInt .f64 (15 - 2 * (i : Int)) = kh i := rfl
          have f1 := op64 (ah_ok i c3)
          obtain ⟨m1, m2⟩ := H.out.hf.ha i c3
          have f2 := op64 m1
          have f3 := op64 m2
          clear m1 m2
          go_wp2_with go_in
          go_round
          case rel => exact ⟨i + 1, by omega, rfl, by go_num⟩
          case measure => simp [intOf]; omega
        · obtain rfl : i = 8 := by omega
          have f1 := op64 H.out.hf.h1
          have f2 := op64 H.out.hf.h2
          have f3 := op64 H.out.hf.hr
          go_wp2_with go_in
          go_ret
          exact ⟨rfl, rfl⟩

set_option maxHeartbeats 1000000 in
theorem specAng_false_false_false_true {y x t0 u q1 q2 r g1 g2 : Nat} (hy : y < 18446744073709551616) (hx : x < 18446744073709551616) (fy : rung Ieee.double y < Ieee.double.infRung) (fx : rung Ieee.double x < Ieee.double.infRung)
    (z1 : (FloatKind.f64.format.order x 0 == some .eq) = true) (z2 : (FloatKind.f64.format.order y 0 == some .eq) = false) (k1 : (FloatKind.f64.format.order x 0 == some .lt) = false) (k2 : (FloatKind.f64.format.order y 0 == some .lt) = false)
    (h : AngAt (rung Ieee.double y) (rung Ieee.double x) false false false t0 u q1 q2 r g1 g2) (w : World) :
    Calls Try.prog 63 #[.float .f64 y, .float .f64 x] w fun e w' => e = .returned (.float .f64 (ng false g2)) ∧ w = w' := by
  have y1 := op64 (sub_self_fin .f64 (x := y) fy)
  have x1 := op64 (sub_self_fin .f64 (x := x) fx)
  have o0 : (FloatKind.f64.format.order 0 0 != some .eq) = false := by decide
  have to := h.ho
  have HX := Lib.hid hx
  have HY := Lib.hid hy
  have H := Lib.hid h
  have e0 := op64 (h.h0' rfl)
  have e1 := h.h1' rfl
  have e2 := h.h2' rfl
  clear h hx hy fx fy
  subst e1
  subst e2
  go_enter Try.func63, Try.ntmps63
  go_wp2_with (first | (go_at_call 47; refine (abs_any _ HY.out _).mono ?_; rintro e w' ⟨rfl, rfl⟩) | (go_at_call 47; refine (abs_any _ HX.out _).mono ?_; rintro e w' ⟨rfl, rfl⟩))
  go_loop [8, 9] (fun t k => ∃ i : Nat, i ≤ 3 ∧ t = .float .f64 (tq t0 i) ∧ k = .int .i64 i) (fun _ k => 3 - (intOf k).toNat)
  case atStart => exact ⟨0, by omega, rfl, rfl⟩
  case round =>
    clear y1 x1 o0 to e0 z1 z2
    obtain ⟨i, hi, rfl, rfl⟩ := hrel
    by_cases c : i < 3
    · obtain ⟨m1, m2, m3, m4, m5⟩ := H.out.hf.ht i c
      have m1 := op64 m1
      have m2 := op64 m2
      have m3 := run_sqrt_some _ _ m3
      have m4 := op64 m4
      have m5 := op64 m5
      go_wp2_with go_in
      go_round
      case rel => exact ⟨i + 1, by omega, rfl, by go_num⟩
      case measure => simp [intOf]; omega
    · obtain rfl : i = 3 := by omega
      have n1 := op64 H.out.hf.hu
      go_wp2_with go_in
      go_loop [11, 12] (fun p k => ∃ i : Nat, i ≤ 8 ∧ p = .float .f64 (aq u i) ∧ k = .int .i64 (15 - 2 * (i : Int))) (fun _ k => (intOf k + 2).toNat)
      case atStart => exact ⟨0, by omega, rfl, rfl⟩
      case round =>
        clear n1
        obtain ⟨i, hi, rfl, rfl⟩ := hrel
        have hI : i ≤ 8 := hi
        by_cases c3 : i < 8
        · have f0 : floatOfInt .f64 (15 - 2 * (i : Int)) = kh i := rfl
          have f1 := op64 (ah_ok i c3)
          obtain ⟨m1, m2⟩ := H.out.hf.ha i c3
          have f2 := op64 m1
          have f3 := op64 m2
          clear m1 m2
          go_wp2_with go_in
          go_round
          case rel => exact ⟨i + 1, by omega, rfl, by go_num⟩
          case measure => simp [intOf]; omega
        · obtain rfl : i = 8 := by omega
          have f1 := op64 H.out.hf.h1
          have f2 := op64 H.out.hf.h2
          have f3 := op64 H.out.hf.hr
          go_wp2_with go_in
          go_ret
          exact ⟨rfl, rfl⟩

set_option maxHeartbeats 1000000 in
theorem specAng_false_false_true_false {y x t0 u q1 q2 r g1 g2 : Nat} (hy : y < 18446744073709551616) (hx : x < 18446744073709551616) (fy : rung Ieee.double y < Ieee.double.infRung) (fx : rung Ieee.double x < Ieee.double.infRung)
    (z1 : (FloatKind.f64.format.order x 0 == some .eq) = false) (k1 : (FloatKind.f64.format.order x 0 == some .lt) = false) (k2 : (FloatKind.f64.format.order y 0 == some .lt) = true)
    (h : AngAt (rung Ieee.double y) (rung Ieee.double x) false false true t0 u q1 q2 r g1 g2) (w : World) :
    Calls Try.prog 63 #[.float .f64 y, .float .f64 x] w fun e w' => e = .returned (.float .f64 (ng true g2)) ∧ w = w' := by
  have y1 := op64 (sub_self_fin .f64 (x := y) fy)
  have x1 := op64 (sub_self_fin .f64 (x := x) fx)
  have o0 : (FloatKind.f64.format.order 0 0 != some .eq) = false := by decide
  have to := h.ho
  have HX := Lib.hid hx
  have HY := Lib.hid hy
  have H := Lib.hid h
  have e0 := op64 (h.h0' rfl)
  have e1 := h.h1' rfl
  have e2 := h.h2' rfl
  clear h hx hy fx fy
  subst e1
  subst e2
  go_enter Try.func63, Try.ntmps63
  go_wp2_with (first | (go_at_call 47; refine (abs_any _ HY.out _).mono ?_; rintro e w' ⟨rfl, rfl⟩) | (go_at_call 47; refine (abs_any _ HX.out _).mono ?_; rintro e w' ⟨rfl, rfl⟩))
  go_loop [8, 9] (fun t k => ∃ i : Nat, i ≤ 3 ∧ t = .float .f64 (tq t0 i) ∧ k = .int .i64 i) (fun _ k => 3 - (intOf k).toNat)
  case atStart => exact ⟨0, by omega, rfl, rfl⟩
  case round =>
    clear y1 x1 o0 to e0 z1
    obtain ⟨i, hi, rfl, rfl⟩ := hrel
    by_cases c : i < 3
    · obtain ⟨m1, m2, m3, m4, m5⟩ := H.out.hf.ht i c
      have m1 := op64 m1
      have m2 := op64 m2
      have m3 := run_sqrt_some _ _ m3
      have m4 := op64 m4
      have m5 := op64 m5
      go_wp2_with go_in
      go_round
      case rel => exact ⟨i + 1, by omega, rfl, by go_num⟩
      case measure => simp [intOf]; omega
    · obtain rfl : i = 3 := by omega
      have n1 := op64 H.out.hf.hu
      go_wp2_with go_in
      go_loop [11, 12] (fun p k => ∃ i : Nat, i ≤ 8 ∧ p = .float .f64 (aq u i) ∧ k = .int .i64 (15 - 2 * (i : Int))) (fun _ k => (intOf k + 2).toNat)
      case atStart => exact ⟨0, by omega, rfl, rfl⟩
      case round =>
        clear n1
        obtain ⟨i, hi, rfl, rfl⟩ := hrel
        have hI : i ≤ 8 := hi
        by_cases c3 : i < 8
        · have f0 : floatOfInt .f64 (15 - 2 * (i : Int)) = kh i := rfl
          have f1 := op64 (ah_ok i c3)
          obtain ⟨m1, m2⟩ := H.out.hf.ha i c3
          have f2 := op64 m1
          have f3 := op64 m2
          clear m1 m2
          go_wp2_with go_in
          go_round
          case rel => exact ⟨i + 1, by omega, rfl, by go_num⟩
          case measure => simp [intOf]; omega
        · obtain rfl : i = 8 := by omega
          have f1 := op64 H.out.hf.h1
          have f2 := op64 H.out.hf.h2
          have f3 := op64 H.out.hf.hr
          go_wp2_with go_in
          go_ret
          exact ⟨rfl, rfl⟩

set_option maxHeartbeats 1000000 in
theorem specAng_false_false_true_true {y x t0 u q1 q2 r g1 g2 : Nat} (hy : y < 18446744073709551616) (hx : x < 18446744073709551616) (fy : rung Ieee.double y < Ieee.double.infRung) (fx : rung Ieee.double x < Ieee.double.infRung)
    (z1 : (FloatKind.f64.format.order x 0 == some .eq) = true) (z2 : (FloatKind.f64.format.order y 0 == some .eq) = false) (k1 : (FloatKind.f64.format.order x 0 == some .lt) = false) (k2 : (FloatKind.f64.format.order y 0 == some .lt) = true)
    (h : AngAt (rung Ieee.double y) (rung Ieee.double x) false false true t0 u q1 q2 r g1 g2) (w : World) :
    Calls Try.prog 63 #[.float .f64 y, .float .f64 x] w fun e w' => e = .returned (.float .f64 (ng true g2)) ∧ w = w' := by
  have y1 := op64 (sub_self_fin .f64 (x := y) fy)
  have x1 := op64 (sub_self_fin .f64 (x := x) fx)
  have o0 : (FloatKind.f64.format.order 0 0 != some .eq) = false := by decide
  have to := h.ho
  have HX := Lib.hid hx
  have HY := Lib.hid hy
  have H := Lib.hid h
  have e0 := op64 (h.h0' rfl)
  have e1 := h.h1' rfl
  have e2 := h.h2' rfl
  clear h hx hy fx fy
  subst e1
  subst e2
  go_enter Try.func63, Try.ntmps63
  go_wp2_with (first | (go_at_call 47; refine (abs_any _ HY.out _).mono ?_; rintro e w' ⟨rfl, rfl⟩) | (go_at_call 47; refine (abs_any _ HX.out _).mono ?_; rintro e w' ⟨rfl, rfl⟩))
  go_loop [8, 9] (fun t k => ∃ i : Nat, i ≤ 3 ∧ t = .float .f64 (tq t0 i) ∧ k = .int .i64 i) (fun _ k => 3 - (intOf k).toNat)
  case atStart => exact ⟨0, by omega, rfl, rfl⟩
  case round =>
    clear y1 x1 o0 to e0 z1 z2
    obtain ⟨i, hi, rfl, rfl⟩ := hrel
    by_cases c : i < 3
    · obtain ⟨m1, m2, m3, m4, m5⟩ := H.out.hf.ht i c
      have m1 := op64 m1
      have m2 := op64 m2
      have m3 := run_sqrt_some _ _ m3
      have m4 := op64 m4
      have m5 := op64 m5
      go_wp2_with go_in
      go_round
      case rel => exact ⟨i + 1, by omega, rfl, by go_num⟩
      case measure => simp [intOf]; omega
    · obtain rfl : i = 3 := by omega
      have n1 := op64 H.out.hf.hu
      go_wp2_with go_in
      go_loop [11, 12] (fun p k => ∃ i : Nat, i ≤ 8 ∧ p = .float .f64 (aq u i) ∧ k = .int .i64 (15 - 2 * (i : Int))) (fun _ k => (intOf k + 2).toNat)
      case atStart => exact ⟨0, by omega, rfl, rfl⟩
      case round =>
        clear n1
        obtain ⟨i, hi, rfl, rfl⟩ := hrel
        have hI : i ≤ 8 := hi
        by_cases c3 : i < 8
        · have f0 : floatOfInt .f64 (15 - 2 * (i : Int)) = kh i := rfl
          have f1 := op64 (ah_ok i c3)
          obtain ⟨m1, m2⟩ := H.out.hf.ha i c3
          have f2 := op64 m1
          have f3 := op64 m2
          clear m1 m2
          go_wp2_with go_in
          go_round
          case rel => exact ⟨i + 1, by omega, rfl, by go_num⟩
          case measure => simp [intOf]; omega
        · obtain rfl : i = 8 := by omega
          have f1 := op64 H.out.hf.h1
          have f2 := op64 H.out.hf.h2
          have f3 := op64 H.out.hf.hr
          go_wp2_with go_in
          go_ret
          exact ⟨rfl, rfl⟩

set_option maxHeartbeats 1000000 in
theorem specAng_false_true_false_false {y x t0 u q1 q2 r g1 g2 : Nat} (hy : y < 18446744073709551616) (hx : x < 18446744073709551616) (fy : rung Ieee.double y < Ieee.double.infRung) (fx : rung Ieee.double x < Ieee.double.infRung)
    (z1 : (FloatKind.f64.format.order x 0 == some .eq) = false) (k1 : (FloatKind.f64.format.order x 0 == some .lt) = true) (k2 : (FloatKind.f64.format.order y 0 == some .lt) = false)
    (h : AngAt (rung Ieee.double y) (rung Ieee.double x) false true false t0 u q1 q2 r g1 g2) (w : World) :
    Calls Try.prog 63 #[.float .f64 y, .float .f64 x] w fun e w' => e = .returned (.float .f64 (ng false g2)) ∧ w = w' := by
  have y1 := op64 (sub_self_fin .f64 (x := y) fy)
  have x1 := op64 (sub_self_fin .f64 (x := x) fx)
  have o0 : (FloatKind.f64.format.order 0 0 != some .eq) = false := by decide
  have to := h.ho
  have HX := Lib.hid hx
  have HY := Lib.hid hy
  have H := Lib.hid h
  have e0 := op64 (h.h0' rfl)
  have e1 := h.h1' rfl
  have e2 := op64 (h.h2 rfl)
  clear h hx hy fx fy
  subst e1
  go_enter Try.func63, Try.ntmps63
  go_wp2_with (first | (go_at_call 47; refine (abs_any _ HY.out _).mono ?_; rintro e w' ⟨rfl, rfl⟩) | (go_at_call 47; refine (abs_any _ HX.out _).mono ?_; rintro e w' ⟨rfl, rfl⟩))
  go_loop [8, 9] (fun t k => ∃ i : Nat, i ≤ 3 ∧ t = .float .f64 (tq t0 i) ∧ k = .int .i64 i) (fun _ k => 3 - (intOf k).toNat)
  case atStart => exact ⟨0, by omega, rfl, rfl⟩
  case round =>
    clear y1 x1 o0 to e0 z1
    obtain ⟨i, hi, rfl, rfl⟩ := hrel
    by_cases c : i < 3
    · obtain ⟨m1, m2, m3, m4, m5⟩ := H.out.hf.ht i c
      have m1 := op64 m1
      have m2 := op64 m2
      have m3 := run_sqrt_some _ _ m3
      have m4 := op64 m4
      have m5 := op64 m5
      go_wp2_with go_in
      go_round
      case rel => exact ⟨i + 1, by omega, rfl, by go_num⟩
      case measure => simp [intOf]; omega
    · obtain rfl : i = 3 := by omega
      have n1 := op64 H.out.hf.hu
      go_wp2_with go_in
      go_loop [11, 12] (fun p k => ∃ i : Nat, i ≤ 8 ∧ p = .float .f64 (aq u i) ∧ k = .int .i64 (15 - 2 * (i : Int))) (fun _ k => (intOf k + 2).toNat)
      case atStart => exact ⟨0, by omega, rfl, rfl⟩
      case round =>
        clear n1
        obtain ⟨i, hi, rfl, rfl⟩ := hrel
        have hI : i ≤ 8 := hi
        by_cases c3 : i < 8
        · have f0 : floatOfInt .f64 (15 - 2 * (i : Int)) = kh i := rfl
          have f1 := op64 (ah_ok i c3)
          obtain ⟨m1, m2⟩ := H.out.hf.ha i c3
          have f2 := op64 m1
          have f3 := op64 m2
          clear m1 m2
          go_wp2_with go_in
          go_round
          case rel => exact ⟨i + 1, by omega, rfl, by go_num⟩
          case measure => simp [intOf]; omega
        · obtain rfl : i = 8 := by omega
          have f1 := op64 H.out.hf.h1
          have f2 := op64 H.out.hf.h2
          have f3 := op64 H.out.hf.hr
          go_wp2_with go_in
          go_ret
          exact ⟨rfl, rfl⟩

set_option maxHeartbeats 1000000 in
theorem specAng_false_true_true_false {y x t0 u q1 q2 r g1 g2 : Nat} (hy : y < 18446744073709551616) (hx : x < 18446744073709551616) (fy : rung Ieee.double y < Ieee.double.infRung) (fx : rung Ieee.double x < Ieee.double.infRung)
    (z1 : (FloatKind.f64.format.order x 0 == some .eq) = false) (k1 : (FloatKind.f64.format.order x 0 == some .lt) = true) (k2 : (FloatKind.f64.format.order y 0 == some .lt) = true)
    (h : AngAt (rung Ieee.double y) (rung Ieee.double x) false true true t0 u q1 q2 r g1 g2) (w : World) :
    Calls Try.prog 63 #[.float .f64 y, .float .f64 x] w fun e w' => e = .returned (.float .f64 (ng true g2)) ∧ w = w' := by
  have y1 := op64 (sub_self_fin .f64 (x := y) fy)
  have x1 := op64 (sub_self_fin .f64 (x := x) fx)
  have o0 : (FloatKind.f64.format.order 0 0 != some .eq) = false := by decide
  have to := h.ho
  have HX := Lib.hid hx
  have HY := Lib.hid hy
  have H := Lib.hid h
  have e0 := op64 (h.h0' rfl)
  have e1 := h.h1' rfl
  have e2 := op64 (h.h2 rfl)
  clear h hx hy fx fy
  subst e1
  go_enter Try.func63, Try.ntmps63
  go_wp2_with (first | (go_at_call 47; refine (abs_any _ HY.out _).mono ?_; rintro e w' ⟨rfl, rfl⟩) | (go_at_call 47; refine (abs_any _ HX.out _).mono ?_; rintro e w' ⟨rfl, rfl⟩))
  go_loop [8, 9] (fun t k => ∃ i : Nat, i ≤ 3 ∧ t = .float .f64 (tq t0 i) ∧ k = .int .i64 i) (fun _ k => 3 - (intOf k).toNat)
  case atStart => exact ⟨0, by omega, rfl, rfl⟩
  case round =>
    clear y1 x1 o0 to e0 z1
    obtain ⟨i, hi, rfl, rfl⟩ := hrel
    by_cases c : i < 3
    · obtain ⟨m1, m2, m3, m4, m5⟩ := H.out.hf.ht i c
      have m1 := op64 m1
      have m2 := op64 m2
      have m3 := run_sqrt_some _ _ m3
      have m4 := op64 m4
      have m5 := op64 m5
      go_wp2_with go_in
      go_round
      case rel => exact ⟨i + 1, by omega, rfl, by go_num⟩
      case measure => simp [intOf]; omega
    · obtain rfl : i = 3 := by omega
      have n1 := op64 H.out.hf.hu
      go_wp2_with go_in
      go_loop [11, 12] (fun p k => ∃ i : Nat, i ≤ 8 ∧ p = .float .f64 (aq u i) ∧ k = .int .i64 (15 - 2 * (i : Int))) (fun _ k => (intOf k + 2).toNat)
      case atStart => exact ⟨0, by omega, rfl, rfl⟩
      case round =>
        clear n1
        obtain ⟨i, hi, rfl, rfl⟩ := hrel
        have hI : i ≤ 8 := hi
        by_cases c3 : i < 8
        · have f0 : floatOfInt .f64 (15 - 2 * (i : Int)) = kh i := rfl
          have f1 := op64 (ah_ok i c3)
          obtain ⟨m1, m2⟩ := H.out.hf.ha i c3
          have f2 := op64 m1
          have f3 := op64 m2
          clear m1 m2
          go_wp2_with go_in
          go_round
          case rel => exact ⟨i + 1, by omega, rfl, by go_num⟩
          case measure => simp [intOf]; omega
        · obtain rfl : i = 8 := by omega
          have f1 := op64 H.out.hf.h1
          have f2 := op64 H.out.hf.h2
          have f3 := op64 H.out.hf.hr
          go_wp2_with go_in
          go_ret
          exact ⟨rfl, rfl⟩

set_option maxHeartbeats 1000000 in
theorem specAng_true_false_false_false {y x t0 u q1 q2 r g1 g2 : Nat} (hy : y < 18446744073709551616) (hx : x < 18446744073709551616) (fy : rung Ieee.double y < Ieee.double.infRung) (fx : rung Ieee.double x < Ieee.double.infRung)
    (z1 : (FloatKind.f64.format.order x 0 == some .eq) = false) (k1 : (FloatKind.f64.format.order x 0 == some .lt) = false) (k2 : (FloatKind.f64.format.order y 0 == some .lt) = false)
    (h : AngAt (rung Ieee.double y) (rung Ieee.double x) true false false t0 u q1 q2 r g1 g2) (w : World) :
    Calls Try.prog 63 #[.float .f64 y, .float .f64 x] w fun e w' => e = .returned (.float .f64 (ng false g2)) ∧ w = w' := by
  have y1 := op64 (sub_self_fin .f64 (x := y) fy)
  have x1 := op64 (sub_self_fin .f64 (x := x) fx)
  have o0 : (FloatKind.f64.format.order 0 0 != some .eq) = false := by decide
  have to := h.ho
  have HX := Lib.hid hx
  have HY := Lib.hid hy
  have H := Lib.hid h
  have e0 := op64 (h.h0 rfl)
  have e1 := op64 (h.h1 rfl)
  have e2 := h.h2' rfl
  clear h hx hy fx fy
  subst e2
  go_enter Try.func63, Try.ntmps63
  go_wp2_with (first | (go_at_call 47; refine (abs_any _ HY.out _).mono ?_; rintro e w' ⟨rfl, rfl⟩) | (go_at_call 47; refine (abs_any _ HX.out _).mono ?_; rintro e w' ⟨rfl, rfl⟩))
  go_loop [8, 9] (fun t k => ∃ i : Nat, i ≤ 3 ∧ t = .float .f64 (tq t0 i) ∧ k = .int .i64 i) (fun _ k => 3 - (intOf k).toNat)
  case atStart => exact ⟨0, by omega, rfl, rfl⟩
  case round =>
    clear y1 x1 o0 to e0 z1
    obtain ⟨i, hi, rfl, rfl⟩ := hrel
    by_cases c : i < 3
    · obtain ⟨m1, m2, m3, m4, m5⟩ := H.out.hf.ht i c
      have m1 := op64 m1
      have m2 := op64 m2
      have m3 := run_sqrt_some _ _ m3
      have m4 := op64 m4
      have m5 := op64 m5
      go_wp2_with go_in
      go_round
      case rel => exact ⟨i + 1, by omega, rfl, by go_num⟩
      case measure => simp [intOf]; omega
    · obtain rfl : i = 3 := by omega
      have n1 := op64 H.out.hf.hu
      go_wp2_with go_in
      go_loop [11, 12] (fun p k => ∃ i : Nat, i ≤ 8 ∧ p = .float .f64 (aq u i) ∧ k = .int .i64 (15 - 2 * (i : Int))) (fun _ k => (intOf k + 2).toNat)
      case atStart => exact ⟨0, by omega, rfl, rfl⟩
      case round =>
        clear n1
        obtain ⟨i, hi, rfl, rfl⟩ := hrel
        have hI : i ≤ 8 := hi
        by_cases c3 : i < 8
        · have f0 : floatOfInt .f64 (15 - 2 * (i : Int)) = kh i := rfl
          have f1 := op64 (ah_ok i c3)
          obtain ⟨m1, m2⟩ := H.out.hf.ha i c3
          have f2 := op64 m1
          have f3 := op64 m2
          clear m1 m2
          go_wp2_with go_in
          go_round
          case rel => exact ⟨i + 1, by omega, rfl, by go_num⟩
          case measure => simp [intOf]; omega
        · obtain rfl : i = 8 := by omega
          have f1 := op64 H.out.hf.h1
          have f2 := op64 H.out.hf.h2
          have f3 := op64 H.out.hf.hr
          go_wp2_with go_in
          go_ret
          exact ⟨rfl, rfl⟩

set_option maxHeartbeats 1000000 in
theorem specAng_true_false_false_true {y x t0 u q1 q2 r g1 g2 : Nat} (hy : y < 18446744073709551616) (hx : x < 18446744073709551616) (fy : rung Ieee.double y < Ieee.double.infRung) (fx : rung Ieee.double x < Ieee.double.infRung)
    (z1 : (FloatKind.f64.format.order x 0 == some .eq) = true) (z2 : (FloatKind.f64.format.order y 0 == some .eq) = false) (k1 : (FloatKind.f64.format.order x 0 == some .lt) = false) (k2 : (FloatKind.f64.format.order y 0 == some .lt) = false)
    (h : AngAt (rung Ieee.double y) (rung Ieee.double x) true false false t0 u q1 q2 r g1 g2) (w : World) :
    Calls Try.prog 63 #[.float .f64 y, .float .f64 x] w fun e w' => e = .returned (.float .f64 (ng false g2)) ∧ w = w' := by
  have y1 := op64 (sub_self_fin .f64 (x := y) fy)
  have x1 := op64 (sub_self_fin .f64 (x := x) fx)
  have o0 : (FloatKind.f64.format.order 0 0 != some .eq) = false := by decide
  have to := h.ho
  have HX := Lib.hid hx
  have HY := Lib.hid hy
  have H := Lib.hid h
  have e0 := op64 (h.h0 rfl)
  have e1 := op64 (h.h1 rfl)
  have e2 := h.h2' rfl
  clear h hx hy fx fy
  subst e2
  go_enter Try.func63, Try.ntmps63
  go_wp2_with (first | (go_at_call 47; refine (abs_any _ HY.out _).mono ?_; rintro e w' ⟨rfl, rfl⟩) | (go_at_call 47; refine (abs_any _ HX.out _).mono ?_; rintro e w' ⟨rfl, rfl⟩))
  go_loop [8, 9] (fun t k => ∃ i : Nat, i ≤ 3 ∧ t = .float .f64 (tq t0 i) ∧ k = .int .i64 i) (fun _ k => 3 - (intOf k).toNat)
  case atStart => exact ⟨0, by omega, rfl, rfl⟩
  case round =>
    clear y1 x1 o0 to e0 z1 z2
    obtain ⟨i, hi, rfl, rfl⟩ := hrel
    by_cases c : i < 3
    · obtain ⟨m1, m2, m3, m4, m5⟩ := H.out.hf.ht i c
      have m1 := op64 m1
      have m2 := op64 m2
      have m3 := run_sqrt_some _ _ m3
      have m4 := op64 m4
      have m5 := op64 m5
      go_wp2_with go_in
      go_round
      case rel => exact ⟨i + 1, by omega, rfl, by go_num⟩
      case measure => simp [intOf]; omega
    · obtain rfl : i = 3 := by omega
      have n1 := op64 H.out.hf.hu
      go_wp2_with go_in
      go_loop [11, 12] (fun p k => ∃ i : Nat, i ≤ 8 ∧ p = .float .f64 (aq u i) ∧ k = .int .i64 (15 - 2 * (i : Int))) (fun _ k => (intOf k + 2).toNat)
      case atStart => exact ⟨0, by omega, rfl, rfl⟩
      case round =>
        clear n1
        obtain ⟨i, hi, rfl, rfl⟩ := hrel
        have hI : i ≤ 8 := hi
        by_cases c3 : i < 8
        · have f0 : floatOfInt .f64 (15 - 2 * (i : Int)) = kh i := rfl
          have f1 := op64 (ah_ok i c3)
          obtain ⟨m1, m2⟩ := H.out.hf.ha i c3
          have f2 := op64 m1
          have f3 := op64 m2
          clear m1 m2
          go_wp2_with go_in
          go_round
          case rel => exact ⟨i + 1, by omega, rfl, by go_num⟩
          case measure => simp [intOf]; omega
        · obtain rfl : i = 8 := by omega
          have f1 := op64 H.out.hf.h1
          have f2 := op64 H.out.hf.h2
          have f3 := op64 H.out.hf.hr
          go_wp2_with go_in
          go_ret
          exact ⟨rfl, rfl⟩

set_option maxHeartbeats 1000000 in
theorem specAng_true_false_true_false {y x t0 u q1 q2 r g1 g2 : Nat} (hy : y < 18446744073709551616) (hx : x < 18446744073709551616) (fy : rung Ieee.double y < Ieee.double.infRung) (fx : rung Ieee.double x < Ieee.double.infRung)
    (z1 : (FloatKind.f64.format.order x 0 == some .eq) = false) (k1 : (FloatKind.f64.format.order x 0 == some .lt) = false) (k2 : (FloatKind.f64.format.order y 0 == some .lt) = true)
    (h : AngAt (rung Ieee.double y) (rung Ieee.double x) true false true t0 u q1 q2 r g1 g2) (w : World) :
    Calls Try.prog 63 #[.float .f64 y, .float .f64 x] w fun e w' => e = .returned (.float .f64 (ng true g2)) ∧ w = w' := by
  have y1 := op64 (sub_self_fin .f64 (x := y) fy)
  have x1 := op64 (sub_self_fin .f64 (x := x) fx)
  have o0 : (FloatKind.f64.format.order 0 0 != some .eq) = false := by decide
  have to := h.ho
  have HX := Lib.hid hx
  have HY := Lib.hid hy
  have H := Lib.hid h
  have e0 := op64 (h.h0 rfl)
  have e1 := op64 (h.h1 rfl)
  have e2 := h.h2' rfl
  clear h hx hy fx fy
  subst e2
  go_enter Try.func63, Try.ntmps63
  go_wp2_with (first | (go_at_call 47; refine (abs_any _ HY.out _).mono ?_; rintro e w' ⟨rfl, rfl⟩) | (go_at_call 47; refine (abs_any _ HX.out _).mono ?_; rintro e w' ⟨rfl, rfl⟩))
  go_loop [8, 9] (fun t k => ∃ i : Nat, i ≤ 3 ∧ t = .float .f64 (tq t0 i) ∧ k = .int .i64 i) (fun _ k => 3 - (intOf k).toNat)
  case atStart => exact ⟨0, by omega, rfl, rfl⟩
  case round =>
    clear y1 x1 o0 to e0 z1
    obtain ⟨i, hi, rfl, rfl⟩ := hrel
    by_cases c : i < 3
    · obtain ⟨m1, m2, m3, m4, m5⟩ := H.out.hf.ht i c
      have m1 := op64 m1
      have m2 := op64 m2
      have m3 := run_sqrt_some _ _ m3
      have m4 := op64 m4
      have m5 := op64 m5
      go_wp2_with go_in
      go_round
      case rel => exact ⟨i + 1, by omega, rfl, by go_num⟩
      case measure => simp [intOf]; omega
    · obtain rfl : i = 3 := by omega
      have n1 := op64 H.out.hf.hu
      go_wp2_with go_in
      go_loop [11, 12] (fun p k => ∃ i : Nat, i ≤ 8 ∧ p = .float .f64 (aq u i) ∧ k = .int .i64 (15 - 2 * (i : Int))) (fun _ k => (intOf k + 2).toNat)
      case atStart => exact ⟨0, by omega, rfl, rfl⟩
      case round =>
        clear n1
        obtain ⟨i, hi, rfl, rfl⟩ := hrel
        have hI : i ≤ 8 := hi
        by_cases c3 : i < 8
        · have f0 : floatOfInt .f64 (15 - 2 * (i : Int)) = kh i := rfl
          have f1 := op64 (ah_ok i c3)
          obtain ⟨m1, m2⟩ := H.out.hf.ha i c3
          have f2 := op64 m1
          have f3 := op64 m2
          clear m1 m2
          go_wp2_with go_in
          go_round
          case rel => exact ⟨i + 1, by omega, rfl, by go_num⟩
          case measure => simp [intOf]; omega
        · obtain rfl : i = 8 := by omega
          have f1 := op64 H.out.hf.h1
          have f2 := op64 H.out.hf.h2
          have f3 := op64 H.out.hf.hr
          go_wp2_with go_in
          go_ret
          exact ⟨rfl, rfl⟩

set_option maxHeartbeats 1000000 in
theorem specAng_true_false_true_true {y x t0 u q1 q2 r g1 g2 : Nat} (hy : y < 18446744073709551616) (hx : x < 18446744073709551616) (fy : rung Ieee.double y < Ieee.double.infRung) (fx : rung Ieee.double x < Ieee.double.infRung)
    (z1 : (FloatKind.f64.format.order x 0 == some .eq) = true) (z2 : (FloatKind.f64.format.order y 0 == some .eq) = false) (k1 : (FloatKind.f64.format.order x 0 == some .lt) = false) (k2 : (FloatKind.f64.format.order y 0 == some .lt) = true)
    (h : AngAt (rung Ieee.double y) (rung Ieee.double x) true false true t0 u q1 q2 r g1 g2) (w : World) :
    Calls Try.prog 63 #[.float .f64 y, .float .f64 x] w fun e w' => e = .returned (.float .f64 (ng true g2)) ∧ w = w' := by
  have y1 := op64 (sub_self_fin .f64 (x := y) fy)
  have x1 := op64 (sub_self_fin .f64 (x := x) fx)
  have o0 : (FloatKind.f64.format.order 0 0 != some .eq) = false := by decide
  have to := h.ho
  have HX := Lib.hid hx
  have HY := Lib.hid hy
  have H := Lib.hid h
  have e0 := op64 (h.h0 rfl)
  have e1 := op64 (h.h1 rfl)
  have e2 := h.h2' rfl
  clear h hx hy fx fy
  subst e2
  go_enter Try.func63, Try.ntmps63
  go_wp2_with (first | (go_at_call 47; refine (abs_any _ HY.out _).mono ?_; rintro e w' ⟨rfl, rfl⟩) | (go_at_call 47; refine (abs_any _ HX.out _).mono ?_; rintro e w' ⟨rfl, rfl⟩))
  go_loop [8, 9] (fun t k => ∃ i : Nat, i ≤ 3 ∧ t = .float .f64 (tq t0 i) ∧ k = .int .i64 i) (fun _ k => 3 - (intOf k).toNat)
  case atStart => exact ⟨0, by omega, rfl, rfl⟩
  case round =>
    clear y1 x1 o0 to e0 z1 z2
    obtain ⟨i, hi, rfl, rfl⟩ := hrel
    by_cases c : i < 3
    · obtain ⟨m1, m2, m3, m4, m5⟩ := H.out.hf.ht i c
      have m1 := op64 m1
      have m2 := op64 m2
      have m3 := run_sqrt_some _ _ m3
      have m4 := op64 m4
      have m5 := op64 m5
      go_wp2_with go_in
      go_round
      case rel => exact ⟨i + 1, by omega, rfl, by go_num⟩
      case measure => simp [intOf]; omega
    · obtain rfl : i = 3 := by omega
      have n1 := op64 H.out.hf.hu
      go_wp2_with go_in
      go_loop [11, 12] (fun p k => ∃ i : Nat, i ≤ 8 ∧ p = .float .f64 (aq u i) ∧ k = .int .i64 (15 - 2 * (i : Int))) (fun _ k => (intOf k + 2).toNat)
      case atStart => exact ⟨0, by omega, rfl, rfl⟩
      case round =>
        clear n1
        obtain ⟨i, hi, rfl, rfl⟩ := hrel
        have hI : i ≤ 8 := hi
        by_cases c3 : i < 8
        · have f0 : floatOfInt .f64 (15 - 2 * (i : Int)) = kh i := rfl
          have f1 := op64 (ah_ok i c3)
          obtain ⟨m1, m2⟩ := H.out.hf.ha i c3
          have f2 := op64 m1
          have f3 := op64 m2
          clear m1 m2
          go_wp2_with go_in
          go_round
          case rel => exact ⟨i + 1, by omega, rfl, by go_num⟩
          case measure => simp [intOf]; omega
        · obtain rfl : i = 8 := by omega
          have f1 := op64 H.out.hf.h1
          have f2 := op64 H.out.hf.h2
          have f3 := op64 H.out.hf.hr
          go_wp2_with go_in
          go_ret
          exact ⟨rfl, rfl⟩

set_option maxHeartbeats 1000000 in
theorem specAng_true_true_false_false {y x t0 u q1 q2 r g1 g2 : Nat} (hy : y < 18446744073709551616) (hx : x < 18446744073709551616) (fy : rung Ieee.double y < Ieee.double.infRung) (fx : rung Ieee.double x < Ieee.double.infRung)
    (z1 : (FloatKind.f64.format.order x 0 == some .eq) = false) (k1 : (FloatKind.f64.format.order x 0 == some .lt) = true) (k2 : (FloatKind.f64.format.order y 0 == some .lt) = false)
    (h : AngAt (rung Ieee.double y) (rung Ieee.double x) true true false t0 u q1 q2 r g1 g2) (w : World) :
    Calls Try.prog 63 #[.float .f64 y, .float .f64 x] w fun e w' => e = .returned (.float .f64 (ng false g2)) ∧ w = w' := by
  have y1 := op64 (sub_self_fin .f64 (x := y) fy)
  have x1 := op64 (sub_self_fin .f64 (x := x) fx)
  have o0 : (FloatKind.f64.format.order 0 0 != some .eq) = false := by decide
  have to := h.ho
  have HX := Lib.hid hx
  have HY := Lib.hid hy
  have H := Lib.hid h
  have e0 := op64 (h.h0 rfl)
  have e1 := op64 (h.h1 rfl)
  have e2 := op64 (h.h2 rfl)
  clear h hx hy fx fy
  go_enter Try.func63, Try.ntmps63
  go_wp2_with (first | (go_at_call 47; refine (abs_any _ HY.out _).mono ?_; rintro e w' ⟨rfl, rfl⟩) | (go_at_call 47; refine (abs_any _ HX.out _).mono ?_; rintro e w' ⟨rfl, rfl⟩))
  go_loop [8, 9] (fun t k => ∃ i : Nat, i ≤ 3 ∧ t = .float .f64 (tq t0 i) ∧ k = .int .i64 i) (fun _ k => 3 - (intOf k).toNat)
  case atStart => exact ⟨0, by omega, rfl, rfl⟩
  case round =>
    clear y1 x1 o0 to e0 z1
    obtain ⟨i, hi, rfl, rfl⟩ := hrel
    by_cases c : i < 3
    · obtain ⟨m1, m2, m3, m4, m5⟩ := H.out.hf.ht i c
      have m1 := op64 m1
      have m2 := op64 m2
      have m3 := run_sqrt_some _ _ m3
      have m4 := op64 m4
      have m5 := op64 m5
      go_wp2_with go_in
      go_round
      case rel => exact ⟨i + 1, by omega, rfl, by go_num⟩
      case measure => simp [intOf]; omega
    · obtain rfl : i = 3 := by omega
      have n1 := op64 H.out.hf.hu
      go_wp2_with go_in
      go_loop [11, 12] (fun p k => ∃ i : Nat, i ≤ 8 ∧ p = .float .f64 (aq u i) ∧ k = .int .i64 (15 - 2 * (i : Int))) (fun _ k => (intOf k + 2).toNat)
      case atStart => exact ⟨0, by omega, rfl, rfl⟩
      case round =>
        clear n1
        obtain ⟨i, hi, rfl, rfl⟩ := hrel
        have hI : i ≤ 8 := hi
        by_cases c3 : i < 8
        · have f0 : floatOfInt .f64 (15 - 2 * (i : Int)) = kh i := rfl
          have f1 := op64 (ah_ok i c3)
          obtain ⟨m1, m2⟩ := H.out.hf.ha i c3
          have f2 := op64 m1
          have f3 := op64 m2
          clear m1 m2
          go_wp2_with go_in
          go_round
          case rel => exact ⟨i + 1, by omega, rfl, by go_num⟩
          case measure => simp [intOf]; omega
        · obtain rfl : i = 8 := by omega
          have f1 := op64 H.out.hf.h1
          have f2 := op64 H.out.hf.h2
          have f3 := op64 H.out.hf.hr
          go_wp2_with go_in
          go_ret
          exact ⟨rfl, rfl⟩

set_option maxHeartbeats 1000000 in
theorem specAng_true_true_true_false {y x t0 u q1 q2 r g1 g2 : Nat} (hy : y < 18446744073709551616) (hx : x < 18446744073709551616) (fy : rung Ieee.double y < Ieee.double.infRung) (fx : rung Ieee.double x < Ieee.double.infRung)
    (z1 : (FloatKind.f64.format.order x 0 == some .eq) = false) (k1 : (FloatKind.f64.format.order x 0 == some .lt) = true) (k2 : (FloatKind.f64.format.order y 0 == some .lt) = true)
    (h : AngAt (rung Ieee.double y) (rung Ieee.double x) true true true t0 u q1 q2 r g1 g2) (w : World) :
    Calls Try.prog 63 #[.float .f64 y, .float .f64 x] w fun e w' => e = .returned (.float .f64 (ng true g2)) ∧ w = w' := by
  have y1 := op64 (sub_self_fin .f64 (x := y) fy)
  have x1 := op64 (sub_self_fin .f64 (x := x) fx)
  have o0 : (FloatKind.f64.format.order 0 0 != some .eq) = false := by decide
  have to := h.ho
  have HX := Lib.hid hx
  have HY := Lib.hid hy
  have H := Lib.hid h
  have e0 := op64 (h.h0 rfl)
  have e1 := op64 (h.h1 rfl)
  have e2 := op64 (h.h2 rfl)
  clear h hx hy fx fy
  go_enter Try.func63, Try.ntmps63
  go_wp2_with (first | (go_at_call 47; refine (abs_any _ HY.out _).mono ?_; rintro e w' ⟨rfl, rfl⟩) | (go_at_call 47; refine (abs_any _ HX.out _).mono ?_; rintro e w' ⟨rfl, rfl⟩))
  go_loop [8, 9] (fun t k => ∃ i : Nat, i ≤ 3 ∧ t = .float .f64 (tq t0 i) ∧ k = .int .i64 i) (fun _ k => 3 - (intOf k).toNat)
  case atStart => exact ⟨0, by omega, rfl, rfl⟩
  case round =>
    clear y1 x1 o0 to e0 z1
    obtain ⟨i, hi, rfl, rfl⟩ := hrel
    by_cases c : i < 3
    · obtain ⟨m1, m2, m3, m4, m5⟩ := H.out.hf.ht i c
      have m1 := op64 m1
      have m2 := op64 m2
      have m3 := run_sqrt_some _ _ m3
      have m4 := op64 m4
      have m5 := op64 m5
      go_wp2_with go_in
      go_round
      case rel => exact ⟨i + 1, by omega, rfl, by go_num⟩
      case measure => simp [intOf]; omega
    · obtain rfl : i = 3 := by omega
      have n1 := op64 H.out.hf.hu
      go_wp2_with go_in
      go_loop [11, 12] (fun p k => ∃ i : Nat, i ≤ 8 ∧ p = .float .f64 (aq u i) ∧ k = .int .i64 (15 - 2 * (i : Int))) (fun _ k => (intOf k + 2).toNat)
      case atStart => exact ⟨0, by omega, rfl, rfl⟩
      case round =>
        clear n1
        obtain ⟨i, hi, rfl, rfl⟩ := hrel
        have hI : i ≤ 8 := hi
        by_cases c3 : i < 8
        · have f0 : floatOfInt .f64 (15 - 2 * (i : Int)) = kh i := rfl
          have f1 := op64 (ah_ok i c3)
          obtain ⟨m1, m2⟩ := H.out.hf.ha i c3
          have f2 := op64 m1
          have f3 := op64 m2
          clear m1 m2
          go_wp2_with go_in
          go_round
          case rel => exact ⟨i + 1, by omega, rfl, by go_num⟩
          case measure => simp [intOf]; omega
        · obtain rfl : i = 8 := by omega
          have f1 := op64 H.out.hf.h1
          have f2 := op64 H.out.hf.h2
          have f3 := op64 H.out.hf.hr
          go_wp2_with go_in
          go_ret
          exact ⟨rfl, rfl⟩

/-- the model's angle of a point that is not in the middle -/
theorem specAng {y x : Nat} (hy : y < 18446744073709551616) (hx : x < 18446744073709551616) (fy : rung Ieee.double y < Ieee.double.infRung) (fx : rung Ieee.double x < Ieee.double.infRung) {xz over xn yn : Bool}
    (z1 : (FloatKind.f64.format.order x 0 == some .eq) = xz) (z2 : xz = true → (FloatKind.f64.format.order y 0 == some .eq) = false) (z3 : xz = true → xn = false) (k1 : (FloatKind.f64.format.order x 0 == some .lt) = xn) (k2 : (FloatKind.f64.format.order y 0 == some .lt) = yn)
    {t0 u q1 q2 r g1 g2 : Nat} (h : AngAt (rung Ieee.double y) (rung Ieee.double x) over xn yn t0 u q1 q2 r g1 g2) (w : World) :
    Calls Try.prog 63 #[.float .f64 y, .float .f64 x] w fun e w' => e = .returned (.float .f64 (ng yn g2)) ∧ w = w' := by
  cases xz <;> cases xn <;> cases over <;> cases yn
  · exact specAng_false_false_false_false hy hx fy fx z1 k1 k2 h w
  · exact specAng_false_false_true_false hy hx fy fx z1 k1 k2 h w
  · exact specAng_true_false_false_false hy hx fy fx z1 k1 k2 h w
  · exact specAng_true_false_true_false hy hx fy fx z1 k1 k2 h w
  · exact specAng_false_true_false_false hy hx fy fx z1 k1 k2 h w
  · exact specAng_false_true_true_false hy hx fy fx z1 k1 k2 h w
  · exact specAng_true_true_false_false hy hx fy fx z1 k1 k2 h w
  · exact specAng_true_true_true_false hy hx fy fx z1 k1 k2 h w
  · exact specAng_false_false_false_true hy hx fy fx z1 (z2 rfl) k1 k2 h w
  · exact specAng_false_false_true_true hy hx fy fx z1 (z2 rfl) k1 k2 h w
  · exact specAng_true_false_false_true hy hx fy fx z1 (z2 rfl) k1 k2 h w
  · exact specAng_true_false_true_true hy hx fy fx z1 (z2 rfl) k1 k2 h w
  · exact absurd (z3 rfl) (by decide)
  · exact absurd (z3 rfl) (by decide)
  · exact absurd (z3 rfl) (by decide)
  · exact absurd (z3 rfl) (by decide)
end Go.Proofs.Ytajjepcegpimjaa
