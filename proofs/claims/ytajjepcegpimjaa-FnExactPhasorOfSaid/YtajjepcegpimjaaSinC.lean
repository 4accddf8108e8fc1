/-
  The walk of the model's sine.
-/
import Derived.Test.YtajjepcegpimjaaSinB
namespace Go.Proofs.Ytajjepcegpimjaa
open Go.RowKit Fl

/-- a number nearer to 0 than 2^52, not too many turns: what the model asks ahead -/
theorem few_turns {y : Nat} (hy : rung Ieee.double y < 1075 * 4503599627370496) :
    (FloatKind.f64.format.order y 4841369599423283200 == some .gt || FloatKind.f64.format.order y 4841369599423283200 == some .eq) = false ∧ (FloatKind.f64.format.order y 14064741636278059008 == some .lt || FloatKind.f64.format.order y 14064741636278059008 == some .eq) = false := by
  have hn : Num .f64 y := num64.2 (by omega)
  have hk : -(4841369599423283200 : Int) < key .f64 y ∧ key .f64 y < 4841369599423283200 := by
    unfold key
    rw [show rung FloatKind.f64.format y = rung Ieee.double y from rfl]
    generalize rung Ieee.double y = r at *
    cases sgn FloatKind.f64.format y <;> simp <;> omega
  have k2 : key .f64 14064741636278059008 = -4841369599423283200 := by decide
  rw [ge_key .f64 hn (pos_num (by omega)), (key_pos (x := 4841369599423283200) (by omega)).1, le_key .f64 hn (num64.2 (by decide)), k2]
  simp
  omega

set_option maxHeartbeats 1000000 in
theorem specSine_false_false_false {y : Nat} {n : Int} {d f : Nat} (hy : rung Ieee.double y < 1075 * 4503599627370496) (hP : PartAt y n d false f) {f1 f2 z u zp : Nat} (h : SinAt f false false f1 f2 z u zp) (w : World) :
    Calls Try.prog 56 #[.float .f64 y] w fun x w' => x = .returned (.float .f64 (sr false zp)) ∧ w = w' := by
  have s1 := op64 (sub_self_fin .f64 (x := y) (by show rung Ieee.double y < Ieee.double.infRung; rw [inf64]; omega))
  have s2 : (FloatKind.f64.format.order 0 0 != some .eq) = false := by decide
  obtain ⟨s3, s4⟩ := few_turns hy
  have c1 : ∀ w, (convert 22 2 (.float .f64 y)).run Try.prog w = .ok (.int .i64 n) w := fun w => run_convert_float_int w _ _ _ _ _ _ (by kernel_rfl) Try.underlying2 hP.hn
  have d1 := op64 hP.hd
  have t0 := hP.ht
  have t1 := h.hb
  have t2 := h.ho
  have d3 := op64 h.hz
  have d4 := op64 h.hu
  have H := Lib.hid h
  have x1 := hP.hf' rfl
  subst x1
  have x2 := h.h1' rfl
  subst x2
  have x3 := h.h2' rfl
  subst x3
  clear h hP hy
  go_enter Try.func56, Try.ntmps56
  go_wp2
  go_loop [7, 8] (fun p k => ∃ i : Nat, i ≤ 8 ∧ p = .float .f64 (pq u i) ∧ k = .int .i64 (ks i)) (fun _ k => (intOf k).toNat)
  case atStart => exact ⟨0, by omega, rfl, rfl⟩
  case round =>
    clear s1 s2 s3 s4 c1 d1 t0 t1 t2 d3 d4
    obtain ⟨i, hi, rfl, rfl⟩ := hrel
    by_cases c3 : i < 8
    · obtain ⟨m1, m2, m3⟩ := H.out.hp i c3
      have m1 := op64 m1
      have m2 := op64 m2
      have m3 := op64 m3
      have hi8 : i = 0 ∨ i = 1 ∨ i = 2 ∨ i = 3 ∨ i = 4 ∨ i = 5 ∨ i = 6 ∨ i = 7 := by omega
      rcases hi8 with rfl | rfl | rfl | rfl | rfl | rfl | rfl | rfl
      · have e1 : ks 0 = 8 := rfl
        have e2 : floatOfInt .f64 272 = kd 0 := rfl
        go_wp2
        go_round
        case rel => exact ⟨1, by omega, rfl, rfl⟩
        case measure => decide
      · have e1 : ks 1 = 7 := rfl
        have e2 : floatOfInt .f64 210 = kd 1 := rfl
        go_wp2
        go_round
        case rel => exact ⟨2, by omega, rfl, rfl⟩
        case measure => decide
      · have e1 : ks 2 = 6 := rfl
        have e2 : floatOfInt .f64 156 = kd 2 := rfl
        go_wp2
        go_round
        case rel => exact ⟨3, by omega, rfl, rfl⟩
        case measure => decide
      · have e1 : ks 3 = 5 := rfl
        have e2 : floatOfInt .f64 110 = kd 3 := rfl
        go_wp2
        go_round
        case rel => exact ⟨4, by omega, rfl, rfl⟩
        case measure => decide
      · have e1 : ks 4 = 4 := rfl
        have e2 : floatOfInt .f64 72 = kd 4 := rfl
        go_wp2
        go_round
        case rel => exact ⟨5, by omega, rfl, rfl⟩
        case measure => decide
      · have e1 : ks 5 = 3 := rfl
        have e2 : floatOfInt .f64 42 = kd 5 := rfl
        go_wp2
        go_round
        case rel => exact ⟨6, by omega, rfl, rfl⟩
        case measure => decide
      · have e1 : ks 6 = 2 := rfl
        have e2 : floatOfInt .f64 20 = kd 6 := rfl
        go_wp2
        go_round
        case rel => exact ⟨7, by omega, rfl, rfl⟩
        case measure => decide
      · have e1 : ks 7 = 1 := rfl
        have e2 : floatOfInt .f64 6 = kd 7 := rfl
        go_wp2
        go_round
        case rel => exact ⟨8, by omega, rfl, rfl⟩
        case measure => decide
    · obtain rfl : i = 8 := by omega
      have e1 : ks 8 = 0 := rfl
      have g1 := op64 H.out.hzp
      go_wp2
      go_ret
      exact ⟨rfl, rfl⟩

set_option maxHeartbeats 1000000 in
theorem specSine_false_false_true {y : Nat} {n : Int} {d f : Nat} (hy : rung Ieee.double y < 1075 * 4503599627370496) (hP : PartAt y n d false f) {f1 f2 z u zp : Nat} (h : SinAt f false true f1 f2 z u zp) (w : World) :
    Calls Try.prog 56 #[.float .f64 y] w fun x w' => x = .returned (.float .f64 (sr false zp)) ∧ w = w' := by
  have s1 := op64 (sub_self_fin .f64 (x := y) (by show rung Ieee.double y < Ieee.double.infRung; rw [inf64]; omega))
  have s2 : (FloatKind.f64.format.order 0 0 != some .eq) = false := by decide
  obtain ⟨s3, s4⟩ := few_turns hy
  have c1 : ∀ w, (convert 22 2 (.float .f64 y)).run Try.prog w = .ok (.int .i64 n) w := fun w => run_convert_float_int w _ _ _ _ _ _ (by kernel_rfl) Try.underlying2 hP.hn
  have d1 := op64 hP.hd
  have t0 := hP.ht
  have t1 := h.hb
  have t2 := h.ho
  have d3 := op64 h.hz
  have d4 := op64 h.hu
  have H := Lib.hid h
  have x1 := hP.hf' rfl
  subst x1
  have x2 := h.h1' rfl
  subst x2
  have x3 := op64 (h.h2 rfl)
  clear h hP hy
  go_enter Try.func56, Try.ntmps56
  go_wp2
  go_loop [7, 8] (fun p k => ∃ i : Nat, i ≤ 8 ∧ p = .float .f64 (pq u i) ∧ k = .int .i64 (ks i)) (fun _ k => (intOf k).toNat)
  case atStart => exact ⟨0, by omega, rfl, rfl⟩
  case round =>
    clear s1 s2 s3 s4 c1 d1 t0 t1 t2 d3 d4 x3
    obtain ⟨i, hi, rfl, rfl⟩ := hrel
    by_cases c3 : i < 8
    · obtain ⟨m1, m2, m3⟩ := H.out.hp i c3
      have m1 := op64 m1
      have m2 := op64 m2
      have m3 := op64 m3
      have hi8 : i = 0 ∨ i = 1 ∨ i = 2 ∨ i = 3 ∨ i = 4 ∨ i = 5 ∨ i = 6 ∨ i = 7 := by omega
      rcases hi8 with rfl | rfl | rfl | rfl | rfl | rfl | rfl | rfl
      · have e1 : ks 0 = 8 := rfl
        have e2 : floatOfInt .f64 272 = kd 0 := rfl
        go_wp2
        go_round
        case rel => exact ⟨1, by omega, rfl, rfl⟩
        case measure => decide
      · have e1 : ks 1 = 7 := rfl
        have e2 : floatOfInt .f64 210 = kd 1 := rfl
        go_wp2
        go_round
        case rel => exact ⟨2, by omega, rfl, rfl⟩
        case measure => decide
      · have e1 : ks 2 = 6 := rfl
        have e2 : floatOfInt .f64 156 = kd 2 := rfl
        go_wp2
        go_round
        case rel => exact ⟨3, by omega, rfl, rfl⟩
        case measure => decide
      · have e1 : ks 3 = 5 := rfl
        have e2 : floatOfInt .f64 110 = kd 3 := rfl
        go_wp2
        go_round
        case rel => exact ⟨4, by omega, rfl, rfl⟩
        case measure => decide
      · have e1 : ks 4 = 4 := rfl
        have e2 : floatOfInt .f64 72 = kd 4 := rfl
        go_wp2
        go_round
        case rel => exact ⟨5, by omega, rfl, rfl⟩
        case measure => decide
      · have e1 : ks 5 = 3 := rfl
        have e2 : floatOfInt .f64 42 = kd 5 := rfl
        go_wp2
        go_round
        case rel => exact ⟨6, by omega, rfl, rfl⟩
        case measure => decide
      · have e1 : ks 6 = 2 := rfl
        have e2 : floatOfInt .f64 20 = kd 6 := rfl
        go_wp2
        go_round
        case rel => exact ⟨7, by omega, rfl, rfl⟩
        case measure => decide
      · have e1 : ks 7 = 1 := rfl
        have e2 : floatOfInt .f64 6 = kd 7 := rfl
        go_wp2
        go_round
        case rel => exact ⟨8, by omega, rfl, rfl⟩
        case measure => decide
    · obtain rfl : i = 8 := by omega
      have e1 : ks 8 = 0 := rfl
      have g1 := op64 H.out.hzp
      go_wp2
      go_ret
      exact ⟨rfl, rfl⟩

set_option maxHeartbeats 1000000 in
theorem specSine_false_true_false {y : Nat} {n : Int} {d f : Nat} (hy : rung Ieee.double y < 1075 * 4503599627370496) (hP : PartAt y n d false f) {f1 f2 z u zp : Nat} (h : SinAt f true false f1 f2 z u zp) (w : World) :
    Calls Try.prog 56 #[.float .f64 y] w fun x w' => x = .returned (.float .f64 (sr true zp)) ∧ w = w' := by
  have s1 := op64 (sub_self_fin .f64 (x := y) (by show rung Ieee.double y < Ieee.double.infRung; rw [inf64]; omega))
  have s2 : (FloatKind.f64.format.order 0 0 != some .eq) = false := by decide
  obtain ⟨s3, s4⟩ := few_turns hy
  have c1 : ∀ w, (convert 22 2 (.float .f64 y)).run Try.prog w = .ok (.int .i64 n) w := fun w => run_convert_float_int w _ _ _ _ _ _ (by kernel_rfl) Try.underlying2 hP.hn
  have d1 := op64 hP.hd
  have t0 := hP.ht
  have t1 := h.hb
  have t2 := h.ho
  have d3 := op64 h.hz
  have d4 := op64 h.hu
  have H := Lib.hid h
  have x1 := hP.hf' rfl
  subst x1
  have x2 := op64 (h.h1 rfl)
  have x3 := h.h2' rfl
  subst x3
  clear h hP hy
  go_enter Try.func56, Try.ntmps56
  go_wp2
  go_loop [7, 8] (fun p k => ∃ i : Nat, i ≤ 8 ∧ p = .float .f64 (pq u i) ∧ k = .int .i64 (ks i)) (fun _ k => (intOf k).toNat)
  case atStart => exact ⟨0, by omega, rfl, rfl⟩
  case round =>
    clear s1 s2 s3 s4 c1 d1 t0 t1 t2 d3 d4 x2
    obtain ⟨i, hi, rfl, rfl⟩ := hrel
    by_cases c3 : i < 8
    · obtain ⟨m1, m2, m3⟩ := H.out.hp i c3
      have m1 := op64 m1
      have m2 := op64 m2
      have m3 := op64 m3
      have hi8 : i = 0 ∨ i = 1 ∨ i = 2 ∨ i = 3 ∨ i = 4 ∨ i = 5 ∨ i = 6 ∨ i = 7 := by omega
      rcases hi8 with rfl | rfl | rfl | rfl | rfl | rfl | rfl | rfl
      · have e1 : ks 0 = 8 := rfl
        have e2 : floatOfInt .f64 272 = kd 0 := rfl
        go_wp2
        go_round
        case rel => exact ⟨1, by omega, rfl, rfl⟩
        case measure => decide
      · have e1 : ks 1 = 7 := rfl
        have e2 : floatOfInt .f64 210 = kd 1 := rfl
        go_wp2
        go_round
        case rel => exact ⟨2, by omega, rfl, rfl⟩
        case measure => decide
      · have e1 : ks 2 = 6 := rfl
        have e2 : floatOfInt .f64 156 = kd 2 := rfl
        go_wp2
        go_round
        case rel => exact ⟨3, by omega, rfl, rfl⟩
        case measure => decide
      · have e1 : ks 3 = 5 := rfl
        have e2 : floatOfInt .f64 110 = kd 3 := rfl
        go_wp2
        go_round
        case rel => exact ⟨4, by omega, rfl, rfl⟩
        case measure => decide
      · have e1 : ks 4 = 4 := rfl
        have e2 : floatOfInt .f64 72 = kd 4 := rfl
        go_wp2
        go_round
        case rel => exact ⟨5, by omega, rfl, rfl⟩
        case measure => decide
      · have e1 : ks 5 = 3 := rfl
        have e2 : floatOfInt .f64 42 = kd 5 := rfl
        go_wp2
        go_round
        case rel => exact ⟨6, by omega, rfl, rfl⟩
        case measure => decide
      · have e1 : ks 6 = 2 := rfl
        have e2 : floatOfInt .f64 20 = kd 6 := rfl
        go_wp2
        go_round
        case rel => exact ⟨7, by omega, rfl, rfl⟩
        case measure => decide
      · have e1 : ks 7 = 1 := rfl
        have e2 : floatOfInt .f64 6 = kd 7 := rfl
        go_wp2
        go_round
        case rel => exact ⟨8, by omega, rfl, rfl⟩
        case measure => decide
    · obtain rfl : i = 8 := by omega
      have e1 : ks 8 = 0 := rfl
      have g1 := op64 H.out.hzp
      go_wp2
      go_ret
      exact ⟨rfl, rfl⟩

set_option maxHeartbeats 1000000 in
theorem specSine_false_true_true {y : Nat} {n : Int} {d f : Nat} (hy : rung Ieee.double y < 1075 * 4503599627370496) (hP : PartAt y n d false f) {f1 f2 z u zp : Nat} (h : SinAt f true true f1 f2 z u zp) (w : World) :
    Calls Try.prog 56 #[.float .f64 y] w fun x w' => x = .returned (.float .f64 (sr true zp)) ∧ w = w' := by
  have s1 := op64 (sub_self_fin .f64 (x := y) (by show rung Ieee.double y < Ieee.double.infRung; rw [inf64]; omega))
  have s2 : (FloatKind.f64.format.order 0 0 != some .eq) = false := by decide
  obtain ⟨s3, s4⟩ := few_turns hy
  have c1 : ∀ w, (convert 22 2 (.float .f64 y)).run Try.prog w = .ok (.int .i64 n) w := fun w => run_convert_float_int w _ _ _ _ _ _ (by kernel_rfl) Try.underlying2 hP.hn
  have d1 := op64 hP.hd
  have t0 := hP.ht
  have t1 := h.hb
  have t2 := h.ho
  have d3 := op64 h.hz
  have d4 := op64 h.hu
  have H := Lib.hid h
  have x1 := hP.hf' rfl
  subst x1
  have x2 := op64 (h.h1 rfl)
  have x3 := op64 (h.h2 rfl)
  clear h hP hy
  go_enter Try.func56, Try.ntmps56
  go_wp2
  go_loop [7, 8] (fun p k => ∃ i : Nat, i ≤ 8 ∧ p = .float .f64 (pq u i) ∧ k = .int .i64 (ks i)) (fun _ k => (intOf k).toNat)
  case atStart => exact ⟨0, by omega, rfl, rfl⟩
  case round =>
    clear s1 s2 s3 s4 c1 d1 t0 t1 t2 d3 d4 x2 x3
    obtain ⟨i, hi, rfl, rfl⟩ := hrel
    by_cases c3 : i < 8
    · obtain ⟨m1, m2, m3⟩ := H.out.hp i c3
      have m1 := op64 m1
      have m2 := op64 m2
      have m3 := op64 m3
      have hi8 : i = 0 ∨ i = 1 ∨ i = 2 ∨ i = 3 ∨ i = 4 ∨ i = 5 ∨ i = 6 ∨ i = 7 := by omega
      rcases hi8 with rfl | rfl | rfl | rfl | rfl | rfl | rfl | rfl
      · have e1 : ks 0 = 8 := rfl
        have e2 : floatOfInt .f64 272 = kd 0 := rfl
        go_wp2
        go_round
        case rel => exact ⟨1, by omega, rfl, rfl⟩
        case measure => decide
      · have e1 : ks 1 = 7 := rfl
        have e2 : floatOfInt .f64 210 = kd 1 := rfl
        go_wp2
        go_round
        case rel => exact ⟨2, by omega, rfl, rfl⟩
        case measure => decide
      · have e1 : ks 2 = 6 := rfl
        have e2 : floatOfInt .f64 156 = kd 2 := rfl
        go_wp2
        go_round
        case rel => exact ⟨3, by omega, rfl, rfl⟩
        case measure => decide
      · have e1 : ks 3 = 5 := rfl
        have e2 : floatOfInt .f64 110 = kd 3 := rfl
        go_wp2
        go_round
        case rel => exact ⟨4, by omega, rfl, rfl⟩
        case measure => decide
      · have e1 : ks 4 = 4 := rfl
        have e2 : floatOfInt .f64 72 = kd 4 := rfl
        go_wp2
        go_round
        case rel => exact ⟨5, by omega, rfl, rfl⟩
        case measure => decide
      · have e1 : ks 5 = 3 := rfl
        have e2 : floatOfInt .f64 42 = kd 5 := rfl
        go_wp2
        go_round
        case rel => exact ⟨6, by omega, rfl, rfl⟩
        case measure => decide
      · have e1 : ks 6 = 2 := rfl
        have e2 : floatOfInt .f64 20 = kd 6 := rfl
        go_wp2
        go_round
        case rel => exact ⟨7, by omega, rfl, rfl⟩
        case measure => decide
      · have e1 : ks 7 = 1 := rfl
        have e2 : floatOfInt .f64 6 = kd 7 := rfl
        go_wp2
        go_round
        case rel => exact ⟨8, by omega, rfl, rfl⟩
        case measure => decide
    · obtain rfl : i = 8 := by omega
      have e1 : ks 8 = 0 := rfl
      have g1 := op64 H.out.hzp
      go_wp2
      go_ret
      exact ⟨rfl, rfl⟩

set_option maxHeartbeats 1000000 in
theorem specSine_true_false_false {y : Nat} {n : Int} {d f : Nat} (hy : rung Ieee.double y < 1075 * 4503599627370496) (hP : PartAt y n d true f) {f1 f2 z u zp : Nat} (h : SinAt f false false f1 f2 z u zp) (w : World) :
    Calls Try.prog 56 #[.float .f64 y] w fun x w' => x = .returned (.float .f64 (sr false zp)) ∧ w = w' := by
  have s1 := op64 (sub_self_fin .f64 (x := y) (by show rung Ieee.double y < Ieee.double.infRung; rw [inf64]; omega))
  have s2 : (FloatKind.f64.format.order 0 0 != some .eq) = false := by decide
  obtain ⟨s3, s4⟩ := few_turns hy
  have c1 : ∀ w, (convert 22 2 (.float .f64 y)).run Try.prog w = .ok (.int .i64 n) w := fun w => run_convert_float_int w _ _ _ _ _ _ (by kernel_rfl) Try.underlying2 hP.hn
  have d1 := op64 hP.hd
  have t0 := hP.ht
  have t1 := h.hb
  have t2 := h.ho
  have d3 := op64 h.hz
  have d4 := op64 h.hu
  have H := Lib.hid h
  have x1 := op64 (hP.hf rfl)
  have x2 := h.h1' rfl
  subst x2
  have x3 := h.h2' rfl
  subst x3
  clear h hP hy
  go_enter Try.func56, Try.ntmps56
  go_wp2
  go_loop [7, 8] (fun p k => ∃ i : Nat, i ≤ 8 ∧ p = .float .f64 (pq u i) ∧ k = .int .i64 (ks i)) (fun _ k => (intOf k).toNat)
  case atStart => exact ⟨0, by omega, rfl, rfl⟩
  case round =>
    clear s1 s2 s3 s4 c1 d1 t0 t1 t2 d3 d4 x1
    obtain ⟨i, hi, rfl, rfl⟩ := hrel
    by_cases c3 : i < 8
    · obtain ⟨m1, m2, m3⟩ := H.out.hp i c3
      have m1 := op64 m1
      have m2 := op64 m2
      have m3 := op64 m3
      have hi8 : i = 0 ∨ i = 1 ∨ i = 2 ∨ i = 3 ∨ i = 4 ∨ i = 5 ∨ i = 6 ∨ i = 7 := by omega
      rcases hi8 with rfl | rfl | rfl | rfl | rfl | rfl | rfl | rfl
      · have e1 : ks 0 = 8 := rfl
        have e2 : floatOfInt .f64 272 = kd 0 := rfl
        go_wp2
        go_round
        case rel => exact ⟨1, by omega, rfl, rfl⟩
        case measure => decide
      · have e1 : ks 1 = 7 := rfl
        have e2 : floatOfInt .f64 210 = kd 1 := rfl
        go_wp2
        go_round
        case rel => exact ⟨2, by omega, rfl, rfl⟩
        case measure => decide
      · have e1 : ks 2 = 6 := rfl
        have e2 : floatOfInt .f64 156 = kd 2 := rfl
        go_wp2
        go_round
        case rel => exact ⟨3, by omega, rfl, rfl⟩
        case measure => decide
      · have e1 : ks 3 = 5 := rfl
        have e2 : floatOfInt .f64 110 = kd 3 := rfl
        go_wp2
        go_round
        case rel => exact ⟨4, by omega, rfl, rfl⟩
        case measure => decide
      · have e1 : ks 4 = 4 := rfl
        have e2 : floatOfInt .f64 72 = kd 4 := rfl
        go_wp2
        go_round
        case rel => exact ⟨5, by omega, rfl, rfl⟩
        case measure => decide
      · have e1 : ks 5 = 3 := rfl
        have e2 : floatOfInt .f64 42 = kd 5 := rfl
        go_wp2
        go_round
        case rel => exact ⟨6, by omega, rfl, rfl⟩
        case measure => decide
      · have e1 : ks 6 = 2 := rfl
        have e2 : floatOfInt .f64 20 = kd 6 := rfl
        go_wp2
        go_round
        case rel => exact ⟨7, by omega, rfl, rfl⟩
        case measure => decide
      · have e1 : ks 7 = 1 := rfl
        have e2 : floatOfInt .f64 6 = kd 7 := rfl
        go_wp2
        go_round
        case rel => exact ⟨8, by omega, rfl, rfl⟩
        case measure => decide
    · obtain rfl : i = 8 := by omega
      have e1 : ks 8 = 0 := rfl
      have g1 := op64 H.out.hzp
      go_wp2
      go_ret
      exact ⟨rfl, rfl⟩

set_option maxHeartbeats 1000000 in
theorem specSine_true_false_true {y : Nat} {n : Int} {d f : Nat} (hy : rung Ieee.double y < 1075 * 4503599627370496) (hP : PartAt y n d true f) {f1 f2 z u zp : Nat} (h : SinAt f false true f1 f2 z u zp) (w : World) :
    Calls Try.prog 56 #[.float .f64 y] w fun x w' => x = .returned (.float .f64 (sr false zp)) ∧ w = w' := by
  have s1 := op64 (sub_self_fin .f64 (x := y) (by show rung Ieee.double y < Ieee.double.infRung; rw [inf64]; omega))
  have s2 : (FloatKind.f64.format.order 0 0 != some .eq) = false := by decide
  obtain ⟨s3, s4⟩ := few_turns hy
  have c1 : ∀ w, (convert 22 2 (.float .f64 y)).run Try.prog w = .ok (.int .i64 n) w := fun w => run_convert_float_int w _ _ _ _ _ _ (by kernel_rfl) Try.underlying2 hP.hn
  have d1 := op64 hP.hd
  have t0 := hP.ht
  have t1 := h.hb
  have t2 := h.ho
  have d3 := op64 h.hz
  have d4 := op64 h.hu
  have H := Lib.hid h
  have x1 := op64 (hP.hf rfl)
  have x2 := h.h1' rfl
  subst x2
  have x3 := op64 (h.h2 rfl)
  clear h hP hy
  go_enter Try.func56, Try.ntmps56
  go_wp2
  go_loop [7, 8] (fun p k => ∃ i : Nat, i ≤ 8 ∧ p = .float .f64 (pq u i) ∧ k = .int .i64 (ks i)) (fun _ k => (intOf k).toNat)
  case atStart => exact ⟨0, by omega, rfl, rfl⟩
  case round =>
    clear s1 s2 s3 s4 c1 d1 t0 t1 t2 d3 d4 x1 x3
    obtain ⟨i, hi, rfl, rfl⟩ := hrel
    by_cases c3 : i < 8
    · obtain ⟨m1, m2, m3⟩ := H.out.hp i c3
      have m1 := op64 m1
      have m2 := op64 m2
      have m3 := op64 m3
      have hi8 : i = 0 ∨ i = 1 ∨ i = 2 ∨ i = 3 ∨ i = 4 ∨ i = 5 ∨ i = 6 ∨ i = 7 := by omega
      rcases hi8 with rfl | rfl | rfl | rfl | rfl | rfl | rfl | rfl
      · have e1 : ks 0 = 8 := rfl
        have e2 : floatOfInt .f64 272 = kd 0 := rfl
        go_wp2
        go_round
        case rel => exact ⟨1, by omega, rfl, rfl⟩
        case measure => decide
      · have e1 : ks 1 = 7 := rfl
        have e2 : floatOfInt .f64 210 = kd 1 := rfl
        go_wp2
        go_round
        case rel => exact ⟨2, by omega, rfl, rfl⟩
        case measure => decide
      · have e1 : ks 2 = 6 := rfl
        have e2 : floatOfInt .f64 156 = kd 2 := rfl
        go_wp2
        go_round
        case rel => exact ⟨3, by omega, rfl, rfl⟩
        case measure => decide
      · have e1 : ks 3 = 5 := rfl
        have e2 : floatOfInt .f64 110 = kd 3 := rfl
        go_wp2
        go_round
        case rel => exact ⟨4, by omega, rfl, rfl⟩
        case measure => decide
      · have e1 : ks 4 = 4 := rfl
        have e2 : floatOfInt .f64 72 = kd 4 := rfl
        go_wp2
        go_round
        case rel => exact ⟨5, by omega, rfl, rfl⟩
        case measure => decide
      · have e1 : ks 5 = 3 := rfl
        have e2 : floatOfInt .f64 42 = kd 5 := rfl
        go_wp2
        go_round
        case rel => exact ⟨6, by omega, rfl, rfl⟩
        case measure => decide
      · have e1 : ks 6 = 2 := rfl
        have e2 : floatOfInt .f64 20 = kd 6 := rfl
        go_wp2
        go_round
        case rel => exact ⟨7, by omega, rfl, rfl⟩
        case measure => decide
      · have e1 : ks 7 = 1 := rfl
        have e2 : floatOfInt .f64 6 = kd 7 := rfl
        go_wp2
        go_round
        case rel => exact ⟨8, by omega, rfl, rfl⟩
        case measure => decide
    · obtain rfl : i = 8 := by omega
      have e1 : ks 8 = 0 := rfl
      have g1 := op64 H.out.hzp
      go_wp2
      go_ret
      exact ⟨rfl, rfl⟩

set_option maxHeartbeats 1000000 in
theorem specSine_true_true_false {y : Nat} {n : Int} {d f : Nat} (hy : rung Ieee.double y < 1075 * 4503599627370496) (hP : PartAt y n d true f) {f1 f2 z u zp : Nat} (h : SinAt f true false f1 f2 z u zp) (w : World) :
    Calls Try.prog 56 #[.float .f64 y] w fun x w' => x = .returned (.float .f64 (sr true zp)) ∧ w = w' := by
  have s1 := op64 (sub_self_fin .f64 (x := y) (by show rung Ieee.double y < Ieee.double.infRung; rw [inf64]; omega))
  have s2 : (FloatKind.f64.format.order 0 0 != some .eq) = false := by decide
  obtain ⟨s3, s4⟩ := few_turns hy
  have c1 : ∀ w, (convert 22 2 (.float .f64 y)).run Try.prog w = .ok (.int .i64 n) w := fun w => run_convert_float_int w _ _ _ _ _ _ (by kernel_rfl) Try.underlying2 hP.hn
  have d1 := op64 hP.hd
  have t0 := hP.ht
  have t1 := h.hb
  have t2 := h.ho
  have d3 := op64 h.hz
  have d4 := op64 h.hu
  have H := Lib.hid h
  have x1 := op64 (hP.hf rfl)
  have x2 := op64 (h.h1 rfl)
  have x3 := h.h2' rfl
  subst x3
  clear h hP hy
  go_enter Try.func56, Try.ntmps56
  go_wp2
  go_loop [7, 8] (fun p k => ∃ i : Nat, i ≤ 8 ∧ p = .float .f64 (pq u i) ∧ k = .int .i64 (ks i)) (fun _ k => (intOf k).toNat)
  case atStart => exact ⟨0, by omega, rfl, rfl⟩
  case round =>
    clear s1 s2 s3 s4 c1 d1 t0 t1 t2 d3 d4 x1 x2
    obtain ⟨i, hi, rfl, rfl⟩ := hrel
    by_cases c3 : i < 8
    · obtain ⟨m1, m2, m3⟩ := H.out.hp i c3
      have m1 := op64 m1
      have m2 := op64 m2
      have m3 := op64 m3
      have hi8 : i = 0 ∨ i = 1 ∨ i = 2 ∨ i = 3 ∨ i = 4 ∨ i = 5 ∨ i = 6 ∨ i = 7 := by omega
      rcases hi8 with rfl | rfl | rfl | rfl | rfl | rfl | rfl | rfl
      · have e1 : ks 0 = 8 := rfl
        have e2 : floatOfInt .f64 272 = kd 0 := rfl
        go_wp2
        go_round
        case rel => exact ⟨1, by omega, rfl, rfl⟩
        case measure => decide
      · have e1 : ks 1 = 7 := rfl
        have e2 : floatOfInt .f64 210 = kd 1 := rfl
        go_wp2
        go_round
        case rel => exact ⟨2, by omega, rfl, rfl⟩
        case measure => decide
      · have e1 : ks 2 = 6 := rfl
        have e2 : floatOfInt .f64 156 = kd 2 := rfl
        go_wp2
        go_round
        case rel => exact ⟨3, by omega, rfl, rfl⟩
        case measure => decide
      · have e1 : ks 3 = 5 := rfl
        have e2 : floatOfInt .f64 110 = kd 3 := rfl
        go_wp2
        go_round
        case rel => exact ⟨4, by omega, rfl, rfl⟩
        case measure => decide
      · have e1 : ks 4 = 4 := rfl
        have e2 : floatOfInt .f64 72 = kd 4 := rfl
        go_wp2
        go_round
        case rel => exact ⟨5, by omega, rfl, rfl⟩
        case measure => decide
      · have e1 : ks 5 = 3 := rfl
        have e2 : floatOfInt .f64 42 = kd 5 := rfl
        go_wp2
        go_round
        case rel => exact ⟨6, by omega, rfl, rfl⟩
        case measure => decide
      · have e1 : ks 6 = 2 := rfl
        have e2 : floatOfInt .f64 20 = kd 6 := rfl
        go_wp2
        go_round
        case rel => exact ⟨7, by omega, rfl, rfl⟩
        case measure => decide
      · have e1 : ks 7 = 1 := rfl
        have e2 : floatOfInt .f64 6 = kd 7 := rfl
        go_wp2
        go_round
        case rel => exact ⟨8, by omega, rfl, rfl⟩
        case measure => decide
    · obtain rfl : i = 8 := by omega
      have e1 : ks 8 = 0 := rfl
      have g1 := op64 H.out.hzp
      go_wp2
      go_ret
      exact ⟨rfl, rfl⟩

set_option maxHeartbeats 1000000 in
theorem specSine_true_true_true {y : Nat} {n : Int} {d f : Nat} (hy : rung Ieee.double y < 1075 * 4503599627370496) (hP : PartAt y n d true f) {f1 f2 z u zp : Nat} (h : SinAt f true true f1 f2 z u zp) (w : World) :
    Calls Try.prog 56 #[.float .f64 y] w fun x w' => x = .returned (.float .f64 (sr true zp)) ∧ w = w' := by
  have s1 := op64 (sub_self_fin .f64 (x := y) (by show rung Ieee.double y < Ieee.double.infRung; rw [inf64]; omega))
  have s2 : (FloatKind.f64.format.order 0 0 != some .eq) = false := by decide
  obtain ⟨s3, s4⟩ := few_turns hy
  have c1 : ∀ w, (convert 22 2 (.float .f64 y)).run Try.prog w = .ok (.int .i64 n) w := fun w => run_convert_float_int w _ _ _ _ _ _ (by kernel_rfl) Try.underlying2 hP.hn
  have d1 := op64 hP.hd
  have t0 := hP.ht
  have t1 := h.hb
  have t2 := h.ho
  have d3 := op64 h.hz
  have d4 := op64 h.hu
  have H := Lib.hid h
  have x1 := op64 (hP.hf rfl)
  have x2 := op64 (h.h1 rfl)
  have x3 := op64 (h.h2 rfl)
  clear h hP hy
  go_enter Try.func56, Try.ntmps56
  go_wp2
  go_loop [7, 8] (fun p k => ∃ i : Nat, i ≤ 8 ∧ p = .float .f64 (pq u i) ∧ k = .int .i64 (ks i)) (fun _ k => (intOf k).toNat)
  case atStart => exact ⟨0, by omega, rfl, rfl⟩
  case round =>
    clear s1 s2 s3 s4 c1 d1 t0 t1 t2 d3 d4 x1 x2 x3
    obtain ⟨i, hi, rfl, rfl⟩ := hrel
    by_cases c3 : i < 8
    · obtain ⟨m1, m2, m3⟩ := H.out.hp i c3
      have m1 := op64 m1
      have m2 := op64 m2
      have m3 := op64 m3
      have hi8 : i = 0 ∨ i = 1 ∨ i = 2 ∨ i = 3 ∨ i = 4 ∨ i = 5 ∨ i = 6 ∨ i = 7 := by omega
      rcases hi8 with rfl | rfl | rfl | rfl | rfl | rfl | rfl | rfl
      · have e1 : ks 0 = 8 := rfl
        have e2 : floatOfInt .f64 272 = kd 0 := rfl
        go_wp2
        go_round
        case rel => exact ⟨1, by omega, rfl, rfl⟩
        case measure => decide
      · have e1 : ks 1 = 7 := rfl
        have e2 : floatOfInt .f64 210 = kd 1 := rfl
        go_wp2
        go_round
        case rel => exact ⟨2, by omega, rfl, rfl⟩
        case measure => decide
      · have e1 : ks 2 = 6 := rfl
        have e2 : floatOfInt .f64 156 = kd 2 := rfl
        go_wp2
        go_round
        case rel => exact ⟨3, by omega, rfl, rfl⟩
        case measure => decide
      · have e1 : ks 3 = 5 := rfl
        have e2 : floatOfInt .f64 110 = kd 3 := rfl
        go_wp2
        go_round
        case rel => exact ⟨4, by omega, rfl, rfl⟩
        case measure => decide
      · have e1 : ks 4 = 4 := rfl
        have e2 : floatOfInt .f64 72 = kd 4 := rfl
        go_wp2
        go_round
        case rel => exact ⟨5, by omega, rfl, rfl⟩
        case measure => decide
      · have e1 : ks 5 = 3 := rfl
        have e2 : floatOfInt .f64 42 = kd 5 := rfl
        go_wp2
        go_round
        case rel => exact ⟨6, by omega, rfl, rfl⟩
        case measure => decide
      · have e1 : ks 6 = 2 := rfl
        have e2 : floatOfInt .f64 20 = kd 6 := rfl
        go_wp2
        go_round
        case rel => exact ⟨7, by omega, rfl, rfl⟩
        case measure => decide
      · have e1 : ks 7 = 1 := rfl
        have e2 : floatOfInt .f64 6 = kd 7 := rfl
        go_wp2
        go_round
        case rel => exact ⟨8, by omega, rfl, rfl⟩
        case measure => decide
    · obtain rfl : i = 8 := by omega
      have e1 : ks 8 = 0 := rfl
      have g1 := op64 H.out.hzp
      go_wp2
      go_ret
      exact ⟨rfl, rfl⟩

theorem specSine {y : Nat} {n : Int} {d : Nat} {neg : Bool} {f : Nat} (hy : rung Ieee.double y < 1075 * 4503599627370496) (hP : PartAt y n d neg f) {below over : Bool} {f1 f2 z u zp : Nat} (h : SinAt f below over f1 f2 z u zp) (w : World) :
    Calls Try.prog 56 #[.float .f64 y] w fun x w' => x = .returned (.float .f64 (sr below zp)) ∧ w = w' := by
  cases neg <;> cases below <;> cases over
  · exact specSine_false_false_false hy hP h w
  · exact specSine_false_false_true hy hP h w
  · exact specSine_false_true_false hy hP h w
  · exact specSine_false_true_true hy hP h w
  · exact specSine_true_false_false hy hP h w
  · exact specSine_true_false_true hy hP h w
  · exact specSine_true_true_false hy hP h w
  · exact specSine_true_true_true hy hP h w
end Go.Proofs.Ytajjepcegpimjaa
