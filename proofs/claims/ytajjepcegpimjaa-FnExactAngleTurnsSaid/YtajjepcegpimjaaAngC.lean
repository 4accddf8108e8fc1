/-
  The walk of the law on AngleTurns.
-/
import Derived.Test.YtajjepcegpimjaaAngB
import Derived.Test.YtajjepcegpimjaaLogC
namespace Go.Proofs.Ytajjepcegpimjaa
open Go.RowKit Fl

theorem ng_le {e : Nat} {b : Bool} {x : Nat} (h : Le e x) : Le e (ng b x) := by
  unfold ng; cases b
  · exact h
  · simp only [if_true]; unfold Le; rw [neg_rung]; exact h

theorem up_lt0 {v : Nat} (hn : Num .f32 v) : (FloatKind.f64.format.order (up v) 0 == some .lt) = (FloatKind.f32.format.order v 0 == some .lt) := by
  rw [lt_key .f64 (up_num hn) (pos_num (by omega)), lt32 hn (by omega), (key_pos (x := 0) (by omega)).1, decide_eq_decide]
  have hz := upr_eq_zero (num32.1 hn)
  unfold key
  rw [show sgn FloatKind.f64.format (up v) = sgn Ieee.double (up v) from rfl, (up_rung hn).2, show rung FloatKind.f64.format (up v) = upr (rung Ieee.single v) from (up_rung hn).1]
  rw [show rung FloatKind.f32.format v = rung Ieee.single v from rfl, show sgn FloatKind.f32.format v = sgn Ieee.single v from rfl]
  cases sgn Ieee.single v <;> simp <;> omega
theorem up_eq0 {v : Nat} (hn : Num .f32 v) : (FloatKind.f64.format.order (up v) 0 == some .eq) = (FloatKind.f32.format.order v 0 == some .eq) := by
  rw [eq_key .f64 (up_num hn) (pos_num (by omega)), eq32 hn (by omega), (key_pos (x := 0) (by omega)).1, decide_eq_decide]
  have hz := upr_eq_zero (num32.1 hn)
  unfold key
  rw [show sgn FloatKind.f64.format (up v) = sgn Ieee.double (up v) from rfl, (up_rung hn).2, show rung FloatKind.f64.format (up v) = upr (rung Ieee.single v) from (up_rung hn).1]
  rw [show rung FloatKind.f32.format v = rung Ieee.single v from rfl, show sgn FloatKind.f32.format v = sgn Ieee.single v from rfl]
  cases sgn Ieee.single v <;> simp <;> omega
theorem eq0_rung {v : Nat} (hn : Num .f32 v) (h : (FloatKind.f32.format.order v 0 == some .eq) = false) : 0 < rung Ieee.double (up v) := by
  rw [eq32 hn (by omega)] at h
  have hz := upr_eq_zero (num32.1 hn)
  rw [(up_rung hn).1]
  have : rung Ieee.single v ≠ 0 := by
    intro h0
    simp at h
    apply h
    unfold key
    rw [show rung FloatKind.f32.format v = 0 from h0]
    simp
  omega
theorem eq0_lt {v : Nat} (hn : Num .f32 v) (h : (FloatKind.f32.format.order v 0 == some .eq) = true) : (FloatKind.f32.format.order v 0 == some .lt) = false := by
  rw [eq32 hn (by omega)] at h
  rw [lt32 hn (by omega)]
  simp at h ⊢
  omega

set_option maxHeartbeats 1000000 in
theorem implAng_false_false_false_false {y x t0 u q1 q2 r g1 g2 : Nat} (fy : rung Ieee.single y < Ieee.single.infRung) (fx : rung Ieee.single x < Ieee.single.infRung)
    (z1 : (FloatKind.f32.format.order y 0 == some .eq) = false) (k1 : (FloatKind.f32.format.order x 0 == some .lt) = false) (k2 : (FloatKind.f32.format.order y 0 == some .lt) = false)
    (h : AngAt (rung Ieee.double (up y)) (rung Ieee.double (up x)) false false false t0 u q1 q2 r g1 g2) (w : World) :
    Calls Try.prog 20 #[.float .f32 y, .float .f32 x] w fun e w' => e = .returned (.float .f32 (down (ng false g2))) ∧ ∃ n, w' = w.drewN n := by
  have c1 : ∀ w, (convert 28 22 (.float .f32 y)).run Try.prog w = .ok (.float .f64 (up y)) w := fun w => run_up w _ _ (Nat.le_of_lt fy) (by kernel_rfl) Try.underlying22
  have c2 : ∀ w, (convert 28 22 (.float .f32 x)).run Try.prog w = .ok (.float .f64 (up x)) w := fun w => run_up w _ _ (Nat.le_of_lt fx) (by kernel_rfl) Try.underlying22
  have c3 : ∀ w, (convert 22 28 (.float .f64 (ng false g2))).run Try.prog w = .ok (.float .f32 (down (ng false g2))) w := fun w => run_down w _ _ (ng_le h.hle) (by omega) (by omega) (by kernel_rfl) Try.underlying28
  have e3 : ng false g2 = g2 := rfl
  rw [e3] at c3 ⊢
  have to := h.ho
  have HX := Lib.hid fx
  have HY := Lib.hid fy
  have H := Lib.hid h
  have e0 := op64 (h.h0' rfl)
  have e1 := h.h1' rfl
  have e2 := h.h2' rfl
  clear h fx fy e3
  subst e1
  subst e2
  go_enter Try.func20, Try.ntmps20
  go_wp2_with (first | (go_at_call 47; refine (abs_any _ (up_lt _) _).mono ?_; rintro e w' ⟨rfl, rfl⟩) | (go_at_call 64; refine (flat_any H.out.hf _).mono ?_; rintro e w' ⟨rfl, rfl⟩) | (go_at_call 40; refine (isFinite_fin _ HY.out _).mono ?_; rintro e w' ⟨rfl, n, rfl⟩) | (go_at_call 40; refine (isFinite_fin _ HX.out _).mono ?_; rintro e w' ⟨rfl, n, rfl⟩) | go_in)
  go_ret
  exact ⟨rfl, _, rfl⟩

set_option maxHeartbeats 1000000 in
theorem implAng_false_false_false_true {y x t0 u q1 q2 r g1 g2 : Nat} (fy : rung Ieee.single y < Ieee.single.infRung) (fx : rung Ieee.single x < Ieee.single.infRung)
    (z1 : (FloatKind.f32.format.order y 0 == some .eq) = true) (z2 : (FloatKind.f32.format.order x 0 == some .eq) = false) (k1 : (FloatKind.f32.format.order x 0 == some .lt) = false) (k2 : (FloatKind.f32.format.order y 0 == some .lt) = false)
    (h : AngAt (rung Ieee.double (up y)) (rung Ieee.double (up x)) false false false t0 u q1 q2 r g1 g2) (w : World) :
    Calls Try.prog 20 #[.float .f32 y, .float .f32 x] w fun e w' => e = .returned (.float .f32 (down (ng false g2))) ∧ ∃ n, w' = w.drewN n := by
  have c1 : ∀ w, (convert 28 22 (.float .f32 y)).run Try.prog w = .ok (.float .f64 (up y)) w := fun w => run_up w _ _ (Nat.le_of_lt fy) (by kernel_rfl) Try.underlying22
  have c2 : ∀ w, (convert 28 22 (.float .f32 x)).run Try.prog w = .ok (.float .f64 (up x)) w := fun w => run_up w _ _ (Nat.le_of_lt fx) (by kernel_rfl) Try.underlying22
  have c3 : ∀ w, (convert 22 28 (.float .f64 (ng false g2))).run Try.prog w = .ok (.float .f32 (down (ng false g2))) w := fun w => run_down w _ _ (ng_le h.hle) (by omega) (by omega) (by kernel_rfl) Try.underlying28
  have e3 : ng false g2 = g2 := rfl
  rw [e3] at c3 ⊢
  have to := h.ho
  have HX := Lib.hid fx
  have HY := Lib.hid fy
  have H := Lib.hid h
  have e0 := op64 (h.h0' rfl)
  have e1 := h.h1' rfl
  have e2 := h.h2' rfl
  clear h fx fy e3
  subst e1
  subst e2
  go_enter Try.func20, Try.ntmps20
  go_wp2_with (first | (go_at_call 47; refine (abs_any _ (up_lt _) _).mono ?_; rintro e w' ⟨rfl, rfl⟩) | (go_at_call 64; refine (flat_any H.out.hf _).mono ?_; rintro e w' ⟨rfl, rfl⟩) | (go_at_call 40; refine (isFinite_fin _ HY.out _).mono ?_; rintro e w' ⟨rfl, n, rfl⟩) | (go_at_call 40; refine (isFinite_fin _ HX.out _).mono ?_; rintro e w' ⟨rfl, n, rfl⟩) | go_in)
  go_ret
  exact ⟨rfl, _, rfl⟩

set_option maxHeartbeats 1000000 in
theorem implAng_false_false_true_false {y x t0 u q1 q2 r g1 g2 : Nat} (fy : rung Ieee.single y < Ieee.single.infRung) (fx : rung Ieee.single x < Ieee.single.infRung)
    (z1 : (FloatKind.f32.format.order y 0 == some .eq) = false) (k1 : (FloatKind.f32.format.order x 0 == some .lt) = false) (k2 : (FloatKind.f32.format.order y 0 == some .lt) = true)
    (h : AngAt (rung Ieee.double (up y)) (rung Ieee.double (up x)) false false true t0 u q1 q2 r g1 g2) (w : World) :
    Calls Try.prog 20 #[.float .f32 y, .float .f32 x] w fun e w' => e = .returned (.float .f32 (down (ng true g2))) ∧ ∃ n, w' = w.drewN n := by
  have c1 : ∀ w, (convert 28 22 (.float .f32 y)).run Try.prog w = .ok (.float .f64 (up y)) w := fun w => run_up w _ _ (Nat.le_of_lt fy) (by kernel_rfl) Try.underlying22
  have c2 : ∀ w, (convert 28 22 (.float .f32 x)).run Try.prog w = .ok (.float .f64 (up x)) w := fun w => run_up w _ _ (Nat.le_of_lt fx) (by kernel_rfl) Try.underlying22
  have c3 : ∀ w, (convert 22 28 (.float .f64 (ng true g2))).run Try.prog w = .ok (.float .f32 (down (ng true g2))) w := fun w => run_down w _ _ (ng_le h.hle) (by omega) (by omega) (by kernel_rfl) Try.underlying28
  have e3 : ng true g2 = Op.negFloat .f64 g2 := rfl
  rw [e3] at c3 ⊢
  have to := h.ho
  have HX := Lib.hid fx
  have HY := Lib.hid fy
  have H := Lib.hid h
  have e0 := op64 (h.h0' rfl)
  have e1 := h.h1' rfl
  have e2 := h.h2' rfl
  clear h fx fy e3
  subst e1
  subst e2
  go_enter Try.func20, Try.ntmps20
  go_wp2_with (first | (go_at_call 47; refine (abs_any _ (up_lt _) _).mono ?_; rintro e w' ⟨rfl, rfl⟩) | (go_at_call 64; refine (flat_any H.out.hf _).mono ?_; rintro e w' ⟨rfl, rfl⟩) | (go_at_call 40; refine (isFinite_fin _ HY.out _).mono ?_; rintro e w' ⟨rfl, n, rfl⟩) | (go_at_call 40; refine (isFinite_fin _ HX.out _).mono ?_; rintro e w' ⟨rfl, n, rfl⟩) | go_in)
  go_ret
  exact ⟨rfl, _, rfl⟩

set_option maxHeartbeats 1000000 in
theorem implAng_false_true_false_false {y x t0 u q1 q2 r g1 g2 : Nat} (fy : rung Ieee.single y < Ieee.single.infRung) (fx : rung Ieee.single x < Ieee.single.infRung)
    (z1 : (FloatKind.f32.format.order y 0 == some .eq) = false) (k1 : (FloatKind.f32.format.order x 0 == some .lt) = true) (k2 : (FloatKind.f32.format.order y 0 == some .lt) = false)
    (h : AngAt (rung Ieee.double (up y)) (rung Ieee.double (up x)) false true false t0 u q1 q2 r g1 g2) (w : World) :
    Calls Try.prog 20 #[.float .f32 y, .float .f32 x] w fun e w' => e = .returned (.float .f32 (down (ng false g2))) ∧ ∃ n, w' = w.drewN n := by
  have c1 : ∀ w, (convert 28 22 (.float .f32 y)).run Try.prog w = .ok (.float .f64 (up y)) w := fun w => run_up w _ _ (Nat.le_of_lt fy) (by kernel_rfl) Try.underlying22
  have c2 : ∀ w, (convert 28 22 (.float .f32 x)).run Try.prog w = .ok (.float .f64 (up x)) w := fun w => run_up w _ _ (Nat.le_of_lt fx) (by kernel_rfl) Try.underlying22
  have c3 : ∀ w, (convert 22 28 (.float .f64 (ng false g2))).run Try.prog w = .ok (.float .f32 (down (ng false g2))) w := fun w => run_down w _ _ (ng_le h.hle) (by omega) (by omega) (by kernel_rfl) Try.underlying28
  have e3 : ng false g2 = g2 := rfl
  rw [e3] at c3 ⊢
  have to := h.ho
  have HX := Lib.hid fx
  have HY := Lib.hid fy
  have H := Lib.hid h
  have e0 := op64 (h.h0' rfl)
  have e1 := h.h1' rfl
  have e2 := op64 (h.h2 rfl)
  clear h fx fy e3
  subst e1
  go_enter Try.func20, Try.ntmps20
  go_wp2_with (first | (go_at_call 47; refine (abs_any _ (up_lt _) _).mono ?_; rintro e w' ⟨rfl, rfl⟩) | (go_at_call 64; refine (flat_any H.out.hf _).mono ?_; rintro e w' ⟨rfl, rfl⟩) | (go_at_call 40; refine (isFinite_fin _ HY.out _).mono ?_; rintro e w' ⟨rfl, n, rfl⟩) | (go_at_call 40; refine (isFinite_fin _ HX.out _).mono ?_; rintro e w' ⟨rfl, n, rfl⟩) | go_in)
  go_ret
  exact ⟨rfl, _, rfl⟩

set_option maxHeartbeats 1000000 in
theorem implAng_false_true_false_true {y x t0 u q1 q2 r g1 g2 : Nat} (fy : rung Ieee.single y < Ieee.single.infRung) (fx : rung Ieee.single x < Ieee.single.infRung)
    (z1 : (FloatKind.f32.format.order y 0 == some .eq) = true) (z2 : (FloatKind.f32.format.order x 0 == some .eq) = false) (k1 : (FloatKind.f32.format.order x 0 == some .lt) = true) (k2 : (FloatKind.f32.format.order y 0 == some .lt) = false)
    (h : AngAt (rung Ieee.double (up y)) (rung Ieee.double (up x)) false true false t0 u q1 q2 r g1 g2) (w : World) :
    Calls Try.prog 20 #[.float .f32 y, .float .f32 x] w fun e w' => e = .returned (.float .f32 (down (ng false g2))) ∧ ∃ n, w' = w.drewN n := by
  have c1 : ∀ w, (convert 28 22 (.float .f32 y)).run Try.prog w = .ok (.float .f64 (up y)) w := fun w => run_up w _ _ (Nat.le_of_lt fy) (by kernel_rfl) Try.underlying22
  have c2 : ∀ w, (convert 28 22 (.float .f32 x)).run Try.prog w = .ok (.float .f64 (up x)) w := fun w => run_up w _ _ (Nat.le_of_lt fx) (by kernel_rfl) Try.underlying22
  have c3 : ∀ w, (convert 22 28 (.float .f64 (ng false g2))).run Try.prog w = .ok (.float .f32 (down (ng false g2))) w := fun w => run_down w _ _ (ng_le h.hle) (by omega) (by omega) (by kernel_rfl) Try.underlying28
  have e3 : ng false g2 = g2 := rfl
  rw [e3] at c3 ⊢
  have to := h.ho
  have HX := Lib.hid fx
  have HY := Lib.hid fy
  have H := Lib.hid h
  have e0 := op64 (h.h0' rfl)
  have e1 := h.h1' rfl
  have e2 := op64 (h.h2 rfl)
  clear h fx fy e3
  subst e1
  go_enter Try.func20, Try.ntmps20
  go_wp2_with (first | (go_at_call 47; refine (abs_any _ (up_lt _) _).mono ?_; rintro e w' ⟨rfl, rfl⟩) | (go_at_call 64; refine (flat_any H.out.hf _).mono ?_; rintro e w' ⟨rfl, rfl⟩) | (go_at_call 40; refine (isFinite_fin _ HY.out _).mono ?_; rintro e w' ⟨rfl, n, rfl⟩) | (go_at_call 40; refine (isFinite_fin _ HX.out _).mono ?_; rintro e w' ⟨rfl, n, rfl⟩) | go_in)
  go_ret
  exact ⟨rfl, _, rfl⟩

set_option maxHeartbeats 1000000 in
theorem implAng_false_true_true_false {y x t0 u q1 q2 r g1 g2 : Nat} (fy : rung Ieee.single y < Ieee.single.infRung) (fx : rung Ieee.single x < Ieee.single.infRung)
    (z1 : (FloatKind.f32.format.order y 0 == some .eq) = false) (k1 : (FloatKind.f32.format.order x 0 == some .lt) = true) (k2 : (FloatKind.f32.format.order y 0 == some .lt) = true)
    (h : AngAt (rung Ieee.double (up y)) (rung Ieee.double (up x)) false true true t0 u q1 q2 r g1 g2) (w : World) :
    Calls Try.prog 20 #[.float .f32 y, .float .f32 x] w fun e w' => e = .returned (.float .f32 (down (ng true g2))) ∧ ∃ n, w' = w.drewN n := by
  have c1 : ∀ w, (convert 28 22 (.float .f32 y)).run Try.prog w = .ok (.float .f64 (up y)) w := fun w => run_up w _ _ (Nat.le_of_lt fy) (by kernel_rfl) Try.underlying22
  have c2 : ∀ w, (convert 28 22 (.float .f32 x)).run Try.prog w = .ok (.float .f64 (up x)) w := fun w => run_up w _ _ (Nat.le_of_lt fx) (by kernel_rfl) Try.underlying22
  have c3 : ∀ w, (convert 22 28 (.float .f64 (ng true g2))).run Try.prog w = .ok (.float .f32 (down (ng true g2))) w := fun w => run_down w _ _ (ng_le h.hle) (by omega) (by omega) (by kernel_rfl) Try.underlying28
  have e3 : ng true g2 = Op.negFloat .f64 g2 := rfl
  rw [e3] at c3 ⊢
  have to := h.ho
  have HX := Lib.hid fx
  have HY := Lib.hid fy
  have H := Lib.hid h
  have e0 := op64 (h.h0' rfl)
  have e1 := h.h1' rfl
  have e2 := op64 (h.h2 rfl)
  clear h fx fy e3
  subst e1
  go_enter Try.func20, Try.ntmps20
  go_wp2_with (first | (go_at_call 47; refine (abs_any _ (up_lt _) _).mono ?_; rintro e w' ⟨rfl, rfl⟩) | (go_at_call 64; refine (flat_any H.out.hf _).mono ?_; rintro e w' ⟨rfl, rfl⟩) | (go_at_call 40; refine (isFinite_fin _ HY.out _).mono ?_; rintro e w' ⟨rfl, n, rfl⟩) | (go_at_call 40; refine (isFinite_fin _ HX.out _).mono ?_; rintro e w' ⟨rfl, n, rfl⟩) | go_in)
  go_ret
  exact ⟨rfl, _, rfl⟩

set_option maxHeartbeats 1000000 in
theorem implAng_true_false_false_false {y x t0 u q1 q2 r g1 g2 : Nat} (fy : rung Ieee.single y < Ieee.single.infRung) (fx : rung Ieee.single x < Ieee.single.infRung)
    (z1 : (FloatKind.f32.format.order y 0 == some .eq) = false) (k1 : (FloatKind.f32.format.order x 0 == some .lt) = false) (k2 : (FloatKind.f32.format.order y 0 == some .lt) = false)
    (h : AngAt (rung Ieee.double (up y)) (rung Ieee.double (up x)) true false false t0 u q1 q2 r g1 g2) (w : World) :
    Calls Try.prog 20 #[.float .f32 y, .float .f32 x] w fun e w' => e = .returned (.float .f32 (down (ng false g2))) ∧ ∃ n, w' = w.drewN n := by
  have c1 : ∀ w, (convert 28 22 (.float .f32 y)).run Try.prog w = .ok (.float .f64 (up y)) w := fun w => run_up w _ _ (Nat.le_of_lt fy) (by kernel_rfl) Try.underlying22
  have c2 : ∀ w, (convert 28 22 (.float .f32 x)).run Try.prog w = .ok (.float .f64 (up x)) w := fun w => run_up w _ _ (Nat.le_of_lt fx) (by kernel_rfl) Try.underlying22
  have c3 : ∀ w, (convert 22 28 (.float .f64 (ng false g2))).run Try.prog w = .ok (.float .f32 (down (ng false g2))) w := fun w => run_down w _ _ (ng_le h.hle) (by omega) (by omega) (by kernel_rfl) Try.underlying28
  have e3 : ng false g2 = g2 := rfl
  rw [e3] at c3 ⊢
  have to := h.ho
  have HX := Lib.hid fx
  have HY := Lib.hid fy
  have H := Lib.hid h
  have e0 := op64 (h.h0 rfl)
  have e1 := op64 (h.h1 rfl)
  have e2 := h.h2' rfl
  clear h fx fy e3
  subst e2
  go_enter Try.func20, Try.ntmps20
  go_wp2_with (first | (go_at_call 47; refine (abs_any _ (up_lt _) _).mono ?_; rintro e w' ⟨rfl, rfl⟩) | (go_at_call 64; refine (flat_any H.out.hf _).mono ?_; rintro e w' ⟨rfl, rfl⟩) | (go_at_call 40; refine (isFinite_fin _ HY.out _).mono ?_; rintro e w' ⟨rfl, n, rfl⟩) | (go_at_call 40; refine (isFinite_fin _ HX.out _).mono ?_; rintro e w' ⟨rfl, n, rfl⟩) | go_in)
  go_ret
  exact ⟨rfl, _, rfl⟩

set_option maxHeartbeats 1000000 in
theorem implAng_true_false_false_true {y x t0 u q1 q2 r g1 g2 : Nat} (fy : rung Ieee.single y < Ieee.single.infRung) (fx : rung Ieee.single x < Ieee.single.infRung)
    (z1 : (FloatKind.f32.format.order y 0 == some .eq) = true) (z2 : (FloatKind.f32.format.order x 0 == some .eq) = false) (k1 : (FloatKind.f32.format.order x 0 == some .lt) = false) (k2 : (FloatKind.f32.format.order y 0 == some .lt) = false)
    (h : AngAt (rung Ieee.double (up y)) (rung Ieee.double (up x)) true false false t0 u q1 q2 r g1 g2) (w : World) :
    Calls Try.prog 20 #[.float .f32 y, .float .f32 x] w fun e w' => e = .returned (.float .f32 (down (ng false g2))) ∧ ∃ n, w' = w.drewN n := by
  have c1 : ∀ w, (convert 28 22 (.float .f32 y)).run Try.prog w = .ok (.float .f64 (up y)) w := fun w => run_up w _ _ (Nat.le_of_lt fy) (by kernel_rfl) Try.underlying22
  have c2 : ∀ w, (convert 28 22 (.float .f32 x)).run Try.prog w = .ok (.float .f64 (up x)) w := fun w => run_up w _ _ (Nat.le_of_lt fx) (by kernel_rfl) Try.underlying22
  have c3 : ∀ w, (convert 22 28 (.float .f64 (ng false g2))).run Try.prog w = .ok (.float .f32 (down (ng false g2))) w := fun w => run_down w _ _ (ng_le h.hle) (by omega) (by omega) (by kernel_rfl) Try.underlying28
  have e3 : ng false g2 = g2 := rfl
  rw [e3] at c3 ⊢
  have to := h.ho
  have HX := Lib.hid fx
  have HY := Lib.hid fy
  have H := Lib.hid h
  have e0 := op64 (h.h0 rfl)
  have e1 := op64 (h.h1 rfl)
  have e2 := h.h2' rfl
  clear h fx fy e3
  subst e2
  go_enter Try.func20, Try.ntmps20
  go_wp2_with (first | (go_at_call 47; refine (abs_any _ (up_lt _) _).mono ?_; rintro e w' ⟨rfl, rfl⟩) | (go_at_call 64; refine (flat_any H.out.hf _).mono ?_; rintro e w' ⟨rfl, rfl⟩) | (go_at_call 40; refine (isFinite_fin _ HY.out _).mono ?_; rintro e w' ⟨rfl, n, rfl⟩) | (go_at_call 40; refine (isFinite_fin _ HX.out _).mono ?_; rintro e w' ⟨rfl, n, rfl⟩) | go_in)
  go_ret
  exact ⟨rfl, _, rfl⟩

set_option maxHeartbeats 1000000 in
theorem implAng_true_false_true_false {y x t0 u q1 q2 r g1 g2 : Nat} (fy : rung Ieee.single y < Ieee.single.infRung) (fx : rung Ieee.single x < Ieee.single.infRung)
    (z1 : (FloatKind.f32.format.order y 0 == some .eq) = false) (k1 : (FloatKind.f32.format.order x 0 == some .lt) = false) (k2 : (FloatKind.f32.format.order y 0 == some .lt) = true)
    (h : AngAt (rung Ieee.double (up y)) (rung Ieee.double (up x)) true false true t0 u q1 q2 r g1 g2) (w : World) :
    Calls Try.prog 20 #[.float .f32 y, .float .f32 x] w fun e w' => e = .returned (.float .f32 (down (ng true g2))) ∧ ∃ n, w' = w.drewN n := by
  have c1 : ∀ w, (convert 28 22 (.float .f32 y)).run Try.prog w = .ok (.float .f64 (up y)) w := fun w => run_up w _ _ (Nat.le_of_lt fy) (by kernel_rfl) Try.underlying22
  have c2 : ∀ w, (convert 28 22 (.float .f32 x)).run Try.prog w = .ok (.float .f64 (up x)) w := fun w => run_up w _ _ (Nat.le_of_lt fx) (by kernel_rfl) Try.underlying22
  have c3 : ∀ w, (convert 22 28 (.float .f64 (ng true g2))).run Try.prog w = .ok (.float .f32 (down (ng true g2))) w := fun w => run_down w _ _ (ng_le h.hle) (by omega) (by omega) (by kernel_rfl) Try.underlying28
  have e3 : ng true g2 = Op.negFloat .f64 g2 := rfl
  rw [e3] at c3 ⊢
  have to := h.ho
  have HX := Lib.hid fx
  have HY := Lib.hid fy
  have H := Lib.hid h
  have e0 := op64 (h.h0 rfl)
  have e1 := op64 (h.h1 rfl)
  have e2 := h.h2' rfl
  clear h fx fy e3
  subst e2
  go_enter Try.func20, Try.ntmps20
  go_wp2_with (first | (go_at_call 47; refine (abs_any _ (up_lt _) _).mono ?_; rintro e w' ⟨rfl, rfl⟩) | (go_at_call 64; refine (flat_any H.out.hf _).mono ?_; rintro e w' ⟨rfl, rfl⟩) | (go_at_call 40; refine (isFinite_fin _ HY.out _).mono ?_; rintro e w' ⟨rfl, n, rfl⟩) | (go_at_call 40; refine (isFinite_fin _ HX.out _).mono ?_; rintro e w' ⟨rfl, n, rfl⟩) | go_in)
  go_ret
  exact ⟨rfl, _, rfl⟩

set_option maxHeartbeats 1000000 in
theorem implAng_true_true_false_false {y x t0 u q1 q2 r g1 g2 : Nat} (fy : rung Ieee.single y < Ieee.single.infRung) (fx : rung Ieee.single x < Ieee.single.infRung)
    (z1 : (FloatKind.f32.format.order y 0 == some .eq) = false) (k1 : (FloatKind.f32.format.order x 0 == some .lt) = true) (k2 : (FloatKind.f32.format.order y 0 == some .lt) = false)
    (h : AngAt (rung Ieee.double (up y)) (rung Ieee.double (up x)) true true false t0 u q1 q2 r g1 g2) (w : World) :
    Calls Try.prog 20 #[.float .f32 y, .float .f32 x] w fun e w' => e = .returned (.float .f32 (down (ng false g2))) ∧ ∃ n, w' = w.drewN n := by
  have c1 : ∀ w, (convert 28 22 (.float .f32 y)).run Try.prog w = .ok (.float .f64 (up y)) w := fun w => run_up w _ _ (Nat.le_of_lt fy) (by kernel_rfl) Try.underlying22
  have c2 : ∀ w, (convert 28 22 (.float .f32 x)).run Try.prog w = .ok (.float .f64 (up x)) w := fun w => run_up w _ _ (Nat.le_of_lt fx) (by kernel_rfl) Try.underlying22
  have c3 : ∀ w, (convert 22 28 (.float .f64 (ng false g2))).run Try.prog w = .ok (.float .f32 (down (ng false g2))) w := fun w => run_down w _ _ (ng_le h.hle) (by omega) (by omega) (by kernel_rfl) Try.underlying28
  have e3 : ng false g2 = g2 := rfl
  rw [e3] at c3 ⊢
  have to := h.ho
  have HX := Lib.hid fx
  have HY := Lib.hid fy
  have H := Lib.hid h
  have e0 := op64 (h.h0 rfl)
  have e1 := op64 (h.h1 rfl)
  have e2 := op64 (h.h2 rfl)
  clear h fx fy e3
  go_enter Try.func20, Try.ntmps20
  go_wp2_with (first | (go_at_call 47; refine (abs_any _ (up_lt _) _).mono ?_; rintro e w' ⟨rfl, rfl⟩) | (go_at_call 64; refine (flat_any H.out.hf _).mono ?_; rintro e w' ⟨rfl, rfl⟩) | (go_at_call 40; refine (isFinite_fin _ HY.out _).mono ?_; rintro e w' ⟨rfl, n, rfl⟩) | (go_at_call 40; refine (isFinite_fin _ HX.out _).mono ?_; rintro e w' ⟨rfl, n, rfl⟩) | go_in)
  go_ret
  exact ⟨rfl, _, rfl⟩

set_option maxHeartbeats 1000000 in
theorem implAng_true_true_false_true {y x t0 u q1 q2 r g1 g2 : Nat} (fy : rung Ieee.single y < Ieee.single.infRung) (fx : rung Ieee.single x < Ieee.single.infRung)
    (z1 : (FloatKind.f32.format.order y 0 == some .eq) = true) (z2 : (FloatKind.f32.format.order x 0 == some .eq) = false) (k1 : (FloatKind.f32.format.order x 0 == some .lt) = true) (k2 : (FloatKind.f32.format.order y 0 == some .lt) = false)
    (h : AngAt (rung Ieee.double (up y)) (rung Ieee.double (up x)) true true false t0 u q1 q2 r g1 g2) (w : World) :
    Calls Try.prog 20 #[.float .f32 y, .float .f32 x] w fun e w' => e = .returned (.float .f32 (down (ng false g2))) ∧ ∃ n, w' = w.drewN n := by
  have c1 : ∀ w, (convert 28 22 (.float .f32 y)).run Try.prog w = .ok (.float .f64 (up y)) w := fun w => run_up w _ _ (Nat.le_of_lt fy) (by kernel_rfl) Try.underlying22
  have c2 : ∀ w, (convert 28 22 (.float .f32 x)).run Try.prog w = .ok (.float .f64 (up x)) w := fun w => run_up w _ _ (Nat.le_of_lt fx) (by kernel_rfl) Try.underlying22
  have c3 : ∀ w, (convert 22 28 (.float .f64 (ng false g2))).run Try.prog w = .ok (.float .f32 (down (ng false g2))) w := fun w => run_down w _ _ (ng_le h.hle) (by omega) (by omega) (by kernel_rfl) Try.underlying28
  have e3 : ng false g2 = g2 := rfl
  rw [e3] at c3 ⊢
  have to := h.ho
  have HX := Lib.hid fx
  have HY := Lib.hid fy
  have H := Lib.hid h
  have e0 := op64 (h.h0 rfl)
  have e1 := op64 (h.h1 rfl)
  have e2 := op64 (h.h2 rfl)
  clear h fx fy e3
  go_enter Try.func20, Try.ntmps20
  go_wp2_with (first | (go_at_call 47; refine (abs_any _ (up_lt _) _).mono ?_; rintro e w' ⟨rfl, rfl⟩) | (go_at_call 64; refine (flat_any H.out.hf _).mono ?_; rintro e w' ⟨rfl, rfl⟩) | (go_at_call 40; refine (isFinite_fin _ HY.out _).mono ?_; rintro e w' ⟨rfl, n, rfl⟩) | (go_at_call 40; refine (isFinite_fin _ HX.out _).mono ?_; rintro e w' ⟨rfl, n, rfl⟩) | go_in)
  go_ret
  exact ⟨rfl, _, rfl⟩

set_option maxHeartbeats 1000000 in
theorem implAng_true_true_true_false {y x t0 u q1 q2 r g1 g2 : Nat} (fy : rung Ieee.single y < Ieee.single.infRung) (fx : rung Ieee.single x < Ieee.single.infRung)
    (z1 : (FloatKind.f32.format.order y 0 == some .eq) = false) (k1 : (FloatKind.f32.format.order x 0 == some .lt) = true) (k2 : (FloatKind.f32.format.order y 0 == some .lt) = true)
    (h : AngAt (rung Ieee.double (up y)) (rung Ieee.double (up x)) true true true t0 u q1 q2 r g1 g2) (w : World) :
    Calls Try.prog 20 #[.float .f32 y, .float .f32 x] w fun e w' => e = .returned (.float .f32 (down (ng true g2))) ∧ ∃ n, w' = w.drewN n := by
  have c1 : ∀ w, (convert 28 22 (.float .f32 y)).run Try.prog w = .ok (.float .f64 (up y)) w := fun w => run_up w _ _ (Nat.le_of_lt fy) (by kernel_rfl) Try.underlying22
  have c2 : ∀ w, (convert 28 22 (.float .f32 x)).run Try.prog w = .ok (.float .f64 (up x)) w := fun w => run_up w _ _ (Nat.le_of_lt fx) (by kernel_rfl) Try.underlying22
  have c3 : ∀ w, (convert 22 28 (.float .f64 (ng true g2))).run Try.prog w = .ok (.float .f32 (down (ng true g2))) w := fun w => run_down w _ _ (ng_le h.hle) (by omega) (by omega) (by kernel_rfl) Try.underlying28
  have e3 : ng true g2 = Op.negFloat .f64 g2 := rfl
  rw [e3] at c3 ⊢
  have to := h.ho
  have HX := Lib.hid fx
  have HY := Lib.hid fy
  have H := Lib.hid h
  have e0 := op64 (h.h0 rfl)
  have e1 := op64 (h.h1 rfl)
  have e2 := op64 (h.h2 rfl)
  clear h fx fy e3
  go_enter Try.func20, Try.ntmps20
  go_wp2_with (first | (go_at_call 47; refine (abs_any _ (up_lt _) _).mono ?_; rintro e w' ⟨rfl, rfl⟩) | (go_at_call 64; refine (flat_any H.out.hf _).mono ?_; rintro e w' ⟨rfl, rfl⟩) | (go_at_call 40; refine (isFinite_fin _ HY.out _).mono ?_; rintro e w' ⟨rfl, n, rfl⟩) | (go_at_call 40; refine (isFinite_fin _ HX.out _).mono ?_; rintro e w' ⟨rfl, n, rfl⟩) | go_in)
  go_ret
  exact ⟨rfl, _, rfl⟩

theorem implAng {y x : Nat} (fy : rung Ieee.single y < Ieee.single.infRung) (fx : rung Ieee.single x < Ieee.single.infRung) {yz over xn yn : Bool}
    (z1 : (FloatKind.f32.format.order y 0 == some .eq) = yz) (z2 : yz = true → (FloatKind.f32.format.order x 0 == some .eq) = false) (z3 : yz = true → yn = false) (k1 : (FloatKind.f32.format.order x 0 == some .lt) = xn) (k2 : (FloatKind.f32.format.order y 0 == some .lt) = yn)
    {t0 u q1 q2 r g1 g2 : Nat} (h : AngAt (rung Ieee.double (up y)) (rung Ieee.double (up x)) over xn yn t0 u q1 q2 r g1 g2) (w : World) :
    Calls Try.prog 20 #[.float .f32 y, .float .f32 x] w fun e w' => e = .returned (.float .f32 (down (ng yn g2))) ∧ ∃ n, w' = w.drewN n := by
  cases yz <;> cases yn <;> cases over <;> cases xn
  · exact implAng_false_false_false_false fy fx z1 k1 k2 h w
  · exact implAng_false_true_false_false fy fx z1 k1 k2 h w
  · exact implAng_true_false_false_false fy fx z1 k1 k2 h w
  · exact implAng_true_true_false_false fy fx z1 k1 k2 h w
  · exact implAng_false_false_true_false fy fx z1 k1 k2 h w
  · exact implAng_false_true_true_false fy fx z1 k1 k2 h w
  · exact implAng_true_false_true_false fy fx z1 k1 k2 h w
  · exact implAng_true_true_true_false fy fx z1 k1 k2 h w
  · exact implAng_false_false_false_true fy fx z1 (z2 rfl) k1 k2 h w
  · exact implAng_false_true_false_true fy fx z1 (z2 rfl) k1 k2 h w
  · exact implAng_true_false_false_true fy fx z1 (z2 rfl) k1 k2 h w
  · exact implAng_true_true_false_true fy fx z1 (z2 rfl) k1 k2 h w
  · exact absurd (z3 rfl) (by decide)
  · exact absurd (z3 rfl) (by decide)
  · exact absurd (z3 rfl) (by decide)
  · exact absurd (z3 rfl) (by decide)
end Go.Proofs.Ytajjepcegpimjaa
