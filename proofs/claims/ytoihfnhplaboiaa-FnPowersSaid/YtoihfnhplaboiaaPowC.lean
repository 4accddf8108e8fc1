/-
  The walk of the law on powers: every two slices of bytes.
-/
import Derived.Test.YtoihfnhplaboiaaPowB
namespace Go.Proofs.Ytoihfnhplaboiaa
open Go.RowKit Fl

theorem below_refl (w : World) : Below w.heap.size w w := Below.refl _ _

theorem pow_short (a0 : Option Addr) (l0 c0 : Nat) (z0 : List Int) (a1 : Option Addr) (l1 c1 : Nat) (z1 : List Int) (w : World) (w0 : IsRow .u8 w a0 l0 c0 z0) (w1 : IsRow .u8 w a1 l1 c1 z1) (hl : (decide (1048576 < l0) || decide (1048576 < l1)) = false) :
    Calls Try.prog 5 #[.slice a0 l0 c0, .slice a1 l1 c1] w fun e w' => e = .returned (.bool true) ∧ w = w' := by
  have hi := pick_lt l0 z0 0 (n := 65) (by omega)
  have hj := pick_lt l1 z1 0 (n := 65) (by omega)
  have L : Hid (∀ w, Calls Try.prog 6 #[.slice a0 l0 c0, .slice a1 l1 c1] w fun e w' => e = .returned (.bool false) ∧ w = w') := fun w => by
    have := b10Long_any a0 a1 l0 c0 l1 c1 (isRow_len w0) (isRow_len w1) w
    rw [hl] at this; exact this
  have P0 : Hid (Calls Try.prog 7 #[.slice a0 l0 c0, .int .i64 0, .int .i64 65] w fun e w' => e = .returned (.int .i64 (pick l0 z0 0 65)) ∧ w = w') := b10At_any a0 l0 c0 z0 0 65 (by omega) (by omega) (by omega) w w0
  have P1 : Hid (Calls Try.prog 7 #[.slice a1 l1 c1, .int .i64 0, .int .i64 65] w fun e w' => e = .returned (.int .i64 (pick l1 z1 0 65)) ∧ w = w') := b10At_any a1 l1 c1 z1 0 65 (by omega) (by omega) (by omega) w w1
  generalize pick l0 z0 0 65 = i at *
  generalize pick l1 z1 0 65 = j at *
  -- the words
  have q1 : ∀ (t : TypeId) (w : World), (binOp .quo t (.float .f32 (floatOfInt .f32 ((i : Int) - 32))) (.float .f32 1090519040)).run Try.prog w = .ok (.float .f32 (xw (i + 32))) w := fun t w => run_float_arith w .quo t .f32 _ _ _ (xw_quo i hi)
  have q2 : ∀ (t : TypeId) (w : World), (binOp .quo t (.float .f32 (floatOfInt .f32 ((j : Int) - 32))) (.float .f32 1090519040)).run Try.prog w = .ok (.float .f32 (xw (j + 32))) w := fun t w => run_float_arith w .quo t .f32 _ _ _ (xw_quo j hj)
  have q3 : ∀ (t : TypeId) (w : World), (binOp .add t (.float .f32 (xw (i + 32))) (.float .f32 (xw (j + 32)))).run Try.prog w = .ok (.float .f32 (xw (i + j))) w := fun t w => run_float_arith w .add t .f32 _ _ _ (xw_add i hi j hj)
  have ex1 : ∀ m, m < 129 → Hid (∀ w, Calls Try.prog 25 #[.float .f32 (xw m)] w fun e w' => e = .returned (.float .f32 (te.getD m 0)) ∧ w = w') := fun m hm => by
    have h := te_ok m hm
    intro w
    have := exp_any h.1 w
    rw [h.2] at this; exact this
  have E1 := ex1 (i + 32) (by omega)
  have E2 := ex1 (j + 32) (by omega)
  have E3 := ex1 (i + j) (by omega)
  have E4 : Hid (∀ w, Calls Try.prog 25 #[.float .f32 0] w fun e w' => e = .returned (.float .f32 1065353216) ∧ w = w') := by
    have h := ex1 64 (by omega)
    rw [exp_zero.1, exp_zero.2] at h
    exact h
  have b1 := te_pos (i + 32) (by omega)
  have b2 := te_pos (j + 32) (by omega)
  have b3 := te_pos (i + j) (by omega)
  have L1 : Hid (∀ w, Calls Try.prog 26 #[.float .f32 (te.getD (i + 32) 0)] w fun e w' => e = .returned (.float .f32 (lw (te.getD (i + 32) 0))) ∧ w = w') := fun w => log_any b1.1 b1.2 w
  have L2 : Hid (∀ w, Calls Try.prog 26 #[.float .f32 1065353216] w fun e w' => e = .returned (.float .f32 (lw 1065353216)) ∧ w = w') := fun w => log_any (by omega) (by omega) w
  obtain ⟨g1, hg1, t1⟩ := lessThan_some (near_log i hi)
  have G1 : Hid (∀ w, Calls Try.prog 10 #[.float .f64 (up (lw (te.getD (i + 32) 0))), .float .f64 (up (xw (i + 32)))] w fun e w' => e = .returned (.float .f64 g1) ∧ w = w') := fun w => gap_any hg1 w
  have hN := near_mul i hi j hj
  unfold nearMul at hN
  simp only [Bool.and_eq_true] at hN
  obtain ⟨⟨k1, k2⟩, k3⟩ := hN
  obtain ⟨g2, hg2, t2⟩ := lessThan_some k3
  have m1 := op64 (ok_fv k1)
  have m2 := op64 (ok_fv k2)
  have G2 : Hid (∀ w, Calls Try.prog 10 #[.float .f64 (fv .mul (up (te.getD (i + 32) 0)) (up (te.getD (j + 32) 0))), .float .f64 (up (te.getD (i + j) 0))] w fun e w' => e = .returned (.float .f64 g2) ∧ w = w') := fun w => gap_any hg2 w
  have cu : ∀ x, Num .f32 x → ∀ w, (convert 28 27 (.float .f32 x)).run Try.prog w = .ok (.float .f64 (up x)) w := fun x hx w => run_up w _ _ hx (by kernel_rfl) Try.underlying27
  have u1 := cu _ (key32_pos (c := te.getD (i + 32) 0) (by omega)).2
  have u2 := cu _ (key32_pos (c := te.getD (j + 32) 0) (by omega)).2
  have u3 := cu _ (key32_pos (c := te.getD (i + j) 0) (by omega)).2
  have u4 := cu _ (num32.2 (xw_num (i + 32) (by omega)))
  have nl : ∀ v, 0 < v → v < 2139095040 → Num .f32 (lw v) := fun v v1 v2 => by
    obtain ⟨hu, hu1, hu2⟩ := up_lo v1 v2
    have hz : 4604930618986332160 ≤ lz (upr v) ∧ lz (upr v) < 4609434218613702656 ∧ -190 ≤ le_ (upr v) ∧ le_ (upr v) ≤ 190 := by unfold lz le_; omega
    obtain ⟨a, b, s, u, p1, p2, ec, r, hL⟩ := log_at hz.1 hz.2.1 hz.2.2.1 hz.2.2.2
    have := (down_fin hL.hle (by omega) (by omega)).1
    rw [inf32] at this
    unfold lw; rw [lgv_of hL]
    exact num32.2 (by omega)
  have u5 := cu _ (nl _ b1.1 b1.2)
  have p1 : (FloatKind.f32.format.order (te.getD (i + 32) 0) 0 == some .gt) = true := by
    rw [gt32 (c := 0) (key32_pos (c := te.getD (i + 32) 0) (by omega)).2 (by decide), (key32_pos (c := te.getD (i + 32) 0) (by omega)).1]; exact decide_eq_true (by have := b1.1; omega)
  have p2 : (FloatKind.f32.format.order 1065353216 1065353216 == some .eq) = true := by decide
  have p3 := log_one
  have hiI : (i : Int) < 65 := by omega
  have hjI : (j : Int) < 65 := by omega
  clear cu nl ex1 k1 k2 k3 hg1 hg2 hl b1 b2 b3
  generalize te.getD (i + 32) 0 = A at *
  generalize te.getD (j + 32) 0 = B at *
  generalize te.getD (i + j) 0 = C at *
  generalize lw A = LA at *
  generalize lw 1065353216 = LO at *
  generalize xw (i + 32) = X at *
  generalize xw (j + 32) = Y at *
  generalize xw (i + j) = Z at *
  generalize fv .mul (up A) (up B) = M1 at *
  generalize fv .mul 4562254508917369340 (up C) = M2 at *
  clear w0 w1
  go_enter Try.func5, Try.ntmps5
  go_wp2_with (first | (go_at_call 6; refine (L.out _).mono ?_; rintro e w' ⟨rfl, rfl⟩) | (go_at_call 7; (with_reducible refine P0.out.mono ?_); rintro e w' ⟨rfl, rfl⟩) | (go_at_call 7; (with_reducible refine P1.out.mono ?_); rintro e w' ⟨rfl, rfl⟩) | (go_at_call 25; (with_reducible refine (E1.out _).mono ?_); rintro e w' ⟨rfl, rfl⟩) | (go_at_call 25; (with_reducible refine (E2.out _).mono ?_); rintro e w' ⟨rfl, rfl⟩) | (go_at_call 25; (with_reducible refine (E3.out _).mono ?_); rintro e w' ⟨rfl, rfl⟩) | (go_at_call 25; (with_reducible refine (E4.out _).mono ?_); rintro e w' ⟨rfl, rfl⟩) | (go_at_call 26; (with_reducible refine (L1.out _).mono ?_); rintro e w' ⟨rfl, rfl⟩) | (go_at_call 26; (with_reducible refine (L2.out _).mono ?_); rintro e w' ⟨rfl, rfl⟩) | (go_at_call 10; (with_reducible refine (G1.out _).mono ?_); rintro e w' ⟨rfl, rfl⟩) | (go_at_call 10; (with_reducible refine (G2.out _).mono ?_); rintro e w' ⟨rfl, rfl⟩))
  go_ret
  exact ⟨rfl, rfl⟩

theorem walk_fnPowers (a0 : Option Addr) (l0 c0 : Nat) (z0 : List Int) (a1 : Option Addr) (l1 c1 : Nat) (z1 : List Int) (w : World) (w0 : IsRow .u8 w a0 l0 c0 z0) (w1 : IsRow .u8 w a1 l1 c1 z1) :
    Calls Try.prog 5 #[.slice a0 l0 c0, .slice a1 l1 c1] w fun e w' => e = .returned (.bool true) ∧ Below w.heap.size w w' := by
  cases hl : (decide (1048576 < l0) || decide (1048576 < l1))
  · exact (pow_short a0 l0 c0 z0 a1 l1 c1 z1 w w0 w1 hl).mono fun e w' ⟨he, hw⟩ => ⟨he, by subst hw; exact Below.refl _ _⟩
  · have L : Hid (∀ w, Calls Try.prog 6 #[.slice a0 l0 c0, .slice a1 l1 c1] w fun e w' => e = .returned (.bool true) ∧ w = w') := fun w => by
      have := b10Long_any a0 a1 l0 c0 l1 c1 (isRow_len w0) (isRow_len w1) w
      rw [hl] at this; exact this
    clear w0 w1 hl
    go_enter Try.func5, Try.ntmps5
    go_wp2_with (go_at_call 6; refine (L.out _).mono ?_; rintro e w' ⟨rfl, rfl⟩)
    go_ret
    exact ⟨rfl, Below.refl _ _⟩
end Go.Proofs.Ytoihfnhplaboiaa
