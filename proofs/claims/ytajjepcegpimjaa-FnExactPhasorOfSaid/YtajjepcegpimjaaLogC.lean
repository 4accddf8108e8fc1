/-
  The walks of the laws on LogNumber and TenthsOf.
-/
import Derived.Test.YtajjepcegpimjaaLogB
namespace Go.Proofs.Ytajjepcegpimjaa
open Go.RowKit Fl

section
variable {x c : Nat}
theorem gt32 (hx : Num .f32 x) (hc : c ≤ 2139095040) : (FloatKind.f32.format.order x c == some .gt) = decide ((c : Int) < key .f32 x) := by
  have hk : key .f32 c = c ∧ Num .f32 c := key32_pos hc
  rw [gt_key .f32 hx hk.2, hk.1]
theorem lt32 (hx : Num .f32 x) (hc : c ≤ 2139095040) : (FloatKind.f32.format.order x c == some .lt) = decide (key .f32 x < (c : Int)) := by
  have hk : key .f32 c = c ∧ Num .f32 c := key32_pos hc
  rw [lt_key .f32 hx hk.2, hk.1]
theorem le32 (hx : Num .f32 x) (hc : c ≤ 2139095040) : (FloatKind.f32.format.order x c == some .lt || FloatKind.f32.format.order x c == some .eq) = decide (key .f32 x ≤ (c : Int)) := by
  have hk : key .f32 c = c ∧ Num .f32 c := key32_pos hc
  rw [le_key .f32 hx hk.2, hk.1]
theorem eq32 (hx : Num .f32 x) (hc : c ≤ 2139095040) : (FloatKind.f32.format.order x c == some .eq) = decide (key .f32 x = (c : Int)) := by
  have hk : key .f32 c = c ∧ Num .f32 c := key32_pos hc
  rw [eq_key .f32 hx hk.2, hk.1]
end

/-- the words of float32 that are no NaN, in five classes -/
theorem classes {x : Nat} (hx : x < 4294967296) (hn : Num .f32 x) :
    (x = 0 ∨ x = 2147483648) ∨ x = 2139095040 ∨ (2147483648 < x ∧ x ≤ 4286578688) ∨ (0 < x ∧ x < 2139095040) := by
  have h := num32.1 hn
  unfold rung at h
  rw [show Ieee.single.signWeight = 2147483648 by decide] at h
  omega
theorem key_hi {x : Nat} (h1 : 2147483648 < x) (h2 : x ≤ 4286578688) : key .f32 x = -((x : Int) - 2147483648) := by
  have hs : sgn FloatKind.f32.format x = true := by
    show sgn Ieee.single x = true
    unfold sgn; rw [show Ieee.single.signWeight = 2147483648 by decide, show x / 2147483648 = 1 by omega]; rfl
  have hr : rung FloatKind.f32.format x = x - 2147483648 := by
    show rung Ieee.single x = _
    unfold rung; rw [show Ieee.single.signWeight = 2147483648 by decide]; omega
  unfold key
  rw [hs, hr]
  simp only [if_true]
  omega
theorem up_hi {x : Nat} (h1 : 2147483648 < x) (h2 : x ≤ 4286578688) : Num .f64 (up x) ∧ key .f64 (up x) < 0 := by
  have hn : Num .f32 x := num32.2 (by unfold rung; rw [show Ieee.single.signWeight = 2147483648 by decide]; omega)
  refine ⟨up_num hn, ?_⟩
  have hr : rung Ieee.single x = x - 2147483648 := by
    unfold rung; rw [show Ieee.single.signWeight = 2147483648 by decide]; omega
  have hs : sgn Ieee.single x = true := by
    unfold sgn; rw [show Ieee.single.signWeight = 2147483648 by decide, show x / 2147483648 = 1 by omega]; rfl
  have hu := up_rung hn
  have hz := upr_eq_zero (num32.1 hn)
  unfold key
  rw [show sgn FloatKind.f64.format (up x) = true by rw [show sgn FloatKind.f64.format (up x) = sgn Ieee.double (up x) from rfl, hu.2, hs]]
  rw [show rung FloatKind.f64.format (up x) = upr (rung Ieee.single x) from hu.1]
  simp only [if_true]
  omega
theorem up_lo {x : Nat} (h1 : 0 < x) (h2 : x < 2139095040) : up x = upr x ∧ 3936146074321813504 ≤ upr x ∧ upr x ≤ 5183643170566569984 := by
  have hr : rung Ieee.single x = x := by
    unfold rung; rw [show Ieee.single.signWeight = 2147483648 by decide]; omega
  have hs : sgn Ieee.single x = false := by
    unfold sgn; rw [show Ieee.single.signWeight = 2147483648 by decide, show x / 2147483648 = 0 by omega]; rfl
  refine ⟨?_, ?_, (upr_fin (by omega)).2 h2⟩
  · rw [up_eq (by rw [hr, inf32]; omega), hr, hs]; rfl
  · by_cases h : x < 8388608
    · exact (upr_sub (by omega) h).1
    · rw [upr_norm (by omega) h2]; omega

abbrev nanC : Nat := 9221120237041090561
theorem nanC_nan : ¬ Num .f64 9221120237041090561 := by rw [num64]; decide

theorem walk_fnExactLogNumber (a0 : Nat) (w : World) (w0 : (Lit.float .f32 a0).wf = true) :
    Calls Try.prog 10 #[.float .f32 a0] w fun e w' => e = .returned (.bool true) ∧ Below w.heap.size w w' := by
  have h0 := lt_of_wf32 w0
  have c2 : ∀ w, (convert 22 28 (.float .f64 9221120237041090561)).run Try.prog w = .ok (.float .f32 (nanAt (.nanConv .f32 9221120237041090561) w)) w.drew := fun w => run_down_nan w _ _ nanC_nan (by kernel_rfl) Try.underlying28
  have c3 : ∀ w b q, (convert 28 22 (.float .f32 (nanAt (.nanConv .f32 b) q))).run Try.prog w = .ok (.float .f64 (nanAt (.nanConv .f64 (nanAt (.nanConv .f32 b) q)) w)) w.drew := fun w b q => run_up_nan w _ _ (nanAt_conv32 _ _) (by kernel_rfl) Try.underlying22
  by_cases hn : Num .f32 a0
  · have c1 : ∀ w, (convert 28 22 (.float .f32 a0)).run Try.prog w = .ok (.float .f64 (up a0)) w := fun w => run_up w _ _ hn (by kernel_rfl) Try.underlying22
    have HN := Lib.hid hn
    rcases classes h0 hn with h | rfl | ⟨h1, h2⟩ | ⟨h1, h2⟩
    · -- zeros
      clear c2 c3
      have c4 : ∀ w, (convert 22 28 (.float .f64 18442240474082181120)).run Try.prog w = .ok (.float .f32 4286578688) w := fun w => run_convert_float_float w _ _ .f64 .f32 _ _ (by kernel_rfl) Try.underlying28 (by decide)
      have c5 : ∀ w, (convert 28 22 (.float .f32 4286578688)).run Try.prog w = .ok (.float .f64 18442240474082181120) w := fun w => run_convert_float_float w _ _ .f32 .f64 _ _ (by kernel_rfl) Try.underlying22 (by decide)
      rcases h with rfl | rfl
      · have e1 : up 0 = 0 := by decide
        rw [e1] at c1
        have t1 : (FloatKind.f32.format.order 0 0 == some .eq) = true := by decide
        have t2 : (FloatKind.f64.format.order 0 0 != some .eq) = false := by decide
        have t3 : (FloatKind.f64.format.order 0 0 == some .lt) = false := by decide
        have t4 : (FloatKind.f64.format.order 0 0 == some .eq) = true := by decide
        clear hn
        go_enter Try.func10, Try.ntmps10
        go_wp2_with (first | (go_at_call 18; refine (sameFloat_num _ (by decide) (num64.2 (by decide)) _).mono ?_; rintro e w' ⟨rfl, rfl⟩) | go_in)
        go_ret
        exact ⟨rfl, below_drewn _ 0⟩
      · have e1 : up 2147483648 = 9223372036854775808 := by decide
        rw [e1] at c1
        have t1 : (FloatKind.f32.format.order 2147483648 0 == some .eq) = true := by decide
        have t2 : (FloatKind.f64.format.order 9223372036854775808 9223372036854775808 != some .eq) = false := by decide
        have t3 : (FloatKind.f64.format.order 9223372036854775808 0 == some .lt) = false := by decide
        have t4 : (FloatKind.f64.format.order 9223372036854775808 0 == some .eq) = true := by decide
        clear hn
        go_enter Try.func10, Try.ntmps10
        go_wp2_with (first | (go_at_call 18; refine (sameFloat_num _ (by decide) (num64.2 (by decide)) _).mono ?_; rintro e w' ⟨rfl, rfl⟩) | go_in)
        go_ret
        exact ⟨rfl, below_drewn _ 0⟩
    · -- infinity
      clear c2 c3
      have e1 : up 2139095040 = 9218868437227405312 := by decide
      rw [e1] at c1
      have c4 : ∀ w, (convert 22 28 (.float .f64 9218868437227405312)).run Try.prog w = .ok (.float .f32 2139095040) w := fun w => run_convert_float_float w _ _ .f64 .f32 _ _ (by kernel_rfl) Try.underlying28 (by decide)
      have t1 : (FloatKind.f32.format.order 2139095040 0 == some .eq) = false := by decide
      have t1' : (FloatKind.f32.format.order 2139095040 2139095039 == some .gt) = true := by decide
      have t2 : (FloatKind.f64.format.order 9218868437227405312 9218868437227405312 != some .eq) = false := by decide
      have t3 : (FloatKind.f64.format.order 9218868437227405312 0 == some .lt) = false := by decide
      have t4 : (FloatKind.f64.format.order 9218868437227405312 0 == some .eq) = false := by decide
      have t5 : (FloatKind.f64.format.order 9218868437227405312 9218868437227405311 == some .gt) = true := by decide
      clear hn
      go_enter Try.func10, Try.ntmps10
      go_wp2_with (first | (go_at_call 18; refine (sameFloat_num _ (by decide) (num64.2 (by decide)) _).mono ?_; rintro e w' ⟨rfl, rfl⟩) | go_in)
      go_ret
      exact ⟨rfl, below_drewn _ 0⟩
    · -- negative
      have hk := key_hi h1 h2
      have hu := up_hi h1 h2
      have t1 : (FloatKind.f32.format.order a0 0 == some .eq) = false := by rw [eq32 hn (by omega), hk]; simp; omega
      have t1' : (FloatKind.f32.format.order a0 2139095039 == some .gt) = false := by rw [gt32 hn (by omega), hk]; simp; omega
      have t1'' : (FloatKind.f32.format.order a0 0 == some .gt) = false := by rw [gt32 hn (by omega), hk]; simp; omega
      have t2 := ne_self_num .f64 hu.1
      have t3 : (FloatKind.f64.format.order (up a0) 0 == some .lt) = true := by
        rw [lt_key .f64 hu.1 (pos_num (by omega)), (key_pos (x := 0) (by omega)).1]; simpa using hu.2
      clear hn hk hu h1 h2
      go_enter Try.func10, Try.ntmps10
      go_wp2_with (first | (go_at_call 18; refine (sameFloat_nan _ _ (nanAt_conv64 _ _) (nanAt_conv64 _ _) _).mono ?_; rintro e w' ⟨rfl, rfl⟩) | go_in)
      go_ret
      exact ⟨rfl, below_drewn _ 4⟩
    · -- positive
      clear c2 c3
      have hk : key .f32 a0 = a0 := (key32_pos (by omega)).1
      obtain ⟨hu, hu1, hu2⟩ := up_lo h1 h2
      rw [hu] at c1
      have t1 : (FloatKind.f32.format.order a0 0 == some .eq) = false := by rw [eq32 hn (by omega), hk]; simp; omega
      have t1' : (FloatKind.f32.format.order a0 2139095039 == some .gt) = false := by rw [gt32 hn (by omega), hk]; simp; omega
      have t1'' : (FloatKind.f32.format.order a0 0 == some .gt) = true := by rw [gt32 hn (by omega), hk]; simp; omega
      obtain ⟨z, e, z1, z2, hY, he1, he2⟩ := split_word hu1 hu2
      obtain ⟨a, b, s, u, p1, p2, ec, r, hL⟩ := log_at z1 z2 he1 he2
      have hr := hL.hle
      have c4 : ∀ w, (convert 22 28 (.float .f64 r)).run Try.prog w = .ok (.float .f32 (down r)) w := fun w => run_down w _ _ hr (by omega) (by omega) (by kernel_rfl) Try.underlying28
      have hq : Num .f32 (down r) := by
        have := (down_fin hr (by omega) (by omega)).1
        rw [inf32] at this
        exact num32.2 (by omega)
      have c5 : ∀ w, (convert 28 22 (.float .f32 (down r))).run Try.prog w = .ok (.float .f64 (up (down r))) w := fun w => run_up w _ _ hq (by kernel_rfl) Try.underlying22
      have HQ := Lib.hid hq
      have HL := Lib.hid hL
      have HY := Lib.hid hY
      have HZ := Lib.hid (And.intro z1 z2)
      have HU := Lib.hid (And.intro hu1 hu2)
      generalize upr a0 = Y at *
      clear hn hk h1 h2 hL hY hr hq hu1 hu2 hu
      go_enter Try.func10, Try.ntmps10
      go_wp2_with (first | (go_at_call 18; refine (sameFloat_num _ (up_lt _) (up_num HQ.out) _).mono ?_; rintro e w' ⟨rfl, rfl⟩) | (go_at_call 60; refine (specLog HL.out HZ.out.1 HZ.out.2 HY.out (by have := HU.out; omega) (by have := HU.out; omega) _).mono ?_; rintro e w' ⟨rfl, rfl⟩) | (go_at_call 41; refine (implLog HL.out HZ.out.1 HZ.out.2 HY.out HU.out.1 HU.out.2 _).mono ?_; rintro e w' ⟨rfl, rfl⟩) | go_in)
      go_ret
      exact ⟨rfl, below_drewn _ 0⟩
  · have c1 : ∀ w, (convert 28 22 (.float .f32 a0)).run Try.prog w = .ok (.float .f64 (nanAt (.nanConv .f64 a0) w)) w.drew := fun w => run_up_nan w _ _ hn (by kernel_rfl) Try.underlying22
    have t1 : (FloatKind.f32.format.order a0 0 == some .eq) = false := by rw [order_nan_left .f32 hn]; rfl
    have t1' : (FloatKind.f32.format.order a0 2139095039 == some .gt) = false := by rw [order_nan_left .f32 hn]; rfl
    have t1'' : (FloatKind.f32.format.order a0 0 == some .gt) = false := by rw [order_nan_left .f32 hn]; rfl
    have t2 := fun w => ne_self_nan .f64 (nanAt_conv64 a0 w)
    clear hn
    go_enter Try.func10, Try.ntmps10
    go_wp2_with (first | (go_at_call 18; refine (sameFloat_nan _ _ (nanAt_conv64 _ _) (nanAt_conv64 _ _) _).mono ?_; rintro e w' ⟨rfl, rfl⟩) | go_in)
    go_ret
    exact ⟨rfl, below_drewn _ 5⟩
end Go.Proofs.Ytajjepcegpimjaa
