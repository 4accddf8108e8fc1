/-
  The walk of the law on powers.
-/
import Derived.Test.YtoihfnhplaboiaaPowA
import Derived.Test.YtoihfnhplaboiaaRow
namespace Go.Proofs.Ytoihfnhplaboiaa
open Go.RowKit Fl

section
variable {x c : Nat}
theorem gt32 (hx : Num .f32 x) (hc : c ≤ 2139095040) : (FloatKind.f32.format.order x c == some .gt) = decide ((c : Int) < key .f32 x) := by
  have hk : key .f32 c = c ∧ Num .f32 c := key32_pos hc
  rw [gt_key .f32 hx hk.2, hk.1]
theorem lt32 (hx : Num .f32 x) (hc : c ≤ 2139095040) : (FloatKind.f32.format.order x c == some .lt) = decide (key .f32 x < (c : Int)) := by
  have hk : key .f32 c = c ∧ Num .f32 c := key32_pos hc
  rw [lt_key .f32 hx hk.2, hk.1]
theorem le32 (hx : Num .f32 x) (hc : c ≤ 2139095040) : (FloatKind.f32.format.order x c == some .lt || FloatKind.f32.format.order x c == some .eq) = decide (key .f32 x ≤ (c : Int)) := by
  have hk : key .f32 c = c ∧ Num .f32 c := key32_pos hc
  rw [le_key .f32 hx hk.2, hk.1]
theorem eq32 (hx : Num .f32 x) (hc : c ≤ 2139095040) : (FloatKind.f32.format.order x c == some .eq) = decide (key .f32 x = (c : Int)) := by
  have hk : key .f32 c = c ∧ Num .f32 c := key32_pos hc
  rw [eq_key .f32 hx hk.2, hk.1]
end

/-- the words of float32 that are no NaN, in five classes -/
theorem classes {x : Nat} (hx : x < 4294967296) (hn : Num .f32 x) :
    (x = 0 ∨ x = 2147483648) ∨ x = 2139095040 ∨ (2147483648 < x ∧ x ≤ 4286578688) ∨ (0 < x ∧ x < 2139095040) := by
  have h := num32.1 hn
  unfold rung at h
  rw [show Ieee.single.signWeight = 2147483648 by decide] at h
  omega
theorem key_hi {x : Nat} (h1 : 2147483648 < x) (h2 : x ≤ 4286578688) : key .f32 x = -((x : Int) - 2147483648) := by
  have hs : sgn FloatKind.f32.format x = true := by
    show sgn Ieee.single x = true
    unfold sgn; rw [show Ieee.single.signWeight = 2147483648 by decide, show x / 2147483648 = 1 by omega]; rfl
  have hr : rung FloatKind.f32.format x = x - 2147483648 := by
    show rung Ieee.single x = _
    unfold rung; rw [show Ieee.single.signWeight = 2147483648 by decide]; omega
  unfold key
  rw [hs, hr]
  simp only [if_true]
  omega
theorem up_hi {x : Nat} (h1 : 2147483648 < x) (h2 : x ≤ 4286578688) : Num .f64 (up x) ∧ key .f64 (up x) < 0 := by
  have hn : Num .f32 x := num32.2 (by unfold rung; rw [show Ieee.single.signWeight = 2147483648 by decide]; omega)
  refine ⟨up_num hn, ?_⟩
  have hr : rung Ieee.single x = x - 2147483648 := by
    unfold rung; rw [show Ieee.single.signWeight = 2147483648 by decide]; omega
  have hs : sgn Ieee.single x = true := by
    unfold sgn; rw [show Ieee.single.signWeight = 2147483648 by decide, show x / 2147483648 = 1 by omega]; rfl
  have hu := up_rung hn
  have hz := upr_eq_zero (num32.1 hn)
  unfold key
  rw [show sgn FloatKind.f64.format (up x) = true by rw [show sgn FloatKind.f64.format (up x) = sgn Ieee.double (up x) from rfl, hu.2, hs]]
  rw [show rung FloatKind.f64.format (up x) = upr (rung Ieee.single x) from hu.1]
  simp only [if_true]
  omega
theorem up_lo {x : Nat} (h1 : 0 < x) (h2 : x < 2139095040) : up x = upr x ∧ 3936146074321813504 ≤ upr x ∧ upr x ≤ 5183643170566569984 := by
  have hr : rung Ieee.single x = x := by
    unfold rung; rw [show Ieee.single.signWeight = 2147483648 by decide]; omega
  have hs : sgn Ieee.single x = false := by
    unfold sgn; rw [show Ieee.single.signWeight = 2147483648 by decide, show x / 2147483648 = 0 by omega]; rfl
  refine ⟨?_, ?_, (upr_fin (by omega)).2 h2⟩
  · rw [up_eq (by rw [hr, inf32]; omega), hr, hs]; rfl
  · by_cases h : x < 8388608
    · exact (upr_sub (by omega) h).1
    · rw [upr_norm (by omega) h2]; omega

theorem gap_any {a b g : Nat} (h : gapv a b = some g) (w : World) :
    Calls Try.prog 10 #[.float .f64 a, .float .f64 b] w fun e w' => e = .returned (.float .f64 g) ∧ w = w' := by
  unfold gapv at h
  cases t : (FloatKind.f64.format.order a b == some .lt)
  · rw [t] at h
    simp only [Bool.false_eq_true, if_false] at h
    have d := op64 h
    clear h
    go_enter Try.func10, Try.ntmps10
    go_wp2
    go_ret
    exact ⟨rfl, rfl⟩
  · rw [t] at h
    simp only [if_true] at h
    have d := op64 h
    clear h
    go_enter Try.func10, Try.ntmps10
    go_wp2
    go_ret
    exact ⟨rfl, rfl⟩

theorem expOk_parts {x : Nat} (h : expOk x = true) :
    rung Ieee.single x ≤ 2139095040 ∧ (FloatKind.f32.format.order x 1128792064 == some .gt) = false ∧ (FloatKind.f32.format.order x 3276275712 == some .lt) = false ∧ ok .quo (up x) 4643211215818981376 = true ∧
    (∀ i, i < 12 → ok .mul (et x) (ep (et x) i) = true ∧ ok .quo (fv .mul (et x) (ep (et x) i)) (ke i) = true ∧ ok .add 4607182418800017408 (fv .quo (fv .mul (et x) (ep (et x) i)) (ke i)) = true) ∧
    (∀ i, i < 8 → ok .mul (pw (ep (et x) 12) i) (pw (ep (et x) 12) i) = true) ∧ Le 1148 (pw (ep (et x) 12) 8) := by
  unfold expOk at h
  simp only [Bool.and_eq_true, decide_eq_true_eq, Bool.not_eq_true', List.all_eq_true, List.mem_range] at h
  obtain ⟨⟨⟨⟨⟨⟨h1, h2⟩, h3⟩, h4⟩, h5⟩, h6⟩, h7⟩ := h
  exact ⟨h1, h2, h3, h4, fun i hi => ⟨(h5 i hi).1.1, (h5 i hi).1.2, (h5 i hi).2⟩, h6, h7⟩

set_option maxHeartbeats 1000000 in
theorem exp_any {x : Nat} (h : expOk x = true) (w : World) :
    Calls Try.prog 25 #[.float .f32 x] w fun e w' => e = .returned (.float .f32 (ex x)) ∧ w = w' := by
  obtain ⟨h1, t1, t2, h4, h5, h6, h7⟩ := expOk_parts h
  have c1 : ∀ w, (convert 28 27 (.float .f32 x)).run Try.prog w = .ok (.float .f64 (up x)) w := fun w => run_up w _ _ (num32.2 h1) (by kernel_rfl) Try.underlying27
  have d1 : ∀ (t : TypeId) (w : World), (binOp .quo t (.float .f64 (up x)) (.float .f64 4643211215818981376)).run Try.prog w = .ok (.float .f64 (et x)) w := op64 (ok_fv h4)
  have H5 := Lib.hid h5
  have H6 := Lib.hid h6
  have H7 := Lib.hid h7
  have E : Hid (ex x = down (pw (ep (et x) 12) 8)) := Lib.hid rfl
  clear h h1 h4 h5 h6 h7
  generalize et x = T at *
  generalize ex x = R at *
  go_enter Try.func25, Try.ntmps25
  go_wp2_with fail
  go_loop [4, 5] (fun p k => ∃ i : Nat, i ≤ 12 ∧ p = .float .f64 (ep T i) ∧ k = .float .f64 (ke i)) (fun _ k => kOf k)
  case atStart => exact ⟨0, by omega, rfl, by rw [show ke 0 = 4622945017495814144 by decide]⟩
  case round =>
    clear t1 t2 c1 d1
    obtain ⟨i, hi, rfl, rfl⟩ := hrel
    by_cases c3 : i < 12
    · have g0 := ke_ge i c3
      have g4 := op64 (ke_step i c3)
      obtain ⟨m1, m2, m3⟩ := H5.out i c3
      have m1 := op64 (ok_fv m1)
      have m2 := op64 (ok_fv m2)
      have m3 : ∀ (t : TypeId) (w : World), (binOp .add t (.float .f64 4607182418800017408) (.float .f64 (fv .quo (fv .mul T (ep T i)) (ke i)))).run Try.prog w = .ok (.float .f64 (ep T (i + 1))) w := op64 (ok_fv m3)
      go_wp2_with fail
      go_round
      case rel => exact ⟨i + 1, by omega, rfl, rfl⟩
      case measure => exact ke_down i c3
    · obtain rfl : i = 12 := by omega
      have g0 := ke_end
      go_wp2_with fail
      generalize ep T 12 = P at *
      go_loop [4, 25] (fun p k => ∃ i : Nat, i ≤ 8 ∧ p = .float .f64 (pw P i) ∧ k = .int .i64 i) (fun _ k => 8 - (intOf k).toNat)
      case atStart => exact ⟨0, by omega, rfl, rfl⟩
      case round =>
        clear g0
        obtain ⟨i, hi, rfl, rfl⟩ := hrel
        by_cases c4 : i < 8
        · have m1 : ∀ (t : TypeId) (w : World), (binOp .mul t (.float .f64 (pw P i)) (.float .f64 (pw P i))).run Try.prog w = .ok (.float .f64 (pw P (i + 1))) w := op64 (ok_fv (H6.out i c4))
          go_wp2_with fail
          go_round
          case rel => exact ⟨i + 1, by omega, rfl, by go_num⟩
          case measure => simp [intOf]; omega
        · obtain rfl : i = 8 := by omega
          have c5 : ∀ w, (convert 27 28 (.float .f64 (pw P 8))).run Try.prog w = .ok (.float .f32 (down (pw P 8))) w := fun w => run_down w _ _ H7.out (by omega) (by omega) (by kernel_rfl) Try.underlying28
          go_wp2_with go_in
          go_ret
          exact ⟨by rw [E.out]; rfl, rfl⟩

theorem log_any {v : Nat} (h1 : 0 < v) (h2 : v < 2139095040) (w : World) :
    Calls Try.prog 26 #[.float .f32 v] w fun e w' => e = .returned (.float .f32 (lw v)) ∧ w = w' := by
  have hk : key .f32 v = v ∧ Num .f32 v := key32_pos (by omega)
  have c1 : ∀ w, (convert 28 27 (.float .f32 v)).run Try.prog w = .ok (.float .f64 (up v)) w := fun w => run_up w _ _ hk.2 (by kernel_rfl) Try.underlying27
  obtain ⟨hu, hu1, hu2⟩ := up_lo h1 h2
  rw [hu] at c1
  have t1 : (FloatKind.f32.format.order v 0 == some .eq) = false := by rw [eq32 hk.2 (by omega), hk.1]; simp; omega
  have t1' : (FloatKind.f32.format.order v 2139095039 == some .gt) = false := by rw [gt32 hk.2 (by omega), hk.1]; simp; omega
  have t1'' : (FloatKind.f32.format.order v 0 == some .gt) = true := by rw [gt32 hk.2 (by omega), hk.1]; simp; omega
  have hz : 4604930618986332160 ≤ lz (upr v) ∧ lz (upr v) < 4609434218613702656 ∧ ((upr v : Nat) : Int) = lz (upr v) + le_ (upr v) * 4503599627370496 ∧ -190 ≤ le_ (upr v) ∧ le_ (upr v) ≤ 190 := by
    unfold lz le_; omega
  obtain ⟨z1, z2, hY, he1, he2⟩ := hz
  obtain ⟨a, b, s, u, p1, p2, ec, r, hL⟩ := log_at z1 z2 he1 he2
  have hr := hL.hle
  have e : lw v = down r := by unfold lw; rw [lgv_of hL]
  rw [e]
  have c4 : ∀ w, (convert 27 28 (.float .f64 r)).run Try.prog w = .ok (.float .f32 (down r)) w := fun w => run_down w _ _ hr (by omega) (by omega) (by kernel_rfl) Try.underlying28
  have HL := Lib.hid hL
  have HY := Lib.hid hY
  have HZ := Lib.hid (And.intro z1 z2)
  have HU := Lib.hid (And.intro hu1 hu2)
  clear e hk h1 h2 hL hY hr hu1 hu2 hu he1 he2 z1 z2
  generalize lz (upr v) = z at *
  generalize le_ (upr v) = e at *
  generalize upr v = Y at *
  go_enter Try.func26, Try.ntmps26
  go_wp2_with (first | (go_at_call 38; refine (implLog HL.out HZ.out.1 HZ.out.2 HY.out HU.out.1 HU.out.2 _).mono ?_; rintro e w' ⟨rfl, rfl⟩) | go_in)
  go_ret
  exact ⟨rfl, rfl⟩
end Go.Proofs.Ytoihfnhplaboiaa
