/-
  The walk of the law on TenthsOf.
-/
import Derived.Test.YtajjepcegpimjaaLogC
namespace Go.Proofs.Ytajjepcegpimjaa
open Go.RowKit Fl

/-! ### the greatest integer that is not greater, and as an int64 -/
def flo (x : Nat) : Nat := Ieee.double.write ((Ieee.double.read x).integral .down)

theorem cut_any (way : Ieee.Toward) (neg : Bool) (n d : Nat) : way.cut neg n d ≤ n / 2 ^ min d (n.log2 + 2) + 1 := by
  unfold Ieee.Toward.cut
  simp only [Nat.shiftLeft_eq, Nat.one_mul]
  apply Nat.add_le_add_left
  exact Bool.toNat_le _

theorem integral_le (way : Ieee.Toward) {e x : Nat} (K : Nat) (hx : Le e x) (e1 : 1 ≤ e) (e2 : e ≤ 1023 + K) (e3 : K ≤ 1000) :
    ∃ M, (Ieee.double.read x).integral way = .number (sgn Ieee.double x) M 0 ∧ M ≤ 2 ^ K + 9007199254740992 := by
  obtain ⟨m, a, r1, v1, w1⟩ := hx.read e1 (by omega)
  refine ⟨way.cut (sgn Ieee.double x) (m <<< (-1074 + (a : Int)).toNat) (-(-1074 + (a : Int))).toNat, by rw [r1]; rfl, ?_⟩
  -- the significand has at most 53 digits
  have hm : m < 9007199254740992 := by
    have : ∀ w, Ieee.double.read w = .number (sgn Ieee.double x) m (-1074 + (a : Int)) → m < 9007199254740992 := by
      intro w hw
      unfold Ieee.Format.read at hw
      simp only [] at hw
      rw [sw64, bin64, inf64] at hw
      split at hw
      · have := (Ieee.Datum.number.inj hw).2.1; omega
      · split at hw
        · have := (Ieee.Datum.number.inj hw).2.1; omega
        · split at hw <;> cases hw
    exact this x r1
  refine Nat.le_trans (cut_any _ _ _ _) ?_
  have hK := Nat.two_pow_pos K
  by_cases h : a ≤ 1074
  · rw [show (-1074 + (a : Int)).toNat = 0 by omega, Nat.shiftLeft_zero]
    have := Nat.div_le_self m (2 ^ min (-(-1074 + (a : Int))).toNat (m.log2 + 2))
    clear v1 w1
    omega
  · rw [show (-(-1074 + (a : Int))).toNat = 0 by omega, Nat.zero_min, Nat.pow_zero, Nat.div_one, Nat.shiftLeft_eq]
    obtain ⟨T, hT⟩ : ∃ T, T = 1074 := ⟨_, rfl⟩
    obtain ⟨k, rfl⟩ : ∃ k, a = T + k := ⟨a - T, by omega⟩
    rw [show (-1074 + ((T + k : Nat) : Int)).toNat = k by omega]
    have h2 : m * 2 ^ k * 2 ^ T ≤ 2 ^ K * 2 ^ T := by
      rw [Nat.mul_assoc, ← Nat.pow_add, Nat.add_comm k, ← Nat.pow_add]
      exact Nat.le_trans v1 (Nat.pow_le_pow_right (by omega) (by omega))
    have h3 := Nat.le_of_mul_le_mul_right h2 (Nat.two_pow_pos T)
    clear v1 w1 h2
    omega

theorem flo_le {e x : Nat} (hx : Le e x) (e1 : 1 ≤ e) (e2 : e ≤ 1070) : Le 1078 (flo x) := by
  obtain ⟨M, h1, h2⟩ := integral_le .down 47 hx e1 (by omega) (by omega)
  unfold flo
  rw [h1]
  refine (nearest_le (sgn Ieee.double x) M 0 1078 (by omega) (by omega) fun h0 => .inl ?_).1
  have h3 : M * 2 ^ 0 ≤ 2 ^ 54 := by
    rw [Nat.pow_zero, Nat.mul_one]
    have h47 : (2 : Nat) ^ 47 = 140737488355328 := by decide
    have h54 : (2 : Nat) ^ 54 = 18014398509481984 := by decide
    omega
  have := log2_add_le h0 h3
  omega

theorem flo_int {e x : Nat} (hx : Le e x) (e1 : 1 ≤ e) (e2 : e ≤ 1070) : ∃ n, floatToIntVal .f64 (flo x) .i64 = some n := by
  obtain ⟨M, h1, h2⟩ := integral_le .zero 55 (flo_le hx e1 e2) (by omega) (by omega) (by omega)
  have h3 : (FloatKind.f64.decode (flo x)).toInt .zero = some (Ieee.signed (sgn Ieee.double (flo x)) M 0) := by
    show (Ieee.double.read (flo x)).toInt .zero = _
    unfold Ieee.Datum.toInt
    rw [h1]
  have h55 : (2 : Nat) ^ 55 = 36028797018963968 := by decide
  rw [h55] at h2
  have hb : IntKind.i64.min ≤ Ieee.signed (sgn Ieee.double (flo x)) M 0 ∧ Ieee.signed (sgn Ieee.double (flo x)) M 0 ≤ IntKind.i64.max := by
    rw [show IntKind.i64.min = -9223372036854775808 by decide, show IntKind.i64.max = 9223372036854775807 by decide]
    cases sgn Ieee.double (flo x) <;> simp [Ieee.signed] <;> omega
  refine ⟨Ieee.signed (sgn Ieee.double (flo x)) M 0, ?_⟩
  unfold floatToIntVal
  rw [h3]
  simp only [hb, and_self, if_true]

theorem run_floor {e x : Nat} (hx : Le e x) (e1 : 1 ≤ e) (e2 : e ≤ 1070) (w : World) : (callFunc 61 #[.float .f64 x]).run Try.prog w = .ok (.value (.float .f64 (flo x))) w := by
  have e0 : (callFunc 61 #[.float .f64 x]).run Try.prog w = ((Extern.MathFloor.toIntegral "math.archFloor" .down #[.float .f64 x]).run Try.prog w).andThen fun v w' => .ok (.value v) w' := run_callFunc_extern Try.func61 (by kernel_rfl) (by kernel_rfl) (by kernel_rfl) (by kernel_rfl) _ _
  obtain ⟨m, a, r1, _, _⟩ := hx.read e1 (by omega)
  have hf : flo x = FloatKind.f64.encode ((Ieee.Datum.number (sgn Ieee.double x) m (-1074 + (a : Int))).integral .down) := by unfold flo; rw [r1]; rfl
  rw [e0, hf]
  have r2 : FloatKind.f64.decode x = .number (sgn Ieee.double x) m (-1074 + (a : Int)) := r1
  generalize sgn Ieee.double x = s at *
  change (Sem.run Try.prog (match FloatKind.f64.decode x with
    | .nan s t =>
      if FloatKind.f64.format.quiet t = t then pure (.float .f64 x) else do
      let kept ← choose (.extern "math.Floor,Ceil,Trunc,RoundToEven.signallingNaN kept" 2)
      pure (.float .f64 (if kept == 1 then x else FloatKind.f64.encode (.nan s (FloatKind.f64.format.quiet t))))
    | d => pure (Value.float .f64 (FloatKind.f64.encode (d.integral .down)))) w).andThen _ = _
  rw [r2]
  rfl

theorem walk_fnExactTenthsOf (a0 : Nat) (w : World) (w0 : (Lit.float .f32 a0).wf = true) :
    Calls Try.prog 4 #[.float .f32 a0] w fun e w' => e = .returned (.bool true) ∧ Below w.heap.size w w' := by
  have h0 := lt_of_wf32 w0
  by_cases hfin : rung Ieee.single a0 < Ieee.single.infRung
  · have hn : Num .f32 a0 := Nat.le_of_lt hfin
    have HF := Lib.hid hfin
    by_cases hp : 0 < key .f32 a0
    · have t0 : (FloatKind.f32.format.order a0 0 == some .lt || FloatKind.f32.format.order a0 0 == some .eq) = false := by rw [le32 hn (by omega)]; simp; omega
      have hlo : 0 < a0 ∧ a0 < 2139095040 := by
        rcases classes h0 hn with h | rfl | ⟨h1, h2⟩ | h
        · rcases h with rfl | rfl
          · exact absurd hp (by decide)
          · exact absurd hp (by decide)
        · rw [inf32] at hfin; exact absurd hfin (by decide)
        · rw [key_hi h1 h2] at hp; omega
        · exact h
      have c1 : ∀ w, (convert 28 22 (.float .f32 a0)).run Try.prog w = .ok (.float .f64 (up a0)) w := fun w => run_up w _ _ hn (by kernel_rfl) Try.underlying22
      obtain ⟨hu, hu1, hu2⟩ := up_lo hlo.1 hlo.2
      rw [hu] at c1
      obtain ⟨z, e, z1, z2, hY, he1, he2⟩ := split_word hu1 hu2
      obtain ⟨a, b, s, u, p1, p2, ec, r, hL⟩ := log_at z1 z2 he1 he2
      obtain ⟨q1, m1, l1, _⟩ := mul_le (g := 1038) hL.hle (show Le 1029 4631308968768463603 by unfold Le; decide) (by omega) (by omega) (by omega) (by omega) (by omega) (by omega) (by omega)
      obtain ⟨q2, m2, l2⟩ := add_le (g := 1039) l1 (show Le 1022 4602678819172646912 by unfold Le; decide) (by omega) (by omega) (by omega) (by omega) (by omega)
      obtain ⟨n, hi⟩ := flo_int l2 (by omega) (by omega)
      have d1 := op64 m1
      have d2 := op64 m2
      have c4 := run_floor l2 (by omega) (by omega)
      have c5 : ∀ w, (convert 22 2 (.float .f64 (flo q2))).run Try.prog w = .ok (.int .i64 n) w := fun w => run_convert_float_int w _ _ _ _ _ _ (by kernel_rfl) Try.underlying2 hi
      have HL := Lib.hid hL
      have HY := Lib.hid hY
      have HZ := Lib.hid (And.intro z1 z2)
      have HU := Lib.hid (And.intro hu1 hu2)
      generalize upr a0 = Y at *
      generalize flo q2 = F at *
      clear hn hp hlo hL hY hu1 hu2 hu hfin hi m1 m2 l1 l2
      go_enter Try.func4, Try.ntmps4
      go_wp2_with (first | (go_at_call 38; refine (l01Finite_fin _ HF.out _).mono ?_; rintro e w' ⟨rfl, n, rfl⟩) | (go_at_call 40; refine (isFinite_fin _ HF.out _).mono ?_; rintro e w' ⟨rfl, n, rfl⟩) | (go_at_call 60; refine (specLog HL.out HZ.out.1 HZ.out.2 HY.out (by have := HU.out; omega) (by have := HU.out; omega) _).mono ?_; rintro e w' ⟨rfl, rfl⟩) | (go_at_call 41; refine (implLog HL.out HZ.out.1 HZ.out.2 HY.out HU.out.1 HU.out.2 _).mono ?_; rintro e w' ⟨rfl, rfl⟩) | go_in)
      go_ret
      exact ⟨rfl, below_drewn _ _⟩
    · have t0 : (FloatKind.f32.format.order a0 0 == some .lt || FloatKind.f32.format.order a0 0 == some .eq) = true := by rw [le32 hn (by omega)]; simp; omega
      clear hn hp hfin
      go_enter Try.func4, Try.ntmps4
      go_wp2_with (first | (go_at_call 38; refine (l01Finite_fin _ HF.out _).mono ?_; rintro e w' ⟨rfl, n, rfl⟩) | (go_at_call 40; refine (isFinite_fin _ HF.out _).mono ?_; rintro e w' ⟨rfl, n, rfl⟩) | go_in)
      go_ret
      exact ⟨rfl, below_drewn _ _⟩
  · have HF := Lib.hid hfin
    clear hfin
    go_enter Try.func4, Try.ntmps4
    go_wp2_with (first | (go_at_call 38; refine (l01Finite_not _ HF.out _).mono ?_; rintro e w' ⟨rfl, n, rfl⟩) | (go_at_call 40; refine (isFinite_not _ HF.out _).mono ?_; rintro e w' ⟨rfl, n, rfl⟩) | go_in)
    go_ret
    exact ⟨rfl, below_drewn _ _⟩
end Go.Proofs.Ytajjepcegpimjaa
