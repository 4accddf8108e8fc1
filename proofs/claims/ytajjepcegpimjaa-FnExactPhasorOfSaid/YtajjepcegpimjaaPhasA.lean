/-
  The phasor's steps, plainly: quarters taken away, the two sines, and their opposites.
-/
import Derived.Test.YtajjepcegpimjaaMono
import Derived.Test.YtajjepcegpimjaaSinD
namespace Go.Proofs.Ytajjepcegpimjaa
open Go.RowKit Fl

theorem sgn64_of {x : Nat} (hx : x < 18446744073709551616) : sgn Ieee.double x = decide (9223372036854775808 ≤ x) := by
  unfold sgn
  rw [sw64, Bool.eq_iff_iff]
  simp
  omega

def fq (f0 : Nat) : Nat → Nat
  | 0 => f0
  | i + 1 => gv .sub (fq f0 i) 4598175219545276416
/-- at least a quarter -/
def qge (f : Nat) : Bool := FloatKind.f64.format.order f 4598175219545276416 == some .gt || FloatKind.f64.format.order f 4598175219545276416 == some .eq

theorem qge_word {f : Nat} (hl : Le 1023 f) (hb : f < 18446744073709551616) (h : qge f = true) : 4598175219545276416 ≤ f ∧ f ≤ 4607182418800017408 := by
  unfold qge at h
  rw [ge_key .f64 (hl.num (by omega)) (pos_num (by omega)), (key_pos (x := 4598175219545276416) (by omega)).1] at h
  have h : (4598175219545276416 : Int) ≤ key .f64 f := by simpa using h
  have hr : rung Ieee.double f ≤ 4607182418800017408 := by have := hl; unfold Le at this; omega
  unfold key at h
  rw [show rung FloatKind.f64.format f = rung Ieee.double f from rfl, show sgn FloatKind.f64.format f = sgn Ieee.double f from rfl, sgn64_of hb] at h
  have hrr : rung Ieee.double f = f % 9223372036854775808 := by unfold rung; rw [sw64]
  by_cases hc : 9223372036854775808 ≤ f
  · rw [decide_eq_true hc, if_pos rfl] at h; omega
  · rw [decide_eq_false hc, if_neg (by simp)] at h; omega

/-- the quarters come to an end -/
theorem quarters : ∀ (k f : Nat), f ≤ k → Le 1023 f → f < 18446744073709551616 →
    ∃ N, N ≤ f ∧ (∀ i, i < N → qge (fq f i) = true ∧ floatBits .sub .f64 (fq f i) 4598175219545276416 = some (fq f (i + 1))) ∧ qge (fq f N) = false ∧ Le 1023 (fq f N) := by
  intro k
  induction k with
  | zero =>
    intro f hf hl hb
    refine ⟨0, Nat.zero_le _, fun i h => absurd h (by omega), ?_, hl⟩
    obtain rfl : f = 0 := by omega
    decide
  | succ k ih =>
    intro f hf hl hb
    cases h : qge f
    · exact ⟨0, Nat.zero_le _, fun i h => absurd h (by omega), h, hl⟩
    · obtain ⟨h1, h2⟩ := qge_word hl hb h
      obtain ⟨g, h3, h4⟩ := quarter h1 h2
      have hg : Le 1023 g := by
        unfold Le
        have : rung Ieee.double g ≤ g := Nat.mod_le _ _
        omega
      obtain ⟨N, n1, n2, n3, n4⟩ := ih g (by omega) hg (by omega)
      have e1 : fq f 1 = g := by show gv .sub f _ = g; unfold gv; rw [h3]; rfl
      have e2 : ∀ i, fq g i = fq f (i + 1) := by
        intro i
        induction i with
        | zero => exact e1.symm
        | succ i ih2 => show gv .sub (fq g i) _ = gv .sub (fq f (i + 1)) _; rw [ih2]
      refine ⟨N + 1, by omega, fun i hi => ?_, by rw [← e2]; exact n3, by rw [← e2]; exact n4⟩
      rcases Nat.eq_zero_or_pos i with rfl | hp
      · exact ⟨h, by rw [e1]; exact h3⟩
      · obtain ⟨j, rfl⟩ : ∃ j, i = j + 1 := ⟨i - 1, by omega⟩
        have := n2 j (by omega)
        rw [e2, e2] at this
        exact this

/-- all of a phasor: c and s, and what is left of 0 less them -/
structure PhasAt (f0 N f h c s mc ms : Nat) : Prop where
  hN : N < 9000000000000000000
  hq : ∀ i, i < N → qge (fq f0 i) = true ∧ floatBits .sub .f64 (fq f0 i) 4598175219545276416 = some (fq f0 (i + 1))
  he : qge (fq f0 N) = false
  hf : f = fq f0 N
  hh : floatBits .sub .f64 4598175219545276416 f = some h
  hfw : rung Ieee.double f < 1075 * 4503599627370496
  hhw : rung Ieee.double h < 1075 * 4503599627370496
  hc : ∃ n d neg p below over f1 f2 z u zp, PartAt h n d neg p ∧ SinAt p below over f1 f2 z u zp ∧ c = sr below zp
  hs : ∃ n d neg p below over f1 f2 z u zp, PartAt f n d neg p ∧ SinAt p below over f1 f2 z u zp ∧ s = sr below zp
  hmc : floatBits .sub .f64 0 c = some mc
  hms : floatBits .sub .f64 0 s = some ms
  lc : Le 1100 c
  ls : Le 1100 s
  lmc : Le 1101 mc
  lms : Le 1101 ms

theorem phas_at {f0 : Nat} (hl : Le 1023 f0) (hb : f0 < 18446744073709551616) : ∃ N f h c s mc ms, PhasAt f0 N f h c s mc ms := by
  obtain ⟨N, n1, n2, n3, n4⟩ := quarters f0 f0 (Nat.le_refl _) hl hb
  have hN : N < 9000000000000000000 := by
    rcases Nat.eq_zero_or_pos N with rfl | hp
    · omega
    · have := qge_word hl hb (n2 0 hp).1
      omega
  obtain ⟨h, h1, h2⟩ := sub_le (g := 1024) (show Le 1023 4598175219545276416 by unfold Le; decide) n4 (by omega) (by omega) (by omega) (by omega) (by omega)
  have sine : ∀ x, Le 1024 x → ∃ v, (∃ n d neg p below over f1 f2 z u zp, PartAt x n d neg p ∧ SinAt p below over f1 f2 z u zp ∧ v = sr below zp) ∧ Le 1100 v := by
    intro x hx
    obtain ⟨n, d, neg, p, hP⟩ := part_at (hx.mono (by omega))
    obtain ⟨below, over, f1, f2, z, u, zp, hS⟩ := sin_at hP.hle
    exact ⟨_, ⟨n, d, neg, p, below, over, f1, f2, z, u, zp, hP, hS, rfl⟩, sr_le hS.hle⟩
  obtain ⟨c, hc, lc⟩ := sine h h2
  obtain ⟨s, hs, ls⟩ := sine (fq f0 N) (n4.mono (by omega))
  have l0 : Le 1023 0 := by unfold Le; decide
  obtain ⟨mc, m1, m2⟩ := sub_le (g := 1101) l0 lc (by omega) (by omega) (by omega) (by omega) (by omega)
  obtain ⟨ms, m3, m4⟩ := sub_le (g := 1101) l0 ls (by omega) (by omega) (by omega) (by omega) (by omega)
  exact ⟨N, _, h, c, s, mc, ms, hN, n2, n3, rfl, h1, by unfold Le at n4; omega, by unfold Le at h2; omega, hc, hs, m1, m3, lc, ls, m2, m4⟩

theorem down_num {e x : Nat} (h : Le e x) (e1 : 1 ≤ e) (e2 : e ≤ 1148) : Num .f32 (down x) := by
  have := (down_fin h e1 e2).1
  rw [inf32] at this
  exact num32.2 (by omega)

section
variable {P : Program} (w : World)
theorem up_bits {x : Nat} (hx : Num .f32 x) : floatToFloatBits .f32 x .f64 = some (up x) := by
  unfold floatToFloatBits
  rw [if_neg (by decide)]
  have h := hx
  unfold Num at h
  rcases Nat.lt_or_eq_of_le h with h | h
  · obtain ⟨m, a, e1, _⟩ := read_fin Ieee.single (w := x) h
    have e2 : FloatKind.f32.decode x = .number (sgn Ieee.single x) m (Ieee.single.leastPlace + a) := e1
    rw [e2]
    have e3 : FloatKind.f64.encode (.number (sgn Ieee.single x) m (Ieee.single.leastPlace + a)) = up x := by unfold up; rw [e1]; rfl
    simp only [e3]
    have e4 : (FloatKind.f64.decode (up x)).isInfinity = false := by
      have hr := up_rung hx
      have hlt : rung Ieee.double (up x) < Ieee.double.infRung := by
        rw [hr.1, inf64]
        have := (upr_fin (num32.1 hx)).2 (by have : rung Ieee.single x < Ieee.single.infRung := h; rwa [inf32] at this)
        omega
      obtain ⟨m', a', e5, _⟩ := read_fin Ieee.double hlt
      show (Ieee.double.read (up x)).isInfinity = false
      rw [e5]; rfl
    rw [e4]; rfl
  · have e1 := read_inf .f32 (w := x) h
    have e2 : FloatKind.f32.decode x = .infinity (sgn Ieee.single x) := e1
    rw [e2]
    have e3 : FloatKind.f64.encode (.infinity (sgn Ieee.single x)) = up x := by unfold up; rw [show Ieee.single.read x = _ from e1]; rfl
    simp only [e3]

theorem run_cup {x y : Nat} (src dst : TypeId) (hx : Num .f32 x) (hy : Num .f32 y) (hs : (P.underlying src).isSome = true) (hd : P.underlying dst = some (.complex .f64)) :
    (convert src dst (.complex .f32 x y)).run P w = .ok (.complex .f64 (up x) (up y)) w :=
  run_convert_complex w src dst .f32 .f64 x y _ _ hs hd (by unfold cConvBits; rw [up_bits hx, up_bits hy]; rfl)

theorem run_cup_nan {x y : Nat} (src dst : TypeId) (hx : ¬ Num .f32 x) (hy : ¬ Num .f32 y) (hs : (P.underlying src).isSome = true) (hd : P.underlying dst = some (.complex .f64)) :
    (convert src dst (.complex .f32 x y)).run P w = .ok (.complex .f64 (nanAt (.nanConv .f64 x) w) (nanAt (.nanConv .f64 y) w.drew)) w.drew.drew := by
  obtain ⟨u, hs'⟩ := Option.isSome_iff_exists.1 hs
  have e1 : FloatKind.f32.decode x = .nan _ _ := read_nan .f32 (w := x) (by unfold Num at hx; omega)
  have e2 : FloatKind.f32.decode y = .nan _ _ := read_nan .f32 (w := y) (by unfold Num at hy; omega)
  cases u <;> simp [convert, run_underlying hs', run_underlying hd, Conv.complexToComplex, Conv.floatToFloat, e1, e2, nanAt, Question.forced]
end

theorem sameComplex_num (a b : Nat) (ha : a < 18446744073709551616) (hb : b < 18446744073709551616) (na : Num .f64 a) (nb : Num .f64 b) (w : World) :
    Calls Try.prog 13 #[.complex .f64 a b, .complex .f64 a b] w fun e w' => e = .returned (.bool true) ∧ w = w' := by
  have HA := Lib.hid ha
  have HB := Lib.hid hb
  have NA := Lib.hid na
  have NB := Lib.hid nb
  clear ha hb na nb
  go_enter Try.func13, Try.ntmps13
  go_wp2_with (go_at_call 18; refine (sameFloat_num _ (by first | exact HA.out | exact HB.out) (by first | exact NA.out | exact NB.out) _).mono ?_; rintro e w' ⟨rfl, rfl⟩)
  go_ret
  exact ⟨rfl, rfl⟩

theorem sameComplex_nan (a b c d : Nat) (na : ¬ Num .f64 a) (nb : ¬ Num .f64 b) (nc : ¬ Num .f64 c) (nd : ¬ Num .f64 d) (w : World) :
    Calls Try.prog 13 #[.complex .f64 a b, .complex .f64 c d] w fun e w' => e = .returned (.bool true) ∧ w = w' := by
  have NA := Lib.hid na
  have NB := Lib.hid nb
  have NC := Lib.hid nc
  have ND := Lib.hid nd
  clear na nb nc nd
  go_enter Try.func13, Try.ntmps13
  go_wp2_with (go_at_call 18; refine (sameFloat_nan _ _ (by first | exact NA.out | exact NB.out) (by first | exact NC.out | exact ND.out) _).mono ?_; rintro e w' ⟨rfl, rfl⟩)
  go_ret
  exact ⟨rfl, rfl⟩
end Go.Proofs.Ytajjepcegpimjaa
