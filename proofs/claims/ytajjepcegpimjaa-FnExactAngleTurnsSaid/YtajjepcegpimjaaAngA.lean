/-
  The angle's steps, plainly: all values on the way are bounded.
-/
import Derived.Test.YtajjepcegpimjaaSinA
import Derived.Test.YtajjepcegpimjaaLogB
namespace Go.Proofs.Ytajjepcegpimjaa
open Go.RowKit Fl

theorem run_sqrt_some (x r : Nat) (h : Ieee.double.sqrt x = some r) (w : World) : (callFunc 74 #[.float .f64 x]).run Try.prog w = .ok (.value (.float .f64 r)) w := by
  have e : (callFunc 74 #[.float .f64 x]).run Try.prog w = ((Extern.MathSqrt.sqrt #[.float .f64 x]).run Try.prog w).andThen fun v w' => .ok (.value v) w' := run_callFunc_extern Try.func74 (by kernel_rfl) (by kernel_rfl) (by kernel_rfl) (by kernel_rfl) _ _
  rw [e]
  change (Sem.run Try.prog (match Ieee.double.sqrt x with | some r => pure (Value.float .f64 r) | none => do pure (Value.float .f64 (← choose (.nanBits .f64 x x)))) w).andThen _ = _
  rw [h]
  rfl

def sq (x : Nat) : Nat := (Ieee.double.sqrt x).getD 0
def s1 (t : Nat) : Nat := gv .add 4607182418800017408 (gv .mul t t)
def s2 (t : Nat) : Nat := gv .add 4607182418800017408 (sq (s1 t))
def tq (t0 : Nat) : Nat → Nat
  | 0 => t0
  | i + 1 => gv .quo (tq t0 i) (s2 (tq t0 i))
/-- 1 / k for k = 15, 13, .. -/
def kh (i : Nat) : Nat := floatOfInt .f64 (15 - 2 * (i : Int))
def ah (i : Nat) : Nat := gv .quo 4607182418800017408 (kh i)
def aq (u : Nat) : Nat → Nat
  | 0 => 0
  | i + 1 => gv .sub (ah i) (gv .mul u (aq u i))

theorem ah_ok : ∀ i, i < 8 → floatBits .quo .f64 4607182418800017408 (kh i) = some (ah i) := by decide +kernel
theorem ah_le : ∀ i, i < 8 → rung Ieee.double (ah i) ≤ 1023 * 4503599627370496 := by decide +kernel
theorem kh_step : ∀ i, i < 8 → floatBits .sub .f64 (kh i) 4611686018427387904 = some (kh (i + 1)) := by decide +kernel
theorem kh_ge : ∀ i, i < 8 → (FloatKind.f64.format.order (kh i) 4607182418800017408 == some .gt || FloatKind.f64.format.order (kh i) 4607182418800017408 == some .eq) = true := by decide +kernel
theorem kh_end : (FloatKind.f64.format.order (kh 8) 4607182418800017408 == some .gt || FloatKind.f64.format.order (kh 8) 4607182418800017408 == some .eq) = false := by decide +kernel
theorem kh_down : ∀ i, i < 8 → kOf (.float .f64 (kh (i + 1))) < kOf (.float .f64 (kh i)) := by decide +kernel

theorem tq_ok {t0 : Nat} (ht : Le 1023 t0) (hs : sgn Ieee.double t0 = false) : ∀ i, i ≤ 3 → (Le 1023 (tq t0 i) ∧ sgn Ieee.double (tq t0 i) = false) ∧ (i < 3 → floatBits .mul .f64 (tq t0 i) (tq t0 i) = some (gv .mul (tq t0 i) (tq t0 i)) ∧ floatBits .add .f64 4607182418800017408 (gv .mul (tq t0 i) (tq t0 i)) = some (s1 (tq t0 i)) ∧ Ieee.double.sqrt (s1 (tq t0 i)) = some (sq (s1 (tq t0 i))) ∧ floatBits .add .f64 4607182418800017408 (sq (s1 (tq t0 i))) = some (s2 (tq t0 i)) ∧ floatBits .quo .f64 (tq t0 i) (s2 (tq t0 i)) = some (tq t0 (i + 1))) := by
  have l1 : Le 1023 4607182418800017408 := by unfold Le; decide
  have g1 : Ge 1023 4607182418800017408 := by unfold Ge; decide
  have n1 : sgn Ieee.double 4607182418800017408 = false := by decide
  have step : ∀ t : Nat, Le 1023 t → sgn Ieee.double t = false → (floatBits .mul .f64 t t = some (gv .mul t t) ∧ floatBits .add .f64 4607182418800017408 (gv .mul t t) = some (s1 t) ∧ Ieee.double.sqrt (s1 t) = some (sq (s1 t)) ∧ floatBits .add .f64 4607182418800017408 (sq (s1 t)) = some (s2 t) ∧ floatBits .quo .f64 t (s2 t) = some (gv .quo t (s2 t))) ∧ Le 1023 (gv .quo t (s2 t)) ∧ sgn Ieee.double (gv .quo t (s2 t)) = false := by
    intro t lt st
    obtain ⟨m, h1, h2, h3⟩ := mul_le (g := 1023) lt lt (by omega) (by omega) (by omega) (by omega) (by omega) (by omega) (by omega)
    have e1 : gv .mul t t = m := by unfold gv; rw [h1]; rfl
    have sm : sgn Ieee.double m = false := by rw [h3, st]; rfl
    obtain ⟨a, h4, h5, _, h7⟩ := add_ge (g := 1024) l1 h2 g1 n1 sm (by omega) (by omega) (by omega) (by omega) (by omega) (by omega) (by omega)
    have e2 : s1 t = a := by unfold s1; rw [e1]; unfold gv; rw [h4]; rfl
    obtain ⟨q, h8, h9, h10⟩ := sqrt_le (g := 1025) h5 h7 (by omega) (by omega) (by omega) (by omega) (by omega)
    have e3 : sq a = q := by unfold sq; rw [h8]; rfl
    obtain ⟨b, h11, h12, h13, h14⟩ := add_ge (g := 1026) l1 h9 g1 n1 h10 (by omega) (by omega) (by omega) (by omega) (by omega) (by omega) (by omega)
    have e4 : s2 t = b := by unfold s2; rw [e2, e3]; unfold gv; rw [h11]; rfl
    obtain ⟨r, h15, h16, h17⟩ := div_le (g := 1023) lt h12 h13 (by omega) (by omega) (by omega) (by omega) (by omega) (by omega) (by omega) (by omega)
    have e5 : gv .quo t b = r := by unfold gv; rw [h15]; rfl
    rw [e4, e2, e3, e1, e5]
    exact ⟨⟨h1, h4, h8, h11, h15⟩, h16, by rw [h17, st, h14]; rfl⟩
  intro i
  induction i with
  | zero => intro _; exact ⟨⟨ht, hs⟩, fun _ => (step t0 ht hs).1⟩
  | succ i ih =>
    intro hi
    have h := ih (by omega)
    have h1 := (step _ h.1.1 h.1.2).2
    exact ⟨h1, fun _ => (step _ h1.1 h1.2).1⟩

theorem aq_ok {u : Nat} (hu : Le 1023 u) : ∀ i, i ≤ 8 → Le (1023 + i) (aq u i) ∧ (i < 8 → floatBits .mul .f64 u (aq u i) = some (gv .mul u (aq u i)) ∧ floatBits .sub .f64 (ah i) (gv .mul u (aq u i)) = some (aq u (i + 1))) := by
  have step : ∀ i, i < 8 → Le (1023 + i) (aq u i) → (floatBits .mul .f64 u (aq u i) = some (gv .mul u (aq u i)) ∧ floatBits .sub .f64 (ah i) (gv .mul u (aq u i)) = some (aq u (i + 1))) ∧ Le (1023 + (i + 1)) (aq u (i + 1)) := by
    intro i hi hq
    obtain ⟨r, h1, h2, _⟩ := mul_le (g := 1023 + i) hu hq (by omega) (by omega) (by omega) (by omega) (by omega) (by omega) (by omega)
    have e1 : gv .mul u (aq u i) = r := by unfold gv; rw [h1]; rfl
    obtain ⟨r', h3, h4⟩ := sub_le (g := 1023 + (i + 1)) (show Le 1023 (ah i) from ah_le i hi) h2 (by omega) (by omega) (by omega) (by omega) (by omega)
    have e2 : aq u (i + 1) = r' := by show gv .sub (ah i) (gv .mul u (aq u i)) = r'; rw [e1]; unfold gv; rw [h3]; rfl
    rw [e1, e2]
    exact ⟨⟨h1, h3⟩, h4⟩
  intro i
  induction i with
  | zero =>
    intro _
    have h0 : Le (1023 + 0) (aq u 0) := by show rung Ieee.double 0 ≤ _; decide
    exact ⟨h0, fun h => (step 0 h h0).1⟩
  | succ i ih =>
    intro hi
    have h1 := (step i (by omega) (ih (by omega)).1).2
    exact ⟨h1, fun h => (step (i + 1) h h1).1⟩

/-- the values on the way of the angle of a tangent t0 -/
structure FlatAt (t0 u q1 q2 r : Nat) : Prop where
  ht : ∀ i, i < 3 → floatBits .mul .f64 (tq t0 i) (tq t0 i) = some (gv .mul (tq t0 i) (tq t0 i)) ∧ floatBits .add .f64 4607182418800017408 (gv .mul (tq t0 i) (tq t0 i)) = some (s1 (tq t0 i)) ∧ Ieee.double.sqrt (s1 (tq t0 i)) = some (sq (s1 (tq t0 i))) ∧ floatBits .add .f64 4607182418800017408 (sq (s1 (tq t0 i))) = some (s2 (tq t0 i)) ∧ floatBits .quo .f64 (tq t0 i) (s2 (tq t0 i)) = some (tq t0 (i + 1))
  hu : floatBits .mul .f64 (tq t0 3) (tq t0 3) = some u
  ha : ∀ i, i < 8 → floatBits .mul .f64 u (aq u i) = some (gv .mul u (aq u i)) ∧ floatBits .sub .f64 (ah i) (gv .mul u (aq u i)) = some (aq u (i + 1))
  h1 : floatBits .mul .f64 (tq t0 3) (aq u 8) = some q1
  h2 : floatBits .mul .f64 4620693217682128896 q1 = some q2
  hr : floatBits .quo .f64 q2 4618760256179416344 = some r
  hle : Le 1032 r

theorem flat_at {t0 : Nat} (ht : Le 1023 t0) (hs : sgn Ieee.double t0 = false) : ∃ u q1 q2 r, FlatAt t0 u q1 q2 r := by
  have hT := tq_ok ht hs
  have l3 := (hT 3 (by omega)).1.1
  obtain ⟨u, hu, lu, _⟩ := mul_le (g := 1023) l3 l3 (by omega) (by omega) (by omega) (by omega) (by omega) (by omega) (by omega)
  have hA := aq_ok lu
  obtain ⟨q1, h1, lq1, _⟩ := mul_le (g := 1031) l3 (hA 8 (by omega)).1 (by omega) (by omega) (by omega) (by omega) (by omega) (by omega) (by omega)
  obtain ⟨q2, h2, lq2, _⟩ := mul_le (g := 1034) (show Le 1026 4620693217682128896 by unfold Le; decide) lq1 (by omega) (by omega) (by omega) (by omega) (by omega) (by omega) (by omega)
  obtain ⟨r, h3, lr, _⟩ := div_le (g := 1032) lq2 (show Le 1026 4618760256179416344 by unfold Le; decide) (show Ge 1025 4618760256179416344 by unfold Ge; decide) (by omega) (by omega) (by omega) (by omega) (by omega) (by omega) (by omega) (by omega)
  exact ⟨u, q1, q2, r, fun i hi => (hT i (by omega)).2 hi, hu, fun i hi => (hA i (by omega)).2 hi, h1, h2, h3, lr⟩

/-- all of the angle of a point -/
structure AngAt (a b : Nat) (over xn yn : Bool) (t0 u q1 q2 r g1 g2 : Nat) : Prop where
  ho : (FloatKind.f64.format.order a b == some .gt) = over
  h0 : over = true → floatBits .quo .f64 b a = some t0
  h0' : over = false → floatBits .quo .f64 a b = some t0
  hf : FlatAt t0 u q1 q2 r
  h1 : over = true → floatBits .sub .f64 4598175219545276416 r = some g1
  h1' : over = false → g1 = r
  h2 : xn = true → floatBits .sub .f64 4602678819172646912 g1 = some g2
  h2' : xn = false → g2 = g1
  hle : Le 1034 g2
  hyn : yn = yn

theorem ang_at {a b : Nat} (xn yn : Bool) (ha : a ≤ 5183643170566569984) (hb : b ≤ 5183643170566569984) (h0 : 0 < a ∨ 0 < b) : ∃ over t0 u q1 q2 r g1 g2, AngAt a b over xn yn t0 u q1 q2 r g1 g2 := by
  have ra := (key_pos (x := a) (by omega)).2
  have rb := (key_pos (x := b) (by omega)).2
  have sa : sgn Ieee.double a = false := by unfold sgn; rw [sw64, Nat.div_eq_of_lt (by omega)]; rfl
  have sb : sgn Ieee.double b = false := by unfold sgn; rw [sw64, Nat.div_eq_of_lt (by omega)]; rfl
  have ho := pos_gt (x := a) (c := b) (by omega) (by omega)
  have fin : ∀ g1 : Nat, Le 1033 g1 → ∃ g2, (xn = true → floatBits .sub .f64 4602678819172646912 g1 = some g2) ∧ (xn = false → g2 = g1) ∧ Le 1034 g2 := by
    intro g1 l
    cases xn
    · exact ⟨g1, (fun h => by cases h), (fun _ => rfl), l.mono (by omega)⟩
    · obtain ⟨g2, h1, h2⟩ := sub_le (g := 1034) (show Le 1023 4602678819172646912 by unfold Le; decide) l (by omega) (by omega) (by omega) (by omega) (by omega)
      exact ⟨g2, (fun _ => h1), (fun h => by cases h), h2⟩
  by_cases h : b < a
  · obtain ⟨t0, e1, e2, e3⟩ := div_le_one (f := 1151) (x := b) (y := a) (by rw [ra, rb]; omega) (by unfold Le; rw [ra]; omega) (by rw [ra]; omega) (by omega) (by omega)
    obtain ⟨u, q1, q2, r, hf⟩ := flat_at e2 (by rw [e3, sa, sb]; rfl)
    obtain ⟨g1, e4, e5⟩ := sub_le (g := 1033) (show Le 1023 4598175219545276416 by unfold Le; decide) hf.hle (by omega) (by omega) (by omega) (by omega) (by omega)
    obtain ⟨g2, e6, e7, e8⟩ := fin g1 e5
    exact ⟨true, t0, u, q1, q2, r, g1, g2, by rw [ho]; simpa using h, (fun _ => e1), (fun h => by cases h), hf, (fun _ => e4), (fun h => by cases h), e6, e7, e8, rfl⟩
  · obtain ⟨t0, e1, e2, e3⟩ := div_le_one (f := 1151) (x := a) (y := b) (by rw [ra, rb]; omega) (by unfold Le; rw [rb]; omega) (by rw [rb]; omega) (by omega) (by omega)
    obtain ⟨u, q1, q2, r, hf⟩ := flat_at e2 (by rw [e3, sa, sb]; rfl)
    obtain ⟨g2, e6, e7, e8⟩ := fin r (hf.hle.mono (by omega))
    exact ⟨false, t0, u, q1, q2, r, r, g2, by rw [ho]; simpa using h, (fun h => by cases h), (fun _ => e1), hf, (fun h => by cases h), (fun _ => rfl), e6, e7, e8, rfl⟩
end Go.Proofs.Ytajjepcegpimjaa
