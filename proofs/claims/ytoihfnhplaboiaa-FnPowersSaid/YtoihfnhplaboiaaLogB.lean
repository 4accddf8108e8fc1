/-
  The walks of the logarithm, by the program and by the model.
-/
import Derived.Test.YtoihfnhplaboiaaLogA
namespace Go.Proofs.Ytoihfnhplaboiaa
open Go.RowKit Fl

theorem half_ex {x : Nat} (h1 : 9007199254740992 ≤ x) (h2 : x < 9218868437227405312) : ∃ q, floatBits .quo .f64 x 4611686018427387904 = some q ∧ q + 4503599627370496 ≤ x ∧ x ≤ q + 4503599627370496 :=
  ⟨_, half_eq h1 h2, by omega, by omega⟩
theorem double_ex {x : Nat} (h1 : 4503599627370496 ≤ x) (h2 : x < 9214364837600034816) : ∃ q, floatBits .mul .f64 x 4611686018427387904 = some q ∧ x + 4503599627370496 ≤ q ∧ q ≤ x + 4503599627370496 :=
  ⟨_, double_eq h1 h2, Nat.le_refl _, Nat.le_refl _⟩
def kOf (v : Value) : Nat := if fOf v < 9223372036854775808 then fOf v + 1 else 0
theorem kOf_step : ∀ i, i < 13 → kOf (.float .f64 (kf (i + 1))) < kOf (.float .f64 (kf i)) := by decide +kernel
theorem dn (i : Int) (h1 : -200 < i) (h2 : i ≤ 0) : floatBits .sub .f64 (floatOfInt .f64 i) 4607182418800017408 = some (floatOfInt .f64 (i - 1)) := by
  obtain ⟨n, hn⟩ := Int.eq_ofNat_of_zero_le (show 0 ≤ -i by omega)
  obtain rfl : i = -(n : Int) := by omega
  exact down_one n (by omega)
theorem upo (i : Int) (h1 : 0 ≤ i) (h2 : i < 200) : floatBits .add .f64 (floatOfInt .f64 i) 4607182418800017408 = some (floatOfInt .f64 (i + 1)) := by
  obtain ⟨n, rfl⟩ := Int.eq_ofNat_of_zero_le h1
  exact up_one n (by omega)
theorem zero_of_int : floatOfInt .f64 0 = 0 := by decide

set_option maxHeartbeats 1000000 in
theorem implLog {z Y : Nat} {e : Int} {a b s u p1 p2 ec r : Nat} (h : LogAt z e a b s u p1 p2 ec r) (h1 : 4604930618986332160 ≤ z) (h2 : z < 4609434218613702656)
    (hY : (Y : Int) = z + e * 4503599627370496) (hY1 : 3936146074321813504 ≤ Y) (hY2 : Y ≤ 5183643170566569984) (w : World) :
    Calls Try.prog 38 #[.float .f64 Y] w fun x w' => x = .returned (.float .f64 r) ∧ w = w' := by
  have H := Lib.hid h
  have HY := Lib.hid hY
  clear h hY
  go_enter Try.func38, Try.ntmps38
  go_wp2_with go_in
  go_loop [0, 3] (fun y k => ∃ (z1 : Nat) (j : Int), y = .float .f64 z1 ∧ k = .float .f64 (floatOfInt .f64 j) ∧ (Y : Int) = z1 + j * 4503599627370496 ∧ 3936146074321813504 ≤ z1 ∧ z1 ≤ Y ∧ 0 ≤ j ∧ (j = 0 ∨ 4604930618986332160 ≤ z1)) (fun y _ => fOf y)
  case atStart => exact ⟨Y, 0, rfl, by rw [zero_of_int], by omega, hY1, Nat.le_refl _, Int.le_refl _, .inl rfl⟩
  case round =>
    obtain ⟨z1, j, rfl, rfl, q1, q2, q3, q4, q5⟩ := hrel
    by_cases c : 4609434218613702656 ≤ z1
    · have t : (FloatKind.f64.format.order z1 4609434218613702656 == some .gt || FloatKind.f64.format.order z1 4609434218613702656 == some .eq) = true := by rw [pos_ge (by omega) (by omega)]; simpa using c
      obtain ⟨z3, hz3, he3, he4⟩ := half_ex (x := z1) (by omega) (by omega)
      have d := op64 hz3
      have d' := op64 (upo j q4 (by omega))
      clear hz3
      have Q1 := Lib.hid q1
      clear q1 q5
      go_wp2
      go_round
      case rel => exact ⟨_, _, rfl, rfl, by have := Q1.out; omega, by omega, by omega, by omega, .inr (by omega)⟩
      case measure => simp [fOf]; omega
    · have t : (FloatKind.f64.format.order z1 4609434218613702656 == some .gt || FloatKind.f64.format.order z1 4609434218613702656 == some .eq) = false := by rw [pos_ge (by omega) (by omega)]; simpa using c
      have Q1 := Lib.hid q1
      have Q5 := Lib.hid q5
      clear q1 q5
      go_wp2
      go_loop [0, 3] (fun y k => ∃ (z2 : Nat) (i : Int), y = .float .f64 z2 ∧ k = .float .f64 (floatOfInt .f64 i) ∧ (Y : Int) = z2 + i * 4503599627370496 ∧ 3936146074321813504 ≤ z2 ∧ z2 < 4609434218613702656 ∧ (i ≤ 0 ∨ 4604930618986332160 ≤ z2)) (fun y _ => 4609434218613702656 - fOf y)
      case atStart => exact ⟨z1, j, rfl, rfl, Q1.out, q2, by omega, by have := Q5.out; omega⟩
      case round =>
        clear t Q1 Q5
        obtain ⟨z2, i, rfl, rfl, g1, g2, g3, g4⟩ := hrel
        by_cases c2 : z2 < 4604930618986332160
        · have t : (FloatKind.f64.format.order z2 4604930618986332160 == some .lt) = true := by rw [pos_lt (by omega) (by omega)]; simpa using c2
          obtain ⟨z3, hz3, he3, he4⟩ := double_ex (x := z2) (by omega) (by omega)
          have d := op64 hz3
          have d' := op64 (dn i (by omega) (by omega))
          clear hz3
          have G1 := Lib.hid g1
          have G4 := Lib.hid g4
          clear g1 g4
          go_wp2
          go_round
          case rel => exact ⟨_, _, rfl, rfl, by have := G1.out; omega, by omega, by omega, by have := G4.out; omega⟩
          case measure => simp [fOf]; omega
        · have t : (FloatKind.f64.format.order z2 4604930618986332160 == some .lt) = false := by rw [pos_lt (by omega) (by omega)]; simpa using c2
          have hy := HY.out
          obtain rfl : i = e := by omega
          obtain rfl : z2 = z := by omega
          clear hy g1 g4
          have d1 := op64 H.out.ha
          have d2 := op64 H.out.hb
          have d3 := op64 H.out.hs
          have d4 := op64 H.out.hu
          go_wp2
          go_loop [6, 7] (fun q k => ∃ i : Nat, i ≤ 13 ∧ q = .float .f64 (lq u i) ∧ k = .float .f64 (kf i)) (fun _ k => kOf k)
          case atStart => exact ⟨0, by omega, rfl, by rw [show kf 0 = 4627730092099895296 by decide]⟩
          case round =>
            clear d1 d2 d3 d4 t
            obtain ⟨i, hi, rfl, rfl⟩ := hrel
            by_cases c3 : i < 13
            · have f0 := kf_ge i c3
              have f1 := op64 (kq_ok i c3)
              have f4 := op64 (kf_step i c3)
              obtain ⟨m1, m2⟩ := H.out.hq i c3
              have f2 := op64 m1
              have f3 := op64 m2
              clear m1 m2
              go_wp2
              go_round
              case rel => exact ⟨i + 1, by omega, rfl, rfl⟩
              case measure => exact kOf_step i c3
            · obtain rfl : i = 13 := by omega
              have f0 := kf_end
              have f1 := op64 H.out.hp1
              have f2 := op64 H.out.hp2
              have f3 := op64 H.out.hec
              have f4 := op64 H.out.hr
              go_wp2
              go_ret
              exact ⟨rfl, rfl⟩

/-- z and e for a word of a float32 -/
theorem split_word {Y : Nat} (h1 : 3936146074321813504 ≤ Y) (h2 : Y ≤ 5183643170566569984) : ∃ (z : Nat) (e : Int), 4604930618986332160 ≤ z ∧ z < 4609434218613702656 ∧ (Y : Int) = z + e * 4503599627370496 ∧ -190 ≤ e ∧ e ≤ 190 :=
  ⟨((Y : Int) - ((Y : Int) - 4604930618986332160) / 4503599627370496 * 4503599627370496).toNat, ((Y : Int) - 4604930618986332160) / 4503599627370496, by omega, by omega, by omega, by omega, by omega⟩
end Go.Proofs.Ytoihfnhplaboiaa
