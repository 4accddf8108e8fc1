/-
  The reference: is a player in a set? Sets and their players, by tables.
-/
import Derived.Test.YtnlknofcdapalaaSets
namespace Go.Proofs.Ytnlknofcdapalaa
open Go.RowKit
set_option linter.unusedVariables false

theorem in_tab : ((List.range 64).all fun s => (List.range 6).all fun p => (bits .and .i64 ((s : Int) / 2 ^ p) 1 == 1) == s.testBit p) = true := by decide +kernel
theorem in_bits {s p : Nat} (hs : s < 64) (hp : p < 6) : (bits .and .i64 ((s : Int) / 2 ^ p) 1 == 1) = s.testBit p := by
  have := List.all_eq_true.1 (List.all_eq_true.1 in_tab s (by simpa using hs)) p (by simpa using hp)
  exact eq_of_beq this
theorem specIn_any (s p : Nat) (hs : s < 64) (hp : p < 6) (w : World) :
    Calls Try.prog 68 #[.int .i64 (s : Nat), .int .i64 (p : Nat)] w fun e w' => e = .returned (.bool (s.testBit p)) ∧ w = w' := by
  have E := Lib.hid (in_bits hs hp)
  go_enter Try.func68, Try.ntmps68
  go_wp2
  go_ret
  exact ⟨by rw [← E.out]; rfl, rfl⟩

theorem add_tab : ((List.range 64).all fun s => (List.range 6).all fun p => s.testBit p || ((s ||| 2 ^ p) == s + 2 ^ p && ((s + 2 ^ p) ||| s) == s + 2 ^ p)) = true := by decide +kernel
theorem add_bit {s p : Nat} (hs : s < 64) (hp : p < 6) (h : s.testBit p = false) : s ||| 2 ^ p = s + 2 ^ p ∧ (s + 2 ^ p) ||| s = s + 2 ^ p := by
  have := List.all_eq_true.1 (List.all_eq_true.1 add_tab s (by simpa using hs)) p (by simpa using hp)
  simpa [h] using this
theorem less_tab : ((List.range 64).all fun s => (List.range 64).all fun t => !((s ||| t) == s) || (s == t) || (List.range 6).any fun p => s.testBit p && (((s - 2 ^ p) ||| t) == s - 2 ^ p) && !((s - 2 ^ p).testBit p) && decide (2 ^ p ≤ s)) = true := by decide +kernel
theorem less_bit {s t : Nat} (hs : s < 64) (ht : t < 64) (h : s ||| t = s) : s = t ∨ ∃ p, p < 6 ∧ s.testBit p = true ∧ (s - 2 ^ p) ||| t = s - 2 ^ p ∧ (s - 2 ^ p).testBit p = false ∧ 2 ^ p ≤ s := by
  have := List.all_eq_true.1 (List.all_eq_true.1 less_tab s (by simpa using hs)) t (by simpa using ht)
  simp only [h, beq_self_eq_true, Bool.not_true, Bool.false_or, Bool.or_eq_true, beq_iff_eq, List.any_eq_true, List.mem_range, Bool.and_eq_true, Bool.not_eq_true', decide_eq_true_eq] at this
  rcases this with e | ⟨p, h1, ⟨⟨h2, h3⟩, h4⟩, h5⟩
  · exact .inl e
  · exact .inr ⟨p, h1, h2, h3, h4, h5⟩
theorem pow_pos2 (p : Nat) : 0 < 2 ^ p := Nat.pow_pos (by decide)
theorem pow_lt2 {p P : Nat} (h : p < P) : 2 ^ p < 2 ^ P := Nat.pow_lt_pow_right (by decide) h
theorem lt_of_pow {p P : Nat} (h : 2 ^ p < 2 ^ P) : p < P := by
  by_cases e : p < P
  · exact e
  · exact absurd (Nat.pow_le_pow_right (n := 2) (by decide) (show P ≤ p by omega)) (by omega)
theorem add_lt {s p P : Nat} (hP : P ≤ 6) (hs : s < 2 ^ P) (hp : p < P) (h : s.testBit p = false) : s + 2 ^ p < 2 ^ P := by
  have h64 := pow_le64 hP
  rw [← (add_bit (show s < 64 by omega) (show p < 6 by omega) h).1]
  exact or_lt hs (pow_lt2 hp)
end Go.Proofs.Ytnlknofcdapalaa
