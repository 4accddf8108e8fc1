/-
  Sets as numbers below 64: unions, intersections, all pairs of sets.
-/
import Derived.Test.YtnlknofcdapalaaPairsNo
import Derived.Laws.BitsLemmas
namespace Go.Proofs.Ytnlknofcdapalaa
open Go.RowKit
set_option linter.unusedVariables false

theorem wrap_small (n : Int) (h0 : 0 ≤ n) (h1 : n < 2 ^ 6) : IntKind.i64.wrap n = n := by rw [IntKind.wrap_i64]; omega
theorem bits_or6 {a b : Nat} (ha : a < 64) (hb : b < 64) : bits .or .i64 (a : Int) (b : Int) = ((a ||| b : Nat) : Int) := (bits_nat .i64 6 (by decide) wrap_small a b ha hb).2
theorem bits_and6 {a b : Nat} (ha : a < 64) (hb : b < 64) : bits .and .i64 (a : Int) (b : Int) = ((a &&& b : Nat) : Int) := (bits_nat .i64 6 (by decide) wrap_small a b ha hb).1

theorem or_lt {P s t : Nat} (hs : s < 2 ^ P) (ht : t < 2 ^ P) : s ||| t < 2 ^ P := Nat.or_lt_two_pow hs ht
theorem and_lt {P s t : Nat} (ht : t < 2 ^ P) : s &&& t < 2 ^ P := Nat.and_lt_two_pow _ ht
theorem part_lt {P : Nat} (x : Part (wholeN P)) : x.1 < 2 ^ P := by
  have := x.le
  have h : 0 < (2 : Nat) ^ P := Nat.pow_pos (by decide)
  unfold wholeN at this
  omega
theorem part_of {P s : Nat} (h : s < 2 ^ P) : s &&& wholeN P = s := by
  unfold wholeN
  rw [Nat.and_two_pow_sub_one_eq_mod, Nat.mod_eq_of_lt h]
theorem allPairs_iff {P : Nat} {f : Nat → Nat → Bool} : allPairs (wholeN P) f = true ↔ ∀ s, s < 2 ^ P → ∀ t, t < 2 ^ P → f s t = true := by
  unfold allPairs
  simp only [List.all_eq_true]
  constructor
  · intro h s hs t ht
    exact h ⟨s, part_of hs⟩ (mem_partsAll _) ⟨t, part_of ht⟩ (mem_partsAll _)
  · intro h x _ y _
    exact h x.1 (part_lt x) y.1 (part_lt y)

def pairsV (F : List Int → Nat → Nat → Bool) (p : Int) (A : List Int) : Bool × Bool := if okW p A = true then (allPairs (wholeN p.toNat) (F A), true) else (false, false)
theorem pairsV_no {F : List Int → Nat → Nat → Bool} {p : Int} {A : List Int} (h : okW p A = false) : pairsV F p A = (false, false) := by unfold pairsV; rw [h]; rfl
theorem pairsV_yes {F : List Int → Nat → Nat → Bool} {P : Nat} {A : List Int} (h : okW (P : Nat) A = true) : pairsV F (P : Nat) A = (allPairs (wholeN P) (F A), true) := by unfold pairsV; rw [h]; rfl
theorem pow_le64 {P : Nat} (h : P ≤ 6) : 2 ^ P ≤ 64 := Nat.pow_le_pow_right (n := 2) (by decide) h
theorem pow_ge2 {P : Nat} (h : 1 ≤ P) : 2 ≤ 2 ^ P := by have := Nat.pow_le_pow_right (n := 2) (by decide) h; omega

theorem w_at {w : World} {a1 : Option Addr} {l1 : Nat} {A : List Int} (h : IAt w a1 l1 A) (h0 : 0 < l1) : ∃ b off, a1 = some ⟨b, off, none⟩ ∧ b < w.heap.size ∧ ∀ i, i < l1 → w.cell? ⟨b, off + i, none⟩ = some (.int .i64 (A.getD i 0)) := by
  rcases h.2.2.2 with e | ⟨b, off, e⟩
  · omega
  · exact ⟨b, off, e⟩
end Go.Proofs.Ytnlknofcdapalaa
