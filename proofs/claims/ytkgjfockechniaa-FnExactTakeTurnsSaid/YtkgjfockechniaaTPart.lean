/-
  The things of an owner, and what they are worth: the mathematics.
-/
import Derived.Test.YtkgjfockechniaaBetw
namespace Go.Proofs.Ytkgjfockechniaa

/-- a thing of the owner j -/
abbrev Thing (j : Int) (O : List Int) := { k : Nat // k < O.length ∧ O.getD k 0 = j }
def asThing (j : Int) (O : List Int) (k : Nat) : Option (Thing j O) := if h : k < O.length ∧ O.getD k 0 = j then some ⟨k, h⟩ else none
/-- the things of j below q, ascending -/
def thingsTo (j : Int) (O : List Int) (q : Nat) : List (Thing j O) := (List.range q).filterMap (asThing j O)
def thingsAll (j : Int) (O : List Int) : List (Thing j O) := thingsTo j O O.length
theorem thingsTo_yes {j : Int} {O : List Int} {k : Nat} (h : k < O.length ∧ O.getD k 0 = j) : thingsTo j O (k + 1) = thingsTo j O k ++ [⟨k, h⟩] := by
  unfold thingsTo
  rw [List.range_succ, List.filterMap_append]
  have : asThing j O k = some ⟨k, h⟩ := by unfold asThing; exact dif_pos h
  simp [this]
theorem thingsTo_no {j : Int} {O : List Int} {k : Nat} (h : ¬ O.getD k 0 = j) : thingsTo j O (k + 1) = thingsTo j O k := by
  unfold thingsTo
  rw [List.range_succ, List.filterMap_append]
  have : asThing j O k = none := by unfold asThing; exact dif_neg (fun g => h g.2)
  simp [this]
theorem thingsTo_pre (j : Int) (O : List Int) (q r : Nat) (hqr : q ≤ r) : ∃ t, thingsTo j O r = thingsTo j O q ++ t := by
  induction r with
  | zero => obtain rfl : q = 0 := by omega
            exact ⟨[], by simp⟩
  | succ r ih =>
    by_cases e : q = r + 1
    · exact ⟨[], by rw [e]; simp⟩
    · obtain ⟨t, ht⟩ := ih (by omega)
      refine ⟨t ++ [r].filterMap (asThing j O), ?_⟩
      rw [← List.append_assoc, ← ht]
      simp [thingsTo, List.range_succ, List.filterMap_append]
theorem mem_thingsAll {j : Int} {O : List Int} (x : Thing j O) : x ∈ thingsAll j O := by
  simp only [thingsAll, thingsTo, List.mem_filterMap, List.mem_range]
  exact ⟨x.1, x.2.1, by unfold asThing; rw [dif_pos x.2]⟩

/-- the sum of f over the things below n -/
def partN (f : Nat → Int) (j : Int) (O : List Int) : Nat → Int
  | 0 => 0
  | n + 1 => partN f j O n + if O.getD n 0 = j then f n else 0
theorem partN_in (f : Nat → Int) (j : Int) (O : List Int) (c : Int) (n : Nat) (h : ∀ k, k < n → 0 ≤ f k ∧ f k ≤ c) : 0 ≤ partN f j O n ∧ partN f j O n ≤ c * n := by
  induction n with
  | zero => simp [partN]
  | succ n ih =>
    have := ih fun k hk => h k (by omega)
    have h2 := h n (by omega)
    unfold partN
    have e : c * ((n + 1 : Nat) : Int) = c * n + c := by rw [Int.natCast_succ, Int.mul_add, Int.mul_one]
    rw [e]
    split <;> omega
/-- the same sum along the list of things -/
def sumT (f : Nat → Int) {j : Int} {O : List Int} (l : List (Thing j O)) : Int := (l.map fun x => f x.1).sum
theorem sumT_nil (f : Nat → Int) {j : Int} {O : List Int} : sumT f ([] : List (Thing j O)) = 0 := rfl
theorem sumT_snoc (f : Nat → Int) {j : Int} {O : List Int} (l : List (Thing j O)) (x : Thing j O) : sumT f (l ++ [x]) = sumT f l + f x.1 := by simp [sumT, List.sum_append]
theorem sumT_to (f : Nat → Int) (j : Int) (O : List Int) (q : Nat) (hq : q ≤ O.length) : sumT f (thingsTo j O q) = partN f j O q := by
  induction q with
  | zero => rfl
  | succ q ih =>
    by_cases h : O.getD q 0 = j
    · rw [thingsTo_yes ⟨by omega, h⟩, sumT_snoc, ih (by omega), partN, if_pos h]
    · rw [thingsTo_no h, ih (by omega), partN, if_neg h, Int.add_zero]
/-- a beginning of the things' list -/
theorem sumT_in (f : Nat → Int) {j : Int} {O : List Int} (c : Int) (l : List (Thing j O)) (h : ∀ k, k < O.length → 0 ≤ f k ∧ f k ≤ c) : 0 ≤ sumT f l ∧ sumT f l ≤ c * l.length := by
  induction l with
  | nil => simp [sumT]
  | cons x l ih =>
    have h2 := h x.1 x.2.1
    have e : sumT f (x :: l) = f x.1 + sumT f l := by simp [sumT]
    have e2 : c * ((x :: l).length : Int) = c * l.length + c := by rw [List.length_cons, Int.natCast_succ, Int.mul_add, Int.mul_one]
    rw [e, e2]
    omega
theorem things_len (j : Int) (O : List Int) : (thingsAll j O).length ≤ O.length := by
  unfold thingsAll thingsTo
  exact Nat.le_trans (List.length_filterMap_le _ _) (by simp)

/-- what a thing is worth to a player -/
def wAt (A : List Int) (T i k : Nat) : Int := A.getD (i * T + k) 0
/-- what the part of j is worth to i -/
def partW (A : List Int) (T i : Nat) (j : Int) (O : List Int) : Int := partN (wAt A T i) j O O.length
theorem row_lt {P T i k : Nat} (hi : i < P) (hk : k < T) : i * T + k < P * T := by
  have : (i + 1) * T ≤ P * T := Nat.mul_le_mul_right T hi
  rw [Nat.succ_mul] at this
  omega
theorem wAt_in {A : List Int} {P T i k : Nat} (h : okAll 0 1000 A = true) (hl : A.length = P * T) (hi : i < P) (hk : k < T) : 0 ≤ wAt A T i k ∧ wAt A T i k ≤ 1000 :=
  okAll_at h (by rw [hl]; exact row_lt hi hk)
theorem partW_in {A : List Int} {P T i : Nat} {j : Int} {O : List Int} (h : okAll 0 1000 A = true) (hl : A.length = P * T) (hi : i < P) (hO : O.length ≤ T) (hT : T ≤ 8) : 0 ≤ partW A T i j O ∧ partW A T i j O ≤ 8000 := by
  have := partN_in (wAt A T i) j O 1000 O.length fun k hk => wAt_in h hl hi (by omega)
  unfold partW
  omega
end Go.Proofs.Ytkgjfockechniaa
