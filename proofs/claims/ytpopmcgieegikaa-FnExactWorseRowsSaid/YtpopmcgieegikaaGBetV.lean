/-
  Better answers, cell by cell.
-/
import Derived.Test.YtpopmcgieegikaaGPureI
namespace Go.Proofs.Ytpopmcgieegikaa
open Go.RowKit Go.ChangeShapes Go.WideShapes
set_option linter.unusedVariables false

/-- the first best choice -/
def bestHead (f : Nat → Int) (n : Nat) : Nat := (bestL f n).headD 0
theorem most_some (f : Nat → Int) : ∀ n, 1 ≤ n → ∃ m, IsMost f n m
  | 0, h => absurd h (by decide)
  | 1, _ => ⟨f 0, (best_one f).1⟩
  | n + 2, _ => by
    obtain ⟨m, hm⟩ := most_some f (n + 1) (by omega)
    rcases (show m < f (n + 1) ∨ f (n + 1) = m ∨ f (n + 1) < m by omega) with h | h | h
    · exact ⟨_, (best_more hm h).1⟩
    · exact ⟨_, (best_same hm h).1⟩
    · exact ⟨_, (best_less hm h).1⟩
theorem bestHead_cons (f : Nat → Int) {n : Nat} (h : 1 ≤ n) : ∃ t, bestL f n = bestHead f n :: t ∧ bestHead f n < n := by
  obtain ⟨m, hm⟩ := most_some f n h
  obtain ⟨x, t, hx, hlt, _⟩ := best_head hm
  have e : bestL f n = x :: t := by rw [bestL_most hm]; exact hx
  have e2 : bestHead f n = x := by unfold bestHead; rw [e]; rfl
  exact ⟨t, by rw [e2]; exact e, by rw [e2]; exact hlt⟩

/-- one step: the row's player first -/
def nextC (A B : List Int) (R C i k : Nat) : Option (Nat × Nat) :=
  if colAt A C k i < colAt A C k (bestHead (colAt A C k) R) then some (bestHead (colAt A C k) R, k)
  else if rowAt B C i k < rowAt B C i (bestHead (rowAt B C i) C) then some (i, bestHead (rowAt B C i) C) else none

/-- the cells from one on, behind those that were before -/
def trail (A B : List Int) (R C : Nat) : Nat → List Int → Nat → Nat → List Int
  | 0, pre, _, _ => pre
  | n + 1, pre, i, k =>
    if ((i * C + k : Nat) : Int) ∈ pre then pre ++ [((i * C + k : Nat) : Int)] else
    match nextC A B R C i k with
    | none => pre ++ [((i * C + k : Nat) : Int)]
    | some x => trail A B R C n (pre ++ [((i * C + k : Nat) : Int)]) x.1 x.2

section
variable {A B : List Int} {R C n i k : Nat} {pre : List Int}
theorem trail_in (h : ((i * C + k : Nat) : Int) ∈ pre) : trail A B R C (n + 1) pre i k = pre ++ [((i * C + k : Nat) : Int)] := by
  unfold trail; rw [if_pos h]
theorem trail_stop (h : ((i * C + k : Nat) : Int) ∉ pre) (h1 : ¬ colAt A C k i < colAt A C k (bestHead (colAt A C k) R)) (h2 : ¬ rowAt B C i k < rowAt B C i (bestHead (rowAt B C i) C)) :
    trail A B R C (n + 1) pre i k = pre ++ [((i * C + k : Nat) : Int)] := by
  unfold trail; rw [if_neg h]; unfold nextC; rw [if_neg h1, if_neg h2]
theorem trail_row (h : ((i * C + k : Nat) : Int) ∉ pre) (h1 : colAt A C k i < colAt A C k (bestHead (colAt A C k) R)) :
    trail A B R C (n + 1) pre i k = trail A B R C n (pre ++ [((i * C + k : Nat) : Int)]) (bestHead (colAt A C k) R) k := by
  rw [trail, if_neg h]; unfold nextC; rw [if_pos h1]
theorem trail_col (h : ((i * C + k : Nat) : Int) ∉ pre) (h1 : ¬ colAt A C k i < colAt A C k (bestHead (colAt A C k) R)) (h2 : rowAt B C i k < rowAt B C i (bestHead (rowAt B C i) C)) :
    trail A B R C (n + 1) pre i k = trail A B R C n (pre ++ [((i * C + k : Nat) : Int)]) i (bestHead (rowAt B C i) C) := by
  rw [trail, if_neg h]; unfold nextC; rw [if_neg h1, if_pos h2]
theorem trail_length : (trail A B R C n pre i k).length ≤ pre.length + n := by
  induction n generalizing pre i k with
  | zero => exact Nat.le_refl _
  | succ n ih =>
    rw [trail]
    split
    · simp
    · split
      · simp
      · refine Nat.le_trans ih ?_
        simp; omega
end

theorem nodup_short : ∀ (N : Nat) (l : List Int), l.Nodup → (∀ x ∈ l, 0 ≤ x ∧ x < N) → l.length ≤ N
  | 0, l, _, hb => by
    cases l with
    | nil => exact Nat.le_refl _
    | cons x t => have := hb x (by simp); omega
  | N + 1, l, hn, hb => by
    by_cases h : (N : Int) ∈ l
    · have h1 := nodup_short N (l.erase (N : Int)) (hn.erase _) fun x hx => by
        have hx' := (hn.mem_erase_iff).1 hx
        have := hb x hx'.2
        have := hx'.1
        omega
      rw [List.length_erase_of_mem h] at h1
      omega
    · have h1 := nodup_short N l hn fun x hx => by
        have := hb x hx
        have : x ≠ (N : Int) := fun e => h (e ▸ hx)
        omega
      omega

theorem nodup_snoc {l : List Int} {x : Int} (h : l.Nodup) (hx : x ∉ l) : (l ++ [x]).Nodup :=
  List.nodup_append.2 ⟨h, by simp, fun a ha b hb e => by
    simp only [List.mem_singleton] at hb
    exact hx (by rw [← hb, ← e]; exact ha)⟩

/-- the cells that were: each one once, and each one a cell -/
def Trod (N : Nat) (pre : List Int) : Prop := pre.Nodup ∧ ∀ x ∈ pre, 0 ≤ x ∧ x < (N : Int)
theorem Trod.nil {N : Nat} : Trod N [] := ⟨by simp, by simp⟩
theorem Trod.short {N : Nat} {pre : List Int} (h : Trod N pre) : pre.length ≤ N := nodup_short N pre h.1 h.2
theorem Trod.snoc {N c : Nat} {pre : List Int} (h : Trod N pre) (hx : (c : Int) ∉ pre) (hc : c < N) : Trod N (pre ++ [(c : Int)]) :=
  ⟨nodup_snoc h.1 hx, fun x hm => by
    rcases List.mem_append.1 hm with hm | hm
    · exact h.2 x hm
    · simp only [List.mem_singleton] at hm; omega⟩
theorem Trod.big {N : Nat} {pre : List Int} (h : Trod N pre) (hN : N ≤ 36) : ∀ x ∈ pre, Big x := fun x hx => by have := h.2 x hx; unfold Big; omega

def betterV (r c : Int) (A B : List Int) (row col : Int) : List Int × Bool :=
  if okGame r c A B = true then (if okIndex row r = true then (if okIndex col c = true then (trail A B r.toNat c.toNat 37 [] row.toNat col.toNat, true) else ([], false)) else ([], false)) else ([], false)
theorem betterV_len (r c : Int) (A B : List Int) (row col : Int) : (betterV r c A B row col).1.length ≤ 4096 := by
  unfold betterV
  split
  · split
    · split
      · have := trail_length (A := A) (B := B) (R := r.toNat) (C := c.toNat) (n := 37) (pre := []) (i := row.toNat) (k := col.toNat)
        simp only [List.length_nil] at this
        show (trail A B r.toNat c.toNat 37 [] row.toNat col.toNat).length ≤ 4096
        omega
      · simp
    · simp
  · simp
end Go.Proofs.Ytpopmcgieegikaa
