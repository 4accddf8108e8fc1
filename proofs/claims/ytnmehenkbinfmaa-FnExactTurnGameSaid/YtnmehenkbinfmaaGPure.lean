/-
  Games in plain lists: valid ones, best choices, lists that are filled cell by cell. No program is spoken of here.
-/
import Derived.Test.YtnmehenkbinfmaaRows
import Derived.WalkKit
namespace Go.Proofs.Ytnmehenkbinfmaa

def okGains (zs : List Int) : Bool := zs.all fun z => decide (-1000 ≤ z) && decide (z ≤ 1000)
def okSide (n : Int) : Bool := decide (1 ≤ n) && decide (n ≤ 6)
def okGame (r c : Int) (A B : List Int) : Bool :=
  okSide r && (okSide c && ((okGains A && decide ((A.length : Int) = r * c)) && (okGains B && decide ((B.length : Int) = r * c))))

theorem okSide_true {n : Int} (h : okSide n = true) : 1 ≤ n ∧ n ≤ 6 := by simpa [okSide] using h
theorem okGains_at {zs : List Int} (h : okGains zs = true) {i : Nat} (hi : i < zs.length) : -1000 ≤ zs.getD i 0 ∧ zs.getD i 0 ≤ 1000 := by
  have := List.all_eq_true.1 h (zs[i]) (List.getElem_mem hi)
  simpa [List.getD, hi] using this
theorem okGains_bad {zs : List Int} {k : Nat} (hk : k < zs.length) (h : zs.getD k 0 < -1000 ∨ 1000 < zs.getD k 0) : okGains zs = false := by
  cases e : okGains zs with
  | false => rfl
  | true => have := okGains_at e hk; omega
theorem okGains_all {zs : List Int} (h : ∀ i, i < zs.length → -1000 ≤ zs.getD i 0 ∧ zs.getD i 0 ≤ 1000) : okGains zs = true := by
  refine List.all_eq_true.2 fun z hz => ?_
  obtain ⟨i, hi, rfl⟩ := List.getElem_of_mem hz
  have := h i hi
  simpa [List.getD, hi] using this
theorem okGame_true {r c : Int} {A B : List Int} (h : okGame r c A B = true) :
    ∃ R C : Nat, r = R ∧ c = C ∧ 1 ≤ R ∧ R ≤ 6 ∧ 1 ≤ C ∧ C ≤ 6 ∧ A.length = R * C ∧ B.length = R * C ∧ okGains A = true ∧ okGains B = true := by
  simp only [okGame, Bool.and_eq_true, decide_eq_true_eq] at h
  obtain ⟨h1, h2, ⟨h3, h4⟩, h5, h6⟩ := h
  have h1 := okSide_true h1
  have h2 := okSide_true h2
  refine ⟨r.toNat, c.toNat, by omega, by omega, by omega, by omega, by omega, by omega, ?_, ?_, h3, h5⟩
  · have e : ((r.toNat * c.toNat : Nat) : Int) = r * c := by rw [Int.natCast_mul, Int.toNat_of_nonneg (by omega), Int.toNat_of_nonneg (by omega)]
    omega
  · have e : ((r.toNat * c.toNat : Nat) : Int) = r * c := by rw [Int.natCast_mul, Int.toNat_of_nonneg (by omega), Int.toNat_of_nonneg (by omega)]
    omega

/-- the first n of a list of numbers told by their index -/
def tab (f : Nat → Int) (n : Nat) : List Int := (List.range n).map f
theorem tab_length (f : Nat → Int) (n : Nat) : (tab f n).length = n := by simp [tab]
theorem tab_zero (f : Nat → Int) : tab f 0 = [] := rfl
theorem tab_succ (f : Nat → Int) (n : Nat) : tab f (n + 1) = tab f n ++ [f n] := by simp [tab, List.range_succ]
theorem tab_getD (f : Nat → Int) {n i : Nat} (h : i < n) : (tab f n).getD i 0 = f i := by simp [tab, List.getD, h]

/-- the numbers below n for which p is told -/
def pickL (p : Nat → Bool) (n : Nat) : List Nat := (List.range n).filter p
theorem pickL_succ (p : Nat → Bool) (n : Nat) : pickL p (n + 1) = pickL p n ++ (if p n then [n] else []) := by
  simp [pickL, List.range_succ, List.filter_append, List.filter_cons]
theorem pickL_length (p : Nat → Bool) (n : Nat) : (pickL p n).length ≤ n := by
  have := List.length_filter_le p (List.range n); simpa [pickL] using this
theorem pickL_lt {p : Nat → Bool} {n i : Nat} (h : i ∈ pickL p n) : i < n ∧ p i = true := by simpa [pickL] using h

/-- best ones among the first n -/
def bestL (f : Nat → Int) (n : Nat) : List Nat := pickL (fun i => (List.range n).all fun j => decide (f j ≤ f i)) n
def IsMost (f : Nat → Int) (n : Nat) (m : Int) : Prop := (∀ j, j < n → f j ≤ m) ∧ ∃ j, j < n ∧ f j = m
theorem bestL_most {f : Nat → Int} {n : Nat} {m : Int} (h : IsMost f n m) : bestL f n = pickL (fun i => decide (f i = m)) n := by
  refine List.filter_congr fun i hi => ?_
  have hi : i < n := by simpa using hi
  obtain ⟨h1, j, hj, h2⟩ := h
  rw [Bool.eq_iff_iff, List.all_eq_true, decide_eq_true_eq]
  constructor
  · intro g
    have a := of_decide_eq_true (g j (by simpa using hj))
    have b := h1 i hi
    omega
  · intro e k hk
    have := h1 k (by simpa using hk)
    exact decide_eq_true (by omega)
theorem pickL_none {p : Nat → Bool} {n : Nat} (h : ∀ i, i < n → p i = false) : pickL p n = [] := by
  refine List.filter_eq_nil_iff.2 fun i hi => ?_
  simp [h i (by simpa using hi)]
/-- one choice more: it gains more, as much, or less -/
theorem best_more {f : Nat → Int} {n : Nat} {m : Int} (h : IsMost f n m) (hg : m < f n) : IsMost f (n + 1) (f n) ∧ pickL (fun i => decide (f i = f n)) (n + 1) = [n] := by
  refine ⟨⟨fun j hj => ?_, n, by omega, rfl⟩, ?_⟩
  · by_cases e : j = n
    · rw [e]; exact Int.le_refl _
    · have := h.1 j (by omega); omega
  · rw [pickL_succ, pickL_none (fun i hi => by have := h.1 i hi; exact decide_eq_false (by omega))]
    simp
theorem best_same {f : Nat → Int} {n : Nat} {m : Int} (h : IsMost f n m) (hg : f n = m) : IsMost f (n + 1) m ∧ pickL (fun i => decide (f i = m)) (n + 1) = pickL (fun i => decide (f i = m)) n ++ [n] := by
  obtain ⟨h1, j, hj, h2⟩ := h
  refine ⟨⟨fun k hk => ?_, j, by omega, h2⟩, ?_⟩
  · by_cases e : k = n
    · rw [e]; omega
    · exact h1 k (by omega)
  · rw [pickL_succ]; simp [hg]
theorem best_less {f : Nat → Int} {n : Nat} {m : Int} (h : IsMost f n m) (hg : f n < m) : IsMost f (n + 1) m ∧ pickL (fun i => decide (f i = m)) (n + 1) = pickL (fun i => decide (f i = m)) n := by
  obtain ⟨h1, j, hj, h2⟩ := h
  refine ⟨⟨fun k hk => ?_, j, by omega, h2⟩, ?_⟩
  · by_cases e : k = n
    · rw [e]; omega
    · exact h1 k (by omega)
  · rw [pickL_succ]
    have : decide (f n = m) = false := decide_eq_false (by omega)
    simp [this]
theorem best_one (f : Nat → Int) : IsMost f 1 (f 0) ∧ pickL (fun i => decide (f i = f 0)) 1 = [0] := by
  refine ⟨⟨fun j hj => ?_, 0, by omega, rfl⟩, ?_⟩
  · obtain rfl : j = 0 := by omega
    exact Int.le_refl _
  · simp [pickL, List.range_succ]
theorem best_head {f : Nat → Int} {n : Nat} {m : Int} (h : IsMost f n m) : ∃ i l, pickL (fun i => decide (f i = m)) n = i :: l ∧ i < n ∧ f i = m := by
  obtain ⟨_, j, hj, h2⟩ := h
  have hm : j ∈ pickL (fun i => decide (f i = m)) n := by simp [pickL, hj, h2]
  match e : pickL (fun i => decide (f i = m)) n with
  | [] => rw [e] at hm; cases hm
  | i :: l =>
    have hi : i ∈ pickL (fun i => decide (f i = m)) n := by rw [e]; simp
    have := pickL_lt hi
    exact ⟨i, l, rfl, this.1, by simpa using this.2⟩
end Go.Proofs.Ytnmehenkbinfmaa
