/-
  Turns: each player takes the first one of the things without an owner that are worth most to it. The mathematics.
-/
import Derived.Test.YtkgjfockechniaaTOwn
import Derived.Test.YtkgjfockechniaaTBest
namespace Go.Proofs.Ytkgjfockechniaa
set_option linter.unusedVariables false

/-- the first one of the best things without an owner, below q; -1 if there is none -/
def idxN (f : Nat → Int) (O : List Int) : Nat → Int
  | 0 => -1
  | q + 1 => if O.getD q 0 = -1 ∧ (idxN f O q < 0 ∨ f (idxN f O q).toNat < f q) then (q : Int) else idxN f O q
theorem idxN_in (f : Nat → Int) (O : List Int) (q : Nat) : -1 ≤ idxN f O q ∧ idxN f O q < q ∧ (0 ≤ idxN f O q → O.getD (idxN f O q).toNat 0 = -1) := by
  induction q with
  | zero => simp [idxN]
  | succ q ih =>
    unfold idxN
    split
    · rename_i h
      refine ⟨by omega, by omega, fun _ => ?_⟩
      rw [Int.toNat_natCast]
      exact h.1
    · exact ⟨ih.1, by omega, ih.2.2⟩
theorem idxN_some (f : Nat → Int) (O : List Int) (q j : Nat) (hj : j < q) (h : O.getD j 0 = -1) : 0 ≤ idxN f O q := by
  induction q with
  | zero => omega
  | succ q ih =>
    unfold idxN
    split
    · omega
    · rename_i hn
      by_cases e : j = q
      · subst e
        have : ¬ idxN f O j < 0 := fun h' => hn ⟨h, .inl h'⟩
        omega
      · exact ih (by omega)
theorem idx_best (f : Nat → Int) (O : List Int) (q : Nat) (hq : q ≤ O.length) :
    (bestL (fun x : Thing (-1) O => f x.1) (thingsTo (-1) O q) = none ∧ idxN f O q = -1) ∨ ∃ x : Thing (-1) O, bestL (fun x : Thing (-1) O => f x.1) (thingsTo (-1) O q) = some x ∧ idxN f O q = (x.1 : Nat) := by
  induction q with
  | zero => exact .inl ⟨rfl, rfl⟩
  | succ q ih =>
    have ih := ih (by omega)
    by_cases h : O.getD q 0 = -1
    · rw [thingsTo_yes ⟨by omega, h⟩, bestL_snoc]
      rcases ih with ⟨h1, h2⟩ | ⟨x, h1, h2⟩
      · refine .inr ⟨⟨q, by omega, h⟩, by rw [h1]; rfl, ?_⟩
        unfold idxN
        rw [if_pos ⟨h, .inl (by omega)⟩]
      · rw [h1]
        by_cases hlt : f x.1 < f q
        · refine .inr ⟨⟨q, by omega, h⟩, by simp [bestStep, hlt], ?_⟩
          unfold idxN
          rw [if_pos ⟨h, .inr (by rw [h2, Int.toNat_natCast]; exact hlt)⟩]
        · refine .inr ⟨x, by simp [bestStep, hlt], ?_⟩
          unfold idxN
          rw [if_neg (fun g => by
            rcases g.2 with g | g
            · omega
            · rw [h2, Int.toNat_natCast] at g; exact hlt g)]
          exact h2
    · rw [thingsTo_no h]
      unfold idxN
      rw [if_neg (fun g => h g.1)]
      exact ih

/-- things in turns -/
def bestI (A : List Int) (T i : Nat) (O : List Int) : Int := idxN (wAt A T i) O T
def turnsTo (A : List Int) (T : Nat) (D : List Int) : Nat → List Int
  | 0 => List.replicate T (-1)
  | k + 1 => (turnsTo A T D k).set (bestI A T (D.getD (k % D.length) 0).toNat (turnsTo A T D k)).toNat (D.getD (k % D.length) 0)
structure TurnOk (P T k : Nat) (O : List Int) : Prop where
  len : O.length = T
  mem : ∀ j, j < T → O.getD j 0 = -1 ∨ (0 ≤ O.getD j 0 ∧ O.getD j 0 < P)
  cnt : O.countP (· == -1) = T - k
theorem TurnOk.some {P T k : Nat} {O : List Int} (h : TurnOk P T k O) (hk : k < T) : ∃ j, j < T ∧ O.getD j 0 = -1 := by
  have : 0 < O.countP (· == -1) := by rw [h.cnt]; omega
  obtain ⟨z, hz, hzz⟩ := List.countP_pos_iff.1 this
  obtain ⟨j, hj, rfl⟩ := List.getElem_of_mem hz
  refine ⟨j, by rw [← h.len]; exact hj, ?_⟩
  rw [List.getD_eq_getElem?_getD, List.getElem?_eq_getElem hj]
  simpa using hzz
theorem TurnOk.best {P T k : Nat} {O : List Int} {f : Nat → Int} (h : TurnOk P T k O) (hk : k < T) : ∃ q : Nat, idxN f O T = q ∧ q < T ∧ O.getD q 0 = -1 := by
  obtain ⟨j, hj, e⟩ := h.some hk
  have h0 := idxN_some f O T j hj e
  obtain ⟨h1, h2, h3⟩ := idxN_in f O T
  refine ⟨(idxN f O T).toNat, by omega, by omega, h3 h0⟩
theorem TurnOk.step {P T k : Nat} {O : List Int} {q : Nat} {v : Int} (h : TurnOk P T k O) (hk : k < T) (hq : q < T) (ho : O.getD q 0 = -1) (hv : 0 ≤ v ∧ v < P) : TurnOk P T (k + 1) (O.set q v) := by
  refine ⟨by simp [h.len], fun j hj => ?_, ?_⟩
  · rw [List.getD_eq_getElem?_getD, List.getElem?_set]
    split
    · rw [if_pos (by rw [h.len]; exact hq)]
      exact .inr hv
    · have := h.mem j hj
      rw [List.getD_eq_getElem?_getD] at this
      exact this
  · have hql : q < O.length := by rw [h.len]; exact hq
    rw [List.countP_set hql, h.cnt]
    have hg : O[q] = -1 := by
      rw [List.getD_eq_getElem?_getD, List.getElem?_eq_getElem hql] at ho
      simpa using ho
    have hv' : (v == -1) = false := by rw [beq_eq_false_iff_ne]; omega
    simp [hg, hv']
    omega
theorem TurnOk.zero (P T : Nat) : TurnOk P T 0 (List.replicate T (-1)) := by
  refine ⟨by simp, fun j hj => .inl ?_, ?_⟩
  · simp [List.getD, hj]
  · rw [List.countP_replicate]
    simp
theorem turns_ok {A D : List Int} {P T k : Nat} (hD : okAll 0 ((P : Int) - 1) D = true) (hl : 0 < D.length) (hk : k ≤ T) : TurnOk P T k (turnsTo A T D k) := by
  induction k with
  | zero => exact TurnOk.zero P T
  | succ k ih =>
    have ih := ih (by omega)
    obtain ⟨q, e, hq, ho⟩ := ih.best (f := wAt A T (D.getD (k % D.length) 0).toNat) (by omega)
    have hi := okAll_at hD (i := k % D.length) (Nat.mod_lt _ hl)
    unfold turnsTo bestI
    rw [e, Int.toNat_natCast]
    exact ih.step (by omega) hq ho ⟨hi.1, by omega⟩
def okTurn (p t : Int) (A D : List Int) : Bool := okV p t A && (inB 1 8 (D.length : Int) && okAll 0 (p - 1) D)
def turnV (p t : Int) (A D : List Int) : List Int × Bool := if okTurn p t A D = true then (turnsTo A t.toNat D t.toNat, true) else ([], false)
theorem turnV_no {p t : Int} {A D : List Int} (h : okTurn p t A D = false) : turnV p t A D = ([], false) := by unfold turnV; rw [h]; rfl
theorem turnV_yes {P T : Nat} {A D : List Int} (h : okTurn P T A D = true) : turnV P T A D = (turnsTo A T D T, true) := by unfold turnV; rw [h]; rfl
theorem turnV_len (p t : Int) (A D : List Int) : (turnV p t A D).1.length ≤ 4096 := by
  cases h : okTurn p t A D with
  | false => rw [turnV_no h]; simp
  | true =>
    have h' := h
    simp only [okTurn, Bool.and_eq_true, inB_true] at h'
    obtain ⟨h1, ⟨h2, h3⟩, h4⟩ := h'
    obtain ⟨P, T, rfl, rfl, _, _, _, hT, _, _⟩ := okRows_true h1 (by omega)
    rw [turnV_yes h]
    have := (turns_ok (A := A) (T := T) (k := T) h4 (by omega) (Nat.le_refl _)).len
    show (turnsTo A T D T).length ≤ 4096
    omega
end Go.Proofs.Ytkgjfockechniaa
