/-
  TurnWishes: the program's answer and the reference's.
-/
import Derived.Test.YtklnflmdbgdgjaaWishI
import Derived.Test.YtklnflmdbgdgjaaROwnS
import Derived.Test.YtklnflmdbgdgjaaLawKit
namespace Go.Proofs.Ytklnflmdbgdgjaa
open Go.RowKit Go.ChangeShapes Go.WideShapes
set_option linter.unusedVariables false

theorem OwnW.lens {w : World} {lo hi : Nat} {a1 : Option Addr} {l1 c1 : Nat} {a2 : Option Addr} {l2 c2 : Nat} {A B : List (List Int)} (h : OwnW w lo hi a1 l1 c1 a2 l2 c2 A B) : A.length = l1 ∧ B.length = l2 := by
  obtain ⟨m, _, _, h1, h2⟩ := h
  exact ⟨h1.1, h2.1⟩
/-- Wishes of the call's own, and whether they are told -/
def OutWishes (w : World) (x : List (List Int) × List (List Int) × Bool) (e : Ending) (w' : World) : Prop :=
  ∃ a n c d m f, e = .returned (.tuple #[wishesV a n c d m f, .bool x.2.2]) ∧ OwnW w' w.heap.size w'.heap.size a n c d m f x.1 x.2.1 ∧ Below w.heap.size w w'
def turnW (A B : List (List Int)) : List (List Int) × List (List Int) × Bool := if okWish A B = true then (B, A, true) else ([], [], false)
theorem turnW_no {A B : List (List Int)} (h : okWish A B = false) : turnW A B = ([], [], false) := by unfold turnW; rw [h]; rfl
theorem turnW_yes {A B : List (List Int)} (h : okWish A B = true) : turnW A B = (B, A, true) := by unfold turnW; rw [h]; rfl
theorem ownW_nil (w : World) {lo hi : Nat} (h : lo ≤ hi) (h2 : hi ≤ w.heap.size) : OwnW w lo hi none 0 0 none 0 0 [] [] := ⟨lo, Nat.le_refl _, h, ownR_nil _ (by omega) _ _, ownR_nil _ h2 _ _⟩

theorem pre_bound : ∀ (Zs : List (List Int)) (n c : Nat), (∀ i, i < Zs.length → rl Zs i ≤ c) → pre Zs n ≤ n * c
  | [], n, c, _ => by simp [pre]
  | Z :: Zs, 0, c, _ => by simp [pre]
  | Z :: Zs, n + 1, c, h => by
    have h0 := h 0 (by simp)
    have h1 := pre_bound Zs n c fun i hi => by have := h (i + 1) (by simpa using hi); simpa [rl] using this
    have e : (n + 1) * c = n * c + c := by rw [Nat.add_mul, Nat.one_mul]
    simp only [pre]
    simp [rl] at h0
    omega
theorem okDiff_len {P : Nat} {Z : List Int} (h : okDiff P Z = true) : Z.length ≤ P := by
  have hs := okDiff_true h
  have : ∀ k, k ≤ Z.length → (Z.take k).length ≤ P ∧ k ≤ P := by
    intro k hk
    have hnd : (Z.take k).Nodup := by
      clear h
      induction k with
      | zero => simp
      | succ k ih =>
        have hlt : k < Z.length := by omega
        rw [List.take_succ_eq_append_getElem hlt, List.nodup_append]
        refine ⟨ih (by omega), by simp, ?_⟩
        intro a ha b hb
        simp only [List.mem_singleton] at hb
        subst hb
        intro e
        subst e
        have := okAt_mem (P := P) (O := Z) (k := k) (fun j hj => hs j (by omega)) hlt
        rw [hs k hlt] at this
        have hg : Z.getD k 0 = Z[k] := by simp [List.getD, hlt]
        rw [hg] at this
        simp [ha] at this
    have hsub : (Z.take k).length ≤ ((List.range P).map fun i : Nat => (i : Int)).length := by
      refine List.Nodup.length_le_of_subset hnd ?_
      intro z hz
      obtain ⟨i, hi, rfl⟩ := List.getElem_of_mem (List.mem_of_mem_take hz)
      obtain ⟨q, e, hq, _⟩ := okAt_in (hs i hi)
      have hg : Z.getD i 0 = Z[i] := by simp [List.getD, hi]
      rw [hg] at e
      simp only [List.mem_map, List.mem_range]
      exact ⟨q, hq, e.symm⟩
    simp at hsub
    have hlen : (Z.take k).length = k := by simp; omega
    omega
  exact (this Z.length (Nat.le_refl _)).2
theorem okLists_tot {P : Nat} {Zs : List (List Int)} (h : okLists P Zs = true) (hP : P ≤ 8) (hl : Zs.length ≤ 8) : tot Zs ≤ 64 := by
  have := pre_bound Zs Zs.length 8 fun i hi => by
    have := okDiff_len (okRows_at (rule := fun _ => okDiff P) h hi)
    show (Zs.getD i []).length ≤ 8
    omega
  unfold tot
  have := Nat.mul_le_mul_right 8 hl
  omega
theorem okWish_in {A B : List (List Int)} (h : okWish A B = true) : (1 ≤ A.length ∧ A.length ≤ 8 ∧ B.length = A.length) ∧ tot A ≤ 64 ∧ tot B ≤ 64 := by
  simp only [okWish, Bool.and_eq_true, decide_eq_true_eq, inB_true] at h
  obtain ⟨⟨h1, h2⟩, h3, h4, h5⟩ := h
  exact ⟨⟨by omega, by omega, h5⟩, okLists_tot h3 (by omega) (by omega), okLists_tot h4 (by omega) (by omega)⟩
theorem turnW_len (A B : List (List Int)) : tot (turnW A B).1 + tot (turnW A B).2.1 ≤ 4096 := by
  cases h : okWish A B with
  | false => rw [turnW_no h]; simp [tot, pre]
  | true =>
    rw [turnW_yes h]
    have := okWish_in h
    show tot B + tot A ≤ 4096
    omega
end Go.Proofs.Ytklnflmdbgdgjaa
