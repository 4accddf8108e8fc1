/-
  What the laws' small functions share: what is left of a size, worlds that drew, slices that came in.
-/
import Derived.Test.YtnmehenkbinfmaaGBox
namespace Go.Proofs.Ytnmehenkbinfmaa
open Go.RowKit Go.ChangeShapes Go.WideShapes
set_option linter.unusedVariables false

theorem leftOf_le {left : Int} {l : Nat} (h0 : 0 ≤ left) (hl : left ≤ 1048576) (h : (l : Int) ≤ left) : 0 ≤ leftOf left l ∧ leftOf left l ≤ 1048576 := by
  unfold leftOf; rw [if_pos h]; omega
theorem leftOf_no {left : Int} {l : Nat} (h : ¬ (l : Int) ≤ left) : leftOf left l = -1 := by unfold leftOf; rw [if_neg h]
theorem leftOf_yes {left : Int} {l : Nat} (h : (l : Int) ≤ left) : leftOf left l = left - l := by unfold leftOf; rw [if_pos h]

theorem same_below {w w' : World} (h : Same w w') (B : Nat) : Below B w w' := by
  obtain ⟨n, rfl⟩ := h
  exact ⟨rfl, rfl, rfl, Nat.le_refl _, fun _ _ => rfl⟩

/-- a slice of int64 that came in, read as the walks are told of it -/
theorem open_iat {H : Type} {enc : TypeId × Value → H} {w : World} {base : Nat} {spare : Nat → Bool} {held : Bool} {fuel : Nat} {cs : List Value} {x : DataW H × List MemPlace}
    (h : DataW.trod enc Try.prog w base spare held fuel 22 cs = some x) : ∃ a len cap zs, cs = [.slice a len cap] ∧ IAt w a len zs := by
  rcases open_ints Try.underlying22 Try.underlying2 (by kernel_rfl) h with ⟨hcs, _⟩ | ⟨a, l, c, zs, hcs, _, hl, hm, hz, _, hcell, hwz⟩
  · exact ⟨none, 0, 0, [], hcs, rfl, Nat.zero_le _, by simp, .inl rfl⟩
  · have hge : l ≤ zs.length := by rw [hz]; split <;> omega
    clear hz
    refine ⟨some a, l, c, zs.take l, hcs, by simp; omega, by omega, fun z hz => big_of_wf (hwz z (List.mem_of_mem_take hz)), ?_⟩
    by_cases h0 : l = 0
    · exact .inl h0
    · obtain ⟨b, off, rfl, hcells⟩ := ints_at hcell (by omega)
      refine .inr ⟨b, off, rfl, World.block_lt_of_cell? w ⟨b, off + 0, none⟩ (hcells 0 (by omega)), fun i hi => ?_⟩
      rw [hcells i (by omega)]
      simp [List.getD, hi]
end Go.Proofs.Ytnmehenkbinfmaa
