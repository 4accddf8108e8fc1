/-
  Is a number in a list: the reference's look-up.
-/
import Derived.Test.YtpopmcgieegikaaGBestD
import Derived.Deep.LoopGhost
namespace Go.Proofs.Ytpopmcgieegikaa
open Go.RowKit Go.ChangeShapes Go.WideShapes
set_option linter.unusedVariables false

theorem mem_of_getD {zs : List Int} {x : Int} {k : Nat} (hk : k < zs.length) (h : zs.getD k 0 = x) : x ∈ zs := by
  rw [List.getD_eq_getElem?_getD, List.getElem?_eq_getElem hk] at h
  exact h ▸ List.getElem_mem hk
theorem not_mem_getD {zs : List Int} {x : Int} (h : ∀ j, j < zs.length → zs.getD j 0 ≠ x) : x ∉ zs := by
  intro hm
  obtain ⟨j, hj, e⟩ := List.getElem_of_mem hm
  exact h j hj (by rw [List.getD_eq_getElem?_getD, List.getElem?_eq_getElem hj]; exact e)

set_option maxRecDepth 20000 in
theorem specHas_any (a : Option Addr) (len cap : Nat) (zs : List Int) (x : Int) (w : World) (hA : IAt w a len zs) :
    Calls Try.prog 106 #[.slice a len cap, .int .i64 x] w fun e w' => e = .returned (.bool (decide (x ∈ zs))) ∧ w = w' := by
  obtain ⟨hl, hm, _, h0 | ⟨b, off, rfl, hb, hc⟩⟩ := hA
  · subst h0
    obtain rfl : zs = [] := List.length_eq_zero_iff.1 hl
    go_enter Try.func106, Try.ntmps106
    go_wp2_with fail
    go_loopg [5] 0 (fun g i wr => i = .int .i64 0 ∧ wr = w)
    case atStart => exact ⟨rfl, rfl⟩
    case round =>
      obtain ⟨rfl, rfl⟩ := hrel
      go_wp2_with fail
      go_ret
      exact ⟨by simp, rfl⟩
  · have HC := Lib.hid hc
    have HL := Lib.hid hl
    clear hc hl
    unfold maxLen at hm
    go_enter Try.func106, Try.ntmps106
    go_wp2_with fail
    go_loopg [5] len (fun g i wr => ∃ k : Nat, k + g = len ∧ i = .int .i64 k ∧ Hid (∀ j, j < k → zs.getD j 0 ≠ x) ∧ wr = w)
    case atStart => exact ⟨0, by omega, rfl, Lib.hid (fun j hj => absurd hj (by omega)), rfl⟩
    case round =>
      obtain ⟨k, hkg, rfl, HN, rfl⟩ := hrel
      cases gk with
      | zero =>
        obtain rfl : k = len := by omega
        have HV : Hid (decide (x ∈ zs) = false) := Lib.hid (decide_eq_false (not_mem_getD fun j hj => HN.out j (by rw [← HL.out]; exact hj)))
        go_wp2_with fail
        go_ret
        rw [HV.out]
        exact ⟨rfl, rfl⟩
      | succ g =>
        have hlt : k < len := by omega
        have hs := HC.out k hlt
        by_cases hx : zs.getD k 0 = x
        · rw [hx] at hs
          have HV : Hid (decide (x ∈ zs) = true) := Lib.hid (decide_eq_true (mem_of_getD (by rw [HL.out]; exact hlt) hx))
          clear hx
          go_wp2_with fail
          go_ret
          rw [HV.out]
          exact ⟨rfl, rfl⟩
        · have HX := Lib.hid hx
          obtain ⟨z, hz⟩ : ∃ z, zs.getD k 0 = z := ⟨_, rfl⟩
          rw [hz] at hs hx
          have HZ := Lib.hid hz
          clear hz
          have hne : decide (z = x) = false := decide_eq_false hx
          go_wp2_with fail
          go_roundg g
          case measure => omega
          case rel => exact ⟨k + 1, by omega, by go_num, Lib.hid (fun j hj => by by_cases e : j = k; (rw [e]; exact HX.out); exact HN.out j (by omega)), rfl⟩
end Go.Proofs.Ytpopmcgieegikaa
