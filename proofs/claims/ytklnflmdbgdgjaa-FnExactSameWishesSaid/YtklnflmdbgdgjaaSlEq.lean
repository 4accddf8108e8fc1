/-
  Are two slices of int64 equal? slices.Equal and the reference's comparison.
-/
import Derived.Test.YtklnflmdbgdgjaaGCom
namespace Go.Proofs.Ytklnflmdbgdgjaa
open Go.RowKit Go.ChangeShapes Go.WideShapes
set_option linter.unusedVariables false

theorem list_same {zs ys : List Int} {n : Nat} (h1 : zs.length = n) (h2 : ys.length = n) (h : ∀ j, j < n → zs.getD j 0 = ys.getD j 0) : zs = ys := by
  apply List.ext_getElem (by omega)
  intro i hi hi'
  have := h i (by omega)
  simpa [List.getD, hi, hi'] using this

theorem listEq_at (b off b' off' len cap cap' : Nat) (zs ys : List Int) (w : World) (hl : len ≤ maxLen) (hz : zs.length = len) (hy : ys.length = len)
    (hc : ∀ i, i < len → w.cell? ⟨b, off + i, none⟩ = some (.int .i64 (zs.getD i 0))) (hc' : ∀ i, i < len → w.cell? ⟨b', off' + i, none⟩ = some (.int .i64 (ys.getD i 0))) :
    Calls Try.prog 43 #[.slice (some ⟨b, off, none⟩) len cap, .slice (some ⟨b', off', none⟩) len cap'] w fun e w' => e = .returned (.bool (decide (zs = ys))) ∧ Same w w' := by
  have HC := Lib.hid hc
  have HC' := Lib.hid hc'
  clear hc hc'
  unfold maxLen at hl
  go_enter Try.func43, Try.ntmps43
  go_wp2
  go_loopw [5] (fun i wr => ∃ k m : Nat, k ≤ len ∧ i = .int .i64 k ∧ Hid (∀ j, j < k → zs.getD j 0 = ys.getD j 0) ∧ wr = w.drewN m) (fun i _ => len - (intOf i).toNat)
  case atStart => exact ⟨0, 0, Nat.zero_le _, rfl, Lib.hid (fun j hj => absurd hj (by omega)), rfl⟩
  case round =>
    obtain ⟨k, m, hk, rfl, HF, hw⟩ := hrel
    subst hw
    by_cases hlt : k < len
    · have hsrc := HC.out k hlt
      have hsrc' := HC'.out k hlt
      by_cases he : zs.getD k 0 = ys.getD k 0
      · have HF' : Hid (∀ j, j < k + 1 → zs.getD j 0 = ys.getD j 0) := Lib.hid fun j hj => by
          by_cases e : j = k
          · rw [e]; exact he
          · exact HF.out j (by omega)
        rw [← he] at hsrc'
        clear he
        generalize zs.getD k 0 = v at *
        go_wp2
        go_quiet (fail)
        go_wp2
        go_roundw
        case rel => exact ⟨k + 1, m + nq, by omega, by go_num, HF', by first | rfl | exact World.drewN_drewN _ _ _⟩
        case measure => simp [intOf]; omega
      · have HE : Hid (decide (zs = ys) = false) := Lib.hid (decide_eq_false fun h => he (by rw [h]))
        generalize zs.getD k 0 = v at *
        generalize ys.getD k 0 = u at *
        go_wp2
        go_quiet (fail)
        go_wp2
        go_ret
        exact ⟨by rw [HE.out]; rfl, m + nq, by first | rfl | exact World.drewN_drewN _ _ _⟩
    · obtain rfl : k = len := by omega
      go_wp2
      go_ret
      exact ⟨by rw [decide_eq_true (list_same hz hy HF.out)]; rfl, m, rfl⟩

theorem slicesEq_at (b off b' off' len cap cap' : Nat) (zs ys : List Int) (w : World) (hl : len ≤ maxLen) (hz : zs.length = len) (hy : ys.length = len)
    (hc : ∀ i, i < len → w.cell? ⟨b, off + i, none⟩ = some (.int .i64 (zs.getD i 0))) (hc' : ∀ i, i < len → w.cell? ⟨b', off' + i, none⟩ = some (.int .i64 (ys.getD i 0))) :
    Calls Try.prog 45 #[.slice (some ⟨b, off, none⟩) len cap, .slice (some ⟨b', off', none⟩) len cap'] w fun e w' => e = .returned (.bool (decide (zs = ys))) ∧ Same w w' := by
  have HC := Lib.hid hc
  have HC' := Lib.hid hc'
  clear hc hc'
  unfold maxLen at hl
  go_enter Try.func45, Try.ntmps45
  go_wp2
  go_loopw [13] (fun i wr => ∃ k m : Nat, k ≤ len ∧ i = .int .i64 k ∧ Hid (∀ j, j < k → zs.getD j 0 = ys.getD j 0) ∧ wr = w.drewN m) (fun i _ => len - (intOf i).toNat)
  case atStart => exact ⟨0, 0, Nat.zero_le _, rfl, Lib.hid (fun j hj => absurd hj (by omega)), rfl⟩
  case round =>
    obtain ⟨k, m, hk, rfl, HF, hw⟩ := hrel
    subst hw
    by_cases hlt : k < len
    · have hsrc := HC.out k hlt
      have hsrc' := HC'.out k hlt
      by_cases he : zs.getD k 0 = ys.getD k 0
      · have HF' : Hid (∀ j, j < k + 1 → zs.getD j 0 = ys.getD j 0) := Lib.hid fun j hj => by
          by_cases e : j = k
          · rw [e]; exact he
          · exact HF.out j (by omega)
        rw [← he] at hsrc'
        clear he
        generalize zs.getD k 0 = v at *
        go_wp2
        go_quiet (fail)
        go_wp2
        go_roundw
        case rel => exact ⟨k + 1, m + nq, by omega, by go_num, HF', by first | rfl | exact World.drewN_drewN _ _ _⟩
        case measure => simp [intOf]; omega
      · have HE : Hid (decide (zs = ys) = false) := Lib.hid (decide_eq_false fun h => he (by rw [h]))
        generalize zs.getD k 0 = v at *
        generalize ys.getD k 0 = u at *
        go_wp2
        go_quiet (fail)
        go_wp2
        go_ret
        exact ⟨by rw [HE.out]; rfl, m + nq, by first | rfl | exact World.drewN_drewN _ _ _⟩
    · obtain rfl : k = len := by omega
      go_wp2
      go_ret
      exact ⟨by rw [decide_eq_true (list_same hz hy HF.out)]; rfl, m, rfl⟩

theorem listEq_any (a a' : Option Addr) (len len' cap cap' : Nat) (zs ys : List Int) (w : World) (h : IAt w a len zs) (h' : IAt w a' len' ys) :
    Calls Try.prog 43 #[.slice a len cap, .slice a' len' cap'] w fun e w' => e = .returned (.bool (decide (zs = ys))) ∧ Same w w' := by
  have hm := h.2.1
  have hm' := h'.2.1
  unfold maxLen at hm hm'
  by_cases hl : len = len'
  · subst hl
    by_cases h0 : len = 0
    · subst h0
      obtain rfl := iat_zero h
      obtain rfl := iat_zero h'
      clear h h'
      go_enter Try.func43, Try.ntmps43
      go_wp2
      go_loop [5] (fun i => i = .int .i64 0) (fun _ => 0)
      case atStart => exact rfl
      case round =>
        obtain rfl := hrel
        go_wp2
        go_ret
        exact ⟨rfl, 0, rfl⟩
    · obtain ⟨h1, h2, _, h3 | ⟨b, off, rfl, _, hc⟩⟩ := h
      · exact absurd h3 h0
      · obtain ⟨h1', _, _, h3' | ⟨b', off', rfl, _, hc'⟩⟩ := h'
        · exact absurd h3' h0
        · exact listEq_at b off b' off' len cap cap' zs ys w h2 h1 h1' hc hc'
  · have HE : Hid (decide (zs = ys) = false) := Lib.hid (decide_eq_false fun e => hl (by rw [← h.1, ← h'.1, e]))
    have hli : ¬ (len : Int) = (len' : Int) := by omega
    clear h h'
    go_enter Try.func43, Try.ntmps43
    go_wp2
    go_ret
    exact ⟨by rw [HE.out]; rfl, 0, rfl⟩

theorem slicesEq_any (a a' : Option Addr) (len cap cap' : Nat) (zs ys : List Int) (w : World) (h : IAt w a len zs) (h' : IAt w a' len ys) :
    Calls Try.prog 45 #[.slice a len cap, .slice a' len cap'] w fun e w' => e = .returned (.bool (decide (zs = ys))) ∧ Same w w' := by
  by_cases h0 : len = 0
  · subst h0
    obtain rfl := iat_zero h
    obtain rfl := iat_zero h'
    clear h h'
    go_enter Try.func45, Try.ntmps45
    go_wp2
    go_loop [13] (fun i => i = .int .i64 0) (fun _ => 0)
    case atStart => exact rfl
    case round =>
      obtain rfl := hrel
      go_wp2
      go_ret
      exact ⟨rfl, 0, rfl⟩
  · obtain ⟨h1, h2, _, h3 | ⟨b, off, rfl, _, hc⟩⟩ := h
    · exact absurd h3 h0
    · obtain ⟨h1', _, _, h3' | ⟨b', off', rfl, _, hc'⟩⟩ := h'
      · exact absurd h3' h0
      · exact slicesEq_at b off b' off' len cap cap' zs ys w h2 h1 h1' hc hc'


theorem slicesEq_full (a a' : Option Addr) (len len' cap cap' : Nat) (zs ys : List Int) (w : World) (h : IAt w a len zs) (h' : IAt w a' len' ys) :
    Calls Try.prog 45 #[.slice a len cap, .slice a' len' cap'] w fun e w' => e = .returned (.bool (decide (zs = ys))) ∧ Same w w' := by
  by_cases hl : len = len'
  · subst hl
    exact slicesEq_any a a' len cap cap' zs ys w h h'
  · have HE : Hid (decide (zs = ys) = false) := Lib.hid (decide_eq_false fun e => hl (by rw [← h.1, ← h'.1, e]))
    have hli : ¬ (len : Int) = (len' : Int) := by omega
    clear h h'
    go_enter Try.func45, Try.ntmps45
    go_wp2
    go_ret
    exact ⟨by rw [HE.out]; rfl, 0, rfl⟩
end Go.Proofs.Ytklnflmdbgdgjaa
