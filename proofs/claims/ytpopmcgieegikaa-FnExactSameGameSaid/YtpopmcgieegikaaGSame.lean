/-
  Are two games the same? The program's answer and the reference's.
-/
import Derived.Test.YtpopmcgieegikaaGIs
namespace Go.Proofs.Ytpopmcgieegikaa
open Go.RowKit Go.ChangeShapes Go.WideShapes
set_option linter.unusedVariables false

theorem list_same {zs ys : List Int} {n : Nat} (h1 : zs.length = n) (h2 : ys.length = n) (h : ∀ j, j < n → zs.getD j 0 = ys.getD j 0) : zs = ys := by
  apply List.ext_getElem (by omega)
  intro i hi hi'
  have := h i (by omega)
  simpa [List.getD, hi, hi'] using this

theorem listEq_at (b off b' off' len cap cap' : Nat) (zs ys : List Int) (w : World) (hl : len ≤ maxLen) (hz : zs.length = len) (hy : ys.length = len)
    (hc : ∀ i, i < len → w.cell? ⟨b, off + i, none⟩ = some (.int .i64 (zs.getD i 0))) (hc' : ∀ i, i < len → w.cell? ⟨b', off' + i, none⟩ = some (.int .i64 (ys.getD i 0))) :
    Calls Try.prog 111 #[.slice (some ⟨b, off, none⟩) len cap, .slice (some ⟨b', off', none⟩) len cap'] w fun e w' => e = .returned (.bool (decide (zs = ys))) ∧ Same w w' := by
  have HC := Lib.hid hc
  have HC' := Lib.hid hc'
  clear hc hc'
  unfold maxLen at hl
  go_enter Try.func111, Try.ntmps111
  go_wp2
  go_loopw [5] (fun i wr => ∃ k m : Nat, k ≤ len ∧ i = .int .i64 k ∧ Hid (∀ j, j < k → zs.getD j 0 = ys.getD j 0) ∧ wr = w.drewN m) (fun i _ => len - (intOf i).toNat)
  case atStart => exact ⟨0, 0, Nat.zero_le _, rfl, Lib.hid (fun j hj => absurd hj (by omega)), rfl⟩
  case round =>
    obtain ⟨k, m, hk, rfl, HF, hw⟩ := hrel
    subst hw
    by_cases hlt : k < len
    · have hsrc := HC.out k hlt
      have hsrc' := HC'.out k hlt
      by_cases he : zs.getD k 0 = ys.getD k 0
      · have HF' : Hid (∀ j, j < k + 1 → zs.getD j 0 = ys.getD j 0) := Lib.hid fun j hj => by
          by_cases e : j = k
          · rw [e]; exact he
          · exact HF.out j (by omega)
        rw [← he] at hsrc'
        clear he
        generalize zs.getD k 0 = v at *
        go_wp2
        go_quiet (fail)
        go_wp2
        go_roundw
        case rel => exact ⟨k + 1, m + nq, by omega, by go_num, HF', by first | rfl | exact World.drewN_drewN _ _ _⟩
        case measure => simp [intOf]; omega
      · have HE : Hid (decide (zs = ys) = false) := Lib.hid (decide_eq_false fun h => he (by rw [h]))
        generalize zs.getD k 0 = v at *
        generalize ys.getD k 0 = u at *
        go_wp2
        go_quiet (fail)
        go_wp2
        go_ret
        exact ⟨by rw [HE.out]; rfl, m + nq, by first | rfl | exact World.drewN_drewN _ _ _⟩
    · obtain rfl : k = len := by omega
      go_wp2
      go_ret
      exact ⟨by rw [decide_eq_true (list_same hz hy HF.out)]; rfl, m, rfl⟩

theorem slicesEq_at (b off b' off' len cap cap' : Nat) (zs ys : List Int) (w : World) (hl : len ≤ maxLen) (hz : zs.length = len) (hy : ys.length = len)
    (hc : ∀ i, i < len → w.cell? ⟨b, off + i, none⟩ = some (.int .i64 (zs.getD i 0))) (hc' : ∀ i, i < len → w.cell? ⟨b', off' + i, none⟩ = some (.int .i64 (ys.getD i 0))) :
    Calls Try.prog 75 #[.slice (some ⟨b, off, none⟩) len cap, .slice (some ⟨b', off', none⟩) len cap'] w fun e w' => e = .returned (.bool (decide (zs = ys))) ∧ Same w w' := by
  have HC := Lib.hid hc
  have HC' := Lib.hid hc'
  clear hc hc'
  unfold maxLen at hl
  go_enter Try.func75, Try.ntmps75
  go_wp2
  go_loopw [13] (fun i wr => ∃ k m : Nat, k ≤ len ∧ i = .int .i64 k ∧ Hid (∀ j, j < k → zs.getD j 0 = ys.getD j 0) ∧ wr = w.drewN m) (fun i _ => len - (intOf i).toNat)
  case atStart => exact ⟨0, 0, Nat.zero_le _, rfl, Lib.hid (fun j hj => absurd hj (by omega)), rfl⟩
  case round =>
    obtain ⟨k, m, hk, rfl, HF, hw⟩ := hrel
    subst hw
    by_cases hlt : k < len
    · have hsrc := HC.out k hlt
      have hsrc' := HC'.out k hlt
      by_cases he : zs.getD k 0 = ys.getD k 0
      · have HF' : Hid (∀ j, j < k + 1 → zs.getD j 0 = ys.getD j 0) := Lib.hid fun j hj => by
          by_cases e : j = k
          · rw [e]; exact he
          · exact HF.out j (by omega)
        rw [← he] at hsrc'
        clear he
        generalize zs.getD k 0 = v at *
        go_wp2
        go_quiet (fail)
        go_wp2
        go_roundw
        case rel => exact ⟨k + 1, m + nq, by omega, by go_num, HF', by first | rfl | exact World.drewN_drewN _ _ _⟩
        case measure => simp [intOf]; omega
      · have HE : Hid (decide (zs = ys) = false) := Lib.hid (decide_eq_false fun h => he (by rw [h]))
        generalize zs.getD k 0 = v at *
        generalize ys.getD k 0 = u at *
        go_wp2
        go_quiet (fail)
        go_wp2
        go_ret
        exact ⟨by rw [HE.out]; rfl, m + nq, by first | rfl | exact World.drewN_drewN _ _ _⟩
    · obtain rfl : k = len := by omega
      go_wp2
      go_ret
      exact ⟨by rw [decide_eq_true (list_same hz hy HF.out)]; rfl, m, rfl⟩

theorem listEq_any (a a' : Option Addr) (len len' cap cap' : Nat) (zs ys : List Int) (w : World) (h : IAt w a len zs) (h' : IAt w a' len' ys) :
    Calls Try.prog 111 #[.slice a len cap, .slice a' len' cap'] w fun e w' => e = .returned (.bool (decide (zs = ys))) ∧ Same w w' := by
  have hm := h.2.1
  have hm' := h'.2.1
  unfold maxLen at hm hm'
  by_cases hl : len = len'
  · subst hl
    by_cases h0 : len = 0
    · subst h0
      obtain rfl := iat_zero h
      obtain rfl := iat_zero h'
      clear h h'
      go_enter Try.func111, Try.ntmps111
      go_wp2
      go_loop [5] (fun i => i = .int .i64 0) (fun _ => 0)
      case atStart => exact rfl
      case round =>
        obtain rfl := hrel
        go_wp2
        go_ret
        exact ⟨rfl, 0, rfl⟩
    · obtain ⟨h1, h2, _, h3 | ⟨b, off, rfl, _, hc⟩⟩ := h
      · exact absurd h3 h0
      · obtain ⟨h1', _, _, h3' | ⟨b', off', rfl, _, hc'⟩⟩ := h'
        · exact absurd h3' h0
        · exact listEq_at b off b' off' len cap cap' zs ys w h2 h1 h1' hc hc'
  · have HE : Hid (decide (zs = ys) = false) := Lib.hid (decide_eq_false fun e => hl (by rw [← h.1, ← h'.1, e]))
    have hli : ¬ (len : Int) = (len' : Int) := by omega
    clear h h'
    go_enter Try.func111, Try.ntmps111
    go_wp2
    go_ret
    exact ⟨by rw [HE.out]; rfl, 0, rfl⟩

theorem slicesEq_any (a a' : Option Addr) (len cap cap' : Nat) (zs ys : List Int) (w : World) (h : IAt w a len zs) (h' : IAt w a' len ys) :
    Calls Try.prog 75 #[.slice a len cap, .slice a' len cap'] w fun e w' => e = .returned (.bool (decide (zs = ys))) ∧ Same w w' := by
  by_cases h0 : len = 0
  · subst h0
    obtain rfl := iat_zero h
    obtain rfl := iat_zero h'
    clear h h'
    go_enter Try.func75, Try.ntmps75
    go_wp2
    go_loop [13] (fun i => i = .int .i64 0) (fun _ => 0)
    case atStart => exact rfl
    case round =>
      obtain rfl := hrel
      go_wp2
      go_ret
      exact ⟨rfl, 0, rfl⟩
  · obtain ⟨h1, h2, _, h3 | ⟨b, off, rfl, _, hc⟩⟩ := h
    · exact absurd h3 h0
    · obtain ⟨h1', _, _, h3' | ⟨b', off', rfl, _, hc'⟩⟩ := h'
      · exact absurd h3' h0
      · exact slicesEq_at b off b' off' len cap cap' zs ys w h2 h1 h1' hc hc'

def sameV (r c : Int) (A B : List Int) (r' c' : Int) (A' B' : List Int) : Bool := decide (r = r') && (decide (c = c') && (decide (A = A') && decide (B = B')))

set_option maxHeartbeats 2000000 in
set_option maxRecDepth 20000 in
theorem specSame_any (r c : Int) (a1 : Option Addr) (l1 c1 : Nat) (a2 : Option Addr) (l2 c2 : Nat) (A B : List Int) (r' c' : Int) (a3 : Option Addr) (l3 c3 : Nat) (a4 : Option Addr) (l4 c4 : Nat) (A' B' : List Int) (w : World)
    (hA : IAt w a1 l1 A) (hB : IAt w a2 l2 B) (hA' : IAt w a3 l3 A') (hB' : IAt w a4 l4 B') :
    Calls Try.prog 27 #[gameV r c a1 l1 c1 a2 l2 c2, gameV r' c' a3 l3 c3 a4 l4 c4] w fun e w' => e = .returned (.bool (sameV r c A B r' c' A' B')) ∧ Below w.heap.size w w' := by
  have bw : Below w.heap.size w ((w.alloc (.cells #[.int .i64 r, .int .i64 c, .slice a1 l1 c1, .slice a2 l2 c2] 27)).alloc (.cells #[.int .i64 r', .int .i64 c', .slice a3 l3 c3, .slice a4 l4 c4] 27)) := below2
  have HA := Lib.hid (hA.below bw)
  have HB := Lib.hid (hB.below bw)
  have HA' := Lib.hid (hA'.below bw)
  have HB' := Lib.hid (hB'.below bw)
  have BW := Lib.hid bw
  clear hA hB hA' hB' bw
  have fin : ∀ v : Bool, Hid (sameV r c A B r' c' A' B' = v) → Calls Try.prog 74 #[.pointer (some ⟨w.heap.size, 0, none⟩), .pointer (some ⟨w.heap.size + 1, 0, none⟩)] ((w.alloc (.cells #[.int .i64 r, .int .i64 c, .slice a1 l1 c1, .slice a2 l2 c2] 27)).alloc (.cells #[.int .i64 r', .int .i64 c', .slice a3 l3 c3, .slice a4 l4 c4] 27)) fun e w' => e = .returned (.bool v) ∧ Same ((w.alloc (.cells #[.int .i64 r, .int .i64 c, .slice a1 l1 c1, .slice a2 l2 c2] 27)).alloc (.cells #[.int .i64 r', .int .i64 c', .slice a3 l3 c3, .slice a4 l4 c4] 27)) w' := by
    intro v HV
    have X1 : Box4 ((w.alloc (.cells #[.int .i64 r, .int .i64 c, .slice a1 l1 c1, .slice a2 l2 c2] 27)).alloc (.cells #[.int .i64 r', .int .i64 c', .slice a3 l3 c3, .slice a4 l4 c4] 27)) w.heap.size 27 (.int .i64 r) (.int .i64 c) (.slice a1 l1 c1) (.slice a2 l2 c2) := heap2a
    have X2 : Box4 ((w.alloc (.cells #[.int .i64 r, .int .i64 c, .slice a1 l1 c1, .slice a2 l2 c2] 27)).alloc (.cells #[.int .i64 r', .int .i64 c', .slice a3 l3 c3, .slice a4 l4 c4] 27)) (w.heap.size + 1) 27 (.int .i64 r') (.int .i64 c') (.slice a3 l3 c3) (.slice a4 l4 c4) := heap2b
    generalize ((w.alloc (.cells #[.int .i64 r, .int .i64 c, .slice a1 l1 c1, .slice a2 l2 c2] 27)).alloc (.cells #[.int .i64 r', .int .i64 c', .slice a3 l3 c3, .slice a4 l4 c4] 27)) = W at *
    obtain ⟨⟨p0, p1, p2, p3⟩, _⟩ := X1.all
    obtain ⟨⟨q0, q1, q2, q3⟩, _⟩ := X2.all
    clear X1 X2
    by_cases e1 : r = r'
    · subst e1
      by_cases e2 : c = c'
      · subst e2
        cases e3 : decide (A = A') with
        | true =>
          have E3 := Lib.hid e3
          have HV2 : Hid (v = decide (B = B')) := Lib.hid (by rw [← HV.out]; unfold sameV; rw [e3]; simp)
          clear e3
          go_enter Try.func74, Try.ntmps74
          go_wp2_with fail
          go_quiet (first
            | (go_at_call_of 111 (Value.slice a1 l1 c1); refine (listEq_any _ _ _ _ _ _ A A' _ (HA.out.below (same_below ⟨_, rfl⟩ _)) (HA'.out.below (same_below ⟨_, rfl⟩ _))).mono ?_; rintro e w2 ⟨rfl, k, rfl⟩; rw [E3.out]; exact ⟨rfl, _, World.drewN_drewN _ _ _⟩)
            | (go_at_call_of 111 (Value.slice a2 l2 c2); refine (listEq_any _ _ _ _ _ _ B B' _ (HB.out.below (same_below ⟨_, rfl⟩ _)) (HB'.out.below (same_below ⟨_, rfl⟩ _))).mono ?_; rintro e w2 ⟨rfl, k, rfl⟩; exact ⟨rfl, _, World.drewN_drewN _ _ _⟩))
          go_wp2_with fail
          go_ret
          exact ⟨by rw [HV2.out]; rfl, nq, rfl⟩
        | false =>
          have E3 := Lib.hid e3
          have HV2 : Hid (v = false) := Lib.hid (by rw [← HV.out]; unfold sameV; rw [e3]; simp)
          clear e3
          go_enter Try.func74, Try.ntmps74
          go_wp2_with fail
          go_quiet (first
            | (go_at_call_of 111 (Value.slice a1 l1 c1); refine (listEq_any _ _ _ _ _ _ A A' _ (HA.out.below (same_below ⟨_, rfl⟩ _)) (HA'.out.below (same_below ⟨_, rfl⟩ _))).mono ?_; rintro e w2 ⟨rfl, k, rfl⟩; rw [E3.out]; exact ⟨rfl, _, World.drewN_drewN _ _ _⟩))
          go_wp2_with fail
          go_ret
          exact ⟨by rw [HV2.out]; rfl, nq, rfl⟩
      · have HV2 : Hid (v = false) := Lib.hid (by rw [← HV.out]; unfold sameV; rw [decide_eq_false e2]; simp)
        have hq : (c == c') = false := by simpa using e2
        clear e2
        go_enter Try.func74, Try.ntmps74
        go_wp2_with fail
        go_quiet (fail)
        go_wp2_with fail
        go_ret
        exact ⟨by rw [HV2.out]; rfl, nq, rfl⟩
    · have HV2 : Hid (v = false) := Lib.hid (by rw [← HV.out]; unfold sameV; rw [decide_eq_false e1]; simp)
      have hq : (r == r') = false := by simpa using e1
      clear e1
      go_enter Try.func74, Try.ntmps74
      go_wp2_with fail
      go_quiet (fail)
      go_wp2_with fail
      go_ret
      exact ⟨by rw [HV2.out]; rfl, nq, rfl⟩
  have FIN := Lib.hid fin
  clear fin
  go_enter Try.func27, Try.ntmps27
  go_wp2_with fail
  refine (FIN.out _ (Lib.hid rfl)).mono ?_
  rintro e w' ⟨rfl, n, rfl⟩
  go_wp2_with fail
  go_ret
  exact ⟨rfl, BW.out.trans (same_below ⟨n, rfl⟩ _)⟩
end Go.Proofs.Ytpopmcgieegikaa
