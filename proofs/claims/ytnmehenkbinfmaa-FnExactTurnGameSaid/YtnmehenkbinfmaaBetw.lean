/-
  Numbers between two bounds, and lists of such: the program's functions and the reference's.
-/
import Derived.Test.YtnmehenkbinfmaaGBase
namespace Go.Proofs.Ytnmehenkbinfmaa
open Go.RowKit Go.ChangeShapes Go.WideShapes
set_option linter.unusedVariables false

def inB (lo hi z : Int) : Bool := decide (lo ≤ z) && decide (z ≤ hi)
def okAll (lo hi : Int) (zs : List Int) : Bool := zs.all (inB lo hi)
theorem inB_true {lo hi z : Int} : inB lo hi z = true ↔ lo ≤ z ∧ z ≤ hi := by simp [inB]
theorem inB_false {lo hi z : Int} : inB lo hi z = false ↔ z < lo ∨ hi < z := by
  rw [← Bool.not_eq_true, inB_true]
  omega
theorem okAll_at {lo hi : Int} {zs : List Int} (h : okAll lo hi zs = true) {i : Nat} (hi' : i < zs.length) : lo ≤ zs.getD i 0 ∧ zs.getD i 0 ≤ hi := by
  have := List.all_eq_true.1 h (zs[i]) (List.getElem_mem hi')
  simpa [inB, List.getD, hi'] using this
theorem okAll_bad {lo hi : Int} {zs : List Int} {k : Nat} (hk : k < zs.length) (h : inB lo hi (zs.getD k 0) = false) : okAll lo hi zs = false := by
  cases e : okAll lo hi zs with
  | false => rfl
  | true =>
    have := okAll_at e hk
    rw [inB_false] at h
    omega
theorem okAll_all {lo hi : Int} {zs : List Int} (h : ∀ i, i < zs.length → inB lo hi (zs.getD i 0) = true) : okAll lo hi zs = true := by
  refine List.all_eq_true.2 fun z hz => ?_
  obtain ⟨i, hi, rfl⟩ := List.getElem_of_mem hz
  have := h i hi
  simpa [List.getD, hi] using this

theorem isBetween_any (n lo hi : Int) (w : World) :
    Calls Try.prog 109 #[.int .i64 n, .int .i64 lo, .int .i64 hi] w fun e w' => e = .returned (.bool (inB lo hi n)) ∧ w = w' := by
  unfold inB
  by_cases h : lo ≤ n
  · have e : (decide (lo ≤ n) && decide (n ≤ hi)) = decide (n ≤ hi) := by rw [decide_eq_true h]; rfl
    rw [e]
    clear e
    go_enter Try.func109, Try.ntmps109
    go_wp2
    go_ret
    exact ⟨rfl, rfl⟩
  · have e : (decide (lo ≤ n) && decide (n ≤ hi)) = false := by rw [decide_eq_false h]; rfl
    rw [e]
    clear e
    go_enter Try.func109, Try.ntmps109
    go_wp2
    go_ret
    exact ⟨rfl, rfl⟩

theorem inR_any (x lo hi : Int) (w : World) :
    Calls Try.prog 79 #[.int .i64 x, .int .i64 lo, .int .i64 hi] w fun e w' => e = .returned (.bool (inB lo hi x)) ∧ w = w' := by
  unfold inB
  by_cases h : lo ≤ x
  · have e : (decide (lo ≤ x) && decide (x ≤ hi)) = decide (x ≤ hi) := by rw [decide_eq_true h]; rfl
    rw [e]
    clear e
    go_enter Try.func79, Try.ntmps79
    go_wp2
    go_ret
    exact ⟨rfl, rfl⟩
  · have e : (decide (lo ≤ x) && decide (x ≤ hi)) = false := by rw [decide_eq_false h]; rfl
    rw [e]
    clear e
    go_enter Try.func79, Try.ntmps79
    go_wp2
    go_ret
    exact ⟨rfl, rfl⟩

theorem areBetween_at (b off len cap : Nat) (zs : List Int) (lo hi : Int) (w : World) (hl : len ≤ maxLen) (hz : zs.length = len)
    (hc : ∀ i, i < len → w.cell? ⟨b, off + i, none⟩ = some (.int .i64 (zs.getD i 0))) :
    Calls Try.prog 110 #[.slice (some ⟨b, off, none⟩) len cap, .int .i64 lo, .int .i64 hi] w fun e w' => e = .returned (.bool (okAll lo hi zs)) ∧ w = w' := by
  have HC := Lib.hid hc
  clear hc
  unfold maxLen at hl
  go_enter Try.func110, Try.ntmps110
  go_wp2
  go_loop [11] (fun i => ∃ k : Nat, k ≤ len ∧ i = .int .i64 k ∧ Hid (∀ j, j < k → inB lo hi (zs.getD j 0) = true)) (fun i => len - (intOf i).toNat)
  case atStart => exact ⟨0, Nat.zero_le _, rfl, Lib.hid (fun j hj => absurd hj (by omega))⟩
  case round =>
    obtain ⟨k, hk, rfl, H⟩ := hrel
    by_cases hlt : k < len
    · have hsrc := HC.out k hlt
      cases hb : inB lo hi (zs.getD k 0) with
      | false =>
        have E := Lib.hid (okAll_bad (by omega) hb)
        have HB := Lib.hid hb
        clear hb
        generalize zs.getD k 0 = v at *
        go_wp2_with (go_at_call 109; refine (isBetween_any _ _ _ _).mono ?_; rintro e w' ⟨rfl, rfl⟩; rw [HB.out])
        go_ret
        exact ⟨by rw [E.out]; rfl, rfl⟩
      | true =>
        have H' : Hid (∀ j, j < k + 1 → inB lo hi (zs.getD j 0) = true) := Lib.hid fun j hj => by
          by_cases e : j = k
          · rw [e]; exact hb
          · exact H.out j (by omega)
        have HB := Lib.hid hb
        clear hb
        generalize zs.getD k 0 = v at *
        go_wp2_with (go_at_call 109; refine (isBetween_any _ _ _ _).mono ?_; rintro e w' ⟨rfl, rfl⟩; rw [HB.out])
        go_round
        case rel => exact ⟨k + 1, by omega, by go_num, H'⟩
        case measure => simp [intOf]; omega
    · obtain rfl : k = len := by omega
      go_wp2_with fail
      go_ret
      exact ⟨by rw [okAll_all (by rw [hz]; exact H.out)]; rfl, rfl⟩

theorem areBetween_none (a : Option Addr) (cap : Nat) (lo hi : Int) (w : World) :
    Calls Try.prog 110 #[.slice a 0 cap, .int .i64 lo, .int .i64 hi] w fun e w' => e = .returned (.bool true) ∧ w = w' := by
  go_enter Try.func110, Try.ntmps110
  go_wp2
  go_loop [11] (fun i => i = .int .i64 0) (fun _ => 0)
  case atStart => exact rfl
  case round =>
    obtain rfl := hrel
    go_wp2
    go_ret
    exact ⟨rfl, rfl⟩

theorem areBetween_any (a : Option Addr) (len cap : Nat) (zs : List Int) (lo hi : Int) (w : World) (h : IAt w a len zs) :
    Calls Try.prog 110 #[.slice a len cap, .int .i64 lo, .int .i64 hi] w fun e w' => e = .returned (.bool (okAll lo hi zs)) ∧ w = w' := by
  obtain ⟨h1, h2, h3, rfl | ⟨b, off, rfl, hb, hc⟩⟩ := h
  · obtain rfl := List.eq_nil_of_length_eq_zero h1
    exact areBetween_none a cap lo hi w
  · exact areBetween_at b off len cap zs lo hi w h2 h1 hc
end Go.Proofs.Ytnmehenkbinfmaa
