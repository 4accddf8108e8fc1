/-
  The program's orders: is a list one, and what each player brings.
-/
import Derived.Test.YtdnkigjcgdpbiaaWOrderP
import Derived.Deep.RegionWith
namespace Go.Proofs.Ytdnkigjcgdpbiaa
open Go.RowKit
set_option linter.unusedVariables false

def okIndex (i n : Int) : Bool := decide (0 ≤ i) && decide (i < n)
theorem isIndex_any (i n : Int) (w : World) :
    Calls Try.prog 80 #[.int .i64 i, .int .i64 n] w fun e w' => e = .returned (.bool (okIndex i n)) ∧ w = w' := by
  unfold okIndex
  by_cases h : 0 ≤ i
  · have e : (decide (0 ≤ i) && decide (i < n)) = decide (i < n) := by rw [decide_eq_true h]; rfl
    rw [e]
    clear e
    go_enter Try.func80, Try.ntmps80
    go_wp2
    go_ret
    exact ⟨rfl, rfl⟩
  · have e : (decide (0 ≤ i) && decide (i < n)) = false := by rw [decide_eq_false h]; rfl
    rw [e]
    clear e
    go_enter Try.func80, Try.ntmps80
    go_wp2
    go_ret
    exact ⟨rfl, rfl⟩

theorem setOfN_any (i : Nat) (h : i ≤ 6) (w : World) :
    Calls Try.prog 60 #[.int .i64 (i : Nat)] w fun e w' => e = .returned (.int .i64 (2 ^ i : Nat)) ∧ w = w' := setOf_any i _ h (by simp) w

theorem isIn_any (i s : Nat) (hi : i < 6) (hs : s < 64) (w : World) :
    Calls Try.prog 84 #[.int .i64 (i : Nat), .int .i64 (s : Nat)] w fun e w' => e = .returned (.bool (s.testBit i)) ∧ w = w' := by
  have E := Lib.hid (in_bits2 hs hi)
  go_enter Try.func84, Try.ntmps84
  go_wp2_with (go_at_call 60; refine (setOfN_any i (by omega) _).mono ?_; rintro e w' ⟨rfl, rfl⟩)
  go_ret
  exact ⟨by rw [← E.out]; rfl, rfl⟩

set_option maxRecDepth 20000 in
theorem isOrder_at (b off len cap P : Nat) (O : List Int) (w : World) (hP : P ≤ 6) (hl : len ≤ maxLen) (hz : O.length = len)
    (hc : ∀ i, i < len → w.cell? ⟨b, off + i, none⟩ = some (.int .i64 (O.getD i 0))) :
    Calls Try.prog 73 #[.slice (some ⟨b, off, none⟩) len cap, .int .i64 (P : Nat)] w fun e w' => e = .returned (.bool (okOrder P O)) ∧ w = w' := by
  have HC := Lib.hid hc
  clear hc
  have h64 := pow_le64 hP
  unfold maxLen at hl
  go_enter Try.func73, Try.ntmps73
  go_wp2
  go_loop [5, 10] (fun s i => ∃ k : Nat, k ≤ len ∧ i = .int .i64 k ∧ s = .int .i64 (seenTo O k : Nat) ∧ Hid (∀ j, j < k → okAt P O j = true)) (fun _ i => len - (intOf i).toNat)
  case atStart => exact ⟨0, Nat.zero_le _, rfl, rfl, Lib.hid (fun j hj => absurd hj (by omega))⟩
  case round =>
    obtain ⟨k, hk, rfl, rfl, H⟩ := hrel
    have hseen := seenTo_lt H.out
    by_cases hlt : k < len
    · have hsrc := HC.out k hlt
      have HB : Hid (okAt P O k = false → okOrder P O = false) := Lib.hid fun h => okOrder_bad (by omega) h
      cases hi : okIndex (O.getD k 0) (P : Nat) with
      | false =>
        have E : Hid (okOrder P O = false) := Lib.hid (HB.out (by
          unfold okIndex at hi
          unfold okAt
          rw [← Bool.and_assoc, hi]
          rfl))
        have HI := Lib.hid hi
        clear hi HB
        generalize O.getD k 0 = v at *
        go_wp2_with (go_at_call 80; refine (isIndex_any _ _ _).mono ?_; rintro e w' ⟨rfl, rfl⟩; rw [HI.out])
        go_ret
        exact ⟨by rw [E.out]; rfl, rfl⟩
      | true =>
        obtain ⟨q, hq, hqP⟩ : ∃ q : Nat, O.getD k 0 = q ∧ q < P := by
          simp only [okIndex, Bool.and_eq_true, decide_eq_true_eq] at hi
          exact ⟨(O.getD k 0).toNat, by omega, by omega⟩
        have HI := Lib.hid hi
        have HV : Hid (okAt P O k = !(seenTo O k).testBit q) := Lib.hid (by
          unfold okIndex at hi
          unfold okAt
          rw [← Bool.and_assoc, hi, hq]
          rfl)
        have HNX : Hid (seenTo O (k + 1) = seenTo O k ||| 2 ^ q) := Lib.hid (by
          show seenTo O k ||| 2 ^ (O.getD k 0).toNat = _
          rw [hq]; rfl)
        clear hi
        rw [hq] at hsrc HI
        clear hq
        cases ht : (seenTo O k).testBit q with
        | true =>
          have E : Hid (okOrder P O = false) := Lib.hid (HB.out (by rw [HV.out, ht]; rfl))
          have HT := Lib.hid ht
          clear ht HB HV
          go_wp2_with (first
            | (go_at_call 80; refine (isIndex_any _ _ _).mono ?_; rintro e w' ⟨rfl, rfl⟩; rw [HI.out])
            | (go_at_call 84; refine (isIn_any _ _ (by omega) (by omega) _).mono ?_; rintro e w' ⟨rfl, rfl⟩; rw [HT.out]))
          go_ret
          exact ⟨by rw [E.out]; rfl, rfl⟩
        | false =>
          have H' : Hid (∀ j, j < k + 1 → okAt P O j = true) := Lib.hid fun j hj => by
            by_cases e : j = k
            · rw [e, HV.out, ht]; rfl
            · exact H.out j (by omega)
          have HT := Lib.hid ht
          have h32 := pow_le32 (show q < 6 by omega)
          have e1 := bits_or6 (show seenTo O k < 64 by omega) (show 2 ^ q < 64 by omega)
          rw [← HNX.out] at e1
          have HS := Lib.hid (setOfN_any q (by omega))
          clear ht HB HV HNX
          generalize (2 : Nat) ^ q = z at *
          go_wp2_with (first
            | (go_at_call 80; refine (isIndex_any _ _ _).mono ?_; rintro e w' ⟨rfl, rfl⟩; rw [HI.out])
            | (go_at_call 84; refine (isIn_any _ _ (by omega) (by omega) _).mono ?_; rintro e w' ⟨rfl, rfl⟩; rw [HT.out])
            | (go_at_call 60; refine (HS.out _).mono ?_; rintro e w' ⟨rfl, rfl⟩))
          go_round
          case rel => exact ⟨k + 1, by omega, by go_num, rfl, H'⟩
          case measure => simp [intOf]; omega
    · obtain rfl : k = len := by omega
      have HE := Lib.hid (okOrder_all (by rw [hz]; exact H.out))
      rw [hz] at HE
      by_cases hkP : k = P
      · subst hkP
        go_wp2_with fail
        go_ret
        exact ⟨by rw [HE.out]; simp, rfl⟩
      · have hq : ((k : Int) == (P : Int)) = false := by rw [beq_eq_false_iff_ne]; omega
        rw [decide_eq_false hkP] at HE
        go_wp2_with fail
        go_ret
        exact ⟨by rw [HE.out]; rfl, rfl⟩
end Go.Proofs.Ytdnkigjcgdpbiaa
