/-
  The reference: is a player valid?
-/
import Derived.Test.YtnbmfnhbmbalmaaPlValid
namespace Go.Proofs.Ytnbmfnhbmbalmaa
open Go.RowKit Go.ChangeShapes Go.WideShapes
set_option linter.unusedVariables false

set_option maxHeartbeats 1000000 in
set_option maxRecDepth 20000 in
theorem specPl_loops (k : Nat) (a1 : Option Addr) (l1 c1 : Nat) (a2 : Option Addr) (l2 c2 : Nat) (M N : List Int) (own other : Int) (w : World) (p0 : w.cell? ⟨k, 0, none⟩ = some (.slice a1 l1 c1)) (p1 : w.cell? ⟨k, 1, none⟩ = some (.slice a2 l2 c2))
    (hM : IAt w a1 l1 M) (hN : IAt w a2 l2 N) (S1 : Hid (inB 1 6 own = true)) (S2 : Hid (inB 1 6 other = true)) (S3 : Hid (inB 1 8 (l1 : Int) = true)) (o1 : 1 ≤ own) (o2 : own ≤ 6) (o3 : 1 ≤ other) (o4 : other ≤ 6) (g1 : 1 ≤ l1) (g8 : l1 ≤ 8)
    (hp1 : 0 ≤ (l1 : Int) * other) (hp2 : (l1 : Int) * other ≤ 48) (hq : ((l2 : Int) != (l1 : Int) * other) = false) (hl2 : l2 ≤ 48) (hl21 : 1 ≤ l2) :
    Calls Try.prog 56 #[.pointer (some ⟨k, 0, none⟩), .int .i64 own, .int .i64 other] w fun e w' => e = .returned (.bool (okAll 0 (own - 1) M && okAll 0 ((l1 : Int) - 1) N)) ∧ w = w' := by
  obtain ⟨hz1, hm1, _, h1 | ⟨b, off, rfl, hb, hc⟩⟩ := hM
  · omega
  obtain ⟨hz2, hm2, _, h2 | ⟨b', off', rfl, hb', hc'⟩⟩ := hN
  · omega
  have HC := Lib.hid hc
  have HC' := Lib.hid hc'
  have HZ1 := Lib.hid hz1
  have HZ2 := Lib.hid hz2
  clear hc hc' hz1 hz2 hm1 hm2
  go_enter Try.func56, Try.ntmps56
  go_wp2_with (go_at_call 60; refine (inR_any _ _ _ _).mono ?_; rintro e w' ⟨rfl, rfl⟩; first | rw [S1.out] | rw [S2.out] | rw [S3.out])
  clear S1 S2 S3 hq
  go_loop [8] (fun i => ∃ q : Nat, q ≤ l1 ∧ i = .int .i64 q ∧ Hid (∀ j, j < q → inB 0 (own - 1) (M.getD j 0) = true)) (fun i => l1 - (intOf i).toNat)
  case atStart => exact ⟨0, Nat.zero_le _, rfl, Lib.hid (fun j hj => absurd hj (by omega))⟩
  case round =>
    obtain ⟨q, hq, rfl, H⟩ := hrel
    by_cases hlt : q < l1
    · have hsrc := HC.out q hlt
      cases hbq : inB 0 (own - 1) (M.getD q 0) with
      | false =>
        have E := Lib.hid (okAll_bad (by rw [HZ1.out]; exact hlt) hbq)
        have HB := Lib.hid hbq
        clear hbq
        generalize M.getD q 0 = v at *
        go_wp2_with (go_at_call 60; refine (inR_any _ _ _ _).mono ?_; rintro e w' ⟨rfl, rfl⟩; rw [HB.out])
        go_ret
        exact ⟨by rw [E.out]; rfl, rfl⟩
      | true =>
        have H' : Hid (∀ j, j < q + 1 → inB 0 (own - 1) (M.getD j 0) = true) := Lib.hid fun j hj => by
          by_cases e : j = q
          · rw [e]; exact hbq
          · exact H.out j (by omega)
        have HB := Lib.hid hbq
        clear hbq
        generalize M.getD q 0 = v at *
        go_wp2_with (go_at_call 60; refine (inR_any _ _ _ _).mono ?_; rintro e w' ⟨rfl, rfl⟩; rw [HB.out])
        go_round
        case rel => exact ⟨q + 1, by omega, by go_num, H'⟩
        case measure => simp [intOf]; omega
    · obtain rfl : q = l1 := by omega
      have EM := Lib.hid (okAll_all (lo := 0) (hi := own - 1) (by rw [HZ1.out]; exact H.out))
      go_wp2_with fail
      go_loop [9] (fun i => ∃ k2 : Nat, k2 ≤ l2 ∧ i = .int .i64 k2 ∧ Hid (∀ j, j < k2 → inB 0 ((q : Int) - 1) (N.getD j 0) = true)) (fun i => l2 - (intOf i).toNat)
      case atStart => exact ⟨0, Nat.zero_le _, rfl, Lib.hid (fun j hj => absurd hj (by omega))⟩
      case round =>
        obtain ⟨k2, hk2, rfl, H2⟩ := hrel
        by_cases hlt2 : k2 < l2
        · have hsrc := HC'.out k2 hlt2
          cases hbq : inB 0 ((q : Int) - 1) (N.getD k2 0) with
          | false =>
            have E := Lib.hid (okAll_bad (by rw [HZ2.out]; exact hlt2) hbq)
            have HB := Lib.hid hbq
            clear hbq
            generalize N.getD k2 0 = v at *
            go_wp2_with (go_at_call 60; refine (inR_any _ _ _ _).mono ?_; rintro e w' ⟨rfl, rfl⟩; rw [HB.out])
            go_ret
            exact ⟨by rw [E.out, EM.out]; rfl, rfl⟩
          | true =>
            have H' : Hid (∀ j, j < k2 + 1 → inB 0 ((q : Int) - 1) (N.getD j 0) = true) := Lib.hid fun j hj => by
              by_cases e : j = k2
              · rw [e]; exact hbq
              · exact H2.out j (by omega)
            have HB := Lib.hid hbq
            clear hbq
            generalize N.getD k2 0 = v at *
            go_wp2_with (go_at_call 60; refine (inR_any _ _ _ _).mono ?_; rintro e w' ⟨rfl, rfl⟩; rw [HB.out])
            go_round
            case rel => exact ⟨k2 + 1, by omega, by go_num, H'⟩
            case measure => simp [intOf]; omega
        · obtain rfl : k2 = l2 := by omega
          have EN := Lib.hid (okAll_all (lo := 0) (hi := (q : Int) - 1) (by rw [HZ2.out]; exact H2.out))
          go_wp2_with fail
          go_ret
          exact ⟨by rw [EM.out, EN.out]; rfl, rfl⟩

set_option maxRecDepth 20000 in
theorem specPl_at (k : Nat) (a1 : Option Addr) (l1 c1 : Nat) (a2 : Option Addr) (l2 c2 : Nat) (M N : List Int) (own other : Int) (w : World) (p0 : w.cell? ⟨k, 0, none⟩ = some (.slice a1 l1 c1)) (p1 : w.cell? ⟨k, 1, none⟩ = some (.slice a2 l2 c2))
    (hM : IAt w a1 l1 M) (hN : IAt w a2 l2 N) :
    Calls Try.prog 56 #[.pointer (some ⟨k, 0, none⟩), .int .i64 own, .int .i64 other] w fun e w' => e = .returned (.bool (okPl M N own other)) ∧ w = w' := by
  have hm1 := hM.2.1
  have hm2 := hN.2.1
  cases s1 : inB 1 6 own with
  | false =>
    rw [okPl_1 s1]
    have S1 := Lib.hid s1
    clear s1 hM hN
    go_enter Try.func56, Try.ntmps56
    go_wp2_with (go_at_call 60; refine (inR_any _ _ _ _).mono ?_; rintro e w' ⟨rfl, rfl⟩; rw [S1.out])
    go_ret
    exact ⟨rfl, rfl⟩
  | true =>
    cases s2 : inB 1 6 other with
    | false =>
      rw [okPl_2 s2]
      have S1 := Lib.hid s1
      have S2 := Lib.hid s2
      clear s1 s2 hM hN
      go_enter Try.func56, Try.ntmps56
      go_wp2_with (go_at_call 60; refine (inR_any _ _ _ _).mono ?_; rintro e w' ⟨rfl, rfl⟩; first | rw [S1.out] | rw [S2.out])
      go_ret
      exact ⟨rfl, rfl⟩
    | true =>
      cases s3 : inB 1 8 (l1 : Int) with
      | false =>
        rw [okPl_3 hM.1 s3]
        have S1 := Lib.hid s1
        have S2 := Lib.hid s2
        have S3 := Lib.hid s3
        clear s1 s2 s3 hM hN
        go_enter Try.func56, Try.ntmps56
        go_wp2_with (go_at_call 60; refine (inR_any _ _ _ _).mono ?_; rintro e w' ⟨rfl, rfl⟩; first | rw [S1.out] | rw [S2.out] | rw [S3.out])
        go_ret
        exact ⟨rfl, rfl⟩
      | true =>
        obtain ⟨o1, o2⟩ := inB_true.1 s1
        obtain ⟨o3, o4⟩ := inB_true.1 s2
        obtain ⟨g1, g8⟩ := inB8.1 s3
        have hp1 : 0 ≤ (l1 : Int) * other := Int.mul_nonneg (by omega) (by omega)
        have hp2 : (l1 : Int) * other ≤ 48 := by
          have := Int.mul_le_mul (show (l1 : Int) ≤ 8 by omega) o4 (by omega) (by omega); omega
        by_cases hl : (l2 : Int) = (l1 : Int) * other
        · have hp0 : 1 ≤ (l1 : Int) * other := by
            have := Int.mul_le_mul (show (1 : Int) ≤ (l1 : Int) by omega) o3 (by omega) (by omega); omega
          rw [okPl_in s1 s2 hM.1 s3 hN.1 hl]
          exact specPl_loops k a1 l1 c1 a2 l2 c2 M N own other w p0 p1 hM hN (Lib.hid s1) (Lib.hid s2) (Lib.hid s3) o1 o2 o3 o4 g1 g8 hp1 hp2 (by rw [bne_eq_false_iff_eq]; exact hl) (by omega) (by omega)
        · rw [okPl_4 hM.1 hN.1 hl]
          have hq : ((l2 : Int) != (l1 : Int) * other) = true := by rw [bne_iff_ne]; exact hl
          have S1 := Lib.hid s1
          have S2 := Lib.hid s2
          have S3 := Lib.hid s3
          clear s1 s2 s3 hM hN hl
          go_enter Try.func56, Try.ntmps56
          go_wp2_with (go_at_call 60; refine (inR_any _ _ _ _).mono ?_; rintro e w' ⟨rfl, rfl⟩; first | rw [S1.out] | rw [S2.out] | rw [S3.out])
          go_ret
          exact ⟨rfl, rfl⟩

theorem specPl_any (a1 : Option Addr) (l1 c1 : Nat) (a2 : Option Addr) (l2 c2 : Nat) (M N : List Int) (own other : Int) (w : World) (hM : IAt w a1 l1 M) (hN : IAt w a2 l2 N) :
    Calls Try.prog 22 #[playerV a1 l1 c1 a2 l2 c2, .int .i64 own, .int .i64 other] w (BoolOut w (okPl M N own other)) := by
  have HM := Lib.hid hM
  have HN := Lib.hid hN
  clear hM hN
  go_enter Try.func22, Try.ntmps22
  go_wp2_with fail
  have hx : Box2 (w.alloc (.cells #[.slice a1 l1 c1, .slice a2 l2 c2] 44)) w.heap.size 44 (.slice a1 l1 c1) (.slice a2 l2 c2) := heap1
  refine (specPl_at w.heap.size a1 l1 c1 a2 l2 c2 M N own other _ hx.c0 hx.c1 (HM.out.below below1) (HN.out.below below1)).mono ?_
  clear hx
  rintro e w' ⟨rfl, rfl⟩
  go_wp2_with fail
  go_ret
  exact ⟨rfl, below1⟩
end Go.Proofs.Ytnbmfnhbmbalmaa
