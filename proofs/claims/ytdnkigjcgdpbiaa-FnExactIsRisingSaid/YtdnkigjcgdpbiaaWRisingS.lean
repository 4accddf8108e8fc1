/-
  IsRising: the reference's answer.
-/
import Derived.Test.YtdnkigjcgdpbiaaWRisingI
import Derived.Test.YtdnkigjcgdpbiaaWIs
import Derived.Test.YtdnkigjcgdpbiaaSpecIn
namespace Go.Proofs.Ytdnkigjcgdpbiaa
open Go.RowKit
set_option linter.unusedVariables false

/-- a set is not worth more than with one player more -/
def riseP (A : List Int) (s p : Nat) : Bool := s.testBit p || decide (A.getD s 0 ≤ A.getD (s + 2 ^ p) 0)
theorem rising_iff {P : Nat} (hP : P ≤ 6) {A : List Int} : allPairs (wholeN P) (risingF A) = true ↔ ∀ s, s < 2 ^ P → ∀ p, p < P → riseP A s p = true := by
  have h64 := pow_le64 hP
  rw [allPairs_iff]
  constructor
  · intro h s hs p hp
    cases e : s.testBit p with
    | true => unfold riseP; rw [e]; rfl
    | false =>
      have ha := add_lt hP hs hp e
      have := h (s + 2 ^ p) ha s hs
      unfold risingF at this
      rw [decide_eq_true (add_bit (show s < 64 by omega) (show p < 6 by omega) e).2] at this
      unfold riseP
      rw [e]
      simpa using this
  · intro h s
    induction s using Nat.strongRecOn with
    | _ s ih =>
      intro hs t ht
      unfold risingF
      by_cases e : s ||| t = s
      · rw [decide_eq_true e]
        rcases less_bit (show s < 64 by omega) (show t < 64 by omega) e with rfl | ⟨p, hp, h1, h2, h3, h4⟩
        · simp
        · have hpP : p < P := lt_of_pow (by omega)
          have hpos := pow_pos2 p
          have i1 := ih (s - 2 ^ p) (by omega) (by omega) t ht
          unfold risingF at i1
          rw [decide_eq_true h2] at i1
          have i2 := h (s - 2 ^ p) (by omega) p hpP
          unfold riseP at i2
          rw [h3, show s - 2 ^ p + 2 ^ p = s by omega] at i2
          simp only [Bool.not_true, Bool.false_or, decide_eq_true_eq] at i1 i2 ⊢
          omega
      · rw [decide_eq_false e]
        rfl

set_option maxHeartbeats 1000000 in
set_option maxRecDepth 20000 in
theorem specRising_at (b off l1 c1 P : Nat) (A : List Int) (w : World) (hA : IAt w (some ⟨b, off, none⟩) l1 A) (hok : okW (P : Nat) A = true) (hP : P ≤ 6) (hl : l1 = 2 ^ P) (hl0 : 0 < l1) (h64 : l1 ≤ 64)
    (hc : ∀ i, i < l1 → w.cell? ⟨b, off + i, none⟩ = some (.int .i64 (A.getD i 0))) :
    Calls Try.prog 47 #[worthsV (P : Nat) (some ⟨b, off, none⟩) l1 c1] w (TwoOut w (allPairs (wholeN P) (risingF A), true)) := by
  have hb1 : Below w.heap.size w (w.alloc (.cells #[.int .i64 (P : Nat), .slice (some ⟨b, off, none⟩) l1 c1] 27)) := below1
  have hx : Box2 (w.alloc (.cells #[.int .i64 (P : Nat), .slice (some ⟨b, off, none⟩) l1 c1] 27)) w.heap.size 27 (.int .i64 (P : Nat)) (.slice (some ⟨b, off, none⟩) l1 c1) := heap1
  have HIS := Lib.hid ((specIsW_any w.heap.size (P : Nat) (some ⟨b, off, none⟩) l1 c1 A _ hx (hA.below hb1)))
  have HOK := Lib.hid hok
  have HB1 := Lib.hid hb1
  have HC : Hid (∀ i, i < l1 → (w.alloc (.cells #[.int .i64 (P : Nat), .slice (some ⟨b, off, none⟩) l1 c1] 27)).cell? ⟨b, off + i, none⟩ = some (.int .i64 (A.getD i 0))) :=
    Lib.hid fun i hi => (hb1.cell (p := ⟨b, off + i, none⟩) (World.block_lt_of_cell? w ⟨b, off + i, none⟩ (hc i hi))).trans (hc i hi)
  have HADD : Hid (∀ s p, s < l1 → p < P → s.testBit p = false → s + 2 ^ p < l1) := Lib.hid fun s p hs hp h => by rw [hl] at hs ⊢; exact add_lt hP hs hp h
  have HEND : Hid ((∀ s, s < l1 → ∀ p, p < P → riseP A s p = true) → allPairs (wholeN P) (risingF A) = true) := Lib.hid fun h => (rising_iff hP).2 (by rw [← hl]; exact h)
  have HBAD : Hid (∀ s p, s < l1 → p < P → riseP A s p = false → allPairs (wholeN P) (risingF A) = false) := Lib.hid fun s p hs hp h => by
    cases e : allPairs (wholeN P) (risingF A) with
    | false => rfl
    | true =>
      rw [rising_iff hP, ← hl] at e
      rw [e s hs p hp] at h
      cases h
  obtain ⟨⟨p0, p1⟩, _⟩ := hx.all
  clear hA hok hb1 hx hc hl
  generalize hW0 : w.alloc (.cells #[.int .i64 (P : Nat), .slice (some ⟨b, off, none⟩) l1 c1] 27) = W0 at *
  go_enter Try.func47, Try.ntmps47
  go_wp2_with fail
  clear hW0
  refine HIS.out.mono ?_
  rintro e w1 ⟨rfl, n1, rfl⟩
  rw [HOK.out]
  go_wp2_with fail
  go_loopw [11] (fun i wr => ∃ k m : Nat, k ≤ l1 ∧ i = .int .i64 k ∧ Hid (∀ s, s < k → ∀ p, p < P → riseP A s p = true) ∧ wr = W0.drewN m) (fun i _ => l1 - (intOf i).toNat)
  case atStart => exact ⟨0, n1, Nat.zero_le _, rfl, Lib.hid (fun s hs => absurd hs (by omega)), rfl⟩
  case round =>
    obtain ⟨k, m, hk, rfl, HF, hw⟩ := hrel
    subst hw
    by_cases hlt : k < l1
    · have hsk := HC.out k hlt
      obtain ⟨v1, hv1⟩ : ∃ v, A.getD k 0 = v := ⟨_, rfl⟩
      rw [hv1] at hsk
      have HV1 := Lib.hid hv1
      clear hv1
      go_wp2_with fail
      go_loopw [5] (fun j wj => ∃ q mm : Nat, q ≤ P ∧ j = .int .i64 q ∧ Hid (∀ t, t < q → riseP A k t = true) ∧ wj = W0.drewN mm) (fun j _ => P - (intOf j).toNat)
      case atStart => exact ⟨0, m, Nat.zero_le _, rfl, Lib.hid (fun t ht => absurd ht (by omega)), rfl⟩
      case round =>
        obtain ⟨q, mm, hq, rfl, HG, hw⟩ := hrel
        subst hw
        by_cases hql : q < P
        · have HD : Hid (riseP A k q = (k.testBit q || decide (v1 ≤ A.getD (k + 2 ^ q) 0))) := Lib.hid (by unfold riseP; rw [HV1.out])
          have HB2 := Lib.hid (HBAD.out k q hlt hql)
          have HG2 : Hid (riseP A k q = true → ∀ t, t < q + 1 → riseP A k t = true) := Lib.hid fun e t ht => by
            by_cases h : t = q
            · rw [h]; exact e
            · exact HG.out t (by omega)
          generalize riseP A k q = cf at *
          cases ht : k.testBit q with
          | true =>
            have HT : Hid (∀ t, t < q + 1 → riseP A k t = true) := Lib.hid (HG2.out (by rw [HD.out, ht]; rfl))
            have HTB := Lib.hid ht
            clear HD HB2 HG2 ht
            go_wp2_with fail
            go_quiet (first | (go_at_call 68; refine (specIn_any _ _ (by omega) (by omega) _).mono ?_; rintro e w2 ⟨rfl, h2⟩; rw [HTB.out]; exact ⟨rfl, _, h2.symm⟩))
            go_wp2_with fail
            go_roundw
            case rel => exact ⟨q + 1, mm + nq, by omega, by go_num, HT, by first | rfl | exact World.drewN_drewN _ _ _⟩
            case measure => simp [intOf]; omega
          | false =>
            have hadd := HADD.out k q hlt hql ht
            have hsq := HC.out _ hadd
            have hpw : (2 : Nat) ^ q ≤ 64 := Nat.le_trans (Nat.pow_le_pow_right (by decide) (show q ≤ 6 by omega)) (by decide)
            have HTB := Lib.hid ht
            rw [ht] at HD
            have hcast : ((2 ^ q : Nat) : Int) = (2 : Int) ^ q := by simp
            have hwr : IntKind.i64.wrap ((2 : Int) ^ q) = ((2 ^ q : Nat) : Int) := by rw [← hcast]; clear hcast hsq hadd; generalize (2 : Nat) ^ q = z at *; rw [IntKind.wrap_i64]; omega
            clear ht hcast
            generalize A.getD (k + 2 ^ q) 0 = v2 at *
            generalize (2 : Nat) ^ q = z at *
            by_cases hle : v1 ≤ v2
            · have HT : Hid (∀ t, t < q + 1 → riseP A k t = true) := Lib.hid (HG2.out (by rw [HD.out, decide_eq_true hle]; rfl))
              clear HD HB2 HG2
              go_wp2_with fail
              go_quiet (first | (go_at_call 68; refine (specIn_any _ _ (by omega) (by omega) _).mono ?_; rintro e w2 ⟨rfl, h2⟩; rw [HTB.out]; exact ⟨rfl, _, h2.symm⟩))
              go_wp2_with fail
              go_roundw
              case rel => exact ⟨q + 1, mm + nq, by omega, by go_num, HT, by first | rfl | exact World.drewN_drewN _ _ _⟩
              case measure => simp [intOf]; omega
            · have HT : Hid (allPairs (wholeN P) (risingF A) = false) := Lib.hid (HB2.out (by rw [HD.out, decide_eq_false hle]; rfl))
              clear HD HB2 HG2
              go_wp2_with fail
              go_quiet (first | (go_at_call 68; refine (specIn_any _ _ (by omega) (by omega) _).mono ?_; rintro e w2 ⟨rfl, h2⟩; rw [HTB.out]; exact ⟨rfl, _, h2.symm⟩))
              go_wp2_with fail
              go_ret2
              exact ⟨by rw [HT.out]; rfl, HB1.out.trans (same_below ⟨mm + nq, by first | rfl | exact World.drewN_drewN _ _ _⟩ _)⟩
        · obtain rfl : q = P := by omega
          have HT : Hid (∀ s, s < k + 1 → ∀ t, t < q → riseP A s t = true) := Lib.hid fun s hs t ht => by
            by_cases h : s = k
            · rw [h]; exact HG.out t ht
            · exact HF.out s (by omega) t ht
          go_wp2_with fail
          go_roundw
          case rel => exact ⟨k + 1, mm, by omega, by go_num, HT, rfl⟩
          case measure => simp [intOf]; omega
    · obtain rfl : k = l1 := by omega
      go_wp2_with fail
      go_ret2
      exact ⟨by rw [HEND.out HF.out]; rfl, HB1.out.trans (same_below ⟨m, rfl⟩ _)⟩

set_option maxRecDepth 20000 in
theorem specRising_any (p : Int) (a1 : Option Addr) (l1 c1 : Nat) (A : List Int) (w : World) (hA : IAt w a1 l1 A) :
    Calls Try.prog 47 #[worthsV p a1 l1 c1] w (TwoOut w (pairsV risingF p A)) := by
  cases hok : okW p A with
  | false =>
    rw [pairsV_no hok]
    have HOK := Lib.hid hok
    have HA := Lib.hid hA
    clear hA hok
    go_enter Try.func47, Try.ntmps47
    go_wp2_with fail
    refine (specIsW_any w.heap.size p a1 l1 c1 A _ heap1 (HA.out.below below1)).mono ?_
    rintro e w1 ⟨rfl, n1, rfl⟩
    rw [HOK.out]
    go_wp2_with fail
    go_ret2
    exact ⟨rfl, below1.trans (same_below ⟨n1, rfl⟩ _)⟩
  | true =>
    obtain ⟨P, rfl, hP1, hP6, hlen, h0, hall⟩ := okW_true hok
    rw [pairsV_yes hok]
    have hl : l1 = 2 ^ P := hA.1.symm.trans hlen
    have h64 := pow_le64 hP6
    have h2 := pow_ge2 hP1
    obtain ⟨b, off, rfl, hb, hc⟩ := w_at hA (by omega)
    exact specRising_at b off l1 c1 P A w hA hok hP6 hl (by omega) (by omega) hc
end Go.Proofs.Ytdnkigjcgdpbiaa
