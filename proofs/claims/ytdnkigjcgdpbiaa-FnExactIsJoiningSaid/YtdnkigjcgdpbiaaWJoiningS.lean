/-
  IsJoining: the reference's answer.
-/
import Derived.Test.YtdnkigjcgdpbiaaWJoiningI
import Derived.Test.YtdnkigjcgdpbiaaWIs
namespace Go.Proofs.Ytdnkigjcgdpbiaa
open Go.RowKit
set_option linter.unusedVariables false

set_option maxHeartbeats 1000000 in
set_option maxRecDepth 20000 in
theorem specJoining_at (b off l1 c1 P : Nat) (A : List Int) (w : World) (hA : IAt w (some ⟨b, off, none⟩) l1 A) (hok : okW (P : Nat) A = true) (hl : l1 = 2 ^ P) (hl0 : 0 < l1) (h64 : l1 ≤ 64)
    (hc : ∀ i, i < l1 → w.cell? ⟨b, off + i, none⟩ = some (.int .i64 (A.getD i 0))) (hall : ∀ i, i < l1 → -10000 ≤ A.getD i 0 ∧ A.getD i 0 ≤ 10000) :
    Calls Try.prog 49 #[worthsV (P : Nat) (some ⟨b, off, none⟩) l1 c1] w (TwoOut w (allPairs (wholeN P) (joiningF A), true)) := by
  have hb1 : Below w.heap.size w (w.alloc (.cells #[.int .i64 (P : Nat), .slice (some ⟨b, off, none⟩) l1 c1] 27)) := below1
  have hx : Box2 (w.alloc (.cells #[.int .i64 (P : Nat), .slice (some ⟨b, off, none⟩) l1 c1] 27)) w.heap.size 27 (.int .i64 (P : Nat)) (.slice (some ⟨b, off, none⟩) l1 c1) := heap1
  have HIS := Lib.hid ((specIsW_any w.heap.size (P : Nat) (some ⟨b, off, none⟩) l1 c1 A _ hx (hA.below hb1)))
  have HOK := Lib.hid hok
  have HB1 := Lib.hid hb1
  have HC : Hid (∀ i, i < l1 → (w.alloc (.cells #[.int .i64 (P : Nat), .slice (some ⟨b, off, none⟩) l1 c1] 27)).cell? ⟨b, off + i, none⟩ = some (.int .i64 (A.getD i 0))) :=
    Lib.hid fun i hi => (hb1.cell (p := ⟨b, off + i, none⟩) (World.block_lt_of_cell? w ⟨b, off + i, none⟩ (hc i hi))).trans (hc i hi)
  have HALL := Lib.hid hall
  have HOR : Hid (∀ s t, s < l1 → t < l1 → s ||| t < l1) := Lib.hid fun s t hs ht => by rw [hl] at hs ht ⊢; exact or_lt hs ht
  have HAND : Hid (∀ s t, s < l1 → t < l1 → s &&& t < l1) := Lib.hid fun s t hs ht => by rw [hl] at hs ht ⊢; exact and_lt ht
  have HEND : Hid ((∀ s, s < l1 → ∀ t, t < l1 → joiningF A s t = true) → allPairs (wholeN P) (joiningF A) = true) := Lib.hid fun h => allPairs_iff.2 (by rw [← hl]; exact h)
  have HBAD : Hid (∀ s t, s < l1 → t < l1 → joiningF A s t = false → allPairs (wholeN P) (joiningF A) = false) := Lib.hid fun s t hs ht h => by
    cases e : allPairs (wholeN P) (joiningF A) with
    | false => rfl
    | true =>
      rw [allPairs_iff, ← hl] at e
      rw [e s hs t ht] at h
      cases h
  obtain ⟨⟨p0, p1⟩, _⟩ := hx.all
  clear hA hok hb1 hx hc hall hl
  generalize hW0 : w.alloc (.cells #[.int .i64 (P : Nat), .slice (some ⟨b, off, none⟩) l1 c1] 27) = W0 at *
  go_enter Try.func49, Try.ntmps49
  go_wp2_with fail
  clear hW0
  refine HIS.out.mono ?_
  rintro e w1 ⟨rfl, n1, rfl⟩
  rw [HOK.out]
  go_wp2_with fail
  go_loopw [11] (fun i wr => ∃ k m : Nat, k ≤ l1 ∧ i = .int .i64 k ∧ Hid (∀ s, s < k → ∀ t, t < l1 → joiningF A s t = true) ∧ wr = W0.drewN m) (fun i _ => l1 - (intOf i).toNat)
  case atStart => exact ⟨0, n1, Nat.zero_le _, rfl, Lib.hid (fun s hs => absurd hs (by omega)), rfl⟩
  case round =>
    obtain ⟨k, m, hk, rfl, HF, hw⟩ := hrel
    subst hw
    by_cases hlt : k < l1
    · have hsk := HC.out k hlt
      obtain ⟨v1, hv1⟩ : ∃ v, A.getD k 0 = v := ⟨_, rfl⟩
      have a1 := HALL.out k hlt
      rw [hv1] at hsk a1
      obtain ⟨h1, h2⟩ := a1
      have HV1 := Lib.hid hv1
      clear hv1
      go_wp2_with fail
      go_loopw [17] (fun j wj => ∃ q mm : Nat, q ≤ l1 ∧ j = .int .i64 q ∧ Hid (∀ t, t < q → joiningF A k t = true) ∧ wj = W0.drewN mm) (fun j _ => l1 - (intOf j).toNat)
      case atStart => exact ⟨0, m, Nat.zero_le _, rfl, Lib.hid (fun t ht => absurd ht (by omega)), rfl⟩
      case round =>
        obtain ⟨q, mm, hq, rfl, HG, hw⟩ := hrel
        subst hw
        by_cases hql : q < l1
        · have hsq := HC.out q hql
          have hso := HC.out _ (HOR.out k q hlt hql)
          have ho := HOR.out k q hlt hql
          have a2 := HALL.out q hql
          have a3 := HALL.out _ ho
          have e1 := bits_or6 (show k < 64 by omega) (show q < 64 by omega)
          have e2 := bits_and6 (show k < 64 by omega) (show q < 64 by omega)
          have HD : Hid (joiningF A k q = (!decide (k &&& q = 0) || decide (v1 + A.getD q 0 ≤ A.getD (k ||| q) 0))) := Lib.hid (by unfold joiningF; rw [HV1.out])
          have HB2 := Lib.hid (HBAD.out k q hlt hql)
          have HG2 : Hid (joiningF A k q = true → ∀ t, t < q + 1 → joiningF A k t = true) := Lib.hid fun e t ht => by
            by_cases h : t = q
            · rw [h]; exact e
            · exact HG.out t (by omega)
          generalize joiningF A k q = cf at *
          generalize A.getD q 0 = v2 at *
          generalize A.getD (k ||| q) 0 = v3 at *
          generalize k ||| q = o at *
          generalize k &&& q = d at *
          obtain ⟨h3, h4⟩ := a2
          obtain ⟨h5, h6⟩ := a3
          by_cases hd : d = 0
          · subst hd
            by_cases hle : v1 + v2 ≤ v3
            · have HT : Hid (∀ t, t < q + 1 → joiningF A k t = true) := Lib.hid (HG2.out (by rw [HD.out, decide_eq_true hle]; rfl))
              clear HD HB2 HG2
              go_wp2_with fail
              go_quiet (fail)
              go_wp2_with fail
              go_roundw
              case rel => exact ⟨q + 1, mm + nq, by omega, by go_num, HT, by first | rfl | exact World.drewN_drewN _ _ _⟩
              case measure => simp [intOf]; omega
            · have HT : Hid (allPairs (wholeN P) (joiningF A) = false) := Lib.hid (HB2.out (by rw [HD.out, decide_eq_false hle]; rfl))
              clear HD HB2 HG2
              go_wp2_with fail
              go_quiet (fail)
              go_wp2_with fail
              go_ret2
              exact ⟨by rw [HT.out]; rfl, HB1.out.trans (same_below ⟨mm + nq, by first | rfl | exact World.drewN_drewN _ _ _⟩ _)⟩
          · have HT : Hid (∀ t, t < q + 1 → joiningF A k t = true) := Lib.hid (HG2.out (by rw [HD.out, decide_eq_false hd]; rfl))
            have hdq : ((d : Int) == 0) = false := by rw [beq_eq_false_iff_ne]; omega
            clear HD HB2 HG2 hd
            go_wp2_with fail
            go_quiet (fail)
            go_wp2_with fail
            go_roundw
            case rel => exact ⟨q + 1, mm + nq, by omega, by go_num, HT, by first | rfl | exact World.drewN_drewN _ _ _⟩
            case measure => simp [intOf]; omega
        · obtain rfl : q = l1 := by omega
          have HT : Hid (∀ s, s < k + 1 → ∀ t, t < q → joiningF A s t = true) := Lib.hid fun s hs t ht => by
            by_cases h : s = k
            · rw [h]; exact HG.out t ht
            · exact HF.out s (by omega) t ht
          go_wp2_with fail
          go_roundw
          case rel => exact ⟨k + 1, mm, by omega, by go_num, HT, rfl⟩
          case measure => simp [intOf]; omega
    · obtain rfl : k = l1 := by omega
      go_wp2_with fail
      go_ret2
      exact ⟨by rw [HEND.out HF.out]; rfl, HB1.out.trans (same_below ⟨m, rfl⟩ _)⟩

set_option maxRecDepth 20000 in
theorem specJoining_any (p : Int) (a1 : Option Addr) (l1 c1 : Nat) (A : List Int) (w : World) (hA : IAt w a1 l1 A) :
    Calls Try.prog 49 #[worthsV p a1 l1 c1] w (TwoOut w (pairsV joiningF p A)) := by
  cases hok : okW p A with
  | false =>
    rw [pairsV_no hok]
    have HOK := Lib.hid hok
    have HA := Lib.hid hA
    clear hA hok
    go_enter Try.func49, Try.ntmps49
    go_wp2_with fail
    refine (specIsW_any w.heap.size p a1 l1 c1 A _ heap1 (HA.out.below below1)).mono ?_
    rintro e w1 ⟨rfl, n1, rfl⟩
    rw [HOK.out]
    go_wp2_with fail
    go_ret2
    exact ⟨rfl, below1.trans (same_below ⟨n1, rfl⟩ _)⟩
  | true =>
    obtain ⟨P, rfl, hP1, hP6, hlen, h0, hall⟩ := okW_true hok
    rw [pairsV_yes hok]
    have hl : l1 = 2 ^ P := hA.1.symm.trans hlen
    have h64 := pow_le64 hP6
    have h2 := pow_ge2 hP1
    obtain ⟨b, off, rfl, hb, hc⟩ := w_at hA (by omega)
    exact specJoining_at b off l1 c1 P A w hA hok hl (by omega) (by omega) hc (fun i hi => okAll_at hall (by rw [hA.1]; exact hi))
end Go.Proofs.Ytdnkigjcgdpbiaa
