/-
  IsRising: the program's closure and its answer.
-/
import Derived.Test.YtdnkigjcgdpbiaaSets
import Derived.Test.YtdnkigjcgdpbiaaPairsRising
namespace Go.Proofs.Ytdnkigjcgdpbiaa
open Go.RowKit
set_option linter.unusedVariables false

def risingF (A : List Int) (s t : Nat) : Bool := !decide (s ||| t = s) || decide (A.getD t 0 ≤ A.getD s 0)

set_option maxRecDepth 20000 in
theorem rising1_at (b off n0 l1 c1 s t : Nat) (p : Int) (A : List Int) (w : World) (hlen : A.length = l1) (hl : l1 ≤ 64) (hs : s < l1) (ht : t < l1) (ho : s ||| t < l1) (ha : s &&& t < l1)
    (hb : ∀ i, i < l1 → -10000 ≤ A.getD i 0 ∧ A.getD i 0 ≤ 10000) (p1 : w.cell? ⟨n0, 1, none⟩ = some (.slice (some ⟨b, off, none⟩) l1 c1)) (hc : ∀ i, i < l1 → w.cell? ⟨b, off + i, none⟩ = some (.int .i64 (A.getD i 0))) :
    Calls Try.prog 86 #[.int .i64 (s : Nat), .int .i64 (t : Nat), .pointer (some ⟨n0, 0, none⟩)] w fun e w' => e = .returned (.bool (risingF A s t)) ∧ Same w w' := by
  have e1 := bits_or6 (show s < 64 by omega) (show t < 64 by omega)
  have g1 := hc s hs
  have g2 := hc t ht
  by_cases hd : s ||| t = s
  · have E : Hid (risingF A s t = decide (A.getD t 0 ≤ A.getD s 0)) := Lib.hid (by unfold risingF; rw [decide_eq_true hd]; rfl)
    rw [E.out]
    rw [hd] at e1
    clear hc hb E hd ha ho
    generalize A.getD s 0 = v1 at *
    generalize A.getD t 0 = v2 at *
    go_enter Try.func86, Try.ntmps86
    go_wp2_with fail
    go_quiet (fail)
    go_wp2
    go_ret
    exact ⟨rfl, nq, rfl⟩
  · have E : Hid (risingF A s t = true) := Lib.hid (by unfold risingF; rw [decide_eq_false hd]; rfl)
    rw [E.out]
    have hq : (((s ||| t : Nat) : Int) == (s : Int)) = false := by rw [beq_eq_false_iff_ne]; omega
    clear hc hb E hd ha ho
    generalize s ||| t = d at *
    go_enter Try.func86, Try.ntmps86
    go_wp2_with fail
    go_quiet (fail)
    go_wp2
    go_ret
    exact ⟨rfl, nq, rfl⟩

set_option maxRecDepth 20000 in
theorem implRising_any (p : Int) (a1 : Option Addr) (l1 c1 : Nat) (A : List Int) (w : World) (hA : IAt w a1 l1 A) :
    Calls Try.prog 48 #[worthsV p a1 l1 c1] w (TwoOut w (pairsV risingF p A)) := by
  have hb1 : Below w.heap.size w (w.alloc (.cells #[.int .i64 p, .slice a1 l1 c1] 27)) := below1
  cases hok : okW p A with
  | false =>
    rw [pairsV_no hok]
    have HA := Lib.hid (hA.below hb1)
    have HOK := Lib.hid hok
    have HB1 := Lib.hid hb1
    clear hA hok hb1
    go_enter Try.func48, Try.ntmps48
    go_wp2_with fail
    refine (pairs_no p a1 l1 c1 A _ _ _ HA.out HOK.out).mono ?_
    rintro e w1 ⟨rfl, b1⟩
    go_wp2_with fail
    go_ret2
    exact ⟨rfl, below_after HB1.out (Nat.le_refl _) b1⟩
  | true =>
    obtain ⟨P, rfl, hP1, hP6, hlen, h0, hall⟩ := okW_true hok
    rw [pairsV_yes hok]
    have hl : l1 = 2 ^ P := hA.1.symm.trans hlen
    have h64 := pow_le64 hP6
    obtain ⟨b, off, rfl, hb, hc⟩ := w_at hA (by have := pow_ge2 hP1; omega)
    have hx : Box2 (w.alloc (.cells #[.int .i64 (P : Nat), .slice (some ⟨b, off, none⟩) l1 c1] 27)) w.heap.size 27 (.int .i64 (P : Nat)) (.slice (some ⟨b, off, none⟩) l1 c1) := heap1
    have hrule : RuleAt (w.alloc (.cells #[.int .i64 (P : Nat), .slice (some ⟨b, off, none⟩) l1 c1] 27)) 86 #[.pointer (some ⟨w.heap.size, 0, none⟩)] (wholeN P) (risingF A) := by
      intro W hW s t
      have hs := part_lt s
      have ht := part_lt t
      have ho := or_lt hs ht
      have ha := and_lt (s := s.1) ht
      rw [← hl] at hs ht ho ha
      exact rising1_at b off w.heap.size l1 c1 s.1 t.1 P A W hA.1 (by omega) hs ht ho ha (fun i hi => okAll_at hall (by rw [hA.1]; exact hi)) (show Box2 W w.heap.size 27 (.int .i64 (P : Nat)) (.slice (some ⟨b, off, none⟩) l1 c1) from (hW.block w.heap.size hx.lt).trans hx).c1
        (fun i hi => (hW.cell (p := ⟨b, off + i, none⟩) (by simp; omega)).trans ((below1.cell (p := ⟨b, off + i, none⟩) hb).trans (hc i hi)))
    have HC := Lib.hid (callsIn_wide.1 (pairs_yes_IsRising P _ l1 c1 A _ (risingF A) _ (hA.below hb1) hok hP6 hrule))
    have HB1 := Lib.hid hb1
    clear hA hok hb1 hx hrule hc hl hlen h64 hall h0
    go_enter Try.func48, Try.ntmps48
    go_wp2_with fail
    refine HC.out.mono ?_
    rintro e w1 ⟨rfl, b1⟩
    go_wp2_with fail
    go_ret2
    exact ⟨rfl, below_after HB1.out (Nat.le_refl _) b1⟩
end Go.Proofs.Ytdnkigjcgdpbiaa
