/-
  MoreInOrder: the program's answer.
-/
import Derived.Test.YtnlknofcdapalaaWMore
import Derived.Test.YtnlknofcdapalaaOut
namespace Go.Proofs.Ytnlknofcdapalaa
open Go.RowKit
set_option linter.unusedVariables false

set_option maxHeartbeats 1000000 in
set_option maxRecDepth 20000 in
theorem implMore_any (p : Int) (a1 : Option Addr) (l1 c1 : Nat) (A : List Int) (a2 : Option Addr) (l2 c2 : Nat) (O : List Int) (w : World) (hA : IAt w a1 l1 A) (hO : IAt w a2 l2 O) :
    Calls Try.prog 38 #[worthsV p a1 l1 c1, .slice a2 l2 c2] w (PairOut w (moreV p A O)) := by
  have hb1 : Below w.heap.size w (w.alloc (.cells #[.int .i64 p, .slice a1 l1 c1] 27)) := below1
  have HV := Lib.hid (implValidW_any p a1 l1 c1 A _ (hA.below hb1))
  have HA := Lib.hid hA.inB
  have HO := Lib.hid hO.inB
  have HB1 := Lib.hid hb1
  cases hok : okW p A with
  | false =>
    rw [moreV_no hok]
    have HOK := Lib.hid hok
    clear hA hO hok hb1
    go_enter Try.func38, Try.ntmps38
    go_wp2_with fail
    refine HV.out.mono ?_
    rintro e w1 ⟨rfl, b1⟩
    rw [HOK.out]
    go_wp2_with fail
    go_ret2
    have hb := below_after HB1.out (Nat.le_refl _) b1
    exact ⟨none, 0, 0, rfl, own_nil _ (Nat.le_refl _), hb⟩
  | true =>
    obtain ⟨P, rfl, hP1, hP6, hlen, h0, hall⟩ := okW_true hok
    have HOK := Lib.hid hok
    have hl : l1 = 2 ^ P := hA.1.symm.trans hlen
    obtain ⟨b, off, rfl, hb, hc⟩ := w_at hA (by have := pow_ge2 hP1; omega)
    have hx : Box2 (w.alloc (.cells #[.int .i64 (P : Nat), .slice (some ⟨b, off, none⟩) l1 c1] 27)) w.heap.size 27 (.int .i64 (P : Nat)) (.slice (some ⟨b, off, none⟩) l1 c1) := heap1
    cases ho : okOrder P O with
    | false =>
      rw [moreV_bad (by rw [Int.toNat_natCast]; exact ho)]
      have HOO := Lib.hid ho
      have HX := Lib.hid hx
      clear hA hO hok hb1 ho hx hl hlen hc hall h0
      go_enter Try.func38, Try.ntmps38
      go_wp2_with fail
      refine HV.out.mono ?_
      rintro e w1 ⟨rfl, b1⟩
      rw [HOK.out]
      obtain ⟨⟨p0, p1⟩, _⟩ := (HX.out.below b1).all
      have B1 := Lib.hid (below_after HB1.out (Nat.le_refl _) b1)
      clear b1
      go_wp2_with fail
      refine (isOrder_any _ _ _ P O _ (by omega) (HO.out.keep B1.out).1).mono ?_
      rintro e w2 ⟨rfl, rfl⟩
      rw [HOO.out]
      go_wp2_with fail
      go_ret2
      exact ⟨none, 0, 0, rfl, own_nil _ (Nat.le_refl _), B1.out⟩
    | true =>
      rw [moreV_yes hok ho]
      obtain ⟨hOl, hOk⟩ := okOrder_true ho
      have hl2 : l2 = P := hO.1.symm.trans hOl
      obtain ⟨bo, oo, rfl, hbo, hco⟩ := w_at hO (by omega)
      obtain ⟨i0, hi, hz0, hz1, hz2⟩ := info_parts (P := Try.prog) (e := 2) (z := .int .i64 0) (size := 1) (bytes := 8) (by kernel_rfl)
      have HOO := Lib.hid ho
      have HX := Lib.hid hx
      have HL := Lib.hid hl
      have HL2 := Lib.hid hl2
      have HALL : Hid (∀ i, i < l1 → -10000 ≤ A.getD i 0 ∧ A.getD i 0 ≤ 10000) := Lib.hid fun i hi => okAll_at hall (by rw [hA.1]; exact hi)
      have HC := Lib.hid hc
      have HCO := Lib.hid hco
      have HK := Lib.hid hOk
      have HLA := Lib.hid hA.1
      have HLO := Lib.hid hO.1
      rw [hOl]
      clear hA hO hok hb1 ho hx hl hl2 hlen hc hco hall h0 hOl hOk
      go_enter Try.func38, Try.ntmps38
      go_wp2_with fail
      refine HV.out.mono ?_
      rintro e w1 ⟨rfl, b1⟩
      rw [HOK.out]
      have HX1 := Lib.hid (HX.out.below b1)
      obtain ⟨⟨p0, p1⟩, _⟩ := HX1.out.all
      have B1 := Lib.hid (below_after HB1.out (Nat.le_refl _) b1)
      have s1 := b1.size
      clear b1
      go_wp2_with fail
      refine (isOrder_any _ _ _ P O _ (by omega) (HO.out.keep B1.out).1).mono ?_
      rintro e w2 ⟨rfl, rfl⟩
      rw [HOO.out]
      go_wp2_with (at_make; refine wpList_make_full _ rfl _ _ 22 rfl w1.heap.size 2 i0 (.int .i64 0) 1 Try.underlying22 hi hz0 hz1 .i64 .i64 _ _ P rfl rfl (by first | rfl | omega) (by first | rfl | omega) (by rw [hz2]; omega) (by unfold maxLen; omega) (Nat.le_refl _) ?_; intro w3 hown3 hgrow3; have b3 : Below w1.heap.size w1 w3 := (Below.refl _ _).grown hgrow3 (Nat.le_refl _) (fun k h => by cases h); obtain ⟨⟨q0, q1⟩, _⟩ := (HX1.out.below b3).all)
      have hown : w3.ownsRow w1.heap.size 2 1 (.slice (some ⟨w1.heap.size, 0, none⟩) P P) P ((List.replicate P (0 : Int)).map (Value.int .i64)) := by
        have e : (madeCells (Value.int IntKind.i64 0).cells (P * 1)).toList = List.replicate P (.int .i64 0) := by
          rw [Nat.mul_one]; exact toList_madeCells_one _ _
        rw [e] at hown3
        rw [List.map_replicate]
        exact hown3
      have B3 := Lib.hid (below_after B1.out (Nat.le_refl _) b3)
      have s3 := b3.size
      have HOW := Lib.hid (own_of_row hown (fun z hz => by rw [List.eq_of_mem_replicate hz]; simp [Big]))
      have s0 := HB1.out.size
      clear b3 hown hown3 hgrow3 q0 q1 p0 p1
      refine (moreIn_at b off l1 c1 bo oo l2 c2 w1.heap.size w1.heap.size w3.heap.size P P A O w3 hP6 HL.out HLA.out HLO.out HL2.out HALL.out (fun j hj => HK.out j (by rw [HLO.out]; exact hj))
        (fun i hi => (B3.out.cell (p := ⟨b, off + i, none⟩) hb).trans (HC.out i hi)) (fun i hi => (B3.out.cell (p := ⟨bo, oo + i, none⟩) hbo).trans (HCO.out i hi)) (by omega) (by omega) HOW.out).mono ?_
      rintro e w4 ⟨⟨v, rfl⟩, ow, kw⟩
      have HO4 := Lib.hid ow
      have B4 := Lib.hid (B3.out.trans (kw.below (by omega) (by omega)))
      have s4 := kw.size
      clear ow kw
      go_wp2_with fail
      go_ret2
      exact ⟨_, P, P, rfl, HO4.out.wide (by omega) s4 (Nat.le_refl _), B4.out⟩
end Go.Proofs.Ytnlknofcdapalaa
