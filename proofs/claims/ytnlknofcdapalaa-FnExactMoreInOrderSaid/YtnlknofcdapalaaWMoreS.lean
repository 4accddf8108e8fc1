/-
  MoreInOrder: the reference's answer.
-/
import Derived.Test.YtnlknofcdapalaaWMoreI
import Derived.Test.YtnlknofcdapalaaWIs
namespace Go.Proofs.Ytnlknofcdapalaa
open Go.RowKit
set_option linter.unusedVariables false

theorem seenTo_add {P k q : Nat} {O : List Int} (hP : P ≤ 6) (h : seenTo O k < 2 ^ P) (hq : q < P) (hb : (seenTo O k).testBit q = false) (hn : seenTo O (k + 1) = seenTo O k ||| 2 ^ q) : seenTo O (k + 1) = seenTo O k + 2 ^ q := by
  have h64 := pow_le64 hP
  rw [hn, (add_bit (by omega) (by omega) hb).1]

set_option maxHeartbeats 1000000 in
set_option maxRecDepth 20000 in
theorem specMore_at (b off l1 c1 bo oo len co P : Nat) (A O : List Int) (w : World) (hA : IAt w (some ⟨b, off, none⟩) l1 A) (hOO : IAt w (some ⟨bo, oo, none⟩) len O) (hok : okW (P : Nat) A = true) (hP1 : 1 ≤ P) (hP : P ≤ 6) (hl : l1 = 2 ^ P) (hLP : len = P) (hlen : A.length = l1)
    (hc : ∀ i, i < l1 → w.cell? ⟨b, off + i, none⟩ = some (.int .i64 (A.getD i 0))) (hco : ∀ i, i < len → w.cell? ⟨bo, oo + i, none⟩ = some (.int .i64 (O.getD i 0))) (hall : ∀ i, i < l1 → -10000 ≤ A.getD i 0 ∧ A.getD i 0 ≤ 10000) :
    Calls Try.prog 37 #[worthsV (P : Nat) (some ⟨b, off, none⟩) l1 c1, .slice (some ⟨bo, oo, none⟩) len co] w (PairOut w (if okOrder P O = true then (moreTo A O P len, true) else ([], false))) := by
  obtain ⟨i0, hi, hz0, hz1, hz2⟩ := info_parts (P := Try.prog) (e := 2) (z := .int .i64 0) (size := 1) (bytes := 8) (by kernel_rfl)
  have hb1 : Below w.heap.size w (w.alloc (.cells #[.int .i64 (P : Nat), .slice (some ⟨b, off, none⟩) l1 c1] 27)) := below1
  have hx : Box2 (w.alloc (.cells #[.int .i64 (P : Nat), .slice (some ⟨b, off, none⟩) l1 c1] 27)) w.heap.size 27 (.int .i64 (P : Nat)) (.slice (some ⟨b, off, none⟩) l1 c1) := heap1
  have HIS := Lib.hid (specIsW_any w.heap.size (P : Nat) (some ⟨b, off, none⟩) l1 c1 A _ hx (hA.below hb1))
  have HOK := Lib.hid hok
  have HB1 := Lib.hid hb1
  have HX := Lib.hid hx
  have HC := Lib.hid hc
  have HCO := Lib.hid hco
  have HALL := Lib.hid hall
  have HL := Lib.hid hl
  have HLP := Lib.hid hLP
  have HLEN := Lib.hid hlen
  have HLO := Lib.hid hOO.1
  have hlen6 : len ≤ 6 := by omega
  have h64 : l1 ≤ 64 := by rw [hl]; exact pow_le64 hP
  have HBAD : Hid (∀ k, k < len → okAt P O k = false → (if okOrder P O = true then (moreTo A O P len, true) else ([], false)) = (([] : List Int), false)) := Lib.hid fun k hk h => by
    rw [okOrder_bad (by rw [hOO.1]; exact hk) h]; rfl
  have HALLOK : Hid ((∀ j, j < len → okAt P O j = true) → (if okOrder P O = true then (moreTo A O P len, true) else (([] : List Int), false)) = (moreTo A O P len, true)) := Lib.hid fun h => by
    rw [okOrder_all (by rw [hOO.1]; exact h), decide_eq_true (hOO.1.trans hLP)]; rfl
  obtain ⟨⟨p0, p1⟩, _⟩ := hx.all
  generalize (if okOrder P O = true then (moreTo A O P len, true) else (([] : List Int), false)) = R at *
  have hbb := World.block_lt_of_cell? w ⟨b, off, none⟩ (by have := hc 0 (by have := pow_ge2 hP1; omega); simpa using this)
  have hbo := World.block_lt_of_cell? w ⟨bo, oo, none⟩ (by have := hco 0 (by omega); simpa using this)
  clear hA hOO hok hx hc hco hall hl hLP hlen
  go_enter Try.func37, Try.ntmps37
  go_wp2_with fail
  generalize w.alloc (.cells #[.int .i64 (P : Nat), .slice (some ⟨b, off, none⟩) l1 c1] 27) = W0 at *
  have hs0 := hb1.size
  have hX0lt := HX.out.lt
  clear hb1
  refine HIS.out.mono ?_
  rintro e w1 ⟨rfl, n1, rfl⟩
  rw [HOK.out]
  have hllp : (len : Int) = (P : Int) := by have := HLP.out; omega
  have hq : ((len : Int) != (P : Int)) = false := by rw [bne_eq_false_iff_eq]; exact hllp
  clear hllp
  go_wp2_with (at_make; refine wpList_make_full _ rfl _ _ 22 rfl W0.heap.size 2 i0 (.int .i64 0) 1 Try.underlying22 hi hz0 hz1 .i64 .i64 _ _ P rfl rfl (by first | rfl | omega) (by first | rfl | omega) (by rw [hz2]; omega) (by unfold maxLen; omega) (Nat.le_refl _) ?_; intro w3 hown3 hgrow3)
  have b3 : Below W0.heap.size W0 w3 := (same_below ⟨n1, rfl⟩ _).trans ((Below.refl _ _).grown hgrow3 (Nat.le_refl _) (fun k h => by cases h))
  have hown : w3.ownsRow W0.heap.size 2 1 (.slice (some ⟨W0.heap.size, 0, none⟩) P P) P ((moreTo A O P 0).map (Value.int .i64)) := by
    have e : (madeCells (Value.int IntKind.i64 0).cells (P * 1)).toList = List.replicate P (.int .i64 0) := by
      rw [Nat.mul_one]; exact toList_madeCells_one _ _
    rw [e] at hown3
    rw [show moreTo A O P 0 = List.replicate P 0 from rfl, List.map_replicate]
    exact hown3
  have HO0 := Lib.hid hown
  have HB3 := Lib.hid b3
  clear hown hown3 hgrow3 b3 p0 p1
  go_loopw [7, 24] (fun s i wr => ∃ k : Nat, k ≤ len ∧ i = .int .i64 k ∧ s = .int .i64 (seenTo O k : Nat) ∧ Hid (∀ j, j < k → okAt P O j = true) ∧ Hid (wr.ownsRow W0.heap.size 2 1 (.slice (some ⟨W0.heap.size, 0, none⟩) P P) P ((moreTo A O P k).map (Value.int .i64))) ∧ Hid (Below W0.heap.size W0 wr)) (fun _ i _ => len - (intOf i).toNat)
  case atStart => exact ⟨0, Nat.zero_le _, rfl, rfl, Lib.hid (fun j hj => absurd hj (by omega)), HO0, HB3⟩
  case round =>
    obtain ⟨k, hk, rfl, rfl, HF, HR, HBW⟩ := hrel
    have hsz := HBW.out.size
    have hlr := HR.out.lt W0.heap.size rfl
    have hX := HX.out.below HBW.out
    obtain ⟨⟨p0, p1⟩, _⟩ := hX.all
    clear hX
    by_cases hlt : k < len
    · have hsrc : wr.cell? ⟨bo, oo + k, none⟩ = some (.int .i64 (O.getD k 0)) := (HBW.out.cell (p := ⟨bo, oo + k, none⟩) (Nat.lt_of_lt_of_le hbo hs0)).trans ((HB1.out.cell (p := ⟨bo, oo + k, none⟩) hbo).trans (HCO.out k hlt))
      have hseen := seenTo_lt (P := P) HF.out
      have hpw := pow_le64 hP
      cases hi' : inB 0 ((P : Int) - 1) (O.getD k 0) with
      | false =>
        have E := Lib.hid (HBAD.out k hlt (by
          rw [inB_false] at hi'
          unfold okAt
          by_cases h0 : 0 ≤ O.getD k 0
          · rw [decide_eq_false (show ¬ O.getD k 0 < (P : Int) by omega)]
            simp
          · rw [decide_eq_false h0]; rfl))
        have HI := Lib.hid hi'
        clear hi'
        generalize O.getD k 0 = v at *
        go_wp2_with fail
        go_quiet (first | (go_at_call 64; refine (inR_any _ _ _ _).mono ?_; rintro e w2 ⟨rfl, h2⟩; rw [HI.out]; exact ⟨rfl, _, h2.symm⟩))
        go_wp2_with fail
        go_ret2
        rw [E.out]
        exact ⟨none, 0, 0, rfl, own_nil _ (Nat.le_refl _), HB1.out.trans ((HBW.out.mono hs0).trans (same_below ⟨nq, rfl⟩ _))⟩
      | true =>
        obtain ⟨q, hqv, hqP⟩ : ∃ q : Nat, O.getD k 0 = q ∧ q < P := by
          rw [inB_true] at hi'
          exact ⟨(O.getD k 0).toNat, by omega, by omega⟩
        have HI := Lib.hid hi'
        have HV : Hid (okAt P O k = !(seenTo O k).testBit q) := Lib.hid (by
          unfold okAt
          rw [hqv, decide_eq_true (show (0 : Int) ≤ (q : Int) by omega), decide_eq_true (show (q : Int) < (P : Int) by omega)]
          rfl)
        have HNX : Hid (seenTo O (k + 1) = seenTo O k ||| 2 ^ q) := Lib.hid (by
          show seenTo O k ||| 2 ^ (O.getD k 0).toNat = _
          rw [hqv]; rfl)
        have HM : Hid (moreTo A O P (k + 1) = (moreTo A O P k).set q (A.getD (seenTo O (k + 1)) 0 - A.getD (seenTo O k) 0)) := Lib.hid (by
          show (moreTo A O P k).set (O.getD k 0).toNat (moreAt A O k) = _
          rw [hqv]; rfl)
        clear hi'
        rw [hqv] at hsrc HI
        clear hqv
        cases ht : (seenTo O k).testBit q with
        | true =>
          have E := Lib.hid (HBAD.out k hlt (by rw [HV.out, ht]; rfl))
          have HT := Lib.hid ht
          clear ht HV HNX HM
          go_wp2_with fail
          go_quiet (first
            | (go_at_call 64; refine (inR_any _ _ _ _).mono ?_; rintro e w2 ⟨rfl, h2⟩; rw [HI.out]; exact ⟨rfl, _, h2.symm⟩)
            | (go_at_call 68; refine (specIn_any _ _ (by omega) (by omega) _).mono ?_; rintro e w2 ⟨rfl, h2⟩; rw [HT.out]; exact ⟨rfl, _, h2.symm⟩))
          go_wp2_with fail
          go_ret2
          rw [E.out]
          exact ⟨none, 0, 0, rfl, own_nil _ (Nat.le_refl _), HB1.out.trans ((HBW.out.mono hs0).trans (same_below ⟨nq, rfl⟩ _))⟩
        | false =>
          have hAk : okAt P O k = true := by rw [HV.out, ht]; rfl
          have H' : Hid (∀ j, j < k + 1 → okAt P O j = true) := Lib.hid fun j hj => by
            by_cases e : j = k
            · rw [e]; exact hAk
            · exact HF.out j (by omega)
          have HADD := Lib.hid (seenTo_add hP hseen hqP ht HNX.out)
          have hs1 : seenTo O k < l1 := by rw [HL.out]; exact hseen
          have hs2 : seenTo O (k + 1) < l1 := by rw [HL.out]; exact seenTo_lt H'.out
          have hA : ∀ i, i < l1 → wr.cell? ⟨b, off + i, none⟩ = some (.int .i64 (A.getD i 0)) := fun i hi => (HBW.out.cell (p := ⟨b, off + i, none⟩) (Nat.lt_of_lt_of_le hbb hs0)).trans ((HB1.out.cell (p := ⟨b, off + i, none⟩) hbb).trans (HC.out i hi))
          have g1 := hA _ hs1
          have g2 := hA _ hs2
          obtain ⟨a1, a3⟩ := HALL.out _ hs1
          obtain ⟨a2, a4⟩ := HALL.out _ hs2
          have HT := Lib.hid ht
          have h32 := pow_le32 (show q < 6 by omega)
          have hfz : wr.frozen? ⟨W0.heap.size, q, none⟩ = false := HR.out.frozenAt q
          have hdst : ∃ u, wr.cell? ⟨W0.heap.size, q, none⟩ = some u := by
            rw [HR.out.cellAt q (by omega)]
            have hl2 := moreTo_length A O P k
            rw [List.getElem?_map, List.getElem?_eq_getElem (by omega)]
            exact ⟨_, rfl⟩
          obtain ⟨u, hdst⟩ := hdst
          have hwr : IntKind.i64.wrap ((2 : Int) ^ q) = ((2 ^ q : Nat) : Int) := by
            have : ((2 ^ q : Nat) : Int) = (2 : Int) ^ q := by simp
            rw [← this]
            clear this
            generalize (2 : Nat) ^ q = z at *
            rw [IntKind.wrap_i64]; omega
          have hsum : ((seenTo O k : Nat) : Int) + ((2 ^ q : Nat) : Int) = ((seenTo O (k + 1) : Nat) : Int) := by rw [HADD.out]; simp
          have HROW := Lib.hid fun n => ((show (wr.drewN n).ownsRow W0.heap.size 2 1 (.slice (some ⟨W0.heap.size, 0, none⟩) P P) P ((moreTo A O P k).map (Value.int .i64)) from HR.out).stored q (.int .i64 (A.getD (seenTo O (k + 1)) 0 - A.getD (seenTo O k) 0))).1
          rw [← List.map_set, ← HM.out] at HROW
          clear ht HV HNX HM HADD hA hAk
          generalize A.getD (seenTo O k) 0 = v1 at *
          generalize A.getD (seenTo O (k + 1)) 0 = v2 at *
          generalize (2 : Nat) ^ q = z at *
          go_wp2_with fail
          go_quiet (first
            | (go_at_call 64; refine (inR_any _ _ _ _).mono ?_; rintro e w2 ⟨rfl, h2⟩; rw [HI.out]; exact ⟨rfl, _, h2.symm⟩)
            | (go_at_call 68; refine (specIn_any _ _ (by omega) (by omega) _).mono ?_; rintro e w2 ⟨rfl, h2⟩; rw [HT.out]; exact ⟨rfl, _, h2.symm⟩))
          go_wp2_with fail
          go_region
          go_wp2_with fail
          go_roundw
          case rel => exact ⟨k + 1, by omega, by go_num, rfl, H', Lib.hid (HROW.out (nq + 1)), Lib.hid (HBW.out.trans ((same_below ⟨nq + 1, rfl⟩ _).setCell (p := ⟨W0.heap.size, q, none⟩) (Nat.le_refl _) _))⟩
          case measure => simp [intOf]; omega
    · obtain rfl : k = len := by omega
      have HO : Hid (Own wr w.heap.size wr.heap.size (some ⟨W0.heap.size, 0, none⟩) P P (moreTo A O P k)) := Lib.hid
        ((own_of_row HR.out (moreTo_big (P := P) (by rw [HLEN.out]; exact HALL.out) HF.out (by rw [HLEN.out]; exact HL.out))).wide hs0 (Nat.le_refl _) (Nat.le_refl _))
      have HE := Lib.hid (HALLOK.out HF.out)
      go_wp2_with fail
      go_ret2
      rw [HE.out]
      exact ⟨_, P, P, rfl, HO.out, HB1.out.trans (HBW.out.mono hs0)⟩

set_option maxRecDepth 20000 in
theorem specMore_any (p : Int) (a1 : Option Addr) (l1 c1 : Nat) (A : List Int) (a2 : Option Addr) (l2 c2 : Nat) (O : List Int) (w : World) (hA : IAt w a1 l1 A) (hO : IAt w a2 l2 O) :
    Calls Try.prog 37 #[worthsV p a1 l1 c1, .slice a2 l2 c2] w (PairOut w (moreV p A O)) := by
  have hb1 : Below w.heap.size w (w.alloc (.cells #[.int .i64 p, .slice a1 l1 c1] 27)) := below1
  have hx : Box2 (w.alloc (.cells #[.int .i64 p, .slice a1 l1 c1] 27)) w.heap.size 27 (.int .i64 p) (.slice a1 l1 c1) := heap1
  have HIS := Lib.hid (specIsW_any w.heap.size p a1 l1 c1 A _ hx (hA.below hb1))
  have HB1 := Lib.hid hb1
  cases hok : okW p A with
  | false =>
    rw [moreV_no hok]
    have HOK := Lib.hid hok
    clear hA hO hok hb1 hx
    go_enter Try.func37, Try.ntmps37
    go_wp2_with fail
    refine HIS.out.mono ?_
    rintro e w1 ⟨rfl, n1, rfl⟩
    rw [HOK.out]
    go_wp2_with fail
    go_ret2
    exact ⟨none, 0, 0, rfl, own_nil _ (Nat.le_refl _), HB1.out.trans (same_below ⟨n1, rfl⟩ _)⟩
  | true =>
    obtain ⟨P, rfl, hP1, hP6, hlen, h0, hall⟩ := okW_true hok
    have hl : l1 = 2 ^ P := hA.1.symm.trans hlen
    obtain ⟨b, off, rfl, hb, hc⟩ := w_at hA (by have := pow_ge2 hP1; omega)
    by_cases hLP : l2 = P
    · obtain ⟨bo, oo, rfl, hbo, hco⟩ := w_at hO (by omega)
      have e : moreV (P : Nat) A O = (if okOrder P O = true then (moreTo A O P l2, true) else ([], false)) := by
        unfold moreV
        rw [hok, Int.toNat_natCast, Bool.true_and, hO.1]
      rw [e]
      exact specMore_at b off l1 c1 bo oo l2 c2 P A O w hA hO hok hP1 hP6 hl hLP hA.1 hc hco (fun i hi => okAll_at hall (by rw [hA.1]; exact hi))
    · rw [moreV_bad (by rw [Int.toNat_natCast]; exact okOrder_len (by rw [hO.1]; exact hLP))]
      have HOK := Lib.hid hok
      have hq : ((l2 : Int) != (P : Int)) = true := by rw [bne_iff_ne]; omega
      have hm2 := hO.2.1
      obtain ⟨⟨p0, p1⟩, _⟩ := hx.all
      clear hA hO hok hb1 hx hl hlen hall hc hLP h0
      go_enter Try.func37, Try.ntmps37
      go_wp2_with fail
      refine HIS.out.mono ?_
      rintro e w1 ⟨rfl, n1, rfl⟩
      rw [HOK.out]
      go_wp2_with fail
      go_ret2
      exact ⟨none, 0, 0, rfl, own_nil _ (Nat.le_refl _), HB1.out.trans (same_below ⟨n1, rfl⟩ _)⟩
end Go.Proofs.Ytnlknofcdapalaa
