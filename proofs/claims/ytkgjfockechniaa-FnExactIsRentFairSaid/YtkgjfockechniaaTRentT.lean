/-
  IsRentFair: the reference's whole walk.
-/
import Derived.Test.YtkgjfockechniaaTRentS
namespace Go.Proofs.Ytkgjfockechniaa
open Go.RowKit Go.ChangeShapes Go.WideShapes
set_option linter.unusedVariables false

set_option maxHeartbeats 2000000 in
set_option maxRecDepth 100000 in
theorem specRent_any (p t : Int) (a1 : Option Addr) (l1 c1 : Nat) (A : List Int) (ar : Option Addr) (lr cr : Nat) (R : List Int) (aq : Option Addr) (lq cq : Nat) (Q : List Int) (w : World) (hA : IAt w a1 l1 A) (hR : IAt w ar lr R) (hQ : IAt w aq lq Q) (hc : l1 ≤ c1) (hrc : lr ≤ cr) (hqc : lq ≤ cq) :
    Calls Try.prog 57 #[valuesV p t a1 l1 c1, .slice ar lr cr, .slice aq lq cq] w (TwoOut w (rentV p t A R Q)) := by
  have b0 := below1 (w := w) (o := .cells #[.int .i64 p, .int .i64 t, .slice a1 l1 c1] 27)
  have HA := Lib.hid (hA.below b0)
  have HR := Lib.hid (hR.below b0)
  have HQ := Lib.hid (hQ.below b0)
  have B0 := Lib.hid b0
  have HX : Hid (Box3 _ w.heap.size 27 (.int .i64 p) (.int .i64 t) (.slice a1 l1 c1)) := Lib.hid (heap1 (w := w) (o := .cells #[.int .i64 p, .int .i64 t, .slice a1 l1 c1] 27))
  clear hA hR hQ b0
  cases s1 : okV p t A with
  | false =>
    have S1 := Lib.hid s1
    rw [rentV_no (by unfold okRent; rw [s1]; rfl)]
    clear s1
    go_enter Try.func57, Try.ntmps57
    go_wp2_with fail
    refine (specIsV_any w.heap.size p t a1 l1 c1 A _ HX.out HA.out).mono ?_
    rintro e w1 ⟨rfl, hs1⟩
    rw [S1.out]
    have B1 := Lib.hid (below_after B0.out (Nat.le_refl _) (same_below hs1 _))
    clear hs1
    go_wp2_with fail
    go_ret2
    exact ⟨rfl, B1.out⟩
  | true =>
    obtain ⟨P, T, rfl, rfl, hv⟩ := VOk.of HA.out hc s1
    have S1 := Lib.hid s1
    have HV := Lib.hid hv
    have hp1 := hv.p1
    have hp6 := hv.p6
    by_cases hpt : P = T
    · subst hpt
      have hpb : ((P : Int) == (P : Int)) = true := beq_self_eq_true _
      have hpc : ((P : Int) != (P : Int)) = false := by rw [bne, hpb]; rfl
      have hlr := HR.out.1
      have hlq := HQ.out.1
      have hmq := HQ.out.2.1
      unfold maxLen at hmq
      cases s2 : (decide ((R.length : Int) = (P : Nat)) && okAll 0 ((P : Int) - 1) R) with
      | false =>
        have S2 := Lib.hid s2
        rw [rentV_no (by
          unfold okRent
          rw [Int.toNat_natCast]
          cases s : okOrder P R with
          | false => simp
          | true => rw [okOrder_own s] at s2; cases s2)]
        clear s1 s2 hv hlr hlq hmq
        go_enter Try.func57, Try.ntmps57
        go_wp2_with fail
        refine (specIsV_any w.heap.size P P a1 l1 c1 A _ HX.out HA.out).mono ?_
        rintro e w1 ⟨rfl, hs1⟩
        rw [S1.out]
        have b1 := same_below hs1 (w.alloc (.cells #[.int .i64 P, .int .i64 P, .slice a1 l1 c1] 27)).heap.size
        have B1 := Lib.hid (below_after B0.out (Nat.le_refl _) b1)
        have HX1 := Lib.hid (HX.out.below b1)
        have HR1 := Lib.hid (HR.out.below b1)
        obtain ⟨⟨x0, x1, x2⟩, _⟩ := HX1.out.all
        clear hs1 b1
        go_wp2_with fail
        refine (owners04_any w.heap.size P P a1 l1 c1 ar lr cr R _ HX1.out hp6 (by omega) HR1.out).mono ?_
        rintro e w2 ⟨rfl, hs2⟩
        rw [S2.out]
        have B2 := Lib.hid (below_after B1.out (Nat.le_refl _) (same_below hs2 _))
        clear hs2 x0 x1 x2
        go_wp2_with fail
        go_ret2
        exact ⟨rfl, B2.out⟩
      | true =>
        have S2 := Lib.hid s2
        obtain ⟨s3, s4⟩ := (Bool.and_eq_true _ _).mp s2
        have hlrP : lr = P := by have := of_decide_eq_true s3; omega
        subst hlrP
        by_cases hq : lq = lr
        · subst hq
          have HS4 := Lib.hid s4
          have HLR := Lib.hid hlr
          have HLQ := Lib.hid hlq
          clear s1 s2 s3 s4 hv hlr hlq
          go_enter Try.func57, Try.ntmps57
          go_wp2_with fail
          refine (specIsV_any w.heap.size lq lq a1 l1 c1 A _ HX.out HA.out).mono ?_
          rintro e w1 ⟨rfl, hs1⟩
          rw [S1.out]
          have b1 := same_below hs1 (w.alloc (.cells #[.int .i64 lq, .int .i64 lq, .slice a1 l1 c1] 27)).heap.size
          have B1 := Lib.hid (below_after B0.out (Nat.le_refl _) b1)
          have HX1 := Lib.hid (HX.out.below b1)
          have HR1 := Lib.hid (HR.out.below b1)
          have HQ1 := Lib.hid (HQ.out.below b1)
          have HV1 := Lib.hid (HV.out.below b1)
          obtain ⟨⟨x0, x1, x2⟩, _⟩ := HX1.out.all
          clear hs1 b1
          go_wp2_with fail
          refine (owners04_any w.heap.size lq lq a1 l1 c1 ar lq cr R _ HX1.out hp6 (by omega) HR1.out).mono ?_
          rintro e w2 ⟨rfl, hs2⟩
          rw [S2.out]
          have b2 := same_below hs2 w1.heap.size
          have B2 := Lib.hid (below_after B1.out (Nat.le_refl _) b2)
          have HX2 := Lib.hid (HX1.out.below b2)
          have HR2 := Lib.hid (HR1.out.below b2)
          have HQ2 := Lib.hid (HQ1.out.below b2)
          have HV2 := Lib.hid (HV1.out.below b2)
          clear hs2 b2 x0 x1 x2 HX1 HR1 HQ1 HV1 HX HR HQ HV HA
          obtain ⟨br, or, rfl, hbr, hcr⟩ : ∃ b off, ar = some ⟨b, off, none⟩ ∧ b < w2.heap.size ∧ ∀ i, i < lq → w2.cell? ⟨b, off + i, none⟩ = some (.int .i64 (R.getD i 0)) := by
            rcases HR2.out.2.2.2 with e | g
            · omega
            · exact g
          obtain ⟨bq, oq, rfl, hbq, hcq⟩ : ∃ b off, aq = some ⟨b, off, none⟩ ∧ b < w2.heap.size ∧ ∀ i, i < lq → w2.cell? ⟨b, off + i, none⟩ = some (.int .i64 (Q.getD i 0)) := by
            rcases HQ2.out.2.2.2 with e | g
            · omega
            · exact g
          obtain ⟨b, off, rfl, hb, hcw⟩ := HV2.out.at_
          have HCR := Lib.hid hcr
          have HCQ := Lib.hid hcq
          have HCW := Lib.hid hcw
          clear hcr hcq hcw hbr hbq hb
          have hcap : ¬ cr = 0 := by omega
          go_wp2_with fail
          go_loopw [8] (fun q wr => ∃ (k m : Nat), k ≤ lq ∧ q = .int .i64 k ∧ Hid (∀ j, j < k → inB (-1000000000) 1000000000 (Q.getD j 0) = true) ∧ Hid (∀ j, j < k → okAt lq R j = true) ∧ Hid (wr = w2.drewN m)) (fun q _ => lq - (intOf q).toNat)
          case atStart => exact ⟨0, 0, Nat.zero_le _, rfl, Lib.hid (fun j hj => absurd hj (by omega)), Lib.hid (fun j hj => absurd hj (by omega)), Lib.hid rfl⟩
          case round =>
            obtain ⟨k, m, hk, rfl, H1, H2, HW⟩ := hrel
            have HB : Hid (Below w.heap.size w wr) := Lib.hid (by rw [HW.out]; exact below_after B2.out (Nat.le_refl _) (same_below ⟨m, rfl⟩ _))
            by_cases hlt : k < lq
            · have hsq : wr.cell? ⟨bq, oq + k, none⟩ = some (.int .i64 (Q.getD k 0)) := by rw [HW.out]; exact HCQ.out k hlt
              have hsr : wr.cell? ⟨br, or + k, none⟩ = some (.int .i64 (R.getD k 0)) := by rw [HW.out]; exact HCR.out k hlt
              have HRW : Hid (IAt wr (some ⟨br, or, none⟩) lq R) := Lib.hid (by rw [HW.out]; exact HR2.out.below (same_below ⟨m, rfl⟩ _))
              have HF := Lib.hid (HRW.out.first (k := k) (by omega))
              have HOK : Hid (okAt lq R k = !decide (R.getD k 0 ∈ R.take k)) := Lib.hid (by
                have h3 := okAll_at HS4.out (i := k) (by rw [HLR.out]; exact hlt)
                rw [okAt_mem H2.out (by rw [HLR.out]; exact hlt), decide_eq_true h3.1, decide_eq_true (show R.getD k 0 < (lq : Int) by omega)]
                rfl)
              cases s5 : inB (-1000000000) 1000000000 (Q.getD k 0) with
              | false =>
                have S5 := Lib.hid s5
                have E : Hid (rentV lq lq A R Q = (false, false)) := Lib.hid (rentV_no (by
                  unfold okRent
                  rw [okAll_bad (by rw [HLQ.out]; exact hlt) s5]
                  simp))
                rw [E.out]
                clear s5 HOK HF HRW
                generalize Q.getD k 0 = u at *
                generalize R.getD k 0 = v at *
                go_wp2_with fail
                go_quiet ((go_at_call 83; refine (inR_any _ _ _ _).mono ?_; rintro e w2 ⟨rfl, h2⟩; rw [S5.out]; exact ⟨rfl, _, h2.symm⟩))
                go_wp2_with fail
                go_ret2
                exact ⟨rfl, below_after HB.out (Nat.le_refl _) (same_below ⟨nq, rfl⟩ _)⟩
              | true =>
                have S5 := Lib.hid s5
                cases s6 : decide (R.getD k 0 ∈ R.take k) with
                | true =>
                  have S6 := Lib.hid s6
                  have E : Hid (rentV lq lq A R Q = (false, false)) := Lib.hid (rentV_no (by
                    unfold okRent
                    rw [Int.toNat_natCast, okOrder_bad (by rw [HLR.out]; exact hlt) (by rw [HOK.out, s6]; rfl)]
                    simp))
                  rw [E.out]
                  clear s5 s6 HOK
                  generalize Q.getD k 0 = u at *
                  generalize R.getD k 0 = v at *
                  go_wp2_with fail
                  go_quiet (first
                    | (go_at_call 83; refine (inR_any _ _ _ _).mono ?_; rintro e w2 ⟨rfl, h2⟩; rw [S5.out]; exact ⟨rfl, _, h2.symm⟩)
                    | (go_at_call 110; refine (has_any _ _ _ _ _ _ (HF.out.below (same_below ⟨_, rfl⟩ _))).mono ?_; rintro e w2 ⟨rfl, h2⟩; rw [S6.out]; exact ⟨rfl, _, h2.symm⟩))
                  go_wp2_with fail
                  go_ret2
                  exact ⟨rfl, below_after HB.out (Nat.le_refl _) (same_below ⟨nq, rfl⟩ _)⟩
                | false =>
                  have S6 := Lib.hid s6
                  have H1' : Hid (∀ j, j < k + 1 → inB (-1000000000) 1000000000 (Q.getD j 0) = true) := Lib.hid fun j hj => by
                    by_cases e : j = k
                    · rw [e]; exact s5
                    · exact H1.out j (by omega)
                  have H2' : Hid (∀ j, j < k + 1 → okAt lq R j = true) := Lib.hid fun j hj => by
                    by_cases e : j = k
                    · rw [e, HOK.out, s6]; rfl
                    · exact H2.out j (by omega)
                  clear s5 s6 HOK
                  generalize Q.getD k 0 = u at *
                  generalize R.getD k 0 = v at *
                  go_wp2_with fail
                  go_quiet (first
                    | (go_at_call 83; refine (inR_any _ _ _ _).mono ?_; rintro e w2 ⟨rfl, h2⟩; rw [S5.out]; exact ⟨rfl, _, h2.symm⟩)
                    | (go_at_call 110; refine (has_any _ _ _ _ _ _ (HF.out.below (same_below ⟨_, rfl⟩ _))).mono ?_; rintro e w2 ⟨rfl, h2⟩; rw [S6.out]; exact ⟨rfl, _, h2.symm⟩))
                  go_wp2_with fail
                  go_roundw
                  case rel => exact ⟨k + 1, m + nq, by omega, by go_num, H1', H2', Lib.hid (by rw [HW.out]; exact World.drewN_drewN _ _ _)⟩
                  case measure => simp [intOf]; omega
            · obtain rfl : k = lq := by omega
              have HO : Hid (okOrder k R = true) := Lib.hid (by rw [okOrder_all (by rw [HLR.out]; exact H2.out), HLR.out]; simp)
              have HFQ : Hid (okAll (-1000000000) 1000000000 Q = true) := Lib.hid (okAll_all (by rw [HLQ.out]; exact H1.out))
              have ST0 : Hid (RentSt wr k w.heap.size b off l1 c1 A br or R bq oq Q) := Lib.hid (by
                have h := RentSt.drew ⟨HX2.out, HV2.out, HCW.out, HCR.out, HCQ.out, HO.out, HFQ.out, HLQ.out⟩ m
                rw [HW.out]
                exact h)
              have E : Hid (rentV k k A R Q = (rentL A k R Q, true)) := Lib.hid (rentV_yes (by
                unfold okRent
                rw [S1.out, Int.toNat_natCast, HO.out, HFQ.out, decide_eq_true (show ((Q.length : Int) = k) by rw [HLQ.out])]
                simp))
              rw [E.out]
              obtain ⟨⟨x0, x1, x2⟩, _⟩ := ST0.out.box.all
              clear H1 H2 HW HX2 HV2 HR2 HQ2 HCR HCQ HCW HO HFQ HS4 HLR HLQ S1 S2 hcap
              obtain ⟨wo, hwo⟩ : ∃ wo : World, wo = wr := ⟨_, rfl⟩
              subst hwo
              go_wp2_with fail
              go_loopw [10] (fun q wr => ∃ (i m : Nat), i ≤ k ∧ q = .int .i64 i ∧ Hid (∀ i', i' < i → ∀ j, j < k → rentB A k R Q i' j = true) ∧ Hid (wr = wo.drewN m)) (fun q _ => k - (intOf q).toNat)
              case atStart => exact ⟨0, 0, Nat.zero_le _, rfl, Lib.hid (fun j hj => absurd hj (by omega)), Lib.hid rfl⟩
              case round =>
                clear x0 x1 x2
                obtain ⟨i, m, hi, rfl, H, HW⟩ := hrel
                have ST : Hid (RentSt wr k w.heap.size b off l1 c1 A br or R bq oq Q) := Lib.hid (by rw [HW.out]; exact ST0.out.drew m)
                have HB2 : Hid (Below w.heap.size w wr) := Lib.hid (by rw [HW.out]; exact below_after HB.out (Nat.le_refl _) (same_below ⟨m, rfl⟩ _))
                by_cases hlt : i < k
                · obtain ⟨f, g, e1, -, e3, -, -⟩ := row_prod (T := k) hlt
                  obtain ⟨r, hr, hrk⟩ := ST.out.room hlt
                  obtain ⟨hcw, hfl, hf48⟩ := ST.out.worth hlt hrk e3
                  obtain ⟨⟨g0, g1⟩, g2, g3⟩ := ST.out.gain hlt hrk
                  have hcr := ST.out.rooms i hlt
                  have hcq := ST.out.prices r hrk
                  rw [hr] at hcr
                  obtain ⟨⟨x0, x1, x2⟩, _⟩ := ST.out.box.all
                  obtain ⟨v0, v1⟩ := wAt_in ST.out.ok.ok ST.out.ok.len hlt hrk
                  have HRB : Hid (∀ j, rentB A k R Q i j = decide (gainR A k Q i j ≤ gainR A k Q i r)) := Lib.hid fun j => by unfold rentB; rw [hr]; rfl
                  obtain ⟨d, hd⟩ : ∃ d, wAt A k i r * k = d := ⟨_, rfl⟩
                  have HG : Hid (gainR A k Q i r = d - Q.getD r 0) := Lib.hid (by unfold gainR; rw [hd])
                  have HBAD : Hid (∀ j, j < k → rentB A k R Q i j = false → rentL A k R Q = false) := Lib.hid fun j hj h => rent_bad hlt hj h
                  rw [hd] at g0 g1
                  have HE3 := Lib.hid e3
                  clear e3 hr
                  generalize wAt A k i r = v at *
                  generalize Q.getD r 0 = u at *
                  go_wp2_with fail
                  go_quiet (fail)
                  clear hd hcw hcr hcq x0 x1 x2 v0 v1 hfl
                  have ST2 : Hid (RentSt (wr.drewN nq) k w.heap.size b off l1 c1 A br or R bq oq Q) := Lib.hid (ST.out.drew nq)
                  have HB3 : Hid (Below w.heap.size w (wr.drewN nq)) := Lib.hid (below_after HB2.out (Nat.le_refl _) (same_below ⟨nq, rfl⟩ _))
                  have HW3 : Hid (wr.drewN nq = wo.drewN (m + nq)) := Lib.hid (by rw [HW.out]; exact World.drewN_drewN _ _ _)
                  clear ST HB2 HW
                  generalize wr.drewN nq = wi at *
                  obtain ⟨y, hy⟩ : ∃ y, d - u = y := ⟨_, rfl⟩
                  have hy0 : -1000000000 ≤ y ∧ y ≤ 1000006000 := by omega
                  obtain ⟨hy0, hy1⟩ := hy0
                  have HGY : Hid (gainR A k Q i r = y) := Lib.hid (by rw [HG.out, hy])
                  try rw [hy]
                  clear HG hy g0 g1 g2 g3
                  go_wp2_with fail
                  go_loopw [12] (fun q wr => ∃ (j m2 : Nat), j ≤ k ∧ q = .int .i64 j ∧ Hid (∀ j', j' < j → rentB A k R Q i j' = true) ∧ Hid (wr = wi.drewN m2)) (fun q _ => k - (intOf q).toNat)
                  case atStart => exact ⟨0, 0, Nat.zero_le _, rfl, Lib.hid (fun j hj => absurd hj (by omega)), Lib.hid rfl⟩
                  case round =>
                    obtain ⟨j, m2, hj, rfl, H2, HW2⟩ := hrel
                    have ST3 : Hid (RentSt wr k w.heap.size b off l1 c1 A br or R bq oq Q) := Lib.hid (by rw [HW2.out]; exact ST2.out.drew m2)
                    by_cases hlt2 : j < k
                    · obtain ⟨hcw, hfl, _⟩ := ST3.out.worth hlt hlt2 HE3.out
                      obtain ⟨⟨g0, g1⟩, g2, g3⟩ := ST3.out.gain hlt hlt2
                      have hcq := ST3.out.prices j hlt2
                      obtain ⟨⟨x0, x1, x2⟩, _⟩ := ST3.out.box.all
                      obtain ⟨v0, v1⟩ := wAt_in ST3.out.ok.ok ST3.out.ok.len hlt hlt2
                      obtain ⟨d, hd⟩ : ∃ d, wAt A k i j * k = d := ⟨_, rfl⟩
                      have HG : Hid (gainR A k Q i j = d - Q.getD j 0) := Lib.hid (by unfold gainR; rw [hd])
                      have HB4 : Hid (Below w.heap.size w wr) := Lib.hid (by rw [HW2.out]; exact below_after HB3.out (Nat.le_refl _) (same_below ⟨m2, rfl⟩ _))
                      have HRJ : Hid (rentB A k R Q i j = decide (gainR A k Q i j ≤ y)) := Lib.hid (by rw [HRB.out, HGY.out])
                      rw [hd] at g0 g1
                      generalize wAt A k i j = v at *
                      generalize Q.getD j 0 = u at *
                      by_cases hle : d - u ≤ y
                      · have HN : Hid (∀ j', j' < j + 1 → rentB A k R Q i j' = true) := Lib.hid fun j' hj' => by
                          by_cases e : j' = j
                          · rw [e, HRJ.out, HG.out]; exact decide_eq_true hle
                          · exact H2.out j' (by omega)
                        clear HRJ HG
                        go_wp2_with fail
                        go_quiet (fail)
                        go_wp2_with fail
                        go_roundw
                        case rel => exact ⟨j + 1, m2 + nq, by omega, by go_num, HN, Lib.hid (by rw [HW2.out]; exact World.drewN_drewN _ _ _)⟩
                        case measure => simp [intOf]; omega
                      · have HE : Hid (rentL A k R Q = false) := Lib.hid (HBAD.out j hlt2 (by rw [HRJ.out, HG.out]; exact decide_eq_false hle))
                        have hgt : y < d - u := by omega
                        clear HRJ HG hle
                        go_wp2_with fail
                        go_quiet (fail)
                        go_wp2_with fail
                        go_ret2
                        exact ⟨by rw [E.out, HE.out]; rfl, below_after HB4.out (Nat.le_refl _) (same_below ⟨nq, rfl⟩ _)⟩
                    · obtain rfl : j = k := by omega
                      have HN : Hid (∀ i', i' < i + 1 → ∀ j', j' < j → rentB A j R Q i' j' = true) := Lib.hid fun i' hi' => by
                        by_cases e : i' = i
                        · rw [e]; exact H2.out
                        · exact H.out i' (by omega)
                      go_wp2_with fail
                      go_roundw
                      case rel => exact ⟨i + 1, m + nq + m2, by omega, by go_num, HN, Lib.hid (by rw [HW2.out, HW3.out]; exact World.drewN_drewN _ _ _)⟩
                      case measure => simp [intOf]; omega
                · obtain rfl : i = k := by omega
                  have HE : Hid (rentL A i R Q = true) := Lib.hid (rent_all H.out)
                  go_wp2_with fail
                  go_ret2
                  exact ⟨by rw [E.out, HE.out]; rfl, HB2.out⟩
        · have hqb : ((lq : Int) == (lr : Int)) = false := by rw [beq_eq_false_iff_ne]; omega
          have hqc : ((lq : Int) != (lr : Int)) = true := by rw [bne, hqb]; rfl
          rw [rentV_no (by unfold okRent; rw [decide_eq_false (show ¬ ((Q.length : Int) = (lr : Int)) by omega)]; simp)]
          clear s1 s2 s3 s4 hv hlr hlq hq
          go_enter Try.func57, Try.ntmps57
          go_wp2_with fail
          refine (specIsV_any w.heap.size lr lr a1 l1 c1 A _ HX.out HA.out).mono ?_
          rintro e w1 ⟨rfl, hs1⟩
          rw [S1.out]
          have b1 := same_below hs1 (w.alloc (.cells #[.int .i64 lr, .int .i64 lr, .slice a1 l1 c1] 27)).heap.size
          have B1 := Lib.hid (below_after B0.out (Nat.le_refl _) b1)
          have HX1 := Lib.hid (HX.out.below b1)
          have HR1 := Lib.hid (HR.out.below b1)
          obtain ⟨⟨x0, x1, x2⟩, _⟩ := HX1.out.all
          clear hs1 b1
          go_wp2_with fail
          refine (owners04_any w.heap.size lr lr a1 l1 c1 ar lr cr R _ HX1.out hp6 (by omega) HR1.out).mono ?_
          rintro e w2 ⟨rfl, hs2⟩
          rw [S2.out]
          have B2 := Lib.hid (below_after B1.out (Nat.le_refl _) (same_below hs2 _))
          clear hs2 x0 x1 x2
          go_wp2_with fail
          go_ret2
          exact ⟨rfl, B2.out⟩
    · have hpb : ((P : Int) == (T : Int)) = false := by rw [beq_eq_false_iff_ne]; omega
      have hpc : ((P : Int) != (T : Int)) = true := by rw [bne, hpb]; rfl
      rw [rentV_no (by unfold okRent; rw [decide_eq_false (show ¬ ((T : Int) = (P : Int)) by omega)]; simp)]
      clear s1 hv hpt
      go_enter Try.func57, Try.ntmps57
      go_wp2_with fail
      refine (specIsV_any w.heap.size P T a1 l1 c1 A _ HX.out HA.out).mono ?_
      rintro e w1 ⟨rfl, hs1⟩
      rw [S1.out]
      have b1 := same_below hs1 (w.alloc (.cells #[.int .i64 P, .int .i64 T, .slice a1 l1 c1] 27)).heap.size
      have B1 := Lib.hid (below_after B0.out (Nat.le_refl _) b1)
      obtain ⟨⟨x0, x1, x2⟩, _⟩ := (HX.out.below b1).all
      clear hs1 b1
      go_wp2_with fail
      go_ret2
      exact ⟨rfl, B1.out⟩
end Go.Proofs.Ytkgjfockechniaa
