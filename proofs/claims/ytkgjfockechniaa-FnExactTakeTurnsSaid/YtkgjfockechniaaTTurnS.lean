/-
  TakeTurns: the reference's answer.
-/
import Derived.Test.YtkgjfockechniaaTTurnI
namespace Go.Proofs.Ytkgjfockechniaa
open Go.RowKit Go.ChangeShapes Go.WideShapes
set_option linter.unusedVariables false

theorem Own.form {w : World} {lo hi : Nat} {a : Option Addr} {len cap : Nat} {zs : List Int} (h : Own w lo hi a len cap zs) (hn : 0 < len) : ∃ g, a = some ⟨g, 0, none⟩ ∧ lo ≤ g ∧ g < hi := by
  obtain ⟨_, _, _, h4, h5⟩ := h
  rcases h5.2 with ⟨_, h0⟩ | ⟨g, c, cur, e, h1, _⟩
  · omega
  · cases e
    exact ⟨g, rfl, h1, h4 _ rfl⟩

set_option maxHeartbeats 4000000 in
set_option maxRecDepth 100000 in
theorem specTurns_any (p t : Int) (a1 : Option Addr) (l1 c1 : Nat) (A : List Int) (ao : Option Addr) (lo co : Nat) (D : List Int) (w : World) (hA : IAt w a1 l1 A) (hO : IAt w ao lo D) (hc : l1 ≤ c1) :
    Calls Try.prog 41 #[valuesV p t a1 l1 c1, .slice ao lo co] w (PairOut w (turnV p t A D)) := by
  obtain ⟨i0, hi, hz0, hz1, hz2⟩ := info_parts (P := Try.prog) (e := 2) (z := .int .i64 0) (size := 1) (bytes := 8) (by kernel_rfl)
  have b0 := below1 (w := w) (o := .cells #[.int .i64 p, .int .i64 t, .slice a1 l1 c1] 27)
  have HX : Hid (Box3 _ w.heap.size 27 (.int .i64 p) (.int .i64 t) (.slice a1 l1 c1)) := Lib.hid (heap1 (w := w) (o := .cells #[.int .i64 p, .int .i64 t, .slice a1 l1 c1] 27))
  have HA := Lib.hid (hA.below b0)
  have HO := Lib.hid (hO.below b0)
  have B0 := Lib.hid b0
  have hlo := hO.2.1
  have HL := Lib.hid hO.1
  unfold maxLen at hlo
  clear hA hO b0
  cases s1 : okV p t A with
  | false =>
    have S1 := Lib.hid s1
    rw [turnV_no (by unfold okTurn; rw [s1]; rfl)]
    clear s1
    go_enter Try.func41, Try.ntmps41
    go_wp2_with fail
    refine (specIsV_any w.heap.size p t a1 l1 c1 A _ HX.out HA.out).mono ?_
    rintro e w1 ⟨rfl, hs1⟩
    rw [S1.out]
    have B1 := Lib.hid (below_after B0.out (Nat.le_refl _) (same_below hs1 _))
    clear hs1
    go_wp2_with fail
    go_ret2
    exact ⟨none, 0, 0, rfl, own_nil _ (Nat.le_refl _), B1.out⟩
  | true =>
    obtain ⟨P, T, rfl, rfl, hv⟩ := VOk.of HA.out hc s1
    have S1 := Lib.hid s1
    cases s2 : inB 1 8 (lo : Int) with
    | false =>
      rw [turnV_no (by unfold okTurn; rw [HL.out, s2]; simp)]
      rcases inB_false.1 s2 with g | g
      all_goals
        clear s1 s2 hv
        go_enter Try.func41, Try.ntmps41
        go_wp2_with fail
        refine (specIsV_any w.heap.size P T a1 l1 c1 A _ HX.out HA.out).mono ?_
        rintro e w1 ⟨rfl, hs1⟩
        rw [S1.out]
        have B1 := Lib.hid (below_after B0.out (Nat.le_refl _) (same_below hs1 _))
        clear hs1
        go_wp2_with fail
        go_ret2
        exact ⟨none, 0, 0, rfl, own_nil _ (Nat.le_refl _), B1.out⟩
    | true =>
      obtain ⟨g1, g2⟩ := inB_true.1 s2
      have S2 := Lib.hid s2
      have HV := Lib.hid hv
      have hp6 := hv.p6
      have ht1 := hv.t1
      have ht8 := hv.t8
      have hp1 := hv.p1
      clear s1 s2 hv
      go_enter Try.func41, Try.ntmps41
      go_wp2_with fail
      refine (specIsV_any w.heap.size P T a1 l1 c1 A _ HX.out HA.out).mono ?_
      rintro e w1 ⟨rfl, hs1⟩
      rw [S1.out]
      have b1 := same_below hs1 (w.alloc (.cells #[.int .i64 P, .int .i64 T, .slice a1 l1 c1] 27)).heap.size
      have B1 := Lib.hid (below_after B0.out (Nat.le_refl _) b1)
      have HX1 := Lib.hid (HX.out.below b1)
      have HV1 := Lib.hid (HV.out.below b1)
      have HD1 := Lib.hid (HO.out.below b1)
      clear hs1 b1 HX HV HO HA
      obtain ⟨bd, od, rfl, hbd, hcd⟩ : ∃ b off, ao = some ⟨b, off, none⟩ ∧ b < w1.heap.size ∧ ∀ i, i < lo → w1.cell? ⟨b, off + i, none⟩ = some (.int .i64 (D.getD i 0)) := by
        rcases HD1.out.2.2.2 with e | g
        · omega
        · exact g
      have HCD := Lib.hid hcd
      clear hcd
      obtain ⟨⟨x0, x1, x2⟩, _⟩ := HX1.out.all
      go_wp2_with fail
      go_loopw [6] (fun x wr => ∃ (k m : Nat), k ≤ lo ∧ x = .int .i64 k ∧ Hid (∀ j, j < k → inB 0 ((P : Int) - 1) (D.getD j 0) = true) ∧ Hid (wr = w1.drewN m)) (fun x _ => lo - (intOf x).toNat)
      case atStart => exact ⟨0, 0, Nat.zero_le _, rfl, Lib.hid (fun j hj => absurd hj (by omega)), Lib.hid rfl⟩
      case round =>
        clear x0 x1 x2
        obtain ⟨k, m, hk, rfl, H, HW⟩ := hrel
        have HXr : Hid (Box3 wr w.heap.size 27 (.int .i64 P) (.int .i64 T) (.slice a1 l1 c1)) := Lib.hid (by rw [HW.out]; exact HX1.out.below (same_below ⟨m, rfl⟩ _))
        have HBr : Hid (Below w.heap.size w wr) := Lib.hid (by rw [HW.out]; exact below_after B1.out (Nat.le_refl _) (same_below ⟨m, rfl⟩ _))
        obtain ⟨⟨x0, x1, x2⟩, _⟩ := HXr.out.all
        by_cases hlt : k < lo
        · have hsd : wr.cell? ⟨bd, od + k, none⟩ = some (.int .i64 (D.getD k 0)) := by rw [HW.out]; exact HCD.out k hlt
          have hw1 : IntKind.i64.wrap ((P : Int) - 1) = (P : Int) - 1 := IntWalk.i64_in _ (by omega)
          have HW1 := Lib.hid hw1
          clear hw1
          cases hb : inB 0 ((P : Int) - 1) (D.getD k 0) with
          | false =>
            have E : Hid (turnV P T A D = ([], false)) := Lib.hid (turnV_no (by unfold okTurn; rw [okAll_bad (by rw [HL.out]; exact hlt) hb]; simp))
            have HB := Lib.hid hb
            clear hb
            generalize D.getD k 0 = v at *
            go_wp2_with fail
            go_quiet ((go_at_call 83; refine (inR_any _ _ _ _).mono ?_; rintro e w2 ⟨rfl, h2⟩; rw [HW1.out, HB.out]; exact ⟨rfl, _, h2.symm⟩))
            go_wp2_with fail
            go_ret2
            refine ⟨none, 0, 0, by rw [E.out]; rfl, ?_, below_after HBr.out (Nat.le_refl _) (same_below ⟨nq, rfl⟩ _)⟩
            rw [E.out]
            exact own_nil _ (Nat.le_refl _)
          | true =>
            have H' : Hid (∀ j, j < k + 1 → inB 0 ((P : Int) - 1) (D.getD j 0) = true) := Lib.hid fun j hj => by
              by_cases e : j = k
              · rw [e]; exact hb
              · exact H.out j (by omega)
            have HB := Lib.hid hb
            clear hb
            generalize D.getD k 0 = v at *
            go_wp2_with fail
            go_quiet ((go_at_call 83; refine (inR_any _ _ _ _).mono ?_; rintro e w2 ⟨rfl, h2⟩; rw [HW1.out, HB.out]; exact ⟨rfl, _, h2.symm⟩))
            go_wp2_with fail
            go_roundw
            case rel => exact ⟨k + 1, m + nq, by omega, by go_num, H', Lib.hid (by rw [HW.out]; exact World.drewN_drewN _ _ _)⟩
            case measure => simp [intOf]; omega
        · obtain rfl : k = lo := by omega
          have S3 : Hid (okAll 0 ((P : Int) - 1) D = true) := Lib.hid (okAll_all (by rw [HL.out]; exact H.out))
          have E : Hid (turnV P T A D = (turnsTo A T D T, true)) := Lib.hid (turnV_yes (by unfold okTurn; rw [S1.out, HL.out, S2.out, S3.out]; rfl))
          have HOK : Hid (∀ k, k ≤ T → TurnOk P T k (turnsTo A T D k)) := Lib.hid fun j hj => turns_ok S3.out (by rw [HL.out]; omega) hj
          have HVr : Hid (VOk wr P T a1 l1 c1 A) := Lib.hid (by rw [HW.out]; exact HV1.out.below (same_below ⟨m, rfl⟩ _))
          have HCDr : Hid (∀ i, i < k → wr.cell? ⟨bd, od + i, none⟩ = some (.int .i64 (D.getD i 0))) := Lib.hid (by rw [HW.out]; exact HCD.out)
          have hbd' : bd < wr.heap.size := by rw [HW.out]; exact hbd
          clear H HW HX1 HV1 HD1 HCD hbd B1 S1 S2
          obtain ⟨wo, hwo⟩ : ∃ wo : World, wo = wr := ⟨_, rfl⟩
          subst hwo
          go_wp2_with fail
          have hb1 := below1 (w := wo) (o := .cells #[] 2)
          have HR0 : Hid ((wo.alloc (.cells #[] 2)).ownsRow wo.heap.size 2 1 (.slice (some ⟨wo.heap.size, 0, none⟩) 0 0) 0 ((List.replicate 0 (-1 : Int)).map (Value.int .i64))) := Lib.hid (World.ownsRow_lit (base := wo.heap.size) (e := 2) (size := 1) wo #[] 0 (Nat.le_refl _) (by decide) rfl)
          have HB1 := Lib.hid hb1
          clear hb1 x0 x1 x2
          go_loopw [7, 8] (fun o x wr => ∃ (j : Nat) (a : Option Addr) (cap : Nat), j ≤ T ∧ x = .int .i64 j ∧ o = .slice a j cap ∧ Hid (wr.ownsRow wo.heap.size 2 1 (.slice a j cap) j ((List.replicate j (-1 : Int)).map (Value.int .i64))) ∧ Hid (Below wo.heap.size wo wr)) (fun _ x _ => T - (intOf x).toNat)
          case atStart => exact ⟨0, _, 0, Nat.zero_le _, rfl, rfl, HR0, HB1⟩
          case round =>
            clear HR0 HB1
            obtain ⟨j, a, cap, hj, rfl, rfl, HR, HBW⟩ := hrel
            have hwz := HBW.out.size
            by_cases hlt2 : j < T
            · obtain ⟨⟨x0, x1, x2⟩, _⟩ := (HXr.out.below HBW.out).all
              go_wp2_with (at_builtin; refine wpList_append_own _ rfl (.tmp 47) (.tmp 48) 22 rfl wo.heap.size 2 i0 (.int .i64 0) 1 8 Try.underlying22 hi hz0 hz1 hz2 rfl (by decide) _ j _ rfl (HR.out.alloc _) ⟨wr.heap.size, 0, none⟩ 1 1 [.int .i64 (-1)] rfl rfl (news_one _ _ (by simp)) (one_int _) (by unfold maxLen; omega) (by omega) (by simp; omega) ?_)
              intro v' w3 hown hgrow _
              obtain ⟨a', cap', rfl⟩ := row_slice hown
              have HB3 : Hid (Below wo.heap.size wo w3) := Lib.hid (Below.grown (HBW.out.alloc (by simpa using hwz) _) hgrow (by simp; omega) (fun k hk => (World.ownsRow.lt HR.out k hk).1))
              have HR3 : Hid (w3.ownsRow wo.heap.size 2 1 (.slice a' (j + 1) cap') (j + 1) ((List.replicate (j + 1) (-1 : Int)).map (Value.int .i64))) := Lib.hid (by
                rw [List.map_replicate, List.replicate_succ']
                exact hown)
              have hxx := (HXr.out.below HB3.out).c1
              clear hown hgrow x0 x1 x2
              go_wp2_with fail
              go_roundw
              case rel => exact ⟨j + 1, a', cap', by omega, by go_num, rfl, HR3, HB3⟩
              case measure => simp [intOf]; omega
            · obtain rfl : j = T := by omega
              obtain ⟨⟨x0, x1, x2⟩, _⟩ := (HXr.out.below HBW.out).all
              have HOW0 := Lib.hid (own_of_row HR.out (fun z hz => by rw [List.mem_replicate] at hz; rw [hz.2]; exact ⟨by omega, by omega⟩))
              clear HR
              obtain ⟨wp, hwp⟩ : ∃ wp : World, wp = wr := ⟨_, rfl⟩
              subst hwp
              obtain ⟨g, rfl, hg1, hg2⟩ := HOW0.out.form (by omega)
              have HG : Hid (wo.heap.size ≤ g ∧ g < wp.heap.size) := Lib.hid ⟨hg1, hg2⟩
              have HT0 : Hid (Own wp wo.heap.size wp.heap.size (some ⟨g, 0, none⟩) j cap (turnsTo A j D 0)) := HOW0
              go_wp2_with fail
              clear HOW0 x0 x1 x2 hg1 hg2
              go_loopw [9] (fun x wr => ∃ n : Nat, n ≤ j ∧ x = .int .i64 n ∧ Hid (Own wr wo.heap.size wp.heap.size (some ⟨g, 0, none⟩) j cap (turnsTo A j D n)) ∧ Hid (Below wo.heap.size wo wr)) (fun x _ => j - (intOf x).toNat)
              case atStart => exact ⟨0, Nat.zero_le _, rfl, HT0, HBW⟩
              case round =>
                clear HT0 HBW
                obtain ⟨n, hn, rfl, HOW, HBN⟩ := hrel
                have hwn := HBN.out.size
                obtain ⟨⟨x0, x1, x2⟩, _⟩ := (HXr.out.below HBN.out).all
                by_cases hlt3 : n < j
                · have HVi := Lib.hid (HVr.out.below HBN.out)
                  obtain ⟨m2, hm⟩ : ∃ m, n % k = m := ⟨_, rfl⟩
                  have hmk : m2 < k := by rw [← hm]; exact Nat.mod_lt _ (by omega)
                  have hmi : (n : Int) % (k : Int) = (m2 : Int) := by rw [← hm]; simp
                  obtain ⟨i, hi, hiP⟩ : ∃ i : Nat, D.getD m2 0 = i ∧ i < P := by
                    have := okAll_at S3.out (i := m2) (by rw [HL.out]; exact hmk)
                    exact ⟨(D.getD m2 0).toNat, by omega, by omega⟩
                  have hsd : wr.cell? ⟨bd, od + m2, none⟩ = some (.int .i64 i) := by
                    rw [← hi]
                    exact (HBN.out.cell hbd').trans (HCDr.out m2 hmk)
                  have HTO := Lib.hid (HOK.out n hn)
                  obtain ⟨qb, hq, hqT, hqo⟩ := HTO.out.best (f := wAt A j i) hlt3
                  have HQB := Lib.hid hq
                  have HNX : Hid (turnsTo A j D (n + 1) = (turnsTo A j D n).set qb (i : Int)) := Lib.hid (by
                    show (turnsTo A j D n).set (bestI A j (D.getD (n % D.length) 0).toNat (turnsTo A j D n)).toNat (D.getD (n % D.length) 0) = _
                    rw [HL.out, hm, hi, Int.toNat_natCast]
                    unfold bestI
                    rw [hq, Int.toNat_natCast])
                  obtain ⟨b, off, rfl, hb, hcw⟩ := HVi.out.at_
                  obtain ⟨hl, hl1, hl48⟩ := HVi.out.l48
                  obtain ⟨f, f2, e1, -, e3, -, -⟩ := row_prod (T := j) hiP
                  have HF : Hid (∀ q, q < j → f + q < l1) := Lib.hid fun q hq => by rw [← e3, hl]; exact row_lt hiP hq
                  have hf48 : f + j ≤ 48 := by
                    have := HF.out (j - 1) (by omega)
                    omega
                  have HCR : Hid (∀ q, q < j → wr.cell? ⟨b, off + (f + q), none⟩ = some (.int .i64 (wAt A j i q))) := Lib.hid fun q hq => by
                    have h1 := hcw (f + q) (HF.out q hq)
                    rw [← e3] at h1
                    rw [← e3]
                    exact h1
                  have HCO : Hid (∀ q, q < j → wr.cell? ⟨g, q, none⟩ = some (.int .i64 ((turnsTo A j D n).getD q 0))) := Lib.hid fun q hq => by
                    have h := HOW.out.2.2.2.2.cellAt q (by omega)
                    have hql : q < (turnsTo A j D n).length := by rw [HTO.out.len]; exact hq
                    rw [h, List.getElem?_map, List.getElem?_eq_getElem hql, List.getD_eq_getElem?_getD, List.getElem?_eq_getElem hql]
                    rfl
                  have HME : Hid (∀ q, q < j → (turnsTo A j D n).getD q 0 = -1 ∨ 0 ≤ (turnsTo A j D n).getD q 0) := Lib.hid fun q hq => (HTO.out.mem q hq).imp id And.left
                  have HMB : Hid (∀ q, q < j → (turnsTo A j D n).getD q 0 < 100) := Lib.hid fun q hq => by
                    rcases HTO.out.mem q hq with h | h <;> omega
                  have HOL : Hid ((turnsTo A j D n).length = j) := Lib.hid HTO.out.len
                  clear hcw hl hq hi hm HTO HVi
                  generalize turnsTo A j D n = O at *
                  obtain ⟨wi, hwi⟩ : ∃ wi : World, wi = wr := ⟨_, rfl⟩
                  subst hwi
                  go_wp2_with fail
                  clear hmi
                  go_loopw [11, 12] (fun o x wr => ∃ q m : Nat, q ≤ j ∧ x = .int .i64 q ∧ o = .int .i64 (idxN (wAt A j i) O q) ∧ Hid (wr = wi.drewN m)) (fun _ x _ => j - (intOf x).toNat)
                  case atStart => exact ⟨0, 0, Nat.zero_le _, rfl, rfl, Lib.hid rfl⟩
                  case round =>
                    obtain ⟨q, m3, hq, rfl, rfl, HW⟩ := hrel
                    have y0 : wr.cell? ⟨w.heap.size, 0, none⟩ = some (.int .i64 P) := by rw [HW.out]; exact x0
                    have y1 : wr.cell? ⟨w.heap.size, 1, none⟩ = some (.int .i64 j) := by rw [HW.out]; exact x1
                    have y2 : wr.cell? ⟨w.heap.size, 2, none⟩ = some (.slice (some ⟨b, off, none⟩) l1 c1) := by rw [HW.out]; exact x2
                    by_cases hlt4 : q < j
                    · have hso : wr.cell? ⟨g, q, none⟩ = some (.int .i64 (O.getD q 0)) := by rw [HW.out]; exact HCO.out q hlt4
                      have hcq : wr.cell? ⟨b, off + (f + q), none⟩ = some (.int .i64 (wAt A j i q)) := by rw [HW.out]; exact HCR.out q hlt4
                      have hfq := HF.out q hlt4
                      clear x0 x1 x2 hsd
                      rcases HME.out q hlt4 with ho | ho
                      · rw [ho] at hso
                        obtain ⟨h1, h2, h3⟩ := idxN_in (wAt A j i) O q
                        by_cases hz : idxN (wAt A j i) O q = -1
                        · have HS : Hid (idxN (wAt A j i) O (q + 1) = (q : Int)) := Lib.hid (by rw [idxN, if_pos ⟨ho, .inl (by omega)⟩])
                          rw [hz]
                          clear h1 h2 h3 hz ho
                          go_wp2_with fail
                          go_quiet (fail)
                          go_wp2_with fail
                          go_roundw
                          case rel => exact ⟨q + 1, m3 + nq, by omega, by go_num, by rw [HS.out], Lib.hid (by rw [HW.out]; exact World.drewN_drewN _ _ _)⟩
                          case measure => simp [intOf]; omega
                        · obtain ⟨bb, hbb⟩ : ∃ bb : Nat, idxN (wAt A j i) O q = bb := ⟨(idxN (wAt A j i) O q).toNat, by omega⟩
                          have hbq : bb < q := by omega
                          have hcb : wr.cell? ⟨b, off + (f + bb), none⟩ = some (.int .i64 (wAt A j i bb)) := by rw [HW.out]; exact HCR.out bb (by omega)
                          have hfb := HF.out bb (by omega)
                          by_cases hgt : wAt A j i bb < wAt A j i q
                          · have HS : Hid (idxN (wAt A j i) O (q + 1) = (q : Int)) := Lib.hid (by rw [idxN, if_pos ⟨ho, .inr (by rw [hbb, Int.toNat_natCast]; exact hgt)⟩])
                            rw [hbb]
                            clear h1 h2 h3 hz ho hbb
                            have hw1 : IntKind.i64.wrap (f : Int) = (f : Int) := IntWalk.i64_in _ (by omega)
                            obtain ⟨fq, gq⟩ : ∃ x, f + q = x := ⟨_, rfl⟩
                            have hb0 : decide ((bb : Int) < 0) = false := decide_eq_false (by omega)
                            obtain ⟨fb, gb⟩ : ∃ x, f + bb = x := ⟨_, rfl⟩
                            have hw2 : IntKind.i64.wrap ((f : Int) + (q : Int)) = (fq : Int) := by rw [← gq, Int.natCast_add]; exact IntWalk.i64_in _ (by omega)
                            have hw3 : IntKind.i64.wrap ((f : Int) + (bb : Int)) = (fb : Int) := by rw [← gb, Int.natCast_add]; exact IntWalk.i64_in _ (by omega)
                            rw [gq] at hcq hfq
                            rw [gb] at hcb hfb
                            clear gq gb
                            generalize wAt A j i bb = vb at *
                            generalize wAt A j i q = vq at *
                            go_wp2_with fail
                            go_quiet (fail)
                            go_wp2_with fail
                            go_roundw
                            case rel => exact ⟨q + 1, m3 + nq, by omega, by go_num, by rw [HS.out], Lib.hid (by rw [HW.out]; exact World.drewN_drewN _ _ _)⟩
                            case measure => simp [intOf]; omega
                          · have HS : Hid (idxN (wAt A j i) O (q + 1) = (bb : Int)) := Lib.hid (by
                              rw [idxN, if_neg (fun h => by
                                rcases h.2 with h | h
                                · omega
                                · rw [hbb, Int.toNat_natCast] at h; exact hgt h)]
                              exact hbb)
                            rw [hbb]
                            clear h1 h2 h3 hz ho hbb
                            have hw1 : IntKind.i64.wrap (f : Int) = (f : Int) := IntWalk.i64_in _ (by omega)
                            obtain ⟨fq, gq⟩ : ∃ x, f + q = x := ⟨_, rfl⟩
                            have hb0 : decide ((bb : Int) < 0) = false := decide_eq_false (by omega)
                            obtain ⟨fb, gb⟩ : ∃ x, f + bb = x := ⟨_, rfl⟩
                            have hw2 : IntKind.i64.wrap ((f : Int) + (q : Int)) = (fq : Int) := by rw [← gq, Int.natCast_add]; exact IntWalk.i64_in _ (by omega)
                            have hw3 : IntKind.i64.wrap ((f : Int) + (bb : Int)) = (fb : Int) := by rw [← gb, Int.natCast_add]; exact IntWalk.i64_in _ (by omega)
                            rw [gq] at hcq hfq
                            rw [gb] at hcb hfb
                            clear gq gb
                            generalize wAt A j i bb = vb at *
                            generalize wAt A j i q = vq at *
                            go_wp2_with fail
                            go_quiet (fail)
                            go_wp2_with fail
                            go_roundw
                            case rel => exact ⟨q + 1, m3 + nq, by omega, by go_num, by rw [HS.out], Lib.hid (by rw [HW.out]; exact World.drewN_drewN _ _ _)⟩
                            case measure => simp [intOf]; omega
                      · have HS : Hid (idxN (wAt A j i) O (q + 1) = idxN (wAt A j i) O q) := Lib.hid (by rw [idxN, if_neg (fun h => by have := h.1; omega)])
                        have hb100 := HMB.out q hlt4
                        have hvo : decide (O.getD q 0 < 0) = false := decide_eq_false (by omega)
                        generalize O.getD q 0 = vo at *
                        generalize idxN (wAt A j i) O q = bs at *
                        go_wp2_with fail
                        go_quiet (fail)
                        go_wp2_with fail
                        go_roundw
                        case rel => exact ⟨q + 1, m3 + nq, by omega, by go_num, by rw [HS.out], Lib.hid (by rw [HW.out]; exact World.drewN_drewN _ _ _)⟩
                        case measure => simp [intOf]; omega
                    · obtain rfl : q = j := by omega
                      rw [HQB.out]
                      have HOC : Hid (Own wr wo.heap.size wp.heap.size (some ⟨g, 0, none⟩) q cap O) := Lib.hid (by rw [HW.out]; exact HOW.out.below (same_below ⟨m3, rfl⟩ _))
                      have HBR : Hid (Below wo.heap.size wo wr) := Lib.hid (by rw [HW.out]; exact below_after HBN.out (Nat.le_refl _) (same_below ⟨m3, rfl⟩ _))
                      clear HW HCO HCR HF HME HMB HQB hsd x0 x1 x2
                      have hdst : wr.cell? ⟨g, qb, none⟩ = some (.int .i64 (-1)) := by
                        have h := HOC.out.2.2.2.2.cellAt qb (by omega)
                        rw [h, List.getElem?_map]
                        have hql : qb < O.length := by rw [HOL.out]; exact hqT
                        rw [List.getD_eq_getElem?_getD, List.getElem?_eq_getElem hql] at hqo
                        rw [List.getElem?_eq_getElem hql]
                        simpa using hqo
                      have hfz : wr.frozen? ⟨g, qb, none⟩ = false := HOC.out.2.2.2.2.frozenAt qb
                      have HN1 : Hid (Own (wr.setCell ⟨g, qb, none⟩ (.int .i64 i)) wo.heap.size wp.heap.size (some ⟨g, 0, none⟩) q cap (turnsTo A q D (n + 1))) := Lib.hid (by
                        rw [HNX.out]
                        exact HOC.out.put ⟨by omega, by omega⟩)
                      have HN2 : Hid (Below wo.heap.size wo (wr.setCell ⟨g, qb, none⟩ (.int .i64 i))) := Lib.hid (HBR.out.setCell (p := ⟨g, qb, none⟩) HG.out.1 _)
                      go_wp2_with fail
                      go_roundw
                      case rel => exact ⟨n + 1, by omega, by go_num, HN1, HN2⟩
                      case measure => simp [intOf]; omega
                · obtain rfl : n = j := by omega
                  have HSZ := HOW.out.2.2.1
                  go_wp2_with fail
                  go_ret2
                  refine ⟨some ⟨g, 0, none⟩, n, cap, by rw [E.out]; rfl, ?_, below_after HBr.out (Nat.le_refl _) HBN.out⟩
                  rw [E.out]
                  exact HOW.out.wide HBr.out.size HSZ (Nat.le_refl _)
end Go.Proofs.Ytkgjfockechniaa
