/-
  TakeTurns: the program's answer.
-/
import Derived.Test.YtkgjfockechniaaTTurn
import Derived.Test.YtkgjfockechniaaTUpTo
import Derived.Test.YtkgjfockechniaaRepeat
namespace Go.Proofs.Ytkgjfockechniaa
open Go.RowKit Go.ChangeShapes Go.WideShapes
set_option linter.unusedVariables false

theorem ownedBy_any (P T : Nat) (a1 : Option Addr) (l1 c1 : Nat) (w : World) (hT : T ≤ 8) :
    Calls Try.prog 86 #[valuesV (P : Nat) (T : Nat) a1 l1 c1] w fun e w' => ∃ g, e = .returned (.slice (some ⟨g, 0, none⟩) T T) ∧ Own w' w.heap.size w'.heap.size (some ⟨g, 0, none⟩) T T (List.replicate T (-1)) ∧ Below w.heap.size w w' := by
  have b0 : Below w.heap.size w ((w.alloc (.cells #[.int .i64 (P : Nat), .int .i64 (T : Nat), .slice a1 l1 c1] 27)).alloc (.cells #[.int .i64 (-1)] 2)) := below2
  have hx : Box3 ((w.alloc (.cells #[.int .i64 (P : Nat), .int .i64 (T : Nat), .slice a1 l1 c1] 27)).alloc (.cells #[.int .i64 (-1)] 2)) w.heap.size 27 (.int .i64 (P : Nat)) (.int .i64 (T : Nat)) (.slice a1 l1 c1) := heap2a
  have hy : ((w.alloc (.cells #[.int .i64 (P : Nat), .int .i64 (T : Nat), .slice a1 l1 c1] 27)).alloc (.cells #[.int .i64 (-1)] 2)).heap[w.heap.size + 1]? = some (.cells #[.int .i64 (-1)] 2) := heap2b
  have hz : ((w.alloc (.cells #[.int .i64 (P : Nat), .int .i64 (T : Nat), .slice a1 l1 c1] 27)).alloc (.cells #[.int .i64 (-1)] 2)).heap.size = w.heap.size + 2 := by simp
  have hc : ((w.alloc (.cells #[.int .i64 (P : Nat), .int .i64 (T : Nat), .slice a1 l1 c1] 27)).alloc (.cells #[.int .i64 (-1)] 2)).cell? ⟨w.heap.size + 1, 0, none⟩ = some (.int .i64 (-1)) := cell_of_row _ _ 0 _ _ (0, 0) hy
  obtain ⟨⟨x0, x1, x2⟩, _⟩ := hx.all
  have HC := Lib.hid hc
  have HZ := Lib.hid hz
  have B0 := Lib.hid b0
  clear b0 hx hy hc hz
  go_enter Try.func86, Try.ntmps86
  go_wp2_with fail
  refine (repeat_any (-1) T (w.heap.size + 1) 0 1 _ (by omega) (Nat.le_refl _) (by rw [HZ.out]; omega) ⟨by omega, by omega⟩ HC.out).mono ?_
  rintro e w2 ⟨g, rfl, o2, b2⟩
  have HO := Lib.hid (o2.wide (lo' := w.heap.size) (hi' := w2.heap.size) B0.out.size (Nat.le_refl _) (Nat.le_refl _))
  have HB := Lib.hid (below_after B0.out (Nat.le_refl _) b2)
  clear o2 b2 x0 x1 x2
  go_wp2_with fail
  go_ret
  exact ⟨g, rfl, HO.out, HB.out⟩

theorem keep3' {w0 w w' : World} {m : Nat} {v0 v1 v2 : Value} (h : Hid (Below w0.heap.size w0 w) ∧ (w.cell? ⟨m, 0, none⟩ = some v0 ∧ w.cell? ⟨m, 1, none⟩ = some v1 ∧ w.cell? ⟨m, 2, none⟩ = some v2)) (hb : Hid (Below w.heap.size w w')) :
    Hid (Below w0.heap.size w0 w') ∧ (w'.cell? ⟨m, 0, none⟩ = some v0 ∧ w'.cell? ⟨m, 1, none⟩ = some v1 ∧ w'.cell? ⟨m, 2, none⟩ = some v2) :=
  ⟨Lib.hid (below_after h.1.out (Nat.le_refl _) hb.out), cells3_on h.2 hb.out⟩
theorem turn_key {f : Nat → Int} {O : List Int} {T q : Nat} (hl : O.length = T) (h : idxN f O T = q) : keyOr (fun x : Thing (-1) O => ((x.1 : Nat) : Int)) (bestL (fun x : Thing (-1) O => f x.1) (thingsAll (-1) O)) = (q : Nat) := by
  subst hl
  unfold thingsAll
  rcases idx_best f O O.length (Nat.le_refl _) with ⟨_, h2⟩ | ⟨x, h1, h2⟩
  · rw [h] at h2; omega
  · rw [h1]
    rw [h] at h2
    exact h2.symm

theorem Own.put {w : World} {lo hi g len cap : Nat} {zs : List Int} (h : Own w lo hi (some ⟨g, 0, none⟩) len cap zs) {i : Nat} {v : Int} (hv : Big v) : Own (w.setCell ⟨g, i, none⟩ (.int .i64 v)) lo hi (some ⟨g, 0, none⟩) len cap (zs.set i v) := by
  obtain ⟨h1, h2, h3, h4, h5⟩ := h
  refine ⟨by simpa using h1, fun z hz => ?_, by simpa [World.setCell] using h3, h4, ?_⟩
  · rcases List.mem_or_eq_of_mem_set hz with h | h
    · exact h2 z h
    · rw [h]; exact hv
  · rw [List.map_set]
    exact (h5.stored i (.int .i64 v)).1

set_option maxHeartbeats 4000000 in
set_option maxRecDepth 20000 in
theorem implTurns_any (p t : Int) (a1 : Option Addr) (l1 c1 : Nat) (A : List Int) (ao : Option Addr) (lo co : Nat) (D : List Int) (w : World) (hA : IAt w a1 l1 A) (hO : IAt w ao lo D) (hc : l1 ≤ c1) :
    Calls Try.prog 42 #[valuesV p t a1 l1 c1, .slice ao lo co] w (PairOut w (turnV p t A D)) := by
  have b0 := below1 (w := w) (o := .cells #[.int .i64 p, .int .i64 t, .slice a1 l1 c1] 27)
  have HX : Hid (Box3 _ w.heap.size 27 (.int .i64 p) (.int .i64 t) (.slice a1 l1 c1)) := Lib.hid (heap1 (w := w) (o := .cells #[.int .i64 p, .int .i64 t, .slice a1 l1 c1] 27))
  have HA := Lib.hid (hA.below b0)
  have HO := Lib.hid (hO.below b0)
  have B0 := Lib.hid b0
  have hlo := hO.2.1
  have HL := Lib.hid hO.1
  unfold maxLen at hlo
  clear hA hO b0
  cases s1 : okV p t A with
  | false =>
    have S1 := Lib.hid s1
    rw [turnV_no (by unfold okTurn; rw [s1]; rfl)]
    clear s1
    go_enter Try.func42, Try.ntmps42
    go_wp2_with fail
    refine (implValidV_any p t a1 l1 c1 A _ HA.out).mono ?_
    rintro e w1 ⟨rfl, b1⟩
    rw [S1.out]
    have B1 := Lib.hid (below_after B0.out (Nat.le_refl _) b1)
    clear b1
    go_wp2_with fail
    go_ret2
    exact ⟨none, 0, 0, rfl, own_nil _ (Nat.le_refl _), B1.out⟩
  | true =>
    obtain ⟨P, T, rfl, rfl, hv⟩ := VOk.of HA.out hc s1
    have S1 := Lib.hid s1
    cases s2 : inB 1 8 (lo : Int) with
    | false =>
      have S2 := Lib.hid s2
      rw [turnV_no (by unfold okTurn; rw [HL.out, s2]; simp)]
      clear s1 s2 hv
      go_enter Try.func42, Try.ntmps42
      go_wp2_with fail
      refine (implValidV_any P T a1 l1 c1 A _ HA.out).mono ?_
      rintro e w1 ⟨rfl, b1⟩
      rw [S1.out]
      have B1 := Lib.hid (below_after B0.out (Nat.le_refl _) b1)
      clear b1
      go_wp2_with (go_at_call 84; refine (isBetween_any _ _ _ _).mono ?_; rintro e w' ⟨rfl, rfl⟩; rw [S2.out])
      go_ret2
      exact ⟨none, 0, 0, rfl, own_nil _ (Nat.le_refl _), B1.out⟩
    | true =>
      have S2 := Lib.hid s2
      obtain ⟨g1, g2⟩ := inB_true.1 s2
      cases s3 : okAll 0 ((P : Int) - 1) D with
      | false =>
        have S3 := Lib.hid s3
        rw [turnV_no (by unfold okTurn; rw [s3]; simp)]
        have hp6 := hv.p6
        clear s1 s2 s3 hv
        go_enter Try.func42, Try.ntmps42
        go_wp2_with fail
        refine (implValidV_any P T a1 l1 c1 A _ HA.out).mono ?_
        rintro e w1 ⟨rfl, b1⟩
        rw [S1.out]
        have B1 := Lib.hid (below_after B0.out (Nat.le_refl _) b1)
        have HO1 := Lib.hid (HO.out.below b1)
        obtain ⟨⟨x0, x1, x2⟩, _⟩ := (HX.out.below b1).all
        clear b1
        go_wp2_with (first
          | (go_at_call 84; refine (isBetween_any _ _ _ _).mono ?_; rintro e w' ⟨rfl, rfl⟩; rw [S2.out])
          | (go_at_call 85; refine (areIndices_any _ _ _ D _ _ HO1.out (by omega) (by omega)).mono ?_; rintro e w' ⟨rfl, rfl⟩; rw [S3.out]))
        go_ret2
        exact ⟨none, 0, 0, rfl, own_nil _ (Nat.le_refl _), B1.out⟩
      | true =>
        have S3 := Lib.hid s3
        rw [turnV_yes (by unfold okTurn; rw [s1, HL.out, s2, s3]; rfl)]
        have HV := Lib.hid hv
        have hp6 := hv.p6
        have ht1 := hv.t1
        have ht8 := hv.t8
        have hp1 := hv.p1
        have HOK : Hid (∀ k, k ≤ T → TurnOk P T k (turnsTo A T D k)) := Lib.hid fun k hk => turns_ok s3 (by rw [HL.out]; omega) hk
        clear s1 s2 s3 hv
        go_enter Try.func42, Try.ntmps42
        go_wp2_with fail
        refine (implValidV_any P T a1 l1 c1 A _ HA.out).mono ?_
        rintro e w1 ⟨rfl, b1⟩
        rw [S1.out]
        have B1 := Lib.hid (below_after B0.out (Nat.le_refl _) b1)
        have HO1 := Lib.hid (HO.out.below b1)
        have HX1 := Lib.hid (HX.out.below b1)
        have HV1 := Lib.hid (HV.out.below b1)
        obtain ⟨⟨x0, x1, x2⟩, _⟩ := HX1.out.all
        clear b1 HV HX HO HA
        go_wp2_with (first
          | (go_at_call 84; refine (isBetween_any _ _ _ _).mono ?_; rintro e w' ⟨rfl, rfl⟩; rw [S2.out])
          | (go_at_call 85; refine (areIndices_any _ _ _ D _ _ HO1.out (by omega) (by omega)).mono ?_; rintro e w' ⟨rfl, rfl⟩; rw [S3.out])
          | (go_at_call 86; refine (ownedBy_any P T a1 l1 c1 _ ht8).mono ?_; rintro e w2 ⟨g, rfl, o2, b2⟩; have HO2 := Lib.hid o2; have HB2 := Lib.hid b2; clear o2 b2))
        have hgs := (HO2.out.2.2.2.2.lt g rfl)
        have HG : Hid (w1.heap.size ≤ g ∧ g < w2.heap.size) := Lib.hid hgs
        have HB3 := Lib.hid (below_after B1.out (Nat.le_refl _) HB2.out)
        have hbw1 : w.heap.size ≤ w1.heap.size := B1.out.size
        clear x0 x1 x2 hgs
        go_loopw [31] (fun x wr => ∃ k : Nat, k ≤ T ∧ x = .int .i64 k ∧ Hid (Own wr w1.heap.size w2.heap.size (some ⟨g, 0, none⟩) T T (turnsTo A T D k)) ∧ Hid (Below w1.heap.size w1 wr) ∧ Hid (Keeps w1.heap.size w2.heap.size w2 wr)) (fun x _ => T - (intOf x).toNat)
        case atStart => exact ⟨0, Nat.zero_le _, rfl, HO2, HB2, Lib.hid (Keeps.refl _ _ _)⟩
        case round =>
          obtain ⟨k, hk, rfl, HOW, HBW, HKW⟩ := hrel
          clear HO2
          by_cases hlt : k < T
          · have HXr := Lib.hid (HX1.out.below HBW.out)
            have HVr := Lib.hid (HV1.out.below HBW.out)
            have HDr := Lib.hid (HO1.out.below HBW.out)
            have hwsz : w2.heap.size ≤ wr.heap.size := HKW.out.size
            have hw1r : w1.heap.size ≤ wr.heap.size := HBW.out.size
            obtain ⟨m, hm⟩ : ∃ m, k % lo = m := ⟨_, rfl⟩
            have hmlo : m < lo := by rw [← hm]; exact Nat.mod_lt _ (by omega)
            have hmi : (k : Int) % (lo : Int) = (m : Int) := by rw [← hm]; simp
            obtain ⟨i, hi, hiP⟩ : ∃ i : Nat, D.getD m 0 = i ∧ i < P := by
              have := okAll_at S3.out (i := m) (by rw [HL.out]; exact hmlo)
              exact ⟨(D.getD m 0).toNat, by omega, by omega⟩
            obtain ⟨bd, od, rfl, hbd, hcd⟩ : ∃ b off, ao = some ⟨b, off, none⟩ ∧ b < wr.heap.size ∧ ∀ i, i < lo → wr.cell? ⟨b, off + i, none⟩ = some (.int .i64 (D.getD i 0)) := by
              rcases HDr.out.2.2.2 with e | g
              · omega
              · exact g
            have hsd := hcd m hmlo
            rw [hi] at hsd
            have HTO := Lib.hid (HOK.out k hk)
            obtain ⟨q, hq, hqT, hqo⟩ := HTO.out.best (f := wAt A T i) hlt
            have HKEY := Lib.hid (turn_key (f := wAt A T i) HTO.out.len hq)
            have HNX : Hid (turnsTo A T D (k + 1) = (turnsTo A T D k).set q (i : Int)) := Lib.hid (by
              show (turnsTo A T D k).set (bestI A T (D.getD (k % D.length) 0).toNat (turnsTo A T D k)).toNat (D.getD (k % D.length) 0) = _
              rw [HL.out, hm, hi, Int.toNat_natCast]
              unfold bestI
              rw [hq, Int.toNat_natCast])
            obtain ⟨b, off, rfl, hb, hcw⟩ := HVr.out.at_
            obtain ⟨hl, hl1, hl48⟩ := HVr.out.l48
            have HLL := Lib.hid hl
            have hcap := HVr.out.cap
            have HCR : Hid (∀ k', k' < T → wr.cell? ⟨b, off + i * T + k', none⟩ = some (.int .i64 (wAt A T i k'))) := Lib.hid fun k' hk' => by
              have h1 := hcw (i * T + k') (by rw [hl]; exact row_lt hiP hk')
              rw [← Nat.add_assoc] at h1
              exact h1
            have HOI := HOW.out.iat
            have hgr : g < wr.heap.size := by have := HG.out; omega
            have HCO : Hid (∀ j, j < T → wr.cell? ⟨g, 0 + j, none⟩ = some (.int .i64 ((turnsTo A T D k).getD j 0))) := Lib.hid (by
              rcases HOI.2.2.2 with e | ⟨b', off', e, _, hc'⟩
              · omega
              · simp only [Option.some.injEq, Addr.mk.injEq, true_and, and_true] at e
                obtain ⟨rfl, rfl⟩ := e
                exact hc')
            have HOL : Hid ((turnsTo A T D k).length = T) := Lib.hid HTO.out.len
            have HOT : Hid ((turnsTo A T D k).length ≤ T) := Lib.hid (by rw [HTO.out.len]; exact Nat.le_refl _)
            obtain ⟨⟨p0, p1, p2⟩, _⟩ := HXr.out.all
            clear hcd hcw hl HOI hq hi hm
            generalize turnsTo A T D k = O at *
            go_wp2_with fail
            go_region_held3 (fun w' => Hid (Below wr.heap.size wr w') ∧ (w'.cell? ⟨w.heap.size, 0, none⟩ = some (.int .i64 P) ∧ w'.cell? ⟨w.heap.size, 1, none⟩ = some (.int .i64 T) ∧ w'.cell? ⟨w.heap.size, 2, none⟩ = some (.slice (some ⟨b, off, none⟩) l1 c1)))
              (first | exact ⟨keep0, ⟨p0, p1, p2⟩⟩ | exact keep3' (by assumption) (by assumption) | exact keep3' (by assumption) (Lib.hid (Below.refl _ _)))
              (first
                | (go_at_call 77; refine (thingsOf_any _ _ _ _ _).mono ?_; rintro e wa ⟨rfl, ha⟩; have HBA := Lib.hid (below_of_two ha); have HTA := Lib.hid (boxes_of_two ha); clear ha)
                | (go_at_call 78; refine (row_any b off l1 c1 P T i _ hiP ht1 HLL.out hcap (by omega)).mono ?_; rintro e wb ⟨rfl, hb2⟩; have HBB := Lib.hid hb2; clear hb2)
                | (go_at_call 76; refine (bestOf_any 117 79 _ _ _ (fun x : Thing (-1) O => ((x.1 : Nat) : Int)) (fun x : Thing (-1) O => wAt A T i x.1) (thingsAll (-1) O) _ (enters_of Try.func117 (by kernel_rfl) rfl) (enters_of Try.func79 (by kernel_rfl) rfl) (seq_two HOL.out (by unfold maxLen; omega) HTA.out HBB.out (Hid.out (And.left (by assumption))) hgr HCO.out) (val_row (by omega) HOT.out (Hid.out (And.left (by assumption))) hb HCR.out)).mono ?_; rintro e wc ⟨rfl, hb3⟩; rw [HKEY.out]; have HBC := Lib.hid hb3; clear hb3))
            have hS : Hid (Below wr.heap.size wr wc) := And.left (by assumption)
            rename_i hHeld
            have HS := Lib.hid hS.out
            have HOC := Lib.hid (HOW.out.below HS.out)
            have hdst : wc.cell? ⟨g, q, none⟩ = some (.int .i64 (-1)) := by
              have h := HOC.out.2.2.2.2.cellAt q (by omega)
              rw [h, List.getElem?_map]
              have hql : q < O.length := by rw [HOL.out]; exact hqT
              rw [List.getD_eq_getElem?_getD, List.getElem?_eq_getElem hql] at hqo
              rw [List.getElem?_eq_getElem hql]
              simpa using hqo
            have hfz : wc.frozen? ⟨g, q, none⟩ = false := HOC.out.2.2.2.2.frozenAt q
            have HN1 : Hid (Own (wc.setCell ⟨g, q, none⟩ (.int .i64 i)) w1.heap.size w2.heap.size (some ⟨g, 0, none⟩) T T (turnsTo A T D (k + 1))) := Lib.hid (by
              rw [HNX.out]
              exact HOC.out.put ⟨by omega, by omega⟩)
            have HN2 : Hid (Below w1.heap.size w1 (wc.setCell ⟨g, q, none⟩ (.int .i64 i))) := Lib.hid ((below_after HBW.out (Nat.le_refl _) HS.out).setCell (p := ⟨g, q, none⟩) HG.out.1 _)
            have HN3 : Hid (Keeps w1.heap.size w2.heap.size w2 (wc.setCell ⟨g, q, none⟩ (.int .i64 i))) := Lib.hid ((HKW.out.trans (Keeps.of_below HS.out)).trans ⟨rfl, rfl, rfl, by simp [World.setCell], fun j _ hj => Below.heap_setCell _ _ _ _ (by
              show j ≠ g
              have := HG.out
              omega)⟩)
            clear HBA HTA HBB HBC hHeld hS p0 p1 p2 hsd
            generalize keyOr (fun x : Thing (-1) O => wAt A T i x.1) (bestL (fun x : Thing (-1) O => wAt A T i x.1) (thingsAll (-1) O)) = kk
            go_wp2_with fail
            go_roundw
            case rel => exact ⟨k + 1, by omega, by go_num, HN1, HN2, HN3⟩
            case measure => simp [intOf]; omega
          · obtain rfl : k = T := by omega
            go_wp2_with fail
            go_ret2
            refine ⟨some ⟨g, 0, none⟩, k, k, rfl, HOW.out.wide hbw1 HKW.out.size (Nat.le_refl _), below_after B1.out (Nat.le_refl _) HBW.out⟩
end Go.Proofs.Ytkgjfockechniaa
