/-
  IsFreeUpToOne: the reference's two loops.
-/
import Derived.Test.YtblckofdpgenkaaTUpTo
namespace Go.Proofs.Ytblckofdpgenkaa
open Go.RowKit Go.ChangeShapes Go.WideShapes
set_option linter.unusedVariables false

theorem same_trans {a b c : World} (h : Same a b) (k : Same b c) : Same a c := by
  obtain ⟨n, rfl⟩ := h
  obtain ⟨m, rfl⟩ := k
  exact ⟨n + m, World.drewN_drewN _ _ _⟩
theorem up_bad {A : List Int} {T : Nat} {O : List Int} {P i j : Nat} (hi : i < P) (hj : j < P) (h : upB A T O i j = false) : upL A T O P = false := by
  unfold upL
  rw [List.all_eq_false]
  refine ⟨i, List.mem_range.2 hi, ?_⟩
  rw [Bool.not_eq_true, List.all_eq_false]
  exact ⟨j, List.mem_range.2 hj, by rw [h]; simp⟩
theorem up_all {A : List Int} {T : Nat} {O : List Int} {P : Nat} (h : ∀ i, i < P → ∀ j, j < P → upB A T O i j = true) : upL A T O P = true := by
  unfold upL
  rw [List.all_eq_true]
  intro i hi
  rw [List.all_eq_true]
  intro j hj
  exact h i (List.mem_range.1 hi) j (List.mem_range.1 hj)

set_option maxHeartbeats 2000000 in
set_option maxRecDepth 20000 in
theorem specUp_any (p t : Int) (a1 : Option Addr) (l1 c1 : Nat) (A : List Int) (ao : Option Addr) (lo co : Nat) (O : List Int) (w : World) (hA : IAt w a1 l1 A) (hO : IAt w ao lo O) (hc : l1 ≤ c1) :
    Calls Try.prog 37 #[valuesV p t a1 l1 c1, .slice ao lo co] w (TwoOut w (upV p t A O)) := by
  have HA := Lib.hid hA
  have HO := Lib.hid hO
  clear hA hO
  have HX : Hid (Box3 _ w.heap.size 27 (.int .i64 p) (.int .i64 t) (.slice a1 l1 c1)) := Lib.hid (heap1 (w := w))
  have b0 := Lib.hid (below1 (w := w) (o := .cells #[.int .i64 p, .int .i64 t, .slice a1 l1 c1] 27))
  cases s0 : okV p t A with
  | false =>
    have S0 := Lib.hid s0
    rw [upV_no (okOwn_out s0)]
    clear s0
    go_enter Try.func37, Try.ntmps37
    go_wp2_with fail
    refine (specIsV_any w.heap.size p t a1 l1 c1 A _ HX.out (HA.out.below b0.out)).mono ?_
    rintro e w1 ⟨rfl, s1⟩
    rw [S0.out]
    have b1 := Lib.hid (b0.out.trans (same_below s1 _))
    clear s1
    go_wp2_with fail
    go_ret2
    exact ⟨rfl, b1.out⟩
  | true =>
    obtain ⟨P, T, rfl, rfl, hv⟩ := VOk.of HA.out hc s0
    have hE := okOwn_in (O := O) s0
    have S0 := Lib.hid s0
    have HV := Lib.hid (hv.below b0.out)
    have hp6 := hv.p6
    have ht8 := hv.t8
    clear hv s0
    cases s1 : okOwn P T A O with
    | false =>
      rw [hE] at s1
      have E := Lib.hid hE
      have S1 := Lib.hid s1
      rw [upV_no (E.out.trans S1.out)]
      clear s1 hE E
      go_enter Try.func37, Try.ntmps37
      go_wp2_with fail
      refine (specIsV_any w.heap.size P T a1 l1 c1 A _ HX.out (HA.out.below b0.out)).mono ?_
      rintro e w1 ⟨rfl, s1⟩
      rw [S0.out]
      have c1 := Lib.hid (same_below s1 (w.alloc (.cells #[.int .i64 (P : Nat), .int .i64 (T : Nat), .slice a1 l1 c1] 27)).heap.size)
      clear s1
      go_wp2_with fail
      refine (owners04_any w.heap.size P T a1 l1 _ ao lo co O w1 (HX.out.below c1.out) hp6 ht8 ((HO.out.below b0.out).below c1.out)).mono ?_
      rintro e w2 ⟨rfl, s2⟩
      rw [S1.out]
      have c2 := Lib.hid (same_below s2 w1.heap.size)
      clear s2
      go_wp2_with fail
      go_ret2
      exact ⟨rfl, below_after (below_after b0.out (Nat.le_refl _) c1.out) (Nat.le_refl _) c2.out⟩
    | true =>
      have hl2 : lo ≤ T := by have := (okOwn_true s1).2.1; have := HO.out.1; omega
      rw [upV_yes s1]
      rw [hE] at s1
      have S1 := Lib.hid s1
      have HOL : Hid (O.length ≤ T) := Lib.hid (by have := HO.out.1; omega)
      clear s1 hE
      go_enter Try.func37, Try.ntmps37
      go_wp2_with fail
      refine (specIsV_any w.heap.size P T a1 l1 c1 A _ HX.out (HA.out.below b0.out)).mono ?_
      rintro e w1 ⟨rfl, s1⟩
      rw [S0.out]
      have d1 := Lib.hid (same_below s1 (w.alloc (.cells #[.int .i64 (P : Nat), .int .i64 (T : Nat), .slice a1 l1 c1] 27)).heap.size)
      clear s1
      go_wp2_with fail
      refine (owners04_any w.heap.size P T a1 l1 _ ao lo co O w1 (HX.out.below d1.out) hp6 ht8 ((HO.out.below b0.out).below d1.out)).mono ?_
      rintro e w2 ⟨rfl, s2⟩
      rw [S1.out]
      have d2 := below_after d1.out (Nat.le_refl _) (same_below s2 w1.heap.size)
      have HX2 := Lib.hid (HX.out.below d2)
      have HV2 := Lib.hid (HV.out.below d2)
      have HO2 := Lib.hid ((HO.out.below b0.out).below d2)
      have B2 := Lib.hid (below_after b0.out (Nat.le_refl _) d2)
      clear s2 d2 d1 HX HV HO b0 HA S0 S1
      go_wp2_with fail
      go_loopw [6] (fun q wr => ∃ k : Nat, k ≤ P ∧ q = .int .i64 k ∧ Hid (∀ i, i < k → ∀ j, j < P → upB A T O i j = true) ∧ Hid (Same w2 wr)) (fun q _ => P - (intOf q).toNat)
      case atStart => exact ⟨0, Nat.zero_le _, rfl, Lib.hid (fun i hi => absurd hi (by omega)), Lib.hid ⟨0, rfl⟩⟩
      case round =>
        obtain ⟨k, hk, rfl, H, HS⟩ := hrel
        obtain ⟨⟨q0, q1, q2⟩, _⟩ := (HX2.out.below (same_below HS.out _)).all
        by_cases hlt : k < P
        · obtain ⟨wo, rfl⟩ : ∃ wo : World, wo = wr := ⟨_, rfl⟩
          go_wp2_with fail
          go_loopw [7] (fun q wr => ∃ r : Nat, r ≤ P ∧ q = .int .i64 r ∧ Hid (∀ j, j < r → upB A T O k j = true) ∧ Hid (Same w2 wr)) (fun q _ => P - (intOf q).toNat)
          case atStart => exact ⟨0, Nat.zero_le _, rfl, Lib.hid (fun j hj => absurd hj (by omega)), HS⟩
          case round =>
            clear HS q0 q1 q2
            obtain ⟨r, hr, rfl, G, HS⟩ := hrel
            have hX3 := HX2.out.below (same_below HS.out _)
            obtain ⟨⟨q0, q1, q2⟩, _⟩ := hX3.all
            have HX3 := Lib.hid hX3
            have HV3 := Lib.hid (HV2.out.below (same_below HS.out _))
            have HO3 := Lib.hid (HO2.out.below (same_below HS.out _))
            clear hX3
            by_cases hlt2 : r < P
            · have HEV : Hid (partW A T k r O - partW A T k k O = envyF A T O k r) := Lib.hid rfl
              have HUP : Hid (upB A T O k r = decide (envyF A T O k r ≤ bestW A T k r O)) := Lib.hid rfl
              go_wp2_with fail
              refine (specEnvy_any w.heap.size P T k a1 l1 c1 A r ao lo co O wr HX3.out HV3.out hlt HO3.out hl2).mono ?_
              rintro e w3 ⟨rfl, s3⟩
              rw [HEV.out]
              have HX4 := Lib.hid (HX3.out.below (same_below s3 _))
              have HV4 := Lib.hid (HV3.out.below (same_below s3 _))
              have HO4 := Lib.hid (HO3.out.below (same_below s3 _))
              have HS3 := Lib.hid (same_trans HS.out s3)
              clear s3 HX3 HV3 HO3 q0 q1 q2 HEV
              obtain ⟨bw, hbw⟩ : ∃ bw, bestW A T k r O = bw := ⟨_, rfl⟩
              rw [hbw] at HUP
              have HBW := Lib.hid hbw
              clear hbw
              obtain ⟨ev, hev⟩ : ∃ ev, envyF A T O k r = ev := ⟨_, rfl⟩
              rw [hev] at HUP ⊢
              clear hev
              go_wp2_with fail
              refine (specBestW_any w.heap.size P T k a1 l1 c1 A r ao lo co O w3 HX4.out HV4.out hlt HO4.out hl2).mono ?_
              rintro e w4 ⟨rfl, s4⟩
              rw [HBW.out]
              have HS4 := Lib.hid (same_trans HS3.out s4)
              clear s4 HX4 HV4 HO4 HBW HS3 HS
              by_cases hb : bw < ev
              · have E : Hid (upL A T O P = false) := Lib.hid (up_bad hlt hlt2 (by rw [HUP.out]; exact decide_eq_false (by omega)))
                go_wp2_with fail
                go_ret2
                exact ⟨by rw [E.out]; rfl, B2.out.trans (same_below HS4.out _)⟩
              · have G' : Hid (∀ j, j < r + 1 → upB A T O k j = true) := Lib.hid fun j hj => by
                  by_cases e : j = r
                  · rw [e, HUP.out]; exact decide_eq_true (by omega)
                  · exact G.out j (by omega)
                go_wp2_with fail
                go_roundw
                case rel => exact ⟨r + 1, by omega, by go_num, G', HS4⟩
                case measure => simp [intOf]; omega
            · obtain rfl : r = P := by omega
              have H' : Hid (∀ i, i < k + 1 → ∀ j, j < r → upB A T O i j = true) := Lib.hid fun i hi => by
                by_cases e : i = k
                · rw [e]; exact G.out
                · exact H.out i (by omega)
              go_wp2_with fail
              go_roundw
              case rel => exact ⟨k + 1, by omega, by go_num, H', HS⟩
              case measure => simp [intOf]; omega
        · obtain rfl : k = P := by omega
          have E : Hid (upL A T O k = true) := Lib.hid (up_all H.out)
          go_wp2_with fail
          go_ret2
          exact ⟨by rw [E.out]; rfl, B2.out.trans (same_below HS.out _)⟩
end Go.Proofs.Ytblckofdpgenkaa
