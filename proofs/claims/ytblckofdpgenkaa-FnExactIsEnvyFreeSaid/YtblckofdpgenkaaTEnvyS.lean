/-
  EnvyTable: the reference's two loops.
-/
import Derived.Test.YtblckofdpgenkaaTEnvy
namespace Go.Proofs.Ytblckofdpgenkaa
open Go.RowKit Go.ChangeShapes Go.WideShapes
set_option linter.unusedVariables false

set_option maxHeartbeats 2000000 in
set_option maxRecDepth 20000 in
theorem specTable_any (p t : Int) (a1 : Option Addr) (l1 c1 : Nat) (A : List Int) (ao : Option Addr) (lo co : Nat) (O : List Int) (w : World) (hA : IAt w a1 l1 A) (hO : IAt w ao lo O) (hc : l1 ≤ c1) :
    Calls Try.prog 33 #[valuesV p t a1 l1 c1, .slice ao lo co] w (PairOut w (tableV p t A O)) := by
  have HA := Lib.hid hA
  have HO := Lib.hid hO
  clear hA hO
  have HX : Hid (Box3 _ w.heap.size 27 (.int .i64 p) (.int .i64 t) (.slice a1 l1 c1)) := Lib.hid (heap1 (w := w))
  have b0 := Lib.hid (below1 (w := w) (o := .cells #[.int .i64 p, .int .i64 t, .slice a1 l1 c1] 27))
  cases s0 : okV p t A with
  | false =>
    have S0 := Lib.hid s0
    rw [tableV_no (okOwn_out s0)]
    clear s0
    go_enter Try.func33, Try.ntmps33
    go_wp2_with fail
    refine (specIsV_any w.heap.size p t a1 l1 c1 A _ HX.out (HA.out.below b0.out)).mono ?_
    rintro e w1 ⟨rfl, s1⟩
    rw [S0.out]
    have b1 := Lib.hid (b0.out.trans (same_below s1 _))
    clear s1
    go_wp2_with fail
    go_ret2
    exact ⟨none, 0, 0, rfl, own_nil _ (Nat.le_refl _), b1.out⟩
  | true =>
    obtain ⟨P, T, rfl, rfl, hv⟩ := VOk.of HA.out hc s0
    have hE := okOwn_in (O := O) s0
    have S0 := Lib.hid s0
    have HV := Lib.hid (hv.below b0.out)
    have hp6 := hv.p6
    have ht8 := hv.t8
    clear hv s0
    have hz : w.heap.size + 1 ≤ (w.alloc (.cells #[.int .i64 (P : Nat), .int .i64 (T : Nat), .slice a1 l1 c1] 27)).heap.size := by simp
    cases s1 : okOwn P T A O with
    | false =>
      rw [hE] at s1
      have E := Lib.hid hE
      have S1 := Lib.hid s1
      rw [tableV_no (E.out.trans S1.out)]
      clear s1 hE E
      go_enter Try.func33, Try.ntmps33
      go_wp2_with fail
      refine (specIsV_any w.heap.size P T a1 l1 c1 A _ HX.out (HA.out.below b0.out)).mono ?_
      rintro e w1 ⟨rfl, s1⟩
      rw [S0.out]
      have c1 := Lib.hid (same_below s1 (w.alloc (.cells #[.int .i64 (P : Nat), .int .i64 (T : Nat), .slice a1 l1 c1] 27)).heap.size)
      clear s1
      go_wp2_with fail
      refine (owners04_any w.heap.size P T a1 l1 _ ao lo co O w1 (HX.out.below c1.out) hp6 ht8 ((HO.out.below b0.out).below c1.out)).mono ?_
      rintro e w2 ⟨rfl, s2⟩
      rw [S1.out]
      have c2 := Lib.hid (same_below s2 w1.heap.size)
      clear s2
      go_wp2_with fail
      go_ret2
      exact ⟨none, 0, 0, rfl, own_nil _ (Nat.le_refl _), below_after (below_after b0.out (Nat.le_refl _) c1.out) (Nat.le_refl _) c2.out⟩
    | true =>
      have hl2 : lo ≤ T := by have := (okOwn_true s1).2.1; have := HO.out.1; omega
      rw [tableV_yes s1]
      rw [hE] at s1
      have S1 := Lib.hid s1
      have HG : Hid (∀ i j, i < P → -8000 ≤ envyF A T O i j ∧ envyF A T O i j ≤ 8000) := Lib.hid fun i j hi => envyF_big HV.out (by rw [HO.out.1]; exact hl2) hi
      clear s1 hE
      obtain ⟨i0, hi, hz0, hz1, hz2⟩ := info_parts (P := Try.prog) (e := 2) (z := .int .i64 0) (size := 1) (bytes := 8) (by kernel_rfl)
      go_enter Try.func33, Try.ntmps33
      go_wp2_with fail
      refine (specIsV_any w.heap.size P T a1 l1 c1 A _ HX.out (HA.out.below b0.out)).mono ?_
      rintro e w1 ⟨rfl, s1⟩
      rw [S0.out]
      have d1 := Lib.hid (same_below s1 (w.alloc (.cells #[.int .i64 (P : Nat), .int .i64 (T : Nat), .slice a1 l1 c1] 27)).heap.size)
      clear s1
      go_wp2_with fail
      refine (owners04_any w.heap.size P T a1 l1 _ ao lo co O w1 (HX.out.below d1.out) hp6 ht8 ((HO.out.below b0.out).below d1.out)).mono ?_
      rintro e w2 ⟨rfl, s2⟩
      rw [S1.out]
      have d2 := below_after d1.out (Nat.le_refl _) (same_below s2 w1.heap.size)
      have HX2 := Lib.hid (HX.out.below d2)
      have HV2 := Lib.hid (HV.out.below d2)
      have HO2 := Lib.hid ((HO.out.below b0.out).below d2)
      have B2 := Lib.hid (below_after b0.out (Nat.le_refl _) d2)
      have hs2 : w.heap.size + 1 ≤ w2.heap.size := by have := d2.size; omega
      clear s2 d2 d1 HX HV HO b0 hz HA S0 S1
      go_wp2_with fail
      go_loopw [6, 7] (fun o q wr => ∃ (k m : Nat) (a : Option Addr) (cap : Nat), k ≤ P ∧ q = .int .i64 k ∧ o = .slice a m cap ∧ m ≤ 6 * k ∧
          Hid (wr.ownsRow w2.heap.size 2 1 (.slice a m cap) m ((pairsTo (envyF A T O) P k).map (Value.int .i64))) ∧ Hid (Below w2.heap.size w2 wr))
        (fun _ q _ => P - (intOf q).toNat)
      case atStart =>
        exact ⟨0, 0, _, 0, Nat.zero_le _, rfl, rfl, Nat.zero_le _, Lib.hid (World.ownsRow_made w2 #[] 0 (Nat.le_refl _) (Nat.zero_le _) rfl), Lib.hid below1⟩
      case round =>
        obtain ⟨k, m, a, cap, hk, rfl, rfl, hm, HR, HW⟩ := hrel
        obtain ⟨⟨q0, q1, q2⟩, _⟩ := (HX2.out.below HW.out).all
        by_cases hlt : k < P
        · have HR0 : Hid (wr.ownsRow w2.heap.size 2 1 (.slice a m cap) m ((pairsTo (envyF A T O) P k ++ (List.range 0).map (envyF A T O k)).map (Value.int .i64))) := Lib.hid (by simpa using HR.out)
          clear HR
          obtain ⟨wo, rfl⟩ : ∃ wo : World, wo = wr := ⟨_, rfl⟩
          go_wp2_with fail
          go_loopw [6, 8] (fun o q wr => ∃ (r m : Nat) (a : Option Addr) (cap : Nat), r ≤ P ∧ q = .int .i64 r ∧ o = .slice a m cap ∧ m ≤ 6 * k + r ∧
              Hid (wr.ownsRow w2.heap.size 2 1 (.slice a m cap) m ((pairsTo (envyF A T O) P k ++ (List.range r).map (envyF A T O k)).map (Value.int .i64))) ∧ Hid (Below w2.heap.size w2 wr))
            (fun _ q _ => P - (intOf q).toNat)
          case atStart => exact ⟨0, m, a, cap, Nat.zero_le _, rfl, rfl, by omega, HR0, HW⟩
          case round =>
            clear hm HR0 HW q0 q1 q2
            obtain ⟨r, m, a, cap, hr, rfl, rfl, hm, HR, HW⟩ := hrel
            have hwsz := HW.out.size
            have hwr := HX2.out.below HW.out
            obtain ⟨⟨q0, q1, q2⟩, _⟩ := hwr.all
            have HWR := Lib.hid hwr
            clear hwr
            by_cases hlt2 : r < P
            · go_wp2_with fail
              refine (specEnvy_any w.heap.size P T k a1 l1 c1 A r ao lo co O wr HWR.out (HV2.out.below HW.out) hlt (HO2.out.below HW.out) hl2).mono ?_
              rintro e w3 ⟨rfl, s3⟩
              have b3 := same_below s3 wr.heap.size
              have hb3 : Below w2.heap.size w2 w3 := below_after HW.out (Nat.le_refl _) b3
              have HR' := Lib.hid (row_below HR.out b3)
              have HW3 := Lib.hid hb3
              have hw3sz := hb3.size
              have HN : Hid (pairsTo (envyF A T O) P k ++ (List.range (r + 1)).map (envyF A T O k) = (pairsTo (envyF A T O) P k ++ (List.range r).map (envyF A T O k)) ++ [envyF A T O k r]) := Lib.hid (by simp [List.range_succ])
              have HE : Hid (partW A T k r O - partW A T k k O = envyF A T O k r) := Lib.hid rfl
              rw [HE.out]
              clear s3 b3 hb3 HW q0 q1 q2 HE
              generalize envyF A T O k r = v at *
              go_wp2_with (at_builtin; refine wpList_append_own _ rfl (.tmp 29) (.tmp 34) 22 rfl w2.heap.size 2 i0 (.int .i64 0) 1 8 Try.underlying22 hi hz0 hz1 hz2 rfl (by decide) _ m _ rfl (HR'.out.alloc _) ⟨w3.heap.size, 0, none⟩ 1 1 [.int .i64 v] rfl rfl (news_one _ _ (by simp)) (one_int _) (by unfold maxLen; omega) (by omega) (by simp; omega) ?_)
              intro v' w4 hown hgrow _
              obtain ⟨a', cap', rfl⟩ := row_slice hown
              have HX1 := Lib.hid (Below.grown (HW3.out.alloc (by simpa using hw3sz) _) hgrow (by simp; omega) (fun k hk => (World.ownsRow.lt HR'.out k hk).1))
              have HO1 : Hid (w4.ownsRow w2.heap.size 2 1 (.slice a' (m + 1) cap') (m + 1) ((pairsTo (envyF A T O) P k ++ (List.range (r + 1)).map (envyF A T O k)).map (Value.int .i64))) :=
                Lib.hid (by rw [HN.out]; simpa using hown)
              clear hown hgrow HR HR'
              go_wp2_with fail
              go_roundw
              case rel => exact ⟨r + 1, m + 1, a', cap', by omega, by go_num, rfl, by omega, HO1, HX1⟩
              case measure => simp [intOf]; omega
            · obtain rfl : r = P := by omega
              go_wp2_with fail
              go_roundw
              case rel => exact ⟨k + 1, m, a, cap, by omega, by go_num, rfl, by omega, HR, HW⟩
              case measure => simp [intOf]; omega
        · obtain rfl : k = P := by omega
          go_wp2_with fail
          go_ret2
          refine ⟨a, m, cap, rfl, (own_of_row HR.out ?_).wide (by omega) (Nat.le_refl _) (Nat.le_refl _), below_after B2.out (Nat.le_refl _) HW.out⟩
          intro z hz
          obtain ⟨i, j, h1, h2, rfl⟩ := pairsTo_mem hz
          have := HG.out i j h1
          exact ⟨by omega, by omega⟩
end Go.Proofs.Ytblckofdpgenkaa
