/-
  The program's steps of better answers.
-/
import Derived.Test.YtpopmcgieegikaaGSides
import Derived.Test.YtpopmcgieegikaaGBetA
import Derived.Test.YtpopmcgieegikaaGBetS
import Derived.Deep.DeepCutAuto
import Derived.Deep.RegionLaw
namespace Go.Proofs.Ytpopmcgieegikaa
open Go.RowKit Go.ChangeShapes Go.WideShapes
set_option linter.unusedVariables false

set_option maxHeartbeats 100000000 in
set_option maxRecDepth 20000 in
theorem implBetter_yes (R C I K b off c1 b' off' c2 : Nat) (A B : List Int) (w : World) (r1 : 1 ≤ R) (q1 : 1 ≤ C) (r6 : R ≤ 6) (q6 : C ≤ 6) (hI : I < R) (hK : K < C)
    (hA : IAt w (some ⟨b, off, none⟩) (R * C) A) (hB : IAt w (some ⟨b', off', none⟩) (R * C) B) (hb : b < w.heap.size) (hb' : b' < w.heap.size)
    (hc : ∀ i, i < R * C → w.cell? ⟨b, off + i, none⟩ = some (.int .i64 (A.getD i 0))) (hc' : ∀ i, i < R * C → w.cell? ⟨b', off' + i, none⟩ = some (.int .i64 (B.getD i 0))) (hok : okGame R C A B = true) :
    Calls Try.prog 66 #[gameV R C (some ⟨b, off, none⟩) (R * C) c1 (some ⟨b', off', none⟩) (R * C) c2, .int .i64 I, .int .i64 K] w (PairOut w (trail A B R C 37 [] I K, true)) := by
  obtain ⟨i0, hi, hz0, hz1, hz2⟩ := info_parts (P := Try.prog) (e := 2) (z := .int .i64 0) (size := 1) (bytes := 8) (by kernel_rfl)
  have HA := Lib.hid hA
  have HB := Lib.hid hB
  have HCA := Lib.hid hc
  have HCB := Lib.hid hc'
  have hRC : R * C ≤ 36 := Nat.mul_le_mul r6 q6
  have OK := Lib.hid hok
  have IR : Hid (okIndex I R = true) := Lib.hid (by simp [okIndex]; omega)
  have IC : Hid (okIndex K C = true) := Lib.hid (by simp [okIndex]; omega)
  obtain ⟨FIN, hfin⟩ : ∃ x, trail A B R C 37 [] I K = x := ⟨_, rfl⟩
  rw [hfin]
  have HF0 := Lib.hid hfin
  clear hA hB hc hc' hok hfin
  go_enter Try.func66, Try.ntmps66
  go_wp2_with fail
  refine (implValid_any R C _ (R * C) c1 _ (R * C) c2 A B _ (HA.out.below below1) (HB.out.below below1)).mono ?_
  rintro e w1 ⟨rfl, b1⟩
  rw [OK.out]
  have x1 : Box4 w1 w.heap.size 27 (.int .i64 R) (.int .i64 C) (.slice (some ⟨b, off, none⟩) (R * C) c1) (.slice (some ⟨b', off', none⟩) (R * C) c2) := Box4.below heap1 b1
  have B1 := Lib.hid (below_after below1 (Nat.le_refl _) b1)
  have X1 := Lib.hid x1
  have hlt1 := x1.lt
  obtain ⟨⟨p0, p1, p2, p3⟩, _⟩ := x1.all
  clear b1 x1
  have RS1 : ∀ (z : Nat) (w' : World) (a : Addr) (m : Mode), (store a (.func (.func 114) #[] #[.pointer (some ⟨z, 0, none⟩)]) m).run Try.prog w' = stored Try.prog w' a (.func (.func 114) #[] #[.pointer (some ⟨z, 0, none⟩)]) m := fun z w' a m => run_store Try.prog w' a _ m rfl
  have RS2 : ∀ (z : Nat) (w' : World) (a : Addr) (m : Mode), (store a (.func (.func 115) #[] #[.pointer (some ⟨z, 0, none⟩)]) m).run Try.prog w' = stored Try.prog w' a (.func (.func 115) #[] #[.pointer (some ⟨z, 0, none⟩)]) m := fun z w' a m => run_store Try.prog w' a _ m rfl
  go_upto_region 3 with (go_at_call 82; refine (isIndex_any _ _ _).mono ?_; rintro e w' ⟨rfl, rfl⟩; first | rw [IR.out] | rw [IC.out])
  go_cut [8, 9] (fun s4 s5 wx => ∃ n4 n5 n1 n2 : Nat, s4 = .pointer (some ⟨n4, 0, none⟩) ∧ s5 = .pointer (some ⟨n5, 0, none⟩) ∧ Hid (Sides w1 wx R C (.slice (some ⟨b, off, none⟩) (R * C) c1) (.slice (some ⟨b', off', none⟩) (R * C) c2) n4 n5 n1 n2))
  case first =>
    go_region_law (first
      | (go_simp; go_at_call 88; refine (firstSide_any R C _ (R * C) c1 _ (R * C) c2 _).mono ?_; rintro e w2 ⟨n1, rfl, hn1, bn1⟩
         have x2 : Box4 w2 w.heap.size 27 (.int .i64 R) (.int .i64 C) (.slice (some ⟨b, off, none⟩) (R * C) c1) (.slice (some ⟨b', off', none⟩) (R * C) c2) := by first | exact (X1.out.below (Below.drew (Below.refl _ _))).below bn1 | exact (X1.out.below (Below.drew below1)).below bn1 | exact (X1.out.below (Below.drew below2)).below bn1
         obtain ⟨⟨q0, q1, q2, q3⟩, _⟩ := x2.all
         have ltq := x2.lt
         have BB1 : Below w1.heap.size w1 w2 := by first | exact below_after (Below.drew (Below.refl _ _)) (Nat.le_refl _) bn1 | exact below_after (Below.drew below1) (Nat.le_refl _) bn1 | exact below_after (Below.drew below2) (Nat.le_refl _) bn1
         first
           | (have z4 : Box3 w2 w1.heap.size 73 (.int .i64 0) (.int .i64 0) .nilFunc := Box3.below (Box3.below (w := (w1.alloc (.cells #[.int .i64 0, .int .i64 0, .nilFunc] 73)).alloc (.cells #[.int .i64 0, .int .i64 0, .nilFunc] 73)) heap2a (Below.drew (Below.refl _ _))) bn1
              have z5 : Box3 w2 (w1.heap.size + 1) 73 (.int .i64 0) (.int .i64 0) .nilFunc := Box3.below (Box3.below (w := (w1.alloc (.cells #[.int .i64 0, .int .i64 0, .nilFunc] 73)).alloc (.cells #[.int .i64 0, .int .i64 0, .nilFunc] 73)) heap2b (Below.drew (Below.refl _ _))) bn1)
           | (have z4 : Box3 w2 w1.heap.size 73 (.int .i64 0) (.int .i64 0) .nilFunc := Box3.below (Box3.below (w := w1.alloc (.cells #[.int .i64 0, .int .i64 0, .nilFunc] 73)) heap1 (Below.drew (Below.refl _ _))) bn1)
           | skip)
      | (go_simp; go_at_call 89; refine (secondSide_any R C _ (R * C) c1 _ (R * C) c2 _).mono ?_; rintro e w3 ⟨n2, rfl, hn2, bn2⟩
         have BB2 : Below w1.heap.size w1 w3 := by first | exact below_after BB1 (Nat.le_refl _) bn2 | exact below_after (below_after BB1 (Nat.le_refl _) below1) (Nat.le_refl _) bn2 | exact below_after (below_after BB1 (Nat.le_refl _) below2) (Nat.le_refl _) bn2
         have gn1 : Box4 w3 n1 27 (.int .i64 R) (.int .i64 C) (.slice (some ⟨b, off, none⟩) (R * C) c1) (.slice (some ⟨b', off', none⟩) (R * C) c2) := by first | exact hn1.below bn2 | exact (hn1.below below1).below bn2 | exact (hn1.below below2).below bn2
         first
           | (have t4 : Box3 w3 w2.heap.size 73 (.int .i64 0) (.int .i64 0) .nilFunc := Box3.below heap2a bn2
              have t5 : Box3 w3 (w2.heap.size + 1) 73 (.int .i64 0) (.int .i64 0) .nilFunc := Box3.below heap2b bn2
              obtain ⟨⟨d0, d1, d2⟩, d3, d4, d5⟩ := t4.all
              have lt4 := t4.lt
              obtain ⟨⟨e0, e1, e2⟩, e3, e4, e5⟩ := t5.all
              have lt5 := t5.lt)
           | (have t4 : Box3 w3 w1.heap.size 73 (.int .i64 0) (.int .i64 0) .nilFunc := Box3.below z4 bn2
              have t5 : Box3 w3 (w1.heap.size + 1) 73 (.int .i64 0) (.int .i64 0) .nilFunc := Box3.below z5 bn2
              obtain ⟨⟨d0, d1, d2⟩, d3, d4, d5⟩ := t4.all
              have lt4 := t4.lt
              obtain ⟨⟨e0, e1, e2⟩, e3, e4, e5⟩ := t5.all
              have lt5 := t5.lt)
           | (have t4 : Box3 w3 w1.heap.size 73 (.int .i64 0) (.int .i64 0) .nilFunc := (z4.below below1).below bn2
              have ltz := z4.lt
              have ne45 : w2.heap.size ≠ w1.heap.size := by omega
              have ne54 : w1.heap.size ≠ w2.heap.size := by omega
              have t5 : Box3 w3 w2.heap.size 73 (.int .i64 0) (.int .i64 0) .nilFunc := Box3.below heap1 bn2
              obtain ⟨⟨d0, d1, d2⟩, d3, d4, d5⟩ := t4.all
              have lt4 := t4.lt
              obtain ⟨⟨e0, e1, e2⟩, e3, e4, e5⟩ := t5.all
              have lt5 := t5.lt)
           | (have t4 : Box3 w3 w1.heap.size 73 (.int .i64 0) (.int .i64 0) .nilFunc := Box3.below z4 bn2
              obtain ⟨⟨d0, d1, d2⟩, d3, d4, d5⟩ := t4.all
              have lt4 := t4.lt)
           | (have t4 : Box3 w3 w2.heap.size 73 (.int .i64 0) (.int .i64 0) .nilFunc := Box3.below heap1 bn2
              obtain ⟨⟨d0, d1, d2⟩, d3, d4, d5⟩ := t4.all
              have lt4 := t4.lt)
           | skip))
    all_goals (try go_wp2_with fail)
    all_goals go_meet
    all_goals (
      have hsz2 := BB1.size
      have hsz3 := BB2.size
      refine ⟨_, _, n1, n2, rfl, rfl, ?_⟩
      refine Lib.hid ?_
      with_reducible first
        | exact sidesA gn1 hn2 BB2
        | exact sidesA' gn1 hn2 BB2
        | exact sidesB t4 gn1 hn2 BB2 (by omega)
        | exact sidesB t5 gn1 hn2 BB2 (by omega)
        | exact sidesB' t4 gn1 hn2 BB2 (by omega)
        | exact sidesB' t5 gn1 hn2 BB2 (by omega)
        | exact sides_stored t4 t5 (by omega) gn1 hn2 BB2 (by omega) (by omega)
        | exact sides_stored t5 t4 (by omega) gn1 hn2 BB2 (by omega) (by omega))
  case rest =>
    obtain ⟨n4, n5, n1, n2, rfl, rfl, HS⟩ := hcut
    have xb : Box4 wc w.heap.size 27 (.int .i64 R) (.int .i64 C) (.slice (some ⟨b, off, none⟩) (R * C) c1) (.slice (some ⟨b', off', none⟩) (R * C) c2) := X1.out.below HS.out.below
    have XB := Lib.hid xb
    have B01 := Lib.hid (below_after B1.out (Nat.le_refl _) HS.out.below)
    have hsx := B01.out.size
    have hn1 := HS.out.g1.lt
    have hn2 := HS.out.g2.lt
    clear xb B1 X1
    go_wp2_with fail
    go_loopg [1, 2, 10] 37 (fun g ii kk o wr => ∃ (i k m : Nat) (pre : List Int) (a : Option Addr) (cap : Nat), m + g = 37 ∧ ii = .int .i64 i ∧ kk = .int .i64 k ∧ o = .slice a m cap ∧ i < R ∧ k < C ∧ Hid (pre.length = m) ∧ Hid (Trod (R * C) pre) ∧ Hid (trail A B R C g pre i k = FIN) ∧ Hid (wr.ownsRow wc.heap.size 2 1 (.slice a m cap) m (pre.map (Value.int .i64))) ∧ Hid (Below wc.heap.size wc wr))
    case atStart => exact ⟨I, K, 0, [], none, 0, by omega, rfl, rfl, rfl, hI, hK, Lib.hid rfl, Lib.hid Trod.nil, HF0, Lib.hid (World.ownsRow_nil _ _ _ _), Lib.hid (Below.refl _ _)⟩
    case round =>
      obtain ⟨i, k, m, pre, a, cap, hmg, rfl, rfl, rfl, hir, hkc, HM, HTR0, HF, HO, HW⟩ := hrel
      have HSH0 : Hid (pre.length ≤ 36) := Lib.hid (Nat.le_trans HTR0.out.short hRC)
      have hm36 : m ≤ 36 := by have := HSH0.out; rw [HM.out] at this; exact this
      cases gk with
      | zero => exact absurd hmg (by omega)
      | succ g =>
        obtain ⟨p, hp⟩ : ∃ p, i * C = p := ⟨_, rfl⟩
        obtain ⟨c, hcc⟩ : ∃ c, p + k = c := ⟨_, rfl⟩
        have HCC : Hid (i * C + k = c) := Lib.hid (by omega)
        have hcl : c < R * C := by have := place_lt hir hkc; omega
        have hq0 := wrap_mul hp (by omega)
        have hq1 := wrap_add hcc (by omega)
        clear hp hcc
        have hgb : Box4 wr w.heap.size 27 (.int .i64 R) (.int .i64 C) (.slice (some ⟨b, off, none⟩) (R * C) c1) (.slice (some ⟨b', off', none⟩) (R * C) c2) := XB.out.below HW.out
        obtain ⟨⟨y0, y1, y2, y3⟩, _⟩ := hgb.all
        clear hgb
        have HBP : Hid (∀ x ∈ pre, Big x) := Lib.hid (HTR0.out.big hRC)
        have hwrs := HW.out.size
        go_wp2_with fail
        refine (contains_any a m cap pre c wr (own_of_row HO.out HBP.out).iat).mono ?_
        rintro e w' ⟨rfl, rfl⟩
        obtain ⟨v, hv⟩ : ∃ v, decide ((c : Int) ∈ pre) = v := ⟨_, rfl⟩
        rw [hv]
        have HVV := Lib.hid hv
        clear hv
        go_wp2_with (at_builtin; refine wpList_append_own _ rfl (.tmp 47) (.tmp 49) 22 rfl wc.heap.size 2 i0 (.int .i64 0) 1 8 Try.underlying22 hi hz0 hz1 hz2 rfl (by decide) _ m _ rfl (HO.out.alloc _) ⟨wr.heap.size, 0, none⟩ 1 1 [.int .i64 (c : Nat)] rfl rfl (news_one _ _ (by simp)) (one_int _) (by unfold maxLen; omega) (by omega) (by simp; omega) ?_)
        intro v' w5 hown hgrow _
        obtain ⟨a', cap', rfl⟩ := row_slice hown
        have HX1 := Lib.hid (Below.grown ((HW.out).alloc (by simpa using hwrs) _) hgrow (by simp; omega) (fun k hk => (World.ownsRow.lt HO.out k hk).1))
        have HO1 : Hid (w5.ownsRow wc.heap.size 2 1 (.slice a' (m + 1) cap') (m + 1) ((pre ++ [(c : Int)]).map (Value.int .i64))) := Lib.hid (by rw [List.map_append]; exact hown)
        have HBG : Hid (∀ x ∈ pre ++ [(c : Int)], Big x) := Lib.hid (big_snoc HBP.out (by unfold Big; omega))
        clear hown hgrow y0 y1 y2 y3 hq0 hq1
        cases v with
        | true =>
          have hin : ((i * C + k : Nat) : Int) ∈ pre := by rw [HCC.out]; exact of_decide_eq_true HVV.out
          have hfin : pre ++ [(c : Int)] = FIN := by rw [← HF.out, trail_in hin, HCC.out]
          have HFI := Lib.hid hfin
          clear hin hfin
          go_wp2_with fail
          go_ret2
          rw [← HFI.out]
          exact ⟨a', _, cap', rfl, (own_of_row HO1.out HBG.out).wide hsx (Nat.le_refl _) (Nat.le_refl _), below_after B01.out (Nat.le_refl _) HX1.out⟩
        | false =>
          have HNI : Hid (((i * C + k : Nat) : Int) ∉ pre) := Lib.hid (by rw [HCC.out]; exact of_decide_eq_false HVV.out)
          have HTD : Hid (Trod (R * C) (pre ++ [(c : Int)])) := Lib.hid (HTR0.out.snoc (by rw [← HCC.out]; exact HNI.out) hcl)
          have HCW := Lib.hid (below_after B01.out (Nat.le_refl _) HX1.out)
          have hs5 := HX1.out.size
          have h4 := HS.out.one.below HX1.out
          obtain ⟨⟨d0, d1, d2⟩, _⟩ := h4.all
          clear h4
          have G1 := Lib.hid (HS.out.g1.below HX1.out)
          have G2 := Lib.hid (HS.out.g2.below HX1.out)
          go_wp2_with fail
          refine (betterFirst_any (colAt A C k) R C k i n1 w5 r1 r6 (Nat.lt_of_lt_of_le hn1 hs5) hir ?_).mono ?_
          · intro x w' hx hw
            exact firstSide_gain n1 R C x k b off c1 b' off' c2 A B w' hx hkc hRC (G1.out.below hw) fun t ht => ((HCW.out.trans (hw.mono HCW.out.size)).cell (p := ⟨b, off + t, none⟩) hb).trans (HCA.out t ht)
          rintro e w6 ⟨rfl, b6⟩
          have B6 := Lib.hid b6
          obtain ⟨t1, _, hlt1⟩ := bestHead_cons (colAt A C k) r1
          obtain ⟨h1, hh1⟩ : ∃ h, bestHead (colAt A C k) R = h := ⟨_, rfl⟩
          obtain ⟨v1, hv1⟩ : ∃ v, decide (colAt A C k i < colAt A C k (bestHead (colAt A C k) R)) = v := ⟨_, rfl⟩
          rw [hv1, hh1]
          rw [hh1] at hlt1
          have HH1 := Lib.hid hh1
          have HV1 := Lib.hid hv1
          clear hh1 hv1 b6 d0 d1 d2
          have HO6 := Lib.hid (row_below HO1.out B6.out)
          have HW6 := Lib.hid (below_after HX1.out (Nat.le_refl _) B6.out)
          cases v1 with
          | true =>
            have HTR : Hid (trail A B R C g (pre ++ [(c : Int)]) h1 k = FIN) := Lib.hid (by rw [← HF.out, trail_row HNI.out (of_decide_eq_true HV1.out), HH1.out, HCC.out])
            go_wp2_with fail
            go_roundg g
            case measure => omega
            case rel => exact ⟨h1, k, m + 1, pre ++ [(c : Int)], a', cap', by omega, rfl, rfl, rfl, hlt1, hkc, Lib.hid (by rw [List.length_append, HM.out]; rfl), HTD, HTR, HO6, HW6⟩
          | false =>
            have h5 := HS.out.two.below HW6.out
            obtain ⟨⟨e0, e1, e2⟩, _⟩ := h5.all
            clear h5
            have hs6 := HW6.out.size
            have HCW6 := Lib.hid (below_after B01.out (Nat.le_refl _) HW6.out)
            go_wp2_with fail
            refine (betterSecond_any (rowAt B C i) C R i k n2 w6 q1 q6 (Nat.lt_of_lt_of_le hn2 hs6) hkc ?_).mono ?_
            · intro x w' hx hw
              exact secondSide_gain n2 R C i x b off c1 b' off' c2 A B w' hir hx hRC ((G2.out.below B6.out).below hw) fun t ht => ((HCW6.out.trans (hw.mono HCW6.out.size)).cell (p := ⟨b', off' + t, none⟩) hb').trans (HCB.out t ht)
            rintro e w7 ⟨rfl, b7⟩
            have B7 := Lib.hid b7
            obtain ⟨t2, _, hlt2⟩ := bestHead_cons (rowAt B C i) q1
            obtain ⟨h2, hh2⟩ : ∃ h, bestHead (rowAt B C i) C = h := ⟨_, rfl⟩
            obtain ⟨v2, hv2⟩ : ∃ v, decide (rowAt B C i k < rowAt B C i (bestHead (rowAt B C i) C)) = v := ⟨_, rfl⟩
            rw [hv2, hh2]
            rw [hh2] at hlt2
            have HH2 := Lib.hid hh2
            have HV2 := Lib.hid hv2
            clear hh2 hv2 b7 e0 e1 e2
            have HO7 := Lib.hid (row_below HO6.out B7.out)
            have HW7 := Lib.hid (below_after HW6.out (Nat.le_refl _) B7.out)
            cases v2 with
            | true =>
              have HTR : Hid (trail A B R C g (pre ++ [(c : Int)]) i h2 = FIN) := Lib.hid (by rw [← HF.out, trail_col HNI.out (of_decide_eq_false HV1.out) (of_decide_eq_true HV2.out), HH2.out, HCC.out])
              go_wp2_with fail
              go_roundg g
              case measure => omega
              case rel => exact ⟨i, h2, m + 1, pre ++ [(c : Int)], a', cap', by omega, rfl, rfl, rfl, hir, hlt2, Lib.hid (by rw [List.length_append, HM.out]; rfl), HTD, HTR, HO7, HW7⟩
            | false =>
              have HFI : Hid (pre ++ [(c : Int)] = FIN) := Lib.hid (by rw [← HF.out, trail_stop HNI.out (of_decide_eq_false HV1.out) (of_decide_eq_false HV2.out), HCC.out])
              go_wp2_with fail
              go_ret2
              rw [← HFI.out]
              exact ⟨a', _, cap', rfl, (own_of_row HO7.out HBG.out).wide hsx (Nat.le_refl _) (Nat.le_refl _), below_after B01.out (Nat.le_refl _) HW7.out⟩
end Go.Proofs.Ytpopmcgieegikaa
