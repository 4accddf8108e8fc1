/-
  The reference's steps of better answers.
-/
import Derived.Test.YtpopmcgieegikaaGBetV
namespace Go.Proofs.Ytpopmcgieegikaa
open Go.RowKit Go.ChangeShapes Go.WideShapes
set_option linter.unusedVariables false

theorem big_snoc {l : List Int} {y : Int} (h : ∀ x ∈ l, Big x) (hy : Big y) : ∀ x ∈ l ++ [y], Big x := fun x hx => by
  rcases List.mem_append.1 hx with hx | hx
  · exact h x hx
  · simp only [List.mem_singleton] at hx; rw [hx]; exact hy

theorem wrap_mul {x C p : Nat} (h : x * C = p) (hp : p ≤ 36) : IntKind.i64.wrap ((x : Int) * (C : Int)) = (p : Int) := by
  rw [← Int.natCast_mul, h]; simp (disch := omega) only [IntWalk.i64_in]
theorem wrap_add {p k c : Nat} (h : p + k = c) (hp : c ≤ 36) : IntKind.i64.wrap ((p : Int) + (k : Int)) = (c : Int) := by
  rw [← Int.natCast_add, h]; simp (disch := omega) only [IntWalk.i64_in]

set_option maxHeartbeats 4000000 in
set_option maxRecDepth 20000 in
theorem specBetter_yes (R C I K b off c1 b' off' c2 : Nat) (A B : List Int) (w : World) (r1 : 1 ≤ R) (q1 : 1 ≤ C) (r6 : R ≤ 6) (q6 : C ≤ 6) (hI : I < R) (hK : K < C)
    (hA : IAt w (some ⟨b, off, none⟩) (R * C) A) (hB : IAt w (some ⟨b', off', none⟩) (R * C) B) (hb : b < w.heap.size) (hb' : b' < w.heap.size)
    (hc : ∀ i, i < R * C → w.cell? ⟨b, off + i, none⟩ = some (.int .i64 (A.getD i 0))) (hc' : ∀ i, i < R * C → w.cell? ⟨b', off' + i, none⟩ = some (.int .i64 (B.getD i 0))) (hok : okGame R C A B = true) :
    Calls Try.prog 65 #[gameV R C (some ⟨b, off, none⟩) (R * C) c1 (some ⟨b', off', none⟩) (R * C) c2, .int .i64 I, .int .i64 K] w (PairOut w (trail A B R C 37 [] I K, true)) := by
  obtain ⟨i0, hi, hz0, hz1, hz2⟩ := info_parts (P := Try.prog) (e := 2) (z := .int .i64 0) (size := 1) (bytes := 8) (by kernel_rfl)
  have HA := Lib.hid hA
  have HB := Lib.hid hB
  have HBA := Lib.hid hA.2.2.1
  have HBB := Lib.hid hB.2.2.1
  have HCA := Lib.hid hc
  have HCB := Lib.hid hc'
  have hRC : R * C ≤ 36 := Nat.mul_le_mul r6 q6
  have OK := Lib.hid hok
  have IR : Hid (okIndex I R = true) := Lib.hid (by simp [okIndex]; omega)
  have IC : Hid (okIndex K C = true) := Lib.hid (by simp [okIndex]; omega)
  obtain ⟨FIN, hfin⟩ : ∃ x, trail A B R C 37 [] I K = x := ⟨_, rfl⟩
  rw [hfin]
  have HF0 := Lib.hid hfin
  clear hA hB hc hc' hok hfin
  obtain ⟨P0, hP0⟩ : ∃ p, I * C = p := ⟨_, rfl⟩
  obtain ⟨c0, hc0⟩ : ∃ c, P0 + K = c := ⟨_, rfl⟩
  have hc036 : c0 < R * C := by have := place_lt hI hK; omega
  have hq0 := wrap_mul hP0 (by omega)
  have hq1 := wrap_add hc0 (by omega)
  have HP0 : Hid (I * C + K = c0) := Lib.hid (by omega)
  clear hP0 hc0
  go_enter Try.func65, Try.ntmps65
  go_wp2_with fail
  refine (specIs_any _ R C _ (R * C) c1 _ (R * C) c2 A B _ heap1 (HA.out.below below1) (HB.out.below below1)).mono ?_
  rintro e wS ⟨rfl, n1, hw1⟩
  rw [OK.out]
  have xS : Box4 wS w.heap.size 27 (.int .i64 R) (.int .i64 C) (.slice (some ⟨b, off, none⟩) (R * C) c1) (.slice (some ⟨b', off', none⟩) (R * C) c2) := Box4.below heap1 (same_below ⟨n1, hw1⟩ _)
  have hSB : Below w.heap.size w wS := below1.trans (same_below ⟨n1, hw1⟩ _)
  have HSB := Lib.hid hSB
  have hsz0 := hSB.size
  have XS := Lib.hid xS
  have hn0 := xS.lt
  obtain ⟨⟨y0, y1, y2, y3⟩, _⟩ := xS.all
  clear hw1 hSB xS
  go_wp2_with (go_at_call 79; refine (in_any _ _ _ _).mono ?_; rintro e w' ⟨rfl, rfl⟩; first | rw [specIndex r1, IR.out] | rw [specIndex q1, IC.out])
  clear y0 y1 y2 y3 hq0 hq1
  go_loopg [1, 2, 8] 37 (fun g ii kk o wr => ∃ (i k m : Nat) (pre : List Int) (a : Option Addr) (cap : Nat), m + g = 37 ∧ ii = .int .i64 i ∧ kk = .int .i64 k ∧ o = .slice a (m + 1) cap ∧ i < R ∧ k < C ∧ Hid (pre.length = m) ∧ Hid (Trod (R * C) pre) ∧ Hid (((i * C + k : Nat) : Int) ∉ pre) ∧ Hid (trail A B R C g pre i k = FIN) ∧ Hid (wr.ownsRow wS.heap.size 2 1 (.slice a (m + 1) cap) (m + 1) ((pre ++ [((i * C + k : Nat) : Int)]).map (Value.int .i64))) ∧ Hid (Below wS.heap.size wS wr))
  case atStart => exact ⟨I, K, 0, [], _, 1, by omega, rfl, rfl, rfl, hI, hK, Lib.hid rfl, Lib.hid Trod.nil, Lib.hid (by simp), HF0, Lib.hid (by rw [HP0.out]; exact World.ownsRow_lit (base := wS.heap.size) (e := 2) (size := 1) wS #[.int .i64 (c0 : Nat)] 1 (Nat.le_refl _) (by decide) rfl), Lib.hid below1⟩
  case round =>
    obtain ⟨i, k, m, pre, a, cap, hmg, rfl, rfl, rfl, hir, hkc, HM, HTR0, HNI, HF, HO, HW⟩ := hrel
    have HSH0 : Hid (pre.length ≤ 36) := Lib.hid (Nat.le_trans HTR0.out.short hRC)
    have hm36 : m ≤ 36 := by have := HSH0.out; rw [HM.out] at this; exact this
    cases gk with
    | zero => exact absurd hmg (by omega)
    | succ g =>
      obtain ⟨p, hp⟩ : ∃ p, i * C = p := ⟨_, rfl⟩
      obtain ⟨c, hcc⟩ : ∃ c, p + k = c := ⟨_, rfl⟩
      have HCC : Hid (i * C + k = c) := Lib.hid (by omega)
      have hcl : c < R * C := by have := place_lt hir hkc; omega
      have hq0 := wrap_mul hp (by omega)
      have hq1 := wrap_add hcc (by omega)
      have hqp : p ≤ 36 := by omega
      have HPP := Lib.hid hp
      clear hp hcc
      have HTD : Hid (Trod (R * C) (pre ++ [(c : Int)])) := Lib.hid (HTR0.out.snoc (by rw [← HCC.out]; exact HNI.out) hcl)
      have HSH : Hid (m + 1 ≤ 36) := Lib.hid (by have := Nat.le_trans HTD.out.short hRC; rw [List.length_append, HM.out] at this; exact this)
      have HBG : Hid (∀ x ∈ pre ++ [(c : Int)], Big x) := Lib.hid (HTD.out.big hRC)
      have hgb : Box4 wr w.heap.size 27 (.int .i64 R) (.int .i64 C) (.slice (some ⟨b, off, none⟩) (R * C) c1) (.slice (some ⟨b', off', none⟩) (R * C) c2) := XS.out.below HW.out
      obtain ⟨⟨y0, y1, y2, y3⟩, _⟩ := hgb.all
      have HG := Lib.hid hgb
      have HCW := Lib.hid (below_after HSB.out (Nat.le_refl _) HW.out)
      have hszr := HCW.out.size
      clear hgb
      go_wp2_with fail
      refine (specBest_at w.heap.size R C k b off c1 _ A wr r6 q6 hkc HG.out (by omega) (fun x hx => (HCW.out.cell (p := ⟨b, off + x, none⟩) hb).trans (HCA.out x hx))).mono ?_
      rintro e w1 ⟨a1, l1, m1, rfl, ho, b1⟩
      obtain ⟨t1, ht1, hlt1⟩ := bestHead_cons (colAt A C k) r1
      obtain ⟨h1, hh1⟩ : ∃ h, bestHead (colAt A C k) R = h := ⟨_, rfl⟩
      rw [ht1, hh1] at ho
      rw [hh1] at hlt1
      have HH1 := Lib.hid hh1
      clear ht1 hh1
      have B1 := Lib.hid b1
      obtain ⟨g1, _, g3, g4 | ⟨gb, goff, rfl, hgb, hgc⟩⟩ := ho.iat
      · subst g4
        simp [ints] at g1
      have hl1 : 1 ≤ l1 := by rw [← g1]; simp [ints]
      have z1 : w1.cell? ⟨gb, goff, none⟩ = some (.int .i64 h1) := (hgc 0 (by omega)).trans rfl
      clear hgc g1 g3 ho b1 y0 y1 y2 y3
      have HCW1 := Lib.hid (below_after HCW.out (Nat.le_refl _) B1.out)
      have hszr1 := HCW1.out.size
      go_wp2_with fail
      refine (specBestCols_at w.heap.size R C i b off c1 b' off' c2 A B w1 r1 q1 r6 q6 hir (HG.out.below B1.out) (by omega) (by omega) HBA.out HBB.out (fun x hx => (HCW1.out.cell (p := ⟨b, off + x, none⟩) hb).trans (HCA.out x hx)) (fun x hx => (HCW1.out.cell (p := ⟨b', off' + x, none⟩) hb').trans (HCB.out x hx))).mono ?_
      rintro e w2 ⟨a2, l2, m2, rfl, ho, b2⟩
      obtain ⟨t2, ht2, hlt2⟩ := bestHead_cons (rowAt B C i) q1
      obtain ⟨h2, hh2⟩ : ∃ h, bestHead (rowAt B C i) C = h := ⟨_, rfl⟩
      rw [ht2, hh2] at ho
      rw [hh2] at hlt2
      have HH2 := Lib.hid hh2
      clear ht2 hh2
      have B2 := Lib.hid (below_after B1.out (Nat.le_refl _) b2)
      obtain ⟨g1, _, g3, g4 | ⟨gb2, goff2, rfl, hgb2, hgc⟩⟩ := ho.iat
      · subst g4
        simp [ints] at g1
      have hl2 : 1 ≤ l2 := by rw [← g1]; simp [ints]
      have z2 : w2.cell? ⟨gb2, goff2, none⟩ = some (.int .i64 h2) := (hgc 0 (by omega)).trans rfl
      clear hgc g1 g3 ho b2 z1
      have HCW2 := Lib.hid (below_after HCW.out (Nat.le_refl _) B2.out)
      have HG2 := Lib.hid (HG.out.below B2.out)
      have HO2 : Hid (w2.ownsRow wS.heap.size 2 1 (.slice a (m + 1) cap) (m + 1) ((pre ++ [(c : Int)]).map (Value.int .i64))) := Lib.hid (by rw [← HCC.out]; exact row_below HO.out B2.out)
      have HW2 := Lib.hid (below_after HW.out (Nat.le_refl _) B2.out)
      obtain ⟨p3, hp3⟩ : ∃ p, h1 * C = p := ⟨_, rfl⟩
      obtain ⟨c3, hc3⟩ : ∃ c, p3 + k = c := ⟨_, rfl⟩
      have hc3l : c3 < R * C := by have := place_lt hlt1 hkc; omega
      have hq2 := wrap_mul hp3 (by omega)
      have hq3 := wrap_add hc3 (by omega)
      have HC3 : Hid (h1 * C + k = c3) := Lib.hid (by omega)
      obtain ⟨c4, hc4⟩ : ∃ c, p + h2 = c := ⟨_, rfl⟩
      have HC4 : Hid (i * C + h2 = c4) := Lib.hid (by rw [HPP.out]; exact hc4)
      have hc4l : c4 < R * C := by have := place_lt hir hlt2; rw [HC4.out] at this; exact this
      have hq4 := wrap_add hc4 (by omega)
      clear hp3 hc3 hc4
      obtain ⟨⟨y0, y1, y2, y3⟩, _⟩ := HG2.out.all
      have sA := (HCW2.out.cell (p := ⟨b, off + c, none⟩) hb).trans (HCA.out c hcl)
      have sA3 := (HCW2.out.cell (p := ⟨b, off + c3, none⟩) hb).trans (HCA.out c3 hc3l)
      have eA : colAt A C k i = A.getD c 0 := by unfold colAt; rw [HCC.out]
      have eA3 : colAt A C k h1 = A.getD c3 0 := by unfold colAt; rw [HC3.out]
      have eB : rowAt B C i k = B.getD c 0 := by unfold rowAt; rw [HCC.out]
      have eB4 : rowAt B C i h2 = B.getD c4 0 := by unfold rowAt; rw [HC4.out]
      obtain ⟨va, hva⟩ : ∃ v, A.getD c 0 = v := ⟨_, rfl⟩
      obtain ⟨va3, hva3⟩ : ∃ v, A.getD c3 0 = v := ⟨_, rfl⟩
      obtain ⟨vb, hvb⟩ : ∃ v, B.getD c 0 = v := ⟨_, rfl⟩
      obtain ⟨vb4, hvb4⟩ : ∃ v, B.getD c4 0 = v := ⟨_, rfl⟩
      rw [hva] at sA eA
      rw [hva3] at sA3 eA3
      rw [hvb] at eB
      rw [hvb4] at eB4
      have HEA := Lib.hid eA
      have HEA3 := Lib.hid eA3
      have HEB := Lib.hid eB
      have HEB4 := Lib.hid eB4
      have HVB := Lib.hid hvb
      have HVB4 := Lib.hid hvb4
      clear eA eA3 eB eB4 hva hva3 hvb hvb4
      have HNC : Hid (((i * C + k : Nat) : Int) ∉ pre) := HNI
      obtain ⟨len, hlen⟩ : ∃ len, R * C = len := ⟨_, rfl⟩
      rw [hlen] at y2 y3
      have hcl' : c < len := by omega
      have hc3l' : c3 < len := by omega
      have hc4l' : c4 < len := by omega
      have hl36 : len ≤ 36 := by omega
      have HL := Lib.hid hlen
      clear hlen hcl hc3l hc4l
      by_cases ha : va < va3
      · have HST : Hid (trail A B R C (g + 1) pre i k = trail A B R C g (pre ++ [((i * C + k : Nat) : Int)]) h1 k) := Lib.hid (by rw [trail_row HNC.out (by rw [HH1.out, HEA.out, HEA3.out]; exact ha), HH1.out])
        have hd : decide (va3 > va) = true := decide_eq_true ha
        go_wp2_with fail
        go_quiet (fail)
        generalize hw3 : w2.drewN nq = w3
        have W3 : Hid (Below w2.heap.size w2 w3) := Lib.hid (by rw [← hw3]; exact same_below ⟨nq, rfl⟩ _)
        clear hw3
        have HO3 := Lib.hid (row_below HO2.out W3.out)
        have HW3 := Lib.hid (below_after HW2.out (Nat.le_refl _) W3.out)
        have hw3s := HW3.out.size
        clear y0 y1 y2 y3
        obtain ⟨⟨y0, y1, y2, y3⟩, _⟩ := (HG2.out.below W3.out).all
        have HC2 := HC3
        have ss := sA
        have HTR : Hid (trail A B R C g (pre ++ [(c : Int)]) h1 k = FIN) := Lib.hid (by rw [← HF.out, ← HCC.out]; exact (HST.out).symm)
        clear ss
        go_wp2_with fail
        refine (specHas_any a (m + 1) cap (pre ++ [(c : Int)]) c3 w3 (own_of_row HO3.out HBG.out).iat).mono ?_
        rintro e w' ⟨rfl, rfl⟩
        obtain ⟨v, hv⟩ : ∃ v, decide ((c3 : Int) ∈ pre ++ [(c : Int)]) = v := ⟨_, rfl⟩
        rw [hv]
        have HVV := Lib.hid hv
        clear hv
        go_wp2_with (at_builtin; refine wpList_append_own _ rfl (.tmp 99) (.tmp 101) 22 rfl wS.heap.size 2 i0 (.int .i64 0) 1 8 Try.underlying22 hi hz0 hz1 hz2 rfl (by decide) _ (m + 1) _ rfl (HO3.out.alloc _) ⟨w3.heap.size, 0, none⟩ 1 1 [.int .i64 (c3 : Nat)] rfl rfl (news_one _ _ (by simp)) (one_int _) (by unfold maxLen; omega) (by omega) (by simp; omega) ?_)
        intro v' w5 hown hgrow _
        obtain ⟨a', cap', rfl⟩ := row_slice hown
        have HX1 := Lib.hid (Below.grown ((HW3.out).alloc (by simpa using hw3s) _) hgrow (by simp; omega) (fun k hk => (World.ownsRow.lt HO3.out k hk).1))
        have HO1 : Hid (w5.ownsRow wS.heap.size 2 1 (.slice a' (m + 1 + 1) cap') (m + 1 + 1) ((pre ++ [(c : Int)] ++ [(c3 : Int)]).map (Value.int .i64))) :=
          Lib.hid (by rw [List.map_append, List.map_append, List.append_assoc]; exact hown)
        clear hown hgrow
        cases v with
        | true =>
          go_wp2_with fail
          go_ret2
          have hin : ((h1 * C + k : Nat) : Int) ∈ pre ++ [(c : Int)] := by rw [HC2.out]; exact of_decide_eq_true HVV.out
          obtain ⟨g', rfl⟩ : ∃ g', g = g' + 1 := ⟨g - 1, by have := HSH.out; omega⟩
          have hfin : pre ++ [(c : Int)] ++ [(c3 : Int)] = FIN := by rw [← HTR.out, trail_in hin, HC2.out]
          rw [← hfin]
          exact ⟨a', _, cap', rfl, (own_of_row HO1.out (big_snoc HBG.out (by unfold Big; omega))).wide hsz0 (Nat.le_refl _) (Nat.le_refl _), below_after HSB.out (Nat.le_refl _) HX1.out⟩
        | false =>
          go_wp2_with fail
          go_roundg g
          case measure => omega
          case rel => exact ⟨h1, k, m + 1, pre ++ [(c : Int)], a', cap', by omega, rfl, rfl, rfl, hlt1, hkc, Lib.hid (by rw [List.length_append, HM.out]; rfl), HTD, Lib.hid (by rw [HC2.out]; exact of_decide_eq_false HVV.out), HTR, Lib.hid (by rw [HC2.out]; exact HO1.out), HX1⟩
      · by_cases hb4 : vb < vb4
        · have HST : Hid (trail A B R C (g + 1) pre i k = trail A B R C g (pre ++ [((i * C + k : Nat) : Int)]) i h2) := Lib.hid (by rw [trail_col HNC.out (by rw [HH1.out, HEA.out, HEA3.out]; exact ha) (by rw [HH2.out, HEB.out, HEB4.out]; exact hb4), HH2.out])
          have hd : decide (va3 > va) = false := decide_eq_false ha
          have hd4 : decide (vb4 > vb) = true := decide_eq_true hb4
          go_wp2_with fail
          go_quiet (fail)
          generalize hw0 : w2.drewN nq = w2a
          have W0 : Hid (Below w2.heap.size w2 w2a) := Lib.hid (by rw [← hw0]; exact same_below ⟨nq, rfl⟩ _)
          clear hw0
          clear y0 y1 y2 y3
          obtain ⟨⟨y0, y1, y2, y3⟩, _⟩ := (HG2.out.below W0.out).all
          rw [HL.out] at y2 y3
          have HCW4 := Lib.hid (below_after HCW2.out (Nat.le_refl _) W0.out)
          have sB := (HCW4.out.cell (p := ⟨b', off' + c, none⟩) hb').trans (HCB.out c (by rw [HL.out]; exact hcl'))
          have sB4 := (HCW4.out.cell (p := ⟨b', off' + c4, none⟩) hb').trans (HCB.out c4 (by rw [HL.out]; exact hc4l'))
          rw [HVB.out] at sB
          rw [HVB4.out] at sB4
          go_wp2_with fail
          go_quiet (fail)
          generalize hw3 : w2a.drewN nq = w3
          have W3 : Hid (Below w2.heap.size w2 w3) := Lib.hid (below_after W0.out (Nat.le_refl _) (by rw [← hw3]; exact same_below ⟨nq, rfl⟩ _))
          clear hw3
          have HO3 := Lib.hid (row_below HO2.out W3.out)
          have HW3 := Lib.hid (below_after HW2.out (Nat.le_refl _) W3.out)
          have hw3s := HW3.out.size
          clear y0 y1 y2 y3
          obtain ⟨⟨y0, y1, y2, y3⟩, _⟩ := (HG2.out.below W3.out).all
          have HC2 := HC4
          have ss := sA
          have HTR : Hid (trail A B R C g (pre ++ [(c : Int)]) i h2 = FIN) := Lib.hid (by rw [← HF.out, ← HCC.out]; exact (HST.out).symm)
          clear ss
          go_wp2_with fail
          refine (specHas_any a (m + 1) cap (pre ++ [(c : Int)]) c4 w3 (own_of_row HO3.out HBG.out).iat).mono ?_
          rintro e w' ⟨rfl, rfl⟩
          obtain ⟨v, hv⟩ : ∃ v, decide ((c4 : Int) ∈ pre ++ [(c : Int)]) = v := ⟨_, rfl⟩
          rw [hv]
          have HVV := Lib.hid hv
          clear hv
          go_wp2_with (at_builtin; refine wpList_append_own _ rfl (.tmp 99) (.tmp 101) 22 rfl wS.heap.size 2 i0 (.int .i64 0) 1 8 Try.underlying22 hi hz0 hz1 hz2 rfl (by decide) _ (m + 1) _ rfl (HO3.out.alloc _) ⟨w3.heap.size, 0, none⟩ 1 1 [.int .i64 (c4 : Nat)] rfl rfl (news_one _ _ (by simp)) (one_int _) (by unfold maxLen; omega) (by omega) (by simp; omega) ?_)
          intro v' w5 hown hgrow _
          obtain ⟨a', cap', rfl⟩ := row_slice hown
          have HX1 := Lib.hid (Below.grown ((HW3.out).alloc (by simpa using hw3s) _) hgrow (by simp; omega) (fun k hk => (World.ownsRow.lt HO3.out k hk).1))
          have HO1 : Hid (w5.ownsRow wS.heap.size 2 1 (.slice a' (m + 1 + 1) cap') (m + 1 + 1) ((pre ++ [(c : Int)] ++ [(c4 : Int)]).map (Value.int .i64))) :=
            Lib.hid (by rw [List.map_append, List.map_append, List.append_assoc]; exact hown)
          clear hown hgrow
          cases v with
          | true =>
            go_wp2_with fail
            go_ret2
            have hin : ((i * C + h2 : Nat) : Int) ∈ pre ++ [(c : Int)] := by rw [HC2.out]; exact of_decide_eq_true HVV.out
            obtain ⟨g', rfl⟩ : ∃ g', g = g' + 1 := ⟨g - 1, by have := HSH.out; omega⟩
            have hfin : pre ++ [(c : Int)] ++ [(c4 : Int)] = FIN := by rw [← HTR.out, trail_in hin, HC2.out]
            rw [← hfin]
            exact ⟨a', _, cap', rfl, (own_of_row HO1.out (big_snoc HBG.out (by unfold Big; omega))).wide hsz0 (Nat.le_refl _) (Nat.le_refl _), below_after HSB.out (Nat.le_refl _) HX1.out⟩
          | false =>
            go_wp2_with fail
            go_roundg g
            case measure => omega
            case rel => exact ⟨i, h2, m + 1, pre ++ [(c : Int)], a', cap', by omega, rfl, rfl, rfl, hir, hlt2, Lib.hid (by rw [List.length_append, HM.out]; rfl), HTD, Lib.hid (by rw [HC2.out]; exact of_decide_eq_false HVV.out), HTR, Lib.hid (by rw [HC2.out]; exact HO1.out), HX1⟩
        · have HST : Hid (pre ++ [(c : Int)] = FIN) := Lib.hid (by rw [← HF.out, trail_stop HNC.out (by rw [HH1.out, HEA.out, HEA3.out]; exact ha) (by rw [HH2.out, HEB.out, HEB4.out]; exact hb4), HCC.out])
          have hd : decide (va3 > va) = false := decide_eq_false ha
          have hd4 : decide (vb4 > vb) = false := decide_eq_false hb4
          go_wp2_with fail
          go_quiet (fail)
          generalize hw0 : w2.drewN nq = w2a
          have W0 : Hid (Below w2.heap.size w2 w2a) := Lib.hid (by rw [← hw0]; exact same_below ⟨nq, rfl⟩ _)
          clear hw0
          clear y0 y1 y2 y3
          obtain ⟨⟨y0, y1, y2, y3⟩, _⟩ := (HG2.out.below W0.out).all
          rw [HL.out] at y2 y3
          have HCW4 := Lib.hid (below_after HCW2.out (Nat.le_refl _) W0.out)
          have sB := (HCW4.out.cell (p := ⟨b', off' + c, none⟩) hb').trans (HCB.out c (by rw [HL.out]; exact hcl'))
          have sB4 := (HCW4.out.cell (p := ⟨b', off' + c4, none⟩) hb').trans (HCB.out c4 (by rw [HL.out]; exact hc4l'))
          rw [HVB.out] at sB
          rw [HVB4.out] at sB4
          go_wp2_with fail
          go_quiet (fail)
          generalize hw3 : w2a.drewN nq = w3
          have W3 : Hid (Below w2.heap.size w2 w3) := Lib.hid (below_after W0.out (Nat.le_refl _) (by rw [← hw3]; exact same_below ⟨nq, rfl⟩ _))
          clear hw3
          have HO3 := Lib.hid (row_below HO2.out W3.out)
          have HW3 := Lib.hid (below_after HW2.out (Nat.le_refl _) W3.out)
          go_wp2_with fail
          go_ret2
          rw [← HST.out]
          exact ⟨a, _, cap, rfl, (own_of_row HO3.out HBG.out).wide hsz0 (Nat.le_refl _) (Nat.le_refl _), below_after HSB.out (Nat.le_refl _) HW3.out⟩
end Go.Proofs.Ytpopmcgieegikaa
