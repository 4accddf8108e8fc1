/-
  The program's worse choices of one player.
-/
import Derived.Test.YtpopmcgieegikaaGWorS
import Derived.Test.YtpopmcgieegikaaGSides
import Derived.Deep.LoopGhost
import Derived.WalkMore
namespace Go.Proofs.Ytpopmcgieegikaa
open Go.RowKit Go.ChangeShapes Go.WideShapes
set_option linter.unusedVariables false

/-- the numbers below n, in a row of their own -/
structure UpRow (w : World) (g n : Nat) : Prop where
  lt : g < w.heap.size
  cells : ∀ x, x < n → w.cell? ⟨g, x, none⟩ = some (.int .i64 (x : Nat))
theorem UpRow.below {w w' : World} {g n : Nat} (h : UpRow w g n) (hb : Below w.heap.size w w') : UpRow w' g n :=
  ⟨Nat.lt_of_lt_of_le h.lt hb.size, fun x hx => (hb.cell (p := ⟨g, x, none⟩) h.lt).trans (h.cells x hx)⟩
theorem range_getD {n k : Nat} (h : k < n) : (ints (List.range n)).getD k 0 = (k : Int) := by
  unfold ints; simp [List.getD, h]

set_option maxRecDepth 20000 in
theorem upTo_any (n : Nat) (hn : n ≤ 6) (w : World) :
    Calls Try.prog 85 #[.int .i64 (n : Nat)] w fun e w' => ∃ g, e = .returned (.slice (some ⟨g, 0, none⟩) n n) ∧ UpRow w' g n ∧ Below w.heap.size w w' := by
  obtain ⟨i0, hi, hz0, hz1, hz2⟩ := info_parts (P := Try.prog) (e := 2) (z := .int .i64 0) (size := 1) (bytes := 8) (by kernel_rfl)
  have hz : (ints (List.range n)).length = n := by simp [ints]
  have HZ := Lib.hid hz
  clear hz
  go_enter Try.func85, Try.ntmps85
  go_wp2_with (at_make; refine wpList_make_full _ rfl _ _ 22 rfl w.heap.size 2 i0 (.int .i64 0) 1 Try.underlying22 hi hz0 hz1 .i64 .i64 _ _ n rfl rfl (by first | rfl | omega) (by first | rfl | omega) (by rw [hz2]; omega) (by unfold maxLen; omega) (Nat.le_refl _) ?_; intro w1 hown1 hgrow1)
  have hown1' : w1.ownsRow w.heap.size 2 1 (.slice (some ⟨w.heap.size, 0, none⟩) n n) n (((ints (List.range n)).take 0).map (Value.int .i64) ++ List.replicate (n - 0) (.int .i64 0)) := by
    have e : (madeCells (Value.int .i64 0).cells (n * 1)).toList = List.replicate n (.int .i64 0) := by
      rw [Nat.mul_one]; exact toList_madeCells_one _ _
    rw [e] at hown1
    simpa using hown1
  have hb1 : Below w.heap.size w w1 := (Below.refl _ _).grown hgrow1 (Nat.le_refl _) (fun k h => by cases h)
  clear hown1 hgrow1
  go_loopw [9] (fun i wr => ∃ k : Nat, k ≤ n ∧ i = .int .i64 k ∧ wr.ownsRow w.heap.size 2 1 (.slice (some ⟨w.heap.size, 0, none⟩) n n) n (((ints (List.range n)).take k).map (Value.int .i64) ++ List.replicate (n - k) (.int .i64 0)) ∧ Below w.heap.size w wr)
    (fun i _ => n - (intOf i).toNat)
  case atStart => exact ⟨0, Nat.zero_le _, rfl, hown1', hb1⟩
  case round =>
    obtain ⟨k, hk, rfl, hown, hbw⟩ := hrel
    clear hown1' hb1
    by_cases hlt : k < n
    · have hdst : wr.cell? ⟨w.heap.size, k, none⟩ = some (.int .i64 0) := (hown.cellAt k (by omega)).trans (by
        have hl : (((ints (List.range n)).take k).map (Value.int .i64)).length = k := by have := HZ.out; simp; omega
        rw [List.getElem?_append_right (by omega), hl, Nat.sub_self, List.getElem?_replicate, if_pos (by omega)])
      have hfz : wr.frozen? ⟨w.heap.size, k, none⟩ = false := hown.frozenAt k
      have HST := Lib.hid (hown.stored k (.int .i64 (k : Nat)))
      have HB := Lib.hid hbw
      clear hown hbw
      go_wp2
      go_roundw
      case rel =>
        refine ⟨k + 1, by omega, by go_num, ?_, HB.out.setCell (Nat.le_refl _) _⟩
        have := HST.out.1
        rw [← range_getD hlt, fill_int _ n k HZ.out hlt] at this
        rw [← range_getD hlt]
        exact this
      case measure => simp [intOf]; omega
    · obtain rfl : k = n := by omega
      have HO := Lib.hid hown
      have HB := Lib.hid hbw
      clear hown hbw
      go_wp2
      go_ret
      refine ⟨w.heap.size, rfl, ⟨(HO.out.lt _ rfl).2, fun x hx => ?_⟩, HB.out⟩
      have h := HO.out
      rw [List.take_of_length_le (by have := HZ.out; omega), Nat.sub_self, List.replicate_zero, List.append_nil] at h
      exact (h.cellAt x (by omega)).trans (by
        have e := range_getD hx
        rw [List.getD_eq_getElem?_getD] at e
        have hlen := HZ.out
        rw [List.getElem?_map, List.getElem?_eq_getElem (by omega)]
        rw [List.getElem?_eq_getElem (by omega), Option.getD_some] at e
        rw [Option.map_some, e])

set_option maxHeartbeats 2000000 in
set_option maxRecDepth 20000 in
theorem isWorseFirst_any (f : Nat → Nat → Int) (R C i n gR gC : Nat) (w : World) (r6 : R ≤ 6) (q6 : C ≤ 6) (hir : i < R) (hR : UpRow w gR R) (hC : UpRow w gC C)
    (hG : ∀ (x y : Nat) (w' : World), x < R → y < C → Below w.heap.size w w' → Calls Try.prog 114 #[.int .i64 x, .int .i64 y, .pointer (some ⟨n, 0, none⟩)] w' fun e w'' => e = .returned (.int .i64 (f x y)) ∧ w' = w'') :
    Calls Try.prog 113 #[sideV R C 114 n, .int .i64 i, .slice (some ⟨gR, 0, none⟩) R R, .slice (some ⟨gC, 0, none⟩) C C] w fun e w' => e = .returned (.bool (worseAny f R C i)) ∧ Below w.heap.size w w' := by
  have HG := Lib.hid hG
  have HR := Lib.hid hR
  have HC := Lib.hid hC
  clear hG hR hC
  go_enter Try.func113, Try.ntmps113
  go_wp2_with fail
  go_step3
  go_wp2_with fail
  go_step3
  go_wp2_with fail
  go_loopg [15] R (fun g jj wr => ∃ (j : Nat), j + g = R ∧ jj = .int .i64 j ∧ Hid (∀ x, x < j → worseF f C i x = false) ∧ Hid (wr.heap[w.heap.size]? = some (.cells #[.int .i64 R, .int .i64 C, .func (.func 114) #[] #[.pointer (some ⟨n, 0, none⟩)]] 73 (0, 0))) ∧ Hid (Below w.heap.size w wr))
  case atStart => exact ⟨0, by omega, rfl, Lib.hid (fun x hx => absurd hx (by omega)), Lib.hid heap1, Lib.hid below1⟩
  case round =>
    obtain ⟨j, hjg, rfl, HF, HBX, HW⟩ := hrel
    cases gk with
    | zero =>
      obtain rfl : j = R := by omega
      have HV : Hid (worseAny f j C i = false) := Lib.hid (worseAny_false HF.out)
      go_wp2_with fail
      try rw [Exit.noGoto_ret]
      go_ret
      rw [HV.out]
      exact ⟨rfl, HW.out⟩
    | succ g =>
      have hjl : j < R := by omega
      have hsj := ((HR.out.below HW.out).cells j hjl)
      go_wp2_with fail
      go_loopg [21] C (fun g2 kk wj => ∃ (k : Nat), k + g2 = C ∧ kk = .int .i64 k ∧ Hid (∀ x, x < k → f i x < f j x) ∧ Hid (wj.heap[w.heap.size]? = some (.cells #[.int .i64 R, .int .i64 C, .func (.func 114) #[] #[.pointer (some ⟨n, 0, none⟩)]] 73 (0, 0))) ∧ Hid (Below w.heap.size w wj))
      case atStart => exact ⟨0, by omega, rfl, Lib.hid (fun x hx => absurd hx (by omega)), HBX, HW⟩
      case round =>
        clear hsj HBX HW
        obtain ⟨k, hkg, rfl, HK, HBX, HW⟩ := hrel
        cases gk with
        | zero =>
          obtain rfl : k = C := by omega
          have HV : Hid (worseAny f R k i = true) := Lib.hid (worseAny_true hjl (worseF_true HK.out))
          go_wp2_with fail
          try rw [Exit.noGoto_ret]
          go_ret
          rw [HV.out]
          exact ⟨rfl, HW.out⟩
        | succ g2 =>
          have hkl : k < C := by omega
          have hsk := ((HC.out.below HW.out).cells k hkl)
          have x2 : wr.cell? ⟨w.heap.size, 2, none⟩ = some (.func (.func 114) #[] #[.pointer (some ⟨n, 0, none⟩)]) := by rw [cell_of_row wr _ 2 _ _ (0, 0) HBX.out]; rfl
          obtain ⟨va, hva⟩ : ∃ v, f i k = v := ⟨_, rfl⟩
          obtain ⟨vb, hvb⟩ : ∃ v, f j k = v := ⟨_, rfl⟩
          have HVA := Lib.hid hva
          have HVB := Lib.hid hvb
          clear hva hvb
          by_cases ha : va < vb
          · have hd : decide (vb ≤ va) = false := decide_eq_false (by omega)
            have HL : Hid (f i k < f j k) := Lib.hid (by rw [HVA.out, HVB.out]; exact ha)
            go_wp2_with fail
            go_quiet (first
              | (go_at_call_of 114 (Value.int IntKind.i64 (j : Int)); refine (HG.out j k _ hjl hkl (HW.out.trans (same_below ⟨_, rfl⟩ _))).mono ?_; rintro e w2 ⟨rfl, h2⟩; rw [HVB.out]; exact ⟨rfl, _, h2.symm⟩)
              | (go_at_call_of 114 (Value.int IntKind.i64 (i : Int)); refine (HG.out i k _ hir hkl (HW.out.trans (same_below ⟨_, rfl⟩ _))).mono ?_; rintro e w2 ⟨rfl, h2⟩; rw [HVA.out]; exact ⟨rfl, _, h2.symm⟩))
            go_wp2_with fail
            go_roundg g2
            case measure => omega
            case rel => exact ⟨k + 1, by omega, by go_num, Lib.hid (fun x hx => by by_cases e : x = k; (rw [e]; exact HL.out); exact HK.out x (by omega)), Lib.hid HBX.out, Lib.hid (HW.out.trans (same_below ⟨_, rfl⟩ _))⟩
          · have hd : decide (vb ≤ va) = true := decide_eq_true (by omega)
            have HL : Hid (worseF f C i j = false) := Lib.hid (worseF_false hkl (by rw [HVA.out, HVB.out]; exact ha))
            go_wp2_with fail
            go_quiet (first
              | (go_at_call_of 114 (Value.int IntKind.i64 (j : Int)); refine (HG.out j k _ hjl hkl (HW.out.trans (same_below ⟨_, rfl⟩ _))).mono ?_; rintro e w2 ⟨rfl, h2⟩; rw [HVB.out]; exact ⟨rfl, _, h2.symm⟩)
              | (go_at_call_of 114 (Value.int IntKind.i64 (i : Int)); refine (HG.out i k _ hir hkl (HW.out.trans (same_below ⟨_, rfl⟩ _))).mono ?_; rintro e w2 ⟨rfl, h2⟩; rw [HVA.out]; exact ⟨rfl, _, h2.symm⟩))
            go_wp2_with fail
            go_roundg g
            case measure => omega
            case rel => exact ⟨j + 1, by omega, by go_num, Lib.hid (fun x hx => by by_cases e : x = j; (rw [e]; exact HL.out); exact HF.out x (by omega)), Lib.hid HBX.out, Lib.hid (HW.out.trans (same_below ⟨_, rfl⟩ _))⟩

set_option maxHeartbeats 2000000 in
set_option maxRecDepth 20000 in
theorem worseOfFirst_any (f : Nat → Nat → Int) (R C n gR gC : Nat) (w : World) (r6 : R ≤ 6) (q6 : C ≤ 6) (hR : UpRow w gR R) (hC : UpRow w gC C)
    (hG : ∀ (x y : Nat) (w' : World), x < R → y < C → Below w.heap.size w w' → Calls Try.prog 114 #[.int .i64 x, .int .i64 y, .pointer (some ⟨n, 0, none⟩)] w' fun e w'' => e = .returned (.int .i64 (f x y)) ∧ w' = w'') :
    Calls Try.prog 87 #[sideV R C 114 n, .slice (some ⟨gR, 0, none⟩) R R, .slice (some ⟨gC, 0, none⟩) C C] w (IntsOut w (ints (pickL (worseAny f R C) R))) := by
  obtain ⟨i0, hi, hz0, hz1, hz2⟩ := info_parts (P := Try.prog) (e := 2) (z := .int .i64 0) (size := 1) (bytes := 8) (by kernel_rfl)
  have HG := Lib.hid hG
  have HR := Lib.hid hR
  have HC := Lib.hid hC
  clear hG hR hC
  go_enter Try.func87, Try.ntmps87
  go_wp2_with fail
  have HS : Hid (Below w.heap.size w (w.alloc (.cells #[.int .i64 R, .int .i64 C, .func (.func 114) #[] #[.pointer (some ⟨n, 0, none⟩)]] 73))) := Lib.hid below1
  have HX : Hid ((w.alloc (.cells #[.int .i64 R, .int .i64 C, .func (.func 114) #[] #[.pointer (some ⟨n, 0, none⟩)]] 73)).heap[w.heap.size]? = some (.cells #[.int .i64 R, .int .i64 C, .func (.func 114) #[] #[.pointer (some ⟨n, 0, none⟩)]] 73 (0, 0))) := Lib.hid heap1
  have hsS : w.heap.size < (w.alloc (.cells #[.int .i64 R, .int .i64 C, .func (.func 114) #[] #[.pointer (some ⟨n, 0, none⟩)]] 73)).heap.size := by simp
  generalize w.alloc (.cells #[.int .i64 R, .int .i64 C, .func (.func 114) #[] #[.pointer (some ⟨n, 0, none⟩)]] 73) = wS at *
  go_loopg [7, 12] R (fun g o ii wr => ∃ (i : Nat) (a : Option Addr) (m cap : Nat), i + g = R ∧ ii = .int .i64 i ∧ o = .slice a m cap ∧ m ≤ i ∧ Hid (wr.ownsRow wS.heap.size 2 1 (.slice a m cap) m ((ints (pickL (worseAny f R C) i)).map (Value.int .i64))) ∧ Hid (Below wS.heap.size wS wr))
  case atStart => exact ⟨0, none, 0, 0, by omega, rfl, rfl, by omega, Lib.hid (World.ownsRow_nil _ _ _ _), Lib.hid (Below.refl _ _)⟩
  case round =>
    obtain ⟨i, a, m, cap, hig, rfl, rfl, hmi, HO, HW⟩ := hrel
    have hbx : wr.heap[w.heap.size]? = some (.cells #[.int .i64 R, .int .i64 C, .func (.func 114) #[] #[.pointer (some ⟨n, 0, none⟩)]] 73 (0, 0)) := (HW.out.block _ hsS).trans HX.out
    have x0 : wr.cell? ⟨w.heap.size, 0, none⟩ = some (.int .i64 R) := by rw [cell_of_row wr _ 0 _ _ (0, 0) hbx]; rfl
    have x1 : wr.cell? ⟨w.heap.size, 1, none⟩ = some (.int .i64 C) := by rw [cell_of_row wr _ 1 _ _ (0, 0) hbx]; rfl
    have x2 : wr.cell? ⟨w.heap.size, 2, none⟩ = some (.func (.func 114) #[] #[.pointer (some ⟨n, 0, none⟩)]) := by rw [cell_of_row wr _ 2 _ _ (0, 0) hbx]; rfl
    clear hbx
    have HCW := Lib.hid (below_after HS.out (Nat.le_refl _) HW.out)
    cases gk with
    | zero =>
      obtain rfl : i = R := by omega
      go_wp2_with fail
      go_ret
      exact ⟨a, m, cap, rfl, (own_of_row HO.out (ints_big fun x hx => by have := (pickL_lt hx).1; omega)).wide (Nat.le_of_lt hsS) (Nat.le_refl _) (Nat.le_refl _), HCW.out⟩
    | succ g =>
      have hil : i < R := by omega
      have hsi := ((HR.out.below HCW.out).cells i hil)
      go_wp2_with fail
      refine (isWorseFirst_any f R C i n gR gC wr r6 q6 hil (HR.out.below HCW.out) (HC.out.below HCW.out) (fun x y w' hx hy hw => HG.out x y w' hx hy (below_after HCW.out (Nat.le_refl _) hw))).mono ?_
      rintro e w3 ⟨rfl, b3⟩
      have HO3 := Lib.hid (row_below HO.out b3)
      have HW3 := Lib.hid (below_after HW.out (Nat.le_refl _) b3)
      have hs3 := HW3.out.size
      clear b3 x0 x1 x2
      cases hv : worseAny f R C i with
      | false =>
        have HN : Hid (pickL (worseAny f R C) (i + 1) = pickL (worseAny f R C) i) := Lib.hid (by rw [pickL_succ, hv]; simp)
        clear hv
        go_wp2_with fail
        go_roundg g
        case measure => omega
        case rel => exact ⟨i + 1, a, m, cap, by omega, by go_num, rfl, by omega, Lib.hid (by rw [HN.out]; exact HO3.out), HW3⟩
      | true =>
        have HN : Hid (pickL (worseAny f R C) (i + 1) = pickL (worseAny f R C) i ++ [i]) := Lib.hid (by rw [pickL_succ, hv]; simp)
        clear hv
        go_wp2_with (at_builtin; refine wpList_append_own _ rfl (.tmp 21) (.tmp 23) 22 rfl wS.heap.size 2 i0 (.int .i64 0) 1 8 Try.underlying22 hi hz0 hz1 hz2 rfl (by decide) _ m _ rfl (HO3.out.alloc _) ⟨w3.heap.size, 0, none⟩ 1 1 [.int .i64 i] rfl rfl (news_one _ _ (by simp)) (one_int _) (by unfold maxLen; omega) (by omega) (by simp; omega) ?_)
        intro v' w5 hown hgrow _
        obtain ⟨a', cap', rfl⟩ := row_slice hown
        have HX1 := Lib.hid (Below.grown ((HW3.out).alloc (by simpa using hs3) _) hgrow (by simp; omega) (fun k hk => (World.ownsRow.lt HO3.out k hk).1))
        have HO1 : Hid (w5.ownsRow wS.heap.size 2 1 (.slice a' (m + 1) cap') (m + 1) ((ints (pickL (worseAny f R C) (i + 1))).map (Value.int .i64))) :=
          Lib.hid (by rw [HN.out, ints_append, List.map_append]; exact hown)
        clear hown hgrow
        go_wp2_with fail
        go_roundg g
        case measure => omega
        case rel => exact ⟨i + 1, a', m + 1, cap', by omega, by go_num, rfl, by omega, HO1, HX1⟩

set_option maxHeartbeats 2000000 in
set_option maxRecDepth 20000 in
theorem isWorseSecond_any (f : Nat → Nat → Int) (R C i n gR gC : Nat) (w : World) (r6 : R ≤ 6) (q6 : C ≤ 6) (hir : i < R) (hR : UpRow w gR R) (hC : UpRow w gC C)
    (hG : ∀ (x y : Nat) (w' : World), x < R → y < C → Below w.heap.size w w' → Calls Try.prog 115 #[.int .i64 x, .int .i64 y, .pointer (some ⟨n, 0, none⟩)] w' fun e w'' => e = .returned (.int .i64 (f x y)) ∧ w' = w'') :
    Calls Try.prog 113 #[sideV R C 115 n, .int .i64 i, .slice (some ⟨gR, 0, none⟩) R R, .slice (some ⟨gC, 0, none⟩) C C] w fun e w' => e = .returned (.bool (worseAny f R C i)) ∧ Below w.heap.size w w' := by
  have HG := Lib.hid hG
  have HR := Lib.hid hR
  have HC := Lib.hid hC
  clear hG hR hC
  go_enter Try.func113, Try.ntmps113
  go_wp2_with fail
  go_step3
  go_wp2_with fail
  go_step3
  go_wp2_with fail
  go_loopg [15] R (fun g jj wr => ∃ (j : Nat), j + g = R ∧ jj = .int .i64 j ∧ Hid (∀ x, x < j → worseF f C i x = false) ∧ Hid (wr.heap[w.heap.size]? = some (.cells #[.int .i64 R, .int .i64 C, .func (.func 115) #[] #[.pointer (some ⟨n, 0, none⟩)]] 73 (0, 0))) ∧ Hid (Below w.heap.size w wr))
  case atStart => exact ⟨0, by omega, rfl, Lib.hid (fun x hx => absurd hx (by omega)), Lib.hid heap1, Lib.hid below1⟩
  case round =>
    obtain ⟨j, hjg, rfl, HF, HBX, HW⟩ := hrel
    cases gk with
    | zero =>
      obtain rfl : j = R := by omega
      have HV : Hid (worseAny f j C i = false) := Lib.hid (worseAny_false HF.out)
      go_wp2_with fail
      try rw [Exit.noGoto_ret]
      go_ret
      rw [HV.out]
      exact ⟨rfl, HW.out⟩
    | succ g =>
      have hjl : j < R := by omega
      have hsj := ((HR.out.below HW.out).cells j hjl)
      go_wp2_with fail
      go_loopg [21] C (fun g2 kk wj => ∃ (k : Nat), k + g2 = C ∧ kk = .int .i64 k ∧ Hid (∀ x, x < k → f i x < f j x) ∧ Hid (wj.heap[w.heap.size]? = some (.cells #[.int .i64 R, .int .i64 C, .func (.func 115) #[] #[.pointer (some ⟨n, 0, none⟩)]] 73 (0, 0))) ∧ Hid (Below w.heap.size w wj))
      case atStart => exact ⟨0, by omega, rfl, Lib.hid (fun x hx => absurd hx (by omega)), HBX, HW⟩
      case round =>
        clear hsj HBX HW
        obtain ⟨k, hkg, rfl, HK, HBX, HW⟩ := hrel
        cases gk with
        | zero =>
          obtain rfl : k = C := by omega
          have HV : Hid (worseAny f R k i = true) := Lib.hid (worseAny_true hjl (worseF_true HK.out))
          go_wp2_with fail
          try rw [Exit.noGoto_ret]
          go_ret
          rw [HV.out]
          exact ⟨rfl, HW.out⟩
        | succ g2 =>
          have hkl : k < C := by omega
          have hsk := ((HC.out.below HW.out).cells k hkl)
          have x2 : wr.cell? ⟨w.heap.size, 2, none⟩ = some (.func (.func 115) #[] #[.pointer (some ⟨n, 0, none⟩)]) := by rw [cell_of_row wr _ 2 _ _ (0, 0) HBX.out]; rfl
          obtain ⟨va, hva⟩ : ∃ v, f i k = v := ⟨_, rfl⟩
          obtain ⟨vb, hvb⟩ : ∃ v, f j k = v := ⟨_, rfl⟩
          have HVA := Lib.hid hva
          have HVB := Lib.hid hvb
          clear hva hvb
          by_cases ha : va < vb
          · have hd : decide (vb ≤ va) = false := decide_eq_false (by omega)
            have HL : Hid (f i k < f j k) := Lib.hid (by rw [HVA.out, HVB.out]; exact ha)
            go_wp2_with fail
            go_quiet (first
              | (go_at_call_of 115 (Value.int IntKind.i64 (j : Int)); refine (HG.out j k _ hjl hkl (HW.out.trans (same_below ⟨_, rfl⟩ _))).mono ?_; rintro e w2 ⟨rfl, h2⟩; rw [HVB.out]; exact ⟨rfl, _, h2.symm⟩)
              | (go_at_call_of 115 (Value.int IntKind.i64 (i : Int)); refine (HG.out i k _ hir hkl (HW.out.trans (same_below ⟨_, rfl⟩ _))).mono ?_; rintro e w2 ⟨rfl, h2⟩; rw [HVA.out]; exact ⟨rfl, _, h2.symm⟩))
            go_wp2_with fail
            go_roundg g2
            case measure => omega
            case rel => exact ⟨k + 1, by omega, by go_num, Lib.hid (fun x hx => by by_cases e : x = k; (rw [e]; exact HL.out); exact HK.out x (by omega)), Lib.hid HBX.out, Lib.hid (HW.out.trans (same_below ⟨_, rfl⟩ _))⟩
          · have hd : decide (vb ≤ va) = true := decide_eq_true (by omega)
            have HL : Hid (worseF f C i j = false) := Lib.hid (worseF_false hkl (by rw [HVA.out, HVB.out]; exact ha))
            go_wp2_with fail
            go_quiet (first
              | (go_at_call_of 115 (Value.int IntKind.i64 (j : Int)); refine (HG.out j k _ hjl hkl (HW.out.trans (same_below ⟨_, rfl⟩ _))).mono ?_; rintro e w2 ⟨rfl, h2⟩; rw [HVB.out]; exact ⟨rfl, _, h2.symm⟩)
              | (go_at_call_of 115 (Value.int IntKind.i64 (i : Int)); refine (HG.out i k _ hir hkl (HW.out.trans (same_below ⟨_, rfl⟩ _))).mono ?_; rintro e w2 ⟨rfl, h2⟩; rw [HVA.out]; exact ⟨rfl, _, h2.symm⟩))
            go_wp2_with fail
            go_roundg g
            case measure => omega
            case rel => exact ⟨j + 1, by omega, by go_num, Lib.hid (fun x hx => by by_cases e : x = j; (rw [e]; exact HL.out); exact HF.out x (by omega)), Lib.hid HBX.out, Lib.hid (HW.out.trans (same_below ⟨_, rfl⟩ _))⟩

set_option maxHeartbeats 2000000 in
set_option maxRecDepth 20000 in
theorem worseOfSecond_any (f : Nat → Nat → Int) (R C n gR gC : Nat) (w : World) (r6 : R ≤ 6) (q6 : C ≤ 6) (hR : UpRow w gR R) (hC : UpRow w gC C)
    (hG : ∀ (x y : Nat) (w' : World), x < R → y < C → Below w.heap.size w w' → Calls Try.prog 115 #[.int .i64 x, .int .i64 y, .pointer (some ⟨n, 0, none⟩)] w' fun e w'' => e = .returned (.int .i64 (f x y)) ∧ w' = w'') :
    Calls Try.prog 87 #[sideV R C 115 n, .slice (some ⟨gR, 0, none⟩) R R, .slice (some ⟨gC, 0, none⟩) C C] w (IntsOut w (ints (pickL (worseAny f R C) R))) := by
  obtain ⟨i0, hi, hz0, hz1, hz2⟩ := info_parts (P := Try.prog) (e := 2) (z := .int .i64 0) (size := 1) (bytes := 8) (by kernel_rfl)
  have HG := Lib.hid hG
  have HR := Lib.hid hR
  have HC := Lib.hid hC
  clear hG hR hC
  go_enter Try.func87, Try.ntmps87
  go_wp2_with fail
  have HS : Hid (Below w.heap.size w (w.alloc (.cells #[.int .i64 R, .int .i64 C, .func (.func 115) #[] #[.pointer (some ⟨n, 0, none⟩)]] 73))) := Lib.hid below1
  have HX : Hid ((w.alloc (.cells #[.int .i64 R, .int .i64 C, .func (.func 115) #[] #[.pointer (some ⟨n, 0, none⟩)]] 73)).heap[w.heap.size]? = some (.cells #[.int .i64 R, .int .i64 C, .func (.func 115) #[] #[.pointer (some ⟨n, 0, none⟩)]] 73 (0, 0))) := Lib.hid heap1
  have hsS : w.heap.size < (w.alloc (.cells #[.int .i64 R, .int .i64 C, .func (.func 115) #[] #[.pointer (some ⟨n, 0, none⟩)]] 73)).heap.size := by simp
  generalize w.alloc (.cells #[.int .i64 R, .int .i64 C, .func (.func 115) #[] #[.pointer (some ⟨n, 0, none⟩)]] 73) = wS at *
  go_loopg [7, 12] R (fun g o ii wr => ∃ (i : Nat) (a : Option Addr) (m cap : Nat), i + g = R ∧ ii = .int .i64 i ∧ o = .slice a m cap ∧ m ≤ i ∧ Hid (wr.ownsRow wS.heap.size 2 1 (.slice a m cap) m ((ints (pickL (worseAny f R C) i)).map (Value.int .i64))) ∧ Hid (Below wS.heap.size wS wr))
  case atStart => exact ⟨0, none, 0, 0, by omega, rfl, rfl, by omega, Lib.hid (World.ownsRow_nil _ _ _ _), Lib.hid (Below.refl _ _)⟩
  case round =>
    obtain ⟨i, a, m, cap, hig, rfl, rfl, hmi, HO, HW⟩ := hrel
    have hbx : wr.heap[w.heap.size]? = some (.cells #[.int .i64 R, .int .i64 C, .func (.func 115) #[] #[.pointer (some ⟨n, 0, none⟩)]] 73 (0, 0)) := (HW.out.block _ hsS).trans HX.out
    have x0 : wr.cell? ⟨w.heap.size, 0, none⟩ = some (.int .i64 R) := by rw [cell_of_row wr _ 0 _ _ (0, 0) hbx]; rfl
    have x1 : wr.cell? ⟨w.heap.size, 1, none⟩ = some (.int .i64 C) := by rw [cell_of_row wr _ 1 _ _ (0, 0) hbx]; rfl
    have x2 : wr.cell? ⟨w.heap.size, 2, none⟩ = some (.func (.func 115) #[] #[.pointer (some ⟨n, 0, none⟩)]) := by rw [cell_of_row wr _ 2 _ _ (0, 0) hbx]; rfl
    clear hbx
    have HCW := Lib.hid (below_after HS.out (Nat.le_refl _) HW.out)
    cases gk with
    | zero =>
      obtain rfl : i = R := by omega
      go_wp2_with fail
      go_ret
      exact ⟨a, m, cap, rfl, (own_of_row HO.out (ints_big fun x hx => by have := (pickL_lt hx).1; omega)).wide (Nat.le_of_lt hsS) (Nat.le_refl _) (Nat.le_refl _), HCW.out⟩
    | succ g =>
      have hil : i < R := by omega
      have hsi := ((HR.out.below HCW.out).cells i hil)
      go_wp2_with fail
      refine (isWorseSecond_any f R C i n gR gC wr r6 q6 hil (HR.out.below HCW.out) (HC.out.below HCW.out) (fun x y w' hx hy hw => HG.out x y w' hx hy (below_after HCW.out (Nat.le_refl _) hw))).mono ?_
      rintro e w3 ⟨rfl, b3⟩
      have HO3 := Lib.hid (row_below HO.out b3)
      have HW3 := Lib.hid (below_after HW.out (Nat.le_refl _) b3)
      have hs3 := HW3.out.size
      clear b3 x0 x1 x2
      cases hv : worseAny f R C i with
      | false =>
        have HN : Hid (pickL (worseAny f R C) (i + 1) = pickL (worseAny f R C) i) := Lib.hid (by rw [pickL_succ, hv]; simp)
        clear hv
        go_wp2_with fail
        go_roundg g
        case measure => omega
        case rel => exact ⟨i + 1, a, m, cap, by omega, by go_num, rfl, by omega, Lib.hid (by rw [HN.out]; exact HO3.out), HW3⟩
      | true =>
        have HN : Hid (pickL (worseAny f R C) (i + 1) = pickL (worseAny f R C) i ++ [i]) := Lib.hid (by rw [pickL_succ, hv]; simp)
        clear hv
        go_wp2_with (at_builtin; refine wpList_append_own _ rfl (.tmp 21) (.tmp 23) 22 rfl wS.heap.size 2 i0 (.int .i64 0) 1 8 Try.underlying22 hi hz0 hz1 hz2 rfl (by decide) _ m _ rfl (HO3.out.alloc _) ⟨w3.heap.size, 0, none⟩ 1 1 [.int .i64 i] rfl rfl (news_one _ _ (by simp)) (one_int _) (by unfold maxLen; omega) (by omega) (by simp; omega) ?_)
        intro v' w5 hown hgrow _
        obtain ⟨a', cap', rfl⟩ := row_slice hown
        have HX1 := Lib.hid (Below.grown ((HW3.out).alloc (by simpa using hs3) _) hgrow (by simp; omega) (fun k hk => (World.ownsRow.lt HO3.out k hk).1))
        have HO1 : Hid (w5.ownsRow wS.heap.size 2 1 (.slice a' (m + 1) cap') (m + 1) ((ints (pickL (worseAny f R C) (i + 1))).map (Value.int .i64))) :=
          Lib.hid (by rw [HN.out, ints_append, List.map_append]; exact hown)
        clear hown hgrow
        go_wp2_with fail
        go_roundg g
        case measure => omega
        case rel => exact ⟨i + 1, a', m + 1, cap', by omega, by go_num, rfl, by omega, HO1, HX1⟩
end Go.Proofs.Ytpopmcgieegikaa
