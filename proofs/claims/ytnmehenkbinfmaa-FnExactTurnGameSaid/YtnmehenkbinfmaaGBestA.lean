/-
  The program's best choices against one of the other player's.
-/
import Derived.Test.YtnmehenkbinfmaaGSide
namespace Go.Proofs.Ytnmehenkbinfmaa
open Go.RowKit Go.ChangeShapes Go.WideShapes
set_option linter.unusedVariables false

set_option maxHeartbeats 2000000 in
set_option maxRecDepth 20000 in
theorem bestFirst_any (f : Nat → Int) (own oth K n : Nat) (w : World) (h1 : 1 ≤ own) (h6 : own ≤ 6) (hn : n < w.heap.size)
    (hG : ∀ (x : Nat) (w' : World), x < own → Below w.heap.size w w' → Calls Try.prog 114 #[.int .i64 x, .int .i64 K, .pointer (some ⟨n, 0, none⟩)] w' fun e w'' => e = .returned (.int .i64 (f x)) ∧ w' = w'') :
    Calls Try.prog 92 #[sideV own oth 114 n, .int .i64 K] w (IntsOut w (ints (bestL f own))) := by
  obtain ⟨i0, hi, hz0, hz1, hz2⟩ := info_parts (P := Try.prog) (e := 2) (z := .int .i64 0) (size := 1) (bytes := 8) (by kernel_rfl)
  have HG := Lib.hid hG
  clear hG
  go_enter Try.func92, Try.ntmps92
  go_wp2_with fail
  go_loopw [5, 6] (fun o i wr => ∃ (k : Nat) (g l cap : Nat) (m : Int), 1 ≤ k ∧ k ≤ own ∧ i = .int .i64 k ∧ o = .slice (some ⟨g, 0, none⟩) l cap ∧ l ≤ k ∧ Hid (IsMost f k m) ∧
      Hid (wr.ownsRow (w.heap.size + 1) 2 1 (.slice (some ⟨g, 0, none⟩) l cap) l ((ints (pickL (fun i => decide (f i = m)) k)).map (Value.int .i64))) ∧
      Hid (wr.heap[w.heap.size]? = some (.cells #[.int .i64 own, .int .i64 oth, .func (.func 114) #[] #[.pointer (some ⟨n, 0, none⟩)]] 73 (0, 0))) ∧ Hid (Below w.heap.size w wr))
    (fun _ i _ => own - (intOf i).toNat)
  case atStart =>
    refine ⟨1, w.heap.size + 1, 1, 1, f 0, Nat.le_refl _, h1, rfl, rfl, Nat.le_refl _, Lib.hid (best_one f).1, Lib.hid ?_, Lib.hid heap2a, Lib.hid below2⟩
    rw [(best_one f).2]
    simpa [ints] using World.ownsRow_lit (base := w.heap.size + 1) (e := 2) (size := 1) (w.alloc (.cells #[.int .i64 own, .int .i64 oth, .func (.func 114) #[] #[.pointer (some ⟨n, 0, none⟩)]] 73)) #[.int .i64 0] 1 (by simp) (by decide) rfl
  case round =>
    obtain ⟨k, g, l, cap, m, hk1, hk, rfl, rfl, hl, HM, HO, HBX, HW⟩ := hrel
    have hwsz := HW.out.size
    have x0 : wr.cell? ⟨w.heap.size, 0, none⟩ = some (.int .i64 own) := by rw [cell_of_row wr _ 0 _ _ (0, 0) HBX.out]; rfl
    have x2 : wr.cell? ⟨w.heap.size, 2, none⟩ = some (.func (.func 114) #[] #[.pointer (some ⟨n, 0, none⟩)]) := by rw [cell_of_row wr _ 2 _ _ (0, 0) HBX.out]; rfl
    have hgs : g < wr.heap.size := (HO.out.lt g rfl).2
    have hgl : w.heap.size + 1 ≤ g := (HO.out.lt g rfl).1
    by_cases hlt : k < own
    · obtain ⟨h, t, hh, hhk, hhm⟩ := best_head HM.out
      have hl1 : 1 ≤ l := by have := HO.out.1; rw [hh] at this; simp [ints] at this; omega
      have y0 : wr.cell? ⟨g, 0, none⟩ = some (.int .i64 h) := by
        rw [HO.out.cellAt 0 (by omega), hh]; rfl
      have HH := Lib.hid hh
      have HHM := Lib.hid hhm
      clear hh hhm
      rcases (show m < f k ∨ f k = m ∨ f k < m by omega) with hc | hc | hc
      · have HC := Lib.hid hc
        obtain ⟨v, hv⟩ : ∃ v, f k = v := ⟨_, rfl⟩
        have hcv : m < v := by omega
        have HV := Lib.hid hv
        clear hc hv
        go_wp2_with fail
        go_quiet (first
          | (go_at_call_of 114 (Value.int IntKind.i64 (h : Int)); refine (HG.out h _ (by omega) (HW.out.trans (same_below ⟨_, rfl⟩ _))).mono ?_; rintro e w2 ⟨rfl, h2⟩; rw [HHM.out]; exact ⟨rfl, _, h2.symm⟩)
          | (go_at_call_of 114 (Value.int IntKind.i64 (k : Int)); refine (HG.out k _ hlt (HW.out.trans (same_below ⟨_, rfl⟩ _))).mono ?_; rintro e w2 ⟨rfl, h2⟩; rw [HV.out]; exact ⟨rfl, _, h2.symm⟩))
        go_wp2_with fail
        go_roundw
        case rel =>
          have hb := best_more HM.out HC.out
          rw [HV.out] at hb
          refine ⟨k + 1, wr.heap.size, 1, 1, v, by omega, by omega, by go_num, rfl, by omega, Lib.hid hb.1, Lib.hid ?_, Lib.hid ?_, Lib.hid ((HW.out.trans (same_below ⟨nq, rfl⟩ _)).alloc (by simpa using hwsz) _)⟩
          · rw [hb.2]
            simpa [ints] using World.ownsRow_lit (base := w.heap.size + 1) (e := 2) (size := 1) (wr.drewN nq) #[.int .i64 k] 1 (by simp; omega) (by decide) rfl
          · exact (Below.heap_alloc _ _ _ (by simp; omega)).trans HBX.out
        case measure => simp [intOf]; omega
      · have HC := Lib.hid hc
        clear hc
        go_wp2_with fail
        go_quiet (first
          | (go_at_call_of 114 (Value.int IntKind.i64 (h : Int)); refine (HG.out h _ (by omega) (HW.out.trans (same_below ⟨_, rfl⟩ _))).mono ?_; rintro e w2 ⟨rfl, h2⟩; rw [HHM.out]; exact ⟨rfl, _, h2.symm⟩)
          | (go_at_call_of 114 (Value.int IntKind.i64 (k : Int)); refine (HG.out k _ hlt (HW.out.trans (same_below ⟨_, rfl⟩ _))).mono ?_; rintro e w2 ⟨rfl, h2⟩; rw [HC.out]; exact ⟨rfl, _, h2.symm⟩))
        have hO : (wr.drewN nq).ownsRow (w.heap.size + 1) 2 1 (.slice (some ⟨g, 0, none⟩) l cap) l ((ints (pickL (fun i => decide (f i = m)) k)).map (Value.int .i64)) := HO.out
        have HO' := Lib.hid hO
        clear hO
        go_wp2_with (at_builtin; refine wpList_append_own _ rfl (.tmp 36) (.tmp 38) 22 rfl (w.heap.size + 1) 2 i0 (.int .i64 0) 1 8 Try.underlying22 hi hz0 hz1 hz2 rfl (by decide) _ l _ rfl (HO'.out.alloc _) ⟨wr.heap.size, 0, none⟩ 1 1 [.int .i64 k] rfl rfl (news_one _ _ (by simp)) (one_int _) (by unfold maxLen; omega) (by omega) (by simp; omega) ?_)
        intro v' w1 hown hgrow hnil
        obtain ⟨a', cap', rfl⟩ := row_slice hown
        have hbs := best_same HM.out HC.out
        obtain ⟨g', rfl⟩ : ∃ g', a' = some ⟨g', 0, none⟩ := by
          rcases hown.2 with ⟨_, h0⟩ | ⟨g', _, _, e, _⟩
          · omega
          · simp only [Value.slice.injEq, true_and] at e
            exact ⟨g', e.1⟩
        have HX1 := Lib.hid (Below.grown (((HW.out.trans (same_below ⟨nq, rfl⟩ _)).alloc (by simpa using hwsz) (.cells #[.int .i64 k] 2))) hgrow (by simp; omega) (fun k hk => by have := (World.ownsRow.lt HO'.out k hk).1; omega))
        have HO1 : Hid (w1.ownsRow (w.heap.size + 1) 2 1 (.slice (some ⟨g', 0, none⟩) (l + 1) cap') (l + 1) ((ints (pickL (fun i => decide (f i = m)) (k + 1))).map (Value.int .i64))) :=
          Lib.hid (by rw [hbs.2, ints_append, List.map_append]; exact hown)
        have HB1 : Hid (w1.heap[w.heap.size]? = some (.cells #[.int .i64 own, .int .i64 oth, .func (.func 114) #[] #[.pointer (some ⟨n, 0, none⟩)]] 73 (0, 0))) :=
          Lib.hid ((hgrow.block _ (by simp; omega) (fun e => by have := (World.ownsRow.lt HO'.out _ e.symm).1; omega)).trans ((Below.heap_alloc _ _ _ (by simp; omega)).trans HBX.out))
        have HM1 := Lib.hid hbs.1
        clear hown hgrow hnil hbs
        go_wp2_with fail
        go_roundw
        case rel => exact ⟨k + 1, g', l + 1, cap', m, by omega, by omega, by go_num, rfl, by omega, HM1, HO1, HB1, HX1⟩
        case measure => simp [intOf]; omega
      · have HC := Lib.hid hc
        obtain ⟨v, hv⟩ : ∃ v, f k = v := ⟨_, rfl⟩
        have hcv : v < m := by omega
        have HV := Lib.hid hv
        clear hc hv
        go_wp2_with fail
        go_quiet (first
          | (go_at_call_of 114 (Value.int IntKind.i64 (h : Int)); refine (HG.out h _ (by omega) (HW.out.trans (same_below ⟨_, rfl⟩ _))).mono ?_; rintro e w2 ⟨rfl, h2⟩; rw [HHM.out]; exact ⟨rfl, _, h2.symm⟩)
          | (go_at_call_of 114 (Value.int IntKind.i64 (k : Int)); refine (HG.out k _ hlt (HW.out.trans (same_below ⟨_, rfl⟩ _))).mono ?_; rintro e w2 ⟨rfl, h2⟩; rw [HV.out]; exact ⟨rfl, _, h2.symm⟩))
        go_wp2_with fail
        go_roundw
        case rel =>
          have hb := best_less HM.out HC.out
          exact ⟨k + 1, g, l, cap, m, by omega, by omega, by go_num, rfl, by omega, Lib.hid hb.1, Lib.hid (by rw [hb.2]; exact HO.out), Lib.hid HBX.out, Lib.hid (HW.out.trans (same_below ⟨nq, rfl⟩ _))⟩
        case measure => simp [intOf]; omega
    · obtain rfl : k = own := by omega
      go_wp2_with fail
      go_ret
      refine ⟨_, l, cap, rfl, ?_, HW.out⟩
      rw [bestL_most HM.out]
      exact (own_of_row HO.out (ints_big fun i hi => by have := (pickL_lt hi).1; omega)).wide (by omega) (Nat.le_refl _) (Nat.le_refl _)

set_option maxHeartbeats 2000000 in
set_option maxRecDepth 20000 in
theorem bestSecond_any (f : Nat → Int) (own oth K n : Nat) (w : World) (h1 : 1 ≤ own) (h6 : own ≤ 6) (hn : n < w.heap.size)
    (hG : ∀ (x : Nat) (w' : World), x < own → Below w.heap.size w w' → Calls Try.prog 115 #[.int .i64 x, .int .i64 K, .pointer (some ⟨n, 0, none⟩)] w' fun e w'' => e = .returned (.int .i64 (f x)) ∧ w' = w'') :
    Calls Try.prog 92 #[sideV own oth 115 n, .int .i64 K] w (IntsOut w (ints (bestL f own))) := by
  obtain ⟨i0, hi, hz0, hz1, hz2⟩ := info_parts (P := Try.prog) (e := 2) (z := .int .i64 0) (size := 1) (bytes := 8) (by kernel_rfl)
  have HG := Lib.hid hG
  clear hG
  go_enter Try.func92, Try.ntmps92
  go_wp2_with fail
  go_loopw [5, 6] (fun o i wr => ∃ (k : Nat) (g l cap : Nat) (m : Int), 1 ≤ k ∧ k ≤ own ∧ i = .int .i64 k ∧ o = .slice (some ⟨g, 0, none⟩) l cap ∧ l ≤ k ∧ Hid (IsMost f k m) ∧
      Hid (wr.ownsRow (w.heap.size + 1) 2 1 (.slice (some ⟨g, 0, none⟩) l cap) l ((ints (pickL (fun i => decide (f i = m)) k)).map (Value.int .i64))) ∧
      Hid (wr.heap[w.heap.size]? = some (.cells #[.int .i64 own, .int .i64 oth, .func (.func 115) #[] #[.pointer (some ⟨n, 0, none⟩)]] 73 (0, 0))) ∧ Hid (Below w.heap.size w wr))
    (fun _ i _ => own - (intOf i).toNat)
  case atStart =>
    refine ⟨1, w.heap.size + 1, 1, 1, f 0, Nat.le_refl _, h1, rfl, rfl, Nat.le_refl _, Lib.hid (best_one f).1, Lib.hid ?_, Lib.hid heap2a, Lib.hid below2⟩
    rw [(best_one f).2]
    simpa [ints] using World.ownsRow_lit (base := w.heap.size + 1) (e := 2) (size := 1) (w.alloc (.cells #[.int .i64 own, .int .i64 oth, .func (.func 115) #[] #[.pointer (some ⟨n, 0, none⟩)]] 73)) #[.int .i64 0] 1 (by simp) (by decide) rfl
  case round =>
    obtain ⟨k, g, l, cap, m, hk1, hk, rfl, rfl, hl, HM, HO, HBX, HW⟩ := hrel
    have hwsz := HW.out.size
    have x0 : wr.cell? ⟨w.heap.size, 0, none⟩ = some (.int .i64 own) := by rw [cell_of_row wr _ 0 _ _ (0, 0) HBX.out]; rfl
    have x2 : wr.cell? ⟨w.heap.size, 2, none⟩ = some (.func (.func 115) #[] #[.pointer (some ⟨n, 0, none⟩)]) := by rw [cell_of_row wr _ 2 _ _ (0, 0) HBX.out]; rfl
    have hgs : g < wr.heap.size := (HO.out.lt g rfl).2
    have hgl : w.heap.size + 1 ≤ g := (HO.out.lt g rfl).1
    by_cases hlt : k < own
    · obtain ⟨h, t, hh, hhk, hhm⟩ := best_head HM.out
      have hl1 : 1 ≤ l := by have := HO.out.1; rw [hh] at this; simp [ints] at this; omega
      have y0 : wr.cell? ⟨g, 0, none⟩ = some (.int .i64 h) := by
        rw [HO.out.cellAt 0 (by omega), hh]; rfl
      have HH := Lib.hid hh
      have HHM := Lib.hid hhm
      clear hh hhm
      rcases (show m < f k ∨ f k = m ∨ f k < m by omega) with hc | hc | hc
      · have HC := Lib.hid hc
        obtain ⟨v, hv⟩ : ∃ v, f k = v := ⟨_, rfl⟩
        have hcv : m < v := by omega
        have HV := Lib.hid hv
        clear hc hv
        go_wp2_with fail
        go_quiet (first
          | (go_at_call_of 115 (Value.int IntKind.i64 (h : Int)); refine (HG.out h _ (by omega) (HW.out.trans (same_below ⟨_, rfl⟩ _))).mono ?_; rintro e w2 ⟨rfl, h2⟩; rw [HHM.out]; exact ⟨rfl, _, h2.symm⟩)
          | (go_at_call_of 115 (Value.int IntKind.i64 (k : Int)); refine (HG.out k _ hlt (HW.out.trans (same_below ⟨_, rfl⟩ _))).mono ?_; rintro e w2 ⟨rfl, h2⟩; rw [HV.out]; exact ⟨rfl, _, h2.symm⟩))
        go_wp2_with fail
        go_roundw
        case rel =>
          have hb := best_more HM.out HC.out
          rw [HV.out] at hb
          refine ⟨k + 1, wr.heap.size, 1, 1, v, by omega, by omega, by go_num, rfl, by omega, Lib.hid hb.1, Lib.hid ?_, Lib.hid ?_, Lib.hid ((HW.out.trans (same_below ⟨nq, rfl⟩ _)).alloc (by simpa using hwsz) _)⟩
          · rw [hb.2]
            simpa [ints] using World.ownsRow_lit (base := w.heap.size + 1) (e := 2) (size := 1) (wr.drewN nq) #[.int .i64 k] 1 (by simp; omega) (by decide) rfl
          · exact (Below.heap_alloc _ _ _ (by simp; omega)).trans HBX.out
        case measure => simp [intOf]; omega
      · have HC := Lib.hid hc
        clear hc
        go_wp2_with fail
        go_quiet (first
          | (go_at_call_of 115 (Value.int IntKind.i64 (h : Int)); refine (HG.out h _ (by omega) (HW.out.trans (same_below ⟨_, rfl⟩ _))).mono ?_; rintro e w2 ⟨rfl, h2⟩; rw [HHM.out]; exact ⟨rfl, _, h2.symm⟩)
          | (go_at_call_of 115 (Value.int IntKind.i64 (k : Int)); refine (HG.out k _ hlt (HW.out.trans (same_below ⟨_, rfl⟩ _))).mono ?_; rintro e w2 ⟨rfl, h2⟩; rw [HC.out]; exact ⟨rfl, _, h2.symm⟩))
        have hO : (wr.drewN nq).ownsRow (w.heap.size + 1) 2 1 (.slice (some ⟨g, 0, none⟩) l cap) l ((ints (pickL (fun i => decide (f i = m)) k)).map (Value.int .i64)) := HO.out
        have HO' := Lib.hid hO
        clear hO
        go_wp2_with (at_builtin; refine wpList_append_own _ rfl (.tmp 36) (.tmp 38) 22 rfl (w.heap.size + 1) 2 i0 (.int .i64 0) 1 8 Try.underlying22 hi hz0 hz1 hz2 rfl (by decide) _ l _ rfl (HO'.out.alloc _) ⟨wr.heap.size, 0, none⟩ 1 1 [.int .i64 k] rfl rfl (news_one _ _ (by simp)) (one_int _) (by unfold maxLen; omega) (by omega) (by simp; omega) ?_)
        intro v' w1 hown hgrow hnil
        obtain ⟨a', cap', rfl⟩ := row_slice hown
        have hbs := best_same HM.out HC.out
        obtain ⟨g', rfl⟩ : ∃ g', a' = some ⟨g', 0, none⟩ := by
          rcases hown.2 with ⟨_, h0⟩ | ⟨g', _, _, e, _⟩
          · omega
          · simp only [Value.slice.injEq, true_and] at e
            exact ⟨g', e.1⟩
        have HX1 := Lib.hid (Below.grown (((HW.out.trans (same_below ⟨nq, rfl⟩ _)).alloc (by simpa using hwsz) (.cells #[.int .i64 k] 2))) hgrow (by simp; omega) (fun k hk => by have := (World.ownsRow.lt HO'.out k hk).1; omega))
        have HO1 : Hid (w1.ownsRow (w.heap.size + 1) 2 1 (.slice (some ⟨g', 0, none⟩) (l + 1) cap') (l + 1) ((ints (pickL (fun i => decide (f i = m)) (k + 1))).map (Value.int .i64))) :=
          Lib.hid (by rw [hbs.2, ints_append, List.map_append]; exact hown)
        have HB1 : Hid (w1.heap[w.heap.size]? = some (.cells #[.int .i64 own, .int .i64 oth, .func (.func 115) #[] #[.pointer (some ⟨n, 0, none⟩)]] 73 (0, 0))) :=
          Lib.hid ((hgrow.block _ (by simp; omega) (fun e => by have := (World.ownsRow.lt HO'.out _ e.symm).1; omega)).trans ((Below.heap_alloc _ _ _ (by simp; omega)).trans HBX.out))
        have HM1 := Lib.hid hbs.1
        clear hown hgrow hnil hbs
        go_wp2_with fail
        go_roundw
        case rel => exact ⟨k + 1, g', l + 1, cap', m, by omega, by omega, by go_num, rfl, by omega, HM1, HO1, HB1, HX1⟩
        case measure => simp [intOf]; omega
      · have HC := Lib.hid hc
        obtain ⟨v, hv⟩ : ∃ v, f k = v := ⟨_, rfl⟩
        have hcv : v < m := by omega
        have HV := Lib.hid hv
        clear hc hv
        go_wp2_with fail
        go_quiet (first
          | (go_at_call_of 115 (Value.int IntKind.i64 (h : Int)); refine (HG.out h _ (by omega) (HW.out.trans (same_below ⟨_, rfl⟩ _))).mono ?_; rintro e w2 ⟨rfl, h2⟩; rw [HHM.out]; exact ⟨rfl, _, h2.symm⟩)
          | (go_at_call_of 115 (Value.int IntKind.i64 (k : Int)); refine (HG.out k _ hlt (HW.out.trans (same_below ⟨_, rfl⟩ _))).mono ?_; rintro e w2 ⟨rfl, h2⟩; rw [HV.out]; exact ⟨rfl, _, h2.symm⟩))
        go_wp2_with fail
        go_roundw
        case rel =>
          have hb := best_less HM.out HC.out
          exact ⟨k + 1, g, l, cap, m, by omega, by omega, by go_num, rfl, by omega, Lib.hid hb.1, Lib.hid (by rw [hb.2]; exact HO.out), Lib.hid HBX.out, Lib.hid (HW.out.trans (same_below ⟨nq, rfl⟩ _))⟩
        case measure => simp [intOf]; omega
    · obtain rfl : k = own := by omega
      go_wp2_with fail
      go_ret
      refine ⟨_, l, cap, rfl, ?_, HW.out⟩
      rw [bestL_most HM.out]
      exact (own_of_row HO.out (ints_big fun i hi => by have := (pickL_lt hi).1; omega)).wide (by omega) (Nat.le_refl _) (Nat.le_refl _)
end Go.Proofs.Ytnmehenkbinfmaa
