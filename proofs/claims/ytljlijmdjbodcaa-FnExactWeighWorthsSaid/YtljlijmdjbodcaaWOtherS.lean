/-
  OtherOf: the reference's loop, and its answer.
-/
import Derived.Test.YtljlijmdjbodcaaWGive
namespace Go.Proofs.Ytljlijmdjbodcaa
open Go.RowKit Go.Shelf
set_option linter.unusedVariables false

theorem wholeN_succ {P : Nat} : wholeN P + 1 = 2 ^ P := by
  have : 0 < (2 : Nat) ^ P := Nat.pow_pos (by decide)
  unfold wholeN
  omega
theorem byV_give {P : Nat} {f : Nat → Int} {a : Option Addr} {l c : Nat} : giveV (P : Int) a l c (byL P f) = if okW P (byL P f) then .tuple #[worthsV P a l c, .bool true] else .tuple #[worthsV 0 none 0 0, .bool false] := rfl

set_option maxHeartbeats 4000000 in
set_option maxRecDepth 20000 in
theorem specOther_any (p : Int) (a1 : Option Addr) (l1 c1 : Nat) (A : List Int) (w : World) (hA : IAt w a1 l1 A) :
    Calls Try.prog 53 #[worthsV p a1 l1 c1] w (OutWorths w (otherV p A)) := by
  have b0 := Lib.hid (below2 (w := w) (o := .cells #[.int .i64 p, .slice a1 l1 c1] 27) (p := .cells #[.int .i64 0, .slice none 0 0] 27))
  have HA := Lib.hid (hA.below b0.out)
  have HX : Hid (Box2 _ w.heap.size 27 (.int .i64 p) (.slice a1 l1 c1)) := Lib.hid (heap2a (w := w) (p := .cells #[.int .i64 0, .slice none 0 0] 27))
  have HR : Hid (Box2 _ (w.heap.size + 1) 27 (.int .i64 0) (.slice none 0 0)) := Lib.hid (heap2b (w := w) (o := .cells #[.int .i64 p, .slice a1 l1 c1] 27))
  have hmax := hA.2.1
  clear hA
  cases s1 : okW p A with
  | false =>
    have S1 := Lib.hid s1
    rw [otherV_no s1]
    clear s1
    go_enter Try.func53, Try.ntmps53
    go_wp2_with fail
    refine (specIsW_any w.heap.size p a1 l1 c1 A _ HX.out HA.out).mono ?_
    rintro e w1 ⟨rfl, s1⟩
    rw [S1.out]
    have b1 := same_below s1 (((w.alloc (.cells #[.int .i64 p, .slice a1 l1 c1] 27)).alloc (.cells #[.int .i64 0, .slice none 0 0] 27))).heap.size
    have B1 := Lib.hid (below_after b0.out (Nat.le_refl _) b1)
    have hr := HR.out.below b1
    have HR1 := Lib.hid hr
    obtain ⟨⟨r0, r1⟩, g0, g1⟩ := hr.all
    clear b1 hr s1
    go_wp2_with fail
    have z := (HR1.out.set0 (u := .int .i64 0)).set1 (u := .slice none 0 0)
    have zb := (B1.out.setCell (p := ⟨w.heap.size + 1, 0, none⟩) (by show w.heap.size ≤ _ + 1; omega) (.int .i64 0)).setCell (p := ⟨w.heap.size + 1, 1, none⟩) (by show w.heap.size ≤ _ + 1; omega) (.slice none 0 0)
    generalize (w1.setCell ⟨w.heap.size + 1, 0, none⟩ (.int .i64 0)).setCell ⟨w.heap.size + 1, 1, none⟩ (.slice none 0 0) = W5 at *
    have c0 := z.c0
    have c1 := z.c1
    refine bodyPost_ret (v := .tuple #[worthsV 0 none 0 0, .bool false]) (by simp [results, Try.f53, go_sem, c0, c1]) rfl ?_
    exact ⟨none, 0, 0, rfl, own_nil _ (Nat.le_refl _), zb⟩
  | true =>
    obtain ⟨P, rfl, h1, h6, hl, h0, hall⟩ := okW_true s1
    have S1 := Lib.hid s1
    rw [otherV_yes s1]
    have hl1 : l1 = 2 ^ P := by have := HA.out.1; omega
    have hl64 : l1 ≤ 64 := by have := pow_le64 h6; omega
    have hl2 : 2 ≤ l1 := by have := pow_ge2 h1; omega
    have HBIG : Hid (∀ s, -20000 ≤ otherF A P s ∧ otherF A P s ≤ 20000) := Lib.hid fun s => otherF_in hall hl s
    have HALL := Lib.hid hall
    have HAL := Lib.hid hl
    obtain ⟨b, off, rfl, hb, hc⟩ := w_at HA.out (by omega)
    have hw1 : wholeN P + 1 = l1 := by rw [hl1]; exact wholeN_succ
    have HL1 := Lib.hid hl1
    have HC := Lib.hid hc
    have HW1 := Lib.hid hw1
    obtain ⟨i0, hi, hz0, hz1, hz2⟩ := info_parts (P := Try.prog) (e := 2) (z := .int .i64 0) (size := 1) (bytes := 8) (by kernel_rfl)
    clear hl h0 hall s1 hl1 hc hw1
    go_enter Try.func53, Try.ntmps53
    go_wp2_with fail
    refine (specIsW_any w.heap.size P _ l1 c1 A _ HX.out HA.out).mono ?_
    rintro e w1 ⟨rfl, s1⟩
    rw [S1.out]
    have b1 := same_below s1 (((w.alloc (.cells #[.int .i64 (P : Nat), .slice (some ⟨b, off, none⟩) l1 c1] 27)).alloc (.cells #[.int .i64 0, .slice none 0 0] 27))).heap.size
    have B1 := Lib.hid (below_after b0.out (Nat.le_refl _) b1)
    have hx := HX.out.below b1
    have HX1 := Lib.hid hx
    have HR1 := Lib.hid (HR.out.below b1)
    have HC1 : Hid (∀ i, i < l1 → w1.cell? ⟨b, off + i, none⟩ = some (.int .i64 (A.getD i 0))) := Lib.hid fun i hi => (b1.cell (p := ⟨b, off + i, none⟩) hb).trans (HC.out i hi)
    have hs1 : w.heap.size + 2 ≤ w1.heap.size := by have := b1.size; simp at this; omega
    have hb1 : b < w1.heap.size := by have := b1.size; omega
    obtain ⟨⟨x0, x1⟩, _⟩ := hx.all
    clear b1 hx s1 HC HX HR HA b0 hb
    have BD := Lib.hid (below1 (w := w1) (o := .cells #[.int .i64 (P : Nat), .slice none 0 0] 27))
    have y1 := (HX1.out.below BD.out).c1
    go_wp2_with fail
    clear y1
    have HT : Hid (Box2 _ w1.heap.size 27 (.int .i64 (P : Nat)) (.slice none 0 0)) := Lib.hid (heap1 (w := w1))
    have hzd : (w1.alloc (.cells #[.int .i64 (P : Nat), .slice none 0 0] 27)).heap.size = w1.heap.size + 1 := by simp
    generalize w1.alloc (.cells #[.int .i64 (P : Nat), .slice none 0 0] 27) = W0 at *
    obtain ⟨no, hno⟩ : ∃ no, w1.heap.size = no := ⟨_, rfl⟩
    have HNO := Lib.hid hno
    have HXW := Lib.hid (HX1.out.below BD.out)
    have HCW : Hid (∀ i, i < l1 → W0.cell? ⟨b, off + i, none⟩ = some (.int .i64 (A.getD i 0))) := Lib.hid fun i hi => (BD.out.cell (p := ⟨b, off + i, none⟩) hb1).trans (HC1.out i hi)
    simp only [hno] at HT hzd hb1 hs1 ⊢
    clear hno x0 x1
    go_loopw [19] (fun q wr => ∃ (k : Nat) (a : Option Addr) (cap : Nat), k ≤ l1 ∧ q = .int .i64 k ∧ Hid (Box2 wr no 27 (.int .i64 (P : Nat)) (.slice a k cap)) ∧
        Hid (wr.ownsRow (no + 1) 2 1 (.slice a k cap) k (((List.range k).map (otherF A P)).map (Value.int .i64))) ∧ Hid (KpX (fun k => k = no) (no + 1) W0 wr)) (fun q _ => l1 - (intOf q).toNat)
    case atStart => exact ⟨0, none, 0, Nat.zero_le _, rfl, HT, Lib.hid (World.ownsRow_nil _ _ _ _), Lib.hid KpX.refl⟩
    case round =>
      obtain ⟨k, a, cap, hk, rfl, HB, HO, HK⟩ := hrel
      have hsz := HK.out.size
      by_cases hlt : k < l1
      · obtain ⟨d, hd⟩ : ∃ d, l1 = d + k + 1 := ⟨l1 - k - 1, by omega⟩
        have hv : otherF A P k = A.getD (d + k) 0 - A.getD d 0 := by
          unfold otherF
          rw [show wholeN P = d + k by have := HW1.out; omega, show d + k - k = d by omega]
        have HV := Lib.hid hv
        have hvb := HBIG.out k
        have hub := okAll_at HALL.out (i := d + k) (by have := HAL.out; have := HL1.out; omega)
        have hvb2 := okAll_at HALL.out (i := d) (by have := HAL.out; have := HL1.out; omega)
        have HXR := HXW.out
        have hxr : Box2 wr w.heap.size 27 (.int .i64 (P : Nat)) (.slice (some ⟨b, off, none⟩) l1 c1) := (HK.out.block _ (by omega) (by omega)).trans HXR
        have p1 := fun y : ExtW wr => (hxr.below y.ext).c1
        have q1 := fun y : ExtW wr => (HB.out.below y.ext).c1
        have hca := HK.out.cell (i := off + (d + k)) (by omega) (by omega) (HCW.out (d + k) (by omega))
        have hcb := HK.out.cell (i := off + d) (by omega) (by omega) (HCW.out d (by omega))
        have r1 := fun y : ExtW wr => (y.ext.cell (p := ⟨b, off + (d + k), none⟩) (by show b < _; omega)).trans hca
        have r2 := fun y : ExtW wr => (y.ext.cell (p := ⟨b, off + d, none⟩) (by show b < _; omega)).trans hcb
        generalize A.getD (d + k) 0 = u at *
        generalize A.getD d 0 = v at *
        rw [hv] at hvb
        have e1 : (l1 : Int) - 1 = ((d + k : Nat) : Int) := by omega
        have e2 : ((d + k : Nat) : Int) - (k : Int) = (d : Int) := by omega
        have hdk : d + k < l1 := by omega
        have hdl : d < l1 := by omega
        have hl1m : 1 ≤ (l1 : Int) := by omega
        clear hd hxr HXR hca hcb hv
        go_wp2_with fail
        refine region_move_wp (C := fun w' => ∃ y : ExtW wr, w' = y.val) 17 1 (by kernel_rfl) (by kernel_rfl) ⟨⟨wr.drew, Below.drew (Below.refl _ _)⟩, rfl⟩ ?_
        simp only [List.take_succ_cons, List.take_zero, List.drop_succ_cons, List.drop_zero]
        repeat (go_big_quiet_step (fail))
        refine wpQuiet_nil ?_
        intro _ hw'
        obtain ⟨y, hy⟩ := hw'
        subst hy
        simp only [seqC, stepIn]
        clear r1 r2
        gi_wp2_with fail
        have hys := y.ext.size
        have hBa := y.ext.alloc hys (.cells #[.int .i64 (u - v)] 2)
        refine ⟨⟨⟨_, hBa⟩, rfl⟩, ?_⟩
        have HO2 := Lib.hid (ownsRow_block HO.out fun k hk => y.ext.block k (HO.out.lt k hk).2)
        refine wpListIn_append_own _ rfl (.tmp 23) (.tmp 39) 22 rfl (no + 1) 2 i0 (.int .i64 0) 1 8 Try.underlying22 hi hz0 hz1 hz2 rfl (by decide) _ k _ rfl (HO2.out.alloc _) ⟨y.val.heap.size, 0, none⟩ 1 1 [.int .i64 (u - v)] rfl rfl (news_one _ _ (by simp)) (one_int _) (by unfold maxLen; omega) (by omega) (by simp; omega) ?_
        intro v' w4 hown hgrow _
        obtain ⟨a', cap', rfl⟩ := row_slice hown
        have hB4 : Below (no + 1) wr w4 := Below.grown (hBa.mono (by omega)) hgrow (by simp; omega) (fun k hk => (World.ownsRow.lt HO2.out k hk).1)
        have hX1 : Box2 w4 no 27 (.int .i64 (P : Nat)) (.slice a k cap) := (hB4.block no (by omega)).trans HB.out
        have HX1 := Lib.hid hX1
        have cc1 := hX1.c1
        have f1 := hX1.free 1
        have HB4 := Lib.hid hB4
        have HOW := Lib.hid hown
        clear hX1 hB4 hBa hown hgrow
        gi_wp2_with fail
        have hsn : (List.range (k + 1)).map (otherF A P) = (List.range k).map (otherF A P) ++ [u - v] := by rw [List.range_succ, List.map_append, List.map_singleton, HV.out]
        have HB5 : Hid (Box2 (w4.setCell ⟨no, 1, none⟩ (.slice a' (k + 1) cap')) no 27 (.int .i64 (P : Nat)) (.slice a' (k + 1) cap')) := Lib.hid (Box2.set1 HX1.out)
        have HO5 : Hid ((w4.setCell ⟨no, 1, none⟩ (.slice a' (k + 1) cap')).ownsRow (no + 1) 2 1 (.slice a' (k + 1) cap') (k + 1) (((List.range (k + 1)).map (otherF A P)).map (Value.int .i64))) := Lib.hid (by
          rw [hsn, List.map_append]
          refine ownsRow_block HOW.out fun k hk => Below.heap_setCell _ _ _ _ ?_
          have := (HOW.out.lt k hk).1
          show k ≠ no
          omega)
        have HK5 : Hid (KpX (fun k => k = no) (no + 1) W0 (w4.setCell ⟨no, 1, none⟩ (.slice a' (k + 1) cap'))) := Lib.hid (HK.out.trans ((KpX.of_below HB4.out).trans (KpX.set (.inl rfl))))
        generalize w4.setCell ⟨no, 1, none⟩ (.slice a' (k + 1) cap') = W5 at *
        clear cc1 f1 p1 q1 hys
        go_wp2_with fail
        go_roundw
        case rel => exact ⟨k + 1, a', cap', by omega, by go_num, HB5, HO5, HK5⟩
        case measure => simp [intOf]; omega
      · obtain rfl : k = l1 := by omega
        obtain ⟨⟨q0, q1⟩, _⟩ := HB.out.all
        have hrow := own_of_row (zs := byL P (otherF A P)) (by rw [byL_eq, ← HL1.out]; exact HO.out) (by
          intro z hz
          rw [byL_eq] at hz
          obtain ⟨i, -, rfl⟩ := List.mem_map.1 hz
          have := HBIG.out i
          exact ⟨by omega, by omega⟩)
        have HIA := Lib.hid hrow.iat
        have HOW := Lib.hid hrow
        clear hrow
        have hN := HNO.out
        have hBW : Below w.heap.size w wr := (B1.out.trans (BD.out.mono (by omega))).trans (HK.out.below (n := w.heap.size) (by omega) (fun k hk => by omega))
        have HBW := Lib.hid hBW
        have hRW : Box2 wr (w.heap.size + 1) 27 (.int .i64 0) (.slice none 0 0) := (HK.out.block _ (by omega) (by omega)).trans (HR1.out.below BD.out)
        have HRW := Lib.hid hRW
        clear hN hBW hRW
        go_wp2_with fail
        refine (give_any P a k cap (byL P (otherF A P)) wr HIA.out).mono ?_
        rintro e w4 ⟨rfl, b4⟩
        have hB4 := HBW.out.trans (b4.mono HBW.out.size)
        have HB4 := Lib.hid hB4
        have HO4 := Lib.hid (HOW.out.below b4)
        have hr := HRW.out.below b4
        have HR4 := Lib.hid hr
        obtain ⟨⟨r0, r1⟩, g0, g1⟩ := hr.all
        have hs4 := b4.size
        clear hB4 hr b4 q0 q1
        cases hok : okW (P : Nat) (byL P (otherF A P)) with
        | false =>
          have E : Hid (byV P (otherF A P) = (0, [], false)) := Lib.hid (by unfold byV; rw [hok]; rfl)
          rw [giveV_no hok]
          clear hok
          go_wp2_with fail
          have z := (HR4.out.set0 (u := .int .i64 0)).set1 (u := .slice none 0 0)
          have zb := (HB4.out.setCell (p := ⟨w.heap.size + 1, 0, none⟩) (by show w.heap.size ≤ _ + 1; omega) (.int .i64 0)).setCell (p := ⟨w.heap.size + 1, 1, none⟩) (by show w.heap.size ≤ _ + 1; omega) (.slice none 0 0)
          generalize (w4.setCell ⟨w.heap.size + 1, 0, none⟩ (.int .i64 0)).setCell ⟨w.heap.size + 1, 1, none⟩ (.slice none 0 0) = W5 at *
          have c0 := z.c0
          have cc1 := z.c1
          refine bodyPost_ret (v := .tuple #[worthsV 0 none 0 0, .bool false]) (by simp [results, Try.f53, go_sem, c0, cc1]) rfl ?_
          rw [E.out]
          exact ⟨none, 0, 0, rfl, own_nil _ (Nat.le_refl _), zb⟩
        | true =>
          have E : Hid (byV P (otherF A P) = ((P : Int), byL P (otherF A P), true)) := Lib.hid (by unfold byV; rw [hok]; rfl)
          rw [giveV_yes hok]
          clear hok
          go_wp2_with fail
          have z := (HR4.out.set0 (u := .int .i64 (P : Nat))).set1 (u := .slice a k cap)
          have zb := (HB4.out.setCell (p := ⟨w.heap.size + 1, 0, none⟩) (by show w.heap.size ≤ _ + 1; omega) (.int .i64 (P : Nat))).setCell (p := ⟨w.heap.size + 1, 1, none⟩) (by show w.heap.size ≤ _ + 1; omega) (.slice a k cap)
          have zo := (HO4.out.far (n := w.heap.size + 1) (i := 0) (u := .int .i64 (P : Nat)) (by omega)).far (n := w.heap.size + 1) (i := 1) (u := .slice a k cap) (by omega)
          have zs : ((w4.setCell ⟨w.heap.size + 1, 0, none⟩ (.int .i64 (P : Nat))).setCell ⟨w.heap.size + 1, 1, none⟩ (.slice a k cap)).heap.size = w4.heap.size := by simp [World.setCell]
          generalize (w4.setCell ⟨w.heap.size + 1, 0, none⟩ (.int .i64 (P : Nat))).setCell ⟨w.heap.size + 1, 1, none⟩ (.slice a k cap) = W5 at *
          have c0 := z.c0
          have cc1 := z.c1
          refine bodyPost_ret (v := .tuple #[worthsV (P : Nat) a k cap, .bool true]) (by simp [results, Try.f53, go_sem, c0, cc1]) rfl ?_
          rw [E.out]
          exact ⟨a, k, cap, rfl, zo.wide (by omega) (by omega) (Nat.le_refl _), zb⟩
end Go.Proofs.Ytljlijmdjbodcaa
