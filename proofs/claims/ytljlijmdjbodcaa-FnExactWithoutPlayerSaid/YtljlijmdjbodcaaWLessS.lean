/-
  WithoutPlayer: the reference's loop, and its answer.
-/
import Derived.Test.YtljlijmdjbodcaaWOtherS
import Derived.Test.YtljlijmdjbodcaaWLess
import Derived.Test.YtljlijmdjbodcaaSpecIn
namespace Go.Proofs.Ytljlijmdjbodcaa
open Go.RowKit Go.Shelf
set_option linter.unusedVariables false

/-- the worths of the sets below k that have not player q -/
def selL (A : List Int) (q k : Nat) : List Int := ((List.range k).filter fun s => !s.testBit q).map fun s => A.getD s 0
theorem selL_has {A : List Int} {q k : Nat} (h : k.testBit q = true) : selL A q (k + 1) = selL A q k := by
  unfold selL
  rw [List.range_succ, List.filter_append, List.map_append]
  simp [h]
theorem selL_not {A : List Int} {q k : Nat} (h : k.testBit q = false) : selL A q (k + 1) = selL A q k ++ [A.getD k 0] := by
  unfold selL
  rw [List.range_succ, List.filter_append, List.map_append]
  simp [h]
theorem selL_all {A : List Int} {P q : Nat} (hP : P ≤ 6) (hq : q < P) : selL A q (2 ^ P) = byL (P - 1) (lessF A q) := by
  unfold selL
  rw [ins_all hP hq, byL_eq, List.map_map]
  rfl
theorem selL_big {A : List Int} {q k : Nat} (h : okAll (-10000) 10000 A = true) (hk : k ≤ A.length) : ∀ z ∈ selL A q k, Big z := by
  intro z hz
  obtain ⟨s, hs, rfl⟩ := List.mem_map.1 hz
  have h1 := List.mem_range.1 (List.mem_filter.1 hs).1
  have := okAll_at h (i := s) (by omega)
  exact ⟨by omega, by omega⟩

set_option maxHeartbeats 4000000 in
set_option maxRecDepth 20000 in
theorem specWithout_any (p : Int) (a1 : Option Addr) (l1 c1 : Nat) (A : List Int) (q : Int) (w : World) (hA : IAt w a1 l1 A) (hqb : Big q) :
    Calls Try.prog 55 #[worthsV p a1 l1 c1, .int .i64 q] w (OutWorths w (withoutV p A q)) := by
  have b0 := Lib.hid (below2 (w := w) (o := .cells #[.int .i64 p, .slice a1 l1 c1] 27) (p := .cells #[.int .i64 0, .slice none 0 0] 27))
  have HA := Lib.hid (hA.below b0.out)
  have HX : Hid (Box2 _ w.heap.size 27 (.int .i64 p) (.slice a1 l1 c1)) := Lib.hid (heap2a (w := w) (p := .cells #[.int .i64 0, .slice none 0 0] 27))
  have HR : Hid (Box2 _ (w.heap.size + 1) 27 (.int .i64 0) (.slice none 0 0)) := Lib.hid (heap2b (w := w) (o := .cells #[.int .i64 p, .slice a1 l1 c1] 27))
  have hmax := hA.2.1
  clear hA
  cases s1 : okW p A with
  | false =>
    have S1 := Lib.hid s1
    rw [withoutV_no s1]
    clear s1
    go_enter Try.func55, Try.ntmps55
    go_wp2_with fail
    refine (specIsW_any w.heap.size p a1 l1 c1 A _ HX.out HA.out).mono ?_
    rintro e w1 ⟨rfl, s1⟩
    rw [S1.out]
    have b1 := same_below s1 (((w.alloc (.cells #[.int .i64 p, .slice a1 l1 c1] 27)).alloc (.cells #[.int .i64 0, .slice none 0 0] 27))).heap.size
    have B1 := Lib.hid (below_after b0.out (Nat.le_refl _) b1)
    have hr := HR.out.below b1
    have HR1 := Lib.hid hr
    obtain ⟨⟨r0, r1⟩, g0, g1⟩ := hr.all
    obtain ⟨⟨x0, x1⟩, _⟩ := (HX.out.below b1).all
    clear b1 hr s1
    go_wp2_with fail
    have z := (HR1.out.set0 (u := .int .i64 0)).set1 (u := .slice none 0 0)
    have zb := (B1.out.setCell (p := ⟨w.heap.size + 1, 0, none⟩) (by show w.heap.size ≤ _ + 1; omega) (.int .i64 0)).setCell (p := ⟨w.heap.size + 1, 1, none⟩) (by show w.heap.size ≤ _ + 1; omega) (.slice none 0 0)
    generalize (w1.setCell ⟨w.heap.size + 1, 0, none⟩ (.int .i64 0)).setCell ⟨w.heap.size + 1, 1, none⟩ (.slice none 0 0) = W5 at *
    have c0 := z.c0
    have c1 := z.c1
    refine bodyPost_ret (v := .tuple #[worthsV 0 none 0 0, .bool false]) (by simp [results, Try.f55, go_sem, c0, c1]) rfl ?_
    exact ⟨none, 0, 0, rfl, own_nil _ (Nat.le_refl _), zb⟩
  | true =>
    obtain ⟨P, rfl, h1, h6, hl, h0, hall⟩ := okW_true s1
    have S1 := Lib.hid s1
    cases s2 : inB 0 ((P : Int) - 1) q with
    | false =>
      have S2 := Lib.hid s2
      rw [withoutV_out s1 s2]
      clear s1 s2 hl h0 hall
      go_enter Try.func55, Try.ntmps55
      go_wp2_with fail
      refine (specIsW_any w.heap.size P a1 l1 c1 A _ HX.out HA.out).mono ?_
      rintro e w1 ⟨rfl, s1⟩
      rw [S1.out]
      have b1 := same_below s1 (((w.alloc (.cells #[.int .i64 P, .slice a1 l1 c1] 27)).alloc (.cells #[.int .i64 0, .slice none 0 0] 27))).heap.size
      have B1 := Lib.hid (below_after b0.out (Nat.le_refl _) b1)
      have hr := HR.out.below b1
      have HR1 := Lib.hid hr
      obtain ⟨⟨r0, r1⟩, g0, g1⟩ := hr.all
      obtain ⟨⟨x0, x1⟩, _⟩ := (HX.out.below b1).all
      clear b1 hr s1
      go_wp2_with (go_at_call 64; refine (inR_any _ _ _ _).mono ?_; rintro e w2 ⟨rfl, rfl⟩; rw [S2.out])
      have z := (HR1.out.set0 (u := .int .i64 0)).set1 (u := .slice none 0 0)
      have zb := (B1.out.setCell (p := ⟨w.heap.size + 1, 0, none⟩) (by show w.heap.size ≤ _ + 1; omega) (.int .i64 0)).setCell (p := ⟨w.heap.size + 1, 1, none⟩) (by show w.heap.size ≤ _ + 1; omega) (.slice none 0 0)
      generalize (w1.setCell ⟨w.heap.size + 1, 0, none⟩ (.int .i64 0)).setCell ⟨w.heap.size + 1, 1, none⟩ (.slice none 0 0) = W5 at *
      have c0 := z.c0
      have c1 := z.c1
      refine bodyPost_ret (v := .tuple #[worthsV 0 none 0 0, .bool false]) (by simp [results, Try.f55, go_sem, c0, c1]) rfl ?_
      exact ⟨none, 0, 0, rfl, own_nil _ (Nat.le_refl _), zb⟩
    | true =>
      have S2 := Lib.hid s2
      rw [withoutV_yes s1 s2]
      obtain ⟨q1, q2⟩ := inB_true.1 s2
      obtain ⟨Q, rfl⟩ : ∃ Q : Nat, q = Q := ⟨q.toNat, by omega⟩
      rw [show (Q : Int).toNat = Q from rfl]
      have hQ : Q < P := by omega
      by_cases hP2 : P < 2
      · rw [show inB 1 6 ((P : Int) - 1) = false from inB_false.2 (by omega), if_neg (by decide)]
        clear s1 s2 hl h0 hall
        go_enter Try.func55, Try.ntmps55
        go_wp2_with fail
        refine (specIsW_any w.heap.size P a1 l1 c1 A _ HX.out HA.out).mono ?_
        rintro e w1 ⟨rfl, s1⟩
        rw [S1.out]
        have b1 := same_below s1 (((w.alloc (.cells #[.int .i64 P, .slice a1 l1 c1] 27)).alloc (.cells #[.int .i64 0, .slice none 0 0] 27))).heap.size
        have B1 := Lib.hid (below_after b0.out (Nat.le_refl _) b1)
        have hr := HR.out.below b1
        have HR1 := Lib.hid hr
        obtain ⟨⟨r0, r1⟩, g0, g1⟩ := hr.all
        obtain ⟨⟨x0, x1⟩, _⟩ := (HX.out.below b1).all
        clear b1 hr s1
        go_wp2_with (go_at_call 64; refine (inR_any _ _ _ _).mono ?_; rintro e w2 ⟨rfl, rfl⟩; rw [S2.out])
        have z := (HR1.out.set0 (u := .int .i64 0)).set1 (u := .slice none 0 0)
        have zb := (B1.out.setCell (p := ⟨w.heap.size + 1, 0, none⟩) (by show w.heap.size ≤ _ + 1; omega) (.int .i64 0)).setCell (p := ⟨w.heap.size + 1, 1, none⟩) (by show w.heap.size ≤ _ + 1; omega) (.slice none 0 0)
        generalize (w1.setCell ⟨w.heap.size + 1, 0, none⟩ (.int .i64 0)).setCell ⟨w.heap.size + 1, 1, none⟩ (.slice none 0 0) = W5 at *
        have c0 := z.c0
        have c1 := z.c1
        refine bodyPost_ret (v := .tuple #[worthsV 0 none 0 0, .bool false]) (by simp [results, Try.f55, go_sem, c0, c1]) rfl ?_
        exact ⟨none, 0, 0, rfl, own_nil _ (Nat.le_refl _), zb⟩
      · have hin : inB 1 6 ((P : Int) - 1) = true := inB_true.2 ⟨by omega, by omega⟩
        rw [hin, if_pos rfl, show ((P : Int) - 1).toNat = P - 1 by omega]
        have hl1 : l1 = 2 ^ P := by have := HA.out.1; omega
        have hl64 : l1 ≤ 64 := by have := pow_le64 h6; omega
        have hl2 : 2 ≤ l1 := by have := pow_ge2 h1; omega
        have HALL := Lib.hid hall
        have HAL := Lib.hid hl
        obtain ⟨b, off, rfl, hb, hc⟩ := w_at HA.out (by omega)
        have HL1 := Lib.hid hl1
        have HC := Lib.hid hc
        have hmax := HA.out.2.1
        unfold maxLen at hmax
        obtain ⟨i0, hi, hz0, hz1, hz2⟩ := info_parts (P := Try.prog) (e := 2) (z := .int .i64 0) (size := 1) (bytes := 8) (by kernel_rfl)
        clear hl h0 hall s1 s2 hl1 hc hin
        go_enter Try.func55, Try.ntmps55
        go_wp2_with fail
        refine (specIsW_any w.heap.size P _ l1 c1 A _ HX.out HA.out).mono ?_
        rintro e w1 ⟨rfl, s1⟩
        rw [S1.out]
        have b1 := same_below s1 (((w.alloc (.cells #[.int .i64 (P : Nat), .slice (some ⟨b, off, none⟩) l1 c1] 27)).alloc (.cells #[.int .i64 0, .slice none 0 0] 27))).heap.size
        have B1 := Lib.hid (below_after b0.out (Nat.le_refl _) b1)
        have hx := HX.out.below b1
        have HX1 := Lib.hid hx
        have HR1 := Lib.hid (HR.out.below b1)
        have HC1 : Hid (∀ i, i < l1 → w1.cell? ⟨b, off + i, none⟩ = some (.int .i64 (A.getD i 0))) := Lib.hid fun i hi => (b1.cell (p := ⟨b, off + i, none⟩) hb).trans (HC.out i hi)
        have hs1 : w.heap.size + 2 ≤ w1.heap.size := by have := b1.size; simp at this; omega
        have hb1 : b < w1.heap.size := by have := b1.size; omega
        obtain ⟨⟨x0, x1⟩, _⟩ := hx.all
        have BD := Lib.hid (below1 (w := w1) (o := .cells #[.int .i64 ((P : Int) - 1), .slice none 0 0] 27))
        have y1 := (HX1.out.below BD.out).c1
        clear b1 hx s1 HC HX HR HA b0 hb
        go_wp2_with (go_at_call 64; refine (inR_any _ _ _ _).mono ?_; rintro e w2 ⟨rfl, rfl⟩; rw [S2.out])
        clear y1
        have HT : Hid (Box2 _ w1.heap.size 27 (.int .i64 ((P : Int) - 1)) (.slice none 0 0)) := Lib.hid (heap1 (w := w1))
        have hzd : (w1.alloc (.cells #[.int .i64 ((P : Int) - 1), .slice none 0 0] 27)).heap.size = w1.heap.size + 1 := by simp
        generalize w1.alloc (.cells #[.int .i64 ((P : Int) - 1), .slice none 0 0] 27) = W0 at *
        obtain ⟨no, hno⟩ : ∃ no, w1.heap.size = no := ⟨_, rfl⟩
        have HNO := Lib.hid hno
        have HXW := Lib.hid (HX1.out.below BD.out)
        have HCW : Hid (∀ i, i < l1 → W0.cell? ⟨b, off + i, none⟩ = some (.int .i64 (A.getD i 0))) := Lib.hid fun i hi => (BD.out.cell (p := ⟨b, off + i, none⟩) hb1).trans (HC1.out i hi)
        simp only [hno] at HT hzd hb1 hs1 ⊢
        clear hno x0 x1
        go_loopw [31] (fun qq wr => ∃ (k m : Nat) (a : Option Addr) (cap : Nat), k ≤ l1 ∧ qq = .int .i64 k ∧ m ≤ k ∧ Hid (Box2 wr no 27 (.int .i64 ((P : Int) - 1)) (.slice a m cap)) ∧
            Hid (wr.ownsRow (no + 1) 2 1 (.slice a m cap) m ((selL A Q k).map (Value.int .i64))) ∧ Hid (KpX (fun k => k = no) (no + 1) W0 wr)) (fun qq _ => l1 - (intOf qq).toNat)
        case atStart => exact ⟨0, 0, none, 0, Nat.zero_le _, rfl, Nat.zero_le _, HT, Lib.hid (World.ownsRow_nil _ _ _ _), Lib.hid KpX.refl⟩
        case round =>
          obtain ⟨k, m, a, cap, hk, rfl, hm, HB, HO, HK⟩ := hrel
          have hsz := HK.out.size
          by_cases hlt : k < l1
          · cases hbit : k.testBit Q with
            | true =>
              have TB := Lib.hid hbit
              have HO5 : Hid (wr.ownsRow (no + 1) 2 1 (.slice a m cap) m ((selL A Q (k + 1)).map (Value.int .i64))) := Lib.hid (by rw [selL_has hbit]; exact HO.out)
              clear hbit
              go_wp2_with (go_at_call 68; refine (specIn_any k Q (by omega) (by omega) _).mono ?_; rintro e w2 ⟨rfl, rfl⟩; rw [TB.out])
              go_roundw
              case rel => exact ⟨k + 1, m, a, cap, by omega, by go_num, by omega, HB, HO5, HK⟩
              case measure => simp [intOf]; omega
            | false =>
              have TB := Lib.hid hbit
              have hsn := selL_not (A := A) hbit
              have HSN := Lib.hid hsn
              have hub := okAll_at HALL.out (i := k) (by have := HAL.out; have := HL1.out; omega)
              have HXR := HXW.out
              have hxr : Box2 wr w.heap.size 27 (.int .i64 (P : Nat)) (.slice (some ⟨b, off, none⟩) l1 c1) := (HK.out.block _ (by omega) (by omega)).trans HXR
              have p1 := fun y : ExtW wr => (hxr.below y.ext).c1
              have p2 := fun y : ExtW wr => (HB.out.below y.ext).c1
              have hca := HK.out.cell (i := off + k) (by omega) (by omega) (HCW.out k hlt)
              have r1 := fun y : ExtW wr => (y.ext.cell (p := ⟨b, off + k, none⟩) (by show b < _; omega)).trans hca
              generalize A.getD k 0 = u at *
              clear hxr HXR hca hbit hsn
              go_wp2_with (go_at_call 68; refine (specIn_any k Q (by omega) (by omega) _).mono ?_; rintro e w2 ⟨rfl, rfl⟩; rw [TB.out])
              refine region_move_wp (C := fun w' => ∃ y : ExtW wr, w' = y.val) 7 1 (by kernel_rfl) (by kernel_rfl) ⟨⟨wr.drew, Below.drew (Below.refl _ _)⟩, rfl⟩ ?_
              simp only [List.take_succ_cons, List.take_zero, List.drop_succ_cons, List.drop_zero]
              repeat (go_big_quiet_step (fail))
              refine wpQuiet_nil ?_
              intro _ hw'
              obtain ⟨y, hy⟩ := hw'
              subst hy
              simp only [seqC, stepIn]
              clear r1
              gi_wp2_with fail
              have hys := y.ext.size
              have hBa := y.ext.alloc hys (.cells #[.int .i64 u] 2)
              refine ⟨⟨⟨_, hBa⟩, rfl⟩, ?_⟩
              have HO2 := Lib.hid (ownsRow_block HO.out fun k hk => y.ext.block k (HO.out.lt k hk).2)
              refine wpListIn_append_own _ rfl (.tmp 39) (.tmp 45) 22 rfl (no + 1) 2 i0 (.int .i64 0) 1 8 Try.underlying22 hi hz0 hz1 hz2 rfl (by decide) _ m _ rfl (HO2.out.alloc _) ⟨y.val.heap.size, 0, none⟩ 1 1 [.int .i64 u] rfl rfl (news_one _ _ (by simp)) (one_int _) (by unfold maxLen; omega) (by omega) (by simp; omega) ?_
              intro v' w4 hown hgrow _
              obtain ⟨a', cap', rfl⟩ := row_slice hown
              have hB4 : Below (no + 1) wr w4 := Below.grown (hBa.mono (by omega)) hgrow (by simp; omega) (fun k hk => (World.ownsRow.lt HO2.out k hk).1)
              have hX1 : Box2 w4 no 27 (.int .i64 ((P : Int) - 1)) (.slice a m cap) := (hB4.block no (by omega)).trans HB.out
              have HX1 := Lib.hid hX1
              have cc1 := hX1.c1
              have f1 := hX1.free 1
              have HB4 := Lib.hid hB4
              have HOW := Lib.hid hown
              clear hX1 hB4 hBa hown hgrow
              gi_wp2_with fail
              have HB5 : Hid (Box2 (w4.setCell ⟨no, 1, none⟩ (.slice a' (m + 1) cap')) no 27 (.int .i64 ((P : Int) - 1)) (.slice a' (m + 1) cap')) := Lib.hid (Box2.set1 HX1.out)
              have HO5 : Hid ((w4.setCell ⟨no, 1, none⟩ (.slice a' (m + 1) cap')).ownsRow (no + 1) 2 1 (.slice a' (m + 1) cap') (m + 1) ((selL A Q (k + 1)).map (Value.int .i64))) := Lib.hid (by
                rw [HSN.out, List.map_append]
                refine ownsRow_block HOW.out fun k hk => Below.heap_setCell _ _ _ _ ?_
                have := (HOW.out.lt k hk).1
                show k ≠ no
                omega)
              have HK5 : Hid (KpX (fun k => k = no) (no + 1) W0 (w4.setCell ⟨no, 1, none⟩ (.slice a' (m + 1) cap'))) := Lib.hid (HK.out.trans ((KpX.of_below HB4.out).trans (KpX.set (.inl rfl))))
              generalize w4.setCell ⟨no, 1, none⟩ (.slice a' (m + 1) cap') = W5 at *
              clear cc1 f1 p1 p2 hys
              go_wp2_with fail
              go_roundw
              case rel => exact ⟨k + 1, m + 1, a', cap', by omega, by go_num, by omega, HB5, HO5, HK5⟩
              case measure => simp [intOf]; omega
          · obtain rfl : k = l1 := by omega
            obtain ⟨⟨q0, q1⟩, _⟩ := HB.out.all
            have hrow := own_of_row (zs := byL (P - 1) (lessF A Q)) (by rw [← selL_all h6 hQ, ← HL1.out]; exact HO.out) (by
              rw [← selL_all h6 hQ]
              exact selL_big HALL.out (Nat.le_of_eq HAL.out.symm))
            have HIA := Lib.hid hrow.iat
            have HOW := Lib.hid hrow
            clear hrow
            have hN := HNO.out
            have hBW : Below w.heap.size w wr := (B1.out.trans (BD.out.mono (by omega))).trans (HK.out.below (n := w.heap.size) (by omega) (fun k hk => by omega))
            have HBW := Lib.hid hBW
            have hRW : Box2 wr (w.heap.size + 1) 27 (.int .i64 0) (.slice none 0 0) := (HK.out.block _ (by omega) (by omega)).trans (HR1.out.below BD.out)
            have HRW := Lib.hid hRW
            clear hN hBW hRW
            go_wp2_with fail
            refine (give_any ((P : Int) - 1) a m cap (byL (P - 1) (lessF A Q)) wr HIA.out).mono ?_
            rintro e w4 ⟨rfl, b4⟩
            have hB4 := HBW.out.trans (b4.mono HBW.out.size)
            have HB4 := Lib.hid hB4
            have HO4 := Lib.hid (HOW.out.below b4)
            have hr := HRW.out.below b4
            have HR4 := Lib.hid hr
            obtain ⟨⟨r0, r1⟩, g0, g1⟩ := hr.all
            have hs4 := b4.size
            have hPR : ((P - 1 : Nat) : Int) = (P : Int) - 1 := by omega
            have E0 : Hid (byV (P - 1) (lessF A Q) = if okW ((P : Int) - 1) (byL (P - 1) (lessF A Q)) then ((P : Int) - 1, byL (P - 1) (lessF A Q), true) else (0, [], false)) := Lib.hid (by unfold byV; rw [hPR])
            clear hB4 hr b4 q0 q1 hPR
            cases hok : okW ((P : Int) - 1) (byL (P - 1) (lessF A Q)) with
            | false =>
              have E : Hid (byV (P - 1) (lessF A Q) = (0, [], false)) := Lib.hid (by rw [E0.out, hok]; rfl)
              rw [giveV_no hok]
              clear hok
              go_wp2_with fail
              have z := (HR4.out.set0 (u := .int .i64 0)).set1 (u := .slice none 0 0)
              have zb := (HB4.out.setCell (p := ⟨w.heap.size + 1, 0, none⟩) (by show w.heap.size ≤ _ + 1; omega) (.int .i64 0)).setCell (p := ⟨w.heap.size + 1, 1, none⟩) (by show w.heap.size ≤ _ + 1; omega) (.slice none 0 0)
              generalize (w4.setCell ⟨w.heap.size + 1, 0, none⟩ (.int .i64 0)).setCell ⟨w.heap.size + 1, 1, none⟩ (.slice none 0 0) = W5 at *
              have c0 := z.c0
              have cc1 := z.c1
              refine bodyPost_ret (v := .tuple #[worthsV 0 none 0 0, .bool false]) (by simp [results, Try.f55, go_sem, c0, cc1]) rfl ?_
              rw [E.out]
              exact ⟨none, 0, 0, rfl, own_nil _ (Nat.le_refl _), zb⟩
            | true =>
              have E : Hid (byV (P - 1) (lessF A Q) = ((P : Int) - 1, byL (P - 1) (lessF A Q), true)) := Lib.hid (by rw [E0.out, hok]; rfl)
              rw [giveV_yes hok]
              clear hok
              go_wp2_with fail
              have z := (HR4.out.set0 (u := .int .i64 ((P : Int) - 1))).set1 (u := .slice a m cap)
              have zb := (HB4.out.setCell (p := ⟨w.heap.size + 1, 0, none⟩) (by show w.heap.size ≤ _ + 1; omega) (.int .i64 ((P : Int) - 1))).setCell (p := ⟨w.heap.size + 1, 1, none⟩) (by show w.heap.size ≤ _ + 1; omega) (.slice a m cap)
              have zo := (HO4.out.far (n := w.heap.size + 1) (i := 0) (u := .int .i64 ((P : Int) - 1)) (by omega)).far (n := w.heap.size + 1) (i := 1) (u := .slice a m cap) (by omega)
              have zs : ((w4.setCell ⟨w.heap.size + 1, 0, none⟩ (.int .i64 ((P : Int) - 1))).setCell ⟨w.heap.size + 1, 1, none⟩ (.slice a m cap)).heap.size = w4.heap.size := by simp [World.setCell]
              generalize (w4.setCell ⟨w.heap.size + 1, 0, none⟩ (.int .i64 ((P : Int) - 1))).setCell ⟨w.heap.size + 1, 1, none⟩ (.slice a m cap) = W5 at *
              have c0 := z.c0
              have cc1 := z.c1
              refine bodyPost_ret (v := .tuple #[worthsV ((P : Int) - 1) a m cap, .bool true]) (by simp [results, Try.f55, go_sem, c0, cc1]) rfl ?_
              rw [E.out]
              exact ⟨a, m, cap, rfl, zo.wide (by omega) (by omega) (Nat.le_refl _), zb⟩
end Go.Proofs.Ytljlijmdjbodcaa
