/-
  WeighWorths: the reference's loop, and its answer.
-/
import Derived.Test.YtljlijmdjbodcaaWOtherS
import Derived.Test.YtljlijmdjbodcaaWWeigh
namespace Go.Proofs.Ytljlijmdjbodcaa
open Go.RowKit Go.Shelf
set_option linter.unusedVariables false

set_option maxHeartbeats 4000000 in
set_option maxRecDepth 20000 in
theorem specWeigh_any (p : Int) (a1 : Option Addr) (l1 c1 : Nat) (A : List Int) (p2 : Int) (a2 : Option Addr) (l2 c2 : Nat) (B : List Int) (x y : Int) (w : World) (hA : IAt w a1 l1 A) (hB : IAt w a2 l2 B) (hbx : Big x) (hby : Big y) :
    Calls Try.prog 25 #[worthsV p a1 l1 c1, worthsV p2 a2 l2 c2, .int .i64 x, .int .i64 y] w (OutWorths w (weighV p A p2 B x y)) := by
  have b0 := Lib.hid (below3 (w := w) (o := .cells #[.int .i64 p, .slice a1 l1 c1] 27) (p := .cells #[.int .i64 p2, .slice a2 l2 c2] 27) (q := .cells #[.int .i64 0, .slice none 0 0] 27))
  have HA := Lib.hid (hA.below b0.out)
  have HB := Lib.hid (hB.below b0.out)
  have HX : Hid (Box2 _ w.heap.size 27 (.int .i64 p) (.slice a1 l1 c1)) := Lib.hid (heap3a (w := w) (p := .cells #[.int .i64 p2, .slice a2 l2 c2] 27) (q := .cells #[.int .i64 0, .slice none 0 0] 27))
  have HY : Hid (Box2 _ (w.heap.size + 1) 27 (.int .i64 p2) (.slice a2 l2 c2)) := Lib.hid (heap3b (w := w) (o := .cells #[.int .i64 p, .slice a1 l1 c1] 27) (q := .cells #[.int .i64 0, .slice none 0 0] 27))
  have HR : Hid (Box2 _ (w.heap.size + 2) 27 (.int .i64 0) (.slice none 0 0)) := Lib.hid (heap3c (w := w) (o := .cells #[.int .i64 p, .slice a1 l1 c1] 27) (p := .cells #[.int .i64 p2, .slice a2 l2 c2] 27))
  clear hA hB
  cases s1 : okW p A with
  | false =>
    have S1 := Lib.hid s1
    rw [weighV_a s1]
    clear s1
    go_enter Try.func25, Try.ntmps25
    go_wp2_with fail
    refine (specIsW_any w.heap.size p _ l1 c1 A _ HX.out HA.out).mono ?_
    rintro e w1 ⟨rfl, s1⟩
    rw [S1.out]
    have b1 := same_below s1 (((w.alloc (.cells #[.int .i64 p, .slice a1 l1 c1] 27)).alloc (.cells #[.int .i64 p2, .slice a2 l2 c2] 27)).alloc (.cells #[.int .i64 0, .slice none 0 0] 27)).heap.size
    have B1 := Lib.hid (below_after b0.out (Nat.le_refl _) b1)
    have HX1 := Lib.hid (HX.out.below b1)
    have HY1 := Lib.hid (HY.out.below b1)
    have HR1 := Lib.hid (HR.out.below b1)
    have HA1 := Lib.hid (HA.out.below b1)
    have HB1 := Lib.hid (HB.out.below b1)
    have hs1 : w.heap.size + 3 ≤ w1.heap.size := by have := b1.size; simp at this; omega
    obtain ⟨⟨r0, r1⟩, g0, g1⟩ := HR1.out.all
    clear b1 s1
    go_wp2_with fail
    have z := (HR1.out.set0 (u := .int .i64 0)).set1 (u := .slice none 0 0)
    have zb := (B1.out.setCell (p := ⟨w.heap.size + 2, 0, none⟩) (by show w.heap.size ≤ _ + 2; omega) (.int .i64 0)).setCell (p := ⟨w.heap.size + 2, 1, none⟩) (by show w.heap.size ≤ _ + 2; omega) (.slice none 0 0)
    generalize (w1.setCell ⟨w.heap.size + 2, 0, none⟩ (.int .i64 0)).setCell ⟨w.heap.size + 2, 1, none⟩ (.slice none 0 0) = W5 at *
    have c0 := z.c0
    have cc1 := z.c1
    refine bodyPost_ret (v := .tuple #[worthsV 0 none 0 0, .bool false]) (by simp [results, Try.f25, go_sem, c0, cc1]) rfl ?_
    exact ⟨none, 0, 0, rfl, own_nil _ (Nat.le_refl _), zb⟩
  | true =>
    have S1 := Lib.hid s1
    cases s2 : okW p2 B with
    | false =>
      have S2 := Lib.hid s2
      rw [weighV_b s1 s2]
      clear s1 s2
      go_enter Try.func25, Try.ntmps25
      go_wp2_with fail
      refine (specIsW_any w.heap.size p _ l1 c1 A _ HX.out HA.out).mono ?_
      rintro e w1 ⟨rfl, s1⟩
      rw [S1.out]
      have b1 := same_below s1 (((w.alloc (.cells #[.int .i64 p, .slice a1 l1 c1] 27)).alloc (.cells #[.int .i64 p2, .slice a2 l2 c2] 27)).alloc (.cells #[.int .i64 0, .slice none 0 0] 27)).heap.size
      have B1 := Lib.hid (below_after b0.out (Nat.le_refl _) b1)
      have HX1 := Lib.hid (HX.out.below b1)
      have HY1 := Lib.hid (HY.out.below b1)
      have HR1 := Lib.hid (HR.out.below b1)
      have HA1 := Lib.hid (HA.out.below b1)
      have HB1 := Lib.hid (HB.out.below b1)
      have hs1 : w.heap.size + 3 ≤ w1.heap.size := by have := b1.size; simp at this; omega
      obtain ⟨⟨r0, r1⟩, g0, g1⟩ := HR1.out.all
      clear b1 s1
      go_wp2_with fail
      refine (specIsW_any (w.heap.size + 1) p2 _ l2 c2 B _ HY1.out HB1.out).mono ?_
      rintro e w2 ⟨rfl, s2⟩
      rw [S2.out]
      have b2 := same_below s2 w1.heap.size
      have B2 := Lib.hid (below_after B1.out (Nat.le_refl _) b2)
      have HX2 := Lib.hid (HX1.out.below b2)
      have HY2 := Lib.hid (HY1.out.below b2)
      have HR2 := Lib.hid (HR1.out.below b2)
      have HA2 := Lib.hid (HA1.out.below b2)
      have HB2 := Lib.hid (HB1.out.below b2)
      have hs2 := b2.size
      clear b2 s2 r0 r1 g0 g1
      obtain ⟨⟨r0, r1⟩, g0, g1⟩ := HR2.out.all
      obtain ⟨⟨y0, y1⟩, _⟩ := HY2.out.all
      obtain ⟨⟨x0, x1⟩, _⟩ := HX2.out.all
      go_wp2_with fail
      have z := (HR2.out.set0 (u := .int .i64 0)).set1 (u := .slice none 0 0)
      have zb := (B2.out.setCell (p := ⟨w.heap.size + 2, 0, none⟩) (by show w.heap.size ≤ _ + 2; omega) (.int .i64 0)).setCell (p := ⟨w.heap.size + 2, 1, none⟩) (by show w.heap.size ≤ _ + 2; omega) (.slice none 0 0)
      generalize (w2.setCell ⟨w.heap.size + 2, 0, none⟩ (.int .i64 0)).setCell ⟨w.heap.size + 2, 1, none⟩ (.slice none 0 0) = W5 at *
      have c0 := z.c0
      have cc1 := z.c1
      refine bodyPost_ret (v := .tuple #[worthsV 0 none 0 0, .bool false]) (by simp [results, Try.f25, go_sem, c0, cc1]) rfl ?_
      exact ⟨none, 0, 0, rfl, own_nil _ (Nat.le_refl _), zb⟩
    | true =>
      have S2 := Lib.hid s2
      by_cases hp : p = p2
      · subst hp
        obtain ⟨P, rfl, h1, h6, hl, h0, hall⟩ := okW_true s1
        cases s3 : inB (-100) 100 x with
        | false =>
          have SX := Lib.hid s3
          rw [weighV_x s1 s2 s3]
          clear s1 s2 s3 hl h0 hall
          go_enter Try.func25, Try.ntmps25
          go_wp2_with fail
          refine (specIsW_any w.heap.size P _ l1 c1 A _ HX.out HA.out).mono ?_
          rintro e w1 ⟨rfl, s1⟩
          rw [S1.out]
          have b1 := same_below s1 (((w.alloc (.cells #[.int .i64 P, .slice a1 l1 c1] 27)).alloc (.cells #[.int .i64 P, .slice a2 l2 c2] 27)).alloc (.cells #[.int .i64 0, .slice none 0 0] 27)).heap.size
          have B1 := Lib.hid (below_after b0.out (Nat.le_refl _) b1)
          have HX1 := Lib.hid (HX.out.below b1)
          have HY1 := Lib.hid (HY.out.below b1)
          have HR1 := Lib.hid (HR.out.below b1)
          have HA1 := Lib.hid (HA.out.below b1)
          have HB1 := Lib.hid (HB.out.below b1)
          have hs1 : w.heap.size + 3 ≤ w1.heap.size := by have := b1.size; simp at this; omega
          obtain ⟨⟨r0, r1⟩, g0, g1⟩ := HR1.out.all
          clear b1 s1
          go_wp2_with fail
          refine (specIsW_any (w.heap.size + 1) P _ l2 c2 B _ HY1.out HB1.out).mono ?_
          rintro e w2 ⟨rfl, s2⟩
          rw [S2.out]
          have b2 := same_below s2 w1.heap.size
          have B2 := Lib.hid (below_after B1.out (Nat.le_refl _) b2)
          have HX2 := Lib.hid (HX1.out.below b2)
          have HY2 := Lib.hid (HY1.out.below b2)
          have HR2 := Lib.hid (HR1.out.below b2)
          have HA2 := Lib.hid (HA1.out.below b2)
          have HB2 := Lib.hid (HB1.out.below b2)
          have hs2 := b2.size
          clear b2 s2 r0 r1 g0 g1
          obtain ⟨⟨r0, r1⟩, g0, g1⟩ := HR2.out.all
          obtain ⟨⟨y0, y1⟩, _⟩ := HY2.out.all
          obtain ⟨⟨x0, x1⟩, _⟩ := HX2.out.all
          go_wp2_with (first | (go_at_call 64; refine (inR_any _ _ _ _).mono ?_; rintro e w3 ⟨rfl, rfl⟩; rw [SX.out]))
          have z := (HR2.out.set0 (u := .int .i64 0)).set1 (u := .slice none 0 0)
          have zb := (B2.out.setCell (p := ⟨w.heap.size + 2, 0, none⟩) (by show w.heap.size ≤ _ + 2; omega) (.int .i64 0)).setCell (p := ⟨w.heap.size + 2, 1, none⟩) (by show w.heap.size ≤ _ + 2; omega) (.slice none 0 0)
          generalize (w2.setCell ⟨w.heap.size + 2, 0, none⟩ (.int .i64 0)).setCell ⟨w.heap.size + 2, 1, none⟩ (.slice none 0 0) = W5 at *
          have c0 := z.c0
          have cc1 := z.c1
          refine bodyPost_ret (v := .tuple #[worthsV 0 none 0 0, .bool false]) (by simp [results, Try.f25, go_sem, c0, cc1]) rfl ?_
          exact ⟨none, 0, 0, rfl, own_nil _ (Nat.le_refl _), zb⟩
        | true =>
          have SX := Lib.hid s3
          cases s4 : inB (-100) 100 y with
          | false =>
            have SY := Lib.hid s4
            rw [weighV_y s1 s2 s3 s4]
            clear s1 s2 s3 s4 hl h0 hall
            go_enter Try.func25, Try.ntmps25
            go_wp2_with fail
            refine (specIsW_any w.heap.size P _ l1 c1 A _ HX.out HA.out).mono ?_
            rintro e w1 ⟨rfl, s1⟩
            rw [S1.out]
            have b1 := same_below s1 (((w.alloc (.cells #[.int .i64 P, .slice a1 l1 c1] 27)).alloc (.cells #[.int .i64 P, .slice a2 l2 c2] 27)).alloc (.cells #[.int .i64 0, .slice none 0 0] 27)).heap.size
            have B1 := Lib.hid (below_after b0.out (Nat.le_refl _) b1)
            have HX1 := Lib.hid (HX.out.below b1)
            have HY1 := Lib.hid (HY.out.below b1)
            have HR1 := Lib.hid (HR.out.below b1)
            have HA1 := Lib.hid (HA.out.below b1)
            have HB1 := Lib.hid (HB.out.below b1)
            have hs1 : w.heap.size + 3 ≤ w1.heap.size := by have := b1.size; simp at this; omega
            obtain ⟨⟨r0, r1⟩, g0, g1⟩ := HR1.out.all
            clear b1 s1
            go_wp2_with fail
            refine (specIsW_any (w.heap.size + 1) P _ l2 c2 B _ HY1.out HB1.out).mono ?_
            rintro e w2 ⟨rfl, s2⟩
            rw [S2.out]
            have b2 := same_below s2 w1.heap.size
            have B2 := Lib.hid (below_after B1.out (Nat.le_refl _) b2)
            have HX2 := Lib.hid (HX1.out.below b2)
            have HY2 := Lib.hid (HY1.out.below b2)
            have HR2 := Lib.hid (HR1.out.below b2)
            have HA2 := Lib.hid (HA1.out.below b2)
            have HB2 := Lib.hid (HB1.out.below b2)
            have hs2 := b2.size
            clear b2 s2 r0 r1 g0 g1
            obtain ⟨⟨r0, r1⟩, g0, g1⟩ := HR2.out.all
            obtain ⟨⟨y0, y1⟩, _⟩ := HY2.out.all
            obtain ⟨⟨x0, x1⟩, _⟩ := HX2.out.all
            go_wp2_with (first | (go_at_call 64; refine (inR_any _ _ _ _).mono ?_; rintro e w3 ⟨rfl, rfl⟩; rw [SX.out]) | (go_at_call 64; refine (inR_any _ _ _ _).mono ?_; rintro e w3 ⟨rfl, rfl⟩; rw [SY.out]))
            have z := (HR2.out.set0 (u := .int .i64 0)).set1 (u := .slice none 0 0)
            have zb := (B2.out.setCell (p := ⟨w.heap.size + 2, 0, none⟩) (by show w.heap.size ≤ _ + 2; omega) (.int .i64 0)).setCell (p := ⟨w.heap.size + 2, 1, none⟩) (by show w.heap.size ≤ _ + 2; omega) (.slice none 0 0)
            generalize (w2.setCell ⟨w.heap.size + 2, 0, none⟩ (.int .i64 0)).setCell ⟨w.heap.size + 2, 1, none⟩ (.slice none 0 0) = W5 at *
            have c0 := z.c0
            have cc1 := z.c1
            refine bodyPost_ret (v := .tuple #[worthsV 0 none 0 0, .bool false]) (by simp [results, Try.f25, go_sem, c0, cc1]) rfl ?_
            exact ⟨none, 0, 0, rfl, own_nil _ (Nat.le_refl _), zb⟩
          | true =>
            have SY := Lib.hid s4
            have bx := inB_true.1 s3
            have by' := inB_true.1 s4
            rw [weighV_yes s1 s2 s3 s4, show (P : Int).toNat = P from rfl]
            obtain ⟨P', e1, _, _, hl', _, hall'⟩ := okW_true s2
            obtain rfl : P = P' := by omega
            have hl1 : l1 = 2 ^ P := by have := HA.out.1; omega
            have hl2 : l2 = 2 ^ P := by have := HB.out.1; omega
            have hl64 : l1 ≤ 64 := by have := pow_le64 h6; omega
            have HL12 : Hid (l2 = l1) := Lib.hid (by omega)
            have hge2 : 2 ≤ l1 := by have := pow_ge2 h1; omega
            have HBIG : Hid (∀ s, Big (weighF A B x y s)) := Lib.hid fun s => by
              have gA : -10000 ≤ A.getD s 0 ∧ A.getD s 0 ≤ 10000 := by
                by_cases h : s < A.length
                · exact okAll_at hall h
                · rw [List.getD_eq_getElem?_getD, List.getElem?_eq_none (by omega)]
                  exact ⟨by decide, by decide⟩
              have gB : -10000 ≤ B.getD s 0 ∧ B.getD s 0 ≤ 10000 := by
                by_cases h : s < B.length
                · exact okAll_at hall' h
                · rw [List.getD_eq_getElem?_getD, List.getElem?_eq_none (by omega)]
                  exact ⟨by decide, by decide⟩
              have a := mul_in bx gA
              have b := mul_in by' gB
              unfold weighF
              exact ⟨by omega, by omega⟩
            have HALL := Lib.hid hall
            have HALL' := Lib.hid hall'
            have HAL := Lib.hid hl
            have HAL' := Lib.hid hl'
            obtain ⟨b, off, rfl, hb, hc⟩ := w_at HA.out (by omega)
            obtain ⟨b2, off2, rfl, hb2, hc2⟩ := w_at HB.out (by have := HL12.out; omega)
            have HL1 := Lib.hid hl1
            have HC := Lib.hid hc
            have HC2 := Lib.hid hc2
            have hmax := HA.out.2.1
            have hmax2 := HB.out.2.1
            unfold maxLen at hmax hmax2
            obtain ⟨i0, hi, hz0, hz1, hz2⟩ := info_parts (P := Try.prog) (e := 2) (z := .int .i64 0) (size := 1) (bytes := 8) (by kernel_rfl)
            clear hl hl' h0 hall hall' hl1 hl2 hc hc2 s1 s2 s3 s4 e1
            go_enter Try.func25, Try.ntmps25
            go_wp2_with fail
            refine (specIsW_any w.heap.size P _ l1 c1 A _ HX.out HA.out).mono ?_
            rintro e w1 ⟨rfl, s1⟩
            rw [S1.out]
            have b1 := same_below s1 (((w.alloc (.cells #[.int .i64 P, .slice (some ⟨b, off, none⟩) l1 c1] 27)).alloc (.cells #[.int .i64 P, .slice (some ⟨b2, off2, none⟩) l2 c2] 27)).alloc (.cells #[.int .i64 0, .slice none 0 0] 27)).heap.size
            have B1 := Lib.hid (below_after b0.out (Nat.le_refl _) b1)
            have HX1 := Lib.hid (HX.out.below b1)
            have HY1 := Lib.hid (HY.out.below b1)
            have HR1 := Lib.hid (HR.out.below b1)
            have HA1 := Lib.hid (HA.out.below b1)
            have HB1 := Lib.hid (HB.out.below b1)
            have hs1 : w.heap.size + 3 ≤ w1.heap.size := by have := b1.size; simp at this; omega
            obtain ⟨⟨r0, r1⟩, g0, g1⟩ := HR1.out.all
            have sA := s1
            clear b1 s1
            go_wp2_with fail
            refine (specIsW_any (w.heap.size + 1) P _ l2 c2 B _ HY1.out HB1.out).mono ?_
            rintro e w2 ⟨rfl, s2⟩
            rw [S2.out]
            have b2 := same_below s2 w1.heap.size
            have B2 := Lib.hid (below_after B1.out (Nat.le_refl _) b2)
            have HX2 := Lib.hid (HX1.out.below b2)
            have HY2 := Lib.hid (HY1.out.below b2)
            have HR2 := Lib.hid (HR1.out.below b2)
            have HA2 := Lib.hid (HA1.out.below b2)
            have HB2 := Lib.hid (HB1.out.below b2)
            have hs2 := b2.size
            have sB := s2
            clear b2 s2 r0 r1 g0 g1
            obtain ⟨⟨r0, r1⟩, g0, g1⟩ := HR2.out.all
            obtain ⟨⟨y0, y1⟩, _⟩ := HY2.out.all
            obtain ⟨⟨x0, x1⟩, _⟩ := HX2.out.all
            have B12 := Lib.hid (below_after (same_below sA (((w.alloc (.cells #[.int .i64 P, .slice (some ⟨b, off, none⟩) l1 c1] 27)).alloc (.cells #[.int .i64 P, .slice (some ⟨b2, off2, none⟩) l2 c2] 27)).alloc (.cells #[.int .i64 0, .slice none 0 0] 27)).heap.size) (Nat.le_refl _) (same_below sB w1.heap.size))
            have hcW1 : ∀ i, i < l1 → w2.cell? ⟨b, off + i, none⟩ = some (.int .i64 (A.getD i 0)) := fun i hi => (B12.out.cell (p := ⟨b, off + i, none⟩) hb).trans (HC.out i hi)
            have hcW2 : ∀ i, i < l2 → w2.cell? ⟨b2, off2 + i, none⟩ = some (.int .i64 (B.getD i 0)) := fun i hi => (B12.out.cell (p := ⟨b2, off2 + i, none⟩) hb2).trans (HC2.out i hi)
            have HC1 := Lib.hid hcW1
            have HC3 := Lib.hid hcW2
            have hb1 : b < w2.heap.size := Nat.lt_of_lt_of_le hb B12.out.size
            have hb3 : b2 < w2.heap.size := Nat.lt_of_lt_of_le hb2 B12.out.size
            have BD := Lib.hid (below1 (w := w2) (o := .cells #[.int .i64 (P : Nat), .slice none 0 0] 27))
            have yy1 := (HX2.out.below BD.out).c1
            clear HC HX HY HR HA HB HX1 HY1 HR1 HA1 HB1 b0 hb hb2 hcW1 hcW2 HC2
            go_wp2_with (first | (go_at_call 64; refine (inR_any _ _ _ _).mono ?_; rintro e w3 ⟨rfl, rfl⟩; rw [SX.out]) | (go_at_call 64; refine (inR_any _ _ _ _).mono ?_; rintro e w3 ⟨rfl, rfl⟩; rw [SY.out]))
            clear yy1
            have HT : Hid (Box2 _ w2.heap.size 27 (.int .i64 (P : Nat)) (.slice none 0 0)) := Lib.hid (heap1 (w := w2))
            have hzd : (w2.alloc (.cells #[.int .i64 (P : Nat), .slice none 0 0] 27)).heap.size = w2.heap.size + 1 := by simp
            have HXW := Lib.hid (HX2.out.below BD.out)
            have HYW := Lib.hid (HY2.out.below BD.out)
            have HRW0 := Lib.hid (HR2.out.below BD.out)
            generalize w2.alloc (.cells #[.int .i64 (P : Nat), .slice none 0 0] 27) = W0 at *
            obtain ⟨no, hno⟩ : ∃ no, w2.heap.size = no := ⟨_, rfl⟩
            have HNO := Lib.hid hno
            have HCW : Hid (∀ i, i < l1 → W0.cell? ⟨b, off + i, none⟩ = some (.int .i64 (A.getD i 0))) := Lib.hid fun i hi => (BD.out.cell (p := ⟨b, off + i, none⟩) hb1).trans (HC1.out i hi)
            have HCW2 : Hid (∀ i, i < l2 → W0.cell? ⟨b2, off2 + i, none⟩ = some (.int .i64 (B.getD i 0))) := Lib.hid fun i hi => (BD.out.cell (p := ⟨b2, off2 + i, none⟩) hb3).trans (HC3.out i hi)
            simp only [hno] at HT hzd hb1 hb3 hs2 ⊢
            clear hno x0 x1 y0 y1 r0 r1 g0 g1
            go_loopw [42] (fun qq wr => ∃ (k : Nat) (a : Option Addr) (cap : Nat), k ≤ l1 ∧ qq = .int .i64 k ∧ Hid (Box2 wr no 27 (.int .i64 (P : Nat)) (.slice a k cap)) ∧
                Hid (wr.ownsRow (no + 1) 2 1 (.slice a k cap) k (((List.range k).map (weighF A B x y)).map (Value.int .i64))) ∧ Hid (KpX (fun k => k = no) (no + 1) W0 wr)) (fun qq _ => l1 - (intOf qq).toNat)
            case atStart => exact ⟨0, none, 0, Nat.zero_le _, rfl, HT, Lib.hid (World.ownsRow_nil _ _ _ _), Lib.hid KpX.refl⟩
            case round =>
              obtain ⟨k, a, cap, hk, rfl, HB, HO, HK⟩ := hrel
              have hsz := HK.out.size
              by_cases hlt : k < l1
              · have hlt2 : k < l2 := by have := HL12.out; omega
                have hub := okAll_at HALL.out (i := k) (by have := HAL.out; have := HL1.out; omega)
                have hvb := okAll_at HALL'.out (i := k) (by have := HAL'.out; have := HL1.out; omega)
                have hxr : Box2 wr w.heap.size 27 (.int .i64 (P : Nat)) (.slice (some ⟨b, off, none⟩) l1 c1) := (HK.out.block _ (by omega) (by omega)).trans HXW.out
                have hyr : Box2 wr (w.heap.size + 1) 27 (.int .i64 (P : Nat)) (.slice (some ⟨b2, off2, none⟩) l2 c2) := (HK.out.block _ (by omega) (by omega)).trans HYW.out
                have p1 := fun z : ExtW wr => (hxr.below z.ext).c1
                have p2 := fun z : ExtW wr => (hyr.below z.ext).c1
                have p3 := fun z : ExtW wr => (HB.out.below z.ext).c1
                have hca := HK.out.cell (i := off + k) (by omega) (by omega) (HCW.out k hlt)
                have hcb := HK.out.cell (i := off2 + k) (by omega) (by omega) (HCW2.out k hlt2)
                have HE : Hid (weighF A B x y k = x * A.getD k 0 + y * B.getD k 0) := Lib.hid rfl
                have r1 := fun z : ExtW wr => (z.ext.cell (p := ⟨b, off + k, none⟩) (by show b < _; omega)).trans hca
                have r2 := fun z : ExtW wr => (z.ext.cell (p := ⟨b2, off2 + k, none⟩) (by show b2 < _; omega)).trans hcb
                generalize A.getD k 0 = u at *
                generalize B.getD k 0 = v at *
                have m1' := mul_in bx hub
                have m2' := mul_in by' hvb
                obtain ⟨d1, e1⟩ : ∃ d, x * u = d := ⟨_, rfl⟩
                obtain ⟨d2, e2⟩ : ∃ d, y * v = d := ⟨_, rfl⟩
                rw [e1] at m1' HE
                rw [e2] at m2' HE
                clear hxr hyr hca hcb
                go_wp2_with fail
                refine region_move_wp (C := fun w' => ∃ z : ExtW wr, w' = z.val) 17 1 (by kernel_rfl) (by kernel_rfl) ⟨⟨wr.drew, Below.drew (Below.refl _ _)⟩, rfl⟩ ?_
                simp only [List.take_succ_cons, List.take_zero, List.drop_succ_cons, List.drop_zero]
                repeat (go_big_quiet_step (fail))
                refine wpQuiet_nil ?_
                intro _ hw'
                obtain ⟨z, hz⟩ := hw'
                subst hz
                simp only [seqC, stepIn]
                clear r1 r2
                gi_wp2_with fail
                have hys := z.ext.size
                have hBa := z.ext.alloc hys (.cells #[.int .i64 (d1 + d2)] 2)
                refine ⟨⟨⟨_, hBa⟩, rfl⟩, ?_⟩
                have HO2 := Lib.hid (ownsRow_block HO.out fun k hk => z.ext.block k (HO.out.lt k hk).2)
                refine wpListIn_append_own _ rfl (.tmp 46) (.tmp 62) 22 rfl (no + 1) 2 i0 (.int .i64 0) 1 8 Try.underlying22 hi hz0 hz1 hz2 rfl (by decide) _ k _ rfl (HO2.out.alloc _) ⟨z.val.heap.size, 0, none⟩ 1 1 [.int .i64 (d1 + d2)] rfl rfl (news_one _ _ (by simp)) (one_int _) (by unfold maxLen; omega) (by omega) (by simp; omega) ?_
                intro v' w4 hown hgrow _
                obtain ⟨a', cap', rfl⟩ := row_slice hown
                have hB4 : Below (no + 1) wr w4 := Below.grown (hBa.mono (by omega)) hgrow (by simp; omega) (fun k hk => (World.ownsRow.lt HO2.out k hk).1)
                have hX1 : Box2 w4 no 27 (.int .i64 (P : Nat)) (.slice a k cap) := (hB4.block no (by omega)).trans HB.out
                have HX1 := Lib.hid hX1
                have cc1 := hX1.c1
                have f1 := hX1.free 1
                have HB4 := Lib.hid hB4
                have HOW := Lib.hid hown
                clear hX1 hB4 hBa hown hgrow
                gi_wp2_with fail
                have hsn : (List.range (k + 1)).map (weighF A B x y) = (List.range k).map (weighF A B x y) ++ [d1 + d2] := by rw [List.range_succ, List.map_append, List.map_singleton, HE.out]
                have HB5 : Hid (Box2 (w4.setCell ⟨no, 1, none⟩ (.slice a' (k + 1) cap')) no 27 (.int .i64 (P : Nat)) (.slice a' (k + 1) cap')) := Lib.hid (Box2.set1 HX1.out)
                have HO5 : Hid ((w4.setCell ⟨no, 1, none⟩ (.slice a' (k + 1) cap')).ownsRow (no + 1) 2 1 (.slice a' (k + 1) cap') (k + 1) (((List.range (k + 1)).map (weighF A B x y)).map (Value.int .i64))) := Lib.hid (by
                  rw [hsn, List.map_append]
                  refine ownsRow_block HOW.out fun k hk => Below.heap_setCell _ _ _ _ ?_
                  have := (HOW.out.lt k hk).1
                  show k ≠ no
                  omega)
                have HK5 : Hid (KpX (fun k => k = no) (no + 1) W0 (w4.setCell ⟨no, 1, none⟩ (.slice a' (k + 1) cap'))) := Lib.hid (HK.out.trans ((KpX.of_below HB4.out).trans (KpX.set (.inl rfl))))
                generalize w4.setCell ⟨no, 1, none⟩ (.slice a' (k + 1) cap') = W5 at *
                clear cc1 f1 p1 p2 p3 hys
                go_wp2_with fail
                go_roundw
                case rel => exact ⟨k + 1, a', cap', by omega, by go_num, HB5, HO5, HK5⟩
                case measure => simp [intOf]; omega
              · obtain rfl : k = l1 := by omega
                obtain ⟨⟨q0, q1⟩, _⟩ := HB.out.all
                have hrow := own_of_row (zs := byL P (weighF A B x y)) (by rw [byL_eq, ← HL1.out]; exact HO.out) (by
                  intro z hz
                  rw [byL_eq] at hz
                  obtain ⟨i, -, rfl⟩ := List.mem_map.1 hz
                  exact HBIG.out i)
                have HIA := Lib.hid hrow.iat
                have HOW := Lib.hid hrow
                clear hrow
                have hN := HNO.out
                have hBW : Below w.heap.size w wr := (B2.out.trans (BD.out.mono (by omega))).trans (HK.out.below (n := w.heap.size) (by omega) (fun k hk => by omega))
                have HBW := Lib.hid hBW
                have hRW : Box2 wr (w.heap.size + 2) 27 (.int .i64 0) (.slice none 0 0) := (HK.out.block _ (by omega) (by omega)).trans HRW0.out
                have HRW := Lib.hid hRW
                clear hN hBW hRW
                go_wp2_with fail
                refine (give_any P a k cap (byL P (weighF A B x y)) wr HIA.out).mono ?_
                rintro e w4 ⟨rfl, b4⟩
                have hB4 := HBW.out.trans (b4.mono HBW.out.size)
                have HB4 := Lib.hid hB4
                have HO4 := Lib.hid (HOW.out.below b4)
                have hr := HRW.out.below b4
                have HR4 := Lib.hid hr
                obtain ⟨⟨r0, r1⟩, g0, g1⟩ := hr.all
                have hs4 := b4.size
                clear hB4 hr b4 q0 q1
                cases hok : okW (P : Nat) (byL P (weighF A B x y)) with
                | false =>
                  have E : Hid (byV P (weighF A B x y) = (0, [], false)) := Lib.hid (by unfold byV; rw [hok]; rfl)
                  rw [giveV_no hok]
                  clear hok
                  go_wp2_with fail
                  have z := (HR4.out.set0 (u := .int .i64 0)).set1 (u := .slice none 0 0)
                  have zb := (HB4.out.setCell (p := ⟨w.heap.size + 2, 0, none⟩) (by show w.heap.size ≤ _ + 2; omega) (.int .i64 0)).setCell (p := ⟨w.heap.size + 2, 1, none⟩) (by show w.heap.size ≤ _ + 2; omega) (.slice none 0 0)
                  generalize (w4.setCell ⟨w.heap.size + 2, 0, none⟩ (.int .i64 0)).setCell ⟨w.heap.size + 2, 1, none⟩ (.slice none 0 0) = W5 at *
                  have c0 := z.c0
                  have cc1 := z.c1
                  refine bodyPost_ret (v := .tuple #[worthsV 0 none 0 0, .bool false]) (by simp [results, Try.f25, go_sem, c0, cc1]) rfl ?_
                  rw [E.out]
                  exact ⟨none, 0, 0, rfl, own_nil _ (Nat.le_refl _), zb⟩
                | true =>
                  have E : Hid (byV P (weighF A B x y) = ((P : Int), byL P (weighF A B x y), true)) := Lib.hid (by unfold byV; rw [hok]; rfl)
                  rw [giveV_yes hok]
                  clear hok
                  go_wp2_with fail
                  have z := (HR4.out.set0 (u := .int .i64 (P : Nat))).set1 (u := .slice a k cap)
                  have zb := (HB4.out.setCell (p := ⟨w.heap.size + 2, 0, none⟩) (by show w.heap.size ≤ _ + 2; omega) (.int .i64 (P : Nat))).setCell (p := ⟨w.heap.size + 2, 1, none⟩) (by show w.heap.size ≤ _ + 2; omega) (.slice a k cap)
                  have zo := (HO4.out.far (n := w.heap.size + 2) (i := 0) (u := .int .i64 (P : Nat)) (by omega)).far (n := w.heap.size + 2) (i := 1) (u := .slice a k cap) (by omega)
                  have zs : ((w4.setCell ⟨w.heap.size + 2, 0, none⟩ (.int .i64 (P : Nat))).setCell ⟨w.heap.size + 2, 1, none⟩ (.slice a k cap)).heap.size = w4.heap.size := by simp [World.setCell]
                  generalize (w4.setCell ⟨w.heap.size + 2, 0, none⟩ (.int .i64 (P : Nat))).setCell ⟨w.heap.size + 2, 1, none⟩ (.slice a k cap) = W5 at *
                  have c0 := z.c0
                  have cc1 := z.c1
                  refine bodyPost_ret (v := .tuple #[worthsV (P : Nat) a k cap, .bool true]) (by simp [results, Try.f25, go_sem, c0, cc1]) rfl ?_
                  rw [E.out]
                  exact ⟨a, k, cap, rfl, zo.wide (by omega) (by omega) (Nat.le_refl _), zb⟩
      · rw [weighV_p s1 s2 hp]
        clear s1 s2
        go_enter Try.func25, Try.ntmps25
        go_wp2_with fail
        refine (specIsW_any w.heap.size p _ l1 c1 A _ HX.out HA.out).mono ?_
        rintro e w1 ⟨rfl, s1⟩
        rw [S1.out]
        have b1 := same_below s1 (((w.alloc (.cells #[.int .i64 p, .slice a1 l1 c1] 27)).alloc (.cells #[.int .i64 p2, .slice a2 l2 c2] 27)).alloc (.cells #[.int .i64 0, .slice none 0 0] 27)).heap.size
        have B1 := Lib.hid (below_after b0.out (Nat.le_refl _) b1)
        have HX1 := Lib.hid (HX.out.below b1)
        have HY1 := Lib.hid (HY.out.below b1)
        have HR1 := Lib.hid (HR.out.below b1)
        have HA1 := Lib.hid (HA.out.below b1)
        have HB1 := Lib.hid (HB.out.below b1)
        have hs1 : w.heap.size + 3 ≤ w1.heap.size := by have := b1.size; simp at this; omega
        obtain ⟨⟨r0, r1⟩, g0, g1⟩ := HR1.out.all
        clear b1 s1
        go_wp2_with fail
        refine (specIsW_any (w.heap.size + 1) p2 _ l2 c2 B _ HY1.out HB1.out).mono ?_
        rintro e w2 ⟨rfl, s2⟩
        rw [S2.out]
        have b2 := same_below s2 w1.heap.size
        have B2 := Lib.hid (below_after B1.out (Nat.le_refl _) b2)
        have HX2 := Lib.hid (HX1.out.below b2)
        have HY2 := Lib.hid (HY1.out.below b2)
        have HR2 := Lib.hid (HR1.out.below b2)
        have HA2 := Lib.hid (HA1.out.below b2)
        have HB2 := Lib.hid (HB1.out.below b2)
        have hs2 := b2.size
        clear b2 s2 r0 r1 g0 g1
        obtain ⟨⟨r0, r1⟩, g0, g1⟩ := HR2.out.all
        obtain ⟨⟨y0, y1⟩, _⟩ := HY2.out.all
        obtain ⟨⟨x0, x1⟩, _⟩ := HX2.out.all
        go_wp2_with fail
        have z := (HR2.out.set0 (u := .int .i64 0)).set1 (u := .slice none 0 0)
        have zb := (B2.out.setCell (p := ⟨w.heap.size + 2, 0, none⟩) (by show w.heap.size ≤ _ + 2; omega) (.int .i64 0)).setCell (p := ⟨w.heap.size + 2, 1, none⟩) (by show w.heap.size ≤ _ + 2; omega) (.slice none 0 0)
        generalize (w2.setCell ⟨w.heap.size + 2, 0, none⟩ (.int .i64 0)).setCell ⟨w.heap.size + 2, 1, none⟩ (.slice none 0 0) = W5 at *
        have c0 := z.c0
        have cc1 := z.c1
        refine bodyPost_ret (v := .tuple #[worthsV 0 none 0 0, .bool false]) (by simp [results, Try.f25, go_sem, c0, cc1]) rfl ?_
        exact ⟨none, 0, 0, rfl, own_nil _ (Nat.le_refl _), zb⟩
end Go.Proofs.Ytljlijmdjbodcaa
