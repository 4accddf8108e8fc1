/-
  TurnGame: the reference's answer.
-/
import Derived.Test.YtnmehenkbinfmaaGTurnI
namespace Go.Proofs.Ytnmehenkbinfmaa
open Go.RowKit Go.ChangeShapes Go.WideShapes Go.Shelf
set_option linter.unusedVariables false

set_option maxHeartbeats 1000000 in
set_option maxRecDepth 20000 in
theorem specTurnG_any (r c : Int) (a1 : Option Addr) (l1 c1 : Nat) (a2 : Option Addr) (l2 c2 : Nat) (A B : List Int) (w : World) (hA : IAt w a1 l1 A) (hB : IAt w a2 l2 B) :
    Calls Try.prog 36 #[gameV r c a1 l1 c1 a2 l2 c2] w (OutGame w (turnGV r c A B)) := by
  have b0 := Lib.hid (below2 (w := w) (o := .cells #[.int .i64 r, .int .i64 c, .slice a1 l1 c1, .slice a2 l2 c2] 27) (p := .cells #[.int .i64 0, .int .i64 0, .slice none 0 0, .slice none 0 0] 27))
  have HA := Lib.hid (hA.below b0.out)
  have HB := Lib.hid (hB.below b0.out)
  have HX : Hid (Box4 _ w.heap.size 27 (.int .i64 r) (.int .i64 c) (.slice a1 l1 c1) (.slice a2 l2 c2)) := Lib.hid (heap2a (w := w) (p := .cells #[.int .i64 0, .int .i64 0, .slice none 0 0, .slice none 0 0] 27))
  have HR : Hid (Box4 _ (w.heap.size + 1) 27 (.int .i64 0) (.int .i64 0) (.slice none 0 0) (.slice none 0 0)) := Lib.hid (heap2b (w := w) (o := .cells #[.int .i64 r, .int .i64 c, .slice a1 l1 c1, .slice a2 l2 c2] 27))
  clear hA hB
  cases s1 : okGame r c A B with
  | false =>
    have S1 := Lib.hid s1
    rw [turnGV_no s1]
    clear s1
    go_enter Try.func36, Try.ntmps36
    go_wp2_with fail
    refine (specIs_any w.heap.size r c a1 l1 c1 a2 l2 c2 A B _ HX.out HA.out HB.out).mono ?_
    rintro e w1 ⟨rfl, s1⟩
    rw [S1.out]
    have b1 := same_below s1 ((w.alloc (.cells #[.int .i64 r, .int .i64 c, .slice a1 l1 c1, .slice a2 l2 c2] 27)).alloc (.cells #[.int .i64 0, .int .i64 0, .slice none 0 0, .slice none 0 0] 27)).heap.size
    have B1 := Lib.hid (below_after b0.out (Nat.le_refl _) b1)
    have hr := HR.out.below b1
    have HR1 := Lib.hid hr
    obtain ⟨⟨r0, r1, r2, r3⟩, g0, g1, g2, g3⟩ := hr.all
    clear b1 hr s1
    go_wp2_with fail
    have z := (((HR1.out.set0 (u := .int .i64 0)).set1 (u := .int .i64 0)).set2 (u := .slice none 0 0)).set3 (u := .slice none 0 0)
    have zb := (((B1.out.setCell (p := ⟨w.heap.size + 1, 0, none⟩) (by show w.heap.size ≤ _ + 1; omega) (.int .i64 0)).setCell (p := ⟨w.heap.size + 1, 1, none⟩) (by show w.heap.size ≤ _ + 1; omega) (.int .i64 0)).setCell (p := ⟨w.heap.size + 1, 2, none⟩) (by show w.heap.size ≤ _ + 1; omega) (.slice none 0 0)).setCell (p := ⟨w.heap.size + 1, 3, none⟩) (by show w.heap.size ≤ _ + 1; omega) (.slice none 0 0)
    generalize (((w1.setCell ⟨w.heap.size + 1, 0, none⟩ (.int .i64 0)).setCell ⟨w.heap.size + 1, 1, none⟩ (.int .i64 0)).setCell ⟨w.heap.size + 1, 2, none⟩ (.slice none 0 0)).setCell ⟨w.heap.size + 1, 3, none⟩ (.slice none 0 0) = W5 at *
    have k0 := z.c0
    have k1 := z.c1
    have k2 := z.c2
    have k3 := z.c3
    refine bodyPost_ret (v := .tuple #[gameV 0 0 none 0 0 none 0 0, .bool false]) (by simp [results, Try.f36, go_sem, k0, k1, k2, k3]) rfl ?_
    exact ⟨none, 0, 0, none, 0, 0, rfl, game_nil _ zb.size (Nat.le_refl _), zb⟩
  | true =>
    obtain ⟨R, C, rfl, rfl, r1, r6, q1, q6, hlA, hlB, _, _⟩ := okGame_true s1
    have S1 := Lib.hid s1
    rw [turnGV_yes s1]
    clear s1
    have HLA := Lib.hid hlA
    have HLB := Lib.hid hlB
    clear hlA hlB
    go_enter Try.func36, Try.ntmps36
    go_wp2_with fail
    refine (specIs_any w.heap.size R C a1 l1 c1 a2 l2 c2 A B _ HX.out HA.out HB.out).mono ?_
    rintro e w1 ⟨rfl, s1⟩
    rw [S1.out]
    have b1 := same_below s1 ((w.alloc (.cells #[.int .i64 R, .int .i64 C, .slice a1 l1 c1, .slice a2 l2 c2] 27)).alloc (.cells #[.int .i64 0, .int .i64 0, .slice none 0 0, .slice none 0 0] 27)).heap.size
    have B1 := Lib.hid (below_after b0.out (Nat.le_refl _) b1)
    have HX1 := Lib.hid (HX.out.below b1)
    have HR1 := Lib.hid (HR.out.below b1)
    have HA1 := Lib.hid (HA.out.below b1)
    have HB1 := Lib.hid (HB.out.below b1)
    have hsz : w.heap.size + 2 ≤ w1.heap.size := by have := b1.size; simp at this; omega
    clear b1 s1 HX HR HA HB b0
    obtain ⟨b, off, rfl, rfl, hb, hc⟩ := game_at HA1.out HLA.out r1 q1
    obtain ⟨b', off', rfl, rfl, hb', hc'⟩ := game_at HB1.out HLB.out r1 q1
    have HCA := Lib.hid hc
    have HCB := Lib.hid hc'
    clear hc hc'
    go_wp2_with fail
    refine (specTurn_at w.heap.size R C b off c1 b' off' c2 A B w1 r1 q1 r6 q6 HX1.out hb hb' HA1.out.2.2.1 HB1.out.2.2.1 HCA.out HCB.out).mono ?_
    rintro e w2 ⟨x1, d1, x2, d2, rfl, o1, o2, hap, b2⟩
    have hpos : 0 < C * R := Nat.mul_pos (by omega) (by omega)
    have HGM := Lib.hid (game_apart o1 o2 hpos hpos hap)
    have B2 := Lib.hid (below_after B1.out (Nat.le_refl _) b2)
    have hr := HR1.out.below b2
    have HR2 := Lib.hid hr
    have hs2 := b2.size
    obtain ⟨⟨s0, s1, s2, s3⟩, g0, g1, g2, g3⟩ := hr.all
    clear b2 hr o1 o2 hap
    go_wp2_with fail
    have z := (((HR2.out.set0 (u := .int .i64 C)).set1 (u := .int .i64 R)).set2 (u := .slice x1 (C * R) d1)).set3 (u := .slice x2 (C * R) d2)
    have zb := (((B2.out.setCell (p := ⟨w.heap.size + 1, 0, none⟩) (by show w.heap.size ≤ _ + 1; omega) (.int .i64 C)).setCell (p := ⟨w.heap.size + 1, 1, none⟩) (by show w.heap.size ≤ _ + 1; omega) (.int .i64 R)).setCell (p := ⟨w.heap.size + 1, 2, none⟩) (by show w.heap.size ≤ _ + 1; omega) (.slice x1 (C * R) d1)).setCell (p := ⟨w.heap.size + 1, 3, none⟩) (by show w.heap.size ≤ _ + 1; omega) (.slice x2 (C * R) d2)
    have za := (((HGM.out.far (n := w.heap.size + 1) (i := 0) (u := .int .i64 C) (by omega)).far (n := w.heap.size + 1) (i := 1) (u := .int .i64 R) (by omega)).far (n := w.heap.size + 1) (i := 2) (u := .slice x1 (C * R) d1) (by omega)).far (n := w.heap.size + 1) (i := 3) (u := .slice x2 (C * R) d2) (by omega)
    have zs : ((((w2.setCell ⟨w.heap.size + 1, 0, none⟩ (.int .i64 C)).setCell ⟨w.heap.size + 1, 1, none⟩ (.int .i64 R)).setCell ⟨w.heap.size + 1, 2, none⟩ (.slice x1 (C * R) d1)).setCell ⟨w.heap.size + 1, 3, none⟩ (.slice x2 (C * R) d2)).heap.size = w2.heap.size := by simp [World.setCell]
    generalize (((w2.setCell ⟨w.heap.size + 1, 0, none⟩ (.int .i64 C)).setCell ⟨w.heap.size + 1, 1, none⟩ (.int .i64 R)).setCell ⟨w.heap.size + 1, 2, none⟩ (.slice x1 (C * R) d1)).setCell ⟨w.heap.size + 1, 3, none⟩ (.slice x2 (C * R) d2) = W5 at *
    have zf := za.wide (lo' := w.heap.size) (hi' := W5.heap.size) (by omega) (by omega) (Nat.le_refl _)
    have k0 := z.c0
    have k1 := z.c1
    have k2 := z.c2
    have k3 := z.c3
    refine bodyPost_ret (v := .tuple #[gameV C R x1 (C * R) d1 x2 (C * R) d2, .bool true]) (by simp [results, Try.f36, go_sem, k0, k1, k2, k3]) rfl ?_
    exact ⟨x1, C * R, d1, x2, C * R, d2, rfl, zf, zb⟩
end Go.Proofs.Ytnmehenkbinfmaa
