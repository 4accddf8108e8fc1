/-
  The reference: worths are given if they are valid; OtherOf.
-/
import Derived.Test.YtljlijmdjbodcaaWOther
import Derived.Test.YtljlijmdjbodcaaWIs
namespace Go.Proofs.Ytljlijmdjbodcaa
open Go.RowKit Go.Shelf
set_option linter.unusedVariables false

def giveV (p : Int) (a : Option Addr) (l c : Nat) (A : List Int) : Value := if okW p A then .tuple #[worthsV p a l c, .bool true] else .tuple #[worthsV 0 none 0 0, .bool false]
theorem giveV_no {p : Int} {a : Option Addr} {l c : Nat} {A : List Int} (h : okW p A = false) : giveV p a l c A = .tuple #[worthsV 0 none 0 0, .bool false] := by unfold giveV; rw [h]; rfl
theorem giveV_yes {p : Int} {a : Option Addr} {l c : Nat} {A : List Int} (h : okW p A = true) : giveV p a l c A = .tuple #[worthsV p a l c, .bool true] := by unfold giveV; rw [h]; rfl

set_option maxRecDepth 20000 in
theorem give_any (p : Int) (a1 : Option Addr) (l1 c1 : Nat) (A : List Int) (w : World) (hA : IAt w a1 l1 A) :
    Calls Try.prog 65 #[worthsV p a1 l1 c1] w fun e w' => e = .returned (giveV p a1 l1 c1 A) ∧ Below w.heap.size w w' := by
  have b0 := Lib.hid (below2 (w := w) (o := .cells #[.int .i64 p, .slice a1 l1 c1] 27) (p := .cells #[.int .i64 0, .slice none 0 0] 27))
  have HA := Lib.hid (hA.below b0.out)
  have HX : Hid (Box2 _ w.heap.size 27 (.int .i64 p) (.slice a1 l1 c1)) := Lib.hid (heap2a (w := w) (p := .cells #[.int .i64 0, .slice none 0 0] 27))
  have HR : Hid (Box2 _ (w.heap.size + 1) 27 (.int .i64 0) (.slice none 0 0)) := Lib.hid (heap2b (w := w) (o := .cells #[.int .i64 p, .slice a1 l1 c1] 27))
  clear hA
  cases s1 : okW p A with
  | false =>
    have S1 := Lib.hid s1
    rw [giveV_no s1]
    clear s1
    go_enter Try.func65, Try.ntmps65
    go_wp2_with fail
    refine (specIsW_any w.heap.size p a1 l1 c1 A _ HX.out HA.out).mono ?_
    rintro e w1 ⟨rfl, s1⟩
    rw [S1.out]
    have b1 := same_below s1 (((w.alloc (.cells #[.int .i64 p, .slice a1 l1 c1] 27)).alloc (.cells #[.int .i64 0, .slice none 0 0] 27))).heap.size
    have B1 := Lib.hid (below_after b0.out (Nat.le_refl _) b1)
    have hr := HR.out.below b1
    have HR1 := Lib.hid hr
    obtain ⟨⟨r0, r1⟩, g0, g1⟩ := hr.all
    clear b1 hr s1
    go_wp2_with fail
    have z := (HR1.out.set0 (u := .int .i64 0)).set1 (u := .slice none 0 0)
    have zb := (B1.out.setCell (p := ⟨w.heap.size + 1, 0, none⟩) (by show w.heap.size ≤ _ + 1; omega) (.int .i64 0)).setCell (p := ⟨w.heap.size + 1, 1, none⟩) (by show w.heap.size ≤ _ + 1; omega) (.slice none 0 0)
    generalize (w1.setCell ⟨w.heap.size + 1, 0, none⟩ (.int .i64 0)).setCell ⟨w.heap.size + 1, 1, none⟩ (.slice none 0 0) = W5 at *
    have c0 := z.c0
    have c1 := z.c1
    refine bodyPost_ret (v := .tuple #[worthsV 0 none 0 0, .bool false]) (by simp [results, Try.f65, go_sem, c0, c1]) rfl ?_
    exact ⟨rfl, zb⟩
  | true =>
    have S1 := Lib.hid s1
    rw [giveV_yes s1]
    clear s1
    go_enter Try.func65, Try.ntmps65
    go_wp2_with fail
    refine (specIsW_any w.heap.size p a1 l1 c1 A _ HX.out HA.out).mono ?_
    rintro e w1 ⟨rfl, s1⟩
    rw [S1.out]
    have b1 := same_below s1 (((w.alloc (.cells #[.int .i64 p, .slice a1 l1 c1] 27)).alloc (.cells #[.int .i64 0, .slice none 0 0] 27))).heap.size
    have B1 := Lib.hid (below_after b0.out (Nat.le_refl _) b1)
    have hr := HR.out.below b1
    have HR1 := Lib.hid hr
    obtain ⟨⟨r0, r1⟩, g0, g1⟩ := hr.all
    obtain ⟨⟨x0, x1⟩, _⟩ := (HX.out.below b1).all
    clear b1 hr s1
    go_wp2_with fail
    have z := (HR1.out.set0 (u := .int .i64 p)).set1 (u := .slice a1 l1 c1)
    have zb := (B1.out.setCell (p := ⟨w.heap.size + 1, 0, none⟩) (by show w.heap.size ≤ _ + 1; omega) (.int .i64 p)).setCell (p := ⟨w.heap.size + 1, 1, none⟩) (by show w.heap.size ≤ _ + 1; omega) (.slice a1 l1 c1)
    generalize (w1.setCell ⟨w.heap.size + 1, 0, none⟩ (.int .i64 p)).setCell ⟨w.heap.size + 1, 1, none⟩ (.slice a1 l1 c1) = W5 at *
    have c0 := z.c0
    have c1 := z.c1
    refine bodyPost_ret (v := .tuple #[worthsV p a1 l1 _, .bool true]) (by simp [results, Try.f65, go_sem, c0, c1]; rfl) rfl ?_
    exact ⟨rfl, zb⟩
end Go.Proofs.Ytljlijmdjbodcaa
