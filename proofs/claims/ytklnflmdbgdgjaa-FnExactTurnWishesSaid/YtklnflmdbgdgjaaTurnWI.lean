/-
  TurnWishes: the program's walk.
-/
import Derived.Test.YtklnflmdbgdgjaaTurnW
import Derived.Deep.RegionLaw
namespace Go.Proofs.Ytklnflmdbgdgjaa
open Go.RowKit Go.ChangeShapes Go.WideShapes
set_option linter.unusedVariables false

def KeepTimpl (w0 : World) (n : Nat) (v0 v1 : Value) (w : World) : Prop := True
theorem keepTimpl {w0 w w' : World} {n m : Nat} {v0 v1 u0 u1 : Value} (h : Hid (Below w0.heap.size w0 w) ∧ (w.cell? ⟨n, 0, none⟩ = some v0 ∧ w.cell? ⟨n, 1, none⟩ = some v1) ∧ (w.cell? ⟨m, 0, none⟩ = some u0 ∧ w.cell? ⟨m, 1, none⟩ = some u1) ∧ (w.frozen? ⟨m, 0, none⟩ = false ∧ w.frozen? ⟨m, 1, none⟩ = false)) (hb : Hid (Below w.heap.size w w')) :
    Hid (Below w0.heap.size w0 w') ∧ (w'.cell? ⟨n, 0, none⟩ = some v0 ∧ w'.cell? ⟨n, 1, none⟩ = some v1) ∧ (w'.cell? ⟨m, 0, none⟩ = some u0 ∧ w'.cell? ⟨m, 1, none⟩ = some u1) ∧ (w'.frozen? ⟨m, 0, none⟩ = false ∧ w'.frozen? ⟨m, 1, none⟩ = false) := by
  have hm : m < w.heap.size := World.block_lt_of_cell? w ⟨m, 0, none⟩ h.2.2.1.1
  exact ⟨Lib.hid (below_after h.1.out (Nat.le_refl _) hb.out), cells2_on h.2.1 hb.out, cells2_on h.2.2.1 hb.out, (hb.out.frozen (p := ⟨m, 0, none⟩) hm).trans h.2.2.2.1, (hb.out.frozen (p := ⟨m, 1, none⟩) hm).trans h.2.2.2.2⟩

set_option maxHeartbeats 2000000 in
set_option maxRecDepth 20000 in
theorem implTurnWishes_any (a1 : Option Addr) (l1 c1 : Nat) (a2 : Option Addr) (l2 c2 : Nat) (A B : List (List Int)) (w : World) (h : WAt w a1 l1 a2 l2 A B) :
    Calls Try.prog 15 #[wishesV a1 l1 c1 a2 l2 c2] w (OutWishes w (turnW A B)) := by
  have b0 : Below w.heap.size w ((w.alloc (.cells #[.slice a1 l1 c1, .slice a2 l2 c2] 27)).alloc (.cells #[.slice none 0 0, .slice none 0 0] 27)) := below2
  have HW := Lib.hid (h.below b0)
  have HX : Hid (Box2 _ w.heap.size 27 (.slice a1 l1 c1) (.slice a2 l2 c2)) := Lib.hid (heap2a (w := w) (o := .cells #[.slice a1 l1 c1, .slice a2 l2 c2] 27) (p := .cells #[.slice none 0 0, .slice none 0 0] 27))
  have HR : Hid (Box2 _ (w.heap.size + 1) 27 (.slice none 0 0) (.slice none 0 0)) := Lib.hid (heap2b (w := w) (o := .cells #[.slice a1 l1 c1, .slice a2 l2 c2] 27) (p := .cells #[.slice none 0 0, .slice none 0 0] 27))
  have B0 := Lib.hid b0
  clear h b0
  cases s1 : okWish A B with
  | false =>
    have S1 := Lib.hid s1
    rw [turnW_no s1]
    clear s1
    go_enter Try.func15, Try.ntmps15
    go_wp2_with fail
    refine (implValidWishes_any a1 l1 c1 a2 l2 c2 A B _ HW.out).mono ?_
    rintro e w1 ⟨rfl, b1⟩
    rw [S1.out]
    have B1 := Lib.hid (below_after B0.out (Nat.le_refl _) b1)
    have hr := HR.out.below b1
    have HR1 := Lib.hid hr
    obtain ⟨⟨r0, r1⟩, g0, g1⟩ := hr.all
    clear b1 hr
    go_wp2_with fail
    have z := (HR1.out.set0 (u := .slice none 0 0)).set1 (u := .slice none 0 0)
    have zb := (B1.out.setCell (p := ⟨w.heap.size + 1, 0, none⟩) (by show w.heap.size ≤ _ + 1; omega) (.slice none 0 0)).setCell (p := ⟨w.heap.size + 1, 1, none⟩) (by show w.heap.size ≤ _ + 1; omega) (.slice none 0 0)
    have zs : w.heap.size ≤ ((w1.setCell ⟨w.heap.size + 1, 0, none⟩ (.slice none 0 0)).setCell ⟨w.heap.size + 1, 1, none⟩ (.slice none 0 0)).heap.size := zb.size
    generalize (w1.setCell ⟨w.heap.size + 1, 0, none⟩ (.slice none 0 0)).setCell ⟨w.heap.size + 1, 1, none⟩ (.slice none 0 0) = W5 at *
    have c0 := z.c0
    have c1 := z.c1
    refine bodyPost_ret (v := .tuple #[wishesV none 0 0 none 0 0, .bool false]) (by simp [results, Try.f15, go_sem, c0, c1]) rfl ?_
    exact ⟨none, 0, 0, none, 0, 0, rfl, ownW_nil _ zs (Nat.le_refl _), zb⟩
  | true =>
    have S1 := Lib.hid s1
    rw [turnW_yes s1]
    obtain ⟨⟨k1, k2, k3⟩, k4, k5⟩ := okWish_in s1
    have hl1 : l1 ≤ 1048576 := by have := HW.out.1.1; omega
    have hl2 : l2 ≤ 1048576 := by have := HW.out.2.1; omega
    have HT := Lib.hid (show tot A ≤ 1048576 ∧ tot B ≤ 1048576 by omega)
    clear s1 k1 k2 k3 k4 k5
    go_enter Try.func15, Try.ntmps15
    go_wp2_with fail
    refine (implValidWishes_any a1 l1 c1 a2 l2 c2 A B _ HW.out).mono ?_
    rintro e w1 ⟨rfl, b1⟩
    rw [S1.out]
    have B1 := Lib.hid (below_after B0.out (Nat.le_refl _) b1)
    have HW1 := Lib.hid (HW.out.below b1)
    have hr := HR.out.below b1
    have HR1 := Lib.hid hr
    obtain ⟨⟨r0, r1⟩, g0, g1⟩ := hr.all
    have HXX := Lib.hid (HX.out.below b1)
    obtain ⟨⟨x0, x1⟩, _⟩ := HXX.out.all
    have hz1 : w.heap.size + 2 ≤ w1.heap.size := by have := b1.size; simp at this; omega
    have hrlt := HR1.out.lt
    clear b1 hr
    go_wp2_with fail
    have HX1 := Lib.hid (HXX.out)
    clear HXX x0 x1 r0 r1 g0 g1
    obtain ⟨⟨x0, x1⟩, _⟩ := HX1.out.all
    obtain ⟨⟨r0, r1⟩, g0, g1⟩ := HR1.out.all
    go_region_law (first
      | (go_simp; go_at_call_of 32 (Value.slice a1 l1 c1)
         refine (copiesOf_any a1 l1 c1 A _ hl1 HT.out.1 (by first | exact (HW1.out.below BX.out).1 | exact (HW1.out.below (Below.drew (Below.refl _ _))).1)).mono ?_
         rintro e wA ⟨aA, nA, cA, rfl, oA, bA⟩
         have HGA := Lib.hid oA
         first
           | replace HGB := Lib.hid (HGB.out.below bA)
           | skip
         first
           | replace BX := Lib.hid (below_after BX.out (Nat.le_refl _) bA)
           | have BX := Lib.hid (below_after (Below.drew (Below.refl w1.heap.size w1)) (Nat.le_refl _) bA)
         have leA := bA.size
         clear oA bA
         obtain ⟨⟨y0, y1⟩, _⟩ := (HX1.out.below BX.out).all
         obtain ⟨⟨z0, z1⟩, h0, h1⟩ := (HR1.out.below BX.out).all)
      | (go_simp; go_at_call_of 32 (Value.slice a2 l2 c2)
         refine (copiesOf_any a2 l2 c2 B _ hl2 HT.out.2 (by first | exact (HW1.out.below BX.out).2 | exact (HW1.out.below (Below.drew (Below.refl _ _))).2)).mono ?_
         rintro e wB ⟨aB, nB, cB, rfl, oB, bB⟩
         have HGB := Lib.hid oB
         first
           | replace HGA := Lib.hid (HGA.out.below bB)
           | skip
         first
           | replace BX := Lib.hid (below_after BX.out (Nat.le_refl _) bB)
           | have BX := Lib.hid (below_after (Below.drew (Below.refl w1.heap.size w1)) (Nat.le_refl _) bB)
         have leB := bB.size
         clear oB bB
         obtain ⟨⟨y0, y1⟩, _⟩ := (HX1.out.below BX.out).all
         obtain ⟨⟨z0, z1⟩, h0, h1⟩ := (HR1.out.below BX.out).all))
    all_goals
      clear x0 x1 r0 r1 g0 g1
      have lB : w1.heap.size ≤ wB.heap.size := leB
      have hBX := Lib.hid (below_after B1.out (Nat.le_refl _) BX.out)
      have HR2 := Lib.hid (HR1.out.below BX.out)
      go_wp2_with fail
      have z := (HR2.out.set0 (u := .slice aB nB cB)).set1 (u := .slice aA nA cA)
      have zb := (hBX.out.setCell (p := ⟨w.heap.size + 1, 0, none⟩) (by show w.heap.size ≤ _ + 1; omega) (.slice aB nB cB)).setCell (p := ⟨w.heap.size + 1, 1, none⟩) (by show w.heap.size ≤ _ + 1; omega) (.slice aA nA cA)
      have ob := (OwnR.far (n := w.heap.size + 1) (i := 0) (u := .slice aB nB cB) HGB.out (.inl (by show _ < w1.heap.size; omega))).far (n := w.heap.size + 1) (i := 1) (u := .slice aA nA cA) (.inl (by show _ < w1.heap.size; omega))
      have oa := (OwnR.far (n := w.heap.size + 1) (i := 0) (u := .slice aB nB cB) HGA.out (.inl (by omega))).far (n := w.heap.size + 1) (i := 1) (u := .slice aA nA cA) (.inl (by omega))
      have hsz : ((wA.setCell ⟨w.heap.size + 1, 0, none⟩ (.slice aB nB cB)).setCell ⟨w.heap.size + 1, 1, none⟩ (.slice aA nA cA)).heap.size = wA.heap.size := by simp [World.setCell]
      generalize (wA.setCell ⟨w.heap.size + 1, 0, none⟩ (.slice aB nB cB)).setCell ⟨w.heap.size + 1, 1, none⟩ (.slice aA nA cA) = W5 at *
      have c0 := z.c0
      have c1 := z.c1
      refine bodyPost_ret (v := .tuple #[wishesV aB nB cB aA nA cA, .bool true]) (by simp [results, Try.f15, go_sem, c0, c1]) rfl ?_
      exact ⟨aB, nB, cB, aA, nA, cA, rfl, ⟨wB.heap.size, by omega, by omega, ob.wide (by show w.heap.size ≤ w1.heap.size; omega) (Nat.le_refl _) (by omega), oa.wide (Nat.le_refl _) (by omega) (Nat.le_refl _)⟩, zb⟩
end Go.Proofs.Ytklnflmdbgdgjaa
