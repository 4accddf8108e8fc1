/-
  Both players' sides, each in a box of its own.
-/
import Derived.Test.YtpopmcgieegikaaGPureI
namespace Go.Proofs.Ytpopmcgieegikaa
open Go.RowKit Go.ChangeShapes Go.WideShapes
set_option linter.unusedVariables false

section
variable {w : World} {n : Nat} {T : TypeId} {v0 v1 v2 u : Value}
/-- a box of three cells -/
def Box3 (w : World) (n : Nat) (T : TypeId) (v0 v1 v2 : Value) : Prop := w.heap[n]? = some (.cells #[v0, v1, v2] T (0, 0))
theorem Box3.all (h : Box3 w n T v0 v1 v2) : (w.cell? ⟨n, 0, none⟩ = some v0 ∧ w.cell? ⟨n, 1, none⟩ = some v1 ∧ w.cell? ⟨n, 2, none⟩ = some v2) ∧
    (w.frozen? ⟨n, 0, none⟩ = false ∧ w.frozen? ⟨n, 1, none⟩ = false ∧ w.frozen? ⟨n, 2, none⟩ = false) :=
  ⟨⟨by rw [cell_of_row w n 0 _ T (0, 0) h]; rfl, by rw [cell_of_row w n 1 _ T (0, 0) h]; rfl, by rw [cell_of_row w n 2 _ T (0, 0) h]; rfl⟩, frozen_of_row w n 0 _ T h, frozen_of_row w n 1 _ T h, frozen_of_row w n 2 _ T h⟩
theorem Box3.lt (h : Box3 w n T v0 v1 v2) : n < w.heap.size := by
  by_cases g : n < w.heap.size
  · exact g
  · unfold Box3 at h
    rw [Array.getElem?_eq_none (by omega)] at h
    cases h
theorem Box3.below {w' : World} (h : Box3 w n T v0 v1 v2) (hb : Below w.heap.size w w') : Box3 w' n T v0 v1 v2 := (hb.block n h.lt).trans h
theorem Box3.set2 (h : Box3 w n T v0 v1 v2) : Box3 (w.setCell ⟨n, 2, none⟩ u) n T v0 v1 u := (heap_setCell_same w n 2 _ T u h).trans rfl
theorem Box3.set1 (h : Box3 w n T v0 v1 v2) : Box3 (w.setCell ⟨n, 1, none⟩ u) n T v0 u v2 := (heap_setCell_same w n 1 _ T u h).trans rfl
theorem Box3.set0 (h : Box3 w n T v0 v1 v2) : Box3 (w.setCell ⟨n, 0, none⟩ u) n T u v1 v2 := (heap_setCell_same w n 0 _ T u h).trans rfl
theorem Box3.far {m i : Nat} (h : Box3 w n T v0 v1 v2) (hd : n ≠ m) : Box3 (w.setCell ⟨m, i, none⟩ u) n T v0 v1 v2 := (Below.heap_setCell w ⟨m, i, none⟩ u n hd).trans h
theorem box43 {m : Nat} {T' : TypeId} {x0 x1 x2 x3 : Value} (h : Box4 w m T' x0 x1 x2 x3) (k : Box3 w n T v0 v1 v2) : m ≠ n := by
  rintro rfl
  have e := h.symm.trans k
  simp at e
end

/-- both players' sides, laid behind 'w0' -/
structure Sides (w0 wx : World) (R C : Nat) (s1 s2 : Value) (n4 n5 n1 n2 : Nat) : Prop where
  one : Box3 wx n4 73 (.int .i64 R) (.int .i64 C) (.func (.func 114) #[] #[.pointer (some ⟨n1, 0, none⟩)])
  two : Box3 wx n5 73 (.int .i64 C) (.int .i64 R) (.func (.func 115) #[] #[.pointer (some ⟨n2, 0, none⟩)])
  g1 : Box4 wx n1 27 (.int .i64 R) (.int .i64 C) s1 s2
  g2 : Box4 wx n2 27 (.int .i64 R) (.int .i64 C) s1 s2
  below : Below w0.heap.size w0 wx

theorem sides_stored {w0 W : World} {R C n4 n5 n1 n2 : Nat} {s1 s2 : Value} (h4 : Box3 W n4 73 (.int .i64 0) (.int .i64 0) .nilFunc) (h5 : Box3 W n5 73 (.int .i64 0) (.int .i64 0) .nilFunc) (hne : n4 ≠ n5)
    (g1 : Box4 W n1 27 (.int .i64 R) (.int .i64 C) s1 s2) (g2 : Box4 W n2 27 (.int .i64 R) (.int .i64 C) s1 s2) (hb : Below w0.heap.size w0 W) (l4 : w0.heap.size ≤ n4) (l5 : w0.heap.size ≤ n5) :
    Sides w0 ((((((W.setCell ⟨n4, 0, none⟩ (.int .i64 R)).setCell ⟨n4, 1, none⟩ (.int .i64 C)).setCell ⟨n4, 2, none⟩ (.func (.func 114) #[] #[.pointer (some ⟨n1, 0, none⟩)])).setCell ⟨n5, 0, none⟩ (.int .i64 C)).setCell ⟨n5, 1, none⟩ (.int .i64 R)).setCell ⟨n5, 2, none⟩ (.func (.func 115) #[] #[.pointer (some ⟨n2, 0, none⟩)])) R C s1 s2 n4 n5 n1 n2 :=
  ⟨(((h4.set0.set1).set2).far hne).far hne |>.far hne, ((((h5.far hne.symm).far hne.symm).far hne.symm).set0).set1.set2,
   (((((g1.far (box43 g1 h4)).far (box43 g1 h4)).far (box43 g1 h4)).far (box43 g1 h5)).far (box43 g1 h5)).far (box43 g1 h5),
   (((((g2.far (box43 g2 h4)).far (box43 g2 h4)).far (box43 g2 h4)).far (box43 g2 h5)).far (box43 g2 h5)).far (box43 g2 h5),
   (((((hb.setCell (p := ⟨n4, 0, none⟩) l4 _).setCell (p := ⟨n4, 1, none⟩) l4 _).setCell (p := ⟨n4, 2, none⟩) l4 _).setCell (p := ⟨n5, 0, none⟩) l5 _).setCell (p := ⟨n5, 1, none⟩) l5 _).setCell (p := ⟨n5, 2, none⟩) l5 _⟩

theorem sidesA {w0 W : World} {R C n1 n2 : Nat} {s1 s2 : Value} (g1 : Box4 W n1 27 (.int .i64 R) (.int .i64 C) s1 s2) (g2 : Box4 W n2 27 (.int .i64 R) (.int .i64 C) s1 s2) (hb : Below w0.heap.size w0 W) :
    Sides w0 ((W.alloc (.cells #[.int .i64 R, .int .i64 C, (.func (.func 114) #[] #[.pointer (some ⟨n1, 0, none⟩)])] 73)).alloc (.cells #[.int .i64 C, .int .i64 R, (.func (.func 115) #[] #[.pointer (some ⟨n2, 0, none⟩)])] 73)) R C s1 s2 W.heap.size (W.heap.size + 1) n1 n2 :=
  ⟨heap2a, heap2b, g1.below below2, g2.below below2, below_after hb (Nat.le_refl _) below2⟩

theorem sidesA' {w0 W : World} {R C n1 n2 : Nat} {s1 s2 : Value} (g1 : Box4 W n1 27 (.int .i64 R) (.int .i64 C) s1 s2) (g2 : Box4 W n2 27 (.int .i64 R) (.int .i64 C) s1 s2) (hb : Below w0.heap.size w0 W) :
    Sides w0 ((W.alloc (.cells #[.int .i64 C, .int .i64 R, (.func (.func 115) #[] #[.pointer (some ⟨n2, 0, none⟩)])] 73)).alloc (.cells #[.int .i64 R, .int .i64 C, (.func (.func 114) #[] #[.pointer (some ⟨n1, 0, none⟩)])] 73)) R C s1 s2 (W.heap.size + 1) W.heap.size n1 n2 :=
  ⟨heap2b, heap2a, g1.below below2, g2.below below2, below_after hb (Nat.le_refl _) below2⟩

theorem sidesB {w0 W : World} {R C n4 n1 n2 : Nat} {s1 s2 : Value} (h4 : Box3 W n4 73 (.int .i64 0) (.int .i64 0) .nilFunc) (g1 : Box4 W n1 27 (.int .i64 R) (.int .i64 C) s1 s2) (g2 : Box4 W n2 27 (.int .i64 R) (.int .i64 C) s1 s2) (hb : Below w0.heap.size w0 W) (l4 : w0.heap.size ≤ n4) :
    Sides w0 ((((W.setCell ⟨n4, 0, none⟩ (.int .i64 R)).setCell ⟨n4, 1, none⟩ (.int .i64 C)).setCell ⟨n4, 2, none⟩ (.func (.func 114) #[] #[.pointer (some ⟨n1, 0, none⟩)])).alloc (.cells #[.int .i64 C, .int .i64 R, (.func (.func 115) #[] #[.pointer (some ⟨n2, 0, none⟩)])] 73)) R C s1 s2 n4 W.heap.size n1 n2 := by
  have e : (((W.setCell ⟨n4, 0, none⟩ (.int .i64 R)).setCell ⟨n4, 1, none⟩ (.int .i64 C)).setCell ⟨n4, 2, none⟩ (.func (.func 114) #[] #[.pointer (some ⟨n1, 0, none⟩)])).heap.size = W.heap.size := by simp [World.setCell]
  have two := heap1 (w := ((W.setCell ⟨n4, 0, none⟩ (.int .i64 R)).setCell ⟨n4, 1, none⟩ (.int .i64 C)).setCell ⟨n4, 2, none⟩ (.func (.func 114) #[] #[.pointer (some ⟨n1, 0, none⟩)])) (o := (.cells #[.int .i64 C, .int .i64 R, (.func (.func 115) #[] #[.pointer (some ⟨n2, 0, none⟩)])] 73))
  rw [e] at two
  have hb3 := ((hb.setCell (p := ⟨n4, 0, none⟩) l4 (.int .i64 R)).setCell (p := ⟨n4, 1, none⟩) l4 (.int .i64 C)).setCell (p := ⟨n4, 2, none⟩) l4 (.func (.func 114) #[] #[.pointer (some ⟨n1, 0, none⟩)])
  exact ⟨h4.set0.set1.set2.below below1, two, (((g1.far (box43 g1 h4)).far (box43 g1 h4)).far (box43 g1 h4)).below below1, (((g2.far (box43 g2 h4)).far (box43 g2 h4)).far (box43 g2 h4)).below below1, below_after hb3 (Nat.le_refl _) below1⟩

theorem sidesB' {w0 W : World} {R C n5 n1 n2 : Nat} {s1 s2 : Value} (h5 : Box3 W n5 73 (.int .i64 0) (.int .i64 0) .nilFunc) (g1 : Box4 W n1 27 (.int .i64 R) (.int .i64 C) s1 s2) (g2 : Box4 W n2 27 (.int .i64 R) (.int .i64 C) s1 s2) (hb : Below w0.heap.size w0 W) (l5 : w0.heap.size ≤ n5) :
    Sides w0 ((((W.setCell ⟨n5, 0, none⟩ (.int .i64 C)).setCell ⟨n5, 1, none⟩ (.int .i64 R)).setCell ⟨n5, 2, none⟩ (.func (.func 115) #[] #[.pointer (some ⟨n2, 0, none⟩)])).alloc (.cells #[.int .i64 R, .int .i64 C, (.func (.func 114) #[] #[.pointer (some ⟨n1, 0, none⟩)])] 73)) R C s1 s2 W.heap.size n5 n1 n2 := by
  have e : (((W.setCell ⟨n5, 0, none⟩ (.int .i64 C)).setCell ⟨n5, 1, none⟩ (.int .i64 R)).setCell ⟨n5, 2, none⟩ (.func (.func 115) #[] #[.pointer (some ⟨n2, 0, none⟩)])).heap.size = W.heap.size := by simp [World.setCell]
  have two := heap1 (w := ((W.setCell ⟨n5, 0, none⟩ (.int .i64 C)).setCell ⟨n5, 1, none⟩ (.int .i64 R)).setCell ⟨n5, 2, none⟩ (.func (.func 115) #[] #[.pointer (some ⟨n2, 0, none⟩)])) (o := (.cells #[.int .i64 R, .int .i64 C, (.func (.func 114) #[] #[.pointer (some ⟨n1, 0, none⟩)])] 73))
  rw [e] at two
  have hb3 := ((hb.setCell (p := ⟨n5, 0, none⟩) l5 (.int .i64 C)).setCell (p := ⟨n5, 1, none⟩) l5 (.int .i64 R)).setCell (p := ⟨n5, 2, none⟩) l5 (.func (.func 115) #[] #[.pointer (some ⟨n2, 0, none⟩)])
  exact ⟨two, h5.set0.set1.set2.below below1, (((g1.far (box43 g1 h5)).far (box43 g1 h5)).far (box43 g1 h5)).below below1, (((g2.far (box43 g2 h5)).far (box43 g2 h5)).far (box43 g2 h5)).below below1, below_after hb3 (Nat.le_refl _) below1⟩
end Go.Proofs.Ytpopmcgieegikaa
