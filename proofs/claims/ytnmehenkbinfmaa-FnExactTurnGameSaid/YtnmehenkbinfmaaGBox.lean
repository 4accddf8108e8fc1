/-
  Boxes: blocks of a struct's cells that a call lays for its parameters, its variables and its results.
-/
import Derived.Test.YtnmehenkbinfmaaGBase
namespace Go.Proofs.Ytnmehenkbinfmaa
open Go.RowKit Go.ChangeShapes Go.WideShapes

section
variable {w : World} {o p q r s : Obj} {n : Nat} {T : TypeId} {v0 v1 v2 v3 u : Value}
theorem heap1 : (w.alloc o).heap[w.heap.size]? = some o := heap_alloc_new w o
theorem heap2a : ((w.alloc o).alloc p).heap[w.heap.size]? = some o := (Below.heap_alloc _ _ _ (by simp)).trans heap1
theorem heap2b : ((w.alloc o).alloc p).heap[w.heap.size + 1]? = some p := by simpa using heap_alloc_new (w.alloc o) p
theorem heap3a : (((w.alloc o).alloc p).alloc q).heap[w.heap.size]? = some o := (Below.heap_alloc _ _ _ (by first | (simp; done) | (simp; omega))).trans heap2a
theorem heap3b : (((w.alloc o).alloc p).alloc q).heap[w.heap.size + 1]? = some p := (Below.heap_alloc _ _ _ (by simp)).trans heap2b
theorem heap3c : (((w.alloc o).alloc p).alloc q).heap[w.heap.size + 2]? = some q := by simpa using heap_alloc_new ((w.alloc o).alloc p) q
theorem heap4a : ((((w.alloc o).alloc p).alloc q).alloc r).heap[w.heap.size]? = some o := (Below.heap_alloc _ _ _ (by first | (simp; done) | (simp; omega))).trans heap3a
theorem heap4b : ((((w.alloc o).alloc p).alloc q).alloc r).heap[w.heap.size + 1]? = some p := (Below.heap_alloc _ _ _ (by first | (simp; done) | (simp; omega))).trans heap3b
theorem heap4c : ((((w.alloc o).alloc p).alloc q).alloc r).heap[w.heap.size + 2]? = some q := (Below.heap_alloc _ _ _ (by simp)).trans heap3c
theorem heap4d : ((((w.alloc o).alloc p).alloc q).alloc r).heap[w.heap.size + 3]? = some r := by simpa using heap_alloc_new (((w.alloc o).alloc p).alloc q) r
theorem below1 : Below w.heap.size w (w.alloc o) := (Below.refl _ w).alloc (Nat.le_refl _) _
theorem below2 : Below w.heap.size w ((w.alloc o).alloc p) := below1.alloc (by simp) _
theorem below3 : Below w.heap.size w (((w.alloc o).alloc p).alloc q) := below2.alloc (by first | (simp; done) | (simp; omega)) _
theorem below4 : Below w.heap.size w ((((w.alloc o).alloc p).alloc q).alloc r) := below3.alloc (by first | (simp; done) | (simp; omega)) _
theorem below5 : Below w.heap.size w (((((w.alloc o).alloc p).alloc q).alloc r).alloc s) := below4.alloc (by first | (simp; done) | (simp; omega)) _

/-- a box of four cells -/
def Box4 (w : World) (n : Nat) (T : TypeId) (v0 v1 v2 v3 : Value) : Prop := w.heap[n]? = some (.cells #[v0, v1, v2, v3] T (0, 0))
theorem Box4.c0 (h : Box4 w n T v0 v1 v2 v3) : w.cell? ⟨n, 0, none⟩ = some v0 := by rw [cell_of_row w n 0 _ T (0, 0) h]; rfl
theorem Box4.c1 (h : Box4 w n T v0 v1 v2 v3) : w.cell? ⟨n, 1, none⟩ = some v1 := by rw [cell_of_row w n 1 _ T (0, 0) h]; rfl
theorem Box4.c2 (h : Box4 w n T v0 v1 v2 v3) : w.cell? ⟨n, 2, none⟩ = some v2 := by rw [cell_of_row w n 2 _ T (0, 0) h]; rfl
theorem Box4.c3 (h : Box4 w n T v0 v1 v2 v3) : w.cell? ⟨n, 3, none⟩ = some v3 := by rw [cell_of_row w n 3 _ T (0, 0) h]; rfl
theorem Box4.free (h : Box4 w n T v0 v1 v2 v3) (i : Nat) : w.frozen? ⟨n, i, none⟩ = false := frozen_of_row w n i _ T h
theorem Box4.all (h : Box4 w n T v0 v1 v2 v3) : (w.cell? ⟨n, 0, none⟩ = some v0 ∧ w.cell? ⟨n, 1, none⟩ = some v1 ∧ w.cell? ⟨n, 2, none⟩ = some v2 ∧ w.cell? ⟨n, 3, none⟩ = some v3) ∧
    (w.frozen? ⟨n, 0, none⟩ = false ∧ w.frozen? ⟨n, 1, none⟩ = false ∧ w.frozen? ⟨n, 2, none⟩ = false ∧ w.frozen? ⟨n, 3, none⟩ = false) :=
  ⟨⟨h.c0, h.c1, h.c2, h.c3⟩, h.free 0, h.free 1, h.free 2, h.free 3⟩
theorem Box4.lt (h : Box4 w n T v0 v1 v2 v3) : n < w.heap.size := by
  by_cases g : n < w.heap.size
  · exact g
  · unfold Box4 at h
    rw [Array.getElem?_eq_none (by omega)] at h
    cases h
theorem Box4.below {w' : World} (h : Box4 w n T v0 v1 v2 v3) (hb : Below w.heap.size w w') : Box4 w' n T v0 v1 v2 v3 := (hb.block n h.lt).trans h
theorem Box4.keeps {w' : World} {lo hi : Nat} (h : Box4 w n T v0 v1 v2 v3) (hb : Keeps lo hi w w') (hd : n < lo ∨ hi ≤ n) : Box4 w' n T v0 v1 v2 v3 := (hb.block n h.lt hd).trans h
theorem Box4.set2 (h : Box4 w n T v0 v1 v2 v3) : Box4 (w.setCell ⟨n, 2, none⟩ u) n T v0 v1 u v3 := (heap_setCell_same w n 2 _ T u h).trans rfl
theorem Box4.set3 (h : Box4 w n T v0 v1 v2 v3) : Box4 (w.setCell ⟨n, 3, none⟩ u) n T v0 v1 v2 u := (heap_setCell_same w n 3 _ T u h).trans rfl
theorem Box4.set1 (h : Box4 w n T v0 v1 v2 v3) : Box4 (w.setCell ⟨n, 1, none⟩ u) n T v0 u v2 v3 := (heap_setCell_same w n 1 _ T u h).trans rfl
theorem Box4.set0 (h : Box4 w n T v0 v1 v2 v3) : Box4 (w.setCell ⟨n, 0, none⟩ u) n T u v1 v2 v3 := (heap_setCell_same w n 0 _ T u h).trans rfl
theorem Box4.far {m i : Nat} (h : Box4 w n T v0 v1 v2 v3) (hd : n ≠ m) : Box4 (w.setCell ⟨m, i, none⟩ u) n T v0 v1 v2 v3 := (Below.heap_setCell w ⟨m, i, none⟩ u n hd).trans h
end

/-- the one cell that 'append(list, v)' lays ahead of the append -/
theorem news_one {W : World} {h : Nat} (v : Value) (E : TypeId) (hh : h = W.heap.size) : ∀ (j : Nat) (u : Value), [v][j]? = some u → (W.alloc (.cells #[v] E)).cell? ((⟨h, 0, none⟩ : Addr).add j) = some u := by
  subst hh
  intro j u hj
  match j, hj with
  | 0, hj =>
    simp only [List.getElem?_cons_zero, Option.some.injEq] at hj
    subst hj
    exact cell_of_row _ _ 0 _ E (0, 0) heap1
  | j + 1, hj => simp at hj
theorem one_int (n : Int) : ∀ u ∈ [Value.int .i64 n], u.oneCell' = true := by
  intro u hu
  simp only [List.mem_singleton] at hu
  subst hu
  rfl
end Go.Proofs.Ytnmehenkbinfmaa
