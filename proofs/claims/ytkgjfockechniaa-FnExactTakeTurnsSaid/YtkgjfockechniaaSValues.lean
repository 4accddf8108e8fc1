/-
  The laws' own small functions on Values: sizes, copies, comparisons, marks.
-/
import Derived.Test.YtkgjfockechniaaGCom
namespace Go.Proofs.Ytkgjfockechniaa
open Go.RowKit Go.ChangeShapes Go.WideShapes
set_option linter.unusedVariables false

abbrev valuesV (p0 p1 : Int) (a1 : Option Addr) (l1 c1 : Nat) : Value := .agg #[.int .i64 p0, .int .i64 p1, .slice a1 l1 c1]
section
variable {w : World} {n : Nat} {T : TypeId} {v0 v1 v2 u : Value}
/-- a box of 3 cells -/
def Box3 (w : World) (n : Nat) (T : TypeId) (v0 v1 v2 : Value) : Prop := w.heap[n]? = some (.cells #[v0, v1, v2] T (0, 0))
theorem Box3.c0 (h : Box3 w n T v0 v1 v2) : w.cell? ⟨n, 0, none⟩ = some v0 := by rw [cell_of_row w n 0 _ T (0, 0) h]; rfl
theorem Box3.c1 (h : Box3 w n T v0 v1 v2) : w.cell? ⟨n, 1, none⟩ = some v1 := by rw [cell_of_row w n 1 _ T (0, 0) h]; rfl
theorem Box3.c2 (h : Box3 w n T v0 v1 v2) : w.cell? ⟨n, 2, none⟩ = some v2 := by rw [cell_of_row w n 2 _ T (0, 0) h]; rfl
theorem Box3.free (h : Box3 w n T v0 v1 v2) (i : Nat) : w.frozen? ⟨n, i, none⟩ = false := frozen_of_row w n i _ T h
theorem Box3.all (h : Box3 w n T v0 v1 v2) : (w.cell? ⟨n, 0, none⟩ = some v0 ∧ w.cell? ⟨n, 1, none⟩ = some v1 ∧ w.cell? ⟨n, 2, none⟩ = some v2) ∧ (w.frozen? ⟨n, 0, none⟩ = false ∧ w.frozen? ⟨n, 1, none⟩ = false ∧ w.frozen? ⟨n, 2, none⟩ = false) :=
  ⟨⟨h.c0, h.c1, h.c2⟩, h.free 0, h.free 1, h.free 2⟩
theorem Box3.lt (h : Box3 w n T v0 v1 v2) : n < w.heap.size := by
  by_cases g : n < w.heap.size
  · exact g
  · unfold Box3 at h
    rw [Array.getElem?_eq_none (by omega)] at h
    cases h
theorem Box3.below {w' : World} (h : Box3 w n T v0 v1 v2) (hb : Below w.heap.size w w') : Box3 w' n T v0 v1 v2 := (hb.block n h.lt).trans h
theorem Box3.keeps {w' : World} {lo hi : Nat} (h : Box3 w n T v0 v1 v2) (hb : Keeps lo hi w w') (hd : n < lo ∨ hi ≤ n) : Box3 w' n T v0 v1 v2 := (hb.block n h.lt hd).trans h
theorem Box3.far {m i : Nat} (h : Box3 w n T v0 v1 v2) (hd : n ≠ m) : Box3 (w.setCell ⟨m, i, none⟩ u) n T v0 v1 v2 := (Below.heap_setCell w ⟨m, i, none⟩ u n hd).trans h
theorem Box3.set0 (h : Box3 w n T v0 v1 v2) : Box3 (w.setCell ⟨n, 0, none⟩ u) n T u v1 v2 := (heap_setCell_same w n 0 _ T u h).trans rfl
theorem Box3.set1 (h : Box3 w n T v0 v1 v2) : Box3 (w.setCell ⟨n, 1, none⟩ u) n T v0 u v2 := (heap_setCell_same w n 1 _ T u h).trans rfl
theorem Box3.set2 (h : Box3 w n T v0 v1 v2) : Box3 (w.setCell ⟨n, 2, none⟩ u) n T v0 v1 u := (heap_setCell_same w n 2 _ T u h).trans rfl
end

theorem cells3_on {w w' : World} {n : Nat} {v0 v1 v2 : Value} (h : w.cell? ⟨n, 0, none⟩ = some v0 ∧ w.cell? ⟨n, 1, none⟩ = some v1 ∧ w.cell? ⟨n, 2, none⟩ = some v2) (hb : Below w.heap.size w w') : w'.cell? ⟨n, 0, none⟩ = some v0 ∧ w'.cell? ⟨n, 1, none⟩ = some v1 ∧ w'.cell? ⟨n, 2, none⟩ = some v2 := by
  have hn : n < w.heap.size := World.block_lt_of_cell? w ⟨n, 0, none⟩ h.1
  exact ⟨(hb.cell (p := ⟨n, 0, none⟩) hn).trans h.1, (hb.cell (p := ⟨n, 1, none⟩) hn).trans h.2.1, (hb.cell (p := ⟨n, 2, none⟩) hn).trans h.2.2⟩
theorem keep2_3_3 {w0 w w' : World} {n m : Nat} {v0 v1 v2 u0 u1 u2 : Value} (h : Hid (Below w0.heap.size w0 w) ∧ (w.cell? ⟨n, 0, none⟩ = some v0 ∧ w.cell? ⟨n, 1, none⟩ = some v1 ∧ w.cell? ⟨n, 2, none⟩ = some v2) ∧ (w.cell? ⟨m, 0, none⟩ = some u0 ∧ w.cell? ⟨m, 1, none⟩ = some u1 ∧ w.cell? ⟨m, 2, none⟩ = some u2)) (hb : Hid (Below w.heap.size w w')) :
    Hid (Below w0.heap.size w0 w') ∧ (w'.cell? ⟨n, 0, none⟩ = some v0 ∧ w'.cell? ⟨n, 1, none⟩ = some v1 ∧ w'.cell? ⟨n, 2, none⟩ = some v2) ∧ (w'.cell? ⟨m, 0, none⟩ = some u0 ∧ w'.cell? ⟨m, 1, none⟩ = some u1 ∧ w'.cell? ⟨m, 2, none⟩ = some u2) :=
  ⟨Lib.hid (below_after h.1.out (Nat.le_refl _) hb.out), cells3_on h.2.1 hb.out, cells3_on h.2.2 hb.out⟩

theorem szValues_any (p0 p1 : Int) (a1 : Option Addr) (l1 c1 : Nat) (left : Int) (h0 : 0 ≤ left) (hl : left ≤ 1048576) (hm1 : l1 ≤ maxLen) (w : World) :
    Calls Try.prog 19 #[valuesV p0 p1 a1 l1 c1, .int .i64 left] w fun e w' => e = .returned (.int .i64 (leftOf left l1)) ∧ Below w.heap.size w w' := by
  have HM1 := Lib.hid hm1
  clear hm1
  by_cases g1 : (l1 : Int) ≤ left
  · have b := leftOf_le h0 hl g1
    clear g1
    obtain ⟨b0, b1⟩ := b
    generalize hx : leftOf left l1 = x at *
    have HX := Lib.hid hx
    clear hx
    go_enter Try.func19, Try.ntmps19
    go_wp2_with fail
    refine (sz_any a1 l1 c1 left HM1.out h0 hl _).mono ?_
    rintro e w' ⟨rfl, rfl⟩
    rw [HX.out]
    go_wp2_with fail
    go_ret
    exact ⟨rfl, below1⟩
  · have HX := Lib.hid (leftOf_no g1)
    clear g1
    rw [HX.out]
    go_enter Try.func19, Try.ntmps19
    go_wp2_with fail
    refine (sz_any a1 l1 c1 left HM1.out h0 hl _).mono ?_
    rintro e w' ⟨rfl, rfl⟩
    rw [HX.out]
    go_wp2_with fail
    go_ret
    exact ⟨rfl, below1⟩

/-- Values handed back, its list in a row of the call's own, and whether it is told -/
def OutValues (w : World) (x : Int × Int × List Int × Bool) (e : Ending) (w' : World) : Prop :=
  ∃ a len cap, e = .returned (.tuple #[valuesV x.1 x.2.1 a len cap, .bool x.2.2.2]) ∧ Own w' w.heap.size w'.heap.size a len cap x.2.2.1 ∧ Below w.heap.size w w'

def CopiedValues (w : World) (p0 p1 : Int) (l1 : Nat) (A : List Int) (e : Ending) (w' : World) : Prop :=
  ∃ g1, e = .returned (valuesV p0 p1 (some ⟨g1, 0, none⟩) l1 l1) ∧ Own w' w.heap.size w'.heap.size (some ⟨g1, 0, none⟩) l1 l1 A ∧ Below w.heap.size w w'

theorem toValues_any (p0 p1 : Int) (a1 : Option Addr) (l1 c1 : Nat) (A : List Int) (w : World) (hl1 : l1 ≤ 1048576) (hA : IAt w a1 l1 A) :
    Calls Try.prog 21 #[valuesV p0 p1 a1 l1 c1] w (CopiedValues w p0 p1 l1 A) := by
  have HA := Lib.hid hA.inB
  clear hA
  go_enter Try.func21, Try.ntmps21
  go_wp2_with fail
  refine (copy_any a1 l1 c1 A _ hl1 (HA.out.keep below3).1).mono ?_
  rintro e w1 ⟨g1, rfl, o1, b1⟩
  have y2 : Box3 w1 (w.heap.size + 1) 27 (.int .i64 0) (.int .i64 0) (.slice none 0 0) := (b1.block _ (by simp)).trans heap3b
  have y3 : Box3 w1 (w.heap.size + 2) 27 (.int .i64 p0) (.int .i64 p1) (.slice none 0 0) := (b1.block _ (by simp)).trans heap3c
  have B2 := Lib.hid (below_after (below3 (w := w)) (Nat.le_refl _) b1)
  have O1 := Lib.hid o1
  have S1 := Lib.hid b1.size
  obtain ⟨⟨p_0, p_1, p_2⟩, q0, q1, q2⟩ := y2.all
  obtain ⟨⟨s0, s1, s2⟩, t0, t1, t2⟩ := y3.all
  have Y2 := Lib.hid y2
  clear o1 b1 y2 y3
  go_wp2_with fail
  have z2 := ((((Y2.out.far (m := w.heap.size + 2) (i := 2) (u := .slice (some ⟨g1, 0, none⟩) l1 l1) (by omega)).set0 (u := .int .i64 p0)).set1 (u := .int .i64 p1)).set2 (u := .slice (some ⟨g1, 0, none⟩) l1 l1))
  refine bodyPost_ret (results_cell_row (p := 2) (by kernel_rfl) _ _ (w.heap.size + 1) _ _ _ _ rfl z2 Try.underlying27 rfl (by kernel_rfl)) rfl ?_
  have hs1 : w.heap.size + 3 ≤ w1.heap.size := by have := S1.out; simp at this; omega
  have o1 := O1.out.wide (lo' := w.heap.size + 3) (hi' := w1.heap.size) (by simp) (Nat.le_refl _) (Nat.le_refl _)
  have o1 := ((((o1.far (n := w.heap.size + 2) (i := 2) (u := .slice (some ⟨g1, 0, none⟩) l1 l1) (by omega)).far (n := w.heap.size + 1) (i := 0) (u := .int .i64 p0) (by omega)).far (n := w.heap.size + 1) (i := 1) (u := .int .i64 p1) (by omega)).far (n := w.heap.size + 1) (i := 2) (u := .slice (some ⟨g1, 0, none⟩) l1 l1) (by omega))
  have bf := ((((B2.out.setCell (p := ⟨w.heap.size + 2, 2, none⟩) (by show w.heap.size ≤ _ + 2; omega) (.slice (some ⟨g1, 0, none⟩) l1 l1)).setCell (p := ⟨w.heap.size + 1, 0, none⟩) (by show w.heap.size ≤ _ + 1; omega) (.int .i64 p0)).setCell (p := ⟨w.heap.size + 1, 1, none⟩) (by show w.heap.size ≤ _ + 1; omega) (.int .i64 p1)).setCell (p := ⟨w.heap.size + 1, 2, none⟩) (by show w.heap.size ≤ _ + 1; omega) (.slice (some ⟨g1, 0, none⟩) l1 l1))
  have he : ∀ (x : World) (a : Addr) (u : Value), (x.setCell a u).heap.size = x.heap.size := fun x a u => by simp [World.setCell]
  refine ⟨g1, rfl, o1.wide (by omega) ?_ (Nat.le_refl _), bf⟩
  repeat rw [he]
  exact Nat.le_refl _

theorem eqValues_any (p0 p1 : Int) (a1 : Option Addr) (l1 c1 : Nat) (a3 : Option Addr) (c3 : Nat) (A : List Int) (w : World) (hA : IAt w a1 l1 A) (hA' : IAt w a3 l1 A) :
    Calls Try.prog 23 #[valuesV p0 p1 a1 l1 c1, valuesV p0 p1 a3 l1 c3] w fun e w' => e = .returned (.bool true) ∧ Below w.heap.size w w' := by
  have HA := Lib.hid hA
  have HA' := Lib.hid hA'
  clear hA hA'
  go_enter Try.func23, Try.ntmps23
  go_wp2_with fail
  have b0 : Below w.heap.size w ((w.alloc (.cells #[.int .i64 p0, .int .i64 p1, .slice a1 l1 c1] 27)).alloc (.cells #[.int .i64 p0, .int .i64 p1, .slice a3 l1 c3] 27)) := below2
  refine (eq_any a1 a3 l1 c1 c3 A _ (HA.out.below b0) (HA'.out.below b0)).mono ?_
  rintro e w1 ⟨rfl, n1, rfl⟩
  have B0 := Lib.hid b0
  clear b0
  go_wp2_with fail
  go_ret
  exact ⟨rfl, B0.out.trans (same_below ⟨_, rfl⟩ _)⟩

def MarkedValues (w : World) (lo hi : Nat) (a1 : Option Addr) (l1 c1 : Nat) (k : Int) (e : Ending) (w' : World) : Prop :=
  e = .returned (.int .i64 (k + l1)) ∧ Own w' lo hi a1 l1 c1 (markL k l1) ∧ Keeps lo hi w w'

theorem markValues_any (p0 p1 : Int) (lo hi : Nat) (a1 : Option Addr) (l1 c1 : Nat) (A : List Int) (k : Int) (w : World) (hk0 : 0 ≤ k) (hk1 : k + l1 ≤ 4194304) (h : Own w lo hi a1 l1 c1 A) :
    Calls Try.prog 30 #[valuesV p0 p1 a1 l1 c1, .int .i64 k] w (MarkedValues w lo hi a1 l1 c1 k) := by
  have HA := Lib.hid h
  clear h
  go_enter Try.func30, Try.ntmps30
  go_wp2_with fail
  refine (mark_any lo hi a1 l1 c1 A k _ hk0 (by omega) (HA.out.below below1)).mono ?_
  rintro e w1 ⟨rfl, o1, k1, s1⟩
  have O1 := Lib.hid o1
  have K1 := Lib.hid ((Keeps.of_below (lo := lo) (hi := hi) (below1 (w := w))).trans k1)
  clear o1 k1 s1
  go_wp2_with fail
  go_ret
  exact ⟨rfl, O1.out, K1.out⟩
end Go.Proofs.Ytkgjfockechniaa
