/-
  The laws' own small functions on Worths: sizes, copies, comparisons, marks.
-/
import Derived.Test.YtnlknofcdapalaaGCom
namespace Go.Proofs.Ytnlknofcdapalaa
open Go.RowKit Go.ChangeShapes Go.WideShapes
set_option linter.unusedVariables false

abbrev worthsV (p0 : Int) (a1 : Option Addr) (l1 c1 : Nat) : Value := .agg #[.int .i64 p0, .slice a1 l1 c1]
section
variable {w : World} {n : Nat} {T : TypeId} {v0 v1 u : Value}
/-- a box of 2 cells -/
def Box2 (w : World) (n : Nat) (T : TypeId) (v0 v1 : Value) : Prop := w.heap[n]? = some (.cells #[v0, v1] T (0, 0))
theorem Box2.c0 (h : Box2 w n T v0 v1) : w.cell? ⟨n, 0, none⟩ = some v0 := by rw [cell_of_row w n 0 _ T (0, 0) h]; rfl
theorem Box2.c1 (h : Box2 w n T v0 v1) : w.cell? ⟨n, 1, none⟩ = some v1 := by rw [cell_of_row w n 1 _ T (0, 0) h]; rfl
theorem Box2.free (h : Box2 w n T v0 v1) (i : Nat) : w.frozen? ⟨n, i, none⟩ = false := frozen_of_row w n i _ T h
theorem Box2.all (h : Box2 w n T v0 v1) : (w.cell? ⟨n, 0, none⟩ = some v0 ∧ w.cell? ⟨n, 1, none⟩ = some v1) ∧ (w.frozen? ⟨n, 0, none⟩ = false ∧ w.frozen? ⟨n, 1, none⟩ = false) :=
  ⟨⟨h.c0, h.c1⟩, h.free 0, h.free 1⟩
theorem Box2.lt (h : Box2 w n T v0 v1) : n < w.heap.size := by
  by_cases g : n < w.heap.size
  · exact g
  · unfold Box2 at h
    rw [Array.getElem?_eq_none (by omega)] at h
    cases h
theorem Box2.below {w' : World} (h : Box2 w n T v0 v1) (hb : Below w.heap.size w w') : Box2 w' n T v0 v1 := (hb.block n h.lt).trans h
theorem Box2.keeps {w' : World} {lo hi : Nat} (h : Box2 w n T v0 v1) (hb : Keeps lo hi w w') (hd : n < lo ∨ hi ≤ n) : Box2 w' n T v0 v1 := (hb.block n h.lt hd).trans h
theorem Box2.far {m i : Nat} (h : Box2 w n T v0 v1) (hd : n ≠ m) : Box2 (w.setCell ⟨m, i, none⟩ u) n T v0 v1 := (Below.heap_setCell w ⟨m, i, none⟩ u n hd).trans h
theorem Box2.set0 (h : Box2 w n T v0 v1) : Box2 (w.setCell ⟨n, 0, none⟩ u) n T u v1 := (heap_setCell_same w n 0 _ T u h).trans rfl
theorem Box2.set1 (h : Box2 w n T v0 v1) : Box2 (w.setCell ⟨n, 1, none⟩ u) n T v0 u := (heap_setCell_same w n 1 _ T u h).trans rfl
end

theorem cells2_on {w w' : World} {n : Nat} {v0 v1 : Value} (h : w.cell? ⟨n, 0, none⟩ = some v0 ∧ w.cell? ⟨n, 1, none⟩ = some v1) (hb : Below w.heap.size w w') : w'.cell? ⟨n, 0, none⟩ = some v0 ∧ w'.cell? ⟨n, 1, none⟩ = some v1 := by
  have hn : n < w.heap.size := World.block_lt_of_cell? w ⟨n, 0, none⟩ h.1
  exact ⟨(hb.cell (p := ⟨n, 0, none⟩) hn).trans h.1, (hb.cell (p := ⟨n, 1, none⟩) hn).trans h.2⟩
theorem keep2_2_2 {w0 w w' : World} {n m : Nat} {v0 v1 u0 u1 : Value} (h : Hid (Below w0.heap.size w0 w) ∧ (w.cell? ⟨n, 0, none⟩ = some v0 ∧ w.cell? ⟨n, 1, none⟩ = some v1) ∧ (w.cell? ⟨m, 0, none⟩ = some u0 ∧ w.cell? ⟨m, 1, none⟩ = some u1)) (hb : Hid (Below w.heap.size w w')) :
    Hid (Below w0.heap.size w0 w') ∧ (w'.cell? ⟨n, 0, none⟩ = some v0 ∧ w'.cell? ⟨n, 1, none⟩ = some v1) ∧ (w'.cell? ⟨m, 0, none⟩ = some u0 ∧ w'.cell? ⟨m, 1, none⟩ = some u1) :=
  ⟨Lib.hid (below_after h.1.out (Nat.le_refl _) hb.out), cells2_on h.2.1 hb.out, cells2_on h.2.2 hb.out⟩

theorem szWorths_any (p0 : Int) (a1 : Option Addr) (l1 c1 : Nat) (left : Int) (h0 : 0 ≤ left) (hl : left ≤ 1048576) (hm1 : l1 ≤ maxLen) (w : World) :
    Calls Try.prog 18 #[worthsV p0 a1 l1 c1, .int .i64 left] w fun e w' => e = .returned (.int .i64 (leftOf left l1)) ∧ Below w.heap.size w w' := by
  have HM1 := Lib.hid hm1
  clear hm1
  by_cases g1 : (l1 : Int) ≤ left
  · have b := leftOf_le h0 hl g1
    clear g1
    obtain ⟨b0, b1⟩ := b
    generalize hx : leftOf left l1 = x at *
    have HX := Lib.hid hx
    clear hx
    go_enter Try.func18, Try.ntmps18
    go_wp2_with fail
    refine (sz_any a1 l1 c1 left HM1.out h0 hl _).mono ?_
    rintro e w' ⟨rfl, rfl⟩
    rw [HX.out]
    go_wp2_with fail
    go_ret
    exact ⟨rfl, below1⟩
  · have HX := Lib.hid (leftOf_no g1)
    clear g1
    rw [HX.out]
    go_enter Try.func18, Try.ntmps18
    go_wp2_with fail
    refine (sz_any a1 l1 c1 left HM1.out h0 hl _).mono ?_
    rintro e w' ⟨rfl, rfl⟩
    rw [HX.out]
    go_wp2_with fail
    go_ret
    exact ⟨rfl, below1⟩

/-- Worths handed back, its list in a row of the call's own, and whether it is told -/
def OutWorths (w : World) (x : Int × List Int × Bool) (e : Ending) (w' : World) : Prop :=
  ∃ a len cap, e = .returned (.tuple #[worthsV x.1 a len cap, .bool x.2.2]) ∧ Own w' w.heap.size w'.heap.size a len cap x.2.1 ∧ Below w.heap.size w w'

def CopiedWorths (w : World) (p0 : Int) (l1 : Nat) (A : List Int) (e : Ending) (w' : World) : Prop :=
  ∃ g1, e = .returned (worthsV p0 (some ⟨g1, 0, none⟩) l1 l1) ∧ Own w' w.heap.size w'.heap.size (some ⟨g1, 0, none⟩) l1 l1 A ∧ Below w.heap.size w w'

theorem toWorths_any (p0 : Int) (a1 : Option Addr) (l1 c1 : Nat) (A : List Int) (w : World) (hl1 : l1 ≤ 1048576) (hA : IAt w a1 l1 A) :
    Calls Try.prog 20 #[worthsV p0 a1 l1 c1] w (CopiedWorths w p0 l1 A) := by
  have HA := Lib.hid hA.inB
  clear hA
  go_enter Try.func20, Try.ntmps20
  go_wp2_with fail
  refine (copy_any a1 l1 c1 A _ hl1 (HA.out.keep below3).1).mono ?_
  rintro e w1 ⟨g1, rfl, o1, b1⟩
  have y2 : Box2 w1 (w.heap.size + 1) 27 (.int .i64 0) (.slice none 0 0) := (b1.block _ (by simp)).trans heap3b
  have y3 : Box2 w1 (w.heap.size + 2) 27 (.int .i64 p0) (.slice none 0 0) := (b1.block _ (by simp)).trans heap3c
  have B2 := Lib.hid (below_after (below3 (w := w)) (Nat.le_refl _) b1)
  have O1 := Lib.hid o1
  have S1 := Lib.hid b1.size
  obtain ⟨⟨p_0, p_1⟩, q0, q1⟩ := y2.all
  obtain ⟨⟨s0, s1⟩, t0, t1⟩ := y3.all
  have Y2 := Lib.hid y2
  clear o1 b1 y2 y3
  go_wp2_with fail
  have z2 := (((Y2.out.far (m := w.heap.size + 2) (i := 1) (u := .slice (some ⟨g1, 0, none⟩) l1 l1) (by omega)).set0 (u := .int .i64 p0)).set1 (u := .slice (some ⟨g1, 0, none⟩) l1 l1))
  refine bodyPost_ret (results_cell_row (p := 2) (by kernel_rfl) _ _ (w.heap.size + 1) _ _ _ _ rfl z2 Try.underlying27 rfl (by kernel_rfl)) rfl ?_
  have hs1 : w.heap.size + 3 ≤ w1.heap.size := by have := S1.out; simp at this; omega
  have o1 := O1.out.wide (lo' := w.heap.size + 3) (hi' := w1.heap.size) (by simp) (Nat.le_refl _) (Nat.le_refl _)
  have o1 := (((o1.far (n := w.heap.size + 2) (i := 1) (u := .slice (some ⟨g1, 0, none⟩) l1 l1) (by omega)).far (n := w.heap.size + 1) (i := 0) (u := .int .i64 p0) (by omega)).far (n := w.heap.size + 1) (i := 1) (u := .slice (some ⟨g1, 0, none⟩) l1 l1) (by omega))
  have bf := (((B2.out.setCell (p := ⟨w.heap.size + 2, 1, none⟩) (by show w.heap.size ≤ _ + 2; omega) (.slice (some ⟨g1, 0, none⟩) l1 l1)).setCell (p := ⟨w.heap.size + 1, 0, none⟩) (by show w.heap.size ≤ _ + 1; omega) (.int .i64 p0)).setCell (p := ⟨w.heap.size + 1, 1, none⟩) (by show w.heap.size ≤ _ + 1; omega) (.slice (some ⟨g1, 0, none⟩) l1 l1))
  have he : ∀ (x : World) (a : Addr) (u : Value), (x.setCell a u).heap.size = x.heap.size := fun x a u => by simp [World.setCell]
  refine ⟨g1, rfl, o1.wide (by omega) ?_ (Nat.le_refl _), bf⟩
  repeat rw [he]
  exact Nat.le_refl _

theorem eqWorths_any (p0 : Int) (a1 : Option Addr) (l1 c1 : Nat) (a3 : Option Addr) (c3 : Nat) (A : List Int) (w : World) (hA : IAt w a1 l1 A) (hA' : IAt w a3 l1 A) :
    Calls Try.prog 22 #[worthsV p0 a1 l1 c1, worthsV p0 a3 l1 c3] w fun e w' => e = .returned (.bool true) ∧ Below w.heap.size w w' := by
  have HA := Lib.hid hA
  have HA' := Lib.hid hA'
  clear hA hA'
  go_enter Try.func22, Try.ntmps22
  go_wp2_with fail
  have b0 : Below w.heap.size w ((w.alloc (.cells #[.int .i64 p0, .slice a1 l1 c1] 27)).alloc (.cells #[.int .i64 p0, .slice a3 l1 c3] 27)) := below2
  refine (eq_any a1 a3 l1 c1 c3 A _ (HA.out.below b0) (HA'.out.below b0)).mono ?_
  rintro e w1 ⟨rfl, n1, rfl⟩
  have B0 := Lib.hid b0
  clear b0
  go_wp2_with fail
  go_ret
  exact ⟨rfl, B0.out.trans (same_below ⟨_, rfl⟩ _)⟩

def MarkedWorths (w : World) (lo hi : Nat) (a1 : Option Addr) (l1 c1 : Nat) (k : Int) (e : Ending) (w' : World) : Prop :=
  e = .returned (.int .i64 (k + l1)) ∧ Own w' lo hi a1 l1 c1 (markL k l1) ∧ Keeps lo hi w w'

theorem markWorths_any (p0 : Int) (lo hi : Nat) (a1 : Option Addr) (l1 c1 : Nat) (A : List Int) (k : Int) (w : World) (hk0 : 0 ≤ k) (hk1 : k + l1 ≤ 4194304) (h : Own w lo hi a1 l1 c1 A) :
    Calls Try.prog 27 #[worthsV p0 a1 l1 c1, .int .i64 k] w (MarkedWorths w lo hi a1 l1 c1 k) := by
  have HA := Lib.hid h
  clear h
  go_enter Try.func27, Try.ntmps27
  go_wp2_with fail
  refine (mark_any lo hi a1 l1 c1 A k _ hk0 (by omega) (HA.out.below below1)).mono ?_
  rintro e w1 ⟨rfl, o1, k1, s1⟩
  have O1 := Lib.hid o1
  have K1 := Lib.hid ((Keeps.of_below (lo := lo) (hi := hi) (below1 (w := w))).trans k1)
  clear o1 k1 s1
  go_wp2_with fail
  go_ret
  exact ⟨rfl, O1.out, K1.out⟩

theorem heldWorths_any (p0 : Int) (a1 : Option Addr) (l1 c1 : Nat) (k : Int) (w : World) (hk0 : 0 ≤ k) (hk1 : k + l1 ≤ 4194304) (hA : IAt w a1 l1 (markL k l1)) :
    Calls Try.prog 28 #[worthsV p0 a1 l1 c1, .int .i64 k] w fun e w' => e = .returned (.int .i64 (k + l1)) ∧ Below w.heap.size w w' := by
  have HA := Lib.hid hA
  clear hA
  go_enter Try.func28, Try.ntmps28
  go_wp2_with fail
  refine (held_any a1 l1 c1 k _ hk0 (by omega) (HA.out.below below1)).mono ?_
  rintro e w1 ⟨rfl, n1, rfl⟩
  go_wp2_with fail
  go_ret
  exact ⟨rfl, below1.trans (same_below ⟨_, rfl⟩ _)⟩
end Go.Proofs.Ytnlknofcdapalaa
