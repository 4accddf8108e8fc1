/-
  The laws' own small functions on Wishes: sizes, copies, comparisons, marks.
-/
import Derived.Test.YtklnflmdbgdgjaaRBase
namespace Go.Proofs.Ytklnflmdbgdgjaa
open Go.RowKit Go.ChangeShapes Go.WideShapes
set_option linter.unusedVariables false

abbrev wishesV (a1 : Option Addr) (l1 c1 : Nat) (a2 : Option Addr) (l2 c2 : Nat) : Value := .agg #[.slice a1 l1 c1, .slice a2 l2 c2]
section
variable {w : World} {n : Nat} {T : TypeId} {v0 v1 u : Value}
/-- a box of 2 cells -/
def Box2 (w : World) (n : Nat) (T : TypeId) (v0 v1 : Value) : Prop := w.heap[n]? = some (.cells #[v0, v1] T (0, 0))
theorem Box2.c0 (h : Box2 w n T v0 v1) : w.cell? ⟨n, 0, none⟩ = some v0 := by rw [cell_of_row w n 0 _ T (0, 0) h]; rfl
theorem Box2.c1 (h : Box2 w n T v0 v1) : w.cell? ⟨n, 1, none⟩ = some v1 := by rw [cell_of_row w n 1 _ T (0, 0) h]; rfl
theorem Box2.free (h : Box2 w n T v0 v1) (i : Nat) : w.frozen? ⟨n, i, none⟩ = false := frozen_of_row w n i _ T h
theorem Box2.all (h : Box2 w n T v0 v1) : (w.cell? ⟨n, 0, none⟩ = some v0 ∧ w.cell? ⟨n, 1, none⟩ = some v1) ∧ (w.frozen? ⟨n, 0, none⟩ = false ∧ w.frozen? ⟨n, 1, none⟩ = false) :=
  ⟨⟨h.c0, h.c1⟩, h.free 0, h.free 1⟩
theorem Box2.lt (h : Box2 w n T v0 v1) : n < w.heap.size := by
  by_cases g : n < w.heap.size
  · exact g
  · unfold Box2 at h
    rw [Array.getElem?_eq_none (by omega)] at h
    cases h
theorem Box2.below {w' : World} (h : Box2 w n T v0 v1) (hb : Below w.heap.size w w') : Box2 w' n T v0 v1 := (hb.block n h.lt).trans h
theorem Box2.keeps {w' : World} {lo hi : Nat} (h : Box2 w n T v0 v1) (hb : Keeps lo hi w w') (hd : n < lo ∨ hi ≤ n) : Box2 w' n T v0 v1 := (hb.block n h.lt hd).trans h
theorem Box2.far {m i : Nat} (h : Box2 w n T v0 v1) (hd : n ≠ m) : Box2 (w.setCell ⟨m, i, none⟩ u) n T v0 v1 := (Below.heap_setCell w ⟨m, i, none⟩ u n hd).trans h
theorem Box2.set0 (h : Box2 w n T v0 v1) : Box2 (w.setCell ⟨n, 0, none⟩ u) n T u v1 := (heap_setCell_same w n 0 _ T u h).trans rfl
theorem Box2.set1 (h : Box2 w n T v0 v1) : Box2 (w.setCell ⟨n, 1, none⟩ u) n T v0 u := (heap_setCell_same w n 1 _ T u h).trans rfl
end

theorem cells2_on {w w' : World} {n : Nat} {v0 v1 : Value} (h : w.cell? ⟨n, 0, none⟩ = some v0 ∧ w.cell? ⟨n, 1, none⟩ = some v1) (hb : Below w.heap.size w w') : w'.cell? ⟨n, 0, none⟩ = some v0 ∧ w'.cell? ⟨n, 1, none⟩ = some v1 := by
  have hn : n < w.heap.size := World.block_lt_of_cell? w ⟨n, 0, none⟩ h.1
  exact ⟨(hb.cell (p := ⟨n, 0, none⟩) hn).trans h.1, (hb.cell (p := ⟨n, 1, none⟩) hn).trans h.2⟩
theorem keep2_2_2 {w0 w w' : World} {n m : Nat} {v0 v1 u0 u1 : Value} (h : Hid (Below w0.heap.size w0 w) ∧ (w.cell? ⟨n, 0, none⟩ = some v0 ∧ w.cell? ⟨n, 1, none⟩ = some v1) ∧ (w.cell? ⟨m, 0, none⟩ = some u0 ∧ w.cell? ⟨m, 1, none⟩ = some u1)) (hb : Hid (Below w.heap.size w w')) :
    Hid (Below w0.heap.size w0 w') ∧ (w'.cell? ⟨n, 0, none⟩ = some v0 ∧ w'.cell? ⟨n, 1, none⟩ = some v1) ∧ (w'.cell? ⟨m, 0, none⟩ = some u0 ∧ w'.cell? ⟨m, 1, none⟩ = some u1) :=
  ⟨Lib.hid (below_after h.1.out (Nat.le_refl _) hb.out), cells2_on h.2.1 hb.out, cells2_on h.2.2 hb.out⟩


theorem OwnR.far {w : World} {lo hi : Nat} {a : Option Addr} {len cap : Nat} {Zs : List (List Int)} {n i : Nat} {u : Value} (h : OwnR w lo hi a len cap Zs) (hn : n < lo ∨ hi ≤ n) : OwnR (w.setCell ⟨n, i, none⟩ u) lo hi a len cap Zs :=
  h.keep (by simp [World.setCell]) fun k h1 h2 => Below.heap_setCell w ⟨n, i, none⟩ u k (by show k ≠ n; omega)

/-- two lists of rows that are read -/
def WAt (w : World) (a1 : Option Addr) (l1 : Nat) (a2 : Option Addr) (l2 : Nat) (A B : List (List Int)) : Prop := RAt w a1 l1 A ∧ RAt w a2 l2 B
def WIn (m : Nat) (w : World) (a1 : Option Addr) (l1 : Nat) (a2 : Option Addr) (l2 : Nat) (A B : List (List Int)) : Prop := RIn m w a1 l1 A ∧ RIn m w a2 l2 B
/-- two lists of rows of the call's own -/
def OwnW (w : World) (lo hi : Nat) (a1 : Option Addr) (l1 c1 : Nat) (a2 : Option Addr) (l2 c2 : Nat) (A B : List (List Int)) : Prop :=
  ∃ mid, lo ≤ mid ∧ mid ≤ hi ∧ OwnR w lo mid a1 l1 c1 A ∧ OwnR w mid hi a2 l2 c2 B
section
variable {w w' : World} {m lo hi lo' hi' : Nat} {a1 : Option Addr} {l1 c1 : Nat} {a2 : Option Addr} {l2 c2 : Nat} {A B : List (List Int)}
theorem WAt.below (h : WAt w a1 l1 a2 l2 A B) (hb : Below w.heap.size w w') : WAt w' a1 l1 a2 l2 A B := ⟨h.1.below hb, h.2.below hb⟩
theorem WAt.inB (h : WAt w a1 l1 a2 l2 A B) : WIn w.heap.size w a1 l1 a2 l2 A B := ⟨h.1.inB, h.2.inB⟩
theorem WIn.keep (h : WIn m w a1 l1 a2 l2 A B) (hb : Below m w w') : WIn m w' a1 l1 a2 l2 A B := ⟨h.1.keep hb, h.2.keep hb⟩
theorem WIn.iat (h : WIn m w a1 l1 a2 l2 A B) : WAt w a1 l1 a2 l2 A B := ⟨h.1.iat, h.2.iat⟩
theorem OwnW.keeps (h : OwnW w lo hi a1 l1 c1 a2 l2 c2 A B) (hk : Keeps lo' hi' w w') (hd : hi ≤ lo' ∨ hi' ≤ lo) : OwnW w' lo hi a1 l1 c1 a2 l2 c2 A B := by
  obtain ⟨mid, h1, h2, h3, h4⟩ := h
  exact ⟨mid, h1, h2, h3.keeps hk (by omega), h4.keeps hk (by omega)⟩
theorem OwnW.below (h : OwnW w lo hi a1 l1 c1 a2 l2 c2 A B) (hk : Below w.heap.size w w') : OwnW w' lo hi a1 l1 c1 a2 l2 c2 A B := by
  obtain ⟨mid, h1, h2, h3, h4⟩ := h
  exact ⟨mid, h1, h2, h3.below hk, h4.below hk⟩
theorem OwnW.wide (h : OwnW w lo hi a1 l1 c1 a2 l2 c2 A B) (h1 : lo' ≤ lo) (h2 : hi ≤ hi') (h3 : hi' ≤ w.heap.size) : OwnW w lo' hi' a1 l1 c1 a2 l2 c2 A B := by
  obtain ⟨mid, g1, g2, g3, g4⟩ := h
  exact ⟨mid, by omega, by omega, g3.wide h1 (Nat.le_refl _) g3.2.2.2.1, g4.wide (Nat.le_refl _) h2 h3⟩
theorem OwnW.iat (h : OwnW w lo hi a1 l1 c1 a2 l2 c2 A B) : WAt w a1 l1 a2 l2 A B := by
  obtain ⟨mid, h1, h2, h3, h4⟩ := h
  exact ⟨h3.iat, h4.iat⟩
end

/-- how much both lists take of a size -/
def totW (l1 l2 : Nat) (A B : List (List Int)) : Nat := (l1 + tot A) + (l2 + tot B)

theorem szWishes_any (a1 : Option Addr) (l1 c1 : Nat) (a2 : Option Addr) (l2 c2 : Nat) (A B : List (List Int)) (left : Int) (h0 : 0 ≤ left) (hl : left ≤ 1048576) (w : World) (h : WAt w a1 l1 a2 l2 A B) :
    Calls Try.prog 7 #[wishesV a1 l1 c1 a2 l2 c2, .int .i64 left] w fun e w' => e = .returned (.int .i64 (leftOf left (totW l1 l2 A B))) ∧ Below w.heap.size w w' := by
  have HA := Lib.hid h.1
  have HB := Lib.hid h.2
  clear h
  by_cases g1 : ((l1 + tot A : Nat) : Int) ≤ left
  · have G := Lib.hid (leftOf_yes g1)
    have b := leftOf_le h0 hl g1
    by_cases g2 : ((l2 + tot B : Nat) : Int) ≤ leftOf left (l1 + tot A)
    · have e : leftOf left (totW l1 l2 A B) = leftOf (leftOf left (l1 + tot A)) (l2 + tot B) := by
        rw [leftOf_yes g2, G.out]; rw [G.out] at g2; unfold totW; rw [leftOf_yes (by omega)]; omega
      rw [e]
      have b2 := leftOf_le b.1 b.2 g2
      clear e g1 g2
      obtain ⟨b0, b1⟩ := b
      obtain ⟨b2, b3⟩ := b2
      generalize hy : leftOf (leftOf left (l1 + tot A)) (l2 + tot B) = y at *
      generalize hx : leftOf left (l1 + tot A) = x at *
      have HX := Lib.hid hx
      have HY := Lib.hid hy
      clear hx hy
      go_enter Try.func7, Try.ntmps7
      go_wp2_with fail
      refine (szR_any a1 l1 c1 A left _ h0 hl (HA.out.below below1)).mono ?_
      rintro e w' ⟨rfl, rfl⟩
      rw [HX.out]
      go_wp2_with fail
      refine (szR_any a2 l2 c2 B x _ b0 b1 (HB.out.below below1)).mono ?_
      rintro e w' ⟨rfl, rfl⟩
      rw [HY.out]
      go_wp2_with fail
      go_ret
      exact ⟨rfl, below1⟩
    · have e : leftOf left (totW l1 l2 A B) = -1 := by
        rw [G.out] at g2; unfold totW; rw [leftOf_no (by omega)]
      rw [e]
      have HY := Lib.hid (leftOf_no g2)
      clear e g1 g2
      obtain ⟨b0, b1⟩ := b
      generalize hx : leftOf left (l1 + tot A) = x at *
      have HX := Lib.hid hx
      clear hx
      go_enter Try.func7, Try.ntmps7
      go_wp2_with fail
      refine (szR_any a1 l1 c1 A left _ h0 hl (HA.out.below below1)).mono ?_
      rintro e w' ⟨rfl, rfl⟩
      rw [HX.out]
      go_wp2_with fail
      refine (szR_any a2 l2 c2 B x _ b0 b1 (HB.out.below below1)).mono ?_
      rintro e w' ⟨rfl, rfl⟩
      rw [HY.out]
      go_wp2_with fail
      go_ret
      exact ⟨rfl, below1⟩
  · have e : leftOf left (totW l1 l2 A B) = -1 := by
      unfold totW; rw [leftOf_no (by omega)]
    rw [e]
    have HX := Lib.hid (leftOf_no g1)
    clear e g1
    go_enter Try.func7, Try.ntmps7
    go_wp2_with fail
    refine (szR_any a1 l1 c1 A left _ h0 hl (HA.out.below below1)).mono ?_
    rintro e w' ⟨rfl, rfl⟩
    rw [HX.out]
    go_wp2_with fail
    go_ret
    exact ⟨rfl, below1⟩

def CopiedWishes (w : World) (l1 l2 : Nat) (A B : List (List Int)) (e : Ending) (w' : World) : Prop :=
  ∃ g1 g2, e = .returned (wishesV (some ⟨g1, 0, none⟩) l1 l1 (some ⟨g2, 0, none⟩) l2 l2) ∧ OwnW w' w.heap.size w'.heap.size (some ⟨g1, 0, none⟩) l1 l1 (some ⟨g2, 0, none⟩) l2 l2 A B ∧ Below w.heap.size w w'

theorem toWishes_any (a1 : Option Addr) (l1 c1 : Nat) (a2 : Option Addr) (l2 c2 : Nat) (A B : List (List Int)) (w : World) (hT : totW l1 l2 A B ≤ 1048576) (h : WAt w a1 l1 a2 l2 A B) :
    Calls Try.prog 9 #[wishesV a1 l1 c1 a2 l2 c2] w (CopiedWishes w l1 l2 A B) := by
  have HA := Lib.hid h.1.inB
  have HB := Lib.hid h.2.inB
  have HT := Lib.hid (show (l1 ≤ 1048576 ∧ tot A ≤ 1048576) ∧ (l2 ≤ 1048576 ∧ tot B ≤ 1048576) by unfold totW at hT; omega)
  clear h hT
  go_enter Try.func9, Try.ntmps9
  go_wp2_with fail
  refine (copyR_any a1 l1 c1 A _ HT.out.1.1 HT.out.1.2 (HA.out.keep below3).iat).mono ?_
  rintro e w1 ⟨g1, rfl, o1, b1⟩
  have x1 : Box2 w1 w.heap.size 24 (.slice a1 l1 c1) (.slice a2 l2 c2) := (b1.block _ (by first | (simp; done) | (simp; omega))).trans heap3a
  have x2 : Box2 w1 (w.heap.size + 1) 27 (.slice none 0 0) (.slice none 0 0) := (b1.block _ (by simp)).trans heap3b
  have x3 : Box2 w1 (w.heap.size + 2) 27 (.slice none 0 0) (.slice none 0 0) := (b1.block _ (by simp)).trans heap3c
  have B1 := Lib.hid (below_after (below3 (w := w)) (Nat.le_refl _) b1)
  have O1 := Lib.hid o1
  have S1 := Lib.hid b1.size
  have X2 := Lib.hid x2
  have X3 := Lib.hid x3
  obtain ⟨⟨p_0, p_1⟩, q0, q1⟩ := x1.all
  obtain ⟨⟨s0, s1⟩, t0, t1⟩ := x3.all
  clear o1 b1 x1 x2 x3
  go_wp2_with fail
  have b12 := B1.out.setCell (p := ⟨w.heap.size + 2, 0, none⟩) (by show w.heap.size ≤ w.heap.size + 2; omega) (.slice (some ⟨g1, 0, none⟩) l1 l1)
  have B12 := Lib.hid b12
  refine (copyR_any a2 l2 c2 B _ HT.out.2.1 HT.out.2.2 (HB.out.keep b12).iat).mono ?_
  clear b12 p_0 q0 s0 t0 p_1 q1 s1 t1
  rintro e w2 ⟨g2, rfl, o2, b2⟩
  have y2 := (X2.out.far (m := w.heap.size + 2) (i := 0) (u := (.slice (some ⟨g1, 0, none⟩) l1 l1)) (by omega)).below b2
  have y3 := (X3.out.set0 (u := (.slice (some ⟨g1, 0, none⟩) l1 l1))).below b2
  have B2 := Lib.hid (below_after B12.out (Nat.le_refl _) b2)
  have hs1 : w.heap.size + 3 ≤ w1.heap.size := by have := S1.out; simp at this; omega
  have O1' := Lib.hid ((O1.out.far (n := w.heap.size + 2) (i := 0) (u := (.slice (some ⟨g1, 0, none⟩) l1 l1)) (.inl (by simp))).below b2)
  have O2 := Lib.hid o2
  have S2 := Lib.hid b2.size
  obtain ⟨⟨p_0, p_1⟩, q0, q1⟩ := y2.all
  obtain ⟨⟨s0, s1⟩, t0, t1⟩ := y3.all
  have Y2 := Lib.hid y2
  clear o2 b2 y2 y3
  go_wp2_with fail
  have z2 := (((Y2.out.far (m := w.heap.size + 2) (i := 1) (u := (.slice (some ⟨g2, 0, none⟩) l2 l2)) (by omega)).set0 (u := (.slice (some ⟨g1, 0, none⟩) l1 l1))).set1 (u := (.slice (some ⟨g2, 0, none⟩) l2 l2)))
  refine bodyPost_ret (results_cell_row (p := 2) (by kernel_rfl) _ _ (w.heap.size + 1) _ _ _ _ rfl z2 Try.underlying27 rfl (by kernel_rfl)) rfl ?_
  have hs2 := S2.out
  have e1 : (w1.setCell ⟨w.heap.size + 2, 0, none⟩ (.slice (some ⟨g1, 0, none⟩) l1 l1)).heap.size = w1.heap.size := by simp [World.setCell]
  have o1 := O1'.out
  have o2 := O2.out
  rw [e1] at hs2 o2
  have o1x := o1.wide (lo' := w.heap.size + 3) (hi' := w1.heap.size) (by simp) (Nat.le_refl _) hs2
  have o1y := (((o1x.far (n := w.heap.size + 2) (i := 1) (u := (.slice (some ⟨g2, 0, none⟩) l2 l2)) (by omega)).far (n := w.heap.size + 1) (i := 0) (u := (.slice (some ⟨g1, 0, none⟩) l1 l1)) (by omega)).far (n := w.heap.size + 1) (i := 1) (u := (.slice (some ⟨g2, 0, none⟩) l2 l2)) (by omega))
  have o2y := (((o2.far (n := w.heap.size + 2) (i := 1) (u := (.slice (some ⟨g2, 0, none⟩) l2 l2)) (by omega)).far (n := w.heap.size + 1) (i := 0) (u := (.slice (some ⟨g1, 0, none⟩) l1 l1)) (by omega)).far (n := w.heap.size + 1) (i := 1) (u := (.slice (some ⟨g2, 0, none⟩) l2 l2)) (by omega))
  have bf := (((B2.out.setCell (p := ⟨w.heap.size + 2, 1, none⟩) (by show w.heap.size ≤ _ + 2; omega) (.slice (some ⟨g2, 0, none⟩) l2 l2)).setCell (p := ⟨w.heap.size + 1, 0, none⟩) (by show w.heap.size ≤ _ + 1; omega) (.slice (some ⟨g1, 0, none⟩) l1 l1)).setCell (p := ⟨w.heap.size + 1, 1, none⟩) (by show w.heap.size ≤ _ + 1; omega) (.slice (some ⟨g2, 0, none⟩) l2 l2))
  have he : ∀ (x : World) (a : Addr) (u : Value), (x.setCell a u).heap.size = x.heap.size := fun x a u => by simp [World.setCell]
  refine ⟨g1, g2, rfl, ⟨w1.heap.size, by omega, ?_, o1y.wide (by omega) (Nat.le_refl _) ?_, o2y.wide (Nat.le_refl _) ?_ (Nat.le_refl _)⟩, bf⟩
  all_goals (repeat rw [he]); first | exact hs2 | exact Nat.le_refl _

theorem eqWishes_any (a1 : Option Addr) (l1 c1 : Nat) (a2 : Option Addr) (l2 c2 : Nat) (a3 : Option Addr) (c3 : Nat) (a4 : Option Addr) (c4 : Nat) (A B : List (List Int)) (w : World)
    (h : WAt w a1 l1 a2 l2 A B) (h' : WAt w a3 l1 a4 l2 A B) :
    Calls Try.prog 11 #[wishesV a1 l1 c1 a2 l2 c2, wishesV a3 l1 c3 a4 l2 c4] w fun e w' => e = .returned (.bool true) ∧ Below w.heap.size w w' := by
  have HA := Lib.hid h
  have HA' := Lib.hid h'
  clear h h'
  go_enter Try.func11, Try.ntmps11
  go_wp2_with fail
  have b0 : Below w.heap.size w ((w.alloc (.cells #[.slice a1 l1 c1, .slice a2 l2 c2] 27)).alloc (.cells #[.slice a3 l1 c3, .slice a4 l2 c4] 27)) := below2
  refine (eqR_any a1 a3 l1 c1 c3 A _ (HA.out.below b0).1 (HA'.out.below b0).1).mono ?_
  rintro e w1 ⟨rfl, b1⟩
  have x1 : Box2 w1 w.heap.size 27 (.slice a1 l1 c1) (.slice a2 l2 c2) := (b1.block _ (by first | (simp; done) | (simp; omega))).trans heap2a
  have x2 : Box2 w1 (w.heap.size + 1) 27 (.slice a3 l1 c3) (.slice a4 l2 c4) := (b1.block _ (by simp)).trans heap2b
  have BA := Lib.hid (b0.trans (b1.mono (by simp; omega)))
  obtain ⟨⟨p_0, p_1⟩, _⟩ := x1.all
  obtain ⟨⟨s0, s1⟩, _⟩ := x2.all
  clear b0 b1 x1 x2
  go_wp2_with fail
  refine (eqR_any a2 a4 l2 c2 c4 B _ (HA.out.below BA.out).2 (HA'.out.below BA.out).2).mono ?_
  rintro e w2 ⟨rfl, b2⟩
  have BB := Lib.hid (below_after BA.out (Nat.le_refl _) b2)
  clear b2 p_0 p_1 s0 s1
  go_wp2_with fail
  go_ret
  exact ⟨rfl, BB.out⟩

def MarkedWishes (w : World) (lo hi : Nat) (a1 : Option Addr) (l1 c1 : Nat) (a2 : Option Addr) (l2 c2 : Nat) (A B : List (List Int)) (k : Int) (e : Ending) (w' : World) : Prop :=
  e = .returned (.int .i64 (k + (tot A + tot B : Nat))) ∧ OwnW w' lo hi a1 l1 c1 a2 l2 c2 (markR k A) (markR (k + (tot A : Nat)) B) ∧ Keeps lo hi w w'

theorem markWishes_any (lo hi : Nat) (a1 : Option Addr) (l1 c1 : Nat) (a2 : Option Addr) (l2 c2 : Nat) (A B : List (List Int)) (k : Int) (w : World) (hk0 : 0 ≤ k) (hk1 : k + (tot A + tot B : Nat) ≤ 4194304) (h : OwnW w lo hi a1 l1 c1 a2 l2 c2 A B) :
    Calls Try.prog 16 #[wishesV a1 l1 c1 a2 l2 c2, .int .i64 k] w (MarkedWishes w lo hi a1 l1 c1 a2 l2 c2 A B k) := by
  obtain ⟨mid, m1, m2, hA, hB⟩ := h
  have hsz := hB.2.2.2.1
  have HA := Lib.hid hA
  have HB := Lib.hid hB
  have HK := Lib.hid (show (k + (tot A : Nat) ≤ 4194304 ∧ 0 ≤ k + (tot A : Nat)) ∧ k + (tot A : Nat) + (tot B : Nat) ≤ 4194304 by omega)
  clear hA hB hk1
  go_enter Try.func16, Try.ntmps16
  go_wp2_with fail
  refine (markR_any lo mid a1 l1 c1 A k _ hk0 HK.out.1.1 (HA.out.below below1)).mono ?_
  rintro e w1 ⟨rfl, o1, k1⟩
  have x1 : Box2 w1 w.heap.size 27 (.slice a1 l1 c1) (.slice a2 l2 c2) := (k1.block w.heap.size (by simp) (.inr (by omega))).trans heap1
  have O1 := Lib.hid o1
  have O2 := Lib.hid ((HB.out.below below1).keeps k1 (.inr (Nat.le_refl _)))
  have K1 := Lib.hid ((Keeps.of_below (lo := lo) (hi := mid) (below1 (w := w))).trans k1)
  obtain ⟨⟨p_0, p_1⟩, _⟩ := x1.all
  obtain ⟨y, hy⟩ : ∃ y, k + (tot A : Nat) = y := ⟨_, rfl⟩
  have hy0 : 0 ≤ y := by have := HK.out; omega
  have hy1 : y + (tot B : Nat) ≤ 4194304 := by have := HK.out; omega
  have HY := Lib.hid hy
  rw [hy]
  clear o1 k1 x1 hy
  go_wp2_with fail
  refine (markR_any mid hi a2 l2 c2 B y _ hy0 hy1 O2.out).mono ?_
  rintro e w2 ⟨rfl, o2, k2⟩
  have O1' := Lib.hid (O1.out.keeps k2 (.inl (Nat.le_refl _)))
  have O2' := Lib.hid o2
  have K2 := Lib.hid ((K1.out.wide (Nat.le_refl _) m2).trans (k2.wide m1 (Nat.le_refl _)))
  clear o2 k2 p_0 p_1
  go_wp2_with fail
  go_ret
  have hv : k + ((tot A + tot B : Nat) : Int) = y + (tot B : Nat) := by have := HY.out; omega
  refine ⟨by rw [hv]; rfl, ⟨mid, m1, m2, O1'.out, ?_⟩, K2.out⟩
  rw [HY.out]
  exact O2'.out

theorem heldWishes_any (a1 : Option Addr) (l1 c1 : Nat) (a2 : Option Addr) (l2 c2 : Nat) (A B : List (List Int)) (k : Int) (w : World) (hk0 : 0 ≤ k) (hk1 : k + (tot A + tot B : Nat) ≤ 4194304) (h : WAt w a1 l1 a2 l2 (markR k A) (markR (k + (tot A : Nat)) B)) :
    Calls Try.prog 17 #[wishesV a1 l1 c1 a2 l2 c2, .int .i64 k] w fun e w' => e = .returned (.int .i64 (k + (tot A + tot B : Nat))) ∧ Below w.heap.size w w' := by
  have HA := Lib.hid h
  have HK := Lib.hid (show (k + (tot A : Nat) ≤ 4194304 ∧ 0 ≤ k + (tot A : Nat)) ∧ k + (tot A : Nat) + (tot B : Nat) ≤ 4194304 by omega)
  clear h hk1
  go_enter Try.func17, Try.ntmps17
  go_wp2_with fail
  refine (heldR_any a1 l1 c1 A k _ hk0 HK.out.1.1 (HA.out.below below1).1).mono ?_
  rintro e w1 ⟨rfl, b1⟩
  have x1 : Box2 w1 w.heap.size 27 (.slice a1 l1 c1) (.slice a2 l2 c2) := (b1.block _ (by simp)).trans heap1
  have BA := Lib.hid ((below1 (w := w)).trans (b1.mono (by simp)))
  obtain ⟨⟨p_0, p_1⟩, _⟩ := x1.all
  obtain ⟨y, hy⟩ : ∃ y, k + (tot A : Nat) = y := ⟨_, rfl⟩
  have hy0 : 0 ≤ y := by have := HK.out; omega
  have hy1 : y + (tot B : Nat) ≤ 4194304 := by have := HK.out; omega
  have HY := Lib.hid hy
  have HB : Hid (RAt w1 a2 l2 (markR y B)) := Lib.hid (by rw [← hy]; exact (HA.out.below BA.out).2)
  rw [hy]
  clear b1 x1 hy
  go_wp2_with fail
  refine (heldR_any a2 l2 c2 B y _ hy0 hy1 HB.out).mono ?_
  rintro e w2 ⟨rfl, b2⟩
  have BB := Lib.hid (below_after BA.out (Nat.le_refl _) b2)
  clear b2 p_0 p_1
  go_wp2_with fail
  go_ret
  have hv : k + ((tot A + tot B : Nat) : Int) = y + (tot B : Nat) := by have := HY.out; omega
  exact ⟨by rw [hv]; rfl, BB.out⟩
end Go.Proofs.Ytklnflmdbgdgjaa
