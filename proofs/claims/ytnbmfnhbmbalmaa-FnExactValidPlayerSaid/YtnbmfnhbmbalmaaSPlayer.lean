/-
  The laws' own small functions on Player: sizes, copies, comparisons, marks.
-/
import Derived.Test.YtnbmfnhbmbalmaaGCom
namespace Go.Proofs.Ytnbmfnhbmbalmaa
open Go.RowKit Go.ChangeShapes Go.WideShapes
set_option linter.unusedVariables false

abbrev playerV (a1 : Option Addr) (l1 c1 : Nat) (a2 : Option Addr) (l2 c2 : Nat) : Value := .agg #[.slice a1 l1 c1, .slice a2 l2 c2]
section
variable {w : World} {n : Nat} {T : TypeId} {v0 v1 u : Value}
/-- a box of 2 cells -/
def Box2 (w : World) (n : Nat) (T : TypeId) (v0 v1 : Value) : Prop := w.heap[n]? = some (.cells #[v0, v1] T (0, 0))
theorem Box2.c0 (h : Box2 w n T v0 v1) : w.cell? ⟨n, 0, none⟩ = some v0 := by rw [cell_of_row w n 0 _ T (0, 0) h]; rfl
theorem Box2.c1 (h : Box2 w n T v0 v1) : w.cell? ⟨n, 1, none⟩ = some v1 := by rw [cell_of_row w n 1 _ T (0, 0) h]; rfl
theorem Box2.free (h : Box2 w n T v0 v1) (i : Nat) : w.frozen? ⟨n, i, none⟩ = false := frozen_of_row w n i _ T h
theorem Box2.all (h : Box2 w n T v0 v1) : (w.cell? ⟨n, 0, none⟩ = some v0 ∧ w.cell? ⟨n, 1, none⟩ = some v1) ∧ (w.frozen? ⟨n, 0, none⟩ = false ∧ w.frozen? ⟨n, 1, none⟩ = false) :=
  ⟨⟨h.c0, h.c1⟩, h.free 0, h.free 1⟩
theorem Box2.lt (h : Box2 w n T v0 v1) : n < w.heap.size := by
  by_cases g : n < w.heap.size
  · exact g
  · unfold Box2 at h
    rw [Array.getElem?_eq_none (by omega)] at h
    cases h
theorem Box2.below {w' : World} (h : Box2 w n T v0 v1) (hb : Below w.heap.size w w') : Box2 w' n T v0 v1 := (hb.block n h.lt).trans h
theorem Box2.keeps {w' : World} {lo hi : Nat} (h : Box2 w n T v0 v1) (hb : Keeps lo hi w w') (hd : n < lo ∨ hi ≤ n) : Box2 w' n T v0 v1 := (hb.block n h.lt hd).trans h
theorem Box2.far {m i : Nat} (h : Box2 w n T v0 v1) (hd : n ≠ m) : Box2 (w.setCell ⟨m, i, none⟩ u) n T v0 v1 := (Below.heap_setCell w ⟨m, i, none⟩ u n hd).trans h
theorem Box2.set0 (h : Box2 w n T v0 v1) : Box2 (w.setCell ⟨n, 0, none⟩ u) n T u v1 := (heap_setCell_same w n 0 _ T u h).trans rfl
theorem Box2.set1 (h : Box2 w n T v0 v1) : Box2 (w.setCell ⟨n, 1, none⟩ u) n T v0 u := (heap_setCell_same w n 1 _ T u h).trans rfl
end

theorem cells2_on {w w' : World} {n : Nat} {v0 v1 : Value} (h : w.cell? ⟨n, 0, none⟩ = some v0 ∧ w.cell? ⟨n, 1, none⟩ = some v1) (hb : Below w.heap.size w w') : w'.cell? ⟨n, 0, none⟩ = some v0 ∧ w'.cell? ⟨n, 1, none⟩ = some v1 := by
  have hn : n < w.heap.size := World.block_lt_of_cell? w ⟨n, 0, none⟩ h.1
  exact ⟨(hb.cell (p := ⟨n, 0, none⟩) hn).trans h.1, (hb.cell (p := ⟨n, 1, none⟩) hn).trans h.2⟩
theorem keep2_2_2 {w0 w w' : World} {n m : Nat} {v0 v1 u0 u1 : Value} (h : Hid (Below w0.heap.size w0 w) ∧ (w.cell? ⟨n, 0, none⟩ = some v0 ∧ w.cell? ⟨n, 1, none⟩ = some v1) ∧ (w.cell? ⟨m, 0, none⟩ = some u0 ∧ w.cell? ⟨m, 1, none⟩ = some u1)) (hb : Hid (Below w.heap.size w w')) :
    Hid (Below w0.heap.size w0 w') ∧ (w'.cell? ⟨n, 0, none⟩ = some v0 ∧ w'.cell? ⟨n, 1, none⟩ = some v1) ∧ (w'.cell? ⟨m, 0, none⟩ = some u0 ∧ w'.cell? ⟨m, 1, none⟩ = some u1) :=
  ⟨Lib.hid (below_after h.1.out (Nat.le_refl _) hb.out), cells2_on h.2.1 hb.out, cells2_on h.2.2 hb.out⟩


/-- two lists of the call's own -/
structure TwoPlayer (w : World) (lo hi : Nat) (a1 : Option Addr) (l1 c1 : Nat) (a2 : Option Addr) (l2 c2 : Nat) (A B : List Int) : Prop where
  fst : ∃ mid, lo ≤ mid ∧ mid ≤ hi ∧ Own w lo mid a1 l1 c1 A ∧ Own w mid hi a2 l2 c2 B
theorem TwoPlayer.keeps {w w' : World} {lo hi lo' hi' : Nat} {a1 : Option Addr} {l1 c1 : Nat} {a2 : Option Addr} {l2 c2 : Nat} {A B : List Int} (h : TwoPlayer w lo hi a1 l1 c1 a2 l2 c2 A B) (hk : Keeps lo' hi' w w') (hd : hi ≤ lo' ∨ hi' ≤ lo) : TwoPlayer w' lo hi a1 l1 c1 a2 l2 c2 A B := by
  obtain ⟨mid, h1, h2, h3, h4⟩ := h.fst
  exact ⟨mid, h1, h2, h3.keeps hk (by omega), h4.keeps hk (by omega)⟩
theorem TwoPlayer.below {w w' : World} {lo hi : Nat} {a1 : Option Addr} {l1 c1 : Nat} {a2 : Option Addr} {l2 c2 : Nat} {A B : List Int} (h : TwoPlayer w lo hi a1 l1 c1 a2 l2 c2 A B) (hk : Below w.heap.size w w') : TwoPlayer w' lo hi a1 l1 c1 a2 l2 c2 A B := by
  obtain ⟨mid, h1, h2, h3, h4⟩ := h.fst
  exact ⟨mid, h1, h2, h3.below hk, h4.below hk⟩
theorem TwoPlayer.a {w : World} {lo hi : Nat} {a1 : Option Addr} {l1 c1 : Nat} {a2 : Option Addr} {l2 c2 : Nat} {A B : List Int} (h : TwoPlayer w lo hi a1 l1 c1 a2 l2 c2 A B) : IAt w a1 l1 A := by
  obtain ⟨mid, h1, h2, h3, h4⟩ := h.fst
  exact h3.iat
theorem TwoPlayer.b {w : World} {lo hi : Nat} {a1 : Option Addr} {l1 c1 : Nat} {a2 : Option Addr} {l2 c2 : Nat} {A B : List Int} (h : TwoPlayer w lo hi a1 l1 c1 a2 l2 c2 A B) : IAt w a2 l2 B := by
  obtain ⟨mid, h1, h2, h3, h4⟩ := h.fst
  exact h4.iat

def sizePlayer (left : Int) (l1 l2 : Nat) : Int := if (l1 : Int) + l2 ≤ left then left - l1 - l2 else -1

theorem szPlayer_any (a1 : Option Addr) (l1 c1 : Nat) (a2 : Option Addr) (l2 c2 : Nat) (left : Int) (h0 : 0 ≤ left) (hl : left ≤ 1048576) (hm1 : l1 ≤ maxLen) (hm2 : l2 ≤ maxLen) (w : World) :
    Calls Try.prog 21 #[playerV a1 l1 c1 a2 l2 c2, .int .i64 left] w fun e w' => e = .returned (.int .i64 (sizePlayer left l1 l2)) ∧ Below w.heap.size w w' := by
  have HM1 := Lib.hid hm1
  have HM2 := Lib.hid hm2
  clear hm1 hm2
  by_cases g1 : (l1 : Int) ≤ left
  · have G := Lib.hid (leftOf_yes g1)
    have b := leftOf_le h0 hl g1
    by_cases g2 : (l2 : Int) ≤ leftOf left l1
    · have e : sizePlayer left l1 l2 = leftOf (leftOf left l1) l2 := by
        rw [leftOf_yes g2, G.out]; unfold sizePlayer; rw [G.out] at g2; rw [if_pos (by omega)]
      have b2 := leftOf_le b.1 b.2 g2
      rw [e]
      have G2 := Lib.hid g2
      have E := Lib.hid e
      clear e g1 g2
      obtain ⟨b0, b1⟩ := b
      obtain ⟨b2, b3⟩ := b2
      generalize hy : leftOf (leftOf left l1) l2 = y at *
      generalize hx : leftOf left l1 = x at *
      have HX := Lib.hid hx
      have HY := Lib.hid hy
      clear hx hy
      go_enter Try.func21, Try.ntmps21
      go_wp2_with fail
      refine (sz_any a1 l1 c1 left HM1.out h0 hl _).mono ?_
      rintro e w' ⟨rfl, rfl⟩
      rw [HX.out]
      go_wp2_with fail
      refine (sz_any a2 l2 c2 x HM2.out b0 b1 _).mono ?_
      rintro e w' ⟨rfl, rfl⟩
      rw [HY.out]
      go_wp2_with fail
      go_ret
      exact ⟨rfl, below1⟩
    · have e : sizePlayer left l1 l2 = -1 := by
        unfold sizePlayer; rw [G.out] at g2; rw [if_neg (by omega)]
      rw [e]
      have HY := Lib.hid (leftOf_no g2)
      clear e g1 g2
      obtain ⟨b0, b1⟩ := b
      generalize hx : leftOf left l1 = x at *
      have HX := Lib.hid hx
      clear hx
      go_enter Try.func21, Try.ntmps21
      go_wp2_with fail
      refine (sz_any a1 l1 c1 left HM1.out h0 hl _).mono ?_
      rintro e w' ⟨rfl, rfl⟩
      rw [HX.out]
      go_wp2_with fail
      refine (sz_any a2 l2 c2 x HM2.out b0 b1 _).mono ?_
      rintro e w' ⟨rfl, rfl⟩
      rw [HY.out]
      go_wp2_with fail
      go_ret
      exact ⟨rfl, below1⟩
  · have e : sizePlayer left l1 l2 = -1 := by
      unfold sizePlayer; rw [if_neg (by omega)]
    rw [e]
    have HX := Lib.hid (leftOf_no g1)
    clear e g1
    go_enter Try.func21, Try.ntmps21
    go_wp2_with fail
    refine (sz_any a1 l1 c1 left HM1.out h0 hl _).mono ?_
    rintro e w' ⟨rfl, rfl⟩
    rw [HX.out]
    go_wp2_with fail
    go_ret
    exact ⟨rfl, below1⟩

def CopiedPlayer (w : World) (l1 l2 : Nat) (A B : List Int) (e : Ending) (w' : World) : Prop :=
  ∃ g1 g2, e = .returned (playerV (some ⟨g1, 0, none⟩) l1 l1 (some ⟨g2, 0, none⟩) l2 l2) ∧ TwoPlayer w' w.heap.size w'.heap.size (some ⟨g1, 0, none⟩) l1 l1 (some ⟨g2, 0, none⟩) l2 l2 A B ∧ Below w.heap.size w w'

theorem toPlayer_any (a1 : Option Addr) (l1 c1 : Nat) (a2 : Option Addr) (l2 c2 : Nat) (A B : List Int) (w : World) (hl1 : l1 ≤ 1048576) (hl2 : l2 ≤ 1048576) (hA : IAt w a1 l1 A) (hB : IAt w a2 l2 B) :
    Calls Try.prog 23 #[playerV a1 l1 c1 a2 l2 c2] w (CopiedPlayer w l1 l2 A B) := by
  have HA := Lib.hid hA.inB
  have HB := Lib.hid hB.inB
  clear hA hB
  go_enter Try.func23, Try.ntmps23
  go_wp2_with fail
  refine (copy_any a1 l1 c1 A _ hl1 (HA.out.keep below3).1).mono ?_
  rintro e w1 ⟨g1, rfl, o1, b1⟩
  have x1 : Box2 w1 w.heap.size 41 (.slice a1 l1 c1) (.slice a2 l2 c2) := (b1.block _ (by first | (simp; done) | (simp; omega))).trans heap3a
  have x2 : Box2 w1 (w.heap.size + 1) 44 (.slice none 0 0) (.slice none 0 0) := (b1.block _ (by simp)).trans heap3b
  have x3 : Box2 w1 (w.heap.size + 2) 44 (.slice none 0 0) (.slice none 0 0) := (b1.block _ (by simp)).trans heap3c
  have B1 := Lib.hid (below_after (below3 (w := w)) (Nat.le_refl _) b1)
  have O1 := Lib.hid o1
  have S1 := Lib.hid b1.size
  have X2 := Lib.hid x2
  have X3 := Lib.hid x3
  obtain ⟨⟨p_0, p_1⟩, q0, q1⟩ := x1.all
  obtain ⟨⟨s0, s1⟩, t0, t1⟩ := x3.all
  clear o1 b1 x1 x2 x3
  go_wp2_with fail
  have b12 := B1.out.setCell (p := ⟨w.heap.size + 2, 0, none⟩) (by show w.heap.size ≤ w.heap.size + 2; omega) (.slice (some ⟨g1, 0, none⟩) l1 l1)
  have B12 := Lib.hid b12
  refine (copy_any a2 l2 c2 B _ hl2 (HB.out.keep b12).1).mono ?_
  clear b12 p_0 q0 s0 t0 p_1 q1 s1 t1
  rintro e w2 ⟨g2, rfl, o2, b2⟩
  have y2 := (X2.out.far (m := w.heap.size + 2) (i := 0) (u := (.slice (some ⟨g1, 0, none⟩) l1 l1)) (by omega)).below b2
  have y3 := (X3.out.set0 (u := (.slice (some ⟨g1, 0, none⟩) l1 l1))).below b2
  have B2 := Lib.hid (below_after B12.out (Nat.le_refl _) b2)
  have hs1 : w.heap.size + 3 ≤ w1.heap.size := by have := S1.out; simp at this; omega
  have O1' := Lib.hid ((O1.out.far (n := w.heap.size + 2) (i := 0) (u := (.slice (some ⟨g1, 0, none⟩) l1 l1)) (.inl (by simp))).below b2)
  have O2 := Lib.hid o2
  have S2 := Lib.hid b2.size
  obtain ⟨⟨p_0, p_1⟩, q0, q1⟩ := y2.all
  obtain ⟨⟨s0, s1⟩, t0, t1⟩ := y3.all
  have Y2 := Lib.hid y2
  clear o2 b2 y2 y3
  go_wp2_with fail
  have z2 := (((Y2.out.far (m := w.heap.size + 2) (i := 1) (u := (.slice (some ⟨g2, 0, none⟩) l2 l2)) (by omega)).set0 (u := (.slice (some ⟨g1, 0, none⟩) l1 l1))).set1 (u := (.slice (some ⟨g2, 0, none⟩) l2 l2)))
  refine bodyPost_ret (results_cell_row (p := 2) (by kernel_rfl) _ _ (w.heap.size + 1) _ _ _ _ rfl z2 Try.underlying44 rfl (by kernel_rfl)) rfl ?_
  have hs2 := S2.out
  have e1 : (w1.setCell ⟨w.heap.size + 2, 0, none⟩ (.slice (some ⟨g1, 0, none⟩) l1 l1)).heap.size = w1.heap.size := by simp [World.setCell]
  have o1 := O1'.out
  have o2 := O2.out
  rw [e1] at hs2 o2
  have o1x := o1.wide (lo' := w.heap.size + 3) (hi' := w1.heap.size) (by simp) (Nat.le_refl _) hs2
  have o1y := (((o1x.far (n := w.heap.size + 2) (i := 1) (u := (.slice (some ⟨g2, 0, none⟩) l2 l2)) (by omega)).far (n := w.heap.size + 1) (i := 0) (u := (.slice (some ⟨g1, 0, none⟩) l1 l1)) (by omega)).far (n := w.heap.size + 1) (i := 1) (u := (.slice (some ⟨g2, 0, none⟩) l2 l2)) (by omega))
  have o2y := (((o2.far (n := w.heap.size + 2) (i := 1) (u := (.slice (some ⟨g2, 0, none⟩) l2 l2)) (by omega)).far (n := w.heap.size + 1) (i := 0) (u := (.slice (some ⟨g1, 0, none⟩) l1 l1)) (by omega)).far (n := w.heap.size + 1) (i := 1) (u := (.slice (some ⟨g2, 0, none⟩) l2 l2)) (by omega))
  have bf := (((B2.out.setCell (p := ⟨w.heap.size + 2, 1, none⟩) (by show w.heap.size ≤ _ + 2; omega) (.slice (some ⟨g2, 0, none⟩) l2 l2)).setCell (p := ⟨w.heap.size + 1, 0, none⟩) (by show w.heap.size ≤ _ + 1; omega) (.slice (some ⟨g1, 0, none⟩) l1 l1)).setCell (p := ⟨w.heap.size + 1, 1, none⟩) (by show w.heap.size ≤ _ + 1; omega) (.slice (some ⟨g2, 0, none⟩) l2 l2))
  have he : ∀ (x : World) (a : Addr) (u : Value), (x.setCell a u).heap.size = x.heap.size := fun x a u => by simp [World.setCell]
  refine ⟨g1, g2, rfl, ⟨⟨w1.heap.size, by omega, ?_, o1y.wide (by omega) (Nat.le_refl _) ?_, o2y.wide (Nat.le_refl _) ?_ (Nat.le_refl _)⟩⟩, bf⟩
  all_goals (repeat rw [he]); first | exact hs2 | exact Nat.le_refl _

theorem eqPlayer_any (a1 : Option Addr) (l1 c1 : Nat) (a2 : Option Addr) (l2 c2 : Nat) (a3 : Option Addr) (c3 : Nat) (a4 : Option Addr) (c4 : Nat) (A B : List Int) (w : World)
    (hA : IAt w a1 l1 A) (hB : IAt w a2 l2 B) (hA' : IAt w a3 l1 A) (hB' : IAt w a4 l2 B) :
    Calls Try.prog 25 #[playerV a1 l1 c1 a2 l2 c2, playerV a3 l1 c3 a4 l2 c4] w fun e w' => e = .returned (.bool true) ∧ Below w.heap.size w w' := by
  have HA := Lib.hid hA
  have HB := Lib.hid hB
  have HA' := Lib.hid hA'
  have HB' := Lib.hid hB'
  clear hA hB hA' hB'
  go_enter Try.func25, Try.ntmps25
  go_wp2_with fail
  have b0 : Below w.heap.size w ((w.alloc (.cells #[.slice a1 l1 c1, .slice a2 l2 c2] 44)).alloc (.cells #[.slice a3 l1 c3, .slice a4 l2 c4] 44)) := below2
  refine (eq_any a1 a3 l1 c1 c3 A _ (HA.out.below b0) (HA'.out.below b0)).mono ?_
  rintro e w1 ⟨rfl, n1, rfl⟩
  have B0 := Lib.hid b0
  clear b0
  go_wp2_with fail
  refine (eq_any a2 a4 l2 c2 c4 B _ ((HB.out.below B0.out).below (same_below ⟨n1, rfl⟩ _)) ((HB'.out.below B0.out).below (same_below ⟨n1, rfl⟩ _))).mono ?_
  rintro e w2 ⟨rfl, n2, rfl⟩
  go_wp2_with fail
  go_ret
  exact ⟨rfl, B0.out.trans (same_below ⟨_, rfl⟩ _)⟩
end Go.Proofs.Ytnbmfnhbmbalmaa
