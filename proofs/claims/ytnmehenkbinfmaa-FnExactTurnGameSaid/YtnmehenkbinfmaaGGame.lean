/-
  The laws' own small functions on games: sizes, copies, comparisons, marks.
-/
import Derived.Test.YtnmehenkbinfmaaGCom
namespace Go.Proofs.Ytnmehenkbinfmaa
open Go.RowKit Go.ChangeShapes Go.WideShapes
set_option linter.unusedVariables false

abbrev gameV (r c : Int) (a1 : Option Addr) (l1 c1 : Nat) (a2 : Option Addr) (l2 c2 : Nat) : Value := .agg #[.int .i64 r, .int .i64 c, .slice a1 l1 c1, .slice a2 l2 c2]

def sizeOfGame (left : Int) (l1 l2 : Nat) : Int := if (l1 : Int) + l2 ≤ left then left - l1 - l2 else -1

theorem szGame_any (r c : Int) (a1 : Option Addr) (l1 c1 : Nat) (a2 : Option Addr) (l2 c2 : Nat) (left : Int) (h0 : 0 ≤ left) (hl : left ≤ 1048576) (hm1 : l1 ≤ maxLen) (hm2 : l2 ≤ maxLen) (w : World) :
    Calls Try.prog 22 #[gameV r c a1 l1 c1 a2 l2 c2, .int .i64 left] w fun e w' => e = .returned (.int .i64 (sizeOfGame left l1 l2)) ∧ Below w.heap.size w w' := by
  have HM1 := Lib.hid hm1
  have HM2 := Lib.hid hm2
  clear hm1 hm2
  by_cases g1 : (l1 : Int) ≤ left
  · have G := Lib.hid (leftOf_yes g1)
    have b := leftOf_le h0 hl g1
    by_cases g2 : (l2 : Int) ≤ leftOf left l1
    · have e : sizeOfGame left l1 l2 = leftOf (leftOf left l1) l2 := by
        rw [leftOf_yes g2, G.out]; unfold sizeOfGame; rw [G.out] at g2; rw [if_pos (by omega)]
      have b2 := leftOf_le b.1 b.2 g2
      rw [e]
      have G2 := Lib.hid g2
      have E := Lib.hid e
      clear e g1 g2
      obtain ⟨b0, b1⟩ := b
      obtain ⟨b2, b3⟩ := b2
      generalize hy : leftOf (leftOf left l1) l2 = y at *
      generalize hx : leftOf left l1 = x at *
      have HX := Lib.hid hx
      have HY := Lib.hid hy
      clear hx hy
      go_enter Try.func22, Try.ntmps22
      go_wp2_with fail
      refine (sz_any a1 l1 c1 left HM1.out h0 hl _).mono ?_
      rintro e w' ⟨rfl, rfl⟩
      rw [HX.out]
      go_wp2_with fail
      refine (sz_any a2 l2 c2 x HM2.out b0 b1 _).mono ?_
      rintro e w' ⟨rfl, rfl⟩
      rw [HY.out]
      go_wp2_with fail
      go_ret
      exact ⟨rfl, below1⟩
    · have e : sizeOfGame left l1 l2 = -1 := by
        unfold sizeOfGame; rw [G.out] at g2; rw [if_neg (by omega)]
      rw [e]
      have HY := Lib.hid (leftOf_no g2)
      clear e g1 g2
      obtain ⟨b0, b1⟩ := b
      generalize hx : leftOf left l1 = x at *
      have HX := Lib.hid hx
      clear hx
      go_enter Try.func22, Try.ntmps22
      go_wp2_with fail
      refine (sz_any a1 l1 c1 left HM1.out h0 hl _).mono ?_
      rintro e w' ⟨rfl, rfl⟩
      rw [HX.out]
      go_wp2_with fail
      refine (sz_any a2 l2 c2 x HM2.out b0 b1 _).mono ?_
      rintro e w' ⟨rfl, rfl⟩
      rw [HY.out]
      go_wp2_with fail
      go_ret
      exact ⟨rfl, below1⟩
  · have e : sizeOfGame left l1 l2 = -1 := by
      unfold sizeOfGame; rw [if_neg (by omega)]
    rw [e]
    have HX := Lib.hid (leftOf_no g1)
    clear e g1
    go_enter Try.func22, Try.ntmps22
    go_wp2_with fail
    refine (sz_any a1 l1 c1 left HM1.out h0 hl _).mono ?_
    rintro e w' ⟨rfl, rfl⟩
    rw [HX.out]
    go_wp2_with fail
    go_ret
    exact ⟨rfl, below1⟩

/-- a game of the call's own: both lists in blocks of their own, whichever came first -/
structure Game (w : World) (lo hi : Nat) (a1 : Option Addr) (l1 c1 : Nat) (a2 : Option Addr) (l2 c2 : Nat) (A B : List Int) : Prop where
  fst : ∃ p q r s, lo ≤ p ∧ q ≤ hi ∧ lo ≤ r ∧ s ≤ hi ∧ (q ≤ r ∨ s ≤ p) ∧ Own w p q a1 l1 c1 A ∧ Own w r s a2 l2 c2 B

theorem Game.of {w : World} {lo hi mid : Nat} {a1 : Option Addr} {l1 c1 : Nat} {a2 : Option Addr} {l2 c2 : Nat} {A B : List Int} (h1 : lo ≤ mid) (h2 : mid ≤ hi) (h3 : Own w lo mid a1 l1 c1 A) (h4 : Own w mid hi a2 l2 c2 B) : Game w lo hi a1 l1 c1 a2 l2 c2 A B :=
  ⟨lo, mid, mid, hi, Nat.le_refl _, h2, h1, Nat.le_refl _, .inl (Nat.le_refl _), h3, h4⟩
theorem Game.keeps {w w' : World} {lo hi lo' hi' : Nat} {a1 : Option Addr} {l1 c1 : Nat} {a2 : Option Addr} {l2 c2 : Nat} {A B : List Int} (h : Game w lo hi a1 l1 c1 a2 l2 c2 A B) (hk : Keeps lo' hi' w w') (hd : hi ≤ lo' ∨ hi' ≤ lo) : Game w' lo hi a1 l1 c1 a2 l2 c2 A B := by
  obtain ⟨p, q, r, s, g1, g2, g3, g4, g5, h3, h4⟩ := h.fst
  exact ⟨p, q, r, s, g1, g2, g3, g4, g5, h3.keeps hk (by omega), h4.keeps hk (by omega)⟩
theorem Game.below {w w' : World} {lo hi : Nat} {a1 : Option Addr} {l1 c1 : Nat} {a2 : Option Addr} {l2 c2 : Nat} {A B : List Int} (h : Game w lo hi a1 l1 c1 a2 l2 c2 A B) (hk : Below w.heap.size w w') : Game w' lo hi a1 l1 c1 a2 l2 c2 A B := by
  obtain ⟨p, q, r, s, g1, g2, g3, g4, g5, h3, h4⟩ := h.fst
  exact ⟨p, q, r, s, g1, g2, g3, g4, g5, h3.below hk, h4.below hk⟩
theorem Game.a {w : World} {lo hi : Nat} {a1 : Option Addr} {l1 c1 : Nat} {a2 : Option Addr} {l2 c2 : Nat} {A B : List Int} (h : Game w lo hi a1 l1 c1 a2 l2 c2 A B) : IAt w a1 l1 A := by
  obtain ⟨p, q, r, s, g1, g2, g3, g4, g5, h3, h4⟩ := h.fst
  exact h3.iat
theorem Game.b {w : World} {lo hi : Nat} {a1 : Option Addr} {l1 c1 : Nat} {a2 : Option Addr} {l2 c2 : Nat} {A B : List Int} (h : Game w lo hi a1 l1 c1 a2 l2 c2 A B) : IAt w a2 l2 B := by
  obtain ⟨p, q, r, s, g1, g2, g3, g4, g5, h3, h4⟩ := h.fst
  exact h4.iat

def CopiedG (w : World) (r c : Int) (l1 l2 : Nat) (A B : List Int) (e : Ending) (w' : World) : Prop :=
  ∃ g1 g2, e = .returned (gameV r c (some ⟨g1, 0, none⟩) l1 l1 (some ⟨g2, 0, none⟩) l2 l2) ∧ Game w' w.heap.size w'.heap.size (some ⟨g1, 0, none⟩) l1 l1 (some ⟨g2, 0, none⟩) l2 l2 A B ∧ Below w.heap.size w w'

theorem toGame_any (r c : Int) (a1 : Option Addr) (l1 c1 : Nat) (a2 : Option Addr) (l2 c2 : Nat) (A B : List Int) (w : World) (hl1 : l1 ≤ 1048576) (hl2 : l2 ≤ 1048576) (hA : IAt w a1 l1 A) (hB : IAt w a2 l2 B) :
    Calls Try.prog 24 #[gameV r c a1 l1 c1 a2 l2 c2] w (CopiedG w r c l1 l2 A B) := by
  have HA := Lib.hid hA.inB
  have HB := Lib.hid hB.inB
  clear hA hB
  go_enter Try.func24, Try.ntmps24
  go_wp2_with fail
  refine (copy_any a1 l1 c1 A _ hl1 (HA.out.keep below3).1).mono ?_
  rintro e w1 ⟨g1, rfl, o1, b1⟩
  have x1 : Box4 w1 w.heap.size 24 (.int .i64 r) (.int .i64 c) (.slice a1 l1 c1) (.slice a2 l2 c2) := (b1.block _ (by first | (simp; done) | (simp; omega))).trans heap3a
  have x2 : Box4 w1 (w.heap.size + 1) 27 (.int .i64 0) (.int .i64 0) (.slice none 0 0) (.slice none 0 0) := (b1.block _ (by simp)).trans heap3b
  have x3 : Box4 w1 (w.heap.size + 2) 27 (.int .i64 r) (.int .i64 c) (.slice none 0 0) (.slice none 0 0) := (b1.block _ (by simp)).trans heap3c
  have B1 := Lib.hid (below_after (below3 (w := w)) (Nat.le_refl _) b1)
  have O1 := Lib.hid o1
  have S1 := Lib.hid b1.size
  have X1 := Lib.hid x1
  have X2 := Lib.hid x2
  have X3 := Lib.hid x3
  obtain ⟨⟨p0, p1, p2, p3⟩, q0, q1, q2, q3⟩ := x1.all
  obtain ⟨⟨s0, s1, s2, s3⟩, t0, t1, t2, t3⟩ := x3.all
  clear o1 b1 x1 x2 x3
  go_wp2_with fail
  have b12 := B1.out.setCell (p := ⟨w.heap.size + 2, 2, none⟩) (by show w.heap.size ≤ w.heap.size + 2; omega) (.slice (some ⟨g1, 0, none⟩) l1 l1)
  have B12 := Lib.hid b12
  refine (copy_any a2 l2 c2 B _ hl2 (HB.out.keep b12).1).mono ?_
  clear b12 p0 p1 p2 p3 q0 q1 q2 q3 s0 s1 s2 s3 t0 t1 t2 t3
  rintro e w2 ⟨g2, rfl, o2, b2⟩
  have y2 := (X2.out.far (m := w.heap.size + 2) (i := 2) (u := .slice (some ⟨g1, 0, none⟩) l1 l1) (by omega)).below b2
  have y3 := (X3.out.set2 (u := .slice (some ⟨g1, 0, none⟩) l1 l1)).below b2
  have B2 := Lib.hid (below_after B12.out (Nat.le_refl _) b2)
  have hs1 : w.heap.size + 3 ≤ w1.heap.size := by have := S1.out; simp at this; omega
  have O1' := Lib.hid ((O1.out.far (n := w.heap.size + 2) (i := 2) (u := .slice (some ⟨g1, 0, none⟩) l1 l1) (.inl (by simp))).below b2)
  have O2 := Lib.hid o2
  have S2 := Lib.hid b2.size
  obtain ⟨⟨p0, p1, p2, p3⟩, q0, q1, q2, q3⟩ := y2.all
  obtain ⟨⟨s0, s1, s2, s3⟩, t0, t1, t2, t3⟩ := y3.all
  have Y2 := Lib.hid y2
  clear o2 b2 y2 y3
  go_wp2_with fail
  have z2 := (((((Y2.out.far (m := w.heap.size + 2) (i := 3) (u := .slice (some ⟨g2, 0, none⟩) l2 l2) (by omega)).set0 (u := .int .i64 r)).set1 (u := .int .i64 c)).set2 (u := .slice (some ⟨g1, 0, none⟩) l1 l1)).set3 (u := .slice (some ⟨g2, 0, none⟩) l2 l2))
  refine bodyPost_ret (results_cell_row (p := 2) (by kernel_rfl) _ _ (w.heap.size + 1) _ _ _ _ rfl z2 Try.underlying27 rfl (by kernel_rfl)) rfl ?_
  have hs2 := S2.out
  have e1 : (w1.setCell ⟨w.heap.size + 2, 2, none⟩ (.slice (some ⟨g1, 0, none⟩) l1 l1)).heap.size = w1.heap.size := by simp [World.setCell]
  have o1 := O1'.out
  have o2 := O2.out
  rw [e1] at hs2 o2
  have o1 := (((((o1.wide (lo' := w.heap.size + 3) (hi' := w1.heap.size) (by simp) (Nat.le_refl _) hs2).far (n := w.heap.size + 2) (i := 3) (u := .slice (some ⟨g2, 0, none⟩) l2 l2) (by omega)).far (n := w.heap.size + 1) (i := 0) (u := .int .i64 r) (by omega)).far (n := w.heap.size + 1) (i := 1) (u := .int .i64 c) (by omega)).far (n := w.heap.size + 1) (i := 2) (u := .slice (some ⟨g1, 0, none⟩) l1 l1) (by omega)).far (n := w.heap.size + 1) (i := 3) (u := .slice (some ⟨g2, 0, none⟩) l2 l2) (by omega)
  have o2 := ((((o2.far (n := w.heap.size + 2) (i := 3) (u := .slice (some ⟨g2, 0, none⟩) l2 l2) (by omega)).far (n := w.heap.size + 1) (i := 0) (u := .int .i64 r) (by omega)).far (n := w.heap.size + 1) (i := 1) (u := .int .i64 c) (by omega)).far (n := w.heap.size + 1) (i := 2) (u := .slice (some ⟨g1, 0, none⟩) l1 l1) (by omega)).far (n := w.heap.size + 1) (i := 3) (u := .slice (some ⟨g2, 0, none⟩) l2 l2) (by omega)
  have bf := ((((B2.out.setCell (p := ⟨w.heap.size + 2, 3, none⟩) (by show w.heap.size ≤ _ + 2; omega) (.slice (some ⟨g2, 0, none⟩) l2 l2)).setCell (p := ⟨w.heap.size + 1, 0, none⟩) (by show w.heap.size ≤ _ + 1; omega) (.int .i64 r)).setCell (p := ⟨w.heap.size + 1, 1, none⟩) (by show w.heap.size ≤ _ + 1; omega) (.int .i64 c)).setCell (p := ⟨w.heap.size + 1, 2, none⟩) (by show w.heap.size ≤ _ + 1; omega) (.slice (some ⟨g1, 0, none⟩) l1 l1)).setCell (p := ⟨w.heap.size + 1, 3, none⟩) (by show w.heap.size ≤ _ + 1; omega) (.slice (some ⟨g2, 0, none⟩) l2 l2)
  have he : ∀ (x : World) (a : Addr) (u : Value), (x.setCell a u).heap.size = x.heap.size := fun x a u => by simp [World.setCell]
  refine ⟨g1, g2, rfl, Game.of (mid := w1.heap.size) (by omega) ?_ (o1.wide (by omega) (Nat.le_refl _) ?_) (o2.wide (Nat.le_refl _) ?_ (Nat.le_refl _)), bf⟩
  all_goals (repeat rw [he]); first | exact hs2 | exact Nat.le_refl _

theorem eqGame_any (r c : Int) (a1 : Option Addr) (l1 c1 : Nat) (a2 : Option Addr) (l2 c2 : Nat) (a3 : Option Addr) (c3 : Nat) (a4 : Option Addr) (c4 : Nat) (A B : List Int) (w : World)
    (hA : IAt w a1 l1 A) (hB : IAt w a2 l2 B) (hA' : IAt w a3 l1 A) (hB' : IAt w a4 l2 B) :
    Calls Try.prog 26 #[gameV r c a1 l1 c1 a2 l2 c2, gameV r c a3 l1 c3 a4 l2 c4] w fun e w' => e = .returned (.bool true) ∧ Below w.heap.size w w' := by
  have HA := Lib.hid hA
  have HB := Lib.hid hB
  have HA' := Lib.hid hA'
  have HB' := Lib.hid hB'
  clear hA hB hA' hB'
  go_enter Try.func26, Try.ntmps26
  go_wp2_with fail
  have b0 : Below w.heap.size w ((w.alloc (.cells #[.int .i64 r, .int .i64 c, .slice a1 l1 c1, .slice a2 l2 c2] 27)).alloc (.cells #[.int .i64 r, .int .i64 c, .slice a3 l1 c3, .slice a4 l2 c4] 27)) := below2
  refine (eq_any a1 a3 l1 c1 c3 A _ (HA.out.below b0) (HA'.out.below b0)).mono ?_
  rintro e w1 ⟨rfl, n1, rfl⟩
  have B0 := Lib.hid b0
  clear b0
  go_wp2_with fail
  refine (eq_any a2 a4 l2 c2 c4 B _ ((HB.out.below B0.out).below (same_below ⟨n1, rfl⟩ _)) ((HB'.out.below B0.out).below (same_below ⟨n1, rfl⟩ _))).mono ?_
  rintro e w2 ⟨rfl, n2, rfl⟩
  go_wp2_with fail
  go_ret
  exact ⟨rfl, B0.out.trans (same_below ⟨_, rfl⟩ _)⟩

def MarkedG (w : World) (lo hi : Nat) (a1 : Option Addr) (l1 c1 : Nat) (a2 : Option Addr) (l2 c2 : Nat) (k : Int) (e : Ending) (w' : World) : Prop :=
  e = .returned (.int .i64 (k + l1 + l2)) ∧ Game w' lo hi a1 l1 c1 a2 l2 c2 (markL k l1) (markL (k + l1) l2) ∧ Keeps lo hi w w'

theorem markGame_any (r c : Int) (lo hi : Nat) (a1 : Option Addr) (l1 c1 : Nat) (a2 : Option Addr) (l2 c2 : Nat) (A B : List Int) (k : Int) (w : World) (hk0 : 0 ≤ k) (hk1 : k + l1 + l2 ≤ 4194304) (h : Game w lo hi a1 l1 c1 a2 l2 c2 A B) :
    Calls Try.prog 34 #[gameV r c a1 l1 c1 a2 l2 c2, .int .i64 k] w (MarkedG w lo hi a1 l1 c1 a2 l2 c2 k) := by
  obtain ⟨p, q, t, u, g1, g2, g3, g4, g5, hA, hB⟩ := h.fst
  have hiw := hB.2.2.1
  have hiv := hA.2.2.1
  have HA := Lib.hid hA
  have HB := Lib.hid hB
  clear hA hB h
  go_enter Try.func34, Try.ntmps34
  go_wp2_with fail
  refine (mark_any p q a1 l1 c1 A k _ hk0 (by omega) (HA.out.below below1)).mono ?_
  rintro e w1 ⟨rfl, o1, k1, s1⟩
  have x1 : Box4 w1 w.heap.size 27 (.int .i64 r) (.int .i64 c) (.slice a1 l1 c1) (.slice a2 l2 c2) := (k1.block _ (by simp) (.inr (by omega))).trans heap1
  obtain ⟨⟨p0, p1, p2, p3⟩, q0, q1, q2, q3⟩ := x1.all
  have O1 := Lib.hid o1
  have K1 := Lib.hid ((Keeps.of_below (lo := lo) (hi := hi) (below1 (w := w))).trans (k1.wide g1 g2))
  have OB := Lib.hid ((HB.out.below below1).keeps k1 (by omega))
  clear o1 k1 x1 s1
  go_wp2_with fail
  refine (mark_any t u a2 l2 c2 B (k + l1) _ (by omega) (by omega) OB.out).mono ?_
  rintro e w2 ⟨rfl, o2, k2, s2⟩
  have O2 := Lib.hid o2
  have K2 := Lib.hid k2
  clear o2 k2 s2
  go_wp2_with fail
  go_ret
  exact ⟨rfl, ⟨p, q, t, u, g1, g2, g3, g4, g5, O1.out.keeps K2.out (by omega), O2.out⟩, K1.out.trans (K2.out.wide g3 g4)⟩

theorem heldGame_any (r c : Int) (a1 : Option Addr) (l1 c1 : Nat) (a2 : Option Addr) (l2 c2 : Nat) (k : Int) (w : World) (hk0 : 0 ≤ k) (hk1 : k + l1 + l2 ≤ 4194304) (hA : IAt w a1 l1 (markL k l1)) (hB : IAt w a2 l2 (markL (k + l1) l2)) :
    Calls Try.prog 35 #[gameV r c a1 l1 c1 a2 l2 c2, .int .i64 k] w fun e w' => e = .returned (.int .i64 (k + l1 + l2)) ∧ Below w.heap.size w w' := by
  have HA := Lib.hid hA
  have HB := Lib.hid hB
  clear hA hB
  go_enter Try.func35, Try.ntmps35
  go_wp2_with fail
  refine (held_any a1 l1 c1 k _ hk0 (by omega) (HA.out.below below1)).mono ?_
  rintro e w1 ⟨rfl, n1, rfl⟩
  go_wp2_with fail
  refine (held_any a2 l2 c2 (k + l1) _ (by omega) (by omega) ((HB.out.below below1).below (same_below ⟨n1, rfl⟩ _))).mono ?_
  rintro e w2 ⟨rfl, n2, rfl⟩
  go_wp2_with fail
  go_ret
  exact ⟨rfl, below1.trans (same_below ⟨_, rfl⟩ _)⟩

end Go.Proofs.Ytnmehenkbinfmaa
