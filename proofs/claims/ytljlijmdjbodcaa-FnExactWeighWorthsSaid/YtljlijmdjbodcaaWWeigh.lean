/-
  WeighWorths: x times a and y times b. The program's answer.
-/
import Derived.Test.YtljlijmdjbodcaaWOther
namespace Go.Proofs.Ytljlijmdjbodcaa
open Go.RowKit Go.Shelf
set_option linter.unusedVariables false

section
variable {w : World} {o p q r s : Obj}
theorem heap5a : (((((w.alloc o).alloc p).alloc q).alloc r).alloc s).heap[w.heap.size]? = some o := (Below.heap_alloc _ _ _ (by first | (simp; done) | (simp; omega))).trans heap4a
theorem heap5b : (((((w.alloc o).alloc p).alloc q).alloc r).alloc s).heap[w.heap.size + 1]? = some p := (Below.heap_alloc _ _ _ (by first | (simp; done) | (simp; omega))).trans heap4b
theorem heap5c : (((((w.alloc o).alloc p).alloc q).alloc r).alloc s).heap[w.heap.size + 2]? = some q := (Below.heap_alloc _ _ _ (by first | (simp; done) | (simp; omega))).trans heap4c
theorem heap5d : (((((w.alloc o).alloc p).alloc q).alloc r).alloc s).heap[w.heap.size + 3]? = some r := (Below.heap_alloc _ _ _ (by first | (simp; done) | (simp; omega))).trans heap4d
theorem heap5e : (((((w.alloc o).alloc p).alloc q).alloc r).alloc s).heap[w.heap.size + 4]? = some s := by simpa using heap_alloc_new ((((w.alloc o).alloc p).alloc q).alloc r) s
end

/-- x times a's worth and y times b's -/
def weighF (A B : List Int) (x y : Int) (s : Nat) : Int := x * A.getD s 0 + y * B.getD s 0
def weighV (p : Int) (A : List Int) (p2 : Int) (B : List Int) (x y : Int) : Int × List Int × Bool :=
  if okW p A then (if okW p2 B then (if p = p2 then (if inB (-100) 100 x then (if inB (-100) 100 y then byV p.toNat (weighF A B x y) else (0, [], false)) else (0, [], false)) else (0, [], false)) else (0, [], false)) else (0, [], false)
section
variable {p p2 x y : Int} {A B : List Int}
theorem weighV_a (h : okW p A = false) : weighV p A p2 B x y = (0, [], false) := by unfold weighV; rw [h]; rfl
theorem weighV_b (h : okW p A = true) (h2 : okW p2 B = false) : weighV p A p2 B x y = (0, [], false) := by unfold weighV; rw [h, h2]; rfl
theorem weighV_p (h : okW p A = true) (h2 : okW p2 B = true) (h3 : ¬ p = p2) : weighV p A p2 B x y = (0, [], false) := by unfold weighV; rw [h, h2, if_neg h3]; rfl
theorem weighV_x (h : okW p A = true) (h2 : okW p B = true) (h3 : inB (-100) 100 x = false) : weighV p A p B x y = (0, [], false) := by unfold weighV; simp [h, h2, h3]
theorem weighV_y (h : okW p A = true) (h2 : okW p B = true) (h3 : inB (-100) 100 x = true) (h4 : inB (-100) 100 y = false) : weighV p A p B x y = (0, [], false) := by unfold weighV; simp [h, h2, h3, h4]
theorem weighV_yes (h : okW p A = true) (h2 : okW p B = true) (h3 : inB (-100) 100 x = true) (h4 : inB (-100) 100 y = true) : weighV p A p B x y = byV p.toNat (weighF A B x y) := by unfold weighV; simp [h, h2, h3, h4]
theorem weighV_len (p : Int) (A : List Int) (p2 : Int) (B : List Int) (x y : Int) : (weighV p A p2 B x y).2.1.length ≤ 4096 := by
  unfold weighV
  split
  · split
    · split
      · split
        · split
          · rename_i h _ _ _ _
            obtain ⟨P, rfl, _, h6, _⟩ := okW_true h
            exact byV_len h6 _
          · simp
        · simp
      · simp
    · simp
  · simp
end
theorem mul_in {x u : Int} (hx : -100 ≤ x ∧ x ≤ 100) (hu : -10000 ≤ u ∧ u ≤ 10000) : -1000000 ≤ x * u ∧ x * u ≤ 1000000 := by
  have a := Int.mul_nonneg (show 0 ≤ 100 - x by omega) (show 0 ≤ u + 10000 by omega)
  have b := Int.mul_nonneg (show 0 ≤ 100 + x by omega) (show 0 ≤ u + 10000 by omega)
  have c := Int.mul_nonneg (show 0 ≤ 100 - x by omega) (show 0 ≤ 10000 - u by omega)
  have d := Int.mul_nonneg (show 0 ≤ 100 + x by omega) (show 0 ≤ 10000 - u by omega)
  rw [Int.sub_mul, Int.mul_add, Int.mul_add] at a
  rw [Int.add_mul, Int.mul_add, Int.mul_add] at b
  rw [Int.sub_mul, Int.mul_sub, Int.mul_sub] at c
  rw [Int.add_mul, Int.mul_sub, Int.mul_sub] at d
  omega

set_option maxRecDepth 20000 in
theorem weighRule_any (P m m1 m2 m3 : Nat) (a1 : Option Addr) (l1 c1 : Nat) (A : List Int) (a2 : Option Addr) (l2 c2 : Nat) (B : List Int) (x y : Int) (w : World) (hx : Box2 w m 27 (.int .i64 (P : Nat)) (.slice a1 l1 c1)) (hy : Box2 w m1 27 (.int .i64 (P : Nat)) (.slice a2 l2 c2))
    (hqx : Boxed w m2 2 (.int .i64 x)) (hqy : Boxed w m3 2 (.int .i64 y)) (hA : IAt w a1 l1 A) (hB : IAt w a2 l2 B) (hok : okW (P : Nat) A = true) (hok2 : okW (P : Nat) B = true) (bx : -100 ≤ x ∧ x ≤ 100) (by' : -100 ≤ y ∧ y ≤ 100) (s : Part (wholeN P)) :
    Calls Try.prog 67 #[.int .i64 (s.1 : Nat), .pointer (some ⟨m2, 0, none⟩), .pointer (some ⟨m, 0, none⟩), .pointer (some ⟨m3, 0, none⟩), .pointer (some ⟨m1, 0, none⟩)] w fun e w' => e = .returned (.int .i64 (weighF A B x y s.1)) ∧ Below w.heap.size w w' := by
  obtain ⟨P', e1, h1, h6, hl, h0, hall⟩ := okW_true hok
  obtain rfl : P = P' := by omega
  obtain ⟨P', e1, h1', h6', hl', h0', hall'⟩ := okW_true hok2
  obtain rfl : P = P' := by omega
  have hlen := hA.1
  have hlen2 := hB.1
  have hP2 := pow_ge2 h1
  obtain ⟨b, off, rfl, hb, hc⟩ := w_at hA (by omega)
  obtain ⟨b2, off2, rfl, hb2, hc2⟩ := w_at hB (by omega)
  have hs := part_lt s
  have hs1 : s.1 < l1 := by omega
  have hs2 : s.1 < l2 := by omega
  have va := okAll_at hall (i := s.1) (by omega)
  have vb := okAll_at hall' (i := s.1) (by omega)
  have hc1 := hc s.1 hs1
  have hc3 := hc2 s.1 hs2
  have hmax := hA.2.1
  have hmax2 := hB.2.1
  have HE : Hid (weighF A B x y s.1 = x * A.getD s.1 0 + y * B.getD s.1 0) := Lib.hid rfl
  generalize s.1 = k at *
  generalize A.getD k 0 = u at *
  generalize B.getD k 0 = v at *
  have m1' := mul_in bx va
  have m2' := mul_in by' vb
  obtain ⟨d1, e1⟩ : ∃ d, x * u = d := ⟨_, rfl⟩
  obtain ⟨d2, e2⟩ : ∃ d, y * v = d := ⟨_, rfl⟩
  rw [e1] at m1' HE
  rw [e2] at m2' HE
  have p1 := fun z : ExtW w => (hx.below z.ext).c1
  have p2 := fun z : ExtW w => (hy.below z.ext).c1
  have p3 := fun z : ExtW w => (Boxed.below hqx z.ext).cell
  have p4 := fun z : ExtW w => (Boxed.below hqy z.ext).cell
  have r1 := fun z : ExtW w => (z.ext.cell (p := ⟨b, off + k, none⟩) hb).trans hc1
  have r2 := fun z : ExtW w => (z.ext.cell (p := ⟨b2, off2 + k, none⟩) hb2).trans hc3
  unfold maxLen at hmax hmax2
  clear hc hc1 hc2 hc3 hx hy hqx hqy hA hB hok hok2 h0 h0' hall hall' hl hl' hlen hlen2 hs hP2
  go_enter Try.func67, Try.ntmps67
  go_wp2_with fail
  refine region_ext (by kernel_rfl) (by kernel_rfl) ?_
  repeat (go_big_quiet_step (fail))
  refine wpQuiet_nil ?_
  intro _ hw'
  obtain ⟨z, hz⟩ := hw'
  subst hz
  go_wp2_with fail
  go_ret
  exact ⟨by rw [HE.out]; rfl, z.ext⟩

theorem pair_iat (w : World) (x y : Int) (hx : Big x) (hy : Big y) : IAt (w.alloc (.cells #[.int .i64 x, .int .i64 y] 2)) (some ⟨w.heap.size, 0, none⟩) 2 [x, y] := by
  refine ⟨rfl, by unfold maxLen; omega, ?_, .inr ⟨w.heap.size, 0, rfl, by simp, ?_⟩⟩
  · intro z hz
    simp at hz
    rcases hz with rfl | rfl
    · exact hx
    · exact hy
  · intro i hi
    have hB : (w.alloc (.cells #[.int .i64 x, .int .i64 y] 2)).heap[w.heap.size]? = some (.cells #[.int .i64 x, .int .i64 y] 2) := heap1
    rw [cell_of_row _ _ _ _ _ _ hB]
    have : i = 0 ∨ i = 1 := by omega
    rcases this with rfl | rfl <;> rfl

set_option maxHeartbeats 1000000 in
set_option maxRecDepth 20000 in
theorem implWeigh_any (p : Int) (a1 : Option Addr) (l1 c1 : Nat) (A : List Int) (p2 : Int) (a2 : Option Addr) (l2 c2 : Nat) (B : List Int) (x y : Int) (w : World) (hA : IAt w a1 l1 A) (hB : IAt w a2 l2 B) (hbx : Big x) (hby : Big y) :
    Calls Try.prog 26 #[worthsV p a1 l1 c1, worthsV p2 a2 l2 c2, .int .i64 x, .int .i64 y] w (OutWorths w (weighV p A p2 B x y)) := by
  have b0 := Lib.hid (below5 (w := w) (o := .cells #[.int .i64 p, .slice a1 l1 c1] 27) (p := .cells #[.int .i64 p2, .slice a2 l2 c2] 27) (q := .cells #[.int .i64 x] 2) (r := .cells #[.int .i64 y] 2) (s := .cells #[.int .i64 0, .slice none 0 0] 27))
  have HA := Lib.hid (hA.below b0.out)
  have HB := Lib.hid (hB.below b0.out)
  have HX : Hid (Box2 _ w.heap.size 27 (.int .i64 p) (.slice a1 l1 c1)) := Lib.hid (heap5a (w := w) (p := .cells #[.int .i64 p2, .slice a2 l2 c2] 27) (q := .cells #[.int .i64 x] 2) (r := .cells #[.int .i64 y] 2) (s := .cells #[.int .i64 0, .slice none 0 0] 27))
  have HY : Hid (Box2 _ (w.heap.size + 1) 27 (.int .i64 p2) (.slice a2 l2 c2)) := Lib.hid (heap5b (w := w) (o := .cells #[.int .i64 p, .slice a1 l1 c1] 27) (q := .cells #[.int .i64 x] 2) (r := .cells #[.int .i64 y] 2) (s := .cells #[.int .i64 0, .slice none 0 0] 27))
  have HQX : Hid (Boxed _ (w.heap.size + 2) 2 (.int .i64 x)) := Lib.hid (heap5c (w := w) (o := .cells #[.int .i64 p, .slice a1 l1 c1] 27) (p := .cells #[.int .i64 p2, .slice a2 l2 c2] 27) (r := .cells #[.int .i64 y] 2) (s := .cells #[.int .i64 0, .slice none 0 0] 27))
  have HQY : Hid (Boxed _ (w.heap.size + 3) 2 (.int .i64 y)) := Lib.hid (heap5d (w := w) (o := .cells #[.int .i64 p, .slice a1 l1 c1] 27) (p := .cells #[.int .i64 p2, .slice a2 l2 c2] 27) (q := .cells #[.int .i64 x] 2) (s := .cells #[.int .i64 0, .slice none 0 0] 27))
  have HR : Hid (Box2 _ (w.heap.size + 4) 27 (.int .i64 0) (.slice none 0 0)) := Lib.hid (heap5e (w := w) (o := .cells #[.int .i64 p, .slice a1 l1 c1] 27) (p := .cells #[.int .i64 p2, .slice a2 l2 c2] 27) (q := .cells #[.int .i64 x] 2) (r := .cells #[.int .i64 y] 2))
  clear hA hB
  cases s1 : okW p A with
  | false =>
    have S1 := Lib.hid s1
    rw [weighV_a s1]
    clear s1
    go_enter Try.func26, Try.ntmps26
    go_wp2_with fail
    refine (implValidW_any _ a1 l1 c1 A _ HA.out).mono ?_
    rintro e w1 ⟨rfl, b1⟩
    rw [S1.out]
    have B1 := Lib.hid (below_after b0.out (Nat.le_refl _) b1)
    have HX1 := Lib.hid (HX.out.below b1)
    have HY1 := Lib.hid (HY.out.below b1)
    have HR1 := Lib.hid (HR.out.below b1)
    have HA1 := Lib.hid (HA.out.below b1)
    have HB1 := Lib.hid (HB.out.below b1)
    have HQX1 := Lib.hid (Boxed.below HQX.out b1)
    have HQY1 := Lib.hid (Boxed.below HQY.out b1)
    have hs1 := b1.size
    obtain ⟨⟨r0, r1⟩, g0, g1⟩ := HR1.out.all
    obtain ⟨⟨y0, y1⟩, _⟩ := HY1.out.all
    clear b1
    go_wp2_with fail
    have z := (HR1.out.set0 (u := .int .i64 0)).set1 (u := .slice none 0 0)
    have zb := (B1.out.setCell (p := ⟨w.heap.size + 4, 0, none⟩) (by show w.heap.size ≤ _ + 4; omega) (.int .i64 0)).setCell (p := ⟨w.heap.size + 4, 1, none⟩) (by show w.heap.size ≤ _ + 4; omega) (.slice none 0 0)
    generalize (w1.setCell ⟨w.heap.size + 4, 0, none⟩ (.int .i64 0)).setCell ⟨w.heap.size + 4, 1, none⟩ (.slice none 0 0) = W5 at *
    have c0 := z.c0
    have cc1 := z.c1
    refine bodyPost_ret (v := .tuple #[worthsV 0 none 0 0, .bool false]) (by simp [results, Try.f26, go_sem, c0, cc1]) rfl ?_
    exact ⟨none, 0, 0, rfl, own_nil _ (Nat.le_refl _), zb⟩
  | true =>
    have S1 := Lib.hid s1
    cases s2 : okW p2 B with
    | false =>
      have S2 := Lib.hid s2
      rw [weighV_b s1 s2]
      clear s1 s2
      go_enter Try.func26, Try.ntmps26
      go_wp2_with fail
      refine (implValidW_any _ a1 l1 c1 A _ HA.out).mono ?_
      rintro e w1 ⟨rfl, b1⟩
      rw [S1.out]
      have B1 := Lib.hid (below_after b0.out (Nat.le_refl _) b1)
      have HX1 := Lib.hid (HX.out.below b1)
      have HY1 := Lib.hid (HY.out.below b1)
      have HR1 := Lib.hid (HR.out.below b1)
      have HA1 := Lib.hid (HA.out.below b1)
      have HB1 := Lib.hid (HB.out.below b1)
      have HQX1 := Lib.hid (Boxed.below HQX.out b1)
      have HQY1 := Lib.hid (Boxed.below HQY.out b1)
      have hs1 := b1.size
      obtain ⟨⟨r0, r1⟩, g0, g1⟩ := HR1.out.all
      obtain ⟨⟨y0, y1⟩, _⟩ := HY1.out.all
      clear b1
      go_wp2_with fail
      refine (implValidW_any _ a2 l2 c2 B w1 HB1.out).mono ?_
      rintro e w2 ⟨rfl, b2⟩
      rw [S2.out]
      have B2 := Lib.hid (below_after B1.out (Nat.le_refl _) b2)
      have HX2 := Lib.hid (HX1.out.below b2)
      have HY2 := Lib.hid (HY1.out.below b2)
      have HR2 := Lib.hid (HR1.out.below b2)
      have HA2 := Lib.hid (HA1.out.below b2)
      have HB2 := Lib.hid (HB1.out.below b2)
      have HQX2 := Lib.hid (Boxed.below HQX1.out b2)
      have HQY2 := Lib.hid (Boxed.below HQY1.out b2)
      have hs2 := b2.size
      clear b2 r0 r1 g0 g1 y0 y1
      obtain ⟨⟨r0, r1⟩, g0, g1⟩ := HR2.out.all
      obtain ⟨⟨y0, y1⟩, _⟩ := HY2.out.all
      obtain ⟨⟨x0, x1⟩, _⟩ := HX2.out.all
      go_wp2_with fail
      have z := (HR2.out.set0 (u := .int .i64 0)).set1 (u := .slice none 0 0)
      have zb := (B2.out.setCell (p := ⟨w.heap.size + 4, 0, none⟩) (by show w.heap.size ≤ _ + 4; omega) (.int .i64 0)).setCell (p := ⟨w.heap.size + 4, 1, none⟩) (by show w.heap.size ≤ _ + 4; omega) (.slice none 0 0)
      generalize (w2.setCell ⟨w.heap.size + 4, 0, none⟩ (.int .i64 0)).setCell ⟨w.heap.size + 4, 1, none⟩ (.slice none 0 0) = W5 at *
      have c0 := z.c0
      have cc1 := z.c1
      refine bodyPost_ret (v := .tuple #[worthsV 0 none 0 0, .bool false]) (by simp [results, Try.f26, go_sem, c0, cc1]) rfl ?_
      exact ⟨none, 0, 0, rfl, own_nil _ (Nat.le_refl _), zb⟩
    | true =>
      have S2 := Lib.hid s2
      by_cases hp : p = p2
      · subst hp
        obtain ⟨P, rfl, h1, h6, hl, h0, hall⟩ := okW_true s1
        cases sb : okAll (-100) 100 [x, y] with
        | false =>
          have SB := Lib.hid sb
          have hv : weighV P A P B x y = (0, [], false) := by
            cases hx : inB (-100) 100 x with
            | false => exact weighV_x s1 s2 hx
            | true =>
              cases hy : inB (-100) 100 y with
              | false => exact weighV_y s1 s2 hx hy
              | true => simp [okAll, hx, hy] at sb
          rw [hv]
          clear s1 s2 hl h0 hall sb hv
          go_enter Try.func26, Try.ntmps26
          go_wp2_with fail
          refine (implValidW_any _ a1 l1 c1 A _ HA.out).mono ?_
          rintro e w1 ⟨rfl, b1⟩
          rw [S1.out]
          have B1 := Lib.hid (below_after b0.out (Nat.le_refl _) b1)
          have HX1 := Lib.hid (HX.out.below b1)
          have HY1 := Lib.hid (HY.out.below b1)
          have HR1 := Lib.hid (HR.out.below b1)
          have HA1 := Lib.hid (HA.out.below b1)
          have HB1 := Lib.hid (HB.out.below b1)
          have HQX1 := Lib.hid (Boxed.below HQX.out b1)
          have HQY1 := Lib.hid (Boxed.below HQY.out b1)
          have hs1 := b1.size
          obtain ⟨⟨r0, r1⟩, g0, g1⟩ := HR1.out.all
          obtain ⟨⟨y0, y1⟩, _⟩ := HY1.out.all
          clear b1
          go_wp2_with fail
          refine (implValidW_any _ a2 l2 c2 B w1 HB1.out).mono ?_
          rintro e w2 ⟨rfl, b2⟩
          rw [S2.out]
          have B2 := Lib.hid (below_after B1.out (Nat.le_refl _) b2)
          have HX2 := Lib.hid (HX1.out.below b2)
          have HY2 := Lib.hid (HY1.out.below b2)
          have HR2 := Lib.hid (HR1.out.below b2)
          have HA2 := Lib.hid (HA1.out.below b2)
          have HB2 := Lib.hid (HB1.out.below b2)
          have HQX2 := Lib.hid (Boxed.below HQX1.out b2)
          have HQY2 := Lib.hid (Boxed.below HQY1.out b2)
          have hs2 := b2.size
          clear b2 r0 r1 g0 g1 y0 y1
          obtain ⟨⟨r0, r1⟩, g0, g1⟩ := HR2.out.all
          obtain ⟨⟨y0, y1⟩, _⟩ := HY2.out.all
          obtain ⟨⟨x0, x1⟩, _⟩ := HX2.out.all
          have n2 := HQX2.out.cell
          have n3 := HQY2.out.cell
          have BN := Lib.hid (below1 (w := w2) (o := .cells #[.int .i64 x, .int .i64 y] 2))
          have HN : Hid (IAt (w2.alloc (.cells #[.int .i64 x, .int .i64 y] 2)) (some ⟨w2.heap.size, 0, none⟩) 2 [x, y]) := Lib.hid (pair_iat w2 x y hbx hby)
          have HR3 := Lib.hid (HR2.out.below BN.out)
          have B3 := Lib.hid (below_after B2.out (Nat.le_refl _) BN.out)
          obtain ⟨⟨rr0, rr1⟩, gg0, gg1⟩ := HR3.out.all
          have xx0 := (HX2.out.below BN.out).c0
          go_wp2_with (go_at_call 61; refine (areBetween_any _ _ _ [x, y] _ _ _ HN.out).mono ?_; rintro e w3 ⟨rfl, rfl⟩; rw [SB.out])
          have z := (HR3.out.set0 (u := .int .i64 0)).set1 (u := .slice none 0 0)
          have zb := (B3.out.setCell (p := ⟨w.heap.size + 4, 0, none⟩) (by show w.heap.size ≤ _ + 4; omega) (.int .i64 0)).setCell (p := ⟨w.heap.size + 4, 1, none⟩) (by show w.heap.size ≤ _ + 4; omega) (.slice none 0 0)
          generalize ((w2.alloc (.cells #[.int .i64 x, .int .i64 y] 2)).setCell ⟨w.heap.size + 4, 0, none⟩ (.int .i64 0)).setCell ⟨w.heap.size + 4, 1, none⟩ (.slice none 0 0) = W5 at *
          have c0 := z.c0
          have cc1 := z.c1
          refine bodyPost_ret (v := .tuple #[worthsV 0 none 0 0, .bool false]) (by simp [results, Try.f26, go_sem, c0, cc1]) rfl ?_
          exact ⟨none, 0, 0, rfl, own_nil _ (Nat.le_refl _), zb⟩
        | true =>
          have SB := Lib.hid sb
          have hxy : inB (-100) 100 x = true ∧ inB (-100) 100 y = true := by simpa [okAll] using sb
          obtain ⟨hx, hy⟩ := hxy
          have bx := inB_true.1 hx
          have by' := inB_true.1 hy
          rw [weighV_yes s1 s2 hx hy, show (P : Int).toNat = P from rfl]
          obtain ⟨_, e1, _, _, hl', _, hall'⟩ := okW_true s2
          have HBIG : Hid (∀ s, Big (weighF A B x y s)) := Lib.hid fun s => by
            have gA : -10000 ≤ A.getD s 0 ∧ A.getD s 0 ≤ 10000 := by
              by_cases h : s < A.length
              · exact okAll_at hall h
              · rw [List.getD_eq_getElem?_getD, List.getElem?_eq_none (by omega)]
                exact ⟨by decide, by decide⟩
            have gB : -10000 ≤ B.getD s 0 ∧ B.getD s 0 ≤ 10000 := by
              by_cases h : s < B.length
              · exact okAll_at hall' h
              · rw [List.getD_eq_getElem?_getD, List.getElem?_eq_none (by omega)]
                exact ⟨by decide, by decide⟩
            have a := mul_in bx gA
            have b := mul_in by' gB
            unfold weighF
            exact ⟨by omega, by omega⟩
          obtain ⟨v, L, ok, hxv⟩ : ∃ v L ok, byV P (weighF A B x y) = (v, L, ok) := ⟨_, _, _, rfl⟩
          rw [hxv]
          have HXV := Lib.hid hxv
          clear s1 s2 hl h0 hall sb hl' hall' e1 hxv hx hy
          go_enter Try.func26, Try.ntmps26
          go_wp2_with fail
          refine (implValidW_any _ a1 l1 c1 A _ HA.out).mono ?_
          rintro e w1 ⟨rfl, b1⟩
          rw [S1.out]
          have B1 := Lib.hid (below_after b0.out (Nat.le_refl _) b1)
          have HX1 := Lib.hid (HX.out.below b1)
          have HY1 := Lib.hid (HY.out.below b1)
          have HR1 := Lib.hid (HR.out.below b1)
          have HA1 := Lib.hid (HA.out.below b1)
          have HB1 := Lib.hid (HB.out.below b1)
          have HQX1 := Lib.hid (Boxed.below HQX.out b1)
          have HQY1 := Lib.hid (Boxed.below HQY.out b1)
          have hs1 := b1.size
          obtain ⟨⟨r0, r1⟩, g0, g1⟩ := HR1.out.all
          obtain ⟨⟨y0, y1⟩, _⟩ := HY1.out.all
          clear b1
          go_wp2_with fail
          refine (implValidW_any _ a2 l2 c2 B w1 HB1.out).mono ?_
          rintro e w2 ⟨rfl, b2⟩
          rw [S2.out]
          have B2 := Lib.hid (below_after B1.out (Nat.le_refl _) b2)
          have HX2 := Lib.hid (HX1.out.below b2)
          have HY2 := Lib.hid (HY1.out.below b2)
          have HR2 := Lib.hid (HR1.out.below b2)
          have HA2 := Lib.hid (HA1.out.below b2)
          have HB2 := Lib.hid (HB1.out.below b2)
          have HQX2 := Lib.hid (Boxed.below HQX1.out b2)
          have HQY2 := Lib.hid (Boxed.below HQY1.out b2)
          have hs2 := b2.size
          clear b2 r0 r1 g0 g1 y0 y1
          obtain ⟨⟨r0, r1⟩, g0, g1⟩ := HR2.out.all
          obtain ⟨⟨y0, y1⟩, _⟩ := HY2.out.all
          obtain ⟨⟨x0, x1⟩, _⟩ := HX2.out.all
          have n2 := HQX2.out.cell
          have n3 := HQY2.out.cell
          have BN := Lib.hid (below1 (w := w2) (o := .cells #[.int .i64 x, .int .i64 y] 2))
          have HN : Hid (IAt (w2.alloc (.cells #[.int .i64 x, .int .i64 y] 2)) (some ⟨w2.heap.size, 0, none⟩) 2 [x, y]) := Lib.hid (pair_iat w2 x y hbx hby)
          have HR3 := Lib.hid (HR2.out.below BN.out)
          have B3 := Lib.hid (below_after B2.out (Nat.le_refl _) BN.out)
          obtain ⟨⟨rr0, rr1⟩, gg0, gg1⟩ := HR3.out.all
          have xx0 := (HX2.out.below BN.out).c0
          go_wp2_with (go_at_call 61; refine (areBetween_any _ _ _ [x, y] _ _ _ HN.out).mono ?_; rintro e w3 ⟨rfl, rfl⟩; rw [SB.out])
          generalize hw3 : w2.alloc (.cells #[.int .i64 x, .int .i64 y] 2) = w3 at *
          have hs3 : w2.heap.size + 1 = w3.heap.size := by rw [← hw3]; simp
          clear hw3
          have HRule : Hid (RuleOne w3 67 #[.pointer (some ⟨w.heap.size + 2, 0, none⟩), .pointer (some ⟨w.heap.size, 0, none⟩), .pointer (some ⟨w.heap.size + 3, 0, none⟩), .pointer (some ⟨w.heap.size + 1, 0, none⟩)] (wholeN P) (weighF A B x y)) := Lib.hid fun W hW s =>
            weighRule_any P w.heap.size (w.heap.size + 1) (w.heap.size + 2) (w.heap.size + 3) a1 l1 c1 A a2 l2 c2 B x y W ((HX2.out.below BN.out).below hW) ((HY2.out.below BN.out).below hW) (Boxed.below (Boxed.below HQX2.out BN.out) hW) (Boxed.below (Boxed.below HQY2.out BN.out) hW) ((HA2.out.below BN.out).below hW) ((HB2.out.below BN.out).below hW) S1.out S2.out bx by' s
          refine (by_yes P 67 _ (weighF A B x y) w3 h1 h6 (enters_of Try.func67 (by kernel_rfl) rfl) HRule.out HBIG.out).mono ?_
          rw [HXV.out]
          rintro e w4 ⟨a, l, c, rfl, o2, b4⟩
          have B4 := Lib.hid (below_after B3.out (Nat.le_refl _) b4)
          have HR4 := Lib.hid (HR3.out.below b4)
          have HO4 := Lib.hid o2
          have hs4 := b4.size
          clear r0 r1 g0 g1 y0 y1 x0 x1 n2 n3 rr0 rr1 gg0 gg1 xx0 o2 b4
          obtain ⟨⟨r0, r1⟩, g0, g1⟩ := HR4.out.all
          go_wp2_with fail
          have z := (HR4.out.set0 (u := .int .i64 v)).set1 (u := .slice a l c)
          have zb := (B4.out.setCell (p := ⟨w.heap.size + 4, 0, none⟩) (by show w.heap.size ≤ _ + 4; omega) (.int .i64 v)).setCell (p := ⟨w.heap.size + 4, 1, none⟩) (by show w.heap.size ≤ _ + 4; omega) (.slice a l c)
          have hw1 : w.heap.size + 5 ≤ w1.heap.size := by have := hs1; simp at this; omega
          have zo := (HO4.out.far (n := w.heap.size + 4) (i := 0) (u := .int .i64 v) (by omega)).far (n := w.heap.size + 4) (i := 1) (u := .slice a l c) (by omega)
          have zs : ((w4.setCell ⟨w.heap.size + 4, 0, none⟩ (.int .i64 v)).setCell ⟨w.heap.size + 4, 1, none⟩ (.slice a l c)).heap.size = w4.heap.size := by simp [World.setCell]
          generalize (w4.setCell ⟨w.heap.size + 4, 0, none⟩ (.int .i64 v)).setCell ⟨w.heap.size + 4, 1, none⟩ (.slice a l c) = W5 at *
          have c0 := z.c0
          have cc1 := z.c1
          refine bodyPost_ret (v := .tuple #[worthsV v a l c, .bool ok]) (by simp [results, Try.f26, go_sem, c0, cc1]) rfl ?_
          exact ⟨a, l, c, rfl, zo.wide (by omega) (by omega) (Nat.le_refl _), zb⟩
      · rw [weighV_p s1 s2 hp]
        clear s1 s2
        go_enter Try.func26, Try.ntmps26
        go_wp2_with fail
        refine (implValidW_any _ a1 l1 c1 A _ HA.out).mono ?_
        rintro e w1 ⟨rfl, b1⟩
        rw [S1.out]
        have B1 := Lib.hid (below_after b0.out (Nat.le_refl _) b1)
        have HX1 := Lib.hid (HX.out.below b1)
        have HY1 := Lib.hid (HY.out.below b1)
        have HR1 := Lib.hid (HR.out.below b1)
        have HA1 := Lib.hid (HA.out.below b1)
        have HB1 := Lib.hid (HB.out.below b1)
        have HQX1 := Lib.hid (Boxed.below HQX.out b1)
        have HQY1 := Lib.hid (Boxed.below HQY.out b1)
        have hs1 := b1.size
        obtain ⟨⟨r0, r1⟩, g0, g1⟩ := HR1.out.all
        obtain ⟨⟨y0, y1⟩, _⟩ := HY1.out.all
        clear b1
        go_wp2_with fail
        refine (implValidW_any _ a2 l2 c2 B w1 HB1.out).mono ?_
        rintro e w2 ⟨rfl, b2⟩
        rw [S2.out]
        have B2 := Lib.hid (below_after B1.out (Nat.le_refl _) b2)
        have HX2 := Lib.hid (HX1.out.below b2)
        have HY2 := Lib.hid (HY1.out.below b2)
        have HR2 := Lib.hid (HR1.out.below b2)
        have HA2 := Lib.hid (HA1.out.below b2)
        have HB2 := Lib.hid (HB1.out.below b2)
        have HQX2 := Lib.hid (Boxed.below HQX1.out b2)
        have HQY2 := Lib.hid (Boxed.below HQY1.out b2)
        have hs2 := b2.size
        clear b2 r0 r1 g0 g1 y0 y1
        obtain ⟨⟨r0, r1⟩, g0, g1⟩ := HR2.out.all
        obtain ⟨⟨y0, y1⟩, _⟩ := HY2.out.all
        obtain ⟨⟨x0, x1⟩, _⟩ := HX2.out.all
        go_wp2_with fail
        have z := (HR2.out.set0 (u := .int .i64 0)).set1 (u := .slice none 0 0)
        have zb := (B2.out.setCell (p := ⟨w.heap.size + 4, 0, none⟩) (by show w.heap.size ≤ _ + 4; omega) (.int .i64 0)).setCell (p := ⟨w.heap.size + 4, 1, none⟩) (by show w.heap.size ≤ _ + 4; omega) (.slice none 0 0)
        generalize (w2.setCell ⟨w.heap.size + 4, 0, none⟩ (.int .i64 0)).setCell ⟨w.heap.size + 4, 1, none⟩ (.slice none 0 0) = W5 at *
        have c0 := z.c0
        have cc1 := z.c1
        refine bodyPost_ret (v := .tuple #[worthsV 0 none 0 0, .bool false]) (by simp [results, Try.f26, go_sem, c0, cc1]) rfl ?_
        exact ⟨none, 0, 0, rfl, own_nil _ (Nat.le_refl _), zb⟩
end Go.Proofs.Ytljlijmdjbodcaa
