/-
  OtherOf: what is left by all others. The program's answer.
-/
import Derived.Test.YtljlijmdjbodcaaWBy
namespace Go.Proofs.Ytljlijmdjbodcaa
open Go.RowKit Go.Shelf
set_option linter.unusedVariables false

theorem partsTo_all {P q : Nat} (h : q ≤ 2 ^ P) : (partsTo (wholeN P) q).map (fun x => x.1) = List.range q := by
  induction q with
  | zero => rfl
  | succ q ih =>
    have e := partsTo_succ (wholeN P) ⟨q, part_of (by omega)⟩
    rw [e, List.map_append, ih (by omega), List.range_succ]
    rfl
theorem byL_eq (P : Nat) (f : Nat → Int) : byL P f = (List.range (2 ^ P)).map f := by
  have hw : wholeN P + 1 = 2 ^ P := by
    unfold wholeN
    have : 0 < (2 : Nat) ^ P := Nat.pow_pos (by decide)
    omega
  have h := partsTo_all (P := P) (q := wholeN P + 1) (by omega)
  unfold byL partsAll
  rw [← hw, ← h, List.map_map]
  rfl
theorem byL_len (P : Nat) (f : Nat → Int) : (byL P f).length = 2 ^ P := by rw [byL_eq]; simp
theorem byV_len {P : Nat} (h : P ≤ 6) (f : Nat → Int) : (byV P f).2.1.length ≤ 4096 := by
  unfold byV
  split
  · rw [byL_len]
    have := pow_le64 h
    omega
  · simp

theorem andnot_tab : ((List.range 64).all fun S => (List.range 64).all fun p => !(decide (p &&& S = p)) || (bits .andNot .i64 ((S : Nat) : Int) ((p : Nat) : Int) == (((S - p : Nat) : Nat) : Int) && decide (p ≤ S))) = true := by decide +kernel
theorem andnot_at {S p : Nat} (hS : S < 64) (hp : p < 64) (h : p &&& S = p) : bits .andNot .i64 (S : Int) (p : Int) = ((S - p : Nat) : Int) := by
  have := List.all_eq_true.1 (List.all_eq_true.1 andnot_tab S (by simpa using hS)) p (by simpa using hp)
  simp only [h, decide_true, Bool.not_true, Bool.false_or, Bool.and_eq_true, beq_iff_eq] at this
  exact this.1

/-- what is left by all others than s -/
def otherF (A : List Int) (P s : Nat) : Int := A.getD (wholeN P) 0 - A.getD (wholeN P - s) 0
theorem wholeN_in {P : Nat} {A : List Int} (h : A.length = 2 ^ P) : wholeN P < A.length ∧ ∀ s, wholeN P - s < A.length := by
  have : 0 < (2 : Nat) ^ P := Nat.pow_pos (by decide)
  unfold wholeN
  exact ⟨by omega, fun s => by omega⟩
theorem otherF_in {P : Nat} {A : List Int} (h : okAll (-10000) 10000 A = true) (hl : A.length = 2 ^ P) (s : Nat) : -20000 ≤ otherF A P s ∧ otherF A P s ≤ 20000 := by
  obtain ⟨h1, h2⟩ := wholeN_in hl
  have a := okAll_at h h1
  have b := okAll_at h (h2 s)
  unfold otherF
  omega

theorem otherRule_any (P m : Nat) (a1 : Option Addr) (l1 c1 : Nat) (A : List Int) (w : World) (hx : Box2 w m 27 (.int .i64 (P : Nat)) (.slice a1 l1 c1)) (hA : IAt w a1 l1 A) (hok : okW (P : Nat) A = true) (s : Part (wholeN P)) :
    Calls Try.prog 89 #[.int .i64 (s.1 : Nat), .pointer (some ⟨m, 0, none⟩)] w fun e w' => e = .returned (.int .i64 (otherF A P s.1)) ∧ Below w.heap.size w w' := by
  obtain ⟨P', e1, h1, h6, hl, h0, hall⟩ := okW_true hok
  obtain rfl : P = P' := by omega
  have hlen := hA.1
  have hS := wholeN_lt h6
  obtain ⟨hw1, hw2⟩ := wholeN_in hl
  obtain ⟨b, off, rfl, hb, hc⟩ := w_at hA (by omega)
  have va := okAll_at hall hw1
  have vb := okAll_at hall (hw2 s.1)
  have hsle := s.le
  have han := andnot_at hS (show s.1 < 64 by omega) s.2
  obtain ⟨k, hk⟩ : ∃ k, s.1 = k := ⟨_, rfl⟩
  have HE : Hid (otherF A P s.1 = A.getD (wholeN P) 0 - A.getD (wholeN P - s.1) 0) := Lib.hid rfl
  have hc1 := hc (wholeN P) (by omega)
  have hc2 := hc (wholeN P - s.1) (by have := hw2 s.1; omega)
  have hmax := hA.2.1
  rw [hk] at HE vb hsle han hc2 ⊢
  have hd1 : wholeN P < l1 := by omega
  have hd2 : wholeN P - k < l1 := by omega
  have HW := fun W => whole_any P h6 (some ⟨b, off, none⟩) l1 c1 W
  have HWW := Lib.hid HW
  generalize otherF A P k = o at *
  generalize A.getD (wholeN P) 0 = u at *
  generalize A.getD (wholeN P - k) 0 = v at *
  generalize wholeN P - k = d at *
  generalize wholeN P = S at *
  have p0 := fun y : ExtW w => (hx.below y.ext).c0
  have p1 := fun y : ExtW w => (hx.below y.ext).c1
  have r1 := fun y : ExtW w => (y.ext.cell (p := ⟨b, off + S, none⟩) hb).trans hc1
  have r2 := fun y : ExtW w => (y.ext.cell (p := ⟨b, off + d, none⟩) hb).trans hc2
  have hsub : wrap64 (u - v) = u - v := by unfold wrap64; omega
  have HSUB := Lib.hid hsub
  unfold maxLen at hmax
  clear hc hc1 hc2 hx hA hok h0 hall hw1 hw2 hl hlen hsub HW s hk e1
  go_enter Try.func89, Try.ntmps89
  go_wp2_with fail
  refine region_ext (by kernel_rfl) (by kernel_rfl) ?_
  repeat (go_big_quiet_step ((go_at_call 70; refine (HWW.out _).mono ?_; rintro e w2 ⟨rfl, hb⟩; exact ⟨rfl, ExtW.on _ hb⟩)))
  refine wpQuiet_nil ?_
  intro _ hw'
  obtain ⟨y, hy⟩ := hw'
  subst hy
  go_wp2_with fail
  go_ret
  exact ⟨by rw [HE.out]; rfl, y.ext⟩

def otherV (p : Int) (A : List Int) : Int × List Int × Bool := if okW p A then byV p.toNat (otherF A p.toNat) else (0, [], false)
theorem otherV_no {p : Int} {A : List Int} (h : okW p A = false) : otherV p A = (0, [], false) := by unfold otherV; rw [h]; rfl
theorem otherV_yes {P : Nat} {A : List Int} (h : okW (P : Nat) A = true) : otherV (P : Nat) A = byV P (otherF A P) := by unfold otherV; rw [h]; rfl
theorem otherV_len (p : Int) (A : List Int) : (otherV p A).2.1.length ≤ 4096 := by
  cases h : okW p A with
  | false => rw [otherV_no h]; simp
  | true =>
    obtain ⟨P, rfl, _, h6, _⟩ := okW_true h
    rw [otherV_yes h]
    exact byV_len h6 _

/-- a struct in a cell of the call's own, and whether it is told, handed back -/
theorem outWorths_of {w W : World} {n p : Nat} {q : Int} {a : Option Addr} {l c : Nat} {L : List Int} {ok : Bool} (ho : Own W w.heap.size W.heap.size a l c L) (hb : Below w.heap.size w W) : OutWorths w (q, L, ok) (.returned (.tuple #[worthsV q a l c, .bool ok])) W := ⟨a, l, c, rfl, ho, hb⟩

set_option maxRecDepth 20000 in
theorem implOther_any (p : Int) (a1 : Option Addr) (l1 c1 : Nat) (A : List Int) (w : World) (hA : IAt w a1 l1 A) :
    Calls Try.prog 54 #[worthsV p a1 l1 c1] w (OutWorths w (otherV p A)) := by
  have b0 := Lib.hid (below2 (w := w) (o := .cells #[.int .i64 p, .slice a1 l1 c1] 27) (p := .cells #[.int .i64 0, .slice none 0 0] 27))
  have HA := Lib.hid (hA.below b0.out)
  have HX : Hid (Box2 _ w.heap.size 27 (.int .i64 p) (.slice a1 l1 c1)) := Lib.hid (heap2a (w := w) (p := .cells #[.int .i64 0, .slice none 0 0] 27))
  have HR : Hid (Box2 _ (w.heap.size + 1) 27 (.int .i64 0) (.slice none 0 0)) := Lib.hid (heap2b (w := w) (o := .cells #[.int .i64 p, .slice a1 l1 c1] 27))
  clear hA
  cases s1 : okW p A with
  | false =>
    have S1 := Lib.hid s1
    rw [otherV_no s1]
    clear s1
    go_enter Try.func54, Try.ntmps54
    go_wp2_with fail
    refine (implValidW_any p a1 l1 c1 A _ HA.out).mono ?_
    rintro e w1 ⟨rfl, b1⟩
    rw [S1.out]
    have B1 := Lib.hid (below_after b0.out (Nat.le_refl _) b1)
    have hr := HR.out.below b1
    have HR1 := Lib.hid hr
    obtain ⟨⟨r0, r1⟩, g0, g1⟩ := hr.all
    clear b1 hr
    go_wp2_with fail
    have z := (HR1.out.set0 (u := .int .i64 0)).set1 (u := .slice none 0 0)
    have zb := (B1.out.setCell (p := ⟨w.heap.size + 1, 0, none⟩) (by show w.heap.size ≤ _ + 1; omega) (.int .i64 0)).setCell (p := ⟨w.heap.size + 1, 1, none⟩) (by show w.heap.size ≤ _ + 1; omega) (.slice none 0 0)
    generalize (w1.setCell ⟨w.heap.size + 1, 0, none⟩ (.int .i64 0)).setCell ⟨w.heap.size + 1, 1, none⟩ (.slice none 0 0) = W5 at *
    have c0 := z.c0
    have c1 := z.c1
    refine bodyPost_ret (v := .tuple #[worthsV 0 none 0 0, .bool false]) (by simp [results, Try.f54, go_sem, c0, c1]) rfl ?_
    exact ⟨none, 0, 0, rfl, own_nil _ (Nat.le_refl _), zb⟩
  | true =>
    obtain ⟨P, rfl, h1, h6, hl, h0, hall⟩ := okW_true s1
    have S1 := Lib.hid s1
    rw [otherV_yes s1]
    obtain ⟨q, L, ok, hxv⟩ : ∃ q L ok, byV P (otherF A P) = (q, L, ok) := ⟨_, _, _, rfl⟩
    rw [hxv]
    have HXV := Lib.hid hxv
    clear hxv
    have HBIG : Hid (∀ s, Big (otherF A P s)) := Lib.hid fun s => by have := otherF_in hall hl s; exact ⟨by omega, by omega⟩
    clear hl h0 hall s1
    go_enter Try.func54, Try.ntmps54
    go_wp2_with fail
    refine (implValidW_any P a1 l1 c1 A _ HA.out).mono ?_
    rintro e w1 ⟨rfl, b1⟩
    rw [S1.out]
    have B1 := Lib.hid (below_after b0.out (Nat.le_refl _) b1)
    have hx := HX.out.below b1
    have HX1 := Lib.hid hx
    have HR1 := Lib.hid (HR.out.below b1)
    have HA1 := Lib.hid (HA.out.below b1)
    obtain ⟨⟨x0, x1⟩, _⟩ := hx.all
    have hs1 := b1.size
    clear b1 hx
    have HRule : Hid (RuleOne w1 89 #[.pointer (some ⟨w.heap.size, 0, none⟩)] (wholeN P) (otherF A P)) := Lib.hid fun W hW s =>
      otherRule_any P w.heap.size a1 l1 c1 A W (HX1.out.below hW) (HA1.out.below hW) S1.out s
    go_wp2_with fail
    refine (by_yes P 89 _ (otherF A P) w1 h1 h6 (enters_of Try.func89 (by kernel_rfl) rfl) HRule.out HBIG.out).mono ?_
    rw [HXV.out]
    rintro e w2 ⟨a, l, c, rfl, o2, b2⟩
    have B2 := Lib.hid (below_after B1.out (Nat.le_refl _) b2)
    have hr := HR1.out.below b2
    have HR2 := Lib.hid hr
    have HO2 := Lib.hid o2
    have hs2 := b2.size
    obtain ⟨⟨r0, r1⟩, g0, g1⟩ := hr.all
    clear b2 hr x0 x1 o2
    go_wp2_with fail
    have z := (HR2.out.set0 (u := .int .i64 q)).set1 (u := .slice a l c)
    have zb := (B2.out.setCell (p := ⟨w.heap.size + 1, 0, none⟩) (by show w.heap.size ≤ _ + 1; omega) (.int .i64 q)).setCell (p := ⟨w.heap.size + 1, 1, none⟩) (by show w.heap.size ≤ _ + 1; omega) (.slice a l c)
    have hw1 : w.heap.size + 2 ≤ w1.heap.size := by have := hs1; simp at this; omega
    have zo := (HO2.out.far (n := w.heap.size + 1) (i := 0) (u := .int .i64 q) (by omega)).far (n := w.heap.size + 1) (i := 1) (u := .slice a l c) (by omega)
    have zs : ((w2.setCell ⟨w.heap.size + 1, 0, none⟩ (.int .i64 q)).setCell ⟨w.heap.size + 1, 1, none⟩ (.slice a l c)).heap.size = w2.heap.size := by simp [World.setCell]
    generalize (w2.setCell ⟨w.heap.size + 1, 0, none⟩ (.int .i64 q)).setCell ⟨w.heap.size + 1, 1, none⟩ (.slice a l c) = W5 at *
    have c0 := z.c0
    have c1 := z.c1
    refine bodyPost_ret (v := .tuple #[worthsV q a l c, .bool ok]) (by simp [results, Try.f54, go_sem, c0, c1]) rfl ?_
    exact ⟨a, l, c, rfl, zo.wide (by omega) (by omega) (Nat.le_refl _), zb⟩
end Go.Proofs.Ytljlijmdjbodcaa
