/-
  WithoutPlayer: the worths of all others. The program's answer.
-/
import Derived.Test.YtljlijmdjbodcaaWOther
namespace Go.Proofs.Ytljlijmdjbodcaa
open Go.RowKit Go.Shelf
set_option linter.unusedVariables false

theorem isIdx_any (i n : Int) (hn : -100 ≤ n ∧ n ≤ 100) (w : World) :
    Calls Try.prog 80 #[.int .i64 i, .int .i64 n] w fun e w' => e = .returned (.bool (inB 0 (n - 1) i)) ∧ w = w' := by
  by_cases h : 0 ≤ i
  · have e : inB 0 (n - 1) i = decide (i < n) := by
      unfold inB
      rw [decide_eq_true h, Bool.true_and]
      exact decide_eq_decide.2 (by omega)
    rw [e]
    clear e
    go_enter Try.func80, Try.ntmps80
    go_wp2
    go_ret
    exact ⟨rfl, rfl⟩
  · have e : inB 0 (n - 1) i = false := by unfold inB; rw [decide_eq_false h]; rfl
    rw [e]
    clear e
    go_enter Try.func80, Try.ntmps80
    go_wp2
    go_ret
    exact ⟨rfl, rfl⟩

/-- the set of all others that is numbered s: player q is left out -/
def insP (q s : Nat) : Nat := s % 2 ^ q + 2 * (s - s % 2 ^ q)
theorem ins_tab : ((List.range 6).all fun q => (List.range 32).all fun s =>
    bits .and .i64 ((s : Nat) : Int) ((wholeN q : Nat) : Int) == ((s % 2 ^ q : Nat) : Int) && bits .andNot .i64 ((s : Nat) : Int) ((s % 2 ^ q : Nat) : Int) == ((s - s % 2 ^ q : Nat) : Int) &&
    bits .or .i64 ((s % 2 ^ q : Nat) : Int) (((s - s % 2 ^ q : Nat) : Int) * 2) == ((insP q s : Nat) : Int)) = true := by decide +kernel
theorem ins_at {q s : Nat} (hq : q < 6) (hs : s < 32) : bits .and .i64 (s : Int) (wholeN q : Nat) = ((s % 2 ^ q : Nat) : Int) ∧ bits .andNot .i64 (s : Int) ((s % 2 ^ q : Nat) : Int) = ((s - s % 2 ^ q : Nat) : Int) ∧
    bits .or .i64 ((s % 2 ^ q : Nat) : Int) (((s - s % 2 ^ q : Nat) : Int) * 2) = ((insP q s : Nat) : Int) := by
  have := List.all_eq_true.1 (List.all_eq_true.1 ins_tab q (by simpa using hq)) s (by simpa using hs)
  simp only [Bool.and_eq_true, beq_iff_eq] at this
  exact ⟨this.1.1, this.1.2, this.2⟩
theorem ins_lt_tab : ((List.range 7).all fun P => (List.range P).all fun q => (List.range (2 ^ (P - 1))).all fun s => decide (insP q s < 2 ^ P)) = true := by decide +kernel
theorem ins_lt {P q s : Nat} (hP : P ≤ 6) (hq : q < P) (hs : s < 2 ^ (P - 1)) : insP q s < 2 ^ P := by
  have := List.all_eq_true.1 (List.all_eq_true.1 (List.all_eq_true.1 ins_lt_tab P (by simp; omega)) q (by simpa using hq)) s (by simpa using hs)
  simpa using this
theorem ins_all_tab : ((List.range 7).all fun P => (List.range P).all fun q => (List.range (2 ^ P)).filter (fun s => !s.testBit q) == (List.range (2 ^ (P - 1))).map (insP q)) = true := by decide +kernel
theorem ins_all {P q : Nat} (hP : P ≤ 6) (hq : q < P) : (List.range (2 ^ P)).filter (fun s => !s.testBit q) = (List.range (2 ^ (P - 1))).map (insP q) := by
  have := List.all_eq_true.1 (List.all_eq_true.1 ins_all_tab P (by simp; omega)) q (by simpa using hq)
  exact eq_of_beq this

/-- the worth of all others that are numbered s -/
def lessF (A : List Int) (q s : Nat) : Int := A.getD (insP q s) 0
def withoutV (p : Int) (A : List Int) (q : Int) : Int × List Int × Bool :=
  if okW p A then (if inB 0 (p - 1) q then (if inB 1 6 (p - 1) then byV (p - 1).toNat (lessF A q.toNat) else (0, [], false)) else (0, [], false)) else (0, [], false)
theorem withoutV_no {p q : Int} {A : List Int} (h : okW p A = false) : withoutV p A q = (0, [], false) := by unfold withoutV; rw [h]; rfl
theorem withoutV_out {p q : Int} {A : List Int} (h : okW p A = true) (h2 : inB 0 (p - 1) q = false) : withoutV p A q = (0, [], false) := by unfold withoutV; rw [h, h2]; rfl
theorem withoutV_yes {p q : Int} {A : List Int} (h : okW p A = true) (h2 : inB 0 (p - 1) q = true) : withoutV p A q = if inB 1 6 (p - 1) then byV (p - 1).toNat (lessF A q.toNat) else (0, [], false) := by unfold withoutV; rw [h, h2]; rfl
theorem withoutV_len (p : Int) (A : List Int) (q : Int) : (withoutV p A q).2.1.length ≤ 4096 := by
  unfold withoutV
  split
  · split
    · split
      · rename_i h
        refine byV_len ?_ _
        have := inB_true.1 h
        omega
      · simp
    · simp
  · simp
/-- worthsBy, whatever the number of players -/
theorem by_any (p : Int) (g : Nat) (caps : Array Value) (f : Nat → Int) (w : World) (eg : ∀ args w, (callFunc g args).run Try.prog w = .ok (.enter g args) w) (hf : inB 1 6 p = true → RuleOne w g caps (wholeN p.toNat) f) (hbig : ∀ s, Big (f s)) :
    Calls Try.prog 66 #[.int .i64 p, .func (.func g) #[] caps] w (OutWorths w (if inB 1 6 p then byV p.toNat f else (0, [], false))) := by
  cases h : inB 1 6 p with
  | false => exact by_no p g caps w h
  | true =>
    obtain ⟨h1, h2⟩ := inB_true.1 h
    obtain ⟨P, rfl⟩ : ∃ P : Nat, p = P := ⟨p.toNat, by omega⟩
    exact by_yes P g caps f w (by omega) (by omega) eg (hf h) hbig

set_option maxRecDepth 20000 in
theorem withoutRule_any (P q m m1 : Nat) (a1 : Option Addr) (l1 c1 : Nat) (A : List Int) (w : World) (hx : Box2 w m 27 (.int .i64 (P : Nat)) (.slice a1 l1 c1)) (hq : w.cell? ⟨m1, 0, none⟩ = some (.int .i64 (q : Nat))) (hA : IAt w a1 l1 A) (hok : okW (P : Nat) A = true) (hqP : q < P) (s : Part (wholeN (P - 1))) :
    Calls Try.prog 90 #[.int .i64 (s.1 : Nat), .pointer (some ⟨m1, 0, none⟩), .pointer (some ⟨m, 0, none⟩)] w fun e w' => e = .returned (.int .i64 (lessF A q s.1)) ∧ Below w.heap.size w w' := by
  obtain ⟨P', e1, h1, h6, hl, h0, hall⟩ := okW_true hok
  obtain rfl : P = P' := by omega
  have hlen := hA.1
  obtain ⟨b, off, rfl, hb, hc⟩ := w_at hA (by have := pow_ge2 h1; omega)
  have hs := part_lt s
  have hs32 : s.1 < 32 := by
    have : 2 ^ (P - 1) ≤ 2 ^ 5 := Nat.pow_le_pow_right (n := 2) (by decide) (by omega)
    exact Nat.lt_of_lt_of_le hs this
  obtain ⟨n1, n2, n3⟩ := ins_at (q := q) (by omega) hs32
  have hin := ins_lt h6 hqP hs
  have hc1 := hc (insP q s.1) (by omega)
  have hmax := hA.2.1
  have hlow : s.1 % 2 ^ q ≤ s.1 := Nat.mod_le _ _
  have HE : Hid (lessF A q s.1 = A.getD (insP q s.1) 0) := Lib.hid rfl
  generalize s.1 = k at *
  have hil : insP q k < l1 := by omega
  have hi64 : insP q k < 64 := by have := pow_le64 h6; omega
  have hq6 : q ≤ 6 := by omega
  generalize A.getD (insP q k) 0 = u at *
  generalize insP q k = d at *
  generalize k % 2 ^ q = r at *
  obtain ⟨⟨p0, p1⟩, _⟩ := hx.all
  unfold maxLen at hmax
  clear hc hx hA hok h0 hall hl hlen e1 hin hs
  go_enter Try.func90, Try.ntmps90
  go_wp2_with (go_at_call 91; refine (wholeOf_any q hq6 _).mono ?_; rintro e w2 ⟨rfl, rfl⟩)
  go_ret
  exact ⟨by rw [HE.out]; rfl, Below.refl _ _⟩

set_option maxRecDepth 20000 in
theorem implWithout_any (p : Int) (a1 : Option Addr) (l1 c1 : Nat) (A : List Int) (q : Int) (w : World) (hA : IAt w a1 l1 A) (hqb : Big q) :
    Calls Try.prog 56 #[worthsV p a1 l1 c1, .int .i64 q] w (OutWorths w (withoutV p A q)) := by
  have b0 := Lib.hid (below3 (w := w) (o := .cells #[.int .i64 p, .slice a1 l1 c1] 27) (p := .cells #[.int .i64 q] 2) (q := .cells #[.int .i64 0, .slice none 0 0] 27))
  have HA := Lib.hid (hA.below b0.out)
  have HX : Hid (Box2 _ w.heap.size 27 (.int .i64 p) (.slice a1 l1 c1)) := Lib.hid (heap3a (w := w) (p := .cells #[.int .i64 q] 2) (q := .cells #[.int .i64 0, .slice none 0 0] 27))
  have HQ : Hid (Boxed _ (w.heap.size + 1) 2 (.int .i64 q)) := Lib.hid (heap3b (w := w) (o := .cells #[.int .i64 p, .slice a1 l1 c1] 27) (q := .cells #[.int .i64 0, .slice none 0 0] 27))
  have HR : Hid (Box2 _ (w.heap.size + 2) 27 (.int .i64 0) (.slice none 0 0)) := Lib.hid (heap3c (w := w) (o := .cells #[.int .i64 p, .slice a1 l1 c1] 27) (p := .cells #[.int .i64 q] 2))
  clear hA
  cases s1 : okW p A with
  | false =>
    have S1 := Lib.hid s1
    rw [withoutV_no s1]
    clear s1
    go_enter Try.func56, Try.ntmps56
    go_wp2_with fail
    refine (implValidW_any p a1 l1 c1 A _ HA.out).mono ?_
    rintro e w1 ⟨rfl, b1⟩
    rw [S1.out]
    have B1 := Lib.hid (below_after b0.out (Nat.le_refl _) b1)
    have hr := HR.out.below b1
    have HR1 := Lib.hid hr
    obtain ⟨⟨r0, r1⟩, g0, g1⟩ := hr.all
    clear b1 hr
    go_wp2_with fail
    have z := (HR1.out.set0 (u := .int .i64 0)).set1 (u := .slice none 0 0)
    have zb := (B1.out.setCell (p := ⟨w.heap.size + 2, 0, none⟩) (by show w.heap.size ≤ _ + 2; omega) (.int .i64 0)).setCell (p := ⟨w.heap.size + 2, 1, none⟩) (by show w.heap.size ≤ _ + 2; omega) (.slice none 0 0)
    generalize (w1.setCell ⟨w.heap.size + 2, 0, none⟩ (.int .i64 0)).setCell ⟨w.heap.size + 2, 1, none⟩ (.slice none 0 0) = W5 at *
    have c0 := z.c0
    have c1 := z.c1
    refine bodyPost_ret (v := .tuple #[worthsV 0 none 0 0, .bool false]) (by simp [results, Try.f56, go_sem, c0, c1]) rfl ?_
    exact ⟨none, 0, 0, rfl, own_nil _ (Nat.le_refl _), zb⟩
  | true =>
    obtain ⟨P, rfl, h1, h6, hl, h0, hall⟩ := okW_true s1
    have S1 := Lib.hid s1
    cases s2 : inB 0 ((P : Int) - 1) q with
    | false =>
      have S2 := Lib.hid s2
      rw [withoutV_out s1 s2]
      clear s1 s2 hl h0 hall
      go_enter Try.func56, Try.ntmps56
      go_wp2_with fail
      refine (implValidW_any P a1 l1 c1 A _ HA.out).mono ?_
      rintro e w1 ⟨rfl, b1⟩
      rw [S1.out]
      have B1 := Lib.hid (below_after b0.out (Nat.le_refl _) b1)
      have hr := HR.out.below b1
      have HR1 := Lib.hid hr
      have q0 := (Boxed.below HQ.out b1).cell
      obtain ⟨⟨x0, x1⟩, _⟩ := (HX.out.below b1).all
      obtain ⟨⟨r0, r1⟩, g0, g1⟩ := hr.all
      clear b1 hr
      go_wp2_with (go_at_call 80; refine (isIdx_any _ _ (by omega) _).mono ?_; rintro e w2 ⟨rfl, rfl⟩; rw [S2.out])
      have z := (HR1.out.set0 (u := .int .i64 0)).set1 (u := .slice none 0 0)
      have zb := (B1.out.setCell (p := ⟨w.heap.size + 2, 0, none⟩) (by show w.heap.size ≤ _ + 2; omega) (.int .i64 0)).setCell (p := ⟨w.heap.size + 2, 1, none⟩) (by show w.heap.size ≤ _ + 2; omega) (.slice none 0 0)
      generalize (w1.setCell ⟨w.heap.size + 2, 0, none⟩ (.int .i64 0)).setCell ⟨w.heap.size + 2, 1, none⟩ (.slice none 0 0) = W5 at *
      have c0 := z.c0
      have c1 := z.c1
      refine bodyPost_ret (v := .tuple #[worthsV 0 none 0 0, .bool false]) (by simp [results, Try.f56, go_sem, c0, c1]) rfl ?_
      exact ⟨none, 0, 0, rfl, own_nil _ (Nat.le_refl _), zb⟩
    | true =>
      have S2 := Lib.hid s2
      rw [withoutV_yes s1 s2]
      obtain ⟨q1, q2⟩ := inB_true.1 s2
      obtain ⟨Q, rfl⟩ : ∃ Q : Nat, q = Q := ⟨q.toNat, by omega⟩
      rw [show (Q : Int).toNat = Q from rfl]
      have hQ : Q < P := by omega
      obtain ⟨v, L, ok, hxv⟩ : ∃ v L ok, (if inB 1 6 ((P : Int) - 1) then byV ((P : Int) - 1).toNat (lessF A Q) else (0, [], false)) = (v, L, ok) := ⟨_, _, _, rfl⟩
      rw [hxv]
      have HXV := Lib.hid hxv
      have HBIG : Hid (∀ s, Big (lessF A Q s)) := Lib.hid fun s => by
        unfold lessF
        by_cases h : insP Q s < A.length
        · have := okAll_at hall h
          exact ⟨by omega, by omega⟩
        · rw [List.getD_eq_getElem?_getD, List.getElem?_eq_none (by omega)]
          show Big 0
          exact ⟨by omega, by omega⟩
      clear hl h0 hall s1 s2 hxv
      go_enter Try.func56, Try.ntmps56
      go_wp2_with fail
      refine (implValidW_any P a1 l1 c1 A _ HA.out).mono ?_
      rintro e w1 ⟨rfl, b1⟩
      rw [S1.out]
      have B1 := Lib.hid (below_after b0.out (Nat.le_refl _) b1)
      have HX1 := Lib.hid (HX.out.below b1)
      have HR1 := Lib.hid (HR.out.below b1)
      have HA1 := Lib.hid (HA.out.below b1)
      have HQ1 := Lib.hid (Boxed.below HQ.out b1)
      have q0 := HQ1.out.cell
      obtain ⟨⟨x0, x1⟩, _⟩ := HX1.out.all
      have hs1 := b1.size
      have HRule : Hid (inB 1 6 ((P : Int) - 1) = true → RuleOne w1 90 #[.pointer (some ⟨w.heap.size + 1, 0, none⟩), .pointer (some ⟨w.heap.size, 0, none⟩)] (wholeN ((P : Int) - 1).toNat) (lessF A Q)) := Lib.hid fun _ => by
        rw [show ((P : Int) - 1).toNat = P - 1 by omega]
        exact fun W hW s => withoutRule_any P Q w.heap.size (w.heap.size + 1) a1 l1 c1 A W (HX1.out.below hW) (Boxed.below HQ1.out hW).cell (HA1.out.below hW) S1.out hQ s
      clear b1
      go_wp2_with (go_at_call 80; refine (isIdx_any _ _ (by omega) _).mono ?_; rintro e w2 ⟨rfl, rfl⟩; rw [S2.out])
      refine (by_any ((P : Int) - 1) 90 _ (lessF A Q) w1 (enters_of Try.func90 (by kernel_rfl) rfl) HRule.out HBIG.out).mono ?_
      rw [HXV.out]
      rintro e w2 ⟨a, l, c, rfl, o2, b2⟩
      have B2 := Lib.hid (below_after B1.out (Nat.le_refl _) b2)
      have hr := HR1.out.below b2
      have HR2 := Lib.hid hr
      have HO2 := Lib.hid o2
      have hs2 := b2.size
      obtain ⟨⟨r0, r1⟩, g0, g1⟩ := hr.all
      clear b2 hr x0 x1 o2
      go_wp2_with fail
      have z := (HR2.out.set0 (u := .int .i64 v)).set1 (u := .slice a l c)
      have zb := (B2.out.setCell (p := ⟨w.heap.size + 2, 0, none⟩) (by show w.heap.size ≤ _ + 2; omega) (.int .i64 v)).setCell (p := ⟨w.heap.size + 2, 1, none⟩) (by show w.heap.size ≤ _ + 2; omega) (.slice a l c)
      have hw1 : w.heap.size + 3 ≤ w1.heap.size := by have := hs1; simp at this; omega
      have zo := (HO2.out.far (n := w.heap.size + 2) (i := 0) (u := .int .i64 v) (by omega)).far (n := w.heap.size + 2) (i := 1) (u := .slice a l c) (by omega)
      have zs : ((w2.setCell ⟨w.heap.size + 2, 0, none⟩ (.int .i64 v)).setCell ⟨w.heap.size + 2, 1, none⟩ (.slice a l c)).heap.size = w2.heap.size := by simp [World.setCell]
      generalize (w2.setCell ⟨w.heap.size + 2, 0, none⟩ (.int .i64 v)).setCell ⟨w.heap.size + 2, 1, none⟩ (.slice a l c) = W5 at *
      have c0 := z.c0
      have c1 := z.c1
      refine bodyPost_ret (v := .tuple #[worthsV v a l c, .bool ok]) (by simp [results, Try.f56, go_sem, c0, c1]) rfl ?_
      exact ⟨a, l, c, rfl, zo.wide (by omega) (by omega) (Nat.le_refl _), zb⟩
end Go.Proofs.Ytljlijmdjbodcaa
