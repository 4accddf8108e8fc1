/-
  The law on DotNumbers: every two slices of float32.
-/
import Derived.Test.YtajjepcegpimjaaFDot
namespace Go.Proofs.Ytajjepcegpimjaa
open Go.RowKit Go.ChangeShapes Go.WideShapes Fl

/-- both slices as they came in, and nothing of what was there turned -/
def Two (w0 : World) (a0 : Option Addr) (l0 : Nat) (z0 : List Nat) (a1 : Option Addr) (l1 : Nat) (z1 : List Nat) (w : World) : Prop :=
  FAt w a0 l0 z0 ∧ FAt w a1 l1 z1 ∧ Below w0.heap.size w0 w
section
variable {w0 w w' : World} {a0 a1 : Option Addr} {l0 l1 : Nat} {z0 z1 : List Nat}
theorem Two.below (h : Two w0 a0 l0 z0 a1 l1 z1 w) (hb : Below w.heap.size w w') : Two w0 a0 l0 z0 a1 l1 z1 w' :=
  ⟨h.1.below hb, h.2.1.below hb, h.2.2.trans (hb.mono h.2.2.size)⟩
theorem Two.drewN (h : Two w0 a0 l0 z0 a1 l1 z1 w) (n : Nat) : Two w0 a0 l0 z0 a1 l1 z1 (w.drewN n) := h.below (below_drewn w n)
end

abbrev dotFn (f : Nat) (l0 l1 : Nat) (z0 z1 : List Nat) (ok : Bool) (r : Nat) : Prop :=
  ∀ (a a' : Option Addr) (cap cap' : Nat) (w : World), FAt w a l0 z0 → FAt w a' l1 z1 → Calls Try.prog f #[.slice a l0 cap, .slice a' l1 cap'] w (Summed w (fun s => .tuple #[.float .f32 s, .bool ok]) r)

theorem dot_walk (a0 : Option Addr) (l0 c0 : Nat) (z0 : List Nat) (a1 : Option Addr) (l1 c1 : Nat) (z1 : List Nat) (ok : Bool) (r : Nat) (w : World) (hl0 : l0 ≤ 1048576) (hl1 : l1 ≤ 1048576) (h0 : FAt w a0 l0 z0) (h1 : FAt w a1 l1 z1)
    (hS : dotFn 25 l0 l1 z0 z1 ok r) (hI : dotFn 26 l0 l1 z0 z1 ok r) :
    Calls Try.prog 8 #[.slice a0 l0 c0, .slice a1 l1 c1] w fun e w' => e = .returned (.bool true) ∧ Below w.heap.size w w' := by
  have H0 : Hid (Two w a0 l0 z0 a1 l1 z1 w) := Lib.hid ⟨h0, h1, Below.refl _ _⟩
  have HS := Lib.hid hS
  have HI := Lib.hid hI
  clear h0 h1 hS hI
  by_cases hr : Num .f32 r
  · have c1 : ∀ w, (convert 28 22 (.float .f32 r)).run Try.prog w = .ok (.float .f64 (up r)) w := fun w => run_up w _ _ hr (by kernel_rfl) Try.underlying22
    have HR := Lib.hid hr
    clear hr
    go_enter Try.func8, Try.ntmps8
    go_wp2_with fail
    refine (copy_any _ _ _ z0 _ hl0 H0.out.1).mono ?_
    rintro e w1 ⟨g1, rfl, f, b⟩
    have H1 := Lib.hid (H0.out.below b)
    have F1 := Lib.hid f
    clear f b
    go_wp2_with fail
    refine (copy_any _ _ _ z1 _ hl1 H1.out.2.1).mono ?_
    rintro e w2 ⟨h1, rfl, f, b⟩
    have H2 := Lib.hid (H1.out.below b)
    have F1' := Lib.hid (F1.out.below b)
    have G1 := Lib.hid f
    clear f b
    go_wp2_with fail
    refine (HS.out _ _ _ _ _ F1'.out G1.out).mono ?_
    rintro e w' ⟨s1, n1, rfl, hs, rfl⟩
    obtain rfl := hs.num HR.out
    clear hs
    have H3 := Lib.hid (H2.out.drewN n1)
    go_wp2_with fail
    refine (copy_any _ _ _ z0 _ hl0 H3.out.1).mono ?_
    rintro e w3 ⟨g2, rfl, f, b⟩
    have H4 := Lib.hid (H3.out.below b)
    have F2 := Lib.hid f
    clear f b
    go_wp2_with fail
    refine (copy_any _ _ _ z1 _ hl1 H4.out.2.1).mono ?_
    rintro e w4 ⟨h2, rfl, f, b⟩
    have H5 := Lib.hid (H4.out.below b)
    have F3 := Lib.hid (F2.out.below b)
    have G3 := Lib.hid f
    clear f b
    go_wp2_with fail
    refine (HI.out _ _ _ _ _ F3.out G3.out).mono ?_
    rintro e w' ⟨s2, n2, rfl, hs, rfl⟩
    obtain rfl := hs.num HR.out
    clear hs
    go_wp2_with fail
    refine (sameFloat_num _ (up_lt _) (up_num HR.out) _).mono ?_
    rintro e w' ⟨rfl, rfl⟩
    have H6 := Lib.hid (H5.out.drewN n2)
    have F4 := Lib.hid (F3.out.drewN n2)
    have G4 := Lib.hid (G3.out.drewN n2)
    go_wp2_with fail
    refine (copy_any _ _ _ z0 _ hl0 H6.out.1).mono ?_
    rintro e w5 ⟨g3, rfl, f, b⟩
    have H7 := Lib.hid (H6.out.below b)
    have F5 := Lib.hid (F4.out.below b)
    have G5 := Lib.hid (G4.out.below b)
    have E5 := Lib.hid f
    clear f b
    go_wp2_with fail
    refine (eq_any _ _ _ _ _ z0 _ hl0 F5.out E5.out).mono ?_
    rintro e w' ⟨rfl, n3, rfl⟩
    have H8 := Lib.hid (H7.out.drewN n3)
    have G6 := Lib.hid (G5.out.drewN n3)
    go_wp2_with fail
    refine (copy_any _ _ _ z1 _ hl1 H8.out.2.1).mono ?_
    rintro e w6 ⟨h3, rfl, f, b⟩
    have H9 := Lib.hid (H8.out.below b)
    have G7 := Lib.hid (G6.out.below b)
    have E7 := Lib.hid f
    clear f b
    go_wp2_with fail
    refine (eq_any _ _ _ _ _ z1 _ hl1 G7.out E7.out).mono ?_
    rintro e w' ⟨rfl, n4, rfl⟩
    go_wp2_with fail
    go_ret
    exact ⟨rfl, (H9.out.drewN n4).2.2⟩
  · have HR := Lib.hid hr
    clear hr
    go_enter Try.func8, Try.ntmps8
    go_wp2_with fail
    refine (copy_any _ _ _ z0 _ hl0 H0.out.1).mono ?_
    rintro e w1 ⟨g1, rfl, f, b⟩
    have H1 := Lib.hid (H0.out.below b)
    have F1 := Lib.hid f
    clear f b
    go_wp2_with fail
    refine (copy_any _ _ _ z1 _ hl1 H1.out.2.1).mono ?_
    rintro e w2 ⟨h1, rfl, f, b⟩
    have H2 := Lib.hid (H1.out.below b)
    have F1' := Lib.hid (F1.out.below b)
    have G1 := Lib.hid f
    clear f b
    go_wp2_with fail
    refine (HS.out _ _ _ _ _ F1'.out G1.out).mono ?_
    rintro e w' ⟨s1, n1, rfl, hs, rfl⟩
    have c1 : ∀ w, (convert 28 22 (.float .f32 s1)).run Try.prog w = .ok (.float .f64 (nanAt (.nanConv .f64 s1) w)) w.drew := fun w => run_up_nan w _ _ (hs.nan HR.out) (by kernel_rfl) Try.underlying22
    clear hs
    have H3 := Lib.hid (H2.out.drewN n1)
    go_wp2_with fail
    refine (copy_any _ _ _ z0 _ hl0 H3.out.1).mono ?_
    rintro e w3 ⟨g2, rfl, f, b⟩
    have H4 := Lib.hid (H3.out.below b)
    have F2 := Lib.hid f
    clear f b
    go_wp2_with fail
    refine (copy_any _ _ _ z1 _ hl1 H4.out.2.1).mono ?_
    rintro e w4 ⟨h2, rfl, f, b⟩
    have H5 := Lib.hid (H4.out.below b)
    have F3 := Lib.hid (F2.out.below b)
    have G3 := Lib.hid f
    clear f b
    go_wp2_with fail
    refine (HI.out _ _ _ _ _ F3.out G3.out).mono ?_
    rintro e w' ⟨s2, n2, rfl, hs, rfl⟩
    have c2 : ∀ w, (convert 28 22 (.float .f32 s2)).run Try.prog w = .ok (.float .f64 (nanAt (.nanConv .f64 s2) w)) w.drew := fun w => run_up_nan w _ _ (hs.nan HR.out) (by kernel_rfl) Try.underlying22
    clear hs
    go_wp2_with fail
    refine (sameFloat_nan _ _ (nanAt_conv64 _ _) (nanAt_conv64 _ _) _).mono ?_
    rintro e w' ⟨rfl, rfl⟩
    have H6 := Lib.hid (H5.out.drewN (n2 + 2))
    have F4 := Lib.hid (F3.out.drewN (n2 + 2))
    have G4 := Lib.hid (G3.out.drewN (n2 + 2))
    go_wp2_with fail
    refine (copy_any _ _ _ z0 _ hl0 H6.out.1).mono ?_
    rintro e w5 ⟨g3, rfl, f, b⟩
    have H7 := Lib.hid (H6.out.below b)
    have F5 := Lib.hid (F4.out.below b)
    have G5 := Lib.hid (G4.out.below b)
    have E5 := Lib.hid f
    clear f b
    go_wp2_with fail
    refine (eq_any _ _ _ _ _ z0 _ hl0 F5.out E5.out).mono ?_
    rintro e w' ⟨rfl, n3, rfl⟩
    have H8 := Lib.hid (H7.out.drewN n3)
    have G6 := Lib.hid (G5.out.drewN n3)
    go_wp2_with fail
    refine (copy_any _ _ _ z1 _ hl1 H8.out.2.1).mono ?_
    rintro e w6 ⟨h3, rfl, f, b⟩
    have H9 := Lib.hid (H8.out.below b)
    have G7 := Lib.hid (G6.out.below b)
    have E7 := Lib.hid f
    clear f b
    go_wp2_with fail
    refine (eq_any _ _ _ _ _ z1 _ hl1 G7.out E7.out).mono ?_
    rintro e w' ⟨rfl, n4, rfl⟩
    go_wp2_with fail
    go_ret
    exact ⟨rfl, (H9.out.drewN n4).2.2⟩

theorem walk_fnExactDotNumbers (a0 : Option Addr) (l0 c0 : Nat) (z0 : List Nat) (a1 : Option Addr) (l1 c1 : Nat) (z1 : List Nat) (w : World) (h0 : FAt w a0 l0 z0) (h1 : FAt w a1 l1 z1) :
    Calls Try.prog 8 #[.slice a0 l0 c0, .slice a1 l1 c1] w fun e w' => e = .returned (.bool true) ∧ Below w.heap.size w w' := by
  have hm0 := h0.1
  have hm1 := h1.1
  unfold maxLen at hm0 hm1
  by_cases hl0 : l0 ≤ 1048576
  · by_cases hl1 : l1 ≤ 1048576
    · by_cases hs : l0 = l1 ∧ l1 ≤ 256
      · obtain ⟨rfl, hs⟩ := hs
        exact dot_walk a0 l0 c0 z0 a1 l0 c1 z1 true (fdot z0 z1 l0) w hl0 hl1 h0 h1 (fun a a' cap cap' w h h' => specDot_yes a a' l0 cap cap' z0 z1 w hs h h') (fun a a' cap cap' w h h' => implDot_any a a' l0 cap cap' z0 z1 w hs h h')
      · refine dot_walk a0 l0 c0 z0 a1 l1 c1 z1 false 0 w hl0 hl1 h0 h1 (fun a a' cap cap' w _ _ => (specDot_no a a' l0 l1 cap cap' w hl0 hl1 (by omega)).mono ?_) (fun a a' cap cap' w _ _ => (implDot_no a a' l0 l1 cap cap' w hl0 hl1 (by omega)).mono ?_)
        all_goals (rintro e w' ⟨rfl, rfl⟩; exact ⟨0, 0, rfl, .inl rfl, rfl⟩)
    · clear h0 h1
      go_enter Try.func8, Try.ntmps8
      go_wp2_with fail
      go_ret
      exact ⟨rfl, Below.refl _ _⟩
  · clear h0 h1
    go_enter Try.func8, Try.ntmps8
    go_wp2_with fail
    go_ret
    exact ⟨rfl, Below.refl _ _⟩
end Go.Proofs.Ytajjepcegpimjaa
