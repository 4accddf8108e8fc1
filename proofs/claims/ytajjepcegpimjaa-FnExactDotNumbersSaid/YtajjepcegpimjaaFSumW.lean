/-
  The law on SumNumbers: every slice of float32.
-/
import Derived.Test.YtajjepcegpimjaaFSum
namespace Go.Proofs.Ytajjepcegpimjaa
open Go.RowKit Go.ChangeShapes Go.WideShapes Fl

theorem eq_none (a a' : Option Addr) (cap cap' : Nat) (w : World) :
    Calls Try.prog 24 #[.slice a 0 cap, .slice a' 0 cap'] w (Yes w) := by
  go_enter Try.func24, Try.ntmps24
  go_wp2
  go_loop [5] (fun i => i = .int .i64 0) (fun _ => 0)
  case atStart => exact rfl
  case round =>
    obtain rfl := hrel
    go_wp2
    go_ret
    exact ⟨rfl, 0, rfl⟩

theorem eq_any (a a' : Option Addr) (len cap cap' : Nat) (zs : List Nat) (w : World) (hl : len ≤ 1048576) (h : FAt w a len zs) (h' : FAt w a' len zs) :
    Calls Try.prog 24 #[.slice a len cap, .slice a' len cap'] w (Yes w) := by
  obtain ⟨_, _, _, e | ⟨b, off, rfl, _, hc⟩⟩ := h
  · subst e; exact eq_none a a' cap cap' w
  · obtain ⟨_, _, _, e | ⟨b', off', rfl, _, hc'⟩⟩ := h'
    · subst e; exact eq_none _ a' cap cap' w
    · exact eq_at b off b' off' len cap cap' zs w hl hc hc'

theorem EqN.num {s r : Nat} (h : EqN s r) (hr : Num .f32 r) : s = r := h.elim id fun h => absurd hr h.2
theorem EqN.nan {s r : Nat} (h : EqN s r) (hr : ¬ Num .f32 r) : ¬ Num .f32 s := h.elim (fun e => by rw [e]; exact hr) And.left

abbrev sumFn (f : Nat) (len : Nat) (zs : List Nat) (ok : Bool) (r : Nat) : Prop :=
  ∀ (a : Option Addr) (cap : Nat) (w : World), FAt w a len zs → Calls Try.prog f #[.slice a len cap] w (Summed w (fun s => .tuple #[.float .f32 s, .bool ok]) r)

theorem sum_walk (a : Option Addr) (len cap : Nat) (zs : List Nat) (ok : Bool) (r : Nat) (w : World) (hl : len ≤ 1048576) (h : FAt w a len zs)
    (hS : sumFn 21 len zs ok r) (hI : sumFn 23 len zs ok r) :
    Calls Try.prog 7 #[.slice a len cap] w fun e w' => e = .returned (.bool true) ∧ Below w.heap.size w w' := by
  have HA := Lib.hid h
  have HS := Lib.hid hS
  have HI := Lib.hid hI
  clear h hS hI
  by_cases hr : Num .f32 r
  · have c1 : ∀ w, (convert 28 22 (.float .f32 r)).run Try.prog w = .ok (.float .f64 (up r)) w := fun w => run_up w _ _ hr (by kernel_rfl) Try.underlying22
    have HR := Lib.hid hr
    clear hr
    go_enter Try.func7, Try.ntmps7
    go_wp2_with fail
    refine (copy_any _ _ _ zs _ hl HA.out).mono ?_
    rintro e w1 ⟨g1, rfl, f1, b1⟩
    have F1 := Lib.hid f1
    have B1 := Lib.hid b1
    clear f1 b1
    go_wp2_with fail
    refine (HS.out _ _ _ F1.out).mono ?_
    rintro e w' ⟨s1, n1, rfl, hs, rfl⟩
    obtain rfl := hs.num HR.out
    clear hs
    have HA1 := Lib.hid ((HA.out.below B1.out).drewN n1)
    have B1' := Lib.hid (B1.out.trans ((below_drewn w1 n1).mono B1.out.size))
    go_wp2_with fail
    refine (copy_any _ _ _ zs _ hl HA1.out).mono ?_
    rintro e w2 ⟨g2, rfl, f2, b2⟩
    have F2 := Lib.hid f2
    have B2 := Lib.hid (B1'.out.trans (b2.mono B1'.out.size))
    have HA2 := Lib.hid (HA1.out.below b2)
    clear f2 b2
    go_wp2_with fail
    refine (HI.out _ _ _ F2.out).mono ?_
    rintro e w' ⟨s2, n2, rfl, hs, rfl⟩
    obtain rfl := hs.num HR.out
    clear hs
    go_wp2_with fail
    refine (sameFloat_num _ (up_lt _) (up_num HR.out) _).mono ?_
    rintro e w' ⟨rfl, rfl⟩
    have F2' := Lib.hid (F2.out.drewN n2)
    have HA3 := Lib.hid (HA2.out.drewN n2)
    have B3 := Lib.hid (B2.out.trans ((below_drewn w2 n2).mono B2.out.size))
    go_wp2_with fail
    refine (copy_any _ _ _ zs _ hl HA3.out).mono ?_
    rintro e w3 ⟨g3, rfl, f3, b3⟩
    have F3 := Lib.hid f3
    have F2'' := Lib.hid (F2'.out.below b3)
    have B4 := Lib.hid (B3.out.trans (b3.mono B3.out.size))
    clear f3 b3
    go_wp2_with fail
    refine (eq_any _ _ _ _ _ zs _ hl F2''.out F3.out).mono ?_
    rintro e w' ⟨rfl, n3, rfl⟩
    go_wp2_with fail
    go_ret
    exact ⟨rfl, B4.out.trans ((below_drewn w3 n3).mono B4.out.size)⟩
  · have HR := Lib.hid hr
    clear hr
    go_enter Try.func7, Try.ntmps7
    go_wp2_with fail
    refine (copy_any _ _ _ zs _ hl HA.out).mono ?_
    rintro e w1 ⟨g1, rfl, f1, b1⟩
    have F1 := Lib.hid f1
    have B1 := Lib.hid b1
    clear f1 b1
    go_wp2_with fail
    refine (HS.out _ _ _ F1.out).mono ?_
    rintro e w' ⟨s1, n1, rfl, hs, rfl⟩
    have c1 : ∀ w, (convert 28 22 (.float .f32 s1)).run Try.prog w = .ok (.float .f64 (nanAt (.nanConv .f64 s1) w)) w.drew := fun w => run_up_nan w _ _ (hs.nan HR.out) (by kernel_rfl) Try.underlying22
    clear hs
    have HA1 := Lib.hid ((HA.out.below B1.out).drewN n1)
    have B1' := Lib.hid (B1.out.trans ((below_drewn w1 n1).mono B1.out.size))
    go_wp2_with fail
    refine (copy_any _ _ _ zs _ hl HA1.out).mono ?_
    rintro e w2 ⟨g2, rfl, f2, b2⟩
    have F2 := Lib.hid f2
    have B2 := Lib.hid (B1'.out.trans (b2.mono B1'.out.size))
    have HA2 := Lib.hid (HA1.out.below b2)
    clear f2 b2
    go_wp2_with fail
    refine (HI.out _ _ _ F2.out).mono ?_
    rintro e w' ⟨s2, n2, rfl, hs, rfl⟩
    have c2 : ∀ w, (convert 28 22 (.float .f32 s2)).run Try.prog w = .ok (.float .f64 (nanAt (.nanConv .f64 s2) w)) w.drew := fun w => run_up_nan w _ _ (hs.nan HR.out) (by kernel_rfl) Try.underlying22
    clear hs
    go_wp2_with fail
    refine (sameFloat_nan _ _ (nanAt_conv64 _ _) (nanAt_conv64 _ _) _).mono ?_
    rintro e w' ⟨rfl, rfl⟩
    have F2' := Lib.hid (F2.out.drewN (n2 + 2))
    have HA3 := Lib.hid (HA2.out.drewN (n2 + 2))
    have B3 := Lib.hid (B2.out.trans ((below_drewn w2 (n2 + 2)).mono B2.out.size))
    go_wp2_with fail
    refine (copy_any _ _ _ zs _ hl HA3.out).mono ?_
    rintro e w3 ⟨g3, rfl, f3, b3⟩
    have F3 := Lib.hid f3
    have F2'' := Lib.hid (F2'.out.below b3)
    have B4 := Lib.hid (B3.out.trans (b3.mono B3.out.size))
    clear f3 b3
    go_wp2_with fail
    refine (eq_any _ _ _ _ _ zs _ hl F2''.out F3.out).mono ?_
    rintro e w' ⟨rfl, n3, rfl⟩
    go_wp2_with fail
    go_ret
    exact ⟨rfl, B4.out.trans ((below_drewn w3 n3).mono B4.out.size)⟩

theorem walk_fnExactSumNumbers (a : Option Addr) (len cap : Nat) (zs : List Nat) (w : World) (h : FAt w a len zs) :
    Calls Try.prog 7 #[.slice a len cap] w fun e w' => e = .returned (.bool true) ∧ Below w.heap.size w w' := by
  have hm := h.1
  unfold maxLen at hm
  by_cases hl : len ≤ 1048576
  · by_cases hs : len ≤ 256
    · exact sum_walk a len cap zs true (fsum zs) w hl h (fun a cap w h => specSum_short a len cap zs w hs h) (fun a cap w h => implSum_any a len cap zs w hs h)
    · refine sum_walk a len cap zs false 0 w hl h (fun a cap w _ => (specSum_long a len cap w hl (by omega)).mono ?_) (fun a cap w _ => (implSum_long a len cap w hl (by omega)).mono ?_)
      all_goals (rintro e w' ⟨rfl, rfl⟩; exact ⟨0, 0, rfl, .inl rfl, rfl⟩)
  · clear h
    go_enter Try.func7, Try.ntmps7
    go_wp2_with fail
    go_ret
    exact ⟨rfl, Below.refl _ _⟩
end Go.Proofs.Ytajjepcegpimjaa
