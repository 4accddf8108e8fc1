/-
  The walk of the law on PhasorOf.
-/
import Derived.Test.YtajjepcegpimjaaPhasB
namespace Go.Proofs.Ytajjepcegpimjaa
open Go.RowKit Fl

@[go_sem] theorem run_f32from (x : Int) (w : World) : (callFunc 67 #[.int .u32 x]).run Try.prog w = .ok (.value (.float .f32 x.toNat)) w := by kernel_rfl

theorem bits_lt {op : BinOp} {x y r : Nat} (h : floatBits op .f64 x y = some r) : r < 18446744073709551616 := lt_of_wf64 (floatBits_wf h)
theorem part_lt {y : Nat} {n : Int} {d : Nat} {neg : Bool} {f : Nat} (h : PartAt y n d neg f) : f < 18446744073709551616 := by
  cases neg
  · rw [h.hf' rfl]; exact bits_lt h.hd
  · exact bits_lt (h.hf rfl)
theorem pr_num {f0 N f h c s mc ms : Nat} (p : PhasAt f0 N f h c s mc ms) : Num .f32 (pr N c s mc ms) ∧ Num .f32 (pim N c s mc ms) := by
  have a := down_num p.lc (by omega) (by omega)
  have b := down_num p.ls (by omega) (by omega)
  have d := down_num p.lmc (by omega) (by omega)
  have e := down_num p.lms (by omega) (by omega)
  unfold pr pim
  constructor
  · split
    · exact e
    · split
      · exact d
      · split
        · exact b
        · exact a
  · split
    · exact a
    · split
      · exact e
      · split
        · exact d
        · exact b

theorem walk_fnExactPhasorOf (a0 : Nat) (w : World) (w0 : (Lit.float .f64 a0).wf = true) :
    Calls Try.prog 3 #[.float .f64 a0] w fun e w' => e = .returned (.bool true) ∧ Below w.heap.size w w' := by
  have h0 := lt_of_wf64 w0
  have H0 := Lib.hid h0
  by_cases hfin : rung Ieee.double a0 < Ieee.double.infRung
  · have hn : Num .f64 a0 := Nat.le_of_lt hfin
    have HF := Lib.hid hfin
    have HN := Lib.hid hn
    by_cases hm : rung Ieee.double a0 < 1075 * 4503599627370496
    · obtain ⟨n, d, neg, f0, hP⟩ := part_at (y := a0) (by unfold Le; omega)
      obtain ⟨N, f, h, c, s, mc, ms, hS⟩ := phas_at hP.hle (part_lt hP)
      obtain ⟨n1, n2⟩ := pr_num hS
      have c5 : ∀ w, (convert 23 26 (.complex .f32 (pr N c s mc ms) (pim N c s mc ms))).run Try.prog w = .ok (.complex .f64 (up (pr N c s mc ms)) (up (pim N c s mc ms))) w := fun w => run_cup w _ _ n1 n2 (by kernel_rfl) Try.underlying26
      have I1 : Hid (∀ w, Calls Try.prog 12 #[.float .f64 a0] w fun e w' => e = .returned (.complex .f32 (pr N c s mc ms) (pim N c s mc ms)) ∧ w = w') := fun w => implPhas h0 hm hP hS w
      have I2 : Hid (∀ w, Calls Try.prog 31 #[.float .f64 a0] w fun e w' => e = .returned (.complex .f32 (pr N c s mc ms) (pim N c s mc ms)) ∧ w = w') := fun w => specPhas hm hP hS w
      have Q1 := Lib.hid n1
      have Q2 := Lib.hid n2
      generalize pr N c s mc ms = p at *
      generalize pim N c s mc ms = q at *
      clear hfin hn hm hP hS n1 n2 h0 w0
      go_enter Try.func3, Try.ntmps3
      go_wp2_with (first | (go_at_call 13; refine (sameComplex_num _ _ (up_lt _) (up_lt _) (up_num Q1.out) (up_num Q2.out) _).mono ?_; rintro e w' ⟨rfl, rfl⟩) | (go_at_call 12; refine (I1.out _).mono ?_; rintro e w' ⟨rfl, rfl⟩) | (go_at_call 31; refine (I2.out _).mono ?_; rintro e w' ⟨rfl, rfl⟩) | (go_at_call 11; go_in))
      go_ret
      exact ⟨rfl, below_drewn _ 0⟩
    · have s1 := op64 (sub_self_fin .f64 (x := a0) hfin)
      have s2 : (FloatKind.f64.format.order 0 0 != some .eq) = false := by decide
      have c5 : ∀ w, (convert 23 26 (.complex .f32 1065353216 0)).run Try.prog w = .ok (.complex .f64 (up 1065353216) (up 0)) w := fun w => run_cup w _ _ (num32.2 (by decide)) (num32.2 (by decide)) (by kernel_rfl) Try.underlying26
      have HB : Hid (decide (1075 * 4503599627370496 ≤ rung Ieee.double a0) = true) := Lib.hid (decide_eq_true (by omega))
      have Q1 : Hid (Num .f32 1065353216) := Lib.hid (num32.2 (by decide))
      have Q2 : Hid (Num .f32 0) := Lib.hid (num32.2 (by decide))
      have HT := many_turns hn hm
      rcases HT with t | ⟨t, t'⟩
      · clear hfin hn hm h0 w0
        go_enter Try.func3, Try.ntmps3
        go_wp2_with (first | (go_at_call 13; refine (sameComplex_num _ _ (up_lt _) (up_lt _) (up_num Q1.out) (up_num Q2.out) _).mono ?_; rintro e w' ⟨rfl, rfl⟩) | (go_at_call 32; refine (wide_fin H0.out HF.out _).mono ?_; rintro e w' ⟨rfl, rfl⟩) | (go_at_call 34; refine (areMany_b H0.out HN.out _ HB.out _).mono ?_; rintro e w' ⟨rfl, rfl⟩) | go_in)
        go_ret
        exact ⟨rfl, below_drewn _ 0⟩
      · clear hfin hn hm h0 w0
        go_enter Try.func3, Try.ntmps3
        go_wp2_with (first | (go_at_call 13; refine (sameComplex_num _ _ (up_lt _) (up_lt _) (up_num Q1.out) (up_num Q2.out) _).mono ?_; rintro e w' ⟨rfl, rfl⟩) | (go_at_call 32; refine (wide_fin H0.out HF.out _).mono ?_; rintro e w' ⟨rfl, rfl⟩) | (go_at_call 34; refine (areMany_b H0.out HN.out _ HB.out _).mono ?_; rintro e w' ⟨rfl, rfl⟩) | go_in)
        go_ret
        exact ⟨rfl, below_drewn _ 0⟩
  · have HF := Lib.hid hfin
    have hs : floatBits .sub .f64 a0 a0 = none := by
      by_cases hn : Num .f64 a0
      · exact sub_self_inf .f64 (by show rung Ieee.double a0 = Ieee.double.infRung; have : rung Ieee.double a0 ≤ Ieee.double.infRung := hn; omega)
      · exact nan_arith .sub .f64 (.inl hn)
    have d : ∀ (t : TypeId) (w : World), (binOp .sub t (.float .f64 a0) (.float .f64 a0)).run Try.prog w = .ok (.float .f64 (nanAt (.nanBits .f64 a0 a0) w)) w.drew := fun t w => run_arith_nan w .sub (by simp) t .f64 _ _ hs
    have o : ∀ w, (FloatKind.f64.format.order (nanAt (.nanBits .f64 a0 a0) w) 0 != some .eq) = true := fun w => by rw [order_nan_left .f64 (nanAt_bits64 _ _ w)]; rfl
    have c2 : ∀ w, (convert 22 28 (.float .f64 9221120237041090561)).run Try.prog w = .ok (.float .f32 (nanAt (.nanConv .f32 9221120237041090561) w)) w.drew := fun w => run_down_nan w _ _ nanC_nan (by kernel_rfl) Try.underlying28
    have c3 : ∀ w b q, (convert 23 26 (.complex .f32 (nanAt (.nanConv .f32 b) q) (nanAt (.nanConv .f32 b) q))).run Try.prog w = .ok (.complex .f64 (nanAt (.nanConv .f64 (nanAt (.nanConv .f32 b) q)) w) (nanAt (.nanConv .f64 (nanAt (.nanConv .f32 b) q)) w.drew)) w.drew.drew := fun w b q => run_cup_nan w _ _ (nanAt_conv32 _ _) (nanAt_conv32 _ _) (by kernel_rfl) Try.underlying26
    have c4 : ∀ w, (convert 23 26 (.complex .f32 2143289344 2143289344)).run Try.prog w = .ok (.complex .f64 (nanAt (.nanConv .f64 2143289344) w) (nanAt (.nanConv .f64 2143289344) w.drew)) w.drew.drew := fun w => run_cup_nan w _ _ (by rw [num32]; decide) (by rw [num32]; decide) (by kernel_rfl) Try.underlying26
    clear hfin hs h0 w0
    go_enter Try.func3, Try.ntmps3
    go_wp2_with (first | (go_at_call 13; refine (sameComplex_nan _ _ _ _ (nanAt_conv64 _ _) (nanAt_conv64 _ _) (nanAt_conv64 _ _) (nanAt_conv64 _ _) _).mono ?_; rintro e w' ⟨rfl, rfl⟩) | (go_at_call 32; refine (wide_not H0.out HF.out _).mono ?_; rintro e w' ⟨rfl, rfl⟩) | go_in)
    go_ret
    exact ⟨rfl, below_drewn w 6⟩
end Go.Proofs.Ytajjepcegpimjaa
