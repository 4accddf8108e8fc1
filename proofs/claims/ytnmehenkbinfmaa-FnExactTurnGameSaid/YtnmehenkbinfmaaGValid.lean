/-
  Is a game valid? The program's answer and the reference's.
-/
import Derived.Test.YtnmehenkbinfmaaExt
import Derived.Test.YtnmehenkbinfmaaGPure
import Derived.Test.YtnmehenkbinfmaaGGame
import Derived.Test.YtnmehenkbinfmaaBetw
import Derived.Laws.StructEq
namespace Go.Proofs.Ytnmehenkbinfmaa
open Go.RowKit Go.ChangeShapes Go.WideShapes
set_option linter.unusedVariables false

theorem shapeOf_any (r c : Int) (a1 : Option Addr) (l1 c1 : Nat) (a2 : Option Addr) (l2 c2 : Nat) (w : World) :
    Calls Try.prog 72 #[gameV r c a1 l1 c1 a2 l2 c2] w fun e w' => e = .returned (.agg #[.int .i64 r, .int .i64 c, .int .i64 l1, .int .i64 l2]) ∧ Below w.heap.size w w' := by
  go_enter Try.func72, Try.ntmps72
  go_wp2
  go_returns
  exact ⟨rfl, below2⟩

theorem areGains_any (a : Option Addr) (len cap : Nat) (zs : List Int) (w : World) (h : IAt w a len zs) :
    Calls Try.prog 73 #[.slice a len cap] w fun e w' => e = .returned (.bool (okGains zs)) ∧ w = w' := by
  have H := Lib.hid h
  clear h
  go_enter Try.func73, Try.ntmps73
  go_wp2_with (go_at_call 110; refine (areBetween_any _ _ _ zs _ _ _ H.out).mono ?_; rintro e w' ⟨rfl, rfl⟩)
  go_ret
  exact ⟨rfl, rfl⟩

theorem isSide_any (n : Int) (w : World) :
    Calls Try.prog 71 #[.int .i64 n] w fun e w' => e = .returned (.bool (okSide n)) ∧ w = w' := by
  go_enter Try.func71, Try.ntmps71
  go_wp2_with (go_at_call 109; refine (isBetween_any _ _ _ _).mono ?_; rintro e w' ⟨rfl, rfl⟩)
  go_ret
  exact ⟨rfl, rfl⟩

theorem in_any (x lo hi : Int) (w : World) :
    Calls Try.prog 79 #[.int .i64 x, .int .i64 lo, .int .i64 hi] w fun e w' => e = .returned (.bool (decide (lo ≤ x) && decide (x ≤ hi))) ∧ w = w' := by
  by_cases h : lo ≤ x
  · have e : (decide (lo ≤ x) && decide (x ≤ hi)) = decide (x ≤ hi) := by rw [decide_eq_true h]; rfl
    rw [e]
    clear e
    go_enter Try.func79, Try.ntmps79
    go_wp2
    go_ret
    exact ⟨rfl, rfl⟩
  · have e : (decide (lo ≤ x) && decide (x ≤ hi)) = false := by rw [decide_eq_false h]; rfl
    rw [e]
    clear e
    go_enter Try.func79, Try.ntmps79
    go_wp2
    go_ret
    exact ⟨rfl, rfl⟩

/-- the reference: gains, n of them -/
theorem gains_at (b off len cap : Nat) (zs : List Int) (n : Int) (w : World) (hl : len ≤ maxLen) (hz : zs.length = len)
    (hc : ∀ i, i < len → w.cell? ⟨b, off + i, none⟩ = some (.int .i64 (zs.getD i 0))) :
    Calls Try.prog 108 #[.slice (some ⟨b, off, none⟩) len cap, .int .i64 n] w fun e w' => e = .returned (.bool (okGains zs && decide ((len : Int) = n))) ∧ w = w' := by
  have HC := Lib.hid hc
  clear hc
  unfold maxLen at hl
  go_enter Try.func108, Try.ntmps108
  go_wp2
  go_loop [5] (fun i => ∃ k : Nat, k ≤ len ∧ i = .int .i64 k ∧ Hid (∀ j, j < k → -1000 ≤ zs.getD j 0 ∧ zs.getD j 0 ≤ 1000)) (fun i => len - (intOf i).toNat)
  case atStart => exact ⟨0, Nat.zero_le _, rfl, Lib.hid (fun j hj => absurd hj (by omega))⟩
  case round =>
    obtain ⟨k, hk, rfl, H⟩ := hrel
    by_cases hlt : k < len
    · have hsrc := HC.out k hlt
      by_cases hb : zs.getD k 0 < -1000 ∨ 1000 < zs.getD k 0
      · have E := Lib.hid (okGains_bad (by omega) hb)
        generalize zs.getD k 0 = v at *
        have e2 : (decide (-1000 ≤ v) && decide (v ≤ 1000)) = false := by
          cases e3 : (decide (-1000 ≤ v) && decide (v ≤ 1000)) with
          | false => rfl
          | true => simp at e3; omega
        go_wp2_with (go_at_call 79; refine (in_any _ _ _ _).mono ?_; rintro e w' ⟨rfl, rfl⟩; rw [e2])
        go_ret
        exact ⟨by rw [E.out]; rfl, rfl⟩
      · have H' : Hid (∀ j, j < k + 1 → -1000 ≤ zs.getD j 0 ∧ zs.getD j 0 ≤ 1000) := Lib.hid fun j hj => by
          by_cases e : j = k
          · rw [e]; omega
          · exact H.out j (by omega)
        generalize zs.getD k 0 = v at *
        have e2 : (decide (-1000 ≤ v) && decide (v ≤ 1000)) = true := by simp; omega
        clear hb
        go_wp2_with (go_at_call 79; refine (in_any _ _ _ _).mono ?_; rintro e w' ⟨rfl, rfl⟩; rw [e2])
        go_round
        case rel => exact ⟨k + 1, by omega, by go_num, H'⟩
        case measure => simp [intOf]; omega
    · obtain rfl : k = len := by omega
      go_wp2
      go_ret
      refine ⟨?_, rfl⟩
      rw [okGains_all (by rw [hz]; exact H.out), Bool.true_and]
      first | rfl | simp

theorem gains_none (a : Option Addr) (cap : Nat) (n : Int) (w : World) :
    Calls Try.prog 108 #[.slice a 0 cap, .int .i64 n] w fun e w' => e = .returned (.bool (true && decide ((0 : Int) = n))) ∧ w = w' := by
  rw [Bool.true_and]
  go_enter Try.func108, Try.ntmps108
  go_wp2
  go_loop [5] (fun i => i = .int .i64 0) (fun _ => 0)
  case atStart => exact rfl
  case round =>
    obtain rfl := hrel
    go_wp2
    go_ret
    first | exact ⟨rfl, rfl⟩ | (refine ⟨?_, rfl⟩; simp)

theorem gains_any (a : Option Addr) (len cap : Nat) (zs : List Int) (n : Int) (w : World) (h : IAt w a len zs) :
    Calls Try.prog 108 #[.slice a len cap, .int .i64 n] w fun e w' => e = .returned (.bool (okGains zs && decide ((len : Int) = n))) ∧ w = w' := by
  obtain ⟨h1, h2, h3, rfl | ⟨b, off, rfl, hb, hc⟩⟩ := h
  · obtain rfl := List.eq_nil_of_length_eq_zero h1
    exact gains_none a cap n w
  · exact gains_at b off len cap zs n w h2 h1 hc

theorem okGame_sides {r c : Int} {A B : List Int} (s1 : okSide r = true) (s2 : okSide c = true) : okGame r c A B = ((okGains A && decide ((A.length : Int) = r * c)) && (okGains B && decide ((B.length : Int) = r * c))) := by
  unfold okGame
  rw [s1, s2]; rfl
theorem okGame_row {r c : Int} {A B : List Int} (s1 : okSide r = false) : okGame r c A B = false := by unfold okGame; rw [s1]; rfl
theorem okGame_col {r c : Int} {A B : List Int} (s1 : okSide c = false) : okGame r c A B = false := by
  unfold okGame
  rw [s1]
  cases okSide r <;> rfl

set_option maxRecDepth 20000 in
theorem implValid_any (r c : Int) (a1 : Option Addr) (l1 c1 : Nat) (a2 : Option Addr) (l2 c2 : Nat) (A B : List Int) (w : World) (hA : IAt w a1 l1 A) (hB : IAt w a2 l2 B) :
    Calls Try.prog 25 #[gameV r c a1 l1 c1 a2 l2 c2] w fun e w' => e = .returned (.bool (okGame r c A B)) ∧ Below w.heap.size w w' := by
  have HA := Lib.hid hA
  have HB := Lib.hid hB
  cases s1 : okSide r with
  | true =>
    cases s2 : okSide c with
    | true =>
      have h1 := okSide_true s1
      have h2 := okSide_true s2
      have hp1 : 1 ≤ r * c := by
        have := Int.mul_le_mul h1.1 h2.1 (by omega) (by omega); omega
      have hp2 : r * c ≤ 36 := by
        have := Int.mul_le_mul h1.2 h2.2 (by omega) (by omega); omega
      have S1 := Lib.hid s1
      have S2 := Lib.hid s2
      have HE := Lib.hid (okGame_sides (A := A) (B := B) s1 s2)
      rw [hA.1, hB.1] at HE
      clear s1 s2 hA hB h1 h2
      by_cases g1 : (l1 : Int) = r * c
      · by_cases g2 : (l2 : Int) = r * c
        · cases ga : okGains A with
          | true =>
            go_enter Try.func25, Try.ntmps25
            go_wp2_with (go_at_call 71; refine (isSide_any _ _).mono ?_; rintro e w' ⟨rfl, rfl⟩; first | rw [S1.out] | rw [S2.out])
            have hbx : Box4 (w.alloc (.cells #[.int .i64 r, .int .i64 c, .slice a1 l1 c1, .slice a2 l2 c2] 27)) w.heap.size 27 (.int .i64 r) (.int .i64 c) (.slice a1 l1 c1) (.slice a2 l2 c2) := heap1
            have p0 := fun x : ExtW (w.alloc (.cells #[.int .i64 r, .int .i64 c, .slice a1 l1 c1, .slice a2 l2 c2] 27)) => (x.box hbx).c0
            have p1 := fun x : ExtW (w.alloc (.cells #[.int .i64 r, .int .i64 c, .slice a1 l1 c1, .slice a2 l2 c2] 27)) => (x.box hbx).c1
            have p2 := fun x : ExtW (w.alloc (.cells #[.int .i64 r, .int .i64 c, .slice a1 l1 c1, .slice a2 l2 c2] 27)) => (x.box hbx).c2
            have p3 := fun x : ExtW (w.alloc (.cells #[.int .i64 r, .int .i64 c, .slice a1 l1 c1, .slice a2 l2 c2] 27)) => (x.box hbx).c3
            have HA1 := Lib.hid (HA.out.below (below1 (o := .cells #[.int .i64 r, .int .i64 c, .slice a1 l1 c1, .slice a2 l2 c2] 27)))
            have HB1 := Lib.hid (HB.out.below (below1 (o := .cells #[.int .i64 r, .int .i64 c, .slice a1 l1 c1, .slice a2 l2 c2] 27)))
            clear hbx
            refine region_ext (by kernel_rfl) (by kernel_rfl) ?_
            repeat (go_big_quiet_step (first | (go_at_call 72; refine (shapeOf_any _ _ _ _ _ _ _ _ _).mono ?_; rintro e w2 ⟨rfl, hb⟩; exact ⟨rfl, ExtW.on _ hb⟩) | (go_at_call_of 73 (Value.slice a1 l1 c1); refine (areGains_any _ _ _ A _ (ExtW.iat _ HA1.out)).mono ?_; rintro e w2 ⟨rfl, h2⟩; rw [ga]; exact ⟨rfl, ExtW.same _ h2⟩) | (go_at_call_of 73 (Value.slice a2 l2 c2); refine (areGains_any _ _ _ B _ (ExtW.iat _ HB1.out)).mono ?_; rintro e w2 ⟨rfl, h2⟩; exact ⟨rfl, ExtW.same _ h2⟩)))
            refine wpQuiet_nil ?_
            intro _ hw'
            obtain ⟨x, hx⟩ := hw'
            subst hx
            go_wp2
            go_ret
            refine ⟨?_, below_after below1 (Nat.le_refl _) x.ext⟩
            rw [HE.out, ga, decide_eq_true g1, decide_eq_true g2]
            simp
          | false =>
            go_enter Try.func25, Try.ntmps25
            go_wp2_with (go_at_call 71; refine (isSide_any _ _).mono ?_; rintro e w' ⟨rfl, rfl⟩; first | rw [S1.out] | rw [S2.out])
            have hbx : Box4 (w.alloc (.cells #[.int .i64 r, .int .i64 c, .slice a1 l1 c1, .slice a2 l2 c2] 27)) w.heap.size 27 (.int .i64 r) (.int .i64 c) (.slice a1 l1 c1) (.slice a2 l2 c2) := heap1
            have p0 := fun x : ExtW (w.alloc (.cells #[.int .i64 r, .int .i64 c, .slice a1 l1 c1, .slice a2 l2 c2] 27)) => (x.box hbx).c0
            have p1 := fun x : ExtW (w.alloc (.cells #[.int .i64 r, .int .i64 c, .slice a1 l1 c1, .slice a2 l2 c2] 27)) => (x.box hbx).c1
            have p2 := fun x : ExtW (w.alloc (.cells #[.int .i64 r, .int .i64 c, .slice a1 l1 c1, .slice a2 l2 c2] 27)) => (x.box hbx).c2
            have p3 := fun x : ExtW (w.alloc (.cells #[.int .i64 r, .int .i64 c, .slice a1 l1 c1, .slice a2 l2 c2] 27)) => (x.box hbx).c3
            have HA1 := Lib.hid (HA.out.below (below1 (o := .cells #[.int .i64 r, .int .i64 c, .slice a1 l1 c1, .slice a2 l2 c2] 27)))
            have HB1 := Lib.hid (HB.out.below (below1 (o := .cells #[.int .i64 r, .int .i64 c, .slice a1 l1 c1, .slice a2 l2 c2] 27)))
            clear hbx
            refine region_ext (by kernel_rfl) (by kernel_rfl) ?_
            repeat (go_big_quiet_step (first | (go_at_call 72; refine (shapeOf_any _ _ _ _ _ _ _ _ _).mono ?_; rintro e w2 ⟨rfl, hb⟩; exact ⟨rfl, ExtW.on _ hb⟩) | (go_at_call_of 73 (Value.slice a1 l1 c1); refine (areGains_any _ _ _ A _ (ExtW.iat _ HA1.out)).mono ?_; rintro e w2 ⟨rfl, h2⟩; rw [ga]; exact ⟨rfl, ExtW.same _ h2⟩)))
            refine wpQuiet_nil ?_
            intro _ hw'
            obtain ⟨x, hx⟩ := hw'
            subst hx
            go_wp2
            go_ret
            refine ⟨?_, below_after below1 (Nat.le_refl _) x.ext⟩
            rw [HE.out, ga]
            rfl
        · have g3 : ¬ (l2 : Int) = r * c := g2
          go_enter Try.func25, Try.ntmps25
          go_wp2_with (go_at_call 71; refine (isSide_any _ _).mono ?_; rintro e w' ⟨rfl, rfl⟩; first | rw [S1.out] | rw [S2.out])
          have hbx : Box4 (w.alloc (.cells #[.int .i64 r, .int .i64 c, .slice a1 l1 c1, .slice a2 l2 c2] 27)) w.heap.size 27 (.int .i64 r) (.int .i64 c) (.slice a1 l1 c1) (.slice a2 l2 c2) := heap1
          have p0 := fun x : ExtW (w.alloc (.cells #[.int .i64 r, .int .i64 c, .slice a1 l1 c1, .slice a2 l2 c2] 27)) => (x.box hbx).c0
          have p1 := fun x : ExtW (w.alloc (.cells #[.int .i64 r, .int .i64 c, .slice a1 l1 c1, .slice a2 l2 c2] 27)) => (x.box hbx).c1
          have p2 := fun x : ExtW (w.alloc (.cells #[.int .i64 r, .int .i64 c, .slice a1 l1 c1, .slice a2 l2 c2] 27)) => (x.box hbx).c2
          have p3 := fun x : ExtW (w.alloc (.cells #[.int .i64 r, .int .i64 c, .slice a1 l1 c1, .slice a2 l2 c2] 27)) => (x.box hbx).c3
          have HA1 := Lib.hid (HA.out.below (below1 (o := .cells #[.int .i64 r, .int .i64 c, .slice a1 l1 c1, .slice a2 l2 c2] 27)))
          have HB1 := Lib.hid (HB.out.below (below1 (o := .cells #[.int .i64 r, .int .i64 c, .slice a1 l1 c1, .slice a2 l2 c2] 27)))
          clear hbx
          refine region_ext (by kernel_rfl) (by kernel_rfl) ?_
          repeat (go_big_quiet_step (first | (go_at_call 72; refine (shapeOf_any _ _ _ _ _ _ _ _ _).mono ?_; rintro e w2 ⟨rfl, hb⟩; exact ⟨rfl, ExtW.on _ hb⟩)))
          refine wpQuiet_nil ?_
          intro _ hw'
          obtain ⟨x, hx⟩ := hw'
          subst hx
          go_wp2
          go_ret
          refine ⟨?_, below_after below1 (Nat.le_refl _) x.ext⟩
          rw [HE.out, decide_eq_false g2]
          simp
      · have g3 : ¬ (l1 : Int) = r * c := g1
        go_enter Try.func25, Try.ntmps25
        go_wp2_with (go_at_call 71; refine (isSide_any _ _).mono ?_; rintro e w' ⟨rfl, rfl⟩; first | rw [S1.out] | rw [S2.out])
        have hbx : Box4 (w.alloc (.cells #[.int .i64 r, .int .i64 c, .slice a1 l1 c1, .slice a2 l2 c2] 27)) w.heap.size 27 (.int .i64 r) (.int .i64 c) (.slice a1 l1 c1) (.slice a2 l2 c2) := heap1
        have p0 := fun x : ExtW (w.alloc (.cells #[.int .i64 r, .int .i64 c, .slice a1 l1 c1, .slice a2 l2 c2] 27)) => (x.box hbx).c0
        have p1 := fun x : ExtW (w.alloc (.cells #[.int .i64 r, .int .i64 c, .slice a1 l1 c1, .slice a2 l2 c2] 27)) => (x.box hbx).c1
        have p2 := fun x : ExtW (w.alloc (.cells #[.int .i64 r, .int .i64 c, .slice a1 l1 c1, .slice a2 l2 c2] 27)) => (x.box hbx).c2
        have p3 := fun x : ExtW (w.alloc (.cells #[.int .i64 r, .int .i64 c, .slice a1 l1 c1, .slice a2 l2 c2] 27)) => (x.box hbx).c3
        have HA1 := Lib.hid (HA.out.below (below1 (o := .cells #[.int .i64 r, .int .i64 c, .slice a1 l1 c1, .slice a2 l2 c2] 27)))
        have HB1 := Lib.hid (HB.out.below (below1 (o := .cells #[.int .i64 r, .int .i64 c, .slice a1 l1 c1, .slice a2 l2 c2] 27)))
        clear hbx
        refine region_ext (by kernel_rfl) (by kernel_rfl) ?_
        repeat (go_big_quiet_step (first | (go_at_call 72; refine (shapeOf_any _ _ _ _ _ _ _ _ _).mono ?_; rintro e w2 ⟨rfl, hb⟩; exact ⟨rfl, ExtW.on _ hb⟩)))
        refine wpQuiet_nil ?_
        intro _ hw'
        obtain ⟨x, hx⟩ := hw'
        subst hx
        go_wp2
        go_ret
        refine ⟨?_, below_after below1 (Nat.le_refl _) x.ext⟩
        rw [HE.out, decide_eq_false g1]
        simp
    | false =>
      have S1 := Lib.hid s1
      have S2 := Lib.hid s2
      clear s1 s2
      go_enter Try.func25, Try.ntmps25
      go_wp2_with (go_at_call 71; refine (isSide_any _ _).mono ?_; rintro e w' ⟨rfl, rfl⟩; first | rw [S1.out] | rw [S2.out])
      go_ret
      exact ⟨by rw [okGame_col S2.out]; rfl, below1⟩
  | false =>
    have S1 := Lib.hid s1
    have S2 := S1
    clear s1
    go_enter Try.func25, Try.ntmps25
    go_wp2_with (go_at_call 71; refine (isSide_any _ _).mono ?_; rintro e w' ⟨rfl, rfl⟩; first | rw [S1.out] | rw [S2.out])
    go_ret
    exact ⟨by rw [okGame_row S1.out]; rfl, below1⟩
end Go.Proofs.Ytnmehenkbinfmaa
