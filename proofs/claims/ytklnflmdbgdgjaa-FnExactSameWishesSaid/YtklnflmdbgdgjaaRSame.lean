/-
  Are two slices of slices of int64 equal? slices.EqualFunc with slices.Equal, and the reference's comparison; wishes.
-/
import Derived.Test.YtklnflmdbgdgjaaSWishes
import Derived.Test.YtklnflmdbgdgjaaSlEq
import Derived.Test.YtklnflmdbgdgjaaOut
namespace Go.Proofs.Ytklnflmdbgdgjaa
open Go.RowKit Go.ChangeShapes Go.WideShapes
set_option linter.unusedVariables false

theorem rows_same {A B : List (List Int)} {n : Nat} (h1 : A.length = n) (h2 : B.length = n) (h : ∀ j, j < n → A.getD j [] = B.getD j []) : A = B := by
  apply List.ext_getElem (by omega)
  intro i hi hi'
  have := h i (by omega)
  simpa [List.getD, hi, hi'] using this

set_option maxHeartbeats 1000000 in
theorem rowsEq_at (b off b' off' len cap cap' : Nat) (A B : List (List Int)) (w : World) (hm : len ≤ maxLen) (hA : A.length = len) (hB : B.length = len)
    (hr : ∀ i, i < len → ∃ ai ci, w.cell? ⟨b, off + i, none⟩ = some (.slice ai (rl A i) ci) ∧ rl A i ≤ ci ∧ IAt w ai (rl A i) (A.getD i []))
    (hr' : ∀ i, i < len → ∃ ai ci, w.cell? ⟨b', off' + i, none⟩ = some (.slice ai (rl B i) ci) ∧ rl B i ≤ ci ∧ IAt w ai (rl B i) (B.getD i [])) :
    Calls Try.prog 29 #[.slice (some ⟨b, off, none⟩) len cap, .slice (some ⟨b', off', none⟩) len cap'] w fun e w' => e = .returned (.bool (decide (A = B))) ∧ Same w w' := by
  have HR := Lib.hid hr
  have HR' := Lib.hid hr'
  have HA := Lib.hid hA
  have HB := Lib.hid hB
  clear hr hr' hA hB
  unfold maxLen at hm
  go_enter Try.func29, Try.ntmps29
  go_wp2
  go_loopw [13] (fun i wr => ∃ k m : Nat, k ≤ len ∧ i = .int .i64 k ∧ Hid (∀ j, j < k → A.getD j [] = B.getD j []) ∧ Hid (wr = w.drewN m)) (fun i _ => len - (intOf i).toNat)
  case atStart => exact ⟨0, 0, Nat.zero_le _, rfl, Lib.hid (fun j hj => absurd hj (by omega)), Lib.hid rfl⟩
  case round =>
    obtain ⟨k, m, hk, rfl, HF, HW⟩ := hrel
    by_cases hlt : k < len
    · obtain ⟨ai, ci, hs, _, hz⟩ := HR.out k hlt
      obtain ⟨ai', ci', hs', _, hz'⟩ := HR'.out k hlt
      have hsrc : wr.cell? ⟨b, off + k, none⟩ = some (.slice ai (rl A k) ci) := by rw [HW.out]; exact hs
      have hsrc' : wr.cell? ⟨b', off' + k, none⟩ = some (.slice ai' (rl B k) ci') := by rw [HW.out]; exact hs'
      have HZ : Hid (IAt wr ai (rl A k) (A.getD k [])) := Lib.hid (by rw [HW.out]; exact hz.below (same_below ⟨m, rfl⟩ _))
      have HZ' : Hid (IAt wr ai' (rl B k) (B.getD k [])) := Lib.hid (by rw [HW.out]; exact hz'.below (same_below ⟨m, rfl⟩ _))
      have HN : Hid (A.getD k [] = B.getD k [] → ∀ j, j < k + 1 → A.getD j [] = B.getD j []) := Lib.hid fun h j hj => by
        by_cases e : j = k
        · rw [e]; exact h
        · exact HF.out j (by omega)
      have HE : Hid (¬ A.getD k [] = B.getD k [] → decide (A = B) = false) := Lib.hid fun h => decide_eq_false fun e => h (by rw [e])
      clear hs hs' hz hz' HF
      generalize A.getD k [] = Z at *
      generalize B.getD k [] = Y at *
      generalize rl A k = l at *
      generalize rl B k = l' at *
      by_cases he : Z = Y
      · have HD : Hid (decide (Z = Y) = true) := Lib.hid (decide_eq_true he)
        have HN2 := Lib.hid (HN.out he)
        clear HN HE he
        go_wp2
        go_quiet ((go_at_call 43; refine (listEq_any ai ai' l l' ci ci' Z Y _ (HZ.out.below (same_below ⟨_, rfl⟩ _)) (HZ'.out.below (same_below ⟨_, rfl⟩ _))).mono ?_; rintro e w2 ⟨rfl, n2, rfl⟩; rw [HD.out]; exact ⟨rfl, _, World.drewN_drewN _ _ _⟩))
        go_wp2
        go_roundw
        case rel => exact ⟨k + 1, m + nq, by omega, by go_num, HN2, Lib.hid (by rw [HW.out]; exact World.drewN_drewN _ _ _)⟩
        case measure => simp [intOf]; omega
      · have HD : Hid (decide (Z = Y) = false) := Lib.hid (decide_eq_false he)
        have HE2 := Lib.hid (HE.out he)
        clear HN HE he
        go_wp2
        go_quiet ((go_at_call 43; refine (listEq_any ai ai' l l' ci ci' Z Y _ (HZ.out.below (same_below ⟨_, rfl⟩ _)) (HZ'.out.below (same_below ⟨_, rfl⟩ _))).mono ?_; rintro e w2 ⟨rfl, n2, rfl⟩; rw [HD.out]; exact ⟨rfl, _, World.drewN_drewN _ _ _⟩))
        go_wp2
        go_ret
        exact ⟨by rw [HE2.out]; rfl, m + nq, by rw [HW.out]; exact World.drewN_drewN _ _ _⟩
    · obtain rfl : k = len := by omega
      have HE : Hid (decide (A = B) = true) := Lib.hid (decide_eq_true (rows_same HA.out HB.out HF.out))
      go_wp2
      go_ret
      exact ⟨by rw [HE.out]; rfl, m, HW.out⟩

theorem rowsEq_none (a a' : Option Addr) (cap cap' : Nat) (w : World) :
    Calls Try.prog 29 #[.slice a 0 cap, .slice a' 0 cap'] w fun e w' => e = .returned (.bool true) ∧ Same w w' := by
  go_enter Try.func29, Try.ntmps29
  go_wp2
  go_loop [13] (fun i => i = .int .i64 0) (fun _ => 0)
  case atStart => exact rfl
  case round =>
    obtain rfl := hrel
    go_wp2
    go_ret
    exact ⟨rfl, 0, rfl⟩

theorem rowsEq_any (a a' : Option Addr) (len len' cap cap' : Nat) (A B : List (List Int)) (w : World) (h : RAt w a len A) (h' : RAt w a' len' B) :
    Calls Try.prog 29 #[.slice a len cap, .slice a' len' cap'] w fun e w' => e = .returned (.bool (decide (A = B))) ∧ Same w w' := by
  obtain ⟨h1, hm, h3⟩ := h
  obtain ⟨h1', hm', h3'⟩ := h'
  by_cases hl : len = len'
  · subst hl
    rcases h3 with rfl | ⟨b, off, rfl, hb, hr⟩
    · obtain rfl := List.eq_nil_of_length_eq_zero h1
      obtain rfl := List.eq_nil_of_length_eq_zero h1'
      exact (rowsEq_none a a' cap cap' w).mono fun e w' h => by simpa using h
    · rcases h3' with rfl | ⟨b', off', rfl, hb', hr'⟩
      · obtain rfl := List.eq_nil_of_length_eq_zero h1
        obtain rfl := List.eq_nil_of_length_eq_zero h1'
        exact (rowsEq_none _ a' cap cap' w).mono fun e w' h => by simpa using h
      · exact rowsEq_at b off b' off' len cap cap' A B w hm h1 h1' hr hr'
  · have HE : Hid (decide (A = B) = false) := Lib.hid (decide_eq_false fun e => hl (by rw [← h1, ← h1', e]))
    have hn : ((len : Int) == (len' : Int)) = false := by rw [beq_eq_false_iff_ne]; omega
    have hn' : ((len : Int) != (len' : Int)) = true := by rw [bne, hn]; rfl
    unfold maxLen at hm hm'
    clear h3 h3' h1 h1' hl
    go_enter Try.func29, Try.ntmps29
    go_wp2
    go_ret
    exact ⟨by rw [HE.out]; rfl, 0, rfl⟩

theorem enters_equal : ∀ args w, (callFunc 45 args).run Try.prog w = .ok (.enter 45 args) w := fun args w => rfl

set_option maxHeartbeats 1000000 in
theorem equalF_at (b off b' off' len cap cap' : Nat) (A B : List (List Int)) (w : World) (hm : len ≤ maxLen) (hA : A.length = len) (hB : B.length = len)
    (hr : ∀ i, i < len → ∃ ai ci, w.cell? ⟨b, off + i, none⟩ = some (.slice ai (rl A i) ci) ∧ rl A i ≤ ci ∧ IAt w ai (rl A i) (A.getD i []))
    (hr' : ∀ i, i < len → ∃ ai ci, w.cell? ⟨b', off' + i, none⟩ = some (.slice ai (rl B i) ci) ∧ rl B i ≤ ci ∧ IAt w ai (rl B i) (B.getD i [])) :
    Calls Try.prog 44 #[.slice (some ⟨b, off, none⟩) len cap, .slice (some ⟨b', off', none⟩) len cap', .func (.func 45) #[] #[]] w fun e w' => e = .returned (.bool (decide (A = B))) ∧ Same w w' := by
  have HR := Lib.hid hr
  have HR' := Lib.hid hr'
  have HA := Lib.hid hA
  have HB := Lib.hid hB
  clear hr hr' hA hB
  unfold maxLen at hm
  go_enter Try.func44, Try.ntmps44
  go_wp2
  go_loopw [17] (fun i wr => ∃ k m : Nat, k ≤ len ∧ i = .int .i64 k ∧ Hid (∀ j, j < k → A.getD j [] = B.getD j []) ∧ Hid (wr = w.drewN m)) (fun i _ => len - (intOf i).toNat)
  case atStart => exact ⟨0, 0, Nat.zero_le _, rfl, Lib.hid (fun j hj => absurd hj (by omega)), Lib.hid rfl⟩
  case round =>
    obtain ⟨k, m, hk, rfl, HF, HW⟩ := hrel
    by_cases hlt : k < len
    · obtain ⟨ai, ci, hs, _, hz⟩ := HR.out k hlt
      obtain ⟨ai', ci', hs', _, hz'⟩ := HR'.out k hlt
      have hsrc : wr.cell? ⟨b, off + k, none⟩ = some (.slice ai (rl A k) ci) := by rw [HW.out]; exact hs
      have hsrc' : wr.cell? ⟨b', off' + k, none⟩ = some (.slice ai' (rl B k) ci') := by rw [HW.out]; exact hs'
      have HZ : Hid (IAt wr ai (rl A k) (A.getD k [])) := Lib.hid (by rw [HW.out]; exact hz.below (same_below ⟨m, rfl⟩ _))
      have HZ' : Hid (IAt wr ai' (rl B k) (B.getD k [])) := Lib.hid (by rw [HW.out]; exact hz'.below (same_below ⟨m, rfl⟩ _))
      have HN : Hid (A.getD k [] = B.getD k [] → ∀ j, j < k + 1 → A.getD j [] = B.getD j []) := Lib.hid fun h j hj => by
        by_cases e : j = k
        · rw [e]; exact h
        · exact HF.out j (by omega)
      have HE : Hid (¬ A.getD k [] = B.getD k [] → decide (A = B) = false) := Lib.hid fun h => decide_eq_false fun e => h (by rw [e])
      clear hs hs' hz hz' HF
      generalize A.getD k [] = Z at *
      generalize B.getD k [] = Y at *
      generalize rl A k = l at *
      generalize rl B k = l' at *
      by_cases he : Z = Y
      · have HD : Hid (decide (Z = Y) = true) := Lib.hid (decide_eq_true he)
        have HN2 := Lib.hid (HN.out he)
        clear HN HE he
        go_wp2_with fail
        refine (slicesEq_full ai ai' l l' ci ci' Z Y _ HZ.out HZ'.out).mono ?_
        rintro e w2 ⟨rfl, n2, rfl⟩
        rw [HD.out]
        go_wp2_with fail
        go_roundw
        case rel => exact ⟨k + 1, m + n2, by omega, by go_num, HN2, Lib.hid (by rw [HW.out]; exact World.drewN_drewN _ _ _)⟩
        case measure => simp [intOf]; omega
      · have HD : Hid (decide (Z = Y) = false) := Lib.hid (decide_eq_false he)
        have HE2 := Lib.hid (HE.out he)
        clear HN HE he
        go_wp2_with fail
        refine (slicesEq_full ai ai' l l' ci ci' Z Y _ HZ.out HZ'.out).mono ?_
        rintro e w2 ⟨rfl, n2, rfl⟩
        rw [HD.out]
        go_wp2_with fail
        go_ret
        exact ⟨by rw [HE2.out]; rfl, m + n2, by rw [HW.out]; exact World.drewN_drewN _ _ _⟩
    · obtain rfl : k = len := by omega
      have HE : Hid (decide (A = B) = true) := Lib.hid (decide_eq_true (rows_same HA.out HB.out HF.out))
      go_wp2
      go_ret
      exact ⟨by rw [HE.out]; rfl, m, HW.out⟩

theorem equalF_none (a a' : Option Addr) (cap cap' : Nat) (f : Value) (w : World) :
    Calls Try.prog 44 #[.slice a 0 cap, .slice a' 0 cap', f] w fun e w' => e = .returned (.bool true) ∧ Same w w' := by
  go_enter Try.func44, Try.ntmps44
  go_wp2
  go_loop [17] (fun i => i = .int .i64 0) (fun _ => 0)
  case atStart => exact rfl
  case round =>
    obtain rfl := hrel
    go_wp2
    go_ret
    exact ⟨rfl, 0, rfl⟩

theorem equalF_any (a a' : Option Addr) (len len' cap cap' : Nat) (A B : List (List Int)) (w : World) (h : RAt w a len A) (h' : RAt w a' len' B) :
    Calls Try.prog 44 #[.slice a len cap, .slice a' len' cap', .func (.func 45) #[] #[]] w fun e w' => e = .returned (.bool (decide (A = B))) ∧ Same w w' := by
  obtain ⟨h1, hm, h3⟩ := h
  obtain ⟨h1', hm', h3'⟩ := h'
  by_cases hl : len = len'
  · subst hl
    rcases h3 with rfl | ⟨b, off, rfl, hb, hr⟩
    · obtain rfl := List.eq_nil_of_length_eq_zero h1
      obtain rfl := List.eq_nil_of_length_eq_zero h1'
      exact (equalF_none a a' cap cap' _ w).mono fun e w' h => by simpa using h
    · rcases h3' with rfl | ⟨b', off', rfl, hb', hr'⟩
      · obtain rfl := List.eq_nil_of_length_eq_zero h1
        obtain rfl := List.eq_nil_of_length_eq_zero h1'
        exact (equalF_none _ a' cap cap' _ w).mono fun e w' h => by simpa using h
      · exact equalF_at b off b' off' len cap cap' A B w hm h1 h1' hr hr'
  · have HE : Hid (decide (A = B) = false) := Lib.hid (decide_eq_false fun e => hl (by rw [← h1, ← h1', e]))
    have hn : ((len : Int) == (len' : Int)) = false := by rw [beq_eq_false_iff_ne]; omega
    have hn' : ((len : Int) != (len' : Int)) = true := by rw [bne, hn]; rfl
    unfold maxLen at hm hm'
    clear h3 h3' h1 h1' hl
    go_enter Try.func44, Try.ntmps44
    go_wp2
    go_ret
    exact ⟨by rw [HE.out]; rfl, 0, rfl⟩

theorem areEqualLists_any (a a' : Option Addr) (len len' cap cap' : Nat) (A B : List (List Int)) (w : World) (h : RAt w a len A) (h' : RAt w a' len' B) :
    Calls Try.prog 30 #[.slice a len cap, .slice a' len' cap'] w fun e w' => e = .returned (.bool (decide (A = B))) ∧ Same w w' := by
  have H := Lib.hid h
  have H' := Lib.hid h'
  clear h h'
  go_enter Try.func30, Try.ntmps30
  go_wp2_with fail
  refine (equalF_any a a' len len' cap cap' A B _ H.out H'.out).mono ?_
  rintro e w2 ⟨rfl, n2, rfl⟩
  go_wp2_with fail
  go_ret
  exact ⟨rfl, n2, rfl⟩

/-! ## wishes -/
def sameWish (A B C D : List (List Int)) : Bool := decide (A = C) && decide (B = D)

theorem specSameWishes_any (a1 : Option Addr) (l1 c1 : Nat) (a2 : Option Addr) (l2 c2 : Nat) (A B : List (List Int)) (a3 : Option Addr) (l3 c3 : Nat) (a4 : Option Addr) (l4 c4 : Nat) (C D : List (List Int)) (w : World)
    (h : WAt w a1 l1 a2 l2 A B) (h' : WAt w a3 l3 a4 l4 C D) :
    Calls Try.prog 12 #[wishesV a1 l1 c1 a2 l2 c2, wishesV a3 l3 c3 a4 l4 c4] w (BoolOut w (sameWish A B C D)) := by
  have b0 : Below w.heap.size w ((w.alloc (.cells #[.slice a1 l1 c1, .slice a2 l2 c2] 27)).alloc (.cells #[.slice a3 l3 c3, .slice a4 l4 c4] 27)) := below2
  have HA := Lib.hid (h.below b0)
  have HB := Lib.hid (h'.below b0)
  have B0 := Lib.hid b0
  clear h h' b0
  cases s : decide (A = C) with
  | false =>
    have S := Lib.hid s
    have E : Hid (sameWish A B C D = false) := Lib.hid (by unfold sameWish; rw [s]; rfl)
    rw [E.out]
    clear s
    go_enter Try.func12, Try.ntmps12
    go_wp2_with fail
    refine (rowsEq_any a1 a3 l1 l3 c1 c3 A C _ HA.out.1 HB.out.1).mono ?_
    rintro e w1 ⟨rfl, n1, rfl⟩
    rw [S.out]
    go_wp2_with fail
    go_ret
    exact ⟨rfl, B0.out.trans (same_below ⟨_, rfl⟩ _)⟩
  | true =>
    have S := Lib.hid s
    have E : Hid (sameWish A B C D = decide (B = D)) := Lib.hid (by unfold sameWish; rw [s]; rfl)
    rw [E.out]
    clear s
    go_enter Try.func12, Try.ntmps12
    go_wp2_with fail
    refine (rowsEq_any a1 a3 l1 l3 c1 c3 A C _ HA.out.1 HB.out.1).mono ?_
    rintro e w1 ⟨rfl, n1, rfl⟩
    rw [S.out]
    go_wp2_with fail
    refine (rowsEq_any a2 a4 l2 l4 c2 c4 B D _ (HA.out.below (same_below ⟨n1, rfl⟩ _)).2 (HB.out.below (same_below ⟨n1, rfl⟩ _)).2).mono ?_
    rintro e w2 ⟨rfl, n2, rfl⟩
    go_wp2_with fail
    go_ret
    exact ⟨rfl, B0.out.trans (same_below ⟨_, rfl⟩ _)⟩

theorem implSameWishes_any (a1 : Option Addr) (l1 c1 : Nat) (a2 : Option Addr) (l2 c2 : Nat) (A B : List (List Int)) (a3 : Option Addr) (l3 c3 : Nat) (a4 : Option Addr) (l4 c4 : Nat) (C D : List (List Int)) (w : World)
    (h : WAt w a1 l1 a2 l2 A B) (h' : WAt w a3 l3 a4 l4 C D) :
    Calls Try.prog 13 #[wishesV a1 l1 c1 a2 l2 c2, wishesV a3 l3 c3 a4 l4 c4] w (BoolOut w (sameWish A B C D)) := by
  have b0 : Below w.heap.size w ((w.alloc (.cells #[.slice a1 l1 c1, .slice a2 l2 c2] 27)).alloc (.cells #[.slice a3 l3 c3, .slice a4 l4 c4] 27)) := below2
  have HA := Lib.hid (h.below b0)
  have HB := Lib.hid (h'.below b0)
  have B0 := Lib.hid b0
  clear h h' b0
  cases s : decide (A = C) with
  | false =>
    have S := Lib.hid s
    have E : Hid (sameWish A B C D = false) := Lib.hid (by unfold sameWish; rw [s]; rfl)
    rw [E.out]
    clear s
    go_enter Try.func13, Try.ntmps13
    go_wp2_with fail
    refine (areEqualLists_any a1 a3 l1 l3 c1 c3 A C _ HA.out.1 HB.out.1).mono ?_
    rintro e w1 ⟨rfl, n1, rfl⟩
    rw [S.out]
    go_wp2_with fail
    go_ret
    exact ⟨rfl, B0.out.trans (same_below ⟨_, rfl⟩ _)⟩
  | true =>
    have S := Lib.hid s
    have E : Hid (sameWish A B C D = decide (B = D)) := Lib.hid (by unfold sameWish; rw [s]; rfl)
    rw [E.out]
    clear s
    go_enter Try.func13, Try.ntmps13
    go_wp2_with fail
    refine (areEqualLists_any a1 a3 l1 l3 c1 c3 A C _ HA.out.1 HB.out.1).mono ?_
    rintro e w1 ⟨rfl, n1, rfl⟩
    rw [S.out]
    go_wp2_with fail
    refine (areEqualLists_any a2 a4 l2 l4 c2 c4 B D _ (HA.out.below (same_below ⟨n1, rfl⟩ _)).2 (HB.out.below (same_below ⟨n1, rfl⟩ _)).2).mono ?_
    rintro e w2 ⟨rfl, n2, rfl⟩
    go_wp2_with fail
    go_ret
    exact ⟨rfl, B0.out.trans (same_below ⟨_, rfl⟩ _)⟩
end Go.Proofs.Ytklnflmdbgdgjaa
