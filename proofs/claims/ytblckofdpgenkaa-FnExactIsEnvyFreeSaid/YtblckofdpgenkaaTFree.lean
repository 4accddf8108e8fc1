/-
  IsEnvyFree: the program's answer and the reference's.
-/
import Derived.Test.YtblckofdpgenkaaTEnvyS
namespace Go.Proofs.Ytblckofdpgenkaa
open Go.RowKit Go.ChangeShapes Go.WideShapes
set_option linter.unusedVariables false

/-- the greatest of the first n + 1 -/
def maxTo (zs : List Int) : Nat → Int
  | 0 => zs.getD 0 0
  | n + 1 => max (maxTo zs n) (zs.getD (n + 1) 0)
theorem maxTo_le (zs : List Int) (c : Int) (n : Nat) : maxTo zs n ≤ c ↔ ∀ i, i ≤ n → zs.getD i 0 ≤ c := by
  induction n with
  | zero =>
    constructor
    · intro h i hi
      obtain rfl : i = 0 := by omega
      exact h
    · intro h
      exact h 0 (Nat.le_refl _)
  | succ n ih =>
    unfold maxTo
    rw [Int.max_le, ih]
    constructor
    · rintro ⟨h1, h2⟩ i hi
      by_cases e : i = n + 1
      · rw [e]; exact h2
      · exact h1 i (by omega)
    · intro h
      exact ⟨fun i hi => h i (by omega), h _ (Nat.le_refl _)⟩
theorem maxTo_all (zs : List Int) (c : Int) (h : zs ≠ []) : decide (maxTo zs (zs.length - 1) ≤ c) = zs.all fun z => decide (z ≤ c) := by
  have hl : 0 < zs.length := List.length_pos_iff.2 h
  rw [Bool.eq_iff_iff, decide_eq_true_iff, maxTo_le, List.all_eq_true]
  constructor
  · intro g z hz
    obtain ⟨i, hi, rfl⟩ := List.getElem_of_mem hz
    have := g i (by omega)
    rw [List.getD_eq_getElem?_getD, List.getElem?_eq_getElem hi] at this
    simpa using this
  · intro g i hi
    have hi' : i < zs.length := by omega
    have := g _ (List.getElem_mem hi')
    rw [List.getD_eq_getElem?_getD, List.getElem?_eq_getElem hi']
    simpa using this

theorem max_any (a : Option Addr) (len cap : Nat) (zs : List Int) (w : World) (h : IAt w a len zs) (hl : 1 ≤ len) :
    Calls Try.prog 72 #[.slice a len cap] w fun e w' => e = .returned (.int .i64 (maxTo zs (zs.length - 1))) ∧ w = w' := by
  obtain ⟨h1, hm, -, e | ⟨b, off, rfl, -, hc⟩⟩ := h
  · omega
  have HC := Lib.hid hc
  have h0 : w.cell? ⟨b, off, none⟩ = some (.int .i64 (zs.getD 0 0)) := hc 0 hl
  have hd : decide ((len : Int) < 1) = false := decide_eq_false (by omega)
  have H1 := Lib.hid h1
  unfold maxLen at hm
  clear hc h1
  go_enter Try.func72, Try.ntmps72
  go_wp2_with fail
  go_loop [3, 4] (fun m q => ∃ k : Nat, 1 ≤ k ∧ k ≤ len ∧ q = .int .i64 k ∧ m = .int .i64 (maxTo zs (k - 1))) (fun _ q => len - (intOf q).toNat)
  case atStart => exact ⟨1, Nat.le_refl _, hl, rfl, rfl⟩
  case round =>
    obtain ⟨k, hk1, hk, rfl, rfl⟩ := hrel
    clear h0 hd
    by_cases hlt : k < len
    · have hsrc := HC.out k hlt
      have hs : maxTo zs k = max (maxTo zs (k - 1)) (zs.getD k 0) := by
        obtain ⟨q, rfl⟩ : ∃ q, k = q + 1 := ⟨k - 1, by omega⟩
        rfl
      have HS := Lib.hid hs
      clear hs
      generalize zs.getD k 0 = v at *
      generalize maxTo zs (k - 1) = u at *
      go_wp2_with fail
      go_round
      case rel => exact ⟨k + 1, by omega, by omega, by go_num, by rw [Nat.add_sub_cancel, HS.out]; congr 1; split <;> omega⟩
      case measure => simp [intOf]; omega
    · obtain rfl : k = len := by omega
      go_wp2_with fail
      go_ret
      exact ⟨by rw [H1.out]; rfl, rfl⟩

def freeV (p t : Int) (A O : List Int) : Bool × Bool := if okOwn p t A O then ((tableL A t.toNat O p.toNat).all fun z => decide (z ≤ 0), true) else (false, false)
theorem freeV_no {p t : Int} {A O : List Int} (h : okOwn p t A O = false) : freeV p t A O = (false, false) := by unfold freeV; rw [h]; rfl
theorem freeV_yes {P T : Nat} {A O : List Int} (h : okOwn P T A O = true) : freeV P T A O = ((tableL A T O P).all fun z => decide (z ≤ 0), true) := by unfold freeV; rw [h]; rfl
theorem tableL_pos {A : List Int} {T : Nat} {O : List Int} {P : Nat} (hP : 1 ≤ P) : 1 ≤ (tableL A T O P).length := by
  unfold tableL
  rw [pairsTo_len]
  exact Nat.mul_le_mul hP hP

set_option maxRecDepth 20000 in
theorem implFree_any (p t : Int) (a1 : Option Addr) (l1 c1 : Nat) (A : List Int) (ao : Option Addr) (lo co : Nat) (O : List Int) (w : World) (hA : IAt w a1 l1 A) (hO : IAt w ao lo O) (hc : l1 ≤ c1) :
    Calls Try.prog 36 #[valuesV p t a1 l1 c1, .slice ao lo co] w (TwoOut w (freeV p t A O)) := by
  have HA := Lib.hid hA
  have HO := Lib.hid hO
  clear hA hO
  cases s1 : okOwn p t A O with
  | false =>
    have S1 := Lib.hid (tableV_no s1)
    rw [freeV_no s1]
    clear s1
    go_enter Try.func36, Try.ntmps36
    go_wp2_with fail
    refine (implTable_any p t a1 l1 c1 A ao lo co O _ (HA.out.below below1) (HO.out.below below1) hc).mono ?_
    rintro e w1 ⟨a, len, cap, rfl, o1, b1⟩
    rw [S1.out] at o1 ⊢
    have B1 := Lib.hid (below_after below1 (Nat.le_refl _) b1)
    clear b1 o1
    go_wp2_with fail
    go_ret2
    exact ⟨rfl, B1.out⟩
  | true =>
    obtain ⟨h1, h2, h3⟩ := okOwn_true s1
    obtain ⟨P, T, rfl, rfl, hv⟩ := VOk.of HA.out hc h1
    have S1 := Lib.hid (tableV_yes s1)
    rw [freeV_yes s1]
    have hp := tableL_pos (A := A) (T := T) (O := O) hv.p1
    generalize tableL A T O P = zs at *
    have hz : zs ≠ [] := by rintro rfl; simp at hp
    have HM := Lib.hid (maxTo_all zs 0 hz)
    rw [← HM.out]
    clear s1 h1 h2 h3 hv hz
    go_enter Try.func36, Try.ntmps36
    go_wp2_with fail
    refine (implTable_any P T a1 l1 c1 A ao lo co O _ (HA.out.below below1) (HO.out.below below1) hc).mono ?_
    rintro e w1 ⟨a, len, cap, rfl, o1, b1⟩
    rw [S1.out] at o1 ⊢
    have hl : 1 ≤ len := by have := o1.1; simp at this; omega
    have O1 := Lib.hid o1
    have B1 := Lib.hid (below_after below1 (Nat.le_refl _) b1)
    clear b1 o1 hp
    go_wp2_with (go_at_call 72; refine (max_any a len cap zs _ O1.out.iat hl).mono ?_; rintro e w' ⟨rfl, rfl⟩)
    go_ret2
    exact ⟨rfl, B1.out⟩

set_option maxRecDepth 20000 in
theorem specFree_any (p t : Int) (a1 : Option Addr) (l1 c1 : Nat) (A : List Int) (ao : Option Addr) (lo co : Nat) (O : List Int) (w : World) (hA : IAt w a1 l1 A) (hO : IAt w ao lo O) (hc : l1 ≤ c1) :
    Calls Try.prog 35 #[valuesV p t a1 l1 c1, .slice ao lo co] w (TwoOut w (freeV p t A O)) := by
  have HA := Lib.hid hA
  have HO := Lib.hid hO
  clear hA hO
  cases s1 : okOwn p t A O with
  | false =>
    have S1 := Lib.hid (tableV_no s1)
    rw [freeV_no s1]
    clear s1
    go_enter Try.func35, Try.ntmps35
    go_wp2_with fail
    refine (specTable_any p t a1 l1 c1 A ao lo co O _ (HA.out.below below1) (HO.out.below below1) hc).mono ?_
    rintro e w1 ⟨a, len, cap, rfl, o1, b1⟩
    rw [S1.out] at o1 ⊢
    have B1 := Lib.hid (below_after below1 (Nat.le_refl _) b1)
    clear b1 o1
    go_wp2_with fail
    go_ret2
    exact ⟨rfl, B1.out⟩
  | true =>
    obtain ⟨h1, h2, h3⟩ := okOwn_true s1
    obtain ⟨P, T, rfl, rfl, hv⟩ := VOk.of HA.out hc h1
    have S1 := Lib.hid (tableV_yes s1)
    rw [freeV_yes s1]
    generalize tableL A T O P = zs at *
    clear s1 h1 h2 h3 hv
    go_enter Try.func35, Try.ntmps35
    go_wp2_with fail
    refine (specTable_any P T a1 l1 c1 A ao lo co O _ (HA.out.below below1) (HO.out.below below1) hc).mono ?_
    rintro e w1 ⟨a, len, cap, rfl, o1, b1⟩
    rw [S1.out] at o1 ⊢
    have hz := Lib.hid o1.1
    have hi := o1.iat
    have hm := hi.2.1
    unfold maxLen at hm
    have HC := Lib.hid hi.2.2.2
    have B1 := Lib.hid (below_after below1 (Nat.le_refl _) b1)
    clear b1 o1 hi
    go_wp2_with fail
    go_loop [8] (fun i => ∃ k : Nat, k ≤ len ∧ i = .int .i64 k ∧ Hid (∀ j, j < k → zs.getD j 0 ≤ 0)) (fun i => len - (intOf i).toNat)
    case atStart => exact ⟨0, Nat.zero_le _, rfl, Lib.hid (fun j hj => absurd hj (by omega))⟩
    case round =>
      obtain ⟨k, hk, rfl, H⟩ := hrel
      by_cases hlt : k < len
      · obtain ⟨b, off, rfl, -, hcc⟩ : ∃ b off, a = some ⟨b, off, none⟩ ∧ b < w1.heap.size ∧ ∀ i, i < len → w1.cell? ⟨b, off + i, none⟩ = some (.int .i64 (zs.getD i 0)) := by
          rcases HC.out with e | g
          · omega
          · exact g
        have hsrc := hcc k hlt
        clear hcc
        by_cases hb : zs.getD k 0 ≤ 0
        · have H' : Hid (∀ j, j < k + 1 → zs.getD j 0 ≤ 0) := Lib.hid fun j hj => by
            by_cases e : j = k
            · rw [e]; exact hb
            · exact H.out j (by omega)
          generalize zs.getD k 0 = v at *
          go_wp2_with fail
          go_round
          case rel => exact ⟨k + 1, by omega, by go_num, H'⟩
          case measure => simp [intOf]; omega
        · have E : Hid ((zs.all fun z => decide (z ≤ 0)) = false) := Lib.hid (by
            rw [List.all_eq_false]
            refine ⟨zs[k]'(by rw [hz.out]; exact hlt), List.getElem_mem _, ?_⟩
            rw [List.getD_eq_getElem?_getD, List.getElem?_eq_getElem (by rw [hz.out]; exact hlt)] at hb
            simpa using hb)
          have hb' : 0 < zs.getD k 0 := by omega
          clear hb
          generalize zs.getD k 0 = v at *
          go_wp2_with fail
          go_ret2
          exact ⟨by rw [E.out]; rfl, B1.out⟩
      · obtain rfl : k = len := by omega
        have E : Hid ((zs.all fun z => decide (z ≤ 0)) = true) := Lib.hid (by
          rw [List.all_eq_true]
          intro z hzm
          obtain ⟨i, hi, rfl⟩ := List.getElem_of_mem hzm
          have := H.out i (by rw [← hz.out]; exact hi)
          rw [List.getD_eq_getElem?_getD, List.getElem?_eq_getElem hi] at this
          simpa using this)
        go_wp2_with fail
        go_ret2
        exact ⟨by rw [E.out]; rfl, B1.out⟩
end Go.Proofs.Ytblckofdpgenkaa
