/-
  Is a player valid? The program's answer and the reference's.
-/
import Derived.Test.YtnbmfnhbmbalmaaExt
import Derived.Test.YtnbmfnhbmbalmaaSPlayer
import Derived.Test.YtnbmfnhbmbalmaaBetw
import Derived.Test.YtnbmfnhbmbalmaaOut
namespace Go.Proofs.Ytnbmfnhbmbalmaa
open Go.RowKit Go.ChangeShapes Go.WideShapes
set_option linter.unusedVariables false

def okPl (M N : List Int) (own other : Int) : Bool :=
  inB 1 6 own && (inB 1 6 other && (inB 1 8 M.length && (decide ((N.length : Int) = M.length * other) && (okAll 0 (own - 1) M && okAll 0 (M.length - 1) N))))
theorem okPl_1 {M N : List Int} {own other : Int} (h : inB 1 6 own = false) : okPl M N own other = false := by unfold okPl; rw [h]; rfl
theorem okPl_2 {M N : List Int} {own other : Int} (h : inB 1 6 other = false) : okPl M N own other = false := by
  unfold okPl
  rw [h]
  simp
theorem okPl_3 {M N : List Int} {own other : Int} {m : Nat} (e : M.length = m) (h : inB 1 8 (m : Int) = false) : okPl M N own other = false := by
  unfold okPl
  rw [e, h]
  simp
theorem okPl_4 {M N : List Int} {own other : Int} {m n : Nat} (e : M.length = m) (e' : N.length = n) (h : ¬ (n : Int) = m * other) : okPl M N own other = false := by
  unfold okPl
  rw [e, e', decide_eq_false h]
  simp
theorem okPl_in {M N : List Int} {own other : Int} {m n : Nat} (h1 : inB 1 6 own = true) (h2 : inB 1 6 other = true) (e : M.length = m) (h3 : inB 1 8 (m : Int) = true) (e' : N.length = n) (h : (n : Int) = m * other) :
    okPl M N own other = (okAll 0 (own - 1) M && okAll 0 ((m : Int) - 1) N) := by
  unfold okPl
  rw [e, e', h1, h2, h3, decide_eq_true h]
  simp

theorem isSide_any (n : Int) (w : World) :
    Calls Try.prog 57 #[.int .i64 n] w fun e w' => e = .returned (.bool (inB 1 6 n)) ∧ w = w' := by
  go_enter Try.func57, Try.ntmps57
  go_wp2_with (go_at_call 81; refine (isBetween_any _ _ _ _).mono ?_; rintro e w' ⟨rfl, rfl⟩)
  go_ret
  exact ⟨rfl, rfl⟩
theorem areIndices_any (a : Option Addr) (len cap : Nat) (zs : List Int) (n : Int) (h1 : 1 ≤ n) (h2 : n ≤ 64) (w : World) (h : IAt w a len zs) :
    Calls Try.prog 58 #[.slice a len cap, .int .i64 n] w fun e w' => e = .returned (.bool (okAll 0 (n - 1) zs)) ∧ w = w' := by
  have H := Lib.hid h
  clear h
  go_enter Try.func58, Try.ntmps58
  go_wp2_with (go_at_call 82; refine (areBetween_any _ _ _ zs _ _ _ H.out).mono ?_; rintro e w' ⟨rfl, rfl⟩)
  go_ret
  exact ⟨rfl, rfl⟩

theorem inB8 {m : Nat} : inB 1 8 (m : Int) = true ↔ 1 ≤ m ∧ m ≤ 8 := by rw [inB_true]; omega

set_option maxRecDepth 20000 in
theorem implPl_any (a1 : Option Addr) (l1 c1 : Nat) (a2 : Option Addr) (l2 c2 : Nat) (M N : List Int) (own other : Int) (w : World) (hM : IAt w a1 l1 M) (hN : IAt w a2 l2 N) :
    Calls Try.prog 24 #[playerV a1 l1 c1 a2 l2 c2, .int .i64 own, .int .i64 other] w (BoolOut w (okPl M N own other)) := by
  have hb1 : Below w.heap.size w (w.alloc (.cells #[.slice a1 l1 c1, .slice a2 l2 c2] 44)) := below1
  have HM := Lib.hid (hM.below hb1)
  have HN := Lib.hid (hN.below hb1)
  have hm1 := hM.2.1
  have hm2 := hN.2.1
  have HE1 := Lib.hid hM.1
  have HE2 := Lib.hid hN.1
  clear hM hN
  have HB1 := Lib.hid hb1
  clear hb1
  cases s1 : inB 1 6 own with
  | false =>
    have E := Lib.hid (okPl_1 (M := M) (N := N) (other := other) s1)
    have S1 := Lib.hid s1
    clear s1
    go_enter Try.func24, Try.ntmps24
    go_wp2_with (go_at_call 57; refine (isSide_any _ _).mono ?_; rintro e w' ⟨rfl, rfl⟩; rw [S1.out])
    go_ret
    exact ⟨by rw [E.out]; rfl, HB1.out⟩
  | true =>
    cases s2 : inB 1 6 other with
    | false =>
      have E := Lib.hid (okPl_2 (M := M) (N := N) (own := own) s2)
      have S1 := Lib.hid s1
      have S2 := Lib.hid s2
      clear s1 s2
      go_enter Try.func24, Try.ntmps24
      go_wp2_with (go_at_call 57; refine (isSide_any _ _).mono ?_; rintro e w' ⟨rfl, rfl⟩; first | rw [S1.out] | rw [S2.out])
      go_ret
      exact ⟨by rw [E.out]; rfl, HB1.out⟩
    | true =>
      obtain ⟨o1, o2⟩ := inB_true.1 s1
      obtain ⟨o3, o4⟩ := inB_true.1 s2
      have S1 := Lib.hid s1
      have S2 := Lib.hid s2
      clear s1 s2
      cases s3 : inB 1 8 (l1 : Int) with
      | false =>
        have E := Lib.hid (okPl_3 (N := N) (own := own) (other := other) HE1.out s3)
        rw [inB_false] at s3
        by_cases h0 : l1 < 1
        · clear s3
          go_enter Try.func24, Try.ntmps24
          go_wp2_with (go_at_call 57; refine (isSide_any _ _).mono ?_; rintro e w' ⟨rfl, rfl⟩; first | rw [S1.out] | rw [S2.out])
          go_ret
          exact ⟨by rw [E.out]; rfl, HB1.out⟩
        · have h8 : 8 < l1 := by omega
          clear s3
          go_enter Try.func24, Try.ntmps24
          go_wp2_with (go_at_call 57; refine (isSide_any _ _).mono ?_; rintro e w' ⟨rfl, rfl⟩; first | rw [S1.out] | rw [S2.out])
          go_ret
          exact ⟨by rw [E.out]; rfl, HB1.out⟩
      | true =>
        obtain ⟨g1, g8⟩ := inB8.1 s3
        have hp1 : 0 ≤ (l1 : Int) * other := Int.mul_nonneg (by omega) (by omega)
        have hp2 : (l1 : Int) * other ≤ 48 := by
          have := Int.mul_le_mul (show (l1 : Int) ≤ 8 by omega) o4 (by omega) (by omega); omega
        by_cases hl : (l2 : Int) = (l1 : Int) * other
        · have HE := Lib.hid (okPl_in S1.out S2.out HE1.out s3 HE2.out hl)
          have hq : ((l2 : Int) == (l1 : Int) * other) = true := by rw [beq_iff_eq]; exact hl
          clear s3 hl
          cases ga : okAll 0 (own - 1) M with
          | false =>
            have GA := Lib.hid ga
            rw [ga] at HE
            clear ga
            go_enter Try.func24, Try.ntmps24
            go_wp2_with (first
              | (go_at_call 57; refine (isSide_any _ _).mono ?_; rintro e w' ⟨rfl, rfl⟩; first | rw [S1.out] | rw [S2.out])
              | (go_at_call_of 58 (Value.slice a1 l1 c1); refine (areIndices_any _ _ _ M _ (by omega) (by omega) _ HM.out).mono ?_; rintro e w' ⟨rfl, rfl⟩; rw [GA.out]))
            go_ret
            exact ⟨by rw [HE.out]; rfl, HB1.out⟩
          | true =>
            have GA := Lib.hid ga
            rw [ga, Bool.true_and] at HE
            clear ga
            go_enter Try.func24, Try.ntmps24
            go_wp2_with (first
              | (go_at_call 57; refine (isSide_any _ _).mono ?_; rintro e w' ⟨rfl, rfl⟩; first | rw [S1.out] | rw [S2.out])
              | (go_at_call_of 58 (Value.int .i64 own); refine (areIndices_any _ _ _ M _ (by omega) (by omega) _ HM.out).mono ?_; rintro e w' ⟨rfl, rfl⟩; rw [GA.out])
              | (go_at_call_of 58 (Value.slice a2 l2 c2); refine (areIndices_any _ _ _ N _ (by omega) (by omega) _ HN.out).mono ?_; rintro e w' ⟨rfl, rfl⟩))
            go_ret
            exact ⟨by rw [HE.out]; rfl, HB1.out⟩
        · have E := Lib.hid (okPl_4 (own := own) HE1.out HE2.out hl)
          have hq : ((l2 : Int) == (l1 : Int) * other) = false := by rw [beq_eq_false_iff_ne]; exact hl
          clear s3 hl
          go_enter Try.func24, Try.ntmps24
          go_wp2_with (go_at_call 57; refine (isSide_any _ _).mono ?_; rintro e w' ⟨rfl, rfl⟩; first | rw [S1.out] | rw [S2.out])
          go_ret
          exact ⟨by rw [E.out]; rfl, HB1.out⟩
end Go.Proofs.Ytnbmfnhbmbalmaa
