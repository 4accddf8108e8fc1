/-
  What parts are worth to their owners: the reference's sums and lists, the program's lists.
-/
import Derived.Test.YtkgjfockechniaaTPartW
import Derived.Test.YtkgjfockechniaaTIs
namespace Go.Proofs.Ytkgjfockechniaa
open Go.RowKit Go.ChangeShapes Go.WideShapes
set_option linter.unusedVariables false

theorem row_below {w w' : World} {lo : Nat} {e : TypeId} {size : Nat} {v : Value} {n : Nat} {xs : List Value} (h : w.ownsRow lo e size v n xs) (hb : Below w.heap.size w w') : w'.ownsRow lo e size v n xs :=
  ownsRow_block h fun k hk => hb.block k (h.lt k hk).2
/-- a list in a row of the call's own -/
def RowOut (w : World) (zs : List Int) (e : Ending) (w' : World) : Prop :=
  ∃ a len cap, e = .returned (.slice a len cap) ∧ Own w' w.heap.size w'.heap.size a len cap zs ∧ Below w.heap.size w w'

def okOwn (p t : Int) (A O : List Int) : Bool := okV p t A && (decide ((O.length : Int) = t) && okAll 0 (p - 1) O)
theorem okOwn_in {p t : Int} {A O : List Int} (h : okV p t A = true) : okOwn p t A O = (decide ((O.length : Int) = t) && okAll 0 (p - 1) O) := by unfold okOwn; rw [h]; rfl
theorem okOwn_out {p t : Int} {A O : List Int} (h : okV p t A = false) : okOwn p t A O = false := by unfold okOwn; rw [h]; rfl

theorem areIndices_any (a : Option Addr) (len cap : Nat) (zs : List Int) (n : Int) (w : World) (h : IAt w a len zs) (h0 : 0 ≤ n) (h1 : n ≤ 1000000) :
    Calls Try.prog 85 #[.slice a len cap, .int .i64 n] w fun e w' => e = .returned (.bool (okAll 0 (n - 1) zs)) ∧ w = w' := by
  have H := Lib.hid h
  clear h
  go_enter Try.func85, Try.ntmps85
  go_wp2_with (go_at_call 112; refine (areBetween_any _ _ _ zs _ _ _ H.out).mono ?_; rintro e w' ⟨rfl, rfl⟩)
  go_ret
  exact ⟨rfl, rfl⟩

set_option maxRecDepth 20000 in
theorem areOwned_any (p t : Int) (a1 : Option Addr) (l1 c1 : Nat) (A : List Int) (ao : Option Addr) (lo co : Nat) (O : List Int) (w : World) (hA : IAt w a1 l1 A) (hO : IAt w ao lo O) :
    Calls Try.prog 66 #[valuesV p t a1 l1 c1, .slice ao lo co] w (BoolOut w (okOwn p t A O)) := by
  have HA := Lib.hid (hA.below (below1 (o := .cells #[.int .i64 p, .int .i64 t, .slice a1 l1 c1] 27)))
  have HO := Lib.hid (hO.below (below1 (o := .cells #[.int .i64 p, .int .i64 t, .slice a1 l1 c1] 27)))
  have hlo := hO.1
  have hlm := hO.2.1
  unfold maxLen at hlm
  clear hA hO
  cases s1 : okV p t A with
  | false =>
    have S1 := Lib.hid s1
    have E := Lib.hid (okOwn_out (O := O) s1)
    clear s1
    go_enter Try.func66, Try.ntmps66
    go_wp2_with fail
    refine (implValidV_any p t a1 l1 c1 A _ HA.out).mono ?_
    rintro e w1 ⟨rfl, b1⟩
    rw [S1.out]
    have B1 := Lib.hid (below_after below1 (Nat.le_refl _) b1)
    clear b1
    go_wp2_with fail
    go_ret
    exact ⟨by rw [E.out]; rfl, B1.out⟩
  | true =>
    obtain ⟨P, T, rfl, rfl, q1, q2, q3, q4, -, -⟩ := okRows_true s1 (by omega)
    have E := Lib.hid (okOwn_in (O := O) s1)
    have S1 := Lib.hid s1
    clear s1
    by_cases hl : (lo : Int) = T
    · have hd : decide ((O.length : Int) = (T : Nat)) = true := by rw [hlo]; exact decide_eq_true hl
      rw [hd, Bool.true_and] at E
      obtain rfl : lo = T := by omega
      clear hd hlo hl
      go_enter Try.func66, Try.ntmps66
      go_wp2_with fail
      refine (implValidV_any P lo a1 l1 c1 A _ HA.out).mono ?_
      rintro e w1 ⟨rfl, b1⟩
      rw [S1.out]
      obtain ⟨⟨x0, x1, x2⟩, _⟩ := (Box3.below (heap1 (w := w) (o := .cells #[.int .i64 (P : Nat), .int .i64 (lo : Nat), .slice a1 l1 c1] 27)) b1).all
      have HO1 := Lib.hid (HO.out.below b1)
      have B1 := Lib.hid (below_after below1 (Nat.le_refl _) b1)
      clear b1
      go_wp2_with (go_at_call 85; refine (areIndices_any _ _ _ O _ _ HO1.out (by omega) (by omega)).mono ?_; rintro e w' ⟨rfl, rfl⟩)
      go_ret
      exact ⟨by rw [E.out]; rfl, B1.out⟩
    · have hd : decide ((O.length : Int) = (T : Nat)) = false := by rw [hlo]; exact decide_eq_false hl
      rw [hd, Bool.false_and] at E
      have hne : ¬ lo = T := by omega
      clear hd hlo hl
      go_enter Try.func66, Try.ntmps66
      go_wp2_with fail
      refine (implValidV_any P T a1 l1 c1 A _ HA.out).mono ?_
      rintro e w1 ⟨rfl, b1⟩
      rw [S1.out]
      obtain ⟨⟨x0, x1, x2⟩, _⟩ := (Box3.below (heap1 (w := w) (o := .cells #[.int .i64 (P : Nat), .int .i64 (T : Nat), .slice a1 l1 c1] 27)) b1).all
      have B1 := Lib.hid (below_after below1 (Nat.le_refl _) b1)
      clear b1
      go_wp2_with fail
      go_ret
      exact ⟨by rw [E.out]; rfl, B1.out⟩

/-- the reference: owners of all things -/
theorem owners04_any (m P T : Nat) (a1 : Option Addr) (l1 c1 : Nat) (ao : Option Addr) (lo co : Nat) (O : List Int) (w : World) (hx : Box3 w m 27 (.int .i64 (P : Nat)) (.int .i64 (T : Nat)) (.slice a1 l1 c1)) (hP : P ≤ 6) (hT : T ≤ 8) (hO : IAt w ao lo O) :
    Calls Try.prog 64 #[.pointer (some ⟨m, 0, none⟩), .slice ao lo co] w fun e w' => e = .returned (.bool (decide ((O.length : Int) = (T : Nat)) && okAll 0 ((P : Int) - 1) O)) ∧ Same w w' := by
  obtain ⟨⟨p0, p1, p2⟩, _⟩ := hx.all
  have hlm := hO.2.1
  unfold maxLen at hlm
  have HL := Lib.hid hO.1
  have HO := Lib.hid hO.2.2.2
  clear hO hx p2
  go_enter Try.func64, Try.ntmps64
  go_wp2
  go_loopw [5] (fun q wr => ∃ (k n : Nat), k ≤ lo ∧ q = .int .i64 k ∧ Hid (∀ j, j < k → inB 0 ((P : Int) - 1) (O.getD j 0) = true) ∧ wr = w.drewN n) (fun q _ => lo - (intOf q).toNat)
  case atStart => exact ⟨0, 0, Nat.zero_le _, rfl, Lib.hid (fun j hj => absurd hj (by omega)), rfl⟩
  case round =>
    obtain ⟨k, n, hk, rfl, H, hw⟩ := hrel
    subst hw
    by_cases hlt : k < lo
    · obtain ⟨b, off, rfl, -, hc⟩ : ∃ b off, ao = some ⟨b, off, none⟩ ∧ b < w.heap.size ∧ ∀ i, i < lo → w.cell? ⟨b, off + i, none⟩ = some (.int .i64 (O.getD i 0)) := by
        rcases HO.out with e | g
        · omega
        · exact g
      have hsrc := hc k hlt
      clear hc
      cases hb : inB 0 ((P : Int) - 1) (O.getD k 0) with
      | false =>
        have E := Lib.hid (okAll_bad (by rw [HL.out]; omega) hb)
        have HB := Lib.hid hb
        clear hb
        generalize O.getD k 0 = v at *
        have hw1 : IntKind.i64.wrap ((P : Int) - 1) = (P : Int) - 1 := IntWalk.i64_in _ (by omega)
        have HW1 := Lib.hid hw1
        clear hw1
        go_wp2_with fail
        go_quiet ((go_at_call 83; refine (inR_any _ _ _ _).mono ?_; rintro e w2 ⟨rfl, h2⟩; rw [HW1.out, HB.out]; exact ⟨rfl, _, h2.symm⟩))
        go_wp2
        go_ret
        exact ⟨by rw [E.out, Bool.and_false]; rfl, _, World.drewN_drewN _ _ _⟩
      | true =>
        have H' : Hid (∀ j, j < k + 1 → inB 0 ((P : Int) - 1) (O.getD j 0) = true) := Lib.hid fun j hj => by
          by_cases e : j = k
          · rw [e]; exact hb
          · exact H.out j (by omega)
        have HB := Lib.hid hb
        clear hb
        generalize O.getD k 0 = v at *
        have hw1 : IntKind.i64.wrap ((P : Int) - 1) = (P : Int) - 1 := IntWalk.i64_in _ (by omega)
        have HW1 := Lib.hid hw1
        clear hw1
        go_wp2_with fail
        go_quiet ((go_at_call 83; refine (inR_any _ _ _ _).mono ?_; rintro e w2 ⟨rfl, h2⟩; rw [HW1.out, HB.out]; exact ⟨rfl, _, h2.symm⟩))
        go_wp2
        go_roundw
        case rel => exact ⟨k + 1, n + nq, by omega, by go_num, H', by first | rfl | exact World.drewN_drewN _ _ _⟩
        case measure => simp [intOf]; omega
    · obtain rfl : k = lo := by omega
      have E := Lib.hid (okAll_all (lo := 0) (hi := (P : Int) - 1) (zs := O) (by rw [HL.out]; exact H.out))
      go_wp2
      go_ret
      exact ⟨by rw [E.out, Bool.and_true, HL.out]; rfl, n, rfl⟩

theorem specPart_any (m P T i : Nat) (a1 : Option Addr) (l1 c1 : Nat) (A : List Int) (j : Int) (ao : Option Addr) (lo co : Nat) (O : List Int) (w : World) (hx : Box3 w m 27 (.int .i64 (P : Nat)) (.int .i64 (T : Nat)) (.slice a1 l1 c1)) (hv : VOk w P T a1 l1 c1 A) (hi : i < P) (hO : IAt w ao lo O) (hlt : lo ≤ T) :
    Calls Try.prog 81 #[.pointer (some ⟨m, 0, none⟩), .slice ao lo co, .int .i64 i, .int .i64 j] w fun e w' => e = .returned (.int .i64 (partW A T i j O)) ∧ Same w w' := by
  obtain ⟨b, off, rfl, hb, hc⟩ := hv.at_
  obtain ⟨hl, hl1, hl48⟩ := hv.l48
  obtain ⟨⟨p0, p1, p2⟩, _⟩ := hx.all
  have ht8 := hv.t8
  have hi6 : i < 6 := by have := hv.p6; omega
  obtain ⟨f, g, e1, -, e3, -, -⟩ := row_prod (T := T) hi
  have HV := Lib.hid hv
  have HL := Lib.hid hO.1
  have HO := Lib.hid hO.2.2.2
  have hf1 : ∀ k, k < lo → f + k < l1 := fun k hk => by rw [← e3, hl]; exact row_lt hi (by omega)
  have hf2 : f ≤ 48 := by
    have := row_lt (T := T) (k := 0) hi (by have := hv.t1; omega)
    omega
  have HF := Lib.hid hf1
  have HC := Lib.hid hc
  have HE := Lib.hid e3
  clear hO hx hv hc hf1 e3 hl
  go_enter Try.func81, Try.ntmps81
  go_wp2
  go_loopw [9, 10] (fun s q wr => ∃ (k n : Nat), k ≤ lo ∧ q = .int .i64 k ∧ s = .int .i64 (partN (wAt A T i) j O k) ∧ wr = w.drewN n) (fun _ q _ => lo - (intOf q).toNat)
  case atStart => exact ⟨0, 0, Nat.zero_le _, rfl, rfl, rfl⟩
  case round =>
    obtain ⟨k, n, hk, rfl, rfl, hw⟩ := hrel
    subst hw
    have hsb := partN_in (wAt A T i) j O 1000 k (fun q hq => wAt_in HV.out.ok HV.out.len hi (by omega))
    have hsn : partN (wAt A T i) j O (k + 1) = partN (wAt A T i) j O k + if O.getD k 0 = j then wAt A T i k else 0 := rfl
    by_cases hlt2 : k < lo
    · obtain ⟨bo, oo, rfl, -, hco⟩ : ∃ b off, ao = some ⟨b, off, none⟩ ∧ b < w.heap.size ∧ ∀ i, i < lo → w.cell? ⟨b, off + i, none⟩ = some (.int .i64 (O.getD i 0)) := by
        rcases HO.out with e | g
        · omega
        · exact g
      have hsrc := hco k hlt2
      clear hco
      by_cases e : O.getD k 0 = j
      · have hkl := HF.out k hlt2
        have hcw : w.cell? ⟨b, off + (f + k), none⟩ = some (.int .i64 (wAt A T i k)) := by
          have := HC.out (f + k) hkl
          unfold wAt
          rw [HE.out]
          exact this
        have hvb := wAt_in HV.out.ok HV.out.len hi (show k < T by omega)
        rw [if_pos e] at hsn
        rw [e] at hsrc
        have hjj : (j == j) = true := beq_self_eq_true j
        have HSN := Lib.hid hsn
        clear e hsn
        generalize wAt A T i k = v at *
        generalize partN (wAt A T i) j O k = s at *
        go_wp2_with fail
        go_quiet (fail)
        go_wp2
        go_roundw
        case rel => exact ⟨k + 1, n + nq, by omega, by go_num, by rw [HSN.out], by first | rfl | exact World.drewN_drewN _ _ _⟩
        case measure => simp [intOf]; omega
      · have hne : (O.getD k 0 == j) = false := by simpa using e
        rw [if_neg e, Int.add_zero] at hsn
        have HSN := Lib.hid hsn
        clear e hsn
        generalize O.getD k 0 = u at *
        go_wp2
        go_roundw
        case rel => exact ⟨k + 1, n, by omega, by go_num, by rw [HSN.out], rfl⟩
        case measure => simp [intOf]; omega
    · obtain rfl : k = lo := by omega
      clear hsn
      have HP : Hid (partN (wAt A T i) j O k = partW A T i j O) := Lib.hid (by unfold partW; rw [HL.out])
      go_wp2
      go_ret
      exact ⟨by rw [HP.out]; rfl, n, rfl⟩
end Go.Proofs.Ytkgjfockechniaa
