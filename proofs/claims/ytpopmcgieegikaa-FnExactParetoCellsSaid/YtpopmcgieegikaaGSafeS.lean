/-
  The safest choice: the reference's.
-/
import Derived.Test.YtpopmcgieegikaaGSafeA
namespace Go.Proofs.Ytpopmcgieegikaa
open Go.RowKit Go.ChangeShapes Go.WideShapes
set_option linter.unusedVariables false

theorem min_any (a b : Int) (w : World) :
    Calls Try.prog 117 #[.int .i64 a, .int .i64 b] w fun e w' => e = .returned (.int .i64 (min a b)) ∧ w = w' := by
  by_cases h : a < b
  · have e : min a b = a := by omega
    rw [e]
    clear e
    go_enter Try.func117, Try.ntmps117
    go_wp2
    go_ret
    exact ⟨rfl, rfl⟩
  · have e : min a b = b := by omega
    have hd : decide (a < b) = false := decide_eq_false h
    rw [e]
    clear e
    go_enter Try.func117, Try.ntmps117
    go_wp2
    go_ret
    exact ⟨rfl, rfl⟩

def specTop (g : Nat → Int) (k : Nat) : Nat × Int := if k = 0 then (0, 0) else topN g k
theorem lowN_ge {f : Nat → Int} {n : Nat} (h : ∀ q, q < n → -1000 ≤ f q) : -1000 ≤ lowN f n := by
  induction n with
  | zero => simp [lowN]
  | succ n ih =>
    have h1 := ih fun q hq => h q (by omega)
    have h2 := h n (by omega)
    simp only [lowN]
    omega
theorem specTop_first {g : Nat → Int} (h : -1001 < g 0) : specTop g 1 = (0, g 0) := by
  simp [specTop, topN, h]
theorem specTop_more {g : Nat → Int} {k : Nat} (hk : k ≠ 0) (h : (specTop g k).2 < g k) : specTop g (k + 1) = (k, g k) := by
  simp only [specTop, if_neg hk] at *
  simp [topN, h]
theorem specTop_less {g : Nat → Int} {k : Nat} (hk : k ≠ 0) (h : ¬ (specTop g k).2 < g k) : specTop g (k + 1) = specTop g k := by
  simp only [specTop, if_neg hk] at *
  simp [topN, h]
theorem specTop_top {g : Nat → Int} {k : Nat} (hk : 1 ≤ k) : specTop g k = topN g k := by
  unfold specTop; rw [if_neg (by omega)]

/-- the gains of a row -/
def rowF (A : List Int) (C i j : Nat) : Int := A.getD (i * C + j) 0

set_option maxHeartbeats 1000000 in
set_option maxRecDepth 20000 in
theorem specSafe_at (n R C b off c1 : Nat) (s2 : Value) (A : List Int) (w : World) (hR : R ≤ 6) (hC : C ≤ 6) (r1 : 1 ≤ R) (q1 : 1 ≤ C) (hx : Box4 w n 27 (.int .i64 R) (.int .i64 C) (.slice (some ⟨b, off, none⟩) (R * C) c1) s2)
    (hb : ∀ i, i < R * C → -1000 ≤ A.getD i 0 ∧ A.getD i 0 ≤ 1000) (hc : ∀ i, i < R * C → w.cell? ⟨b, off + i, none⟩ = some (.int .i64 (A.getD i 0))) :
    Calls Try.prog 96 #[.pointer (some ⟨n, 0, none⟩)] w fun e w' => e = .returned (.tuple #[.int .i64 ((topN (fun x => lowN (rowF A C x) C) R).1 : Nat), .int .i64 (topN (fun x => lowN (rowF A C x) C) R).2]) ∧ Same w w' := by
  have HX := Lib.hid hx
  have HC := Lib.hid hc
  have HB := Lib.hid hb
  have hRC : R * C ≤ 36 := Nat.mul_le_mul hR hC
  have HG0 : Hid (-1001 < lowN (rowF A C 0) C) := Lib.hid (by
    have := lowN_ge (f := rowF A C 0) (n := C) fun q hq => (hb (0 * C + q) (by have := place_lt (i := 0) r1 hq; omega)).1
    omega)
  obtain ⟨len, hlen⟩ : ∃ len, R * C = len := ⟨_, rfl⟩
  rw [hlen] at HX HC HB hRC
  have HL := Lib.hid hlen
  clear hx hc hb hlen
  obtain ⟨⟨p0, p1, p2, p3⟩, _⟩ := HX.out.all
  go_enter Try.func96, Try.ntmps96
  go_wp2_with fail
  go_loopw [4, 5, 6] (fun ch ms i wr => ∃ (k m : Nat), k ≤ R ∧ i = .int .i64 k ∧ ch = .int .i64 ((specTop (fun x => lowN (rowF A C x) C) k).1 : Nat) ∧ ms = .int .i64 (specTop (fun x => lowN (rowF A C x) C) k).2 ∧ wr = w.drewN m)
    (fun _ _ i _ => R - (intOf i).toNat)
  case atStart => exact ⟨0, 0, Nat.zero_le _, rfl, rfl, rfl, rfl⟩
  case round =>
    obtain ⟨k, m, hk, rfl, rfl, rfl, hw⟩ := hrel
    subst hw
    by_cases hlt : k < R
    · obtain ⟨ct, hct⟩ : ∃ ct : Nat, (specTop (fun x => lowN (rowF A C x) C) k).1 = ct := ⟨_, rfl⟩
      obtain ⟨mt, hmt⟩ : ∃ mt, (specTop (fun x => lowN (rowF A C x) C) k).2 = mt := ⟨_, rfl⟩
      rw [hct, hmt]
      have HCT := Lib.hid hct
      have HMT := Lib.hid hmt
      clear hct hmt
      have hk0 : k * C + 0 < len := by rw [← HL.out]; exact place_lt hlt q1
      have hc0 := HC.out _ hk0
      have hb0 := HB.out _ hk0
      obtain ⟨pk, hpk⟩ : ∃ p, k * C = p := ⟨_, rfl⟩
      have hpk' : (k : Int) * (C : Int) = (pk : Int) := by rw [← hpk]; push_cast; rfl
      rw [hpk, Nat.add_zero] at hk0 hc0 hb0
      have HF : Hid (∀ q, rowF A C k q = A.getD (pk + q) 0) := Lib.hid (fun q => by unfold rowF; rw [hpk])
      have HPL : Hid (∀ q, q < C → pk + q < len) := Lib.hid (fun q hq => by rw [← hpk, ← HL.out]; exact place_lt hlt hq)
      have HL1 : Hid (lowN (rowF A C k) 1 = A.getD pk 0) := Lib.hid (by
        simp only [lowN]
        rw [HF.out 0, Nat.add_zero]
        omega)
      clear hpk
      generalize A.getD pk 0 = v0 at *
      go_wp2_with fail
      go_quiet (fail)
      go_wp2_with fail
      go_loopw [7, 8] (fun ls j wj => ∃ (q mm : Nat), 1 ≤ q ∧ q ≤ C ∧ j = .int .i64 q ∧ ls = .int .i64 (lowN (rowF A C k) q) ∧ wj = w.drewN mm)
        (fun _ j _ => C - (intOf j).toNat)
      case atStart => exact ⟨1, m + nq, Nat.le_refl _, q1, rfl, by rw [HL1.out], World.drewN_drewN _ _ _⟩
      case round =>
        obtain ⟨q, mm, hq1, hq, rfl, rfl, hw⟩ := hrel
        subst hw
        by_cases hql : q < C
        · have hql2 := HPL.out q hql
          have hcq := HC.out _ hql2
          have HS : Hid (lowN (rowF A C k) (q + 1) = min (lowN (rowF A C k) q) (A.getD (pk + q) 0)) := Lib.hid (by rw [← HF.out q]; rfl)
          generalize A.getD (pk + q) 0 = vq at *
          generalize lowN (rowF A C k) q = lq at *
          go_wp2_with fail
          go_quiet (first | (go_at_call 117; refine (min_any _ _ _).mono ?_; rintro e w2 ⟨rfl, h2⟩; exact ⟨rfl, _, h2.symm⟩))
          go_wp2_with fail
          go_roundw
          case rel => exact ⟨q + 1, mm + nq, by omega, by omega, by go_num, by rw [HS.out], by first | rfl | exact World.drewN_drewN _ _ _⟩
          case measure => simp [intOf]; omega
        · obtain rfl : q = C := by omega
          obtain ⟨lt, hlt2⟩ : ∃ lt, lowN (rowF A q k) q = lt := ⟨_, rfl⟩
          rw [hlt2]
          have HLT := Lib.hid hlt2
          clear hlt2
          by_cases hk00 : k = 0
          · subst hk00
            have HT : Hid (specTop (fun x => lowN (rowF A q x) q) (0 + 1) = (0, lt)) := Lib.hid (by rw [specTop_first HG0.out, HLT.out])
            go_wp2_with fail
            go_roundw
            case rel => exact ⟨0 + 1, _, by omega, by go_num, by rw [HT.out], by rw [HT.out], rfl⟩
            case measure => simp [intOf]; omega
          · have hke : decide ((k : Int) = 0) = false := decide_eq_false (by omega)
            by_cases hgt : mt < lt
            · have HT : Hid (specTop (fun x => lowN (rowF A q x) q) (k + 1) = (k, lt)) := Lib.hid (by rw [specTop_more hk00 (by rw [HMT.out, HLT.out]; exact hgt), HLT.out])
              go_wp2_with fail
              go_roundw
              case rel => exact ⟨k + 1, _, by omega, by go_num, by rw [HT.out], by rw [HT.out], rfl⟩
              case measure => simp [intOf]; omega
            · have HT : Hid (specTop (fun x => lowN (rowF A q x) q) (k + 1) = specTop (fun x => lowN (rowF A q x) q) k) := Lib.hid (specTop_less hk00 (by rw [HMT.out, HLT.out]; exact hgt))
              have hd : decide (mt < lt) = false := decide_eq_false hgt
              go_wp2_with fail
              go_roundw
              case rel => exact ⟨k + 1, _, by omega, by go_num, by rw [HT.out, HCT.out], by rw [HT.out, HMT.out], rfl⟩
              case measure => simp [intOf]; omega
    · obtain rfl : k = R := by omega
      go_wp2_with fail
      go_ret2
      rw [specTop_top r1]
      exact ⟨rfl, m, rfl⟩
end Go.Proofs.Ytpopmcgieegikaa
