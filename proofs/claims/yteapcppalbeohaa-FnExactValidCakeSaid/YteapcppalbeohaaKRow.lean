/-
  The row of a player, sums of rows: for cakes.
-/
import Derived.Test.YteapcppalbeohaaTRows
import Derived.Test.YteapcppalbeohaaTPart
import Derived.Test.YteapcppalbeohaaSCake
namespace Go.Proofs.Yteapcppalbeohaa
open Go.RowKit Go.ChangeShapes Go.WideShapes
set_option linter.unusedVariables false

theorem row_prod {P T i : Nat} (hi : i < P) : ∃ f g : Nat, (i : Int) * (T : Int) = (f : Nat) ∧ ((i : Int) + 1) * (T : Int) = (g : Nat) ∧ i * T = f ∧ g = f + T ∧ f + T ≤ P * T := by
  refine ⟨i * T, i * T + T, by simp, ?_, rfl, rfl, ?_⟩
  · rw [Int.add_mul, Int.one_mul]; simp
  · have := Nat.mul_le_mul_right T hi
    rw [Nat.succ_mul] at this
    exact this

set_option maxRecDepth 20000 in
theorem rowOf_any (b off len cap P T i : Nat) (w : World) (hi : i < P) (hT : 1 ≤ T) (hl : len = P * T) (hc : len ≤ cap) (hm : len ≤ 96) :
    Calls Try.prog 100 #[.slice (some ⟨b, off, none⟩) len cap, .int .i64 i, .int .i64 T] w fun e w' => e = .returned (.slice (some ⟨b, off + i * T, none⟩) T T) ∧ w = w' := by
  obtain ⟨f, g, e1, e2, e3, e4, e5⟩ := row_prod (T := T) hi
  have hi6 : (i : Int) ≤ 96 := by
    have := Nat.mul_le_mul_left (i + 1) hT
    have h2 := Nat.mul_le_mul_right T (show i + 1 ≤ P from hi)
    omega
  have hT6 : (T : Int) ≤ 96 := by omega
  rw [e3]
  clear e3
  have HE := Lib.hid e4
  have HL := Lib.hid hl
  have hfl : f + T ≤ len := by omega
  clear hl e5 hi
  have hg : (g : Nat) ≤ len := by omega
  have hfg : f < g := by omega
  have hgc : (g : Nat) ≤ cap := by omega
  have hgT : g - f = T := by omega
  have HT := Lib.hid hgT
  clear e4 hgT hfl
  go_enter Try.func100, Try.ntmps100
  go_wp2
  go_ret
  exact ⟨by rw [HT.out]; rfl, rfl⟩

theorem rowC_any (b off len cap P T i : Nat) (w : World) (hi : i < P) (hT : 1 ≤ T) (hl : len = P * T) (hc : len ≤ cap) (hm : len ≤ 96) :
    Calls Try.prog 57 #[cakeV (P : Nat) (T : Nat) (some ⟨b, off, none⟩) len cap, .int .i64 i] w fun e w' => e = .returned (.slice (some ⟨b, off + i * T, none⟩) T T) ∧ Below w.heap.size w w' := by
  have HL := Lib.hid hl
  clear hl
  go_enter Try.func57, Try.ntmps57
  go_wp2_with fail
  refine (rowOf_any b off len cap P T i _ hi hT HL.out hc hm).mono ?_
  rintro e w' ⟨rfl, rfl⟩
  go_wp2_with fail
  go_ret
  exact ⟨rfl, below1⟩

def sumF (f : Nat → Int) : Nat → Int
  | 0 => 0
  | n + 1 => sumF f n + f n
theorem sumF_in (f : Nat → Int) (c : Int) (n : Nat) (h : ∀ k, k < n → 0 ≤ f k ∧ f k ≤ c) : 0 ≤ sumF f n ∧ sumF f n ≤ c * n := by
  induction n with
  | zero => simp [sumF]
  | succ n ih =>
    have h1 := ih fun k hk => h k (by omega)
    have h2 := h n (by omega)
    have e : c * ((n + 1 : Nat) : Int) = c * n + c := by rw [Int.natCast_succ, Int.mul_add, Int.mul_one]
    unfold sumF
    rw [e]
    omega
theorem sumF_congr {f g : Nat → Int} (n : Nat) (h : ∀ k, k < n → f k = g k) : sumF f n = sumF g n := by
  induction n with
  | zero => rfl
  | succ n ih => unfold sumF; rw [ih fun k hk => h k (by omega), h n (by omega)]

theorem sumOf_any (b off len cap : Nat) (f : Nat → Int) (w : World) (hl : len ≤ 1000) (hf : ∀ k, k < len → 0 ≤ f k ∧ f k ≤ 1000000) (hc : ∀ k, k < len → w.cell? ⟨b, off + k, none⟩ = some (.int .i64 (f k))) :
    Calls Try.prog 56 #[.slice (some ⟨b, off, none⟩) len cap] w fun e w' => e = .returned (.int .i64 (sumF f len)) ∧ w = w' := by
  have HC := Lib.hid hc
  have HF := Lib.hid hf
  clear hc hf
  go_enter Try.func56, Try.ntmps56
  go_wp2
  go_loop [3, 8] (fun s q => ∃ k : Nat, k ≤ len ∧ q = .int .i64 k ∧ s = .int .i64 (sumF f k)) (fun _ q => len - (intOf q).toNat)
  case atStart => exact ⟨0, Nat.zero_le _, rfl, rfl⟩
  case round =>
    obtain ⟨k, hk, rfl, rfl⟩ := hrel
    by_cases hlt : k < len
    · have hsrc := HC.out k hlt
      have h1 := sumF_in f 1000000 k fun q hq => HF.out q (by omega)
      have h2 := HF.out k hlt
      have HS : Hid (sumF f (k + 1) = sumF f k + f k) := Lib.hid rfl
      generalize sumF f k = s at *
      generalize f k = v at *
      go_wp2
      go_round
      case rel => exact ⟨k + 1, by omega, by go_num, by rw [HS.out]⟩
      case measure => simp [intOf]; omega
    · obtain rfl : k = len := by omega
      go_wp2
      go_ret
      exact ⟨rfl, rfl⟩

theorem sum04_any (b off len cap : Nat) (f : Nat → Int) (w : World) (hl : len ≤ 1000) (hf : ∀ k, k < len → 0 ≤ f k ∧ f k ≤ 1000000) (hc : ∀ k, k < len → w.cell? ⟨b, off + k, none⟩ = some (.int .i64 (f k))) :
    Calls Try.prog 97 #[.slice (some ⟨b, off, none⟩) len cap] w fun e w' => e = .returned (.int .i64 (sumF f len)) ∧ w = w' := by
  have HC := Lib.hid hc
  have HF := Lib.hid hf
  clear hc hf
  go_enter Try.func97, Try.ntmps97
  go_wp2
  go_loop [3, 4] (fun s q => ∃ k : Nat, k ≤ len ∧ q = .int .i64 k ∧ s = .int .i64 (sumF f k)) (fun _ q => len - (intOf q).toNat)
  case atStart => exact ⟨0, Nat.zero_le _, rfl, rfl⟩
  case round =>
    obtain ⟨k, hk, rfl, rfl⟩ := hrel
    by_cases hlt : k < len
    · have hsrc := HC.out k hlt
      have h1 := sumF_in f 1000000 k fun q hq => HF.out q (by omega)
      have h2 := HF.out k hlt
      have HS : Hid (sumF f (k + 1) = sumF f k + f k) := Lib.hid rfl
      generalize sumF f k = s at *
      generalize f k = v at *
      go_wp2
      go_round
      case rel => exact ⟨k + 1, by omega, by go_num, by rw [HS.out]⟩
      case measure => simp [intOf]; omega
    · obtain rfl : k = len := by omega
      go_wp2
      go_ret
      exact ⟨rfl, rfl⟩

/-- cakes that are read, with rows in bounds -/
structure COk (w : World) (P T : Nat) (a : Option Addr) (l c : Nat) (A : List Int) : Prop where
  iat : IAt w a l A
  len : A.length = P * T
  cap : l ≤ c
  p1 : 1 ≤ P
  p6 : P ≤ 6
  t1 : 1 ≤ T
  t16 : T ≤ 16
  ok : okAll 0 1000 A = true
theorem COk.below {w w' : World} {P T : Nat} {a : Option Addr} {l c : Nat} {A : List Int} (h : COk w P T a l c A) (hb : Below w.heap.size w w') : COk w' P T a l c A :=
  ⟨h.iat.below hb, h.len, h.cap, h.p1, h.p6, h.t1, h.t16, h.ok⟩
theorem COk.l96 {w : World} {P T : Nat} {a : Option Addr} {l c : Nat} {A : List Int} (h : COk w P T a l c A) : l = P * T ∧ 1 ≤ l ∧ l ≤ 96 := by
  have h1 : l = P * T := h.iat.1.symm.trans h.len
  have h2 := Nat.mul_le_mul h.p6 h.t16
  have h3 := Nat.mul_le_mul h.p1 h.t1
  exact ⟨h1, by omega, by omega⟩
theorem COk.at_ {w : World} {P T : Nat} {a : Option Addr} {l c : Nat} {A : List Int} (h : COk w P T a l c A) : ∃ b off, a = some ⟨b, off, none⟩ ∧ b < w.heap.size ∧ ∀ i, i < l → w.cell? ⟨b, off + i, none⟩ = some (.int .i64 (A.getD i 0)) := by
  rcases h.iat.2.2.2 with e | g
  · have := h.l96; omega
  · exact g
theorem COk.of {w : World} {p t : Int} {a : Option Addr} {l c : Nat} {A : List Int} (hA : IAt w a l A) (hc : l ≤ c) (h : okRows 16 p t A = true) : ∃ P T : Nat, p = P ∧ t = T ∧ COk w P T a l c A := by
  obtain ⟨P, T, rfl, rfl, h1, h2, h3, h4, h5, h6⟩ := okRows_true h (by omega)
  exact ⟨P, T, rfl, rfl, hA, h5, hc, h1, h2, h3, by omega, h6⟩
theorem COk.row {w : World} {P T : Nat} {b off l c : Nat} {A : List Int} (h : COk w P T (some ⟨b, off, none⟩) l c A) {i : Nat} (hi : i < P) : ∀ k, k < T → w.cell? ⟨b, off + i * T + k, none⟩ = some (.int .i64 (wAt A T i k)) := by
  obtain ⟨b', off', e, -, hc⟩ := h.at_
  cases e
  intro k hk
  have h1 := hc (i * T + k) (by rw [h.l96.1]; exact row_lt hi hk)
  rw [← Nat.add_assoc] at h1
  exact h1
theorem COk.lt {w : World} {P T : Nat} {b off l c : Nat} {A : List Int} (h : COk w P T (some ⟨b, off, none⟩) l c A) : b < w.heap.size := by
  obtain ⟨b', off', e, hb, -⟩ := h.at_
  cases e
  exact hb
theorem COk.w_in {w : World} {P T : Nat} {a : Option Addr} {l c : Nat} {A : List Int} (h : COk w P T a l c A) {i k : Nat} (hi : i < P) (hk : k < T) : 0 ≤ wAt A T i k ∧ wAt A T i k ≤ 1000 := wAt_in h.ok h.len hi hk

/-- a cake: each player finds something worth more than nothing -/
def cakeRows (A : List Int) (T P : Nat) : Bool := (List.range P).all fun i => decide (¬ sumF (wAt A T i) T = 0)
def okC (p t : Int) (A : List Int) : Bool := okRows 16 p t A && cakeRows A t.toNat p.toNat
theorem okC_out {p t : Int} {A : List Int} (h : okRows 16 p t A = false) : okC p t A = false := by unfold okC; rw [h]; rfl
theorem okC_in {P T : Nat} {A : List Int} (h : okRows 16 P T A = true) : okC P T A = cakeRows A T P := by unfold okC; rw [h]; rfl
theorem cakeRows_bad {A : List Int} {T P k : Nat} (hk : k < P) (h : sumF (wAt A T k) T = 0) : cakeRows A T P = false := by
  unfold cakeRows
  rw [List.all_eq_false]
  exact ⟨k, List.mem_range.2 hk, by simp [h]⟩
theorem cakeRows_all {A : List Int} {T P : Nat} (h : ∀ j, j < P → ¬ sumF (wAt A T j) T = 0) : cakeRows A T P = true := by
  unfold cakeRows
  rw [List.all_eq_true]
  intro j hj
  exact decide_eq_true (h j (List.mem_range.1 hj))

set_option maxRecDepth 20000 in
theorem implValidC_any (p t : Int) (a1 : Option Addr) (l1 c1 : Nat) (A : List Int) (w : World) (hA : IAt w a1 l1 A) (hc : l1 ≤ c1) :
    Calls Try.prog 23 #[cakeV p t a1 l1 c1] w (BoolOut w (okC p t A)) := by
  have hb0 := below1 (w := w) (o := .cells #[.int .i64 p, .int .i64 t, .slice a1 l1 c1] 39)
  have HA := Lib.hid (hA.below hb0)
  have HX : Hid (Box3 _ w.heap.size 39 (.int .i64 p) (.int .i64 t) (.slice a1 l1 c1)) := Lib.hid (heap1 (w := w))
  have B0 := Lib.hid hb0
  clear hA hb0
  cases s1 : okRows 16 p t A with
  | false =>
    have S1 := Lib.hid s1
    have E := Lib.hid (okC_out s1)
    clear s1
    rw [E.out]
    go_enter Try.func23, Try.ntmps23
    go_wp2_with fail
    refine (areRows_any _ _ _ _ _ _ A _ (by omega) HA.out).mono ?_
    rintro e w' ⟨rfl, rfl⟩
    rw [S1.out]
    go_wp2_with fail
    go_ret
    exact ⟨rfl, B0.out⟩
  | true =>
    obtain ⟨P, T, rfl, rfl, hv⟩ := COk.of HA.out hc s1
    have S1 := Lib.hid s1
    rw [okC_in s1]
    obtain ⟨b, off, rfl, hb, -⟩ := hv.at_
    obtain ⟨hl, hl1, hl96⟩ := hv.l96
    have hp6 := hv.p6
    have ht1 := hv.t1
    have ht16 := hv.t16
    have HV := Lib.hid hv
    have HL := Lib.hid hl
    clear s1 hv hl
    go_enter Try.func23, Try.ntmps23
    go_wp2_with fail
    refine (areRows_any _ _ _ _ _ _ A _ (by omega) HA.out).mono ?_
    rintro e w' ⟨rfl, rfl⟩
    rw [S1.out]
    generalize w.alloc (.cells #[.int .i64 (P : Nat), .int .i64 (T : Nat), .slice (some ⟨b, off, none⟩) l1 c1] 39) = W0 at *
    obtain ⟨⟨q0, q1, q2⟩, _⟩ := HX.out.all
    go_wp2_with fail
    clear q0 q1 q2
    go_loopw [14] (fun q wr => ∃ k : Nat, k ≤ P ∧ q = .int .i64 k ∧ Hid (∀ j, j < k → ¬ sumF (wAt A T j) T = 0) ∧ Hid (Below W0.heap.size W0 wr)) (fun q _ => P - (intOf q).toNat)
    case atStart => exact ⟨0, Nat.zero_le _, rfl, Lib.hid (fun j hj => absurd hj (by omega)), Lib.hid (Below.refl _ _)⟩
    case round =>
      obtain ⟨k, hk, rfl, H, HW⟩ := hrel
      by_cases hlt : k < P
      · obtain ⟨⟨q0, q1, q2⟩, _⟩ := (HX.out.below HW.out).all
        have HB : Hid (sumF (wAt A T k) T = 0 → cakeRows A T P = false) := Lib.hid (cakeRows_bad hlt)
        have HN : Hid (¬ sumF (wAt A T k) T = 0 → ∀ j, j < k + 1 → ¬ sumF (wAt A T j) T = 0) := Lib.hid fun h j hj => by
          by_cases e : j = k
          · rw [e]; exact h
          · exact H.out j (by omega)
        go_wp2_with fail
        refine (rowC_any b off l1 c1 P T k _ hlt ht1 HL.out hc hl96).mono ?_
        rintro e w2 ⟨rfl, b2⟩
        have HW2 := Lib.hid (below_after HW.out (Nat.le_refl _) b2)
        clear b2 q0 q1 q2
        go_wp2_with fail
        refine (sumOf_any b (off + k * T) T T (wAt A T k) _ (by omega) (fun q hq => by have := HV.out.w_in hlt hq; omega) ((HV.out.below HW2.out).row hlt)).mono ?_
        rintro e w3 ⟨rfl, rfl⟩
        obtain ⟨s, hs⟩ : ∃ s, sumF (wAt A T k) T = s := ⟨_, rfl⟩
        rw [hs] at HB HN ⊢
        clear hs
        by_cases h0 : s = 0
        · have E := Lib.hid (HB.out h0)
          subst h0
          go_wp2_with fail
          go_ret
          exact ⟨by rw [E.out]; rfl, below_after B0.out (Nat.le_refl _) HW2.out⟩
        · have H' := Lib.hid (HN.out h0)
          have hq : (s == 0) = false := by simpa using h0
          clear h0
          go_wp2_with fail
          go_roundw
          case rel => exact ⟨k + 1, by omega, by go_num, H', HW2⟩
          case measure => simp [intOf]; omega
      · obtain rfl : k = P := by omega
        have E : Hid (cakeRows A T k = true) := Lib.hid (cakeRows_all H.out)
        go_wp2_with fail
        go_ret
        exact ⟨by rw [E.out]; rfl, below_after B0.out (Nat.le_refl _) HW.out⟩
end Go.Proofs.Yteapcppalbeohaa
