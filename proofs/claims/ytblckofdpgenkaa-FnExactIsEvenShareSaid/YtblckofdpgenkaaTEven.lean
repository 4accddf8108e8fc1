/-
  IsEvenShare: the program's answer and the reference's.
-/
import Derived.Test.YtblckofdpgenkaaTOwnL
namespace Go.Proofs.Ytblckofdpgenkaa
open Go.RowKit Go.ChangeShapes Go.WideShapes
set_option linter.unusedVariables false

def sumF (f : Nat → Int) : Nat → Int
  | 0 => 0
  | n + 1 => sumF f n + f n
theorem sumF_in (f : Nat → Int) (c : Int) (n : Nat) (h : ∀ k, k < n → 0 ≤ f k ∧ f k ≤ c) : 0 ≤ sumF f n ∧ sumF f n ≤ c * n := by
  induction n with
  | zero => simp [sumF]
  | succ n ih =>
    have h1 := ih fun k hk => h k (by omega)
    have h2 := h n (by omega)
    have e : c * ((n + 1 : Nat) : Int) = c * n + c := by rw [Int.natCast_succ, Int.mul_add, Int.mul_one]
    unfold sumF
    rw [e]
    omega
theorem sumF_congr {f g : Nat → Int} (n : Nat) (h : ∀ k, k < n → f k = g k) : sumF f n = sumF g n := by
  induction n with
  | zero => rfl
  | succ n ih => unfold sumF; rw [ih fun k hk => h k (by omega), h n (by omega)]

theorem sumOf_any (b off len cap : Nat) (f : Nat → Int) (w : World) (hl : len ≤ 1000) (hf : ∀ k, k < len → 0 ≤ f k ∧ f k ≤ 1000000) (hc : ∀ k, k < len → w.cell? ⟨b, off + k, none⟩ = some (.int .i64 (f k))) :
    Calls Try.prog 82 #[.slice (some ⟨b, off, none⟩) len cap] w fun e w' => e = .returned (.int .i64 (sumF f len)) ∧ w = w' := by
  have HC := Lib.hid hc
  have HF := Lib.hid hf
  clear hc hf
  go_enter Try.func82, Try.ntmps82
  go_wp2
  go_loop [3, 8] (fun s q => ∃ k : Nat, k ≤ len ∧ q = .int .i64 k ∧ s = .int .i64 (sumF f k)) (fun _ q => len - (intOf q).toNat)
  case atStart => exact ⟨0, Nat.zero_le _, rfl, rfl⟩
  case round =>
    obtain ⟨k, hk, rfl, rfl⟩ := hrel
    by_cases hlt : k < len
    · have hsrc := HC.out k hlt
      have h1 := sumF_in f 1000000 k fun q hq => HF.out q (by omega)
      have h2 := HF.out k hlt
      have HS : Hid (sumF f (k + 1) = sumF f k + f k) := Lib.hid rfl
      generalize sumF f k = s at *
      generalize f k = v at *
      go_wp2
      go_round
      case rel => exact ⟨k + 1, by omega, by go_num, by rw [HS.out]⟩
      case measure => simp [intOf]; omega
    · obtain rfl : k = len := by omega
      go_wp2
      go_ret
      exact ⟨rfl, rfl⟩

/-- what all things are worth to i -/
def allW (A : List Int) (T i : Nat) : Int := sumF (wAt A T i) T
theorem allW_in {A : List Int} {P T i : Nat} (h : okAll 0 1000 A = true) (hl : A.length = P * T) (hi : i < P) (hT : T ≤ 8) : 0 ≤ allW A T i ∧ allW A T i ≤ 8000 := by
  have := sumF_in (wAt A T i) 1000 T fun k hk => wAt_in h hl hi hk
  unfold allW
  omega
def evenB (A : List Int) (P T : Nat) (O : List Int) (i : Nat) : Bool := decide (¬ partW A T i i O * P < allW A T i)
def evenV (p t : Int) (A O : List Int) : Bool × Bool := if okOwn p t A O then ((List.range p.toNat).all (evenB A p.toNat t.toNat O), true) else (false, false)
theorem evenV_no {p t : Int} {A O : List Int} (h : okOwn p t A O = false) : evenV p t A O = (false, false) := by unfold evenV; rw [h]; rfl
theorem evenV_yes {P T : Nat} {A O : List Int} (h : okOwn P T A O = true) : evenV P T A O = ((List.range P).all (evenB A P T O), true) := by unfold evenV; rw [h]; rfl
theorem even_bad {A : List Int} {P T : Nat} {O : List Int} {k : Nat} (hk : k < P) (h : partW A T k k O * P < allW A T k) : (List.range P).all (evenB A P T O) = false := by
  rw [List.all_eq_false]
  exact ⟨k, List.mem_range.2 hk, by simp [evenB, h]⟩
theorem even_all {A : List Int} {P T : Nat} {O : List Int} (h : ∀ j, j < P → allW A T j ≤ partW A T j j O * P) : (List.range P).all (evenB A P T O) = true := by
  rw [List.all_eq_true]
  intro j hj
  unfold evenB
  exact decide_eq_true (Int.not_lt.2 (h j (List.mem_range.1 hj)))

set_option maxHeartbeats 1000000 in
set_option maxRecDepth 20000 in
theorem implEven_any (p t : Int) (a1 : Option Addr) (l1 c1 : Nat) (A : List Int) (ao : Option Addr) (lo co : Nat) (O : List Int) (w : World) (hA : IAt w a1 l1 A) (hO : IAt w ao lo O) (hc : l1 ≤ c1) :
    Calls Try.prog 40 #[valuesV p t a1 l1 c1, .slice ao lo co] w (TwoOut w (evenV p t A O)) := by
  have HA := Lib.hid hA
  have HO := Lib.hid hO
  clear hA hO
  have HX : Hid (Box3 _ w.heap.size 27 (.int .i64 p) (.int .i64 t) (.slice a1 l1 c1)) := Lib.hid (heap1 (w := w))
  have b0 := Lib.hid (below1 (w := w) (o := .cells #[.int .i64 p, .int .i64 t, .slice a1 l1 c1] 27))
  cases s1 : okOwn p t A O with
  | false =>
    have S1 := Lib.hid (ownV_no s1)
    rw [evenV_no s1]
    clear s1
    go_enter Try.func40, Try.ntmps40
    go_wp2_with fail
    refine (implOwnWorths_any p t a1 l1 c1 A ao lo co O _ (HA.out.below b0.out) (HO.out.below b0.out) hc).mono ?_
    rintro e w1 ⟨a, len, cap, rfl, o1, b1⟩
    rw [S1.out] at o1 ⊢
    have B1 := Lib.hid (below_after b0.out (Nat.le_refl _) b1)
    clear b1 o1
    go_wp2_with fail
    go_ret2
    exact ⟨rfl, B1.out⟩
  | true =>
    obtain ⟨h1, h2, h3⟩ := okOwn_true s1
    obtain ⟨P, T, rfl, rfl, hv⟩ := VOk.of HA.out hc h1
    have S1 := Lib.hid (ownV_yes s1)
    rw [evenV_yes s1]
    have HV := Lib.hid hv
    have hlo : lo = T := by have := HO.out.1; omega
    have hl1 : 1 ≤ lo := by have := hv.t1; omega
    have hl2 : lo ≤ T := by omega
    have hp6 := hv.p6
    have ht1 := hv.t1
    have ht8 := hv.t8
    have HOL : Hid (O.length ≤ T) := Lib.hid (by have := HO.out.1; omega)
    obtain ⟨b, off, rfl, hb, hcw⟩ := hv.at_
    obtain ⟨hl, hlp, hl48⟩ := hv.l48
    have HL := Lib.hid hl
    have HCW := Lib.hid hcw
    clear s1 h1 h2 h3 hv hlo hcw hl
    go_enter Try.func40, Try.ntmps40
    go_wp2_with fail
    refine (implOwnWorths_any P T _ l1 c1 A ao lo co O _ (HA.out.below b0.out) (HO.out.below b0.out) hc).mono ?_
    rintro e w1 ⟨a, len, cap, rfl, o1, b1⟩
    rw [S1.out] at o1 ⊢
    have hlen : len = P := by have := o1.1; simp only [ownL_len] at this; exact this.symm
    have HI := Lib.hid o1.iat
    have X1 := HX.out.below b1
    have B1 := Lib.hid (below_after b0.out (Nat.le_refl _) b1)
    have HZ : Hid (w.heap.size ≤ w1.heap.size) := Lib.hid B1.out.size
    have HC1 : Hid (∀ k, k < l1 → w1.cell? ⟨b, off + k, none⟩ = some (.int .i64 (A.getD k 0))) := Lib.hid fun k hk => (B1.out.cell (p := ⟨b, off + k, none⟩) hb).trans (HCW.out k hk)
    have hb1 : b < w1.heap.size := by have := HZ.out; omega
    have HX1 := Lib.hid X1
    clear b1 o1 HX b0 X1 HCW hb
    subst hlen
    go_wp2_with fail
    go_loopw [20] (fun q wr => ∃ k : Nat, k ≤ len ∧ q = .int .i64 k ∧ Hid (∀ j, j < k → allW A T j ≤ partW A T j j O * len) ∧ Hid (Below w1.heap.size w1 wr)) (fun q _ => len - (intOf q).toNat)
    case atStart => exact ⟨0, Nat.zero_le _, rfl, Lib.hid (fun j hj => absurd hj (by omega)), Lib.hid (Below.refl _ _)⟩
    case round =>
      obtain ⟨k, hk, rfl, H, HW⟩ := hrel
      by_cases hlt : k < len
      · obtain ⟨⟨q0, q1, q2⟩, _⟩ := (HX1.out.below HW.out).all
        obtain ⟨bo, oo, rfl, hbo, hco⟩ : ∃ b off, a = some ⟨b, off, none⟩ ∧ b < w1.heap.size ∧ ∀ i, i < len → w1.cell? ⟨b, off + i, none⟩ = some (.int .i64 ((ownL A T O len).getD i 0)) := by
          rcases HI.out.2.2.2 with e | g
          · omega
          · exact g
        have hsrc : wr.cell? ⟨bo, oo + k, none⟩ = some (.int .i64 (partW A T k k O)) := (HW.out.cell (p := ⟨bo, oo + k, none⟩) hbo).trans (by
          rw [hco k hlt]
          simp [ownL, List.getD, hlt])
        have hpb := partW_in (j := (k : Int)) (O := O) HV.out.ok HV.out.len hlt HOL.out ht8
        have hab := allW_in HV.out.ok HV.out.len hlt ht8
        have hq := Int.mul_le_mul hpb.2 (show (len : Int) ≤ 6 by omega) (by omega) (by omega)
        have hq0 := Int.mul_nonneg hpb.1 (show (0 : Int) ≤ len by omega)
        have HR : Hid (∀ y : ExtW wr, ∀ q, q < T → y.val.cell? ⟨b, off + k * T + q, none⟩ = some (.int .i64 (wAt A T k q))) := Lib.hid fun y q hq => by
          have h1 := HC1.out (k * T + q) (by rw [HL.out]; exact row_lt hlt hq)
          rw [← Nat.add_assoc] at h1
          exact ((below_after HW.out (Nat.le_refl _) y.ext).cell (p := ⟨b, off + k * T + q, none⟩) hb1).trans h1
        have p0 := fun y : ExtW wr => ((HX1.out.below HW.out).below y.ext).c0
        have p1 := fun y : ExtW wr => ((HX1.out.below HW.out).below y.ext).c1
        have p2 := fun y : ExtW wr => ((HX1.out.below HW.out).below y.ext).c2
        have HF : Hid (∀ q, q < T → 0 ≤ wAt A T k q ∧ wAt A T k q ≤ 1000000) := Lib.hid fun q hq => by
          have := wAt_in HV.out.ok HV.out.len hlt hq
          omega
        have HM : Hid (partW A T k k O * (len : Int) < allW A T k → (List.range len).all (evenB A len T O) = false) := Lib.hid (even_bad hlt)
        have HN : Hid (allW A T k ≤ partW A T k k O * (len : Int) → ∀ j, j < k + 1 → allW A T j ≤ partW A T j j O * (len : Int)) := Lib.hid fun h j hj => by
          by_cases e : j = k
          · rw [e]; exact h
          · exact H.out j (by omega)
        have HALL : Hid (sumF (wAt A T k) T = allW A T k) := Lib.hid rfl
        clear hco
        generalize partW A T k k O = u at *
        generalize allW A T k = s at *
        obtain ⟨qq, hqq⟩ : ∃ qq, u * (len : Int) = qq := ⟨_, rfl⟩
        rw [hqq] at hq hq0 HM HN
        go_wp2_with fail
        refine region_ext (by kernel_rfl) (by kernel_rfl) ?_
        repeat (go_big_quiet_step (first
          | (go_at_call 78; refine (row_any b off l1 c1 len T k _ hlt ht1 HL.out hc (by omega)).mono ?_; rintro e w2 ⟨rfl, hb⟩; exact ⟨rfl, ExtW.on _ hb⟩)
          | (go_at_call 82; refine (sumOf_any b (off + k * T) T T (wAt A T k) _ (by omega) HF.out (HR.out _)).mono ?_; rintro e w2 ⟨rfl, hb⟩; rw [HALL.out]; exact ⟨rfl, ExtW.same _ hb⟩)))
        refine wpQuiet_nil ?_
        intro _ hw'
        obtain ⟨y, hy⟩ := hw'
        subst hy
        clear hqq
        by_cases h3 : qq < s
        · have E := Lib.hid (HM.out h3)
          go_wp2_with fail
          go_ret2
          exact ⟨by rw [E.out]; rfl, below_after (below_after B1.out (Nat.le_refl _) HW.out) (Nat.le_refl _) y.ext⟩
        · have H' := Lib.hid (HN.out (Int.not_lt.1 h3))
          go_wp2_with fail
          go_roundw
          case rel => exact ⟨k + 1, by omega, by go_num, H', Lib.hid (below_after HW.out (Nat.le_refl _) y.ext)⟩
          case measure => simp [intOf]; omega
      · obtain rfl : k = len := by omega
        have E : Hid ((List.range k).all (evenB A k T O) = true) := Lib.hid (even_all H.out)
        go_wp2_with fail
        go_ret2
        exact ⟨by rw [E.out]; rfl, below_after B1.out (Nat.le_refl _) HW.out⟩

set_option maxHeartbeats 1000000 in
set_option maxRecDepth 20000 in
theorem specEven_any (p t : Int) (a1 : Option Addr) (l1 c1 : Nat) (A : List Int) (ao : Option Addr) (lo co : Nat) (O : List Int) (w : World) (hA : IAt w a1 l1 A) (hO : IAt w ao lo O) (hc : l1 ≤ c1) :
    Calls Try.prog 39 #[valuesV p t a1 l1 c1, .slice ao lo co] w (TwoOut w (evenV p t A O)) := by
  have HA := Lib.hid hA
  have HO := Lib.hid hO
  clear hA hO
  have HX : Hid (Box3 _ w.heap.size 27 (.int .i64 p) (.int .i64 t) (.slice a1 l1 c1)) := Lib.hid (heap1 (w := w))
  have b0 := Lib.hid (below1 (w := w) (o := .cells #[.int .i64 p, .int .i64 t, .slice a1 l1 c1] 27))
  cases s0 : okV p t A with
  | false =>
    have S0 := Lib.hid s0
    rw [evenV_no (okOwn_out s0)]
    clear s0
    go_enter Try.func39, Try.ntmps39
    go_wp2_with fail
    refine (specIsV_any w.heap.size p t a1 l1 c1 A _ HX.out (HA.out.below b0.out)).mono ?_
    rintro e w1 ⟨rfl, s1⟩
    rw [S0.out]
    have b1 := Lib.hid (b0.out.trans (same_below s1 _))
    clear s1
    go_wp2_with fail
    go_ret2
    exact ⟨rfl, b1.out⟩
  | true =>
    obtain ⟨P, T, rfl, rfl, hv⟩ := VOk.of HA.out hc s0
    have hE := okOwn_in (O := O) s0
    have S0 := Lib.hid s0
    have HV := Lib.hid (hv.below b0.out)
    have hp6 := hv.p6
    have ht8 := hv.t8
    clear hv s0
    cases s1 : okOwn P T A O with
    | false =>
      rw [hE] at s1
      have E := Lib.hid hE
      have S1 := Lib.hid s1
      rw [evenV_no (E.out.trans S1.out)]
      clear s1 hE E
      go_enter Try.func39, Try.ntmps39
      go_wp2_with fail
      refine (specIsV_any w.heap.size P T a1 l1 c1 A _ HX.out (HA.out.below b0.out)).mono ?_
      rintro e w1 ⟨rfl, s1⟩
      rw [S0.out]
      have c1 := Lib.hid (same_below s1 (w.alloc (.cells #[.int .i64 (P : Nat), .int .i64 (T : Nat), .slice a1 l1 c1] 27)).heap.size)
      clear s1
      go_wp2_with fail
      refine (owners04_any w.heap.size P T a1 l1 _ ao lo co O w1 (HX.out.below c1.out) hp6 ht8 ((HO.out.below b0.out).below c1.out)).mono ?_
      rintro e w2 ⟨rfl, s2⟩
      rw [S1.out]
      have c2 := Lib.hid (same_below s2 w1.heap.size)
      clear s2
      go_wp2_with fail
      go_ret2
      exact ⟨rfl, below_after (below_after b0.out (Nat.le_refl _) c1.out) (Nat.le_refl _) c2.out⟩
    | true =>
      have hl2 : lo ≤ T := by have := (okOwn_true s1).2.1; have := HO.out.1; omega
      rw [evenV_yes s1]
      rw [hE] at s1
      have S1 := Lib.hid s1
      have HOL : Hid (O.length ≤ T) := Lib.hid (by have := HO.out.1; omega)
      clear s1 hE
      go_enter Try.func39, Try.ntmps39
      go_wp2_with fail
      refine (specIsV_any w.heap.size P T a1 l1 c1 A _ HX.out (HA.out.below b0.out)).mono ?_
      rintro e w1 ⟨rfl, s1⟩
      rw [S0.out]
      have d1 := Lib.hid (same_below s1 (w.alloc (.cells #[.int .i64 (P : Nat), .int .i64 (T : Nat), .slice a1 l1 c1] 27)).heap.size)
      clear s1
      go_wp2_with fail
      refine (owners04_any w.heap.size P T a1 l1 _ ao lo co O w1 (HX.out.below d1.out) hp6 ht8 ((HO.out.below b0.out).below d1.out)).mono ?_
      rintro e w2 ⟨rfl, s2⟩
      rw [S1.out]
      have d2 := below_after d1.out (Nat.le_refl _) (same_below s2 w1.heap.size)
      have hX2 := HX.out.below d2
      have HX2 := Lib.hid hX2
      have hV2 := HV.out.below d2
      have HV2 := Lib.hid hV2
      have HO2 := Lib.hid ((HO.out.below b0.out).below d2)
      have B2 := Lib.hid (below_after b0.out (Nat.le_refl _) d2)
      obtain ⟨b, off, rfl, hb, hcw⟩ := hV2.at_
      obtain ⟨hl, hlp, hl48⟩ := hV2.l48
      have HL := Lib.hid hl
      have HCW := Lib.hid hcw
      obtain ⟨⟨q0, q1, q2⟩, _⟩ := hX2.all
      clear s2 d2 d1 HX HV HO b0 HA S0 S1 hX2 hV2 hcw hl
      go_wp2_with fail
      go_loopw [6] (fun q wr => ∃ k : Nat, k ≤ P ∧ q = .int .i64 k ∧ Hid (∀ j, j < k → allW A T j ≤ partW A T j j O * P) ∧ Hid (Same w2 wr)) (fun q _ => P - (intOf q).toNat)
      case atStart => exact ⟨0, Nat.zero_le _, rfl, Lib.hid (fun j hj => absurd hj (by omega)), Lib.hid ⟨0, rfl⟩⟩
      case round =>
        obtain ⟨k, hk, rfl, H, HS⟩ := hrel
        clear q0 q1 q2
        have hb2 := same_below HS.out w2.heap.size
        have hX3 := HX2.out.below hb2
        obtain ⟨⟨q0, q1, q2⟩, _⟩ := hX3.all
        have HX3 := Lib.hid hX3
        have HV3 := Lib.hid (HV2.out.below hb2)
        have HO3 := Lib.hid (HO2.out.below hb2)
        have HC3 : Hid (∀ i, i < l1 → wr.cell? ⟨b, off + i, none⟩ = some (.int .i64 (A.getD i 0))) := Lib.hid fun i hi => (hb2.cell (p := ⟨b, off + i, none⟩) hb).trans (HCW.out i hi)
        clear hb2 hX3
        by_cases hlt : k < P
        · obtain ⟨f, g, e1, -, e3, -, -⟩ := row_prod (T := T) hlt
          have HE := Lib.hid e3
          have hf1 : ∀ q, q < T → f + q < l1 := fun q hq => by rw [← e3, HL.out]; exact row_lt hlt hq
          have HF := Lib.hid hf1
          clear e3 hf1
          go_wp2_with fail
          go_loop [7, 8] (fun s q => ∃ r : Nat, r ≤ T ∧ q = .int .i64 r ∧ s = .int .i64 (sumF (wAt A T k) r)) (fun _ q => T - (intOf q).toNat)
          case atStart => exact ⟨0, Nat.zero_le _, rfl, rfl⟩
          case round =>
            obtain ⟨r, hr, rfl, rfl⟩ := hrel
            by_cases hlt2 : r < T
            · have hfr := HF.out r hlt2
              have hcr : wr.cell? ⟨b, off + (f + r), none⟩ = some (.int .i64 (wAt A T k r)) := by
                have := HC3.out (f + r) hfr
                unfold wAt
                rw [HE.out]
                exact this
              have h1 := sumF_in (wAt A T k) 1000 r fun q hq => wAt_in HV2.out.ok HV2.out.len hlt (by omega)
              have h2 := wAt_in HV2.out.ok HV2.out.len hlt hlt2
              have HS : Hid (sumF (wAt A T k) (r + 1) = sumF (wAt A T k) r + wAt A T k r) := Lib.hid rfl
              generalize sumF (wAt A T k) r = s at *
              generalize wAt A T k r = v at *
              go_wp2_with fail
              go_round
              case rel => exact ⟨r + 1, by omega, by go_num, by rw [HS.out]⟩
              case measure => simp [intOf]; omega
            · obtain rfl : r = T := by omega
              have hpb := partW_in (j := (k : Int)) (O := O) HV2.out.ok HV2.out.len hlt HOL.out ht8
              have hab := allW_in HV2.out.ok HV2.out.len hlt ht8
              have hq := Int.mul_le_mul hpb.2 (show (P : Int) ≤ 6 by omega) (by omega) (by omega)
              have hq0 := Int.mul_nonneg hpb.1 (show (0 : Int) ≤ P by omega)
              have HM : Hid (partW A r k k O * (P : Int) < allW A r k → (List.range P).all (evenB A P r O) = false) := Lib.hid (even_bad hlt)
              have HN : Hid (allW A r k ≤ partW A r k k O * (P : Int) → ∀ j, j < k + 1 → allW A r j ≤ partW A r j j O * (P : Int)) := Lib.hid fun h j hj => by
                by_cases e : j = k
                · rw [e]; exact h
                · exact H.out j (by omega)
              have HALL : Hid (sumF (wAt A r k) r = allW A r k) := Lib.hid rfl
              rw [HALL.out]
              have HP := fun y : World => specPart_any w.heap.size P r k (some ⟨b, off, none⟩) l1 c1 A k ao lo co O y
              have HPP := Lib.hid HP
              obtain ⟨u, hu⟩ : ∃ u, partW A r k k O = u := ⟨_, rfl⟩
              rw [hu] at hpb hq hq0 HM HN
              have HU := Lib.hid hu
              clear hu HP HF
              generalize allW A r k = s at *
              obtain ⟨qq, hqq⟩ : ∃ qq, u * (P : Int) = qq := ⟨_, rfl⟩
              rw [hqq] at hq hq0 HM HN
              go_wp2_with fail
              go_quiet ((go_at_call 81; refine (HPP.out _ (HX3.out.below (same_below ⟨_, rfl⟩ _)) (HV3.out.below (same_below ⟨_, rfl⟩ _)) hlt (HO3.out.below (same_below ⟨_, rfl⟩ _)) hl2).mono ?_; rintro e w3 ⟨rfl, m, rfl⟩; rw [HU.out]; exact ⟨rfl, _, World.drewN_drewN _ _ _⟩))
              clear hqq
              have HS' : Hid (Same w2 (wr.drewN nq)) := Lib.hid (by
                obtain ⟨n, hn⟩ := HS.out
                exact ⟨n + nq, by rw [hn]; exact World.drewN_drewN _ _ _⟩)
              by_cases h3 : qq < s
              · have E := Lib.hid (HM.out h3)
                go_wp2_with fail
                go_ret2
                exact ⟨by rw [E.out]; rfl, B2.out.trans (same_below HS'.out _)⟩
              · have H' := Lib.hid (HN.out (Int.not_lt.1 h3))
                go_wp2_with fail
                go_roundw
                case rel => exact ⟨k + 1, by omega, by go_num, H', HS'⟩
                case measure => simp [intOf]; omega
        · obtain rfl : k = P := by omega
          have E : Hid ((List.range k).all (evenB A k T O) = true) := Lib.hid (even_all H.out)
          go_wp2_with fail
          go_ret2
          exact ⟨by rw [E.out]; rfl, B2.out.trans (same_below HS.out _)⟩
end Go.Proofs.Ytblckofdpgenkaa
