/-
  SafeColumn: the program's and the reference's answers.
-/
import Derived.Test.YtpopmcgieegikaaGSafeR
namespace Go.Proofs.Ytpopmcgieegikaa
open Go.RowKit Go.ChangeShapes Go.WideShapes
set_option linter.unusedVariables false

theorem max_any (a b : Int) (w : World) :
    Calls Try.prog 98 #[.int .i64 a, .int .i64 b] w fun e w' => e = .returned (.int .i64 (max a b)) ∧ w = w' := by
  by_cases h : b < a
  · have e : max a b = a := by omega
    rw [e]
    clear e
    go_enter Try.func98, Try.ntmps98
    go_wp2
    go_ret
    exact ⟨rfl, rfl⟩
  · have e : max a b = b := by omega
    have hd : decide (b < a) = false := decide_eq_false h
    rw [e]
    clear e
    go_enter Try.func98, Try.ntmps98
    go_wp2
    go_ret
    exact ⟨rfl, rfl⟩

/-- what a second player pays who chooses a column -/
def payF (A : List Int) (C j i : Nat) : Int := -A.getD (i * C + j) 0

def safeColV (r c : Int) (A B : List Int) : Int × Int × Bool :=
  if okGame r c A B = true then ((((topN (fun x => lowN (payF A c.toNat x) r.toNat) c.toNat).1 : Nat) : Int), -(topN (fun x => lowN (payF A c.toNat x) r.toNat) c.toNat).2, true) else (0, 0, false)

theorem lowN_le {f : Nat → Int} {n : Nat} : lowN f n ≤ 1000 := by
  induction n with
  | zero => simp [lowN]
  | succ n ih => simp only [lowN]; omega
theorem topN_ge {g : Nat → Int} {k : Nat} : -1001 ≤ (topN g k).2 := by
  induction k with
  | zero => simp [topN]
  | succ k ih => simp only [topN]; split <;> simp_all <;> omega
theorem topN_le {g : Nat → Int} (hg : ∀ x, g x ≤ 1000) {k : Nat} : (topN g k).2 ≤ 1000 := by
  induction k with
  | zero => simp [topN]
  | succ k ih =>
    simp only [topN]
    split
    · exact hg k
    · exact ih

set_option maxRecDepth 20000 in
theorem implSafeCol_any (r c : Int) (a1 : Option Addr) (l1 c1 : Nat) (a2 : Option Addr) (l2 c2 : Nat) (A B : List Int) (w : World) (hA : IAt w a1 l1 A) (hB : IAt w a2 l2 B) :
    Calls Try.prog 58 #[gameV r c a1 l1 c1 a2 l2 c2] w (TripOut w (safeColV r c A B)) := by
  have HA := Lib.hid hA
  have HB := Lib.hid hB
  cases hok : okGame r c A B with
  | true =>
    obtain ⟨R, C, rfl, rfl, r1, r6, q1, q6, hlA, hlB, hgA, _⟩ := okGame_true hok
    obtain ⟨b, off, rfl, rfl, hb, hc⟩ := game_at hA hlA r1 q1
    obtain ⟨b', off', rfl, rfl, hb', hc'⟩ := game_at hB hlB r1 q1
    have HCA := Lib.hid hc
    have hRC : R * C ≤ 36 := Nat.mul_le_mul r6 q6
    have OK := Lib.hid hok
    have HLA := Lib.hid hlA
    have HGA := Lib.hid hgA
    clear hA hB hc hc' hlA hlB hok hgA
    have HV : Hid (safeColV R C A B = ((((topN (fun x => lowN (payF A C x) R) C).1 : Nat) : Int), -(topN (fun x => lowN (payF A C x) R) C).2, true)) := Lib.hid (by unfold safeColV; rw [OK.out]; simp)
    go_enter Try.func58, Try.ntmps58
    go_wp2_with fail
    refine (implValid_any R C _ (R * C) c1 _ (R * C) c2 A B _ (HA.out.below below1) (HB.out.below below1)).mono ?_
    rintro e w1 ⟨rfl, b1⟩
    rw [OK.out]
    have x1 : Box4 w1 w.heap.size 27 (.int .i64 R) (.int .i64 C) (.slice (some ⟨b, off, none⟩) (R * C) c1) (.slice (some ⟨b', off', none⟩) (R * C) c2) := Box4.below heap1 b1
    have B1 := Lib.hid (below_after below1 (Nat.le_refl _) b1)
    obtain ⟨⟨p0, p1, p2, p3⟩, _⟩ := x1.all
    clear b1 x1
    go_wp2_with fail
    refine (payingSide_any R C _ (R * C) c1 _ (R * C) c2 w1).mono ?_
    clear p0 p1 p2 p3
    rintro e w2 ⟨n, rfl, hbx, b2⟩
    have HBX := Lib.hid hbx
    have B2 := Lib.hid (below_after B1.out (Nat.le_refl _) b2)
    clear b2 hbx
    go_wp2_with fail
    refine (safePaying_any (payF A C) C R n w2 q6 r6 ?_).mono ?_
    · intro x y w' hx hy hw
      exact payingSide_gain n R C y x b off c1 b' off' c2 A B w' hy hx hRC (HBX.out.below hw) (fun i hi => ((B2.out.trans (hw.mono B2.out.size)).cell (p := ⟨b, off + i, none⟩) hb).trans (HCA.out i hi)) HGA.out HLA.out
    rintro e w3 ⟨rfl, b3⟩
    have B3 := Lib.hid b3
    have t1 := topN_ge (g := fun x => lowN (payF A C x) R) (k := C)
    have t2 := topN_le (g := fun x => lowN (payF A C x) R) (fun x => lowN_le) (k := C)
    clear b3
    obtain ⟨tp, htp⟩ : ∃ tp, topN (fun x => lowN (payF A C x) R) C = tp := ⟨_, rfl⟩
    rw [htp] at HV t1 t2 ⊢
    clear htp
    go_wp2_with fail
    go_ret3
    rw [HV.out]
    exact ⟨rfl, below_after B2.out (Nat.le_refl _) B3.out⟩
  | false =>
    have OK := Lib.hid hok
    have HV : Hid (safeColV r c A B = (0, 0, false)) := Lib.hid (by unfold safeColV; rw [OK.out]; simp)
    clear hok hA hB
    go_enter Try.func58, Try.ntmps58
    go_wp2_with fail
    refine (implValid_any r c a1 l1 c1 a2 l2 c2 A B _ (HA.out.below below1) (HB.out.below below1)).mono ?_
    rintro e w1 ⟨rfl, b1⟩
    rw [OK.out]
    have B1 := Lib.hid (below_after below1 (Nat.le_refl _) b1)
    clear b1
    go_wp2_with fail
    go_ret3
    rw [HV.out]
    exact ⟨rfl, B1.out⟩

set_option maxHeartbeats 1000000 in
set_option maxRecDepth 20000 in
theorem specSafeCol_any (r c : Int) (a1 : Option Addr) (l1 c1 : Nat) (a2 : Option Addr) (l2 c2 : Nat) (A B : List Int) (w : World) (hA : IAt w a1 l1 A) (hB : IAt w a2 l2 B) :
    Calls Try.prog 57 #[gameV r c a1 l1 c1 a2 l2 c2] w (TripOut w (safeColV r c A B)) := by
  have HA := Lib.hid hA
  have HB := Lib.hid hB
  cases hok : okGame r c A B with
  | true =>
    obtain ⟨R, C, rfl, rfl, r1, r6, q1, q6, hlA, hlB, hgA, _⟩ := okGame_true hok
    obtain ⟨b, off, rfl, rfl, hb, hc⟩ := game_at hA hlA r1 q1
    obtain ⟨b', off', rfl, rfl, hb', hc'⟩ := game_at hB hlB r1 q1
    have OK := Lib.hid hok
    have hg : ∀ i, i < R * C → -1000 ≤ A.getD i 0 ∧ A.getD i 0 ≤ 1000 := fun i hi => okGains_at hgA (by omega)
    have hRC : R * C ≤ 36 := Nat.mul_le_mul r6 q6
    have HG0 : Hid (-1001 < lowN (payF A C 0) R) := Lib.hid (by
      have := lowN_ge (f := payF A C 0) (n := R) fun q hq => (by have := hg (q * C + 0) (place_lt hq q1); unfold payF; omega)
      omega)
    have HV : Hid (safeColV R C A B = ((((topN (fun x => lowN (payF A C x) R) C).1 : Nat) : Int), -(topN (fun x => lowN (payF A C x) R) C).2, true)) := Lib.hid (by unfold safeColV; rw [OK.out]; simp)
    have X1 : Hid (Box4 (w.alloc (.cells #[.int .i64 R, .int .i64 C, .slice (some ⟨b, off, none⟩) (R * C) c1, .slice (some ⟨b', off', none⟩) (R * C) c2] 27)) w.heap.size 27 (.int .i64 R) (.int .i64 C) (.slice (some ⟨b, off, none⟩) (R * C) c1) (.slice (some ⟨b', off', none⟩) (R * C) c2)) := Lib.hid heap1
    have bw : Below w.heap.size w (w.alloc (.cells #[.int .i64 R, .int .i64 C, .slice (some ⟨b, off, none⟩) (R * C) c1, .slice (some ⟨b', off', none⟩) (R * C) c2] 27)) := below1
    have HC : Hid (∀ i, i < R * C → (w.alloc (.cells #[.int .i64 R, .int .i64 C, .slice (some ⟨b, off, none⟩) (R * C) c1, .slice (some ⟨b', off', none⟩) (R * C) c2] 27)).cell? ⟨b, off + i, none⟩ = some (.int .i64 (A.getD i 0))) := Lib.hid fun i hi => (bw.cell (p := ⟨b, off + i, none⟩) hb).trans (hc i hi)
    have HG := Lib.hid hg
    have BW := Lib.hid bw
    clear hA hB hc hc' hlA hlB hok hgA hg bw
    go_enter Try.func57, Try.ntmps57
    go_wp2_with fail
    refine (specIs_any _ R C _ (R * C) c1 _ (R * C) c2 A B _ X1.out (HA.out.below BW.out) (HB.out.below BW.out)).mono ?_
    rintro e w1 ⟨rfl, n1, rfl⟩
    rw [OK.out]
    obtain ⟨⟨p0, p1, p2, p3⟩, _⟩ := X1.out.all
    go_wp2_with fail
    generalize hW : (w.alloc (.cells #[.int .i64 R, .int .i64 C, .slice (some ⟨b, off, none⟩) (R * C) c1, .slice (some ⟨b', off', none⟩) (R * C) c2] 27)) = W at *
    clear hW
    obtain ⟨len, hlen⟩ : ∃ len, R * C = len := ⟨_, rfl⟩
    rw [hlen] at p2 p3 HC HG hRC
    have HL := Lib.hid hlen
    simp only [hlen]
    clear hlen
    go_loopw [5, 6, 7] (fun ch ms i wr => ∃ (k m : Nat), k ≤ C ∧ i = .int .i64 k ∧ ch = .int .i64 ((specTop (fun x => lowN (payF A C x) R) k).1 : Nat) ∧ ms = .int .i64 (-(specTop (fun x => lowN (payF A C x) R) k).2) ∧ wr = W.drewN m)
      (fun _ _ i _ => C - (intOf i).toNat)
    case atStart => exact ⟨0, n1, Nat.zero_le _, rfl, rfl, rfl, rfl⟩
    case round =>
      obtain ⟨k, m, hk, rfl, rfl, rfl, hw⟩ := hrel
      subst hw
      by_cases hlt : k < C
      · obtain ⟨ct, hct⟩ : ∃ ct : Nat, (specTop (fun x => lowN (payF A C x) R) k).1 = ct := ⟨_, rfl⟩
        obtain ⟨mt, hmt⟩ : ∃ mt, -(specTop (fun x => lowN (payF A C x) R) k).2 = mt := ⟨_, rfl⟩
        rw [hct, hmt]
        have HCT := Lib.hid hct
        have HMT : Hid ((specTop (fun x => lowN (payF A C x) R) k).2 = -mt) := Lib.hid (by omega)
        clear hct hmt
        have hk0 : 0 * C + k < len := by rw [← HL.out]; exact place_lt r1 hlt
        rw [Nat.zero_mul, Nat.zero_add] at hk0
        have hc0 := HC.out _ hk0
        have hb0 := HG.out _ hk0
        have HL1 : Hid (-lowN (payF A C k) 1 = A.getD k 0) := Lib.hid (by
          simp only [lowN, payF, Nat.zero_mul, Nat.zero_add]
          omega)
        generalize A.getD k 0 = v0 at *
        go_wp2_with fail
        go_loopw [8, 9] (fun ls j wj => ∃ (q mm : Nat), 1 ≤ q ∧ q ≤ R ∧ j = .int .i64 q ∧ ls = .int .i64 (-lowN (payF A C k) q) ∧ wj = W.drewN mm)
          (fun _ j _ => R - (intOf j).toNat)
        case atStart => exact ⟨1, _, Nat.le_refl _, r1, rfl, by rw [HL1.out], by first | rfl | exact World.drewN_drewN _ _ _⟩
        case round =>
          obtain ⟨q, mm, hq1, hq, rfl, rfl, hw⟩ := hrel
          subst hw
          by_cases hql : q < R
          · have hql2 : q * C + k < len := by rw [← HL.out]; exact place_lt hql hlt
            have hcq := HC.out _ hql2
            have HS : Hid (-lowN (payF A C k) (q + 1) = max (-lowN (payF A C k) q) (A.getD (q * C + k) 0)) := Lib.hid (by simp only [lowN, payF]; omega)
            obtain ⟨pq, hpq⟩ : ∃ p, q * C = p := ⟨_, rfl⟩
            have hpq' : (q : Int) * (C : Int) = (pq : Int) := by rw [← hpq]; push_cast; rfl
            rw [hpq] at hql2 hcq HS
            clear hpq
            generalize A.getD (pq + k) 0 = vq at *
            obtain ⟨lq, hlq⟩ : ∃ lq, -lowN (payF A C k) q = lq := ⟨_, rfl⟩
            rw [hlq] at HS
            rw [hlq]
            clear hlq
            go_wp2_with (go_at_call 98; refine (max_any _ _ _).mono ?_; rintro e w' ⟨rfl, rfl⟩)
            go_roundw
            case rel => exact ⟨q + 1, mm, by omega, by omega, by go_num, by rw [HS.out], rfl⟩
            case measure => simp [intOf]; omega
          · obtain rfl : q = R := by omega
            obtain ⟨lt, hlt2⟩ : ∃ lt, -lowN (payF A C k) q = lt := ⟨_, rfl⟩
            rw [hlt2]
            have HLT : Hid (lowN (payF A C k) q = -lt) := Lib.hid (by omega)
            clear hlt2
            by_cases hk00 : k = 0
            · subst hk00
              have HT : Hid (specTop (fun x => lowN (payF A C x) q) (0 + 1) = (0, -lt)) := Lib.hid (by rw [specTop_first HG0.out, HLT.out])
              go_wp2_with fail
              go_roundw
              case rel => exact ⟨0 + 1, _, by omega, by go_num, by rw [HT.out], by rw [HT.out]; simp, rfl⟩
              case measure => simp [intOf]; omega
            · have hke : decide ((k : Int) = 0) = false := decide_eq_false (by omega)
              by_cases hgt : lt < mt
              · have HT : Hid (specTop (fun x => lowN (payF A C x) q) (k + 1) = (k, -lt)) := Lib.hid (by rw [specTop_more hk00 (by rw [HMT.out, HLT.out]; omega), HLT.out])
                go_wp2_with fail
                go_roundw
                case rel => exact ⟨k + 1, _, by omega, by go_num, by rw [HT.out], by rw [HT.out]; simp, rfl⟩
                case measure => simp [intOf]; omega
              · have HT : Hid (specTop (fun x => lowN (payF A C x) q) (k + 1) = specTop (fun x => lowN (payF A C x) q) k) := Lib.hid (specTop_less hk00 (by rw [HMT.out, HLT.out]; omega))
                have hd : decide (lt < mt) = false := decide_eq_false hgt
                go_wp2_with fail
                go_roundw
                case rel => exact ⟨k + 1, _, by omega, by go_num, by rw [HT.out, HCT.out], by rw [HT.out, HMT.out]; simp, rfl⟩
                case measure => simp [intOf]; omega
      · obtain rfl : k = C := by omega
        go_wp2_with fail
        go_ret3
        rw [HV.out, specTop_top q1]
        exact ⟨rfl, BW.out.trans (same_below ⟨m, rfl⟩ _)⟩
  | false =>
    have OK := Lib.hid hok
    have HV : Hid (safeColV r c A B = (0, 0, false)) := Lib.hid (by unfold safeColV; rw [OK.out]; simp)
    clear hok hA hB
    go_enter Try.func57, Try.ntmps57
    go_wp2_with fail
    refine (specIs_any _ r c a1 l1 c1 a2 l2 c2 A B _ heap1 (HA.out.below below1) (HB.out.below below1)).mono ?_
    rintro e w1 ⟨rfl, n1, rfl⟩
    rw [OK.out]
    go_wp2_with fail
    go_ret3
    rw [HV.out]
    exact ⟨rfl, below1.trans (same_below ⟨n1, rfl⟩ _)⟩
end Go.Proofs.Ytpopmcgieegikaa
