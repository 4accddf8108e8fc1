/-
  Valid wishes: what they are, the program's look and the reference's.
-/
import Derived.Test.YtklnflmdbgdgjaaSWishes
import Derived.Test.YtklnflmdbgdgjaaDiff
import Derived.Test.YtklnflmdbgdgjaaBetw
import Derived.Test.YtklnflmdbgdgjaaOut
namespace Go.Proofs.Ytklnflmdbgdgjaa
open Go.RowKit Go.ChangeShapes Go.WideShapes
set_option linter.unusedVariables false

/-- a rule of each list, by its number -/
def okRows (rule : Nat → List Int → Bool) (Zs : List (List Int)) : Bool := (List.range Zs.length).all fun i => rule i (Zs.getD i [])
def okLists (P : Nat) (Zs : List (List Int)) : Bool := okRows (fun _ => okDiff P) Zs
def okWish (A B : List (List Int)) : Bool := inB 1 8 A.length && (okLists A.length A && (okLists A.length B && decide (B.length = A.length)))
theorem okRows_bad {rule : Nat → List Int → Bool} {Zs : List (List Int)} {k : Nat} (hk : k < Zs.length) (h : rule k (Zs.getD k []) = false) : okRows rule Zs = false := by
  unfold okRows
  rw [List.all_eq_false]
  exact ⟨k, List.mem_range.2 hk, by rw [h]; simp⟩
theorem okRows_all {rule : Nat → List Int → Bool} {Zs : List (List Int)} (h : ∀ j, j < Zs.length → rule j (Zs.getD j []) = true) : okRows rule Zs = true :=
  List.all_eq_true.2 fun j hj => h j (List.mem_range.1 hj)
theorem okRows_at {rule : Nat → List Int → Bool} {Zs : List (List Int)} (h : okRows rule Zs = true) {j : Nat} (hj : j < Zs.length) : rule j (Zs.getD j []) = true :=
  List.all_eq_true.1 h j (List.mem_range.2 hj)

/-! ## the reference -/
theorem has_at (b off len cap : Nat) (zs : List Int) (x : Int) (w : World) (hl : len ≤ maxLen) (hz : zs.length = len)
    (hc : ∀ i, i < len → w.cell? ⟨b, off + i, none⟩ = some (.int .i64 (zs.getD i 0))) :
    Calls Try.prog 50 #[.slice (some ⟨b, off, none⟩) len cap, .int .i64 x] w fun e w' => e = .returned (.bool (decide (x ∈ zs))) ∧ w = w' := by
  have HC := Lib.hid hc
  have HZ := Lib.hid hz
  clear hc hz
  unfold maxLen at hl
  go_enter Try.func50, Try.ntmps50
  go_wp2
  go_loop [5] (fun i => ∃ k : Nat, k ≤ len ∧ i = .int .i64 k ∧ Hid (∀ j, j < k → zs.getD j 0 ≠ x)) (fun i => len - (intOf i).toNat)
  case atStart => exact ⟨0, Nat.zero_le _, rfl, Lib.hid (fun j hj => absurd hj (by omega))⟩
  case round =>
    obtain ⟨k, hk, rfl, H⟩ := hrel
    by_cases hlt : k < len
    · have hsrc := HC.out k hlt
      have hmem : zs.getD k 0 ∈ zs := by
        have hk' : k < zs.length := by have := HZ.out; omega
        have e : zs.getD k 0 = zs[k] := by simp [List.getD, hk']
        rw [e]
        exact List.getElem_mem hk'
      have HM := Lib.hid hmem
      have HN : Hid (zs.getD k 0 ≠ x → ∀ j, j < k + 1 → zs.getD j 0 ≠ x) := Lib.hid fun h j hj => by
        by_cases e : j = k
        · rw [e]; exact h
        · exact H.out j (by omega)
      clear hmem H
      obtain ⟨v, hv⟩ : ∃ v, zs.getD k 0 = v := ⟨_, rfl⟩
      rw [hv] at hsrc HM HN
      clear hv
      by_cases hx : v = x
      · subst hx
        go_wp2
        go_ret
        exact ⟨by rw [decide_eq_true HM.out]; rfl, rfl⟩
      · have hb : (v == x) = false := by rw [beq_eq_false_iff_ne]; exact hx
        have HN' := Lib.hid (HN.out hx)
        clear HN hx HM
        go_wp2
        go_round
        case rel => exact ⟨k + 1, by omega, by go_num, HN'⟩
        case measure => simp [intOf]; omega
    · have HE : Hid (decide (x ∈ zs) = false) := Lib.hid (decide_eq_false fun hm => by
        obtain ⟨j, hj, e⟩ := List.getElem_of_mem hm
        have := H.out j (by have := HZ.out; omega)
        rw [List.getD_eq_getElem?_getD, List.getElem?_eq_getElem hj] at this
        exact this e)
      go_wp2
      go_ret
      exact ⟨by rw [HE.out]; rfl, rfl⟩

theorem has_none (a : Option Addr) (cap : Nat) (x : Int) (w : World) :
    Calls Try.prog 50 #[.slice a 0 cap, .int .i64 x] w fun e w' => e = .returned (.bool false) ∧ w = w' := by
  go_enter Try.func50, Try.ntmps50
  go_wp2
  go_loop [5] (fun i => i = .int .i64 0) (fun _ => 0)
  case atStart => exact rfl
  case round =>
    obtain rfl := hrel
    go_wp2
    go_ret
    exact ⟨rfl, rfl⟩

theorem has_any (a : Option Addr) (len cap : Nat) (zs : List Int) (x : Int) (w : World) (h : IAt w a len zs) :
    Calls Try.prog 50 #[.slice a len cap, .int .i64 x] w fun e w' => e = .returned (.bool (decide (x ∈ zs))) ∧ w = w' := by
  obtain ⟨h1, h2, h3, rfl | ⟨b, off, rfl, hb, hc⟩⟩ := h
  · obtain rfl := List.eq_nil_of_length_eq_zero h1
    exact (has_none a cap x w).mono fun e w' h => by simpa using h
  · exact has_at b off len cap zs x w h2 h1 hc

/-- the first k of a list that is read -/
theorem IAt.first {w : World} {a : Option Addr} {len k : Nat} {zs : List Int} (h : IAt w a len zs) (hk : k ≤ len) : IAt w a k (zs.take k) := by
  obtain ⟨h1, h2, h3, h4⟩ := h
  refine ⟨by simp; omega, by omega, fun z hz => h3 z (List.mem_of_mem_take hz), ?_⟩
  rcases h4 with rfl | ⟨b, off, rfl, hb, hc⟩
  · exact .inl (by omega)
  · refine .inr ⟨b, off, rfl, hb, fun i hi => ?_⟩
    rw [hc i (by omega)]
    simp [List.getD, hi]

set_option maxHeartbeats 1000000 in
set_option maxRecDepth 20000 in
theorem specLists_at (b off len cap P : Nat) (Zs : List (List Int)) (w : World) (hP : 1 ≤ P) (hP8 : P ≤ 8) (hm : len ≤ maxLen) (hL : Zs.length = len)
    (hr : ∀ i, i < len → ∃ ai ci, w.cell? ⟨b, off + i, none⟩ = some (.slice ai (rl Zs i) ci) ∧ Fits ai (rl Zs i) ci ∧ IAt w ai (rl Zs i) (Zs.getD i [])) :
    Calls Try.prog 38 #[.slice (some ⟨b, off, none⟩) len cap, .int .i64 P] w fun e w' => e = .returned (.bool (okLists P Zs && decide (Zs.length = P))) ∧ Same w w' := by
  have HR := Lib.hid hr
  have HL := Lib.hid hL
  clear hr hL
  unfold maxLen at hm
  go_enter Try.func38, Try.ntmps38
  go_wp2
  go_loopw [9] (fun i wr => ∃ r m : Nat, r ≤ len ∧ i = .int .i64 r ∧ Hid (wr = w.drewN m) ∧ Hid (∀ j, j < r → okDiff P (Zs.getD j []) = true)) (fun i _ => len - (intOf i).toNat)
  case atStart => exact ⟨0, 0, Nat.zero_le _, rfl, Lib.hid rfl, Lib.hid (fun j hj => absurd hj (by omega))⟩
  case round =>
    obtain ⟨r, m, hr, rfl, HW, H⟩ := hrel
    by_cases hlt : r < len
    · obtain ⟨ai, ci, hs, ⟨hle, _⟩, hz⟩ := HR.out r hlt
      have hrow : wr.cell? ⟨b, off + r, none⟩ = some (.slice ai (rl Zs r) ci) := by rw [HW.out]; exact hs
      have HBAD : Hid (okDiff P (Zs.getD r []) = false → okLists P Zs = false) := Lib.hid fun h => okRows_bad (by have := HL.out; omega) h
      have HNX : Hid (okDiff P (Zs.getD r []) = true → ∀ j, j < r + 1 → okDiff P (Zs.getD j []) = true) := Lib.hid fun h j hj => by
        by_cases e : j = r
        · rw [e]; exact h
        · exact H.out j (by omega)
      have HZ : Hid (IAt wr ai (rl Zs r) (Zs.getD r [])) := Lib.hid (by rw [HW.out]; exact hz.below (same_below ⟨m, rfl⟩ _))
      have hlm : rl Zs r ≤ maxLen := hz.2.1
      have hZl : (Zs.getD r []).length = rl Zs r := rfl
      clear hs hz H
      generalize Zs.getD r [] = Z at *
      generalize rl Zs r = l at *
      have HZL := Lib.hid hZl
      clear hZl
      unfold maxLen at hlm
      obtain ⟨wo, hwo⟩ : ∃ wo : World, wo = wr := ⟨_, rfl⟩
      subst hwo
      go_wp2
      go_loopw [17] (fun i wr => ∃ k m2 : Nat, k ≤ l ∧ i = .int .i64 k ∧ Hid (wr = wo.drewN m2) ∧ Hid (∀ j, j < k → okAt P Z j = true)) (fun i _ => l - (intOf i).toNat)
      case atStart => exact ⟨0, 0, Nat.zero_le _, rfl, Lib.hid rfl, Lib.hid (fun j hj => absurd hj (by omega))⟩
      case round =>
        obtain ⟨k, m2, hk, rfl, HW2, H⟩ := hrel
        have hrow2 : wr.cell? ⟨b, off + r, none⟩ = some (.slice ai l ci) := by rw [HW2.out]; exact hrow
        by_cases hlt2 : k < l
        · have HZ2 : Hid (IAt wr ai l Z) := Lib.hid (by rw [HW2.out]; exact HZ.out.below (same_below ⟨m2, rfl⟩ _))
          obtain ⟨bi, oi, hai, _, hci⟩ : ∃ b off, ai = some ⟨b, off, none⟩ ∧ b < wr.heap.size ∧ ∀ i, i < l → wr.cell? ⟨b, off + i, none⟩ = some (.int .i64 (Z.getD i 0)) := by
            rcases HZ2.out.2.2.2 with e | g
            · omega
            · exact g
          subst hai
          have hcell := hci k hlt2
          have hcap : ¬ ci = 0 := by omega
          have HF := Lib.hid (HZ2.out.first (k := k) (by omega))
          have HA := Lib.hid (okAt_mem H.out (show k < Z.length by have := HZL.out; omega))
          have HN2 : Hid (okAt P Z k = true → ∀ j, j < k + 1 → okAt P Z j = true) := Lib.hid fun h j hj => by
            by_cases e : j = k
            · rw [e]; exact h
            · exact H.out j (by omega)
          have HB2 : Hid (okAt P Z k = false → okLists P Zs = false) := Lib.hid fun h => HBAD.out (okDiff_bad (by have := HZL.out; omega) h)
          clear hci H hrow
          obtain ⟨v, hv⟩ : ∃ v, Z.getD k 0 = v := ⟨_, rfl⟩
          rw [hv] at hcell HA
          clear hv
          cases hi : inB 0 ((P : Int) - 1) v with
          | false =>
            have E : Hid (okLists P Zs = false) := Lib.hid (HB2.out (by
              rw [HA.out]
              rcases inB_false.1 hi with h | h
              · rw [decide_eq_false (by omega)]; rfl
              · rw [decide_eq_false (show ¬ v < (P : Int) by omega)]; simp))
            have HI := Lib.hid hi
            clear hi HB2 HA HN2 HNX HBAD
            go_wp2
            go_quiet ((go_at_call 49; refine (inR_any _ _ _ _).mono ?_; rintro e w2 ⟨rfl, h2⟩; rw [HI.out]; exact ⟨rfl, _, h2.symm⟩))
            go_wp2
            go_ret
            exact ⟨by rw [E.out]; rfl, m + (m2 + nq), by rw [HW2.out, HW.out]; rw [World.drewN_drewN, World.drewN_drewN]⟩
          | true =>
            obtain ⟨i1, i2⟩ := inB_true.1 hi
            have HI := Lib.hid hi
            cases hh : decide (v ∈ Z.take k) with
            | true =>
              have E : Hid (okLists P Zs = false) := Lib.hid (HB2.out (by rw [HA.out, hh]; simp))
              have HH := Lib.hid hh
              clear hi hh HB2 HA HN2 HNX HBAD
              go_wp2
              go_quiet (first
                | (go_at_call 49; refine (inR_any _ _ _ _).mono ?_; rintro e w2 ⟨rfl, h2⟩; rw [HI.out]; exact ⟨rfl, _, h2.symm⟩)
                | (rw [if_neg hcap]; go_at_call 50; refine (has_any _ _ _ _ _ _ (HF.out.below (same_below ⟨_, rfl⟩ _))).mono ?_; rintro e w2 ⟨rfl, h2⟩; rw [HH.out]; exact ⟨rfl, _, h2.symm⟩)
                | (go_at_call 50; refine (has_any _ _ _ _ _ _ (HF.out.below (same_below ⟨_, rfl⟩ _))).mono ?_; rintro e w2 ⟨rfl, h2⟩; rw [HH.out]; exact ⟨rfl, _, h2.symm⟩))
              go_wp2
              go_ret
              exact ⟨by rw [E.out]; rfl, m + (m2 + nq), by rw [HW2.out, HW.out]; rw [World.drewN_drewN, World.drewN_drewN]⟩
            | false =>
              have HN3 := Lib.hid (HN2.out (by rw [HA.out, hh, decide_eq_true i1, decide_eq_true (show v < (P : Int) by omega)]; rfl))
              have HH := Lib.hid hh
              clear hi hh HB2 HA HN2
              go_wp2
              go_quiet (first
                | (go_at_call 49; refine (inR_any _ _ _ _).mono ?_; rintro e w2 ⟨rfl, h2⟩; rw [HI.out]; exact ⟨rfl, _, h2.symm⟩)
                | (go_at_call 50; refine (has_any _ _ _ _ _ _ (HF.out.below (same_below ⟨_, rfl⟩ _))).mono ?_; rintro e w2 ⟨rfl, h2⟩; rw [HH.out]; exact ⟨rfl, _, h2.symm⟩))
              go_wp2
              go_roundw
              case rel => exact ⟨k + 1, m2 + nq, by omega, by go_num, Lib.hid (by rw [HW2.out]; exact World.drewN_drewN _ _ _), HN3⟩
              case measure => simp [intOf]; omega
        · obtain rfl : k = l := by omega
          have HOK := Lib.hid (HNX.out (okDiff_all (by rw [HZL.out]; exact H.out)))
          go_wp2
          go_roundw
          case rel => exact ⟨r + 1, m + m2, by omega, by go_num, Lib.hid (by rw [HW2.out, HW.out]; exact World.drewN_drewN _ _ _), HOK⟩
          case measure => simp [intOf]; omega
    · obtain rfl : r = len := by omega
      have HE : Hid (okLists P Zs = true) := Lib.hid (okRows_all (by rw [HL.out]; exact H.out))
      by_cases hq : r = P
      · subst hq
        go_wp2
        go_ret
        exact ⟨by rw [HE.out, HL.out]; simp, m, HW.out⟩
      · have hqb : ((r : Int) == (P : Int)) = false := by rw [beq_eq_false_iff_ne]; omega
        go_wp2
        go_ret
        exact ⟨by rw [HE.out, HL.out, decide_eq_false hq]; rfl, m, HW.out⟩

theorem specLists_none (a : Option Addr) (cap P : Nat) (w : World) (hP : 1 ≤ P) (hP8 : P ≤ 8) :
    Calls Try.prog 38 #[.slice a 0 cap, .int .i64 P] w fun e w' => e = .returned (.bool false) ∧ Same w w' := by
  have hqb : (((0 : Nat) : Int) == (P : Int)) = false := by rw [beq_eq_false_iff_ne]; omega
  have hqc : ((0 : Int) == (P : Int)) = false := by rw [beq_eq_false_iff_ne]; omega
  go_enter Try.func38, Try.ntmps38
  go_wp2
  go_loop [9] (fun i => i = .int .i64 0) (fun _ => 0)
  case atStart => exact rfl
  case round =>
    obtain rfl := hrel
    go_wp2
    go_ret
    exact ⟨rfl, 0, rfl⟩

theorem specLists_any (a : Option Addr) (len cap P : Nat) (Zs : List (List Int)) (w : World) (hP : 1 ≤ P) (hP8 : P ≤ 8) (h : RAt w a len Zs) :
    Calls Try.prog 38 #[.slice a len cap, .int .i64 P] w fun e w' => e = .returned (.bool (okLists P Zs && decide (Zs.length = P))) ∧ Same w w' := by
  obtain ⟨h1, h2, rfl | ⟨b, off, rfl, hb, hr⟩⟩ := h
  · obtain rfl := List.eq_nil_of_length_eq_zero h1
    refine (specLists_none a cap P w hP hP8).mono ?_
    rintro e w' ⟨rfl, hs⟩
    have : decide ((([] : List (List Int)).length) = P) = false := decide_eq_false (by simp; omega)
    exact ⟨by rw [this, Bool.and_false], hs⟩
  · exact specLists_at b off len cap P Zs w hP hP8 h2 h1 hr

set_option maxRecDepth 20000 in
theorem specIs_any (n : Nat) (T : TypeId) (a1 : Option Addr) (l1 c1 : Nat) (a2 : Option Addr) (l2 c2 : Nat) (A B : List (List Int)) (w : World) (hx : Box2 w n T (.slice a1 l1 c1) (.slice a2 l2 c2)) (h : WAt w a1 l1 a2 l2 A B) :
    Calls Try.prog 23 #[.pointer (some ⟨n, 0, none⟩)] w fun e w' => e = .returned (.bool (okWish A B)) ∧ Same w w' := by
  obtain ⟨hA, hB⟩ := h
  have hlA := hA.1
  have hlB := hB.1
  have hm := hA.2.1
  obtain ⟨⟨p0, p1⟩, _⟩ := hx.all
  have HA := Lib.hid hA
  have HB := Lib.hid hB
  unfold maxLen at hm
  have HX := Lib.hid hx
  clear hA hB hx
  cases s1 : inB 1 8 (l1 : Int) with
  | false =>
    have E : Hid (okWish A B = false) := Lib.hid (by unfold okWish; rw [hlA, s1]; rfl)
    rw [E.out]
    clear hlA hlB
    rcases inB_false.1 s1 with g | g
    all_goals
      clear s1
      go_enter Try.func23, Try.ntmps23
      go_wp2
      go_ret
      exact ⟨rfl, 0, rfl⟩
  | true =>
    obtain ⟨g1, g2⟩ := inB_true.1 s1
    have h1 : 1 ≤ l1 := by omega
    have h8 : l1 ≤ 8 := by omega
    have E : Hid (okWish A B = (okLists l1 A && (okLists l1 B && decide (B.length = l1)))) := Lib.hid (by unfold okWish; rw [hlA, s1]; rfl)
    have EA : Hid (decide (A.length = l1) = true) := Lib.hid (decide_eq_true hlA)
    rw [E.out]
    clear s1 hlA hlB
    cases s2 : okLists l1 A with
    | false =>
      have S2 := Lib.hid s2
      clear s2
      go_enter Try.func23, Try.ntmps23
      go_wp2_with fail
      refine (specLists_any a1 l1 c1 l1 A _ h1 h8 HA.out).mono ?_
      rintro e w1 ⟨rfl, n1, rfl⟩
      rw [S2.out]
      go_wp2_with fail
      go_ret
      exact ⟨rfl, n1, rfl⟩
    | true =>
      have S2 := Lib.hid s2
      clear s2
      go_enter Try.func23, Try.ntmps23
      go_wp2_with fail
      refine (specLists_any a1 l1 c1 l1 A _ h1 h8 HA.out).mono ?_
      rintro e w1 ⟨rfl, n1, rfl⟩
      rw [S2.out, EA.out]
      go_wp2_with fail
      refine (specLists_any a2 l2 c2 l1 B _ h1 h8 (HB.out.below (same_below ⟨n1, rfl⟩ _))).mono ?_
      rintro e w2 ⟨rfl, n2, rfl⟩
      generalize hz : (okLists l1 B && decide (B.length = l1)) = z
      have HZ := Lib.hid hz
      clear hz
      go_wp2_with fail
      go_ret
      first
        | exact ⟨by rw [HZ.out]; rfl, n1 + n2, World.drewN_drewN _ _ _⟩
        | exact ⟨by rw [HZ.out]; rfl, n1 + n2, rfl⟩

theorem specValidWishes_any (a1 : Option Addr) (l1 c1 : Nat) (a2 : Option Addr) (l2 c2 : Nat) (A B : List (List Int)) (w : World) (h : WAt w a1 l1 a2 l2 A B) :
    Calls Try.prog 8 #[wishesV a1 l1 c1 a2 l2 c2] w (BoolOut w (okWish A B)) := by
  have HA := Lib.hid (h.below (below1 (o := .cells #[.slice a1 l1 c1, .slice a2 l2 c2] 27)))
  clear h
  go_enter Try.func8, Try.ntmps8
  go_wp2_with fail
  refine (specIs_any w.heap.size 27 a1 l1 c1 a2 l2 c2 A B _ heap1 HA.out).mono ?_
  rintro e w1 ⟨rfl, n1, rfl⟩
  go_wp2_with fail
  go_ret
  exact ⟨rfl, below1.trans (same_below ⟨_, rfl⟩ _)⟩

/-! ## the program -/
/-- a closure that tells of each list, by its number -/
def TellR (w : World) (g : Nat) (caps : Array Value) (rule : Nat → List Int → Bool) (Zs : List (List Int)) : Prop :=
  ∀ W, Below w.heap.size w W → ∀ i a c, i < Zs.length → rl Zs i ≤ c → IAt W a (rl Zs i) (Zs.getD i []) →
    Calls Try.prog g (#[.int .i64 i, .slice a (rl Zs i) c] ++ caps) W fun e W' => e = .returned (.bool (rule i (Zs.getD i []))) ∧ Below W.heap.size W W'

theorem areLists_no (a : Option Addr) (len cap : Nat) (f : Value) (w : World) (h : inB 1 8 (len : Int) = false) :
    Calls Try.prog 27 #[.slice a len cap, .int .i64 8, f] w fun e w' => e = .returned (.bool false) ∧ w = w' := by
  have H := Lib.hid h
  clear h
  go_enter Try.func27, Try.ntmps27
  go_wp2_with (go_at_call 42; refine (isBetween_any _ _ _ _).mono ?_; rintro e w' ⟨rfl, rfl⟩; rw [H.out])
  go_ret
  exact ⟨rfl, rfl⟩

set_option maxHeartbeats 1000000 in
set_option maxRecDepth 20000 in
theorem areLists_any (a : Option Addr) (len cap g : Nat) (caps : Array Value) (rule : Nat → List Int → Bool) (Zs : List (List Int)) (w : World) (h : RAt w a len Zs)
    (he : ∀ args w, (callFunc g args).run Try.prog w = .ok (.enter g args) w) (hf : len ≤ 8 → TellR w g caps rule Zs) :
    Calls Try.prog 27 #[.slice a len cap, .int .i64 8, .func (.func g) #[] caps] w fun e w' => e = .returned (.bool (inB 1 8 (len : Int) && okRows rule Zs)) ∧ Below w.heap.size w w' := by
  cases s1 : inB 1 8 (len : Int) with
  | false =>
    refine (areLists_no a len cap _ w s1).mono ?_
    rintro e w' ⟨rfl, rfl⟩
    exact ⟨by rw [Bool.false_and], Below.refl _ _⟩
  | true =>
    obtain ⟨g1, g2⟩ := inB_true.1 s1
    have HF := Lib.hid (hf (by omega))
    have HE := Lib.hid he
    have S1 := Lib.hid s1
    obtain ⟨hL, hm, h0 | ⟨b, off, rfl, hb, hr⟩⟩ := h
    · omega
    have HL := Lib.hid hL
    have HR := Lib.hid hr
    clear hf he s1 hL hr hm
    rw [Bool.true_and]
    go_enter Try.func27, Try.ntmps27
    go_wp2_with (go_at_call 42; refine (isBetween_any _ _ _ _).mono ?_; rintro e w' ⟨rfl, rfl⟩; rw [S1.out])
    go_loopw [16] (fun q wr => ∃ k : Nat, k ≤ len ∧ q = .int .i64 k ∧ Hid (∀ j, j < k → rule j (Zs.getD j []) = true) ∧ Hid (Below w.heap.size w wr)) (fun q _ => len - (intOf q).toNat)
    case atStart => exact ⟨0, Nat.zero_le _, rfl, Lib.hid (fun j hj => absurd hj (by omega)), Lib.hid (Below.refl _ _)⟩
    case round =>
      obtain ⟨k, hk, rfl, H, HW⟩ := hrel
      by_cases hlt : k < len
      · obtain ⟨ai, ci, hs, ⟨hle, _⟩, hz⟩ := HR.out k hlt
        have hrow : wr.cell? ⟨b, off + k, none⟩ = some (.slice ai (rl Zs k) ci) := (HW.out.cell (p := ⟨b, off + k, none⟩) hb).trans hs
        have HC := Lib.hid (HF.out wr HW.out k ai ci (by have := HL.out; omega) hle (hz.below HW.out))
        have HB : Hid (rule k (Zs.getD k []) = false → okRows rule Zs = false) := Lib.hid fun h => okRows_bad (by have := HL.out; omega) h
        have HN : Hid (rule k (Zs.getD k []) = true → ∀ j, j < k + 1 → rule j (Zs.getD j []) = true) := Lib.hid fun h j hj => by
          by_cases e : j = k
          · rw [e]; exact h
          · exact H.out j (by omega)
        clear hs hle hz H
        generalize rule k (Zs.getD k []) = v at *
        generalize rl Zs k = l at *
        cases v with
        | false =>
          have E := Lib.hid (HB.out rfl)
          clear HB HN
          go_wp2_with fail
          rw [HE.out]
          refine HC.out.mono ?_
          rintro e w2 ⟨rfl, b2⟩
          have HW2 := Lib.hid (below_after HW.out (Nat.le_refl _) b2)
          clear b2
          go_wp2_with fail
          go_ret
          exact ⟨by rw [E.out]; rfl, HW2.out⟩
        | true =>
          have H2 := Lib.hid (HN.out rfl)
          clear HB HN
          go_wp2_with fail
          rw [HE.out]
          refine HC.out.mono ?_
          rintro e w2 ⟨rfl, b2⟩
          have HW2 := Lib.hid (below_after HW.out (Nat.le_refl _) b2)
          clear b2
          go_wp2_with fail
          go_roundw
          case rel => exact ⟨k + 1, by omega, by go_num, H2, HW2⟩
          case measure => simp [intOf]; omega
      · obtain rfl : k = len := by omega
        have HX : Hid (okRows rule Zs = true) := Lib.hid (okRows_all (by rw [HL.out]; exact H.out))
        go_wp2_with fail
        go_ret
        exact ⟨by rw [HX.out]; rfl, HW.out⟩

theorem enters_valid1 : ∀ args w, (callFunc 25 args).run Try.prog w = .ok (.enter 25 args) w := fun args w => rfl

theorem tellValid (n : Nat) (T : TypeId) (a1 : Option Addr) (l1 c1 : Nat) (v : Value) (Zs : List (List Int)) (w : World) (h8 : l1 ≤ 8) (hx : Box2 w n T (.slice a1 l1 c1) v) :
    TellR w 25 #[.pointer (some ⟨n, 0, none⟩)] (fun _ => okDiff l1) Zs := by
  intro W hW i a c hi hc hz
  obtain ⟨⟨p0, p1⟩, _⟩ := (hx.below (hW.mono (Nat.le_refl _))).all
  have HZ := Lib.hid hz
  clear hz hx hi
  generalize Zs.getD i [] = Z at *
  generalize rl Zs i = l at *
  show Calls Try.prog 25 #[.int .i64 i, .slice a l c, .pointer (some ⟨n, 0, none⟩)] W _
  go_enter Try.func25, Try.ntmps25
  go_wp2_with fail
  refine (areDifferent_any a l c l1 Z _ h8 HZ.out).mono ?_
  rintro e w' ⟨rfl, rfl⟩
  go_wp2_with fail
  go_ret
  exact ⟨rfl, Below.refl _ _⟩
end Go.Proofs.Ytklnflmdbgdgjaa
