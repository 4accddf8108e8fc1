/-
  IsFreeUpToOne: the best thing of a part, the program's closure, the reference's sums.
-/
import Derived.Test.YtkgjfockechniaaTPairsB
import Derived.Test.YtkgjfockechniaaLawKit
namespace Go.Proofs.Ytkgjfockechniaa
open Go.RowKit Go.ChangeShapes Go.WideShapes
set_option linter.unusedVariables false

/-- the best of the things below n, at least 0 -/
def bestN (f : Nat → Int) (j : Int) (O : List Int) : Nat → Int
  | 0 => 0
  | n + 1 => if O.getD n 0 = j then max (bestN f j O n) (f n) else bestN f j O n
theorem bestN_in (f : Nat → Int) (j : Int) (O : List Int) (c : Int) (hc : 0 ≤ c) (n : Nat) (h : ∀ k, k < n → 0 ≤ f k ∧ f k ≤ c) : 0 ≤ bestN f j O n ∧ bestN f j O n ≤ c := by
  induction n with
  | zero => simp [bestN, hc]
  | succ n ih =>
    have h1 := ih fun k hk => h k (by omega)
    have h2 := h n (by omega)
    unfold bestN
    split <;> omega
theorem best_to (f : Nat → Int) (j : Int) (O : List Int) (q : Nat) (hq : q ≤ O.length) (h : ∀ k, k < O.length → 0 ≤ f k) : keyOr (fun x : Thing j O => f x.1) (bestL (fun x : Thing j O => f x.1) (thingsTo j O q)) = bestN f j O q := by
  induction q with
  | zero => rfl
  | succ q ih =>
    have ih := ih (by omega)
    by_cases e : O.getD q 0 = j
    · rw [thingsTo_yes ⟨by omega, e⟩, bestL_snoc, bestN, if_pos e, ← ih]
      have h0 := h q (by omega)
      cases hb : bestL (fun x : Thing j O => f x.1) (thingsTo j O q) with
      | none =>
        simp only [bestStep, keyOr]
        omega
      | some b =>
        simp only [bestStep]
        by_cases g : f b.1 < f q
        · rw [if_pos g]; simp only [keyOr]; omega
        · rw [if_neg g]; simp only [keyOr]; omega
    · rw [thingsTo_no e, bestN, if_neg e, ih]

def bestW (A : List Int) (T i : Nat) (j : Int) (O : List Int) : Int := bestN (wAt A T i) j O O.length
theorem bestW_in {A : List Int} {P T i : Nat} {j : Int} {O : List Int} (h : okAll 0 1000 A = true) (hl : A.length = P * T) (hi : i < P) (hO : O.length ≤ T) : 0 ≤ bestW A T i j O ∧ bestW A T i j O ≤ 1000 :=
  bestN_in _ _ _ _ (by omega) _ fun k hk => wAt_in h hl hi (by omega)

theorem max2_any (a b : Int) (w : World) :
    Calls Try.prog 106 #[.int .i64 a, .int .i64 b] w fun e w' => e = .returned (.int .i64 (max a b)) ∧ w = w' := by
  by_cases h : b < a
  · have e : max a b = a := by omega
    rw [e]
    clear e
    go_enter Try.func106, Try.ntmps106
    go_wp2
    go_ret
    exact ⟨rfl, rfl⟩
  · have e : max a b = b := by omega
    rw [e]
    clear e
    go_enter Try.func106, Try.ntmps106
    go_wp2
    go_ret
    exact ⟨rfl, rfl⟩

theorem specBestW_any (m P T i : Nat) (a1 : Option Addr) (l1 c1 : Nat) (A : List Int) (j : Int) (ao : Option Addr) (lo co : Nat) (O : List Int) (w : World) (hx : Box3 w m 27 (.int .i64 (P : Nat)) (.int .i64 (T : Nat)) (.slice a1 l1 c1)) (hv : VOk w P T a1 l1 c1 A) (hi : i < P) (hO : IAt w ao lo O) (hlt : lo ≤ T) :
    Calls Try.prog 73 #[.pointer (some ⟨m, 0, none⟩), .slice ao lo co, .int .i64 i, .int .i64 j] w fun e w' => e = .returned (.int .i64 (bestW A T i j O)) ∧ Same w w' := by
  obtain ⟨b, off, rfl, hb, hc⟩ := hv.at_
  obtain ⟨hl, hl1, hl48⟩ := hv.l48
  obtain ⟨⟨p0, p1, p2⟩, _⟩ := hx.all
  have ht8 := hv.t8
  have hi6 : i < 6 := by have := hv.p6; omega
  obtain ⟨f, g, e1, -, e3, -, -⟩ := row_prod (T := T) hi
  have HV := Lib.hid hv
  have HL := Lib.hid hO.1
  have HO := Lib.hid hO.2.2.2
  have hf1 : ∀ k, k < lo → f + k < l1 := fun k hk => by rw [← e3, hl]; exact row_lt hi (by omega)
  have hf2 : f ≤ 48 := by
    have := row_lt (T := T) (k := 0) hi (by have := hv.t1; omega)
    omega
  have HF := Lib.hid hf1
  have HC := Lib.hid hc
  have HE := Lib.hid e3
  clear hO hx hv hc hf1 e3 hl
  go_enter Try.func73, Try.ntmps73
  go_wp2
  go_loopw [9, 10] (fun s q wr => ∃ (k n : Nat), k ≤ lo ∧ q = .int .i64 k ∧ s = .int .i64 (bestN (wAt A T i) j O k) ∧ wr = w.drewN n) (fun _ q _ => lo - (intOf q).toNat)
  case atStart => exact ⟨0, 0, Nat.zero_le _, rfl, rfl, rfl⟩
  case round =>
    obtain ⟨k, n, hk, rfl, rfl, hw⟩ := hrel
    by_cases hlt2 : k < lo
    · obtain ⟨bo, oo, rfl, -, hco⟩ : ∃ b off, ao = some ⟨b, off, none⟩ ∧ b < w.heap.size ∧ ∀ i, i < lo → w.cell? ⟨b, off + i, none⟩ = some (.int .i64 (O.getD i 0)) := by
        rcases HO.out with e | g
        · omega
        · exact g
      have hsrc : wr.cell? ⟨bo, oo + k, none⟩ = some (.int .i64 (O.getD k 0)) := by rw [hw]; exact hco k hlt2
      have s0 : wr.cell? ⟨m, 0, none⟩ = some (.int .i64 P) := by rw [hw]; exact p0
      have s1 : wr.cell? ⟨m, 1, none⟩ = some (.int .i64 T) := by rw [hw]; exact p1
      have s2 : wr.cell? ⟨m, 2, none⟩ = some (.slice (some ⟨b, off, none⟩) l1 c1) := by rw [hw]; exact p2
      clear hco
      by_cases e : O.getD k 0 = j
      · have hkl := HF.out k hlt2
        have hcw : wr.cell? ⟨b, off + (f + k), none⟩ = some (.int .i64 (wAt A T i k)) := by
          rw [hw]
          have := HC.out (f + k) hkl
          unfold wAt
          rw [HE.out]
          exact this
        have hsn : bestN (wAt A T i) j O (k + 1) = max (bestN (wAt A T i) j O k) (wAt A T i k) := by rw [bestN, if_pos e]
        rw [e] at hsrc
        have hjj : (j == j) = true := beq_self_eq_true j
        have HSN := Lib.hid hsn
        have HWW := Lib.hid hw
        clear e hsn hw p0 p1 p2
        generalize wAt A T i k = v at *
        generalize bestN (wAt A T i) j O k = s at *
        go_wp2_with fail
        go_quiet ((go_at_call 106; refine (max2_any _ _ _).mono ?_; rintro e w2 ⟨rfl, h2⟩; exact ⟨rfl, _, h2.symm⟩))
        go_wp2
        go_roundw
        case rel => exact ⟨k + 1, n + nq, by omega, by go_num, by rw [HSN.out], by rw [HWW.out]; exact World.drewN_drewN _ _ _⟩
        case measure => simp [intOf]; omega
      · have hne : (O.getD k 0 == j) = false := by simpa using e
        have hsn : bestN (wAt A T i) j O (k + 1) = bestN (wAt A T i) j O k := by rw [bestN, if_neg e]
        have HSN := Lib.hid hsn
        have HWW := Lib.hid hw
        clear e hsn hw p0 p1 p2
        generalize O.getD k 0 = u at *
        go_wp2
        go_roundw
        case rel => exact ⟨k + 1, n, by omega, by go_num, by rw [HSN.out], HWW.out⟩
        case measure => simp [intOf]; omega
    · obtain rfl : k = lo := by omega
      have HP : Hid (bestN (wAt A T i) j O k = bestW A T i j O) := Lib.hid (by unfold bestW; rw [HL.out])
      have HWW := Lib.hid hw
      clear hw
      go_wp2
      go_ret
      exact ⟨by rw [HP.out]; rfl, n, HWW.out⟩

def upB (A : List Int) (T : Nat) (O : List Int) (i j : Nat) : Bool := decide (envyF A T O i j ≤ bestW A T i j O)

theorem below_of_two {w wa : World} {o p : Obj} (h : wa = (w.alloc o).alloc p) : Below w.heap.size w wa := by rw [h]; exact below2
theorem boxes_of_two {w wa : World} {o p : Obj} (h : wa = (w.alloc o).alloc p) : wa.heap[w.heap.size]? = some o ∧ wa.heap[w.heap.size + 1]? = some p := by rw [h]; exact ⟨heap2a, heap2b⟩
theorem keepUp {w0 w w' : World} {m n : Nat} {v0 v1 v2 u : Value} (h : Hid (Below w0.heap.size w0 w) ∧ (w.cell? ⟨m, 0, none⟩ = some v0 ∧ w.cell? ⟨m, 1, none⟩ = some v1 ∧ w.cell? ⟨m, 2, none⟩ = some v2) ∧ w.cell? ⟨n, 0, none⟩ = some u) (hb : Hid (Below w.heap.size w w')) :
    Hid (Below w0.heap.size w0 w') ∧ (w'.cell? ⟨m, 0, none⟩ = some v0 ∧ w'.cell? ⟨m, 1, none⟩ = some v1 ∧ w'.cell? ⟨m, 2, none⟩ = some v2) ∧ w'.cell? ⟨n, 0, none⟩ = some u :=
  ⟨Lib.hid (below_after h.1.out (Nat.le_refl _) hb.out), cells3_on h.2.1 hb.out, (hb.out.cell (p := ⟨n, 0, none⟩) (World.block_lt_of_cell? w ⟨n, 0, none⟩ h.2.2)).trans h.2.2⟩
/-- the iterator over the things of j, in a world behind the one in which it was made -/
theorem seq_two {w x wa wb : World} {bo oo lo co : Nat} {j : Int} {O : List Int} (hO : O.length = lo) (hm : lo ≤ maxLen) (h : wa.heap[x.heap.size]? = some (.cells #[.int .i64 j] 2) ∧ wa.heap[x.heap.size + 1]? = some (.cells #[.slice (some ⟨bo, oo, none⟩) lo co] 22))
    (hb : Below wa.heap.size wa wb) (hw : Below w.heap.size w wb) (hbo : bo < w.heap.size) (hc : ∀ i, i < lo → w.cell? ⟨bo, oo + i, none⟩ = some (.int .i64 (O.getD i 0))) :
    SeqAll wb 117 #[.pointer (some ⟨x.heap.size + 1, 0, none⟩), .pointer (some ⟨x.heap.size, 0, none⟩)] (fun x : Thing j O => #[Value.int .i64 (x.1 : Nat)]) (thingsAll j O) :=
  things_all x.heap.size (x.heap.size + 1) bo oo lo co j O hO hm wb (boxed_ext h.1 hb).cell (boxed_ext h.2 hb).cell (by have := hw.size; omega) fun i hi => (hw.cell (p := ⟨bo, oo + i, none⟩) hbo).trans (hc i hi)
/-- what a thing is worth, told by a row's method -/
theorem val_row {w wb : World} {b o T : Nat} {j : Int} {O : List Int} {f : Nat → Int} (hT : T ≤ 96) (hl : O.length ≤ T) (hw : Below w.heap.size w wb) (hb : b < w.heap.size) (hc : ∀ k, k < T → w.cell? ⟨b, o + k, none⟩ = some (.int .i64 (f k))) :
    ValAt wb 79 #[.slice (some ⟨b, o, none⟩) T T] #[] (fun x : Thing j O => ((x.1 : Nat) : Int)) (fun x : Thing j O => f x.1) := fun W hW x =>
  (worth_any b o T x.1 (f x.1) W (by have := x.2.1; omega) hT ((hW.cell (p := ⟨b, o + x.1, none⟩) (by show b < _; have := hw.size; omega)).trans ((hw.cell (p := ⟨b, o + x.1, none⟩) hb).trans (hc _ (by have := x.2.1; omega))))).mono fun _ _ ⟨h1, h2⟩ => ⟨h1, by subst h2; exact Below.refl _ _⟩

set_option maxHeartbeats 2000000 in
/-- the program's closure in IsFreeUpToOne -/
theorem tellUp_any (P T i j m n : Nat) (a1 : Option Addr) (l1 c1 : Nat) (A : List Int) (ao : Option Addr) (lo co : Nat) (O : List Int) (w : World) (hx : Box3 w m 27 (.int .i64 (P : Nat)) (.int .i64 (T : Nat)) (.slice a1 l1 c1))
    (hy : w.cell? ⟨n, 0, none⟩ = some (.slice ao lo co)) (hv : VOk w P T a1 l1 c1 A) (hi : i < P) (hO : IAt w ao lo O) (hlo : 1 ≤ lo) (hlt : lo ≤ T) :
    Calls Try.prog 75 #[.int .i64 i, .int .i64 j, .pointer (some ⟨n, 0, none⟩), .pointer (some ⟨m, 0, none⟩)] w fun e w' => e = .returned (.bool (upB A T O i j)) ∧ Below w.heap.size w w' := by
  obtain ⟨b, off, rfl, hb, hc⟩ := hv.at_
  obtain ⟨hl, hl1, hl48⟩ := hv.l48
  obtain ⟨bo, oo, rfl, hbo, hco⟩ : ∃ b off, ao = some ⟨b, off, none⟩ ∧ b < w.heap.size ∧ ∀ i, i < lo → w.cell? ⟨b, off + i, none⟩ = some (.int .i64 (O.getD i 0)) := by
    rcases hO.2.2.2 with e | g
    · omega
    · exact g
  obtain ⟨⟨p0, p1, p2⟩, _⟩ := hx.all
  have ht1 := hv.t1
  have ht8 := hv.t8
  have hcap := hv.cap
  have HL := Lib.hid hl
  have HC := Lib.hid hc
  have HCO := Lib.hid hco
  have HX := Lib.hid hx
  have HY := Lib.hid hy
  have HV := Lib.hid hv
  have HO := Lib.hid hO
  have HOL := Lib.hid hO.1
  have hbw := bestW_in (j := (j : Int)) (O := O) hv.ok hv.len hi (by rw [hO.1]; exact hlt)
  have HBW : Hid (keyOr (fun x : Thing (j : Int) O => wAt A T i x.1) (bestL (fun x : Thing (j : Int) O => wAt A T i x.1) (thingsAll (j : Int) O)) = bestW A T i j O) :=
    Lib.hid (best_to _ _ _ _ (Nat.le_refl _) fun k hk => (wAt_in hv.ok hv.len hi (by rw [hO.1] at hk; omega)).1)
  have HUP : Hid (upB A T O i j = decide (envyF A T O i j ≤ bestW A T i j O)) := Lib.hid rfl
  have HOT : Hid (O.length ≤ T) := Lib.hid (by rw [hO.1]; exact hlt)
  have HCR : Hid (∀ k, k < T → w.cell? ⟨b, off + i * T + k, none⟩ = some (.int .i64 (wAt A T i k))) := Lib.hid fun k hk => by
    have h1 := hc (i * T + k) (by rw [hl]; exact row_lt hi hk)
    rw [← Nat.add_assoc] at h1
    exact h1
  have HEV : Hid (partW A T i j O - partW A T i i O = envyF A T O i j) := Lib.hid rfl
  generalize upB A T O i j = u at *
  generalize bestW A T i j O = s at *
  clear hl hc hco hx hv hO
  go_enter Try.func75, Try.ntmps75
  go_wp2_with fail
  go_region_held3 (fun w' => Hid (Below w.heap.size w w') ∧ (w'.cell? ⟨m, 0, none⟩ = some (.int .i64 P) ∧ w'.cell? ⟨m, 1, none⟩ = some (.int .i64 T) ∧ w'.cell? ⟨m, 2, none⟩ = some (.slice (some ⟨b, off, none⟩) l1 c1)) ∧ w'.cell? ⟨n, 0, none⟩ = some (.slice (some ⟨bo, oo, none⟩) lo co))
    (first | exact ⟨keep0, ⟨p0, p1, p2⟩, hy⟩ | exact keepUp (by assumption) (by assumption) | exact keepUp (by assumption) (Lib.hid (Below.refl _ _)))
    (first
      | (go_at_call 77; refine (thingsOf_any _ _ _ _ _).mono ?_; rintro e wa ⟨rfl, ha⟩; have HBA := Lib.hid (below_of_two ha); have HTA := Lib.hid (boxes_of_two ha); clear ha)
      | (go_at_call 78; refine (row_any b off l1 c1 P T i _ hi ht1 HL.out hcap (by omega)).mono ?_; rintro e wb ⟨rfl, hb2⟩; have HBB := Lib.hid hb2; clear hb2)
      | (go_at_call 76; refine (bestOf_any 117 79 _ _ _ (fun x : Thing (j : Int) O => ((x.1 : Nat) : Int)) (fun x : Thing (j : Int) O => wAt A T i x.1) (thingsAll (j : Int) O) _ (enters_of Try.func117 (by kernel_rfl) rfl) (enters_of Try.func79 (by kernel_rfl) rfl) (seq_two HOL.out (by unfold maxLen; omega) HTA.out HBB.out (Hid.out (And.left (by assumption))) hbo HCO.out) (val_row (by omega) HOT.out (Hid.out (And.left (by assumption))) hb HCR.out)).mono ?_; rintro e wc ⟨rfl, hb3⟩; rw [HBW.out]; have HBC := Lib.hid hb3; clear hb3))
  have hS : Hid (Below w.heap.size w wc) := And.left (by assumption)
  have HX4 := HX.out.below hS.out
  have HV4 := Lib.hid (HV.out.below hS.out)
  have HO4 := Lib.hid (HO.out.below hS.out)
  have HY4 : wc.cell? ⟨n, 0, none⟩ = some (.slice (some ⟨bo, oo, none⟩) lo co) := (hS.out.cell (p := ⟨n, 0, none⟩) (World.block_lt_of_cell? w ⟨n, 0, none⟩ HY.out)).trans HY.out
  rename_i hHeld
  have HS := Lib.hid hS.out
  obtain ⟨⟨x0, x1, x2⟩, _⟩ := HX4.all
  clear HBA HTA HBB HBC hHeld hS HX4 p0 p1 p2 hy
  generalize keyOr (fun x : Thing (j : Int) O => ((x.1 : Nat) : Int)) (bestL (fun x : Thing (j : Int) O => wAt A T i x.1) (thingsAll (j : Int) O)) = kk
  go_wp2_with fail
  refine (envy_any P T i _ l1 c1 A j _ lo co O wc HV4.out hi HO4.out hlo hlt).mono ?_
  rintro e w5 ⟨rfl, b5⟩
  rw [HEV.out]
  have B5 := Lib.hid (below_after HS.out (Nat.le_refl _) b5)
  clear b5 x0 x1 x2 HY4
  generalize envyF A T O i j = v at *
  go_wp2_with fail
  go_ret
  exact ⟨by rw [HUP.out]; rfl, B5.out⟩

/-! ### the two answers -/

def upL (A : List Int) (T : Nat) (O : List Int) (P : Nat) : Bool := (List.range P).all fun i => (List.range P).all fun j => upB A T O i j
def upV (p t : Int) (A O : List Int) : Bool × Bool := if okOwn p t A O then (upL A t.toNat O p.toNat, true) else (false, false)
theorem upV_no {p t : Int} {A O : List Int} (h : okOwn p t A O = false) : upV p t A O = (false, false) := by unfold upV; rw [h]; rfl
theorem upV_yes {P T : Nat} {A O : List Int} (h : okOwn P T A O = true) : upV P T A O = (upL A T O P, true) := by unfold upV; rw [h]; rfl
theorem pairsB_all (f : Nat → Nat → Bool) (P k : Nat) : allB (pairsToB f P k) = (List.range k).all fun i => (List.range P).all fun j => f i j := by
  unfold allB
  induction k with
  | zero => rfl
  | succ k ih =>
    rw [pairsToB, List.all_append, ih, List.range_succ, List.all_append]
    simp [List.all_map, Function.comp_def]
theorem pairsB_len (f : Nat → Nat → Bool) {P : Nat} (h : P ≤ 6) : (pairsToB f P P).length ≤ 4096 := by
  rw [pairsToB_len]
  have := Nat.mul_le_mul h h
  omega

set_option maxRecDepth 20000 in
theorem implUp_any (p t : Int) (a1 : Option Addr) (l1 c1 : Nat) (A : List Int) (ao : Option Addr) (lo co : Nat) (O : List Int) (w : World) (hA : IAt w a1 l1 A) (hO : IAt w ao lo O) (hc : l1 ≤ c1) :
    Calls Try.prog 38 #[valuesV p t a1 l1 c1, .slice ao lo co] w (TwoOut w (upV p t A O)) := by
  have HA := Lib.hid hA
  have HO := Lib.hid hO
  clear hA hO
  cases s1 : okOwn p t A O with
  | false =>
    have S1 := Lib.hid s1
    rw [upV_no s1]
    clear s1
    go_enter Try.func38, Try.ntmps38
    go_wp2_with fail
    refine (areOwned_any p t a1 l1 c1 A ao lo co O _ (HA.out.below below2) (HO.out.below below2)).mono ?_
    rintro e w1 ⟨rfl, b1⟩
    rw [S1.out]
    have B1 := Lib.hid (below_after below2 (Nat.le_refl _) b1)
    clear b1
    go_wp2_with fail
    go_ret2
    exact ⟨rfl, B1.out⟩
  | true =>
    obtain ⟨h1, h2, h3⟩ := okOwn_true s1
    obtain ⟨P, T, rfl, rfl, hv⟩ := VOk.of HA.out hc h1
    have S1 := Lib.hid s1
    rw [upV_yes s1]
    have HV := Lib.hid hv
    have hlo : lo = T := by have := HO.out.1; omega
    have hl1 : 1 ≤ lo := by have := hv.t1; omega
    have hl2 : lo ≤ T := by omega
    have hp6 := hv.p6
    obtain ⟨u, hu⟩ : ∃ u, upL A T O P = u := ⟨_, rfl⟩
    rw [hu]
    have HU : Hid (allB (pairsToB (upB A T O) P P) = u) := Lib.hid (by rw [pairsB_all, ← hu]; rfl)
    clear s1 h1 h2 h3 hv hlo hu
    go_enter Try.func38, Try.ntmps38
    go_wp2_with fail
    refine (areOwned_any P T a1 l1 c1 A ao lo co O _ (HA.out.below below2) (HO.out.below below2)).mono ?_
    rintro e w1 ⟨rfl, b1⟩
    rw [S1.out]
    have X1 : Box3 w1 w.heap.size 27 (.int .i64 (P : Nat)) (.int .i64 (T : Nat)) (.slice a1 l1 c1) := Box3.below (heap2a (w := w) (o := .cells #[.int .i64 (P : Nat), .int .i64 (T : Nat), .slice a1 l1 c1] 27) (p := .cells #[.slice ao lo co] 22)) b1
    have Y1 : Boxed w1 (w.heap.size + 1) 22 (.slice ao lo co) := boxed_ext (heap2b (w := w) (o := .cells #[.int .i64 (P : Nat), .int .i64 (T : Nat), .slice a1 l1 c1] 27) (p := .cells #[.slice ao lo co] 22)) b1
    have B1 := Lib.hid (below_after below2 (Nat.le_refl _) b1)
    have V1 := HV.out.below B1.out
    have O1 := HO.out.below B1.out
    have hT : TellB w1 75 #[.pointer (some ⟨w.heap.size + 1, 0, none⟩), .pointer (some ⟨w.heap.size, 0, none⟩)] P (upB A T O) := fun W hW i j hi hj =>
      tellUp_any P T i j w.heap.size (w.heap.size + 1) a1 l1 c1 A ao lo co O W (X1.below hW) (boxed_ext Y1 hW).cell (V1.below hW) hi (O1.below hW) hl1 hl2
    have HT := Lib.hid hT
    obtain ⟨⟨x0, x1, x2⟩, _⟩ := X1.all
    clear b1 hT X1 Y1 V1 O1
    go_wp2_with fail
    refine (forPairsB_any P 75 #[.pointer (some ⟨w.heap.size + 1, 0, none⟩), .pointer (some ⟨w.heap.size, 0, none⟩)] (upB A T O) w1 hp6 (enters_of Try.func75 (by kernel_rfl) rfl) HT.out).mono ?_
    rintro e w2 ⟨a, len, cap, rfl, o2, b2⟩
    have hlen : len ≤ 4096 := by have := o2.1; simp only [List.length_map] at this; have h := pairsB_len (upB A T O) hp6; omega
    have O2 := Lib.hid o2
    have B2 := Lib.hid (below_after B1.out (Nat.le_refl _) b2)
    clear o2 b2 x0 x1 x2
    go_wp2_with fail
    refine (containsB_any a len cap _ _ w2 hlen O2.out).mono ?_
    rintro e w3 ⟨rfl, rfl⟩
    rw [HU.out]
    cases u with
    | true =>
      go_wp2_with fail
      go_ret2
      exact ⟨rfl, B2.out⟩
    | false =>
      go_wp2_with fail
      go_ret2
      exact ⟨rfl, B2.out⟩
end Go.Proofs.Ytkgjfockechniaa
