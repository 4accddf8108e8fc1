/-
  The program's iterator over the parts of a set: every part, ascending, to a loop over it.
-/
import Derived.RangeFuncNested
import Derived.RangeFuncBound
import Derived.RangeFuncCalls
import Derived.RangeFuncLeaves
import Derived.Shelf.Abstract
import Derived.Shelf.RegionOpen
import Derived.WalkKit
import Derived.OwnWalkIn
import Derived.TacticsInMore
import Derived.LoopNIn
import Derived.LoopIn
import Derived.Test.YtnlknofcdapalaaGCom
namespace Go.Proofs.Ytnlknofcdapalaa
open Go.RowKit Go.Shelf
set_option linter.unusedVariables false
attribute [local go_sem] Oper.semAt_some

/-- a part of the set S -/
abbrev Part (S : Nat) := { x : Nat // x &&& S = x }
def asPart (S x : Nat) : Option (Part S) := if h : x &&& S = x then some ⟨x, h⟩ else none
/-- the parts of S below q, ascending -/
def partsTo (S q : Nat) : List (Part S) := (List.range q).filterMap (asPart S)
def partsAll (S : Nat) : List (Part S) := partsTo S (S + 1)
theorem Part.le {S : Nat} (x : Part S) : x.1 ≤ S := by have := Nat.and_le_right (n := x.1) (m := S); rw [x.2] at this; exact this
theorem partsTo_succ (S : Nat) (x : Part S) : partsTo S (x.1 + 1) = partsTo S x.1 ++ [x] := by
  simp [partsTo, List.range_succ, List.filterMap_append, asPart, x.2]
theorem partsTo_gap (S q r : Nat) (hqr : q ≤ r) (h : ∀ m, q ≤ m → m < r → ¬ (m &&& S = m)) : partsTo S r = partsTo S q := by
  induction r with
  | zero => obtain rfl : q = 0 := by omega
            rfl
  | succ r ih =>
    by_cases e : q = r + 1
    · rw [e]
    · have : partsTo S (r + 1) = partsTo S r := by simp [partsTo, List.range_succ, List.filterMap_append, asPart, h r (by omega) (by omega)]
      rw [this]
      exact ih (by omega) fun m h1 h2 => h m h1 (by omega)
theorem partsTo_pre (S q r : Nat) (hqr : q ≤ r) : ∃ t, partsTo S r = partsTo S q ++ t := by
  induction r with
  | zero => obtain rfl : q = 0 := by omega
            exact ⟨[], by simp⟩
  | succ r ih =>
    by_cases e : q = r + 1
    · exact ⟨[], by rw [e]; simp⟩
    · obtain ⟨t, ht⟩ := ih (by omega)
      refine ⟨t ++ [r].filterMap (asPart S), ?_⟩
      rw [← List.append_assoc, ← ht]
      simp [partsTo, List.range_succ, List.filterMap_append]
theorem mem_partsTo {S q : Nat} {x : Part S} : x ∈ partsTo S q ↔ x.1 < q := by
  simp only [partsTo, List.mem_filterMap, List.mem_range, asPart]
  constructor
  · rintro ⟨a, ha, h⟩
    split at h
    · cases h; exact ha
    · cases h
  · intro h
    exact ⟨x.1, h, by rw [dif_pos x.2]⟩
theorem mem_partsAll {S : Nat} (x : Part S) : x ∈ partsAll S := mem_partsTo.2 (by have := x.le; omega)
/-- the part behind one -/
def nextPart (S p : Nat) : Nat := (p + 64 - S) &&& S

def nextOkB (S p : Nat) : Bool :=
  !(decide (p < S) && (p &&& S == p)) || ((nextPart S p &&& S == nextPart S p) && decide (p < nextPart S p) && decide (nextPart S p ≤ S) && (List.range 64).all fun m => !(decide (p < m) && decide (m < nextPart S p)) || !(m &&& S == m))
theorem next_tab : ((List.range 64).all fun S => (List.range 64).all fun p => nextOkB S p) = true := by decide +kernel
theorem next_ok {S p : Nat} (hS : S < 64) (hp : p < S) (h : p &&& S = p) : nextPart S p &&& S = nextPart S p ∧ p < nextPart S p ∧ nextPart S p ≤ S ∧ (∀ m, p < m → m < nextPart S p → ¬ (m &&& S = m)) := by
  have := List.all_eq_true.1 (List.all_eq_true.1 next_tab S (by simpa using hS)) p (by simp; omega)
  simp only [nextOkB, Bool.or_eq_true, Bool.and_eq_true, Bool.not_eq_true', Bool.and_eq_false_iff, decide_eq_true_eq, decide_eq_false_iff_not, beq_iff_eq, beq_eq_false_iff_ne, List.all_eq_true, List.mem_range, ne_eq] at this
  rcases this with (h1 | h1) | ⟨⟨⟨h1, h2⟩, h3⟩, h4⟩
  · exact absurd hp h1
  · exact absurd h h1
  · refine ⟨h1, h2, h3, fun m h5 h6 => ?_⟩
    rcases h4 m (by omega) with (h7 | h7) | h7
    · exact absurd h5 h7
    · exact absurd h6 h7
    · exact h7
theorem bits_tab : ((List.range 64).all fun S => (List.range 64).all fun p => !(decide (p < S)) || (bits .and .i64 ((p : Nat) - (S : Nat) : Int) ((S : Nat) : Int) == ((nextPart S p : Nat) : Int))) = true := by decide +kernel
theorem next_bits {S p : Nat} (hS : S < 64) (hp : p < S) : bits .and .i64 ((p : Int) - (S : Int)) (S : Int) = ((nextPart S p : Nat) : Int) := by
  have := List.all_eq_true.1 (List.all_eq_true.1 bits_tab S (by simpa using hS)) p (by simp; omega)
  simpa [hp] using this

/-- what a round keeps: all below n₀, and the box of the set -/
def KpS (n₀ B : Nat) (W W' : World) : Prop := Below n₀ W W' ∧ W'.heap[B]? = W.heap[B]?
theorem KpS.trans {n₀ B : Nat} {W W' W'' : World} (h : KpS n₀ B W W') (k : KpS n₀ B W' W'') : KpS n₀ B W W'' := ⟨h.1.trans k.1, k.2.trans h.2⟩
theorem KpS.cell {n₀ B : Nat} {W W' : World} {v : Value} (h : KpS n₀ B W W') (hc : W.cell? ⟨B, 0, none⟩ = some v) : W'.cell? ⟨B, 0, none⟩ = some v := (World.cell?_of_block h.2).trans hc

set_option maxRecDepth 100000 in
set_option maxHeartbeats 1000000 in
/-- the closure that 'partsOf' hands back, for every loop body that keeps the box of the set -/
theorem parts1_in (n : Nat) (hn : 1 ≤ n) (l B n₀ S : Nat) (hS : S < 64) (J Jx : List (Part S) → World → Prop)
    (hY : ∀ pre (x : Part S) W, J pre W → pre.length < (partsAll S).length → YieldAt Fence.wide (n - 1) Try.prog l #[.int .i64 (x.1 : Nat)] W fun e W' =>
      (e = .returned (.bool true) ∧ J (pre ++ [x]) W' ∧ KpS n₀ B W W') ∨ (e = .returned (.bool false) ∧ Jx (pre ++ [x]) W'))
    (W : World) (hB : W.cell? ⟨B, 0, none⟩ = some (.int .i64 (S : Nat))) (h0 : J [] W) :
    CallsIn Fence.wide n Try.prog 93 #[.func (.yield l) #[] #[], .pointer (some ⟨B, 0, none⟩)] W fun e W' => (∃ v, e = .returned v) ∧
      ((∃ ys, ys = partsAll S ∧ J ys W') ∨ (∃ pre, pre <+: partsAll S ∧ Jx pre W')) := by
  refine callsIn_of_wp Try.func93 rfl trivial ?_ rfl
  simp only [Try.ntmps93, List.size_toArray, List.length_cons, List.length_nil, Nat.reduceAdd, Nat.reduceSub, Array.replicate_succ, Array.replicate_zero, List.push_toArray, List.append_toArray, List.nil_append, List.cons_append]
  gi_wp2
  gi_loopw [3] (fun p wr => ∃ x : Part S, p = .int .i64 (x.1 : Nat) ∧ wr.cell? ⟨B, 0, none⟩ = some (.int .i64 (S : Nat)) ∧ J (partsTo S x.1) wr) (fun p wr => S - (intOf p).toNat)
  case atStart => exact ⟨⟨0, by simp⟩, rfl, hB, h0⟩
  case round =>
    obtain ⟨x, rfl, hB', hJs⟩ := hrel
    have hle := x.le
    have hsucc := partsTo_succ S x
    have hlen : (partsTo S x.1).length < (partsAll S).length := by
      obtain ⟨t, ht⟩ := partsTo_pre S (x.1 + 1) (S + 1) (by omega)
      unfold partsAll
      rw [ht, hsucc]
      simp
    obtain ⟨fn, tmps, assign, body, hy, hR⟩ := hY (partsTo S x.1) x wr hJs hlen
    gi_wp2
    refine hR.mono ?_
    rintro e W3 (⟨rfl, hJ3, hk3⟩ | ⟨rfl, hJx3⟩)
    · have hB3 := hk3.cell hB'
      rw [← hsucc] at hJ3
      by_cases hp : x.1 = S
      · have hq : (((x.1 : Nat) : Int) != (S : Int)) = false := by rw [bne_eq_false_iff_eq]; omega
        gi_wp2
        go_end0
        exact ⟨⟨_, rfl⟩, .inl ⟨_, by rw [hp]; rfl, hJ3⟩⟩
      · have hq : (((x.1 : Nat) : Int) != (S : Int)) = true := by rw [bne_iff_ne]; omega
        have hlt : x.1 < S := by omega
        obtain ⟨g1, g2, g3, g4⟩ := next_ok hS hlt x.2
        have g5 := next_bits hS hlt
        have g6 := partsTo_gap S (x.1 + 1) (nextPart S x.1) (by omega) (fun m h1 h2 => g4 m (by omega) h2)
        rw [← g6] at hJ3
        generalize nextPart S x.1 = q at *
        gi_wp2
        go_roundw
        case rel => exact ⟨⟨q, g1⟩, rfl, hB3, hJ3⟩
        case measure => simp [intOf]; omega
    · gi_wp2
      go_end0
      refine ⟨⟨_, rfl⟩, .inr ⟨_, ?_, hJx3⟩⟩
      rw [← hsucc]
      obtain ⟨t, ht⟩ := partsTo_pre S (x.1 + 1) (S + 1) (by omega)
      exact ⟨t, ht.symm⟩

/-- **partsOf**: the set is boxed; the function value captures the box. -/
theorem partsOf_any (S : Int) (w : World) :
    Calls Try.prog 69 #[.int .i64 S] w fun e w' => e = .returned (.func (.func 93) #[] #[.pointer (some ⟨w.heap.size, 0, none⟩)]) ∧ w' = w.alloc (.cells #[.int .i64 S] 2) := by
  go_enter Try.func69, Try.ntmps69
  go_wp2
  go_ret
  exact ⟨rfl, rfl⟩

/-- what it hands back gives all parts, in their order, to whatever round keeps the box of the set -/
theorem parts_stops (n : Nat) (hn : 1 ≤ n) (B n₀ S : Nat) (hS : S < 64) (w : World) (hB : B < w.heap.size) (hc : w.cell? ⟨B, 0, none⟩ = some (.int .i64 (S : Nat))) :
    SeqStopsK Fence.wide n Try.prog 93 #[.pointer (some ⟨B, 0, none⟩)] (fun x : Part S => #[Value.int .i64 (x.1 : Nat)]) (KpS n₀ B) (fun ys => ys = partsAll S) (fun pre => pre <+: partsAll S) (partsAll S).length w := fun l J Jx W hW _ _ hY h0 =>
  parts1_in n hn l B n₀ S hS J Jx hY W ((hW.cell (p := ⟨B, 0, none⟩) hB).trans hc) h0

theorem kpS_t {n₀ B : Nat} {A C D : World} (h : KpS n₀ B A C) (k : KpS n₀ B C D) : KpS n₀ B A D := h.trans k
theorem kpS_b {n₀ B : Nat} {w : World} (hn : n₀ ≤ w.heap.size) (hB : B < w.heap.size) (W : World) (l : Nat) (o o' : Obj) (hl : w.heap.size ≤ l) (h : W.heap[l]? = some o) (h1 : o.isCells = false) (h2 : o.isWalk = false) : KpS n₀ B W (W.putObj l o') := by
  refine ⟨belowK_b hn W l o o' hl h h1 h2, ?_⟩
  have hne : l ≠ B := by omega
  simp [World.putObj, hne]
end Go.Proofs.Ytnlknofcdapalaa
