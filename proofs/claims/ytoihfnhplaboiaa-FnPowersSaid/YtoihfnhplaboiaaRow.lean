/-
  A slice of integers that came in, as the walks are told of it; the laws' own small functions on such slices.
-/
import Derived.Test.YtoihfnhplaboiaaRows
import Derived.WalkKit
import Derived.WalkLawsBesides
import Derived.Deep.Draws
import Derived.Lib.Hide
import Derived.OpenShut
import Derived.Outline
namespace Go.Proofs.Ytoihfnhplaboiaa
open Go.RowKit

/-- nil; or a row of 'cap' cells, the numbers 'zs', each fitting its kind -/
def IsRow (k : IntKind) (w : World) (a : Option Addr) (len cap : Nat) (zs : List Int) : Prop :=
  (a = none ∧ len = 0 ∧ cap = 0 ∧ zs = []) ∨
  ∃ x, a = some x ∧ len ≤ cap ∧ cap ≤ maxLen ∧ zs.length = cap ∧ (∀ i, i < zs.length → w.cell? (x.add i) = some (.int k (zs.getD i 0))) ∧ ∀ n ∈ zs, (Lit.int k n).wf = true

theorem isRow_len {k : IntKind} {w : World} {a : Option Addr} {len cap : Nat} {zs : List Int} (h : IsRow k w a len cap zs) : len ≤ maxLen := by
  rcases h with ⟨_, rfl, _, _⟩ | ⟨_, _, h1, h2, _⟩
  · exact Nat.zero_le _
  · omega

theorem b10Long_any (a0 a1 : Option Addr) (l0 c0 l1 c1 : Nat) (h0 : l0 ≤ maxLen) (h1 : l1 ≤ maxLen) (w : World) :
    Calls Try.prog 6 #[.slice a0 l0 c0, .slice a1 l1 c1] w fun e w' => e = .returned (.bool (decide (1048576 < l0) || decide (1048576 < l1))) ∧ w = w' := by
  unfold maxLen at h0 h1
  by_cases g0 : 1048576 < l0
  · have e : (decide (1048576 < l0) || decide (1048576 < l1)) = true := by rw [decide_eq_true g0]; rfl
    rw [e]
    clear e
    go_enter Try.func6, Try.ntmps6
    go_wp2
    go_ret
    exact ⟨rfl, rfl⟩
  · by_cases g1 : 1048576 < l1
    · have e : (decide (1048576 < l0) || decide (1048576 < l1)) = true := by rw [decide_eq_true g1, Bool.or_true]
      rw [e]
      clear e
      have d1 : decide ((1048576 : Int) < (l1 : Int)) = true := decide_eq_true (by omega)
      go_enter Try.func6, Try.ntmps6
      go_wp2
      go_ret
      exact ⟨rfl, rfl⟩
    · have e : (decide (1048576 < l0) || decide (1048576 < l1)) = false := by rw [decide_eq_false g0, decide_eq_false g1]; rfl
      rw [e]
      clear e
      have d1 : decide ((1048576 : Int) < (l1 : Int)) = false := decide_eq_false (by omega)
      have d0 : decide ((1048576 : Int) < (l0 : Int)) = false := decide_eq_false (by omega)
      go_enter Try.func6, Try.ntmps6
      go_wp2
      go_ret
      exact ⟨rfl, rfl⟩

/-- the number that some bytes choose, from 0 to n - 1 -/
def pick (l : Nat) (zs : List Int) (i n : Nat) : Nat := if i < l then (zs.getD i 0).toNat % n else (i * 37 + 11) % n
theorem pick_lt (l : Nat) (zs : List Int) (i : Nat) {n : Nat} (h : 0 < n) : pick l zs i n < n := by
  unfold pick; split <;> exact Nat.mod_lt _ h

theorem b10At_any (a0 : Option Addr) (l0 c0 : Nat) (z0 : List Int) (i n : Nat) (hi : i < 1000) (hn : 1 < n) (hn2 : n < 100000) (w : World) (h : IsRow .u8 w a0 l0 c0 z0) :
    Calls Try.prog 7 #[.slice a0 l0 c0, .int .i64 i, .int .i64 n] w fun e w' => e = .returned (.int .i64 (pick l0 z0 i n)) ∧ w = w' := by
  have hm := isRow_len h
  unfold maxLen at hm
  by_cases hlt : i < l0
  · rcases h with ⟨_, rfl, _, _⟩ | ⟨x, rfl, hl, hc, hz, hcell, hwz⟩
    · exact absurd hlt (by omega)
    · obtain ⟨b, off, rfl, hcells⟩ := ints_at hcell (by omega)
      have hc1 := hcells i (by omega)
      have hw := hwz (z0.getD i 0) (by
        rw [List.getD_eq_getElem?_getD, List.getElem?_eq_getElem (by omega)]
        exact List.getElem_mem _)
      have hb : 0 ≤ z0.getD i 0 ∧ z0.getD i 0 ≤ 255 := by
        simp only [Lit.wf, Bool.and_eq_true, decide_eq_true_eq, show IntKind.u8.min = 0 by decide, show IntKind.u8.max = 255 by decide] at hw
        exact hw
      have e : (pick l0 z0 i n : Int) = z0.getD i 0 % (n : Int) := by
        unfold pick
        rw [if_pos hlt, Int.natCast_emod, Int.toNat_of_nonneg hb.1]
      rw [e]
      obtain ⟨hb1, hb2⟩ := hb
      clear e hcell hwz hcells hw
      generalize z0.getD i 0 = v at *
      go_enter Try.func7, Try.ntmps7
      go_wp2
      go_ret
      exact ⟨rfl, rfl⟩
  · have e : (pick l0 z0 i n : Int) = ((i : Int) * 37 + 11) % (n : Int) := by
      unfold pick
      rw [if_neg hlt, Int.natCast_emod]; rfl
    rw [e]
    clear e h
    go_enter Try.func7, Try.ntmps7
    go_wp2
    go_ret
    exact ⟨rfl, rfl⟩
end Go.Proofs.Ytoihfnhplaboiaa
