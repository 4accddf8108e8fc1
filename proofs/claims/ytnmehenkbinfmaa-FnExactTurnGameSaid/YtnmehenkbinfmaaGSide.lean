/-
  A game as one player sees it: the program's closures.
-/
import Derived.Test.YtnmehenkbinfmaaGBestS
namespace Go.Proofs.Ytnmehenkbinfmaa
open Go.RowKit Go.ChangeShapes Go.WideShapes
set_option linter.unusedVariables false

abbrev sideV (own other : Int) (f n : Nat) : Value := .agg #[.int .i64 own, .int .i64 other, .func (.func f) #[] #[.pointer (some ⟨n, 0, none⟩)]]

theorem firstSide_any (r c : Int) (a1 : Option Addr) (l1 c1 : Nat) (a2 : Option Addr) (l2 c2 : Nat) (w : World) :
    Calls Try.prog 88 #[gameV r c a1 l1 c1 a2 l2 c2] w fun e w' => ∃ n, e = .returned (sideV r c 114 n) ∧ Box4 w' n 27 (.int .i64 r) (.int .i64 c) (.slice a1 l1 c1) (.slice a2 l2 c2) ∧ Below w.heap.size w w' := by
  have hmf : ∀ (fn : Fn) (first cap : Array Value) (w : World), (Instr.makeFunc fn first cap).run Try.prog w = .ok (.func fn first cap) w := fun _ _ _ _ => rfl
  have RS : ∀ (w' : World) (a : Addr) (m : Mode), (store a (.func (.func 114) #[] #[.pointer (some ⟨w.heap.size, 0, none⟩)]) m).run Try.prog w' = stored Try.prog w' a (.func (.func 114) #[] #[.pointer (some ⟨w.heap.size, 0, none⟩)]) m := fun w' a m => run_store Try.prog w' a _ m rfl
  go_enter Try.func88, Try.ntmps88
  go_wp2
  go_returns
  exact ⟨w.heap.size, rfl, heap2a, below2⟩

theorem secondSide_any (r c : Int) (a1 : Option Addr) (l1 c1 : Nat) (a2 : Option Addr) (l2 c2 : Nat) (w : World) :
    Calls Try.prog 89 #[gameV r c a1 l1 c1 a2 l2 c2] w fun e w' => ∃ n, e = .returned (sideV c r 115 n) ∧ Box4 w' n 27 (.int .i64 r) (.int .i64 c) (.slice a1 l1 c1) (.slice a2 l2 c2) ∧ Below w.heap.size w w' := by
  have hmf : ∀ (fn : Fn) (first cap : Array Value) (w : World), (Instr.makeFunc fn first cap).run Try.prog w = .ok (.func fn first cap) w := fun _ _ _ _ => rfl
  have RS : ∀ (w' : World) (a : Addr) (m : Mode), (store a (.func (.func 115) #[] #[.pointer (some ⟨w.heap.size, 0, none⟩)]) m).run Try.prog w' = stored Try.prog w' a (.func (.func 115) #[] #[.pointer (some ⟨w.heap.size, 0, none⟩)]) m := fun w' a m => run_store Try.prog w' a _ m rfl
  go_enter Try.func89, Try.ntmps89
  go_wp2
  go_returns
  exact ⟨w.heap.size, rfl, heap2a, below2⟩

theorem payingSide_any (r c : Int) (a1 : Option Addr) (l1 c1 : Nat) (a2 : Option Addr) (l2 c2 : Nat) (w : World) :
    Calls Try.prog 99 #[gameV r c a1 l1 c1 a2 l2 c2] w fun e w' => ∃ n, e = .returned (sideV c r 118 n) ∧ Box4 w' n 27 (.int .i64 r) (.int .i64 c) (.slice a1 l1 c1) (.slice a2 l2 c2) ∧ Below w.heap.size w w' := by
  have hmf : ∀ (fn : Fn) (first cap : Array Value) (w : World), (Instr.makeFunc fn first cap).run Try.prog w = .ok (.func fn first cap) w := fun _ _ _ _ => rfl
  have RS : ∀ (w' : World) (a : Addr) (m : Mode), (store a (.func (.func 118) #[] #[.pointer (some ⟨w.heap.size, 0, none⟩)]) m).run Try.prog w' = stored Try.prog w' a (.func (.func 118) #[] #[.pointer (some ⟨w.heap.size, 0, none⟩)]) m := fun w' a m => run_store Try.prog w' a _ m rfl
  go_enter Try.func99, Try.ntmps99
  go_wp2
  go_returns
  exact ⟨w.heap.size, rfl, heap2a, below2⟩

theorem firstSide_gain (n R C i j b off c1 b' off' c2 : Nat) (A B : List Int) (w : World) (hi : i < R) (hj : j < C) (hRC : R * C ≤ 36) (hx : Box4 w n 27 (.int .i64 R) (.int .i64 C) (.slice (some ⟨b, off, none⟩) (R * C) c1) (.slice (some ⟨b', off', none⟩) (R * C) c2))
    (hc : ∀ i, i < R * C → w.cell? ⟨b, off + i, none⟩ = some (.int .i64 (A.getD i 0))) :
    Calls Try.prog 114 #[.int .i64 i, .int .i64 j, .pointer (some ⟨n, 0, none⟩)] w fun e w' => e = .returned (.int .i64 (A.getD (i * C + j) 0)) ∧ w = w' := by
  have hk := place_lt hi hj
  have hs := hc _ hk
  obtain ⟨len, hlen⟩ : ∃ len, R * C = len := ⟨_, rfl⟩
  obtain ⟨p, hp⟩ : ∃ p, i * C = p := ⟨_, rfl⟩
  have hp' : (i : Int) * (C : Int) = (p : Int) := by rw [← hp]; push_cast; rfl

  rw [hlen] at hx hk hRC
  rw [hp] at hk hs
  rw [hp]
  obtain ⟨⟨p0, p1, p2, p3⟩, _⟩ := hx.all
  clear hx hc hlen hp hi
  generalize A.getD (p + j) 0 = v at *
  go_enter Try.func114, Try.ntmps114
  go_wp2
  go_ret
  exact ⟨rfl, rfl⟩

theorem secondSide_gain (n R C i j b off c1 b' off' c2 : Nat) (A B : List Int) (w : World) (hi : i < R) (hj : j < C) (hRC : R * C ≤ 36) (hx : Box4 w n 27 (.int .i64 R) (.int .i64 C) (.slice (some ⟨b, off, none⟩) (R * C) c1) (.slice (some ⟨b', off', none⟩) (R * C) c2))
    (hc : ∀ i, i < R * C → w.cell? ⟨b', off' + i, none⟩ = some (.int .i64 (B.getD i 0))) :
    Calls Try.prog 115 #[.int .i64 j, .int .i64 i, .pointer (some ⟨n, 0, none⟩)] w fun e w' => e = .returned (.int .i64 (B.getD (i * C + j) 0)) ∧ w = w' := by
  have hk := place_lt hi hj
  have hs := hc _ hk
  obtain ⟨len, hlen⟩ : ∃ len, R * C = len := ⟨_, rfl⟩
  obtain ⟨p, hp⟩ : ∃ p, i * C = p := ⟨_, rfl⟩
  have hp' : (i : Int) * (C : Int) = (p : Int) := by rw [← hp]; push_cast; rfl

  rw [hlen] at hx hk hRC
  rw [hp] at hk hs
  rw [hp]
  obtain ⟨⟨p0, p1, p2, p3⟩, _⟩ := hx.all
  clear hx hc hlen hp hi
  generalize B.getD (p + j) 0 = v at *
  go_enter Try.func115, Try.ntmps115
  go_wp2
  go_ret
  exact ⟨rfl, rfl⟩

theorem payingSide_gain (n R C i j b off c1 b' off' c2 : Nat) (A B : List Int) (w : World) (hi : i < R) (hj : j < C) (hRC : R * C ≤ 36) (hx : Box4 w n 27 (.int .i64 R) (.int .i64 C) (.slice (some ⟨b, off, none⟩) (R * C) c1) (.slice (some ⟨b', off', none⟩) (R * C) c2))
    (hc : ∀ i, i < R * C → w.cell? ⟨b, off + i, none⟩ = some (.int .i64 (A.getD i 0))) (hz : okGains A = true) (hl : A.length = R * C) :
    Calls Try.prog 118 #[.int .i64 j, .int .i64 i, .pointer (some ⟨n, 0, none⟩)] w fun e w' => e = .returned (.int .i64 (-A.getD (i * C + j) 0)) ∧ w = w' := by
  have hk := place_lt hi hj
  have hs := hc _ hk
  obtain ⟨len, hlen⟩ : ∃ len, R * C = len := ⟨_, rfl⟩
  obtain ⟨p, hp⟩ : ∃ p, i * C = p := ⟨_, rfl⟩
  have hp' : (i : Int) * (C : Int) = (p : Int) := by rw [← hp]; push_cast; rfl
  have hg := okGains_at hz (i := i * C + j) (by rw [hl]; exact hk)
  rw [hlen] at hx hk hRC
  rw [hp] at hk hs hg
  rw [hp]
  obtain ⟨⟨p0, p1, p2, p3⟩, _⟩ := hx.all
  clear hx hc hlen hp hi hz hl
  generalize A.getD (p + j) 0 = v at *
  go_enter Try.func118, Try.ntmps118
  go_wp2
  go_ret
  exact ⟨rfl, rfl⟩
end Go.Proofs.Ytnmehenkbinfmaa
