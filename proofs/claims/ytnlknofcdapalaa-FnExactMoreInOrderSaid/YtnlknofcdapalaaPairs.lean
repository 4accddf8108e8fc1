/-
  Does a rule hold for any two sets of worths? The program's two loops over all parts.
-/
import Derived.Test.YtnlknofcdapalaaParts
import Derived.Test.YtnlknofcdapalaaWValid
namespace Go.Proofs.Ytnlknofcdapalaa
open Go.RowKit Go.Shelf
set_option linter.unusedVariables false
attribute [local go_sem] Oper.semAt_some

theorem ownFrom_kpS {β : Type} {n₀ B C : Nat} {w₀ : World} (hn : n₀ ≤ w₀.heap.size) (hC : n₀ ≤ C) (hB : B < w₀.heap.size) (hBC : B < C) : OwnFrom C (fun (_ : β) W => KpS n₀ B w₀ W) :=
  fun s W W' row hs hg hr => ⟨hs.1.grown hg (Nat.le_trans hn hs.1.size) (fun k e => Nat.le_trans hC (hr k e).1), (hg.block B (Nat.lt_of_lt_of_le hB hs.1.size) (fun e => by have := (hr B e.symm).1; omega)).trans hs.2⟩
theorem keepsFrom_below {B : Nat} {W W' : World} (h : Below W.heap.size W W') : KeepsFrom B W W' :=
  ⟨h.size, fun k o _ hk _ => (h.block k (Array.getElem?_eq_some_iff.1 hk).1).trans hk⟩
theorem Boxed.below {W W' : World} {B : Nat} {t : TypeId} {v : Value} (h : Boxed W B t v) (hb : Below W.heap.size W W') : Boxed W' B t v := (hb.block B h.lt).trans h
theorem KpS.below {n₀ B : Nat} {W W' : World} (hb : Below W.heap.size W W') (hn : n₀ ≤ W.heap.size) (hB : B < W.heap.size) : KpS n₀ B W W' := ⟨hb.mono hn, hb.block B hB⟩

def wholeN (P : Nat) : Nat := 2 ^ P - 1
theorem wholeN_lt {P : Nat} (h : P ≤ 6) : wholeN P < 64 := by
  unfold wholeN
  have : (2 : Nat) ^ P ≤ 2 ^ 6 := Nat.pow_le_pow_right (by decide) h
  have : 0 < (2 : Nat) ^ P := Nat.pow_pos (by decide)
  omega

theorem wholeOf_any (P : Nat) (h : P ≤ 6) (w : World) :
    Calls Try.prog 91 #[.int .i64 (P : Nat)] w fun e w' => e = .returned (.int .i64 (wholeN P : Nat)) ∧ w = w' := by
  have : P = 0 ∨ P = 1 ∨ P = 2 ∨ P = 3 ∨ P = 4 ∨ P = 5 ∨ P = 6 := by omega
  rcases this with rfl | rfl | rfl | rfl | rfl | rfl | rfl
  all_goals
    go_enter Try.func91, Try.ntmps91
    go_wp2
    go_ret
    exact ⟨rfl, rfl⟩

theorem whole_any (P : Nat) (h : P ≤ 6) (a1 : Option Addr) (l1 c1 : Nat) (w : World) :
    Calls Try.prog 70 #[worthsV (P : Nat) a1 l1 c1] w fun e w' => e = .returned (.int .i64 (wholeN P : Nat)) ∧ Below w.heap.size w w' := by
  go_enter Try.func70, Try.ntmps70
  go_wp2_with (go_at_call 91; refine (wholeOf_any P h _).mono ?_; rintro e w' ⟨rfl, rfl⟩)
  go_ret
  exact ⟨rfl, below1⟩

/-- a rule on sets, as the program's closure tells it -/
def RuleAt (w : World) (g : Nat) (caps : Array Value) (S : Nat) (f : Nat → Nat → Bool) : Prop :=
  ∀ W, Below w.heap.size w W → ∀ s t : Part S, Calls Try.prog g (#[.int .i64 (s.1 : Nat), .int .i64 (t.1 : Nat)] ++ caps) W fun e W' => e = .returned (.bool (f s.1 t.1)) ∧ Same W W'
def allPairs (S : Nat) (f : Nat → Nat → Bool) : Bool := (partsAll S).all fun s => (partsAll S).all fun t => f s.1 t.1

end Go.Proofs.Ytnlknofcdapalaa
