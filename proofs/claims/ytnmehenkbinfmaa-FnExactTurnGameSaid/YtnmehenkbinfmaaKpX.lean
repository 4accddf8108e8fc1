/-
  What a round of a range over a function keeps: all that lay below N, but the blocks of S.
-/
import Derived.RangeFuncNested
import Derived.RangeFuncBound
import Derived.RangeFuncCalls
import Derived.RangeFuncLeaves
import Derived.Shelf.Abstract
import Derived.Shelf.RegionOpen
import Derived.WalkKit
import Derived.OwnWalkIn
import Derived.TacticsInMore
import Derived.LoopNIn
import Derived.LoopIn
import Derived.Test.YtnmehenkbinfmaaGCom
namespace Go.Proofs.Ytnmehenkbinfmaa
open Go.RowKit Go.Shelf
set_option linter.unusedVariables false

structure KpX (S : Nat → Prop) (N : Nat) (W W' : World) : Prop where
  os : W'.os = W.os
  tape : W'.tape = W.tape
  output : W'.output = W.output
  size : W.heap.size ≤ W'.heap.size
  block : ∀ k, k < N → ¬ S k → W'.heap[k]? = W.heap[k]?

section
variable {S : Nat → Prop} {N : Nat} {W W' W'' : World}
theorem KpX.refl : KpX S N W W := ⟨rfl, rfl, rfl, Nat.le_refl _, fun _ _ _ => rfl⟩
theorem KpX.trans (h : KpX S N W W') (k : KpX S N W' W'') : KpX S N W W'' :=
  ⟨k.os.trans h.os, k.tape.trans h.tape, k.output.trans h.output, Nat.le_trans h.size k.size, fun i hi hs => (k.block i hi hs).trans (h.block i hi hs)⟩
theorem kpX_t {A C D : World} (h : KpX S N A C) (k : KpX S N C D) : KpX S N A D := h.trans k
theorem KpX.of_below (h : Below N W W') : KpX S N W W' := ⟨h.os, h.tape, h.output, h.size, fun k hk _ => h.block k hk⟩
theorem KpX.of_ext (h : Below W.heap.size W W') (hN : N ≤ W.heap.size) : KpX S N W W' := .of_below (h.mono hN)
theorem KpX.below {n : Nat} (h : KpX S N W W') (hn : n ≤ N) (hs : ∀ k, k < n → ¬ S k) : Below n W W' :=
  ⟨h.os, h.tape, h.output, h.size, fun k hk => h.block k (Nat.lt_of_lt_of_le hk hn) (hs k hk)⟩
theorem KpX.set {b i : Nat} {u : Value} (hb : S b ∨ N ≤ b) : KpX S N W (W.setCell ⟨b, i, none⟩ u) :=
  ⟨rfl, rfl, rfl, by simp [World.setCell], fun k hk hs => Below.heap_setCell W ⟨b, i, none⟩ u k (by
    intro e
    have e : k = b := e
    subst e
    rcases hb with h | h
    · exact hs h
    · omega)⟩
theorem KpX.cell {b i : Nat} {v : Value} (h : KpX S N W W') (hb : b < N) (hs : ¬ S b) (hc : W.cell? ⟨b, i, none⟩ = some v) : W'.cell? ⟨b, i, none⟩ = some v :=
  (World.cell?_of_block (h.block b hb hs)).trans hc
theorem KpX.boxed {b : Nat} {t : TypeId} {v : Value} (h : KpX S N W W') (hb : b < N) (hs : ¬ S b) (hc : Boxed W b t v) : Boxed W' b t v := (h.block b hb hs).trans hc

theorem kpX_b {w : World} (hN : N ≤ w.heap.size) (W : World) (l : Nat) (o o' : Obj) (hl : w.heap.size ≤ l) (h : W.heap[l]? = some o) (h1 : o.isCells = false) (h2 : o.isWalk = false) : KpX S N W (W.putObj l o') :=
  .of_below (belowK_b hN W l o o' hl h h1 h2)

theorem ownFrom_kpX {β : Type} {C : Nat} {w₀ : World} (hN : N ≤ w₀.heap.size) (hC : N ≤ C) : OwnFrom C (fun (_ : β) W => KpX S N w₀ W) :=
  fun s X Y row hs hg hr => hs.trans ⟨hg.os, hg.tape, hg.output, hg.size, fun k hk _ => hg.block k (by have := hs.size; omega) (fun e => by have := (hr k e.symm).1; omega)⟩
end

theorem keepsFrom_ext {B : Nat} {W W' : World} (h : Below W.heap.size W W') : KeepsFrom B W W' :=
  ⟨h.size, fun k o _ hk _ => (h.block k (Array.getElem?_eq_some_iff.1 hk).1).trans hk⟩
theorem boxed_ext {W W' : World} {B : Nat} {t : TypeId} {v : Value} (h : Boxed W B t v) (hb : Below W.heap.size W W') : Boxed W' B t v := (hb.block B h.lt).trans h
theorem IAt.kpX {S : Nat → Prop} {N : Nat} {W W' : World} {a : Option Addr} {len : Nat} {zs : List Int} (h : IAt W a len zs) (k : KpX S N W W') (hb : len = 0 ∨ ∀ x, a = some x → x.block < N ∧ ¬ S x.block) (hN : N ≤ W.heap.size) : IAt W' a len zs := by
  obtain ⟨h1, h2, h3, h4⟩ := h
  refine ⟨h1, h2, h3, ?_⟩
  rcases h4 with h4 | ⟨b, off, rfl, hlt, hc⟩
  · exact .inl h4
  · rcases hb with hb | hb
    · exact .inl hb
    · have hx := hb _ rfl
      exact .inr ⟨b, off, rfl, Nat.lt_of_lt_of_le hlt k.size, fun i hi => k.cell hx.1 hx.2 (hc i hi)⟩
end Go.Proofs.Ytnmehenkbinfmaa
