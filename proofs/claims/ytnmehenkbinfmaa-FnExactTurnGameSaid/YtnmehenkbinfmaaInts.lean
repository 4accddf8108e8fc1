/-
  Slices of int64, as the walks are told of them: one that is read (IAt), one that the call made (Own), and what a step leaves as it was (Below, Keeps).
-/
import Derived.Test.YtnmehenkbinfmaaRows
import Derived.WalkKit
import Derived.WalkLawsBesides
import Derived.Deep.Draws
import Derived.Lib.Hide
import Derived.OpenShut
import Derived.Outline
import Derived.ChangeArms
import Derived.ChangeSlices
import Derived.OwnWalk
import Derived.Laws.OwnMore
import Derived.Below
namespace Go.Proofs.Ytnmehenkbinfmaa
open Go.RowKit Go.ChangeShapes Go.WideShapes

/-- a number of int64 -/
def Big (z : Int) : Prop := -9223372036854775808 ≤ z ∧ z ≤ 9223372036854775807

/-- the numbers 'zs' are read at the slice's head -/
def IAt (w : World) (a : Option Addr) (len : Nat) (zs : List Int) : Prop :=
  zs.length = len ∧ len ≤ maxLen ∧ (∀ z ∈ zs, Big z) ∧
  (len = 0 ∨ ∃ b off, a = some ⟨b, off, none⟩ ∧ b < w.heap.size ∧ ∀ i, i < len → w.cell? ⟨b, off + i, none⟩ = some (.int .i64 (zs.getD i 0)))

/-- a row of the call's own, its block from 'lo' on and below 'hi' -/
def Own (w : World) (lo hi : Nat) (a : Option Addr) (len cap : Nat) (zs : List Int) : Prop :=
  zs.length = len ∧ (∀ z ∈ zs, Big z) ∧ hi ≤ w.heap.size ∧ (∀ x, a = some x → x.block < hi) ∧ w.ownsRow lo 2 1 (.slice a len cap) len (zs.map (Value.int .i64))

/-- all blocks but those from 'lo' on and below 'hi' are as they were -/
structure Keeps (lo hi : Nat) (w w' : World) : Prop where
  os : w'.os = w.os
  tape : w'.tape = w.tape
  output : w'.output = w.output
  size : w.heap.size ≤ w'.heap.size
  block : ∀ k, k < w.heap.size → (k < lo ∨ hi ≤ k) → w'.heap[k]? = w.heap[k]?

theorem Keeps.refl (lo hi : Nat) (w : World) : Keeps lo hi w w := ⟨rfl, rfl, rfl, Nat.le_refl _, fun _ _ _ => rfl⟩
theorem Keeps.trans {lo hi : Nat} {a b c : World} (h : Keeps lo hi a b) (k : Keeps lo hi b c) : Keeps lo hi a c :=
  ⟨k.os.trans h.os, k.tape.trans h.tape, k.output.trans h.output, Nat.le_trans h.size k.size, fun i hi g => (k.block i (Nat.lt_of_lt_of_le hi h.size) g).trans (h.block i hi g)⟩
theorem Keeps.of_below {lo hi : Nat} {w w' : World} (h : Below w.heap.size w w') : Keeps lo hi w w' := ⟨h.os, h.tape, h.output, h.size, fun k hk _ => h.block k hk⟩
theorem Keeps.below {lo hi B : Nat} {w w' : World} (h : Keeps lo hi w w') (h1 : B ≤ lo) (h2 : B ≤ w.heap.size) : Below B w w' :=
  ⟨h.os, h.tape, h.output, h.size, fun k hk => h.block k (Nat.lt_of_lt_of_le hk h2) (.inl (Nat.lt_of_lt_of_le hk h1))⟩
theorem Keeps.wide {lo hi lo' hi' : Nat} {w w' : World} (h : Keeps lo hi w w') (h1 : lo' ≤ lo) (h2 : hi ≤ hi') : Keeps lo' hi' w w' :=
  ⟨h.os, h.tape, h.output, h.size, fun k hk g => h.block k hk (g.imp (fun g => Nat.lt_of_lt_of_le g h1) (fun g => Nat.le_trans h2 g))⟩

/-- a step that only makes blocks goes on behind what was kept below -/
theorem below_after {B : Nat} {w w' w'' : World} (h : Below B w w') (hB : B ≤ w.heap.size) (k : Below w'.heap.size w' w'') : Below B w w'' :=
  h.trans (k.mono (Nat.le_trans hB h.size))

theorem ownsRow_block {w w' : World} {lo : Nat} {e : TypeId} {size : Nat} {v : Value} {n : Nat} {xs : List Value} (h : w.ownsRow lo e size v n xs)
    (hb : ∀ k, v.ownBlock = some k → w'.heap[k]? = w.heap[k]?) : w'.ownsRow lo e size v n xs := by
  refine ⟨h.1, h.2.imp id ?_⟩
  rintro ⟨g, cap, cur, rfl, h1, h2, r⟩
  exact ⟨g, cap, cur, rfl, h1, (hb g rfl).trans h2, r⟩

theorem Own.keep {w w' : World} {lo hi : Nat} {a : Option Addr} {len cap : Nat} {zs : List Int} (h : Own w lo hi a len cap zs) (hs : w.heap.size ≤ w'.heap.size)
    (hb : ∀ k, lo ≤ k → k < hi → w'.heap[k]? = w.heap[k]?) : Own w' lo hi a len cap zs := by
  obtain ⟨h1, h2, h3, h4, h5⟩ := h
  refine ⟨h1, h2, Nat.le_trans h3 hs, h4, ownsRow_block h5 fun k hk => hb k ?_ ?_⟩
  · exact (h5.lt k hk).1
  · cases a with
    | none => cases hk
    | some x => cases hk; exact h4 x rfl

theorem Own.below {w w' : World} {lo hi : Nat} {a : Option Addr} {len cap : Nat} {zs : List Int} (h : Own w lo hi a len cap zs) (hb : Below w.heap.size w w') : Own w' lo hi a len cap zs :=
  h.keep hb.size fun k _ hk => hb.block k (Nat.lt_of_lt_of_le hk h.2.2.1)

theorem Own.keeps {w w' : World} {lo hi lo' hi' : Nat} {a : Option Addr} {len cap : Nat} {zs : List Int} (h : Own w lo hi a len cap zs) (hb : Keeps lo' hi' w w') (hd : hi ≤ lo' ∨ hi' ≤ lo) : Own w' lo hi a len cap zs :=
  h.keep hb.size fun k h1 h2 => hb.block k (Nat.lt_of_lt_of_le h2 h.2.2.1) (by omega)

theorem Own.far {w : World} {lo hi : Nat} {a : Option Addr} {len cap : Nat} {zs : List Int} {n i : Nat} {u : Value} (h : Own w lo hi a len cap zs) (hn : n < lo ∨ hi ≤ n) : Own (w.setCell ⟨n, i, none⟩ u) lo hi a len cap zs :=
  h.keep (by simp [World.setCell]) fun k h1 h2 => Below.heap_setCell w ⟨n, i, none⟩ u k (by show k ≠ n; omega)

theorem Own.wide {w : World} {lo hi lo' hi' : Nat} {a : Option Addr} {len cap : Nat} {zs : List Int} (h : Own w lo hi a len cap zs) (h1 : lo' ≤ lo) (h2 : hi ≤ hi') (h3 : hi' ≤ w.heap.size) : Own w lo' hi' a len cap zs := by
  obtain ⟨g1, g2, g3, g4, g5, g6⟩ := h
  refine ⟨g1, g2, h3, fun x hx => Nat.lt_of_lt_of_le (g4 x hx) h2, g5, g6.imp id ?_⟩
  rintro ⟨g, cap, cur, e, h1', r⟩
  exact ⟨g, cap, cur, e, Nat.le_trans h1 h1', r⟩

theorem Own.iat {w : World} {lo hi : Nat} {a : Option Addr} {len cap : Nat} {zs : List Int} (h : Own w lo hi a len cap zs) : IAt w a len zs := by
  obtain ⟨h1, h2, h3, h4, h5⟩ := h
  rcases h5.2 with ⟨e, rfl⟩ | ⟨g, cap', cur, e, hg, hh, hn, hm, _⟩
  · exact ⟨h1, Nat.zero_le _, h2, .inl rfl⟩
  · simp only [Value.slice.injEq, true_and] at e
    obtain ⟨rfl, rfl⟩ := e
    refine ⟨h1, by omega, h2, ?_⟩
    by_cases h0 : len = 0
    · exact .inl h0
    · refine .inr ⟨g, 0, rfl, ?_, fun i hi => ?_⟩
      · exact Nat.lt_of_lt_of_le (h4 _ rfl) h3
      · rw [Nat.zero_add, h5.cellAt i (by omega)]
        subst h1
        simp [List.getD, hi]

theorem IAt.below {w w' : World} {a : Option Addr} {len : Nat} {zs : List Int} (h : IAt w a len zs) (hb : Below w.heap.size w w') : IAt w' a len zs := by
  obtain ⟨h1, h2, h3, h4⟩ := h
  exact ⟨h1, h2, h3, h4.imp id fun ⟨b, off, e, hlt, hc⟩ => ⟨b, off, e, Nat.lt_of_lt_of_le hlt hb.size, fun i hi => (hb.cell (p := ⟨b, off + i, none⟩) hlt).trans (hc i hi)⟩⟩

/-- what came in ahead of block B -/
def InB (B : Nat) (w : World) (a : Option Addr) (len : Nat) (zs : List Int) : Prop := IAt w a len zs ∧ (len = 0 ∨ ∀ x, a = some x → x.block < B)

theorem InB.keep {B : Nat} {w w' : World} {a : Option Addr} {len : Nat} {zs : List Int} (h : InB B w a len zs) (hb : Below B w w') : InB B w' a len zs := by
  obtain ⟨⟨h1, h2, h3, h4⟩, h5⟩ := h
  refine ⟨⟨h1, h2, h3, ?_⟩, h5⟩
  rcases h4 with h4 | ⟨b, off, rfl, hlt, hc⟩
  · exact .inl h4
  · rcases h5 with h5 | h5
    · exact .inl h5
    · exact .inr ⟨b, off, rfl, Nat.lt_of_lt_of_le hlt hb.size, fun i hi => (hb.cell (p := ⟨b, off + i, none⟩) (h5 ⟨b, off, none⟩ rfl)).trans (hc i hi)⟩

theorem IAt.inB {w : World} {a : Option Addr} {len : Nat} {zs : List Int} (h : IAt w a len zs) : InB w.heap.size w a len zs := by
  refine ⟨h, h.2.2.2.imp id ?_⟩
  rintro ⟨b, off, rfl, hb, _⟩ x hx
  cases hx
  exact hb

theorem iat_zero {w : World} {a : Option Addr} {zs : List Int} (h : IAt w a 0 zs) : zs = [] := List.eq_nil_of_length_eq_zero h.1
theorem big_of_mem {zs : List Int} (h : ∀ z ∈ zs, Big z) (i : Nat) : Big (zs.getD i 0) := by
  by_cases hi : i < zs.length
  · rw [List.getD_eq_getElem?_getD, List.getElem?_eq_getElem hi]; exact h _ (List.getElem_mem hi)
  · rw [List.getD_eq_getElem?_getD, List.getElem?_eq_none (by omega)]; simp [Big]
theorem big_of_wf {z : Int} (h : (Lit.int .i64 z).wf = true) : Big z := by
  simp only [Lit.wf, Bool.and_eq_true, decide_eq_true_eq, show IntKind.i64.min = -9223372036854775808 by decide, show IntKind.i64.max = 9223372036854775807 by decide] at h
  exact h

/-- a list that is being filled -/
theorem fill_int (zs : List Int) (len k : Nat) (h : zs.length = len) (hk : k < len) :
    ((zs.take k).map (Value.int .i64) ++ List.replicate (len - k) (Value.int .i64 0)).set k (Value.int .i64 (zs.getD k 0)) = (zs.take (k + 1)).map (Value.int .i64) ++ List.replicate (len - (k + 1)) (Value.int .i64 0) := by
  subst h
  have hl : ((zs.take k).map (Value.int .i64)).length = k := by simp; omega
  have e1 : zs.length - k = (zs.length - (k + 1)) + 1 := by omega
  rw [List.set_append_right _ _ (by omega), hl, Nat.sub_self, e1, List.replicate_succ, List.set_cons_zero, List.take_succ_eq_append_getElem hk, List.map_append, List.append_assoc]
  simp [List.getD, hk]

theorem own_of_row {w : World} {lo : Nat} {a : Option Addr} {m cap : Nat} {zs : List Int} (h : w.ownsRow lo 2 1 (.slice a m cap) m (zs.map (Value.int .i64))) (hb : ∀ z ∈ zs, Big z) : Own w lo w.heap.size a m cap zs := by
  have hl := h.1
  refine ⟨by simpa using hl, hb, Nat.le_refl _, fun x hx => ?_, h⟩
  subst hx
  exact (h.lt _ rfl).2
theorem row_slice {w : World} {lo : Nat} {e : TypeId} {v : Value} {n : Nat} {xs : List Value} (h : w.ownsRow lo e 1 v n xs) : ∃ a cap, v = .slice a n cap := by
  rcases h.2 with ⟨rfl, rfl⟩ | ⟨g, cap, cur, rfl, _⟩
  · exact ⟨none, 0, rfl⟩
  · exact ⟨_, cap, rfl⟩
end Go.Proofs.Ytnmehenkbinfmaa
