/-
  Slices of slices of int64, as the walks are told of them: those that are read (RAt), those that came in ahead of a block (RIn), those that a call made, each row in blocks of its own (OwnR).
-/
import Derived.Test.YtnmehenkbinfmaaGCom
namespace Go.Proofs.Ytnmehenkbinfmaa
open Go.RowKit Go.ChangeShapes Go.WideShapes
set_option linter.unusedVariables false

/-- the length of row i -/
abbrev rl (Zs : List (List Int)) (i : Nat) : Nat := (Zs.getD i []).length

/-- a slice has room for its numbers, and no room if it is nil -/
def Fits (a : Option Addr) (l c : Nat) : Prop := l ≤ c ∧ (a = none → c = 0)
/-- the rows 'Zs' are read at the slice's head -/
def RAt (w : World) (a : Option Addr) (len : Nat) (Zs : List (List Int)) : Prop :=
  Zs.length = len ∧ len ≤ maxLen ∧
  (len = 0 ∨ ∃ b off, a = some ⟨b, off, none⟩ ∧ b < w.heap.size ∧ ∀ i, i < len → ∃ ai ci, w.cell? ⟨b, off + i, none⟩ = some (.slice ai (rl Zs i) ci) ∧ Fits ai (rl Zs i) ci ∧ IAt w ai (rl Zs i) (Zs.getD i []))

def RIn (B : Nat) (w : World) (a : Option Addr) (len : Nat) (Zs : List (List Int)) : Prop :=
  Zs.length = len ∧ len ≤ maxLen ∧
  (len = 0 ∨ ∃ b off, a = some ⟨b, off, none⟩ ∧ b < w.heap.size ∧ b < B ∧ ∀ i, i < len → ∃ ai ci, w.cell? ⟨b, off + i, none⟩ = some (.slice ai (rl Zs i) ci) ∧ Fits ai (rl Zs i) ci ∧ InB B w ai (rl Zs i) (Zs.getD i []))

theorem InB.iat {B : Nat} {w : World} {a : Option Addr} {len : Nat} {zs : List Int} (h : InB B w a len zs) : IAt w a len zs := h.1

section
variable {w w' : World} {B : Nat} {a : Option Addr} {len cap lo hi : Nat} {Zs : List (List Int)}
theorem RAt.below (h : RAt w a len Zs) (hb : Below w.heap.size w w') : RAt w' a len Zs := by
  obtain ⟨h1, h2, h3⟩ := h
  refine ⟨h1, h2, h3.imp id ?_⟩
  rintro ⟨b, off, rfl, hlt, hr⟩
  refine ⟨b, off, rfl, Nat.lt_of_lt_of_le hlt hb.size, fun i hi => ?_⟩
  obtain ⟨ai, ci, hc, hl, hz⟩ := hr i hi
  exact ⟨ai, ci, (hb.cell (p := ⟨b, off + i, none⟩) hlt).trans hc, hl, hz.below hb⟩

theorem RIn.keep (h : RIn B w a len Zs) (hb : Below B w w') : RIn B w' a len Zs := by
  obtain ⟨h1, h2, h3⟩ := h
  refine ⟨h1, h2, h3.imp id ?_⟩
  rintro ⟨b, off, rfl, hlt, hB, hr⟩
  refine ⟨b, off, rfl, Nat.lt_of_lt_of_le hlt hb.size, hB, fun i hi => ?_⟩
  obtain ⟨ai, ci, hc, hl, hz⟩ := hr i hi
  exact ⟨ai, ci, (hb.cell (p := ⟨b, off + i, none⟩) hB).trans hc, hl, hz.keep hb⟩

theorem RIn.iat (h : RIn B w a len Zs) : RAt w a len Zs := by
  obtain ⟨h1, h2, h3⟩ := h
  refine ⟨h1, h2, h3.imp id ?_⟩
  rintro ⟨b, off, rfl, hlt, hB, hr⟩
  refine ⟨b, off, rfl, hlt, fun i hi => ?_⟩
  obtain ⟨ai, ci, hc, hl, hz⟩ := hr i hi
  exact ⟨ai, ci, hc, hl, hz.1⟩

theorem RAt.inB (h : RAt w a len Zs) : RIn w.heap.size w a len Zs := by
  obtain ⟨h1, h2, h3⟩ := h
  refine ⟨h1, h2, h3.imp id ?_⟩
  rintro ⟨b, off, rfl, hlt, hr⟩
  refine ⟨b, off, rfl, hlt, hlt, fun i hi => ?_⟩
  obtain ⟨ai, ci, hc, hl, hz⟩ := hr i hi
  exact ⟨ai, ci, hc, hl, hz.inB⟩

theorem rat_zero (h : RAt w a 0 Zs) : Zs = [] := List.eq_nil_of_length_eq_zero h.1

/-- a row of the call's own, or one without numbers, wherever it lies -/
def OwnE (w : World) (lo hi : Nat) (a : Option Addr) (len cap : Nat) (zs : List Int) : Prop := (len = 0 ∧ zs = [] ∧ (a = none → cap = 0)) ∨ Own w lo hi a len cap zs
theorem OwnE.keep {w w' : World} {lo hi : Nat} {a : Option Addr} {len cap : Nat} {zs : List Int} (h : OwnE w lo hi a len cap zs) (hs : w.heap.size ≤ w'.heap.size)
    (hb : ∀ k, lo ≤ k → k < hi → w'.heap[k]? = w.heap[k]?) : OwnE w' lo hi a len cap zs := h.imp id fun h => h.keep hs hb
theorem OwnE.keeps {w w' : World} {lo hi lo' hi' : Nat} {a : Option Addr} {len cap : Nat} {zs : List Int} (h : OwnE w lo hi a len cap zs) (hb : Keeps lo' hi' w w') (hd : hi ≤ lo' ∨ hi' ≤ lo) : OwnE w' lo hi a len cap zs := h.imp id fun h => h.keeps hb hd
theorem OwnE.below {w w' : World} {lo hi : Nat} {a : Option Addr} {len cap : Nat} {zs : List Int} (h : OwnE w lo hi a len cap zs) (hb : Below w.heap.size w w') : OwnE w' lo hi a len cap zs := h.imp id fun h => h.below hb
theorem OwnE.iat {w : World} {lo hi : Nat} {a : Option Addr} {len cap : Nat} {zs : List Int} (h : OwnE w lo hi a len cap zs) : IAt w a len zs := by
  rcases h with ⟨rfl, rfl, _⟩ | h
  · exact ⟨rfl, Nat.zero_le _, by simp, .inl rfl⟩
  · exact h.iat

theorem Own.lecap {w : World} {lo hi : Nat} {a : Option Addr} {len cap : Nat} {zs : List Int} (h : Own w lo hi a len cap zs) : len ≤ cap := by
  rcases h.2.2.2.2.2 with ⟨e, rfl⟩ | ⟨g, cap', cur, e, hg, hh, hn, hm, _⟩
  · exact Nat.zero_le _
  · simp only [Value.slice.injEq, true_and] at e
    obtain ⟨rfl, rfl⟩ := e
    exact hn

theorem Own.fits {w : World} {lo hi : Nat} {a : Option Addr} {len cap : Nat} {zs : List Int} (h : Own w lo hi a len cap zs) : Fits a len cap := by
  refine ⟨h.lecap, fun e => ?_⟩
  subst e
  rcases h.2.2.2.2.2 with ⟨e, _⟩ | ⟨g, cap', cur, e, _⟩
  · simp only [Value.slice.injEq, true_and] at e
    exact e.2
  · simp at e
theorem OwnE.lecap {w : World} {lo hi : Nat} {a : Option Addr} {len cap : Nat} {zs : List Int} (h : OwnE w lo hi a len cap zs) : Fits a len cap := by
  rcases h with ⟨rfl, rfl, h⟩ | h
  · exact ⟨Nat.zero_le _, h⟩
  · exact h.fits

/-- rows of the call's own: the outer block, and each row's blocks in a stretch of its own -/
def OwnR (w : World) (lo hi : Nat) (a : Option Addr) (len cap : Nat) (Zs : List (List Int)) : Prop :=
  Zs.length = len ∧ len ≤ maxLen ∧ len ≤ cap ∧ hi ≤ w.heap.size ∧
  (len = 0 ∨ ∃ (g : Nat) (p q : Nat → Nat) (A : Nat → Option Addr) (C : Nat → Nat), a = some ⟨g, 0, none⟩ ∧ lo ≤ g ∧ g < hi ∧
    (∀ i, i < len → w.cell? ⟨g, i, none⟩ = some (.slice (A i) (rl Zs i) (C i)) ∧ OwnE w (p i) (q i) (A i) (rl Zs i) (C i) (Zs.getD i []) ∧ lo ≤ p i ∧ q i ≤ hi ∧ (g < p i ∨ q i ≤ g)) ∧
    ∀ i j, i < j → j < len → q i ≤ p j)

theorem OwnR.keep (h : OwnR w lo hi a len cap Zs) (hs : w.heap.size ≤ w'.heap.size) (hb : ∀ k, lo ≤ k → k < hi → w'.heap[k]? = w.heap[k]?) : OwnR w' lo hi a len cap Zs := by
  obtain ⟨h1, h2, h3, h4, h5⟩ := h
  refine ⟨h1, h2, h3, Nat.le_trans h4 hs, h5.imp id ?_⟩
  rintro ⟨g, p, q, A, C, rfl, hg, hg', hr, hd⟩
  refine ⟨g, p, q, A, C, rfl, hg, hg', fun i hi => ?_, hd⟩
  obtain ⟨hc, ho, hp, hq, hgo⟩ := hr i hi
  exact ⟨(World.cell?_of_block (a := ⟨g, i, none⟩) (hb g hg hg')).trans hc, ho.keep hs (fun k k1 k2 => hb k (Nat.le_trans hp k1) (Nat.lt_of_lt_of_le k2 hq)), hp, hq, hgo⟩
theorem OwnR.below (h : OwnR w lo hi a len cap Zs) (hb : Below w.heap.size w w') : OwnR w' lo hi a len cap Zs :=
  h.keep hb.size fun k _ hk => hb.block k (Nat.lt_of_lt_of_le hk h.2.2.2.1)
theorem OwnR.keeps {lo' hi' : Nat} (h : OwnR w lo hi a len cap Zs) (hb : Keeps lo' hi' w w') (hd : hi ≤ lo' ∨ hi' ≤ lo) : OwnR w' lo hi a len cap Zs :=
  h.keep hb.size fun k h1 h2 => hb.block k (Nat.lt_of_lt_of_le h2 h.2.2.2.1) (by omega)
theorem OwnR.wide {lo' hi' : Nat} (h : OwnR w lo hi a len cap Zs) (h1 : lo' ≤ lo) (h2 : hi ≤ hi') (h3 : hi' ≤ w.heap.size) : OwnR w lo' hi' a len cap Zs := by
  obtain ⟨g1, g2, g3, g4, g5⟩ := h
  refine ⟨g1, g2, g3, h3, g5.imp id ?_⟩
  rintro ⟨g, p, q, A, C, rfl, hg, hg', hr, hd⟩
  refine ⟨g, p, q, A, C, rfl, Nat.le_trans h1 hg, Nat.lt_of_lt_of_le hg' h2, fun i hi => ?_, hd⟩
  obtain ⟨hc, ho, hp, hq, hgo⟩ := hr i hi
  exact ⟨hc, ho, Nat.le_trans h1 hp, Nat.le_trans hq h2, hgo⟩
theorem OwnR.iat (h : OwnR w lo hi a len cap Zs) : RAt w a len Zs := by
  obtain ⟨h1, h2, h3, h4, h5⟩ := h
  refine ⟨h1, h2, h5.imp id ?_⟩
  rintro ⟨g, p, q, A, C, rfl, hg, hg', hr, hd⟩
  refine ⟨g, 0, rfl, Nat.lt_of_lt_of_le hg' h4, fun i hi => ?_⟩
  obtain ⟨hc, ho, hp, hq, hgo⟩ := hr i hi
  exact ⟨A i, C i, by rw [Nat.zero_add]; exact hc, ho.lecap, ho.iat⟩
theorem ownR_nil (w : World) {lo hi : Nat} (h : hi ≤ w.heap.size) (a : Option Addr) (cap : Nat) : OwnR w lo hi a 0 cap [] := ⟨rfl, Nat.zero_le _, Nat.zero_le _, h, .inl rfl⟩
end

/-- the sum of the first rows' lengths -/
def pre : List (List Int) → Nat → Nat
  | [], _ => 0
  | _ :: _, 0 => 0
  | Z :: Zs, n + 1 => Z.length + pre Zs n
def tot (Zs : List (List Int)) : Nat := pre Zs Zs.length
theorem pre_zero (Zs : List (List Int)) : pre Zs 0 = 0 := by cases Zs <;> rfl
theorem pre_succ : ∀ (Zs : List (List Int)) (n : Nat), n < Zs.length → pre Zs (n + 1) = pre Zs n + rl Zs n
  | Z :: Zs, 0, _ => by simp [pre, pre_zero, rl]
  | Z :: Zs, n + 1, h => by
    have := pre_succ Zs n (by simpa using h)
    simp only [pre, this]
    simp [rl]
    omega
theorem pre_le : ∀ (Zs : List (List Int)) (n : Nat), pre Zs n ≤ tot Zs
  | [], n => by simp [pre]
  | Z :: Zs, 0 => by simp [pre]
  | Z :: Zs, n + 1 => by
    have := pre_le Zs n
    simp only [tot, pre, List.length_cons] at *
    omega
theorem rl_le (Zs : List (List Int)) (n : Nat) : rl Zs n ≤ tot Zs := by
  by_cases h : n < Zs.length
  · have h1 := pre_succ Zs n h
    have h2 := pre_le Zs (n + 1)
    omega
  · simp [rl, List.getElem?_eq_none (by omega : Zs.length ≤ n)]
theorem pre_end (Zs : List (List Int)) : pre Zs Zs.length = tot Zs := rfl

/-- k, k + 1, .. over all rows -/
def markR (k : Int) (Zs : List (List Int)) : List (List Int) := (List.range Zs.length).map fun i => markL (k + (pre Zs i : Nat)) (rl Zs i)
theorem markR_length (k : Int) (Zs : List (List Int)) : (markR k Zs).length = Zs.length := by simp [markR]
theorem markR_getD (k : Int) (Zs : List (List Int)) {i : Nat} (h : i < Zs.length) : (markR k Zs).getD i [] = markL (k + (pre Zs i : Nat)) (rl Zs i) := by simp [markR, List.getD, h]
theorem markR_rl (k : Int) (Zs : List (List Int)) {i : Nat} (h : i < Zs.length) : rl (markR k Zs) i = rl Zs i := by unfold rl; rw [markR_getD k Zs h, markL_length]
end Go.Proofs.Ytnmehenkbinfmaa
