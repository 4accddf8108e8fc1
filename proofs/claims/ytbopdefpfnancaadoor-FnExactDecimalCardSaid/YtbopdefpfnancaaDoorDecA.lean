/-
  Decimal texts: what the reference's own loop answers, for every number.
-/
import Derived.Test.YtbopdefpfnancaaDoorRows
import Derived.WalkKit
import Derived.WalkLawsBesides
import Derived.Lib.OthersKept
import Derived.Lib.Strings
import Derived.Lib.Hide
import Derived.Lib.ItoaNum
import Derived.Laws.AppendOwn
import Derived.Laws.OwnMore
import Derived.Laws.IdiomStrings
import Derived.OwnWalk
import Derived.Below
import Derived.Outline
import Derived.OpenShut
import Derived.WalkSpells
namespace Go.Proofs.YtbopdefpfnancaaDoor
open Go.RowKit

theorem digits_step (u : Nat) (h : 10 ≤ u) : Lib.decDigits u = Lib.decDigits (u / 10) ++ [UInt8.ofNat (48 + u % 10)] := by
  rw [Lib.decDigits, dif_neg (by omega)]
theorem digits_one (u : Nat) (h : u < 10) : Lib.decDigits u = [UInt8.ofNat (48 + u)] := by
  rw [Lib.decDigits, dif_pos h]
theorem digits_len : ∀ (k u : Nat), u < 10 ^ (k + 1) → (Lib.decDigits u).length ≤ k + 1
  | 0, u, h => by rw [digits_one u (by simpa using h)]; simp
  | k + 1, u, h => by
    by_cases h1 : u < 10
    · rw [digits_one u h1]; simp
    · rw [digits_step u (by omega), List.length_append]
      have := digits_len k (u / 10) (by rw [Nat.div_lt_iff_lt_mul (by decide)]; rw [Nat.pow_succ] at h; exact h)
      simp; omega

/-- what is left of 'full' where l has been written and r is left -/
def Left (full l : List UInt8) (r : Int) : Prop := (l = [] ∧ Lib.decDigits r.natAbs = full) ∨ (r = 0 ∧ l ≠ [] ∧ l = full) ∨ (r ≠ 0 ∧ Lib.decDigits r.natAbs ++ l = full)

theorem left_len {full l : List UInt8} {r : Int} (h : Left full l r) : l.length ≤ full.length := by
  rcases h with ⟨rfl, _⟩ | ⟨_, _, rfl⟩ | ⟨_, h⟩
  · exact Nat.zero_le _
  · exact Nat.le_refl _
  · rw [← h, List.length_append]; omega

theorem left_step {full l : List UInt8} {r : Int} (h : Left full l r) (hc : l = [] ∨ r ≠ 0) : Left full (UInt8.ofNat (48 + r.natAbs % 10) :: l) (r.tdiv 10) := by
  have hd : (r.tdiv 10).natAbs = r.natAbs / 10 := by rw [Int.natAbs_tdiv]; rfl
  have e : Lib.decDigits r.natAbs ++ l = full := by
    rcases h with ⟨rfl, h⟩ | ⟨h0, hn, _⟩ | ⟨_, h⟩
    · rw [List.append_nil]; exact h
    · rcases hc with hc | hc
      · exact absurd hc hn
      · exact absurd h0 hc
    · exact h
  by_cases h1 : r.natAbs < 10
  · refine .inr (.inl ⟨?_, by simp, ?_⟩)
    · have : (r.tdiv 10).natAbs = 0 := by rw [hd]; omega
      exact Int.natAbs_eq_zero.1 this
    · rw [digits_one _ h1] at e
      rw [Nat.mod_eq_of_lt h1, ← e]; rfl
  · refine .inr (.inr ⟨?_, ?_⟩)
    · intro h0
      have : (r.tdiv 10).natAbs = 0 := by rw [h0]; rfl
      rw [hd] at this
      omega
    · rw [hd, ← e, digits_step r.natAbs (by omega), List.append_assoc]; rfl

theorem left_done {full l : List UInt8} (h : Left full l 0) (hl : l ≠ []) : l = full := by
  rcases h with ⟨h, _⟩ | ⟨_, _, h⟩ | ⟨h, _⟩
  · exact absurd h hl
  · exact h
  · exact absurd rfl h

abbrev u8s (l : List UInt8) : List Value := l.map fun b => .int .u8 (b.toNat : Int)

/-- the bytes l lie at the head of block g, the call's own -/
def Bytes (w : World) (base g : Nat) (l : List UInt8) : Prop := base ≤ g ∧ ∀ j (hj : j < l.length), w.cell? ⟨g, j, none⟩ = some (.int .u8 (l[j].toNat : Int))

theorem Bytes.alloc {w : World} {base g : Nat} {l : List UInt8} (h : Bytes w base g l) (o : Obj) : Bytes (w.alloc o) base g l :=
  ⟨h.1, fun j hj => (World.cell?_alloc_lt w o ⟨g, j, none⟩ (World.block_lt_of_cell? w ⟨g, j, none⟩ (h.2 j hj))).trans (h.2 j hj)⟩

theorem bytes_news {w : World} {base g : Nat} {l : List UInt8} (h : Bytes w base g l) : ∀ j u, (u8s l)[j]? = some u → w.cell? ((⟨g, 0, none⟩ : Addr).add j) = some u := by
  intro j u hj
  have hj' : j < l.length := by have := (List.getElem?_eq_some_iff.1 hj).1; simpa using this
  rw [show ((⟨g, 0, none⟩ : Addr).add j) = ⟨g, j, none⟩ by rw [Go.WideShapes.add_plain, Nat.zero_add], h.2 j hj', ← hj]
  simp [u8s, hj']

theorem bytes_own {w : World} {base n e : Nat} {v : Value} {l : List UInt8} (h : w.ownsRow base e 1 v n (u8s l)) (hn : l.length = n) (h0 : 0 < n) :
    ∃ g c, v = .slice (some ⟨g, 0, none⟩) n c ∧ Bytes w base g l := by
  have hg : ∃ g c, v = .slice (some ⟨g, 0, none⟩) n c ∧ base ≤ g := by
    rcases h.2 with ⟨_, h'⟩ | ⟨g, cap, _, h', hb, _⟩
    · exact absurd h' (by omega)
    · exact ⟨g, cap, h', hb⟩
  obtain ⟨g, c, rfl, hb⟩ := hg
  refine ⟨g, c, rfl, hb, fun j hj => ?_⟩
  rw [h.cellAt j (by omega)]
  simp [u8s, hj]

/-- a digit's word -/
theorem digit_byte (r : Int) (d : Int) (hd : d = (r.natAbs % 10 : Nat)) : ((UInt8.ofNat (48 + r.natAbs % 10)).toNat : Int) = 48 + d := by
  subst hd
  rw [UInt8.toNat_ofNat']
  omega
theorem left_ne {full l : List UInt8} {r : Int} (h : Left full l r) : l = [] ∨ l.length ≠ 0 := by
  cases l <;> simp
end Go.Proofs.YtbopdefpfnancaaDoor
