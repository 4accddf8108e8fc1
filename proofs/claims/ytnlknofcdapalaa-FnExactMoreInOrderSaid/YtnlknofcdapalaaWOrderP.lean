/-
  Orders of players in plain lists: the set of those before, and how much more each one brings. No program is spoken of here.
-/
import Derived.Test.YtnlknofcdapalaaSpecIn
import Derived.Test.YtnlknofcdapalaaDiff
namespace Go.Proofs.Ytnlknofcdapalaa

def moreAt (A O : List Int) (k : Nat) : Int := A.getD (seenTo O (k + 1)) 0 - A.getD (seenTo O k) 0
/-- what the first k bring -/
def moreTo (A O : List Int) (P : Nat) : Nat → List Int
  | 0 => List.replicate P 0
  | k + 1 => (moreTo A O P k).set (O.getD k 0).toNat (moreAt A O k)
def moreV (p : Int) (A O : List Int) : List Int × Bool :=
  if (okW p A && okOrder p.toNat O) = true then (moreTo A O p.toNat O.length, true) else ([], false)

theorem moreTo_length (A O : List Int) (P k : Nat) : (moreTo A O P k).length = P := by
  induction k with
  | zero => simp [moreTo]
  | succ k ih => simp [moreTo, ih]
theorem moreTo_zero {A O : List Int} {P k i : Nat} (h : ∀ j, j < k → okAt P O j = true) (hb : (seenTo O k).testBit i = false) : (moreTo A O P k).getD i 0 = 0 := by
  induction k with
  | zero =>
    simp only [moreTo, List.getD, List.getElem?_replicate]
    split <;> rfl
  | succ k ih =>
    obtain ⟨q, e, hq, _, hs⟩ := okAt_in (h k (by omega))
    rw [hs, Nat.testBit_or, Bool.or_eq_false_iff] at hb
    have hne : q ≠ i := by
      intro hqi
      rw [hqi, Nat.testBit_two_pow_self] at hb
      cases hb.2
    have := ih (fun j hj => h j (by omega)) hb.1
    show ((moreTo A O P k).set (O.getD k 0).toNat (moreAt A O k)).getD i 0 = 0
    rw [e, Int.toNat_natCast, List.getD_eq_getElem?_getD, List.getElem?_set_ne hne, ← List.getD_eq_getElem?_getD]
    exact this
theorem moreV_len (p : Int) (A O : List Int) : (moreV p A O).1.length ≤ 4096 := by
  unfold moreV
  split
  · rename_i h
    rw [Bool.and_eq_true] at h
    obtain ⟨P, rfl, _, h6, _⟩ := okW_true h.1
    rw [moreTo_length]
    omega
  · simp
theorem moreV_no {p : Int} {A O : List Int} (h : okW p A = false) : moreV p A O = ([], false) := by unfold moreV; rw [h]; rfl
theorem moreV_bad {p : Int} {A O : List Int} (h : okOrder p.toNat O = false) : moreV p A O = ([], false) := by unfold moreV; rw [h, Bool.and_false]; rfl
theorem moreV_yes {P : Nat} {A O : List Int} (h : okW (P : Nat) A = true) (h' : okOrder P O = true) : moreV (P : Nat) A O = (moreTo A O P O.length, true) := by
  unfold moreV
  rw [h, Int.toNat_natCast, h']
  rfl
theorem in_tab2 : ((List.range 64).all fun s => (List.range 6).all fun p => (bits .and .i64 (s : Int) ((2 ^ p : Nat) : Int) != 0) == s.testBit p) = true := by decide +kernel
theorem in_bits2 {s p : Nat} (hs : s < 64) (hp : p < 6) : (bits .and .i64 (s : Int) ((2 ^ p : Nat) : Int) != 0) = s.testBit p := by
  have := List.all_eq_true.1 (List.all_eq_true.1 in_tab2 s (by simpa using hs)) p (by simpa using hp)
  exact eq_of_beq this
theorem pow_le32 {p : Nat} (h : p < 6) : 2 ^ p ≤ 32 := Nat.pow_le_pow_right (n := 2) (by decide) (show p ≤ 5 by omega)
end Go.Proofs.Ytnlknofcdapalaa
