/-
  Are worths valid? The program's answer and the reference's.
-/
import Derived.Test.YtnlknofcdapalaaExt
import Derived.Test.YtnlknofcdapalaaSWorths
import Derived.Test.YtnlknofcdapalaaOut
import Derived.Test.YtnlknofcdapalaaBetw
namespace Go.Proofs.Ytnlknofcdapalaa
open Go.RowKit Go.ChangeShapes Go.WideShapes
set_option linter.unusedVariables false

def okW (p : Int) (A : List Int) : Bool := inB 1 6 p && (decide ((A.length : Int) = 2 ^ p.toNat) && (decide (A.getD 0 0 = 0) && okAll (-10000) 10000 A))

theorem okW_out {p : Int} {A : List Int} (h : inB 1 6 p = false) : okW p A = false := by unfold okW; rw [h]; rfl
theorem okW_len {p : Int} {A : List Int} {n : Int} (h : ¬ (A.length : Int) = n) (e : (2 : Int) ^ p.toNat = n) : okW p A = false := by
  unfold okW
  rw [e, decide_eq_false h]
  simp
theorem okW_nz {p : Int} {A : List Int} (h : ¬ A.getD 0 0 = 0) : okW p A = false := by
  unfold okW
  rw [decide_eq_false h]
  simp
theorem okW_in {p : Int} {A : List Int} {n : Int} (h1 : inB 1 6 p = true) (h2 : (A.length : Int) = n) (e : (2 : Int) ^ p.toNat = n) (h3 : A.getD 0 0 = 0) : okW p A = okAll (-10000) 10000 A := by
  unfold okW
  rw [e, h1, decide_eq_true h2, decide_eq_true h3]
  simp
theorem okW_true {p : Int} {A : List Int} (h : okW p A = true) : ∃ P : Nat, p = P ∧ 1 ≤ P ∧ P ≤ 6 ∧ A.length = 2 ^ P ∧ A.getD 0 0 = 0 ∧ okAll (-10000) 10000 A = true := by
  simp only [okW, Bool.and_eq_true, decide_eq_true_eq, inB_true] at h
  obtain ⟨⟨h1, h2⟩, h3, h4, h5⟩ := h
  refine ⟨p.toNat, by omega, by omega, by omega, ?_, h4, h5⟩
  have : ((2 ^ p.toNat : Nat) : Int) = (2 : Int) ^ p.toNat := by simp
  omega
theorem pow_cases {p : Int} (h : inB 1 6 p = true) : ∃ n : Int, (2 : Int) ^ p.toNat = n ∧ 2 ≤ n ∧ n ≤ 64 ∧ ((p = 1 ∧ n = 2) ∨ (p = 2 ∧ n = 4) ∨ (p = 3 ∧ n = 8) ∨ (p = 4 ∧ n = 16) ∨ (p = 5 ∧ n = 32) ∨ (p = 6 ∧ n = 64)) := by
  rw [inB_true] at h
  have : p = 1 ∨ p = 2 ∨ p = 3 ∨ p = 4 ∨ p = 5 ∨ p = 6 := by omega
  rcases this with rfl | rfl | rfl | rfl | rfl | rfl
  · exact ⟨2, by decide, by omega, by omega, by simp⟩
  · exact ⟨4, by decide, by omega, by omega, by simp⟩
  · exact ⟨8, by decide, by omega, by omega, by simp⟩
  · exact ⟨16, by decide, by omega, by omega, by simp⟩
  · exact ⟨32, by decide, by omega, by omega, by simp⟩
  · exact ⟨64, by decide, by omega, by omega, by simp⟩

theorem areMembers_any (n : Int) (w : World) :
    Calls Try.prog 59 #[.int .i64 n] w fun e w' => e = .returned (.bool (inB 1 6 n)) ∧ w = w' := by
  go_enter Try.func59, Try.ntmps59
  go_wp2_with (go_at_call 92; refine (isBetween_any _ _ _ _).mono ?_; rintro e w' ⟨rfl, rfl⟩)
  go_ret
  exact ⟨rfl, rfl⟩

/-- the set of one number -/
theorem setOf_any (i : Nat) (n : Int) (h : i ≤ 6) (e : (2 : Int) ^ i = n) (w : World) :
    Calls Try.prog 60 #[.int .i64 i] w fun e w' => e = .returned (.int .i64 n) ∧ w = w' := by
  have : i = 0 ∨ i = 1 ∨ i = 2 ∨ i = 3 ∨ i = 4 ∨ i = 5 ∨ i = 6 := by omega
  subst e
  rcases this with rfl | rfl | rfl | rfl | rfl | rfl | rfl
  all_goals
    go_enter Try.func60, Try.ntmps60
    go_wp2
    go_ret
    exact ⟨rfl, rfl⟩

set_option maxRecDepth 20000 in
theorem implValidW_any (p : Int) (a1 : Option Addr) (l1 c1 : Nat) (A : List Int) (w : World) (hA : IAt w a1 l1 A) :
    Calls Try.prog 21 #[worthsV p a1 l1 c1] w (BoolOut w (okW p A)) := by
  have HA := Lib.hid (hA.below (below1 (o := .cells #[.int .i64 p, .slice a1 l1 c1] 27)))
  have hlen := hA.1
  have hcell := hA.2.2.2
  clear hA
  cases s1 : inB 1 6 p with
  | false =>
    have S1 := Lib.hid s1
    have E := Lib.hid (okW_out (A := A) s1)
    clear s1
    go_enter Try.func21, Try.ntmps21
    go_wp2_with fail
    go_quiet (first
      | (go_at_call 59; refine (areMembers_any _ _).mono ?_; rintro e w2 ⟨rfl, h2⟩; rw [S1.out]; exact ⟨rfl, _, h2.symm⟩))
    go_wp2
    go_ret
    exact ⟨by rw [E.out]; rfl, below1.trans (same_below ⟨nq, rfl⟩ _)⟩
  | true =>
    obtain ⟨n, hn, hn2, hn64, hpn⟩ := pow_cases s1
    have S1 := Lib.hid s1
    have HN := Lib.hid hn
    have HPN := Lib.hid hpn
    have hset : ∀ w, Calls Try.prog 60 #[.int .i64 p] w fun e w' => e = .returned (.int .i64 n) ∧ w = w' := by
      intro w
      obtain ⟨i, rfl⟩ : ∃ i : Nat, p = i := ⟨p.toNat, by have := inB_true.1 s1; omega⟩
      exact setOf_any i n (by have := inB_true.1 s1; omega) hn w
    have HS := Lib.hid hset
    clear hset s1 hn hpn
    by_cases hl : (l1 : Int) = n
    · obtain ⟨b, off, rfl, hb, hc⟩ : ∃ b off, a1 = some ⟨b, off, none⟩ ∧ b < w.heap.size ∧ ∀ i, i < l1 → w.cell? ⟨b, off + i, none⟩ = some (.int .i64 (A.getD i 0)) := by
        rcases hcell with h | ⟨b, off, h⟩
        · omega
        · exact ⟨b, off, h⟩
      obtain ⟨v, hv⟩ : ∃ v, A.getD 0 0 = v := ⟨_, rfl⟩
      have h0 : (w.alloc (.cells #[.int .i64 p, .slice (some ⟨b, off, none⟩) l1 c1] 27)).cell? ⟨b, off, none⟩ = some (.int .i64 v) := (below1.cell (p := ⟨b, off, none⟩) hb).trans (by rw [← hv]; exact hc 0 (by omega))
      have Z := Lib.hid (fun h3 : v = 0 => okW_in (A := A) S1.out (by rw [hlen]; exact hl) HN.out (hv.trans h3))
      have Z2 := Lib.hid (fun h3 : ¬ v = 0 => okW_nz (p := p) (A := A) (by rw [hv]; exact h3))
      clear hv
      clear hcell hc
      go_enter Try.func21, Try.ntmps21
      go_wp2_with fail
      go_quiet (first
        | (go_at_call 59; refine (areMembers_any _ _).mono ?_; rintro e w2 ⟨rfl, h2⟩; rw [S1.out]; exact ⟨rfl, _, h2.symm⟩)
        | (go_at_call 60; refine (HS.out _).mono ?_; rintro e w2 ⟨rfl, h2⟩; exact ⟨rfl, _, h2.symm⟩))
      by_cases hz : v = 0
      · have E := Lib.hid (Z.out hz)
        clear Z Z2
        subst hz
        go_wp2_with (go_at_call 61; refine (areBetween_any _ _ _ A _ _ _ (HA.out.below (same_below ⟨_, rfl⟩ _))).mono ?_; rintro e w' ⟨rfl, rfl⟩)
        go_ret
        exact ⟨by rw [E.out]; rfl, below1.trans (same_below ⟨nq, rfl⟩ _)⟩
      · have E := Lib.hid (Z2.out hz)
        clear Z Z2
        go_wp2_with fail
        go_ret
        exact ⟨by rw [E.out]; rfl, below1.trans (same_below ⟨nq, rfl⟩ _)⟩
    · have E := Lib.hid (okW_len (A := A) (by rw [hlen]; exact hl) HN.out)
      go_enter Try.func21, Try.ntmps21
      go_wp2_with fail
      go_quiet (first
        | (go_at_call 59; refine (areMembers_any _ _).mono ?_; rintro e w2 ⟨rfl, h2⟩; rw [S1.out]; exact ⟨rfl, _, h2.symm⟩)
        | (go_at_call 60; refine (HS.out _).mono ?_; rintro e w2 ⟨rfl, h2⟩; exact ⟨rfl, _, h2.symm⟩))
      go_wp2
      go_ret
      exact ⟨by rw [E.out]; rfl, below1.trans (same_below ⟨nq, rfl⟩ _)⟩
end Go.Proofs.Ytnlknofcdapalaa
