/-
  The reference: are worths valid?
-/
import Derived.Test.YtnlknofcdapalaaWValid
namespace Go.Proofs.Ytnlknofcdapalaa
open Go.RowKit Go.ChangeShapes Go.WideShapes
set_option linter.unusedVariables false

theorem specIsW_out (m : Nat) (p : Int) (a1 : Option Addr) (l1 c1 : Nat) (A : List Int) (w : World) (p0 : w.cell? ⟨m, 0, none⟩ = some (.int .i64 p)) (S1 : Hid (inB 1 6 p = false)) :
    Calls Try.prog 58 #[.pointer (some ⟨m, 0, none⟩)] w fun e w' => e = .returned (.bool false) ∧ Same w w' := by
  go_enter Try.func58, Try.ntmps58
  go_wp2_with fail
  go_quiet (first
    | (go_at_call 64; refine (inR_any _ _ _ _).mono ?_; rintro e w2 ⟨rfl, h2⟩; rw [S1.out]; exact ⟨rfl, _, h2.symm⟩))
  go_wp2
  go_ret
  exact ⟨rfl, nq, rfl⟩

theorem specIsW_len (m : Nat) (p n : Int) (a1 : Option Addr) (l1 c1 : Nat) (w : World) (p0 : w.cell? ⟨m, 0, none⟩ = some (.int .i64 p)) (p1 : w.cell? ⟨m, 1, none⟩ = some (.slice a1 l1 c1)) (hm : l1 ≤ maxLen) (S1 : Hid (inB 1 6 p = true))
    (hp1 : 1 ≤ p) (hp2 : p ≤ 6) (hw : IntKind.i64.wrap ((2 : Int) ^ p.toNat) = n) (hq : ((l1 : Int) != n) = true) :
    Calls Try.prog 58 #[.pointer (some ⟨m, 0, none⟩)] w fun e w' => e = .returned (.bool false) ∧ Same w w' := by
  go_enter Try.func58, Try.ntmps58
  go_wp2_with fail
  go_quiet (first
    | (go_at_call 64; refine (inR_any _ _ _ _).mono ?_; rintro e w2 ⟨rfl, h2⟩; rw [S1.out]; exact ⟨rfl, _, h2.symm⟩))
  go_wp2_with fail
  go_ret
  exact ⟨rfl, nq, rfl⟩

theorem specIsW_nz (m b off : Nat) (p v : Int) (l1 c1 : Nat) (w : World) (p0 : w.cell? ⟨m, 0, none⟩ = some (.int .i64 p)) (p1 : w.cell? ⟨m, 1, none⟩ = some (.slice (some ⟨b, off, none⟩) l1 c1)) (hm : l1 ≤ maxLen) (S1 : Hid (inB 1 6 p = true))
    (hp1 : 1 ≤ p) (hp2 : p ≤ 6) (hq : ((l1 : Int) != IntKind.i64.wrap ((2 : Int) ^ p.toNat)) = false) (hl0 : 0 < l1) (h0 : w.cell? ⟨b, off, none⟩ = some (.int .i64 v)) (hz : ¬ v = 0) :
    Calls Try.prog 58 #[.pointer (some ⟨m, 0, none⟩)] w fun e w' => e = .returned (.bool false) ∧ Same w w' := by
  have hv : (v != 0) = true := by simpa using hz
  go_enter Try.func58, Try.ntmps58
  go_wp2_with fail
  go_quiet (first
    | (go_at_call 64; refine (inR_any _ _ _ _).mono ?_; rintro e w2 ⟨rfl, h2⟩; rw [S1.out]; exact ⟨rfl, _, h2.symm⟩))
  go_wp2_with fail
  go_ret
  exact ⟨rfl, nq, rfl⟩

set_option maxHeartbeats 400000 in
theorem specIsW_ok (m b off : Nat) (p : Int) (l1 c1 : Nat) (A : List Int) (w : World) (p0 : w.cell? ⟨m, 0, none⟩ = some (.int .i64 p)) (p1 : w.cell? ⟨m, 1, none⟩ = some (.slice (some ⟨b, off, none⟩) l1 c1)) (hm : l1 ≤ maxLen) (S1 : Hid (inB 1 6 p = true))
    (hp1 : 1 ≤ p) (hp2 : p ≤ 6) (hq : ((l1 : Int) != IntKind.i64.wrap ((2 : Int) ^ p.toNat)) = false) (hl0 : 0 < l1) (h0 : w.cell? ⟨b, off, none⟩ = some (.int .i64 0)) (hlen : A.length = l1)
    (HC : Hid (∀ i, i < l1 → w.cell? ⟨b, off + i, none⟩ = some (.int .i64 (A.getD i 0)))) :
    Calls Try.prog 58 #[.pointer (some ⟨m, 0, none⟩)] w fun e w' => e = .returned (.bool (okAll (-10000) 10000 A)) ∧ Same w w' := by
  go_enter Try.func58, Try.ntmps58
  go_wp2_with fail
  go_quiet (first
    | (go_at_call 64; refine (inR_any _ _ _ _).mono ?_; rintro e w2 ⟨rfl, h2⟩; rw [S1.out]; exact ⟨rfl, _, h2.symm⟩))
  go_wp2_with fail
  clear h0
  unfold maxLen at hm
  go_loop [37] (fun i => ∃ k : Nat, k ≤ l1 ∧ i = .int .i64 k ∧ Hid (∀ j, j < k → inB (-10000) 10000 (A.getD j 0) = true)) (fun i => l1 - (intOf i).toNat)
  case atStart => exact ⟨0, Nat.zero_le _, rfl, Lib.hid (fun j hj => absurd hj (by omega))⟩
  case round =>
    obtain ⟨k, hk, rfl, H⟩ := hrel
    by_cases hlt : k < l1
    · have hsrc := HC.out k hlt
      cases hb : inB (-10000) 10000 (A.getD k 0) with
      | false =>
        have F := Lib.hid (okAll_bad (zs := A) (by omega) hb)
        have HB := Lib.hid hb
        clear hb
        generalize A.getD k 0 = v at *
        go_wp2_with (go_at_call 64; refine (inR_any _ _ _ _).mono ?_; rintro e w' ⟨rfl, rfl⟩; rw [HB.out])
        go_ret
        exact ⟨by rw [F.out]; rfl, nq, rfl⟩
      | true =>
        have H' : Hid (∀ j, j < k + 1 → inB (-10000) 10000 (A.getD j 0) = true) := Lib.hid fun j hj => by
          by_cases e : j = k
          · rw [e]; exact hb
          · exact H.out j (by omega)
        have HB := Lib.hid hb
        clear hb
        generalize A.getD k 0 = v at *
        go_wp2_with (go_at_call 64; refine (inR_any _ _ _ _).mono ?_; rintro e w' ⟨rfl, rfl⟩; rw [HB.out])
        go_round
        case rel => exact ⟨k + 1, by omega, by go_num, H'⟩
        case measure => simp [intOf]; omega
    · obtain rfl : k = l1 := by omega
      go_wp2_with fail
      go_ret
      exact ⟨by rw [okAll_all (by rw [hlen]; exact H.out)]; rfl, nq, rfl⟩

theorem specIsW_any (m : Nat) (p : Int) (a1 : Option Addr) (l1 c1 : Nat) (A : List Int) (w : World) (hx : Box2 w m 27 (.int .i64 p) (.slice a1 l1 c1)) (hA : IAt w a1 l1 A) :
    Calls Try.prog 58 #[.pointer (some ⟨m, 0, none⟩)] w fun e w' => e = .returned (.bool (okW p A)) ∧ Same w w' := by
  obtain ⟨⟨p0, p1⟩, _⟩ := hx.all
  have hlen := hA.1
  have hmax := hA.2.1
  have hcell := hA.2.2.2
  cases s1 : inB 1 6 p with
  | false =>
    rw [okW_out s1]
    exact specIsW_out m p a1 l1 c1 A w p0 (Lib.hid s1)
  | true =>
    obtain ⟨n, hn, hn2, hn64, hpn⟩ := pow_cases s1
    have hw : IntKind.i64.wrap ((2 : Int) ^ p.toNat) = n := by rw [hn]; rcases hpn with ⟨_, rfl⟩ | ⟨_, rfl⟩ | ⟨_, rfl⟩ | ⟨_, rfl⟩ | ⟨_, rfl⟩ | ⟨_, rfl⟩ <;> decide
    obtain ⟨hp1, hp2⟩ := inB_true.1 s1
    by_cases hl : (l1 : Int) = n
    · obtain ⟨b, off, rfl, hb, hc⟩ : ∃ b off, a1 = some ⟨b, off, none⟩ ∧ b < w.heap.size ∧ ∀ i, i < l1 → w.cell? ⟨b, off + i, none⟩ = some (.int .i64 (A.getD i 0)) := by
        rcases hcell with h | ⟨b, off, h⟩
        · omega
        · exact ⟨b, off, h⟩
      have hq : ((l1 : Int) != IntKind.i64.wrap ((2 : Int) ^ p.toNat)) = false := by rw [hw]; simpa using hl
      by_cases hz : A.getD 0 0 = 0
      · rw [okW_in (A := A) s1 (by rw [hlen]; exact hl) hn hz]
        exact specIsW_ok m b off p l1 c1 A w p0 p1 hmax (Lib.hid s1) hp1 hp2 hq (by omega) (by rw [← hz]; exact hc 0 (by omega)) hlen (Lib.hid hc)
      · rw [okW_nz hz]
        exact specIsW_nz m b off p _ l1 c1 w p0 p1 hmax (Lib.hid s1) hp1 hp2 hq (by omega) (hc 0 (by omega)) hz
    · rw [okW_len (A := A) (by rw [hlen]; exact hl) hn]
      exact specIsW_len m p n a1 l1 c1 w p0 p1 hmax (Lib.hid s1) hp1 hp2 hw (by simpa using hl)

theorem specValidW_any (p : Int) (a1 : Option Addr) (l1 c1 : Nat) (A : List Int) (w : World) (hA : IAt w a1 l1 A) :
    Calls Try.prog 19 #[worthsV p a1 l1 c1] w (BoolOut w (okW p A)) := by
  have HA := Lib.hid hA
  clear hA
  go_enter Try.func19, Try.ntmps19
  go_wp2_with fail
  refine (specIsW_any w.heap.size p a1 l1 c1 A _ heap1 (HA.out.below below1)).mono ?_
  rintro e w' ⟨rfl, n, rfl⟩
  go_wp2_with fail
  go_ret
  exact ⟨rfl, below1.trans (same_below ⟨n, rfl⟩ _)⟩
end Go.Proofs.Ytnlknofcdapalaa
