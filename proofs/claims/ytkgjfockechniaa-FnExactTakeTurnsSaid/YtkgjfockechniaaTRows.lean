/-
  Rows of worths, player by player: are they valid? The program's answer and the reference's, for values (and cakes).
-/
import Derived.Test.YtkgjfockechniaaExt
import Derived.Test.YtkgjfockechniaaOut
import Derived.Test.YtkgjfockechniaaBetw
namespace Go.Proofs.Ytkgjfockechniaa
open Go.RowKit Go.ChangeShapes Go.WideShapes
set_option linter.unusedVariables false

/-- players, things, at most m of these, and what each is worth -/
def okRows (m p t : Int) (A : List Int) : Bool := inB 1 6 p && (inB 1 m t && (decide ((A.length : Int) = p * t) && okAll 0 1000 A))
theorem okRows_p {m p t : Int} {A : List Int} (h : inB 1 6 p = false) : okRows m p t A = false := by unfold okRows; rw [h]; rfl
theorem okRows_t {m p t : Int} {A : List Int} (h : inB 1 m t = false) : okRows m p t A = false := by unfold okRows; rw [h]; simp
theorem okRows_in {m p t : Int} {A : List Int} (h1 : inB 1 6 p = true) (h2 : inB 1 m t = true) : okRows m p t A = (decide ((A.length : Int) = p * t) && okAll 0 1000 A) := by unfold okRows; rw [h1, h2]; rfl
theorem okRows_true {m p t : Int} {A : List Int} (h : okRows m p t A = true) (hm : m ≤ 16) : ∃ P T : Nat, p = P ∧ t = T ∧ 1 ≤ P ∧ P ≤ 6 ∧ 1 ≤ T ∧ (T : Int) ≤ m ∧ A.length = P * T ∧ okAll 0 1000 A = true := by
  simp only [okRows, Bool.and_eq_true, decide_eq_true_eq, inB_true] at h
  obtain ⟨⟨h1, h2⟩, ⟨h3, h4⟩, h5, h6⟩ := h
  obtain ⟨P, rfl⟩ : ∃ P : Nat, p = P := ⟨p.toNat, by omega⟩
  obtain ⟨T, rfl⟩ : ∃ T : Nat, t = T := ⟨t.toNat, by omega⟩
  exact ⟨P, T, rfl, rfl, by omega, by omega, by omega, by omega, by exact_mod_cast h5, h6⟩
theorem prod_in {m p t : Int} (h1 : inB 1 6 p = true) (h2 : inB 1 m t = true) (hm : m ≤ 16) : 1 ≤ p * t ∧ p * t ≤ 96 := by
  rw [inB_true] at h1 h2
  have a := Int.mul_le_mul h1.1 h2.1 (by omega) (by omega)
  have b := Int.mul_le_mul h1.2 (show t ≤ 16 by omega) (by omega) (by omega)
  omega

theorem areRows_any (p t m : Int) (a : Option Addr) (len cap : Nat) (zs : List Int) (w : World) (hm : m ≤ 16) (h : IAt w a len zs) :
    Calls Try.prog 61 #[.int .i64 p, .int .i64 t, .int .i64 m, .slice a len cap] w fun e w' => e = .returned (.bool (okRows m p t zs)) ∧ w = w' := by
  have hlen := h.1
  have hmax := h.2.1
  unfold maxLen at hmax
  have H := Lib.hid h
  clear h
  cases s1 : inB 1 6 p with
  | false =>
    have S1 := Lib.hid s1
    have E := Lib.hid (okRows_p (m := m) (t := t) (A := zs) s1)
    clear s1
    go_enter Try.func61, Try.ntmps61
    go_wp2_with (go_at_call 84; refine (isBetween_any _ _ _ _).mono ?_; rintro e w' ⟨rfl, rfl⟩; rw [S1.out])
    go_ret
    exact ⟨by rw [E.out]; rfl, rfl⟩
  | true =>
    cases s2 : inB 1 m t with
    | false =>
      have S1 := Lib.hid s1
      have S2 := Lib.hid s2
      have E := Lib.hid (okRows_t (p := p) (A := zs) s2)
      clear s1 s2
      go_enter Try.func61, Try.ntmps61
      go_wp2_with (go_at_call 84; refine (isBetween_any _ _ _ _).mono ?_; rintro e w' ⟨rfl, rfl⟩; first | rw [S1.out] | rw [S2.out])
      go_ret
      exact ⟨by rw [E.out]; rfl, rfl⟩
    | true =>
      obtain ⟨q0, q1⟩ := prod_in s1 s2 hm
      have E := Lib.hid (okRows_in (A := zs) s1 s2)
      have S1 := Lib.hid s1
      have S2 := Lib.hid s2
      clear s1 s2
      generalize hq : p * t = q at *
      have HQ := Lib.hid hq
      clear hq
      by_cases hl : (len : Int) = q
      · have hb : ((len : Int) == q) = true := by simpa using hl
        have hd : decide ((zs.length : Int) = q) = true := by rw [hlen]; exact decide_eq_true hl
        rw [hd, Bool.true_and] at E
        have hb' := Lib.hid hb
        clear hd hb hlen
        go_enter Try.func61, Try.ntmps61
        have hq := HQ.out
        go_wp2_with (first
          | (go_at_call 84; refine (isBetween_any _ _ _ _).mono ?_; rintro e w' ⟨rfl, rfl⟩; first | rw [S1.out] | rw [S2.out])
          | (go_at_call 112; refine (areBetween_any _ _ _ zs _ _ _ H.out).mono ?_; rintro e w' ⟨rfl, rfl⟩))
        go_ret
        exact ⟨by rw [E.out]; rfl, rfl⟩
      · have hd : decide ((zs.length : Int) = q) = false := by rw [hlen]; exact decide_eq_false hl
        rw [hd, Bool.false_and] at E
        clear hd hlen
        go_enter Try.func61, Try.ntmps61
        have hq := HQ.out
        go_wp2_with (first
          | (go_at_call 84; refine (isBetween_any _ _ _ _).mono ?_; rintro e w' ⟨rfl, rfl⟩; first | rw [S1.out] | rw [S2.out])
          | (go_at_call 112; refine (areBetween_any _ _ _ zs _ _ _ H.out).mono ?_; rintro e w' ⟨rfl, rfl⟩))
        go_ret
        exact ⟨by rw [E.out]; rfl, rfl⟩

/-- the reference: worths, n of them -/
theorem worths04_at (b off len cap : Nat) (zs : List Int) (n : Int) (w : World) (hl : len ≤ maxLen) (hz : zs.length = len)
    (hc : ∀ i, i < len → w.cell? ⟨b, off + i, none⟩ = some (.int .i64 (zs.getD i 0))) :
    Calls Try.prog 99 #[.slice (some ⟨b, off, none⟩) len cap, .int .i64 n] w fun e w' => e = .returned (.bool (decide ((zs.length : Int) = n) && okAll 0 1000 zs)) ∧ w = w' := by
  have HC := Lib.hid hc
  clear hc
  unfold maxLen at hl
  go_enter Try.func99, Try.ntmps99
  go_wp2
  go_loop [5] (fun i => ∃ k : Nat, k ≤ len ∧ i = .int .i64 k ∧ Hid (∀ j, j < k → inB 0 1000 (zs.getD j 0) = true)) (fun i => len - (intOf i).toNat)
  case atStart => exact ⟨0, Nat.zero_le _, rfl, Lib.hid (fun j hj => absurd hj (by omega))⟩
  case round =>
    obtain ⟨k, hk, rfl, H⟩ := hrel
    by_cases hlt : k < len
    · have hsrc := HC.out k hlt
      cases hb : inB 0 1000 (zs.getD k 0) with
      | false =>
        have E := Lib.hid (okAll_bad (by omega) hb)
        have HB := Lib.hid hb
        clear hb
        generalize zs.getD k 0 = v at *
        go_wp2_with (go_at_call 83; refine (inR_any _ _ _ _).mono ?_; rintro e w' ⟨rfl, rfl⟩; rw [HB.out])
        go_ret
        exact ⟨by rw [E.out, Bool.and_false]; rfl, rfl⟩
      | true =>
        have H' : Hid (∀ j, j < k + 1 → inB 0 1000 (zs.getD j 0) = true) := Lib.hid fun j hj => by
          by_cases e : j = k
          · rw [e]; exact hb
          · exact H.out j (by omega)
        have HB := Lib.hid hb
        clear hb
        generalize zs.getD k 0 = v at *
        go_wp2_with (go_at_call 83; refine (inR_any _ _ _ _).mono ?_; rintro e w' ⟨rfl, rfl⟩; rw [HB.out])
        go_round
        case rel => exact ⟨k + 1, by omega, by go_num, H'⟩
        case measure => simp [intOf]; omega
    · obtain rfl : k = len := by omega
      have E : Hid (okAll 0 1000 zs = true) := Lib.hid (okAll_all (by rw [hz]; exact H.out))
      have HZ := Lib.hid hz
      clear hz
      go_wp2_with fail
      go_ret
      exact ⟨by rw [E.out, Bool.and_true, HZ.out]; rfl, rfl⟩

theorem worths04_none (a : Option Addr) (cap : Nat) (n : Int) (w : World) :
    Calls Try.prog 99 #[.slice a 0 cap, .int .i64 n] w fun e w' => e = .returned (.bool (decide ((([] : List Int).length : Int) = n) && okAll 0 1000 [])) ∧ w = w' := by
  have e : okAll 0 1000 [] = true := rfl
  rw [e, Bool.and_true]
  clear e
  go_enter Try.func99, Try.ntmps99
  go_wp2
  go_loop [5] (fun i => i = .int .i64 0) (fun _ => 0)
  case atStart => exact rfl
  case round =>
    obtain rfl := hrel
    go_wp2
    go_ret
    exact ⟨rfl, rfl⟩

theorem worths04_any (a : Option Addr) (len cap : Nat) (zs : List Int) (n : Int) (w : World) (h : IAt w a len zs) :
    Calls Try.prog 99 #[.slice a len cap, .int .i64 n] w fun e w' => e = .returned (.bool (decide ((zs.length : Int) = n) && okAll 0 1000 zs)) ∧ w = w' := by
  obtain ⟨h1, h2, h3, rfl | ⟨b, off, rfl, hb, hc⟩⟩ := h
  · obtain rfl := List.eq_nil_of_length_eq_zero h1
    exact worths04_none a cap n w
  · exact worths04_at b off len cap zs n w h2 h1 hc
end Go.Proofs.Ytkgjfockechniaa
