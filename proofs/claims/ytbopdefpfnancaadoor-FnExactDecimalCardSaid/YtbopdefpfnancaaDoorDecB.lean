/-
  The reference's own decimal text, walked.
-/
import Derived.Test.YtbopdefpfnancaaDoorDecA
namespace Go.Proofs.YtbopdefpfnancaaDoor
open Go.RowKit

def sliceLen : Value → Nat
  | .slice _ n _ => n
  | _ => 0

set_option maxRecDepth 20000 in
theorem dec_any (n : Int) (h0 : -9223372036854775808 ≤ n) (h1 : n ≤ 9223372036854775807) (w : World) :
    Calls Tryd.prog 39 #[.int .i64 n] w fun e w' => e = .returned (.string ⟨(Lib.itoa n).toArray⟩) ∧ Below w.heap.size w w' := by
  obtain ⟨i0, hi, hz0, hz1, hz2⟩ := info_parts (P := Tryd.prog) (e := 5) (z := .int .u8 0) (size := 1) (bytes := 1) (by kernel_rfl)
  obtain ⟨full, hfull⟩ : ∃ full, Lib.decDigits n.natAbs = full := ⟨_, rfl⟩
  have hlen : full.length ≤ 20 := by rw [← hfull]; exact digits_len 19 _ (Nat.lt_of_lt_of_le (show n.natAbs < 100000000000000000000 by omega) (by decide))
  have hne : full ≠ [] := by
    rw [← hfull]; intro h
    by_cases h10 : n.natAbs < 10
    · rw [digits_one _ h10] at h; cases h
    · rw [digits_step _ (by omega)] at h; simp at h
  have HF := Lib.hid hfull
  have HN := Lib.hid hne
  clear hfull hne
  have B0 : Hid (Bytes (w.alloc (.cells #[] 5)) w.heap.size w.heap.size []) := Lib.hid ⟨Nat.le_refl _, fun j hj => by simp at hj⟩
  go_enter Tryd.func39, Tryd.ntmps39
  go_wp2_with fail
  go_loopw [3, 4] (fun s3 s4 wr => ∃ (g c m : Nat) (l : List UInt8) (r : Int), s3 = .slice (some ⟨g, 0, none⟩) m c ∧ s4 = .int .i64 r ∧ r.natAbs ≤ n.natAbs ∧ -9223372036854775808 ≤ r ∧ r ≤ 9223372036854775807 ∧
      Hid (l.length = m) ∧ Hid (Bytes wr w.heap.size g l) ∧ Hid (Left full l r) ∧ Hid (Below w.heap.size w wr))
    (fun s3 s4 _ => (intOf s4).natAbs + (1 - sliceLen s3))
  case atStart => exact ⟨w.heap.size, 0, 0, [], n, rfl, rfl, Nat.le_refl _, h0, h1, Lib.hid rfl, B0, Lib.hid (.inl ⟨rfl, HF.out⟩), Lib.hid ((Below.refl _ _).alloc (Nat.le_refl _) _)⟩
  case round =>
    obtain ⟨g, c, m, l, r, rfl, rfl, hrn, hr0, hr1, HM, HB, HL, HW⟩ := hrel
    have hll : m ≤ 20 := by have := left_len HL.out; have := HM.out; omega
    have hwsz := HW.out.size
    clear B0
    by_cases hgo : m = 0 ∨ r ≠ 0
    · have HS := Lib.hid (left_step HL.out (hgo.imp (fun h => List.length_eq_zero_iff.1 (HM.out.trans h)) id))
      have HMS : Hid (r.natAbs / 10 < r.natAbs + (1 - m)) := Lib.hid (by omega)
      by_cases hpos : 0 ≤ r
      · have ht : ((m : Int) == 0) = true ∨ (((m : Int) == 0) = false ∧ (r != 0) = true) := by
          by_cases hm : m = 0
          · exact .inl (by simp [hm])
          · exact .inr ⟨by simp; omega, by rcases hgo with h | h; exact absurd h hm; simpa using h⟩
        clear hgo
        rcases ht with ht | ⟨ht, ht'⟩
        all_goals
          go_wp2_with (at_builtin; refine wpList_append_own _ rfl (.tmp 24) (.tmp 25) 77 rfl w.heap.size 5 i0 (.int .u8 0) 1 1 Tryd.underlying77 hi hz0 hz1 hz2 rfl (by decide) _ 1 _ rfl (World.ownsRow_lit wr _ 1 hwsz (by decide) rfl) ⟨g, 0, none⟩ m c (u8s l) rfl (by have := HM.out; simp [u8s]; omega) (bytes_news (HB.out.alloc _)) (by intro u hu; simp [u8s] at hu; obtain ⟨_, _, rfl⟩ := hu; rfl) (by unfold maxLen; omega) (by omega) (by simp; omega) ?_)
          intro v1 w1 hown hgrow _
          have HX := Lib.hid (Below.grown (HW.out.alloc hwsz _) hgrow (by simp; omega) (fun k hk => by cases hk; exact hwsz))
          have hown' : w1.ownsRow w.heap.size 5 1 v1 (1 + m) (u8s (UInt8.ofNat (48 + r.natAbs % 10) :: l)) := by
            have e := digit_byte r (r % 10) (by omega)
            simp only [u8s, List.map_cons, e]
            simpa [u8s] using hown
          obtain ⟨g1, c1, rfl, hb1⟩ := bytes_own hown' (by have := HM.out; simp; omega) (by omega)
          have HB1 := Lib.hid hb1
          clear hown hown' hgrow hb1
          go_wp2_with fail
          go_roundw
          case rel => exact ⟨g1, c1, 1 + m, UInt8.ofNat (48 + r.natAbs % 10) :: l, r / 10, rfl, rfl, by omega, by omega, by omega, Lib.hid (by have := HM.out; simp; omega), HB1, Lib.hid (by have := HS.out; rwa [Int.tdiv_eq_ediv_of_nonneg hpos] at this), HX⟩
          case measure => have := HMS.out; simp only [intOf, sliceLen]; omega
      · have hneg : r < 0 := by omega
        have ht : ((m : Int) == 0) = true ∨ (((m : Int) == 0) = false ∧ (r != 0) = true) := by
          by_cases hm : m = 0
          · exact .inl (by simp [hm])
          · exact .inr ⟨by simp; omega, by simp; omega⟩
        have hna : (r.tmod 10).natAbs = r.natAbs % 10 := Int.natAbs_tmod r 10
        have hle : r.tmod 10 ≤ 0 := by
          have := Int.neg_tmod r 10
          have h2 := Int.tmod_nonneg (a := -r) 10 (by omega)
          omega
        have hlo : -9 ≤ r.tmod 10 := by omega
        have HD : Hid (-r.tmod 10 = (r.natAbs % 10 : Nat)) := Lib.hid (by omega)
        have hqa : (r.tdiv 10).natAbs = r.natAbs / 10 := by rw [Int.natAbs_tdiv]; rfl
        have HQ : Hid ((r.tdiv 10).natAbs ≤ n.natAbs ∧ -9223372036854775808 ≤ r.tdiv 10 ∧ r.tdiv 10 ≤ 9223372036854775807) := Lib.hid (by omega)
        have HA := Lib.hid hqa
        clear hgo hna hqa hpos
        by_cases hz : r.tmod 10 < 0
        all_goals
          rcases ht with ht | ⟨ht, ht'⟩
          all_goals
            go_wp2_with (at_builtin; refine wpList_append_own _ rfl (.tmp 24) (.tmp 25) 77 rfl w.heap.size 5 i0 (.int .u8 0) 1 1 Tryd.underlying77 hi hz0 hz1 hz2 rfl (by decide) _ 1 _ rfl (World.ownsRow_lit wr _ 1 hwsz (by decide) rfl) ⟨g, 0, none⟩ m c (u8s l) rfl (by have := HM.out; simp [u8s]; omega) (bytes_news (HB.out.alloc _)) (by intro u hu; simp [u8s] at hu; obtain ⟨_, _, rfl⟩ := hu; rfl) (by unfold maxLen; omega) (by omega) (by simp; omega) ?_)
            intro v1 w1 hown hgrow _
            have HX := Lib.hid (Below.grown (HW.out.alloc hwsz _) hgrow (by simp; omega) (fun k hk => by cases hk; exact hwsz))
            have hown' : w1.ownsRow w.heap.size 5 1 v1 (1 + m) (u8s (UInt8.ofNat (48 + r.natAbs % 10) :: l)) := by
              first
                | (have e := digit_byte r (-r.tmod 10) HD.out
                   simp only [u8s, List.map_cons, e]
                   simpa [u8s] using hown)
                | (have e := digit_byte r (r.tmod 10) (by have := HD.out; omega)
                   simp only [u8s, List.map_cons, e]
                   simpa [u8s] using hown)
            obtain ⟨g1, c1, rfl, hb1⟩ := bytes_own hown' (by have := HM.out; simp; omega) (by omega)
            have HB1 := Lib.hid hb1
            clear hown hown' hgrow hb1
            go_wp2_with fail
            go_roundw
            case rel => exact ⟨g1, c1, 1 + m, UInt8.ofNat (48 + r.natAbs % 10) :: l, r.tdiv 10, rfl, rfl, HQ.out.1, HQ.out.2.1, HQ.out.2.2, Lib.hid (by have := HM.out; simp; omega), HB1, HS, HX⟩
            case measure => have := HMS.out; have hq := HA.out; simp only [intOf, sliceLen]; omega
    · have hm0 : ((m : Int) == 0) = false := by simp; omega
      have hm1 : 0 < m := by omega
      obtain rfl : r = 0 := by omega
      have hl : l = full := left_done HL.out (by intro h; have := HM.out; rw [h] at this; simp at this; omega)
      clear hgo
      by_cases hn : n < 0
      · have hit : Lib.itoa n = 45 :: l := by unfold Lib.itoa; rw [if_pos hn, HF.out, hl]
        have HI := Lib.hid hit
        clear hl hit
        go_wp2_with (at_builtin; refine wpList_append_own _ rfl (.tmp 31) (.tmp 32) 77 rfl w.heap.size 5 i0 (.int .u8 0) 1 1 Tryd.underlying77 hi hz0 hz1 hz2 rfl (by decide) _ 1 _ rfl (World.ownsRow_lit wr _ 1 hwsz (by decide) rfl) ⟨g, 0, none⟩ m c (u8s l) rfl (by have := HM.out; simp [u8s]; omega) (bytes_news (HB.out.alloc _)) (by intro u hu; simp [u8s] at hu; obtain ⟨_, _, rfl⟩ := hu; rfl) (by unfold maxLen; omega) (by omega) (by simp; omega) ?_)
        intro v1 w1 hown hgrow _
        have HX := Lib.hid (Below.grown (HW.out.alloc hwsz _) hgrow (by simp; omega) (fun k hk => by cases hk; exact hwsz))
        have hown' : w1.ownsRow w.heap.size 5 1 v1 (1 + m) (u8s ((45 : UInt8) :: l)) := by simpa [u8s] using hown
        have hlen1 : ((45 : UInt8) :: l).length = 1 + m := by have := HM.out; simp; omega
        obtain ⟨g1, c1, rfl, hb1⟩ := bytes_own hown' hlen1 (by omega)
        have hconv := run_convert_bytes_back (P := Tryd.prog) w1 77 9 5 ⟨g1, 0, none⟩ c1 ((45 : UInt8) :: l) Tryd.underlying77 (by kernel_rfl) (by kernel_rfl) (fun j hj => by rw [Go.WideShapes.add_plain, Nat.zero_add]; exact hb1.2 j hj)
        rw [hlen1, ← HI.out] at hconv
        clear hown hown' hgrow hb1 hlen1
        go_wp2_with fail
        go_ret
        exact ⟨rfl, HX.out⟩
      · have hit : Lib.itoa n = l := by unfold Lib.itoa; rw [if_neg hn, hl, ← HF.out]; congr 1; omega
        have hconv := run_convert_bytes_back (P := Tryd.prog) wr 77 9 5 ⟨g, 0, none⟩ c l Tryd.underlying77 (by kernel_rfl) (by kernel_rfl) (fun j hj => by rw [Go.WideShapes.add_plain, Nat.zero_add]; exact HB.out.2 j hj)
        rw [HM.out, ← hit] at hconv
        clear hl hit
        go_wp2_with fail
        go_ret
        exact ⟨rfl, HW.out⟩
end Go.Proofs.YtbopdefpfnancaaDoor
