/-
  The reference's best rows in a column.
-/
import Derived.Test.YtnmehenkbinfmaaGIs
namespace Go.Proofs.Ytnmehenkbinfmaa
open Go.RowKit Go.ChangeShapes Go.WideShapes
set_option linter.unusedVariables false

def ints (l : List Nat) : List Int := l.map fun i : Nat => (i : Int)
theorem ints_length (l : List Nat) : (ints l).length = l.length := by simp [ints]
theorem ints_append (l m : List Nat) : ints (l ++ m) = ints l ++ ints m := by simp [ints]
theorem ints_big {l : List Nat} (h : ∀ i ∈ l, i < 4096) : ∀ z ∈ ints l, Big z := by
  intro z hz
  simp only [ints, List.mem_map] at hz
  obtain ⟨i, hi, rfl⟩ := hz
  have := h i hi
  exact ⟨by omega, by omega⟩

/-- a list of numbers, in a row of the call's own -/
def IntsOut (w : World) (zs : List Int) (e : Ending) (w' : World) : Prop :=
  ∃ a len cap, e = .returned (.slice a len cap) ∧ Own w' w.heap.size w'.heap.size a len cap zs ∧ Below w.heap.size w w'

def colAt (A : List Int) (C K : Nat) (i : Nat) : Int := A.getD (i * C + K) 0

theorem cell_at {A : List Int} {w : World} {b off len : Nat} (hc : ∀ i, i < len → w.cell? ⟨b, off + i, none⟩ = some (.int .i64 (A.getD i 0))) {i : Nat} (h : i < len) : w.cell? ⟨b, off + i, none⟩ = some (.int .i64 (A.getD i 0)) := hc i h

theorem place_lt {i R K C : Nat} (hi : i < R) (hk : K < C) : i * C + K < R * C := by
  have h1 : (i + 1) * C ≤ R * C := Nat.mul_le_mul_right C hi
  rw [Nat.add_mul, Nat.one_mul] at h1
  omega

set_option maxRecDepth 20000 in
theorem specBest_at (n R C K b off c1 : Nat) (s2 : Value) (A : List Int) (w : World) (hR : R ≤ 6) (hC : C ≤ 6) (hK : K < C) (hx : Box4 w n 27 (.int .i64 R) (.int .i64 C) (.slice (some ⟨b, off, none⟩) (R * C) c1) s2)
    (hb : b < w.heap.size) (hc : ∀ i, i < R * C → w.cell? ⟨b, off + i, none⟩ = some (.int .i64 (A.getD i 0))) :
    Calls Try.prog 91 #[.pointer (some ⟨n, 0, none⟩), .int .i64 K] w (IntsOut w (ints (bestL (colAt A C K) R))) := by
  obtain ⟨i0, hi, hz0, hz1, hz2⟩ := info_parts (P := Try.prog) (e := 2) (z := .int .i64 0) (size := 1) (bytes := 8) (by kernel_rfl)
  have hn := hx.lt
  have HX := Lib.hid hx
  have HC := Lib.hid hc
  have hRC : R * C ≤ 36 := Nat.mul_le_mul hR hC
  obtain ⟨len, hlen⟩ : ∃ len, R * C = len := ⟨_, rfl⟩
  rw [hlen] at HX HC hRC
  have HL := Lib.hid hlen
  clear hx hc hlen
  obtain ⟨⟨p0, p1, p2, p3⟩, _⟩ := HX.out.all
  go_enter Try.func91, Try.ntmps91
  go_wp2_with fail
  go_loopw [5, 6] (fun o i wr => ∃ (k : Nat) (a : Option Addr) (m cap : Nat), k ≤ R ∧ i = .int .i64 k ∧ o = .slice a m cap ∧ m ≤ k ∧
      Hid (wr.ownsRow w.heap.size 2 1 (.slice a m cap) m ((ints (pickL (fun i => (List.range R).all fun j => decide (colAt A C K j ≤ colAt A C K i)) k)).map (Value.int .i64))) ∧ Hid (Below w.heap.size w wr))
    (fun _ i _ => R - (intOf i).toNat)
  case atStart =>
    exact ⟨0, _, 0, 0, Nat.zero_le _, rfl, rfl, Nat.zero_le _, Lib.hid (World.ownsRow_made w #[] 0 (Nat.le_refl _) (Nat.zero_le _) rfl), Lib.hid below1⟩
  case round =>
    obtain ⟨k, a, m, cap, hk, rfl, rfl, hm, HO, HW⟩ := hrel
    have hwr : Box4 wr n 27 (.int .i64 R) (.int .i64 C) (.slice (some ⟨b, off, none⟩) len c1) s2 := (HW.out.block n hn).trans HX.out
    obtain ⟨⟨q0, q1, q2, q3⟩, _⟩ := hwr.all
    clear hwr
    by_cases hlt : k < R
    · have hkp : k * C + K < len := by rw [← HL.out]; exact place_lt hlt hK
      have hk1 := HC.out _ hkp
      obtain ⟨pk, hpk⟩ : ∃ p, k * C = p := ⟨_, rfl⟩
      have hpk' : (k : Int) * (C : Int) = (pk : Int) := by rw [← hpk]; push_cast; rfl
      rw [hpk] at hkp hk1
      have hsk : wr.cell? ⟨b, off + (pk + K), none⟩ = some (.int .i64 (A.getD (pk + K) 0)) := (HW.out.cell (p := ⟨b, off + (pk + K), none⟩) hb).trans hk1
      have HF : Hid (colAt A C K k = A.getD (pk + K) 0) := Lib.hid (by unfold colAt; rw [hpk])
      clear hk1 hpk
      generalize A.getD (pk + K) 0 = vk at *
      go_wp2_with fail
      go_loopw [7, 8] (fun bst j wj => ∃ (q mm : Nat), q ≤ R ∧ j = .int .i64 q ∧ bst = .bool ((List.range q).all fun j => decide (colAt A C K j ≤ vk)) ∧ wj = wr.drewN mm)
        (fun _ j _ => R - (intOf j).toNat)
      case atStart => exact ⟨0, 0, Nat.zero_le _, rfl, rfl, rfl⟩
      case round =>
        obtain ⟨q, mm, hq, rfl, rfl, hw⟩ := hrel
        subst hw
        by_cases hql : q < R
        · have hqp : q * C + K < len := by rw [← HL.out]; exact place_lt hql hK
          have hq1 := HC.out _ hqp
          obtain ⟨pq, hpq⟩ : ∃ p, q * C = p := ⟨_, rfl⟩
          have hpq' : (q : Int) * (C : Int) = (pq : Int) := by rw [← hpq]; push_cast; rfl
          rw [hpq] at hqp hq1
          have hsq : wr.cell? ⟨b, off + (pq + K), none⟩ = some (.int .i64 (A.getD (pq + K) 0)) := (HW.out.cell (p := ⟨b, off + (pq + K), none⟩) hb).trans hq1
          have HG : Hid (colAt A C K q = A.getD (pq + K) 0) := Lib.hid (by unfold colAt; rw [hpq])
          clear hq1 hpq
          generalize A.getD (pq + K) 0 = vq at *
          cases hbst : (List.range q).all fun j => decide (colAt A C K j ≤ vk) with
          | true =>
            have HB : Hid (((List.range (q + 1)).all fun j => decide (colAt A C K j ≤ vk)) = decide (vq ≤ vk)) := Lib.hid (by rw [List.range_succ, List.all_append, hbst]; simp [HG.out])
            clear hbst
            go_wp2_with fail
            go_quiet (fail)
            go_wp2_with fail
            go_roundw
            case rel => exact ⟨q + 1, mm + nq, by omega, by go_num, by rw [HB.out], by first | rfl | exact World.drewN_drewN _ _ _⟩
            case measure => simp [intOf]; omega
          | false =>
            have HB : Hid (((List.range (q + 1)).all fun j => decide (colAt A C K j ≤ vk)) = false) := Lib.hid (by rw [List.range_succ, List.all_append, hbst]; rfl)
            clear hbst
            go_wp2_with fail
            go_quiet (fail)
            go_wp2_with fail
            go_roundw
            case rel => exact ⟨q + 1, mm + nq, by omega, by go_num, by rw [HB.out], by first | rfl | exact World.drewN_drewN _ _ _⟩
            case measure => simp [intOf]; omega
        · obtain rfl : q = R := by omega
          have hwsz := HW.out.size
          cases hbst : (List.range q).all fun j => decide (colAt A C K j ≤ vk) with
          | true =>
            have HP : Hid (pickL (fun i => (List.range q).all fun j => decide (colAt A C K j ≤ colAt A C K i)) (k + 1) = pickL (fun i => (List.range q).all fun j => decide (colAt A C K j ≤ colAt A C K i)) k ++ [k]) :=
              Lib.hid (by rw [pickL_succ]; simp only [HF.out, hbst, if_true])
            clear hbst
            have hO : (wr.drewN mm).ownsRow w.heap.size 2 1 (.slice a m cap) m ((ints (pickL (fun i => (List.range q).all fun j => decide (colAt A C K j ≤ colAt A C K i)) k)).map (Value.int .i64)) := HO.out
            have HO' := Lib.hid hO
            clear hO
            go_wp2_with (at_builtin; refine wpList_append_own _ rfl (.tmp 59) (.tmp 61) 22 rfl w.heap.size 2 i0 (.int .i64 0) 1 8 Try.underlying22 hi hz0 hz1 hz2 rfl (by decide) _ m _ rfl (HO'.out.alloc _) ⟨wr.heap.size, 0, none⟩ 1 1 [.int .i64 k] rfl rfl (news_one _ _ (by simp)) (one_int _) (by unfold maxLen; omega) (by omega) (by simp; omega) ?_)
            intro v' w1 hown hgrow _
            obtain ⟨a', cap', rfl⟩ := row_slice hown
            have HX1 := Lib.hid (Below.grown (((HW.out.trans (same_below ⟨mm, rfl⟩ _)).alloc (by simpa using hwsz) _)) hgrow (by simp; omega) (fun k hk => (World.ownsRow.lt HO'.out k hk).1))
            have HO1 : Hid (w1.ownsRow w.heap.size 2 1 (.slice a' (m + 1) cap') (m + 1) ((ints (pickL (fun i => (List.range q).all fun j => decide (colAt A C K j ≤ colAt A C K i)) (k + 1))).map (Value.int .i64))) :=
              Lib.hid (by rw [HP.out, ints_append, List.map_append]; exact hown)
            clear hown hgrow
            go_wp2_with fail
            go_roundw
            case rel => exact ⟨k + 1, a', m + 1, cap', by omega, by go_num, rfl, by omega, HO1, HX1⟩
            case measure => simp [intOf]; omega
          | false =>
            have HP : Hid (pickL (fun i => (List.range q).all fun j => decide (colAt A C K j ≤ colAt A C K i)) (k + 1) = pickL (fun i => (List.range q).all fun j => decide (colAt A C K j ≤ colAt A C K i)) k) :=
              Lib.hid (by rw [pickL_succ]; simp only [HF.out, hbst]; simp)
            clear hbst
            go_wp2_with fail
            go_roundw
            case rel => exact ⟨k + 1, a, m, cap, by omega, by go_num, rfl, by omega, Lib.hid (by rw [HP.out]; exact HO.out), Lib.hid (HW.out.trans (same_below ⟨mm, rfl⟩ _))⟩
            case measure => simp [intOf]; omega
    · obtain rfl : k = R := by omega
      go_wp2_with fail
      go_ret
      exact ⟨a, m, cap, rfl, own_of_row HO.out (ints_big fun i hi => by have := (pickL_lt hi).1; omega), HW.out⟩
end Go.Proofs.Ytnmehenkbinfmaa
