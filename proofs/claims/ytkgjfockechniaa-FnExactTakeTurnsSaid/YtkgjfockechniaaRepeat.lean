/-
  slices.Repeat of a list of one number.
-/
import Derived.Test.YtkgjfockechniaaGCom
import Derived.Laws.BitsLemmas
import Derived.Laws.CopyOwn
import Derived.Deep.RegionLaw
namespace Go.Proofs.Ytkgjfockechniaa
open Go.RowKit Go.ChangeShapes Go.WideShapes
set_option linter.unusedVariables false

theorem mul64_one (n : Nat) (hn : n ≤ 1048576) (w : World) :
    Calls Try.prog 147 #[.int .u64 1, .int .u64 n] w fun e w' => e = .returned (.tuple #[.int .u64 0, .int .u64 n]) ∧ w = w' := by
  have h1 : bits .and .u64 (n : Int) 4294967295 = n := by
    have := (bits_nat .u64 32 (by decide) (fun m h0 h1 => by rw [IntKind.wrap_u64]; omega) n 4294967295 (by omega) (by decide)).1
    rw [show (4294967295 : Int) = ((4294967295 : Nat) : Int) by decide, this]
    congr 1
    have := Nat.and_two_pow_sub_one_eq_mod n 32
    rw [show (2 ^ 32 - 1 : Nat) = 4294967295 by decide] at this
    rw [this]
    omega
  have h2 : bits .and .u64 1 4294967295 = 1 := by decide +kernel
  have h3 : bits .and .u64 0 4294967295 = 0 := by decide +kernel
  have h4 : (n : Int) / 4294967296 = 0 := by omega
  have h5 : IntKind.u64.wrap (n : Int) = n := by rw [IntKind.wrap_u64]; omega
  have h6 : IntKind.u64.wrap 0 = 0 := by decide +kernel
  go_enter Try.func147, Try.ntmps147
  go_wp2
  go_ret2
  exact ⟨rfl, rfl⟩

theorem mul_one' (n : Nat) (hn : n ≤ 1048576) (w : World) :
    Calls Try.prog 132 #[.int .u64 1, .int .u64 n] w fun e w' => e = .returned (.tuple #[.int .u64 0, .int .u64 n]) ∧ w = w' := by
  go_enter Try.func132, Try.ntmps132
  go_wp2_with (go_at_call 147; refine (mul64_one n hn _).mono ?_; rintro e w' ⟨rfl, rfl⟩)
  go_ret2
  exact ⟨rfl, rfl⟩

/-- k copies, and what is still to be filled -/
def repL (v : Int) (n k : Nat) : List Value := List.replicate k (.int .i64 v) ++ List.replicate (n - k) (.int .i64 0)
theorem repL_len (v : Int) {n k : Nat} (h : k ≤ n) : (repL v n k).length = n := by simp [repL]; omega
theorem repL_splice (v : Int) (n k m : Nat) (h : k + m ≤ n) : splice (repL v n k) k (List.replicate m (.int .i64 v)) = repL v n (k + m) := by
  unfold splice repL
  have e1 : (List.replicate k (Value.int .i64 v) ++ List.replicate (n - k) (Value.int .i64 0)).take k = List.replicate k (Value.int .i64 v) := by
    rw [List.take_append_of_le_length (by simp)]
    exact List.take_of_length_le (by simp)
  have e2 : (List.replicate k (Value.int .i64 v) ++ List.replicate (n - k) (Value.int .i64 0)).drop (k + (List.replicate m (Value.int .i64 v)).length) = List.replicate (n - (k + m)) (Value.int .i64 0) := by
    rw [List.drop_append]
    simp
    omega
  rw [e1, e2, ← List.append_assoc, List.replicate_append_replicate]
theorem repL_at (v : Int) {n k j : Nat} (h : j < k) (u : Value) (hu : (List.replicate k (Value.int .i64 v))[j]? = some u) : (repL v n k)[j]? = some u := by
  unfold repL
  rw [List.getElem?_append_left (by simpa using h)]
  exact hu
theorem repL_cell {w : World} {g n k : Nat} {v : Int} {t : TypeId} (h : w.heap[g]? = some (.cells (repL v n k).toArray t (0, 0))) (m : Nat) (hm : m ≤ k) : ∀ j u, (List.replicate m (Value.int .i64 v))[j]? = some u → w.cell? ((⟨g, 0, none⟩ : Addr).add j) = some u := by
  intro j u hj
  have hjm : j < m := by
    by_cases hlt : j < m
    · exact hlt
    · rw [List.getElem?_eq_none (by simp; omega)] at hj
      cases hj
  rw [Go.WideShapes.add_plain, Nat.zero_add, cell_of_row w g j _ t (0, 0) h]
  rw [List.getElem?_replicate, if_pos hjm] at hj
  simpa using repL_at v (n := n) (show j < k by omega) u (by rw [List.getElem?_replicate, if_pos (by omega)]; exact hj)

set_option maxHeartbeats 1000000 in
set_option maxRecDepth 20000 in
theorem repeat_any (v : Int) (n b off cap : Nat) (w : World) (hn : n ≤ 1048576) (hcap : 1 ≤ cap) (hb : b < w.heap.size) (hv : Big v) (hc : w.cell? ⟨b, off, none⟩ = some (.int .i64 v)) :
    Calls Try.prog 120 #[.slice (some ⟨b, off, none⟩) 1 cap, .int .i64 n] w fun e w' => ∃ g, e = .returned (.slice (some ⟨g, 0, none⟩) n n) ∧ Own w' w.heap.size w'.heap.size (some ⟨g, 0, none⟩) n n (List.replicate n v) ∧ Below w.heap.size w w' := by
  obtain ⟨i0, hi, hz0, hz1, hz2⟩ := info_parts (P := Try.prog) (e := 2) (z := .int .i64 0) (size := 1) (bytes := 8) (by kernel_rfl)
  have HC := Lib.hid hc
  have HVB := Lib.hid hv
  have hw1 : IntKind.u64.wrap (n : Int) = n := by rw [IntKind.wrap_u64]; omega
  have hw2 : IntKind.i64.wrap (n : Int) = n := IntWalk.i64_in _ (by omega)
  have hd1 : decide ((n : Int) < 0) = false := decide_eq_false (by omega)
  have hd2 : decide ((9223372036854775807 : Int) < (n : Int)) = false := decide_eq_false (by omega)
  clear hc hv
  go_enter Try.func120, Try.ntmps120
  go_wp2_with fail
  refine (mul_one' n hn _).mono ?_
  rintro e w' ⟨rfl, rfl⟩
  have hm1 : Nat.min 1 n ≤ 1 := Nat.min_le_left _ _
  have hm2 : Nat.min 1 n ≤ n := Nat.min_le_right _ _
  have hm3 : Nat.min 1 n = 0 → n = 0 := fun h => by
    have : min 1 n = 0 := h
    omega
  have HM3 := Lib.hid hm3
  clear hm3
  generalize hq : Nat.min 1 n = q at *
  have HQ := Lib.hid hq
  clear hq
  go_wp2_with (first
    | (at_make; refine wpList_make_full _ rfl _ _ 22 rfl w.heap.size 2 i0 (.int .i64 0) 1 Try.underlying22 hi hz0 hz1 .i64 .i64 _ _ n rfl rfl (by first | rfl | omega) (by first | rfl | omega) (by rw [hz2]; omega) (by unfold maxLen; omega) (Nat.le_refl _) ?_
       intro w1 hown1 hgrow1
       have hrow : w1.heap[w.heap.size]? = some (.cells (repL v n 0).toArray 2 (0, 0)) := by
         rcases hown1.2 with ⟨e, _⟩ | ⟨g, cap', cur, e, h1, h2, h3, h4, h5, h6⟩
         · cases e
         · simp only [Value.slice.injEq, Option.some.injEq, Addr.mk.injEq, true_and, and_true] at e
           obtain ⟨rfl, rfl⟩ := e
           rw [h2]
           have hl : cur.toList.length = n * 1 := by simpa using h5
           rw [List.take_of_length_le (by omega)] at h6
           have e2 : (madeCells (Value.int .i64 0).cells (n * 1)).toList = List.replicate n (.int .i64 0) := by
             rw [Nat.mul_one]; exact toList_madeCells_one _ _
           rw [e2] at h6
           have e3 : (repL v n 0).toArray = cur := by
             unfold repL
             rw [List.replicate_zero, List.nil_append, Nat.sub_zero, ← h6]
           rw [e3]
       have hsrc : w1.cell? ⟨b, off, none⟩ = some (.int .i64 v) := (((Below.refl w.heap.size w).grown hgrow1 (Nat.le_refl _) (fun k h => by cases h)).cell (p := ⟨b, off, none⟩) hb).trans HC.out
       have HSRC := Lib.hid hsrc
       have HROW := Lib.hid hrow
       have HB1 := Lib.hid ((Below.refl w.heap.size w).grown hgrow1 (Nat.le_refl _) (fun k h => by cases h))
       clear hown1 hgrow1 hrow hsrc)
    | (refine wpList_copy_splice rfl (.tmp 31) (.tmp 32) 22 22 rfl 2 Try.underlying22 (by kernel_rfl) (some ⟨w.heap.size, 0, none⟩) (some ⟨b, off, none⟩) n n 1 cap rfl rfl w.heap.size 0 (repL v n 0) 2 HROW.out (List.replicate q (.int .i64 v)) (by rw [HQ.out]; simp) (fun _ => ⟨rfl, ⟨b, off, none⟩, rfl, fun j u hj => by
          have hj0 : j = 0 := by
            by_cases hlt : j < q
            · omega
            · rw [List.getElem?_eq_none (by simp; omega)] at hj
              cases hj
          subst hj0
          rw [List.getElem?_replicate] at hj
          split at hj
          · cases hj; exact HSRC.out
          · cases hj⟩) (by rw [repL_len v (Nat.zero_le n)]; simp; omega) (fun u hu => by
          rw [List.mem_replicate] at hu
          rw [hu.2]; rfl) w.heap.size w HB1.out (Nat.le_refl _) ?_
       intro w2 hg2 hb2
       rw [List.length_replicate]
       have HR2 : Hid (w2.heap[w.heap.size]? = some (.cells (repL v n q).toArray 2 (0, 0))) := Lib.hid (by
         have h := hg2.out
         rw [repL_splice v n 0 q (by omega), Nat.zero_add] at h
         exact h)
       have HB2 := Lib.hid hb2
       clear hg2 hb2))
  have hgw : w.heap.size < w2.heap.size := by
    by_cases h : w.heap.size < w2.heap.size
    · exact h
    · have := HR2.out
      rw [Array.getElem?_eq_none (by omega)] at this
      cases this
  go_loopw [8] (fun x wr => ∃ k : Nat, k ≤ n ∧ x = .int .i64 k ∧ Hid (k = 0 → n = 0) ∧ Hid (wr.heap[w.heap.size]? = some (.cells (repL v n k).toArray 2 (0, 0))) ∧ Hid (Below w.heap.size w wr)) (fun x _ => n - (intOf x).toNat)
  case atStart => exact ⟨q, hm2, rfl, HM3, HR2, HB2⟩
  case round =>
    obtain ⟨k, hk, rfl, HK, HR, HB⟩ := hrel
    clear HR2 HB2 HB1 HROW HSRC hgw
    by_cases hlt : k < n
    · have hk1 : 1 ≤ k := by
        by_cases h : k = 0
        · have := HK.out h; omega
        · omega
      have hne : ¬ n = k := by omega
      have hmn1 : Nat.min k (n - k) ≤ n - k := Nat.min_le_right _ _
      have hmn2 : 1 ≤ Nat.min k (n - k) := Nat.le_min.2 ⟨hk1, by omega⟩
      have hmn3 : Nat.min k (n - k) ≤ k := Nat.min_le_left _ _
      generalize hqm : Nat.min k (n - k) = m at *
      have HQM := Lib.hid hqm
      clear hqm
      have hw3 : IntKind.i64.wrap ((k : Int) + m) = (k : Int) + m := IntWalk.i64_in _ (by omega)
      go_wp2_with fail
      go_region_law (refine step_copy_splice rfl (.tmp 41) (.tmp 44) 22 22 rfl 2 Try.underlying22 (by kernel_rfl) (some ⟨w.heap.size, k, none⟩) (some ⟨w.heap.size, 0, none⟩) (n - k) (n - k) k n (by kernel_rfl) (by kernel_rfl) w.heap.size k (repL v n k) 2 HR.out (List.replicate m (.int .i64 v)) (by rw [HQM.out]; simp) (fun _ => ⟨rfl, ⟨w.heap.size, 0, none⟩, rfl, repL_cell HR.out m hmn3⟩) (by rw [repL_len v hk]; simp; omega) (fun u hu => by
          rw [List.mem_replicate] at hu
          rw [hu.2]; rfl) w.heap.size w (Below.drew HB.out) (Nat.le_refl _) ?_; intro w4 hg4 hb4; rw [List.length_replicate])
      have HR4 : Hid (w4.heap[w.heap.size]? = some (.cells (repL v n (k + m)).toArray 2 (0, 0))) := Lib.hid (by rw [← repL_splice v n k m (by omega)]; exact hg4.out)
      have HB4 := Lib.hid hb4
      clear hg4 hb4
      go_simp
      go_roundw
      case rel => exact ⟨.int .i64 ((k + m : Nat) : Int), _, _, _, _, _, _, _, _, _, _, _, _, _, ⟨k + m, by omega, rfl, Lib.hid (fun h => by omega), HR4, HB4⟩, by rw [Int.natCast_add]⟩
      case measure => simp [intOf]; omega
    · obtain rfl : k = n := by omega
      go_wp2_with fail
      go_ret
      have hlt2 : w.heap.size < wr.heap.size := by
        by_cases h : w.heap.size < wr.heap.size
        · exact h
        · have := HR.out
          rw [Array.getElem?_eq_none (by omega)] at this
          cases this
      refine ⟨w.heap.size, rfl, ⟨by simp, ?_, Nat.le_refl _, fun x hx => by cases hx; exact hlt2, by simp, .inr ⟨w.heap.size, k, (repL v k k).toArray, rfl, Nat.le_refl _, HR.out, Nat.le_refl _, by unfold maxLen; omega, ?_, ?_⟩⟩, HB.out⟩
      · intro z hz
        rw [List.mem_replicate] at hz
        rw [hz.2]
        exact HVB.out
      · simp [repL_len]
      · simp [repL]
end Go.Proofs.Ytkgjfockechniaa
