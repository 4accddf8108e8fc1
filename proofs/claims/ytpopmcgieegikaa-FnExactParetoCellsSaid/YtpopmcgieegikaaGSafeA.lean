/-
  The safest choice: the program's.
-/
import Derived.Test.YtpopmcgieegikaaGBestR
namespace Go.Proofs.Ytpopmcgieegikaa
open Go.RowKit Go.ChangeShapes Go.WideShapes
set_option linter.unusedVariables false

def lowN (f : Nat → Int) : Nat → Int
  | 0 => 1000
  | j + 1 => min (lowN f j) (f j)
def topN (g : Nat → Int) : Nat → Nat × Int
  | 0 => (0, -1001)
  | i + 1 => if (topN g i).2 < g i then (i, g i) else topN g i

set_option maxHeartbeats 1000000 in
set_option maxRecDepth 20000 in
theorem safeFirst_any (f : Nat → Nat → Int) (own oth n : Nat) (w : World) (h6 : own ≤ 6) (o6 : oth ≤ 6)
    (hG : ∀ (x y : Nat) (w' : World), x < own → y < oth → Below w.heap.size w w' → Calls Try.prog 114 #[.int .i64 x, .int .i64 y, .pointer (some ⟨n, 0, none⟩)] w' fun e w'' => e = .returned (.int .i64 (f x y)) ∧ w' = w'') :
    Calls Try.prog 97 #[sideV own oth 114 n] w fun e w' => e = .returned (.tuple #[.int .i64 ((topN (fun x => lowN (f x) oth) own).1 : Nat), .int .i64 (topN (fun x => lowN (f x) oth) own).2]) ∧ Below w.heap.size w w' := by
  have HG := Lib.hid hG
  clear hG
  have HBX : (w.alloc (.cells #[.int .i64 own, .int .i64 oth, .func (.func 114) #[] #[.pointer (some ⟨n, 0, none⟩)]] 73)).heap[w.heap.size]? = some (.cells #[.int .i64 own, .int .i64 oth, .func (.func 114) #[] #[.pointer (some ⟨n, 0, none⟩)]] 73 (0, 0)) := heap1
  have x0 : (w.alloc (.cells #[.int .i64 own, .int .i64 oth, .func (.func 114) #[] #[.pointer (some ⟨n, 0, none⟩)]] 73)).cell? ⟨w.heap.size, 0, none⟩ = some (.int .i64 own) := by rw [cell_of_row _ _ 0 _ _ (0, 0) HBX]; rfl
  have x1 : (w.alloc (.cells #[.int .i64 own, .int .i64 oth, .func (.func 114) #[] #[.pointer (some ⟨n, 0, none⟩)]] 73)).cell? ⟨w.heap.size, 1, none⟩ = some (.int .i64 oth) := by rw [cell_of_row _ _ 1 _ _ (0, 0) HBX]; rfl
  have x2 : (w.alloc (.cells #[.int .i64 own, .int .i64 oth, .func (.func 114) #[] #[.pointer (some ⟨n, 0, none⟩)]] 73)).cell? ⟨w.heap.size, 2, none⟩ = some (.func (.func 114) #[] #[.pointer (some ⟨n, 0, none⟩)]) := by rw [cell_of_row _ _ 2 _ _ (0, 0) HBX]; rfl
  have hbw : Below w.heap.size w (w.alloc (.cells #[.int .i64 own, .int .i64 oth, .func (.func 114) #[] #[.pointer (some ⟨n, 0, none⟩)]] 73)) := below1
  clear HBX
  go_enter Try.func97, Try.ntmps97
  go_wp2_with fail
  generalize hW : (w.alloc (.cells #[.int .i64 own, .int .i64 oth, .func (.func 114) #[] #[.pointer (some ⟨n, 0, none⟩)]] 73)) = W at *
  have HW := Lib.hid hbw
  clear hbw hW
  go_loop [4, 5, 11] (fun ch ms i => ∃ k : Nat, k ≤ own ∧ i = .int .i64 k ∧ ch = .int .i64 ((topN (fun x => lowN (f x) oth) k).1 : Nat) ∧ ms = .int .i64 (topN (fun x => lowN (f x) oth) k).2) (fun _ _ i => own - (intOf i).toNat)
  case atStart => exact ⟨0, Nat.zero_le _, rfl, rfl, rfl⟩
  case round =>
    obtain ⟨k, hk, rfl, rfl, rfl⟩ := hrel
    by_cases hlt : k < own
    · obtain ⟨ct, hct⟩ : ∃ ct : Nat, (topN (fun x => lowN (f x) oth) k).1 = ct := ⟨_, rfl⟩
      obtain ⟨mt, hmt⟩ : ∃ mt, (topN (fun x => lowN (f x) oth) k).2 = mt := ⟨_, rfl⟩
      rw [hct, hmt]
      have HCT := Lib.hid hct
      have HMT := Lib.hid hmt
      clear hct hmt
      go_wp2_with fail
      go_loop [7, 16] (fun ls j => ∃ q : Nat, q ≤ oth ∧ j = .int .i64 q ∧ ls = .int .i64 (lowN (f k) q)) (fun _ j => oth - (intOf j).toNat)
      case atStart => exact ⟨0, Nat.zero_le _, rfl, rfl⟩
      case round =>
        obtain ⟨q, hq, rfl, rfl⟩ := hrel
        by_cases hql : q < oth
        · have HS : Hid (lowN (f k) (q + 1) = min (lowN (f k) q) (f k q)) := Lib.hid rfl
          generalize lowN (f k) q = lq at *
          go_wp2_with (go_at_call 114; refine (HG.out k q _ hlt hql HW.out).mono ?_; rintro e w' ⟨rfl, rfl⟩)
          go_round
          case rel => exact ⟨q + 1, by omega, by go_num, by rw [HS.out]; congr 1; simp only [Int.min_def]; split <;> split <;> omega⟩
          case measure => simp [intOf]; omega
        · obtain rfl : q = oth := by omega
          obtain ⟨lt, hlt2⟩ : ∃ lt, lowN (f k) q = lt := ⟨_, rfl⟩
          rw [hlt2]
          have HLT := Lib.hid hlt2
          clear hlt2
          by_cases hgt : mt < lt
          · have HT : Hid (topN (fun x => lowN (f x) q) (k + 1) = (k, lt)) := Lib.hid (by simp only [topN]; rw [HMT.out, HLT.out, if_pos hgt])
            go_wp2_with fail
            go_round
            case rel => exact ⟨k + 1, by omega, by go_num, by rw [HT.out], by rw [HT.out]⟩
            case measure => simp [intOf]; omega
          · have HT : Hid (topN (fun x => lowN (f x) q) (k + 1) = topN (fun x => lowN (f x) q) k) := Lib.hid (by simp only [topN]; rw [HMT.out, HLT.out, if_neg hgt])
            have hd : decide (mt < lt) = false := decide_eq_false hgt
            go_wp2_with fail
            go_round
            case rel => exact ⟨k + 1, by omega, by go_num, by rw [HT.out, HCT.out], by rw [HT.out, HMT.out]⟩
            case measure => simp [intOf]; omega
    · obtain rfl : k = own := by omega
      go_wp2_with fail
      go_ret2
      exact ⟨rfl, HW.out⟩

set_option maxHeartbeats 1000000 in
set_option maxRecDepth 20000 in
theorem safePaying_any (f : Nat → Nat → Int) (own oth n : Nat) (w : World) (h6 : own ≤ 6) (o6 : oth ≤ 6)
    (hG : ∀ (x y : Nat) (w' : World), x < own → y < oth → Below w.heap.size w w' → Calls Try.prog 118 #[.int .i64 x, .int .i64 y, .pointer (some ⟨n, 0, none⟩)] w' fun e w'' => e = .returned (.int .i64 (f x y)) ∧ w' = w'') :
    Calls Try.prog 97 #[sideV own oth 118 n] w fun e w' => e = .returned (.tuple #[.int .i64 ((topN (fun x => lowN (f x) oth) own).1 : Nat), .int .i64 (topN (fun x => lowN (f x) oth) own).2]) ∧ Below w.heap.size w w' := by
  have HG := Lib.hid hG
  clear hG
  have HBX : (w.alloc (.cells #[.int .i64 own, .int .i64 oth, .func (.func 118) #[] #[.pointer (some ⟨n, 0, none⟩)]] 73)).heap[w.heap.size]? = some (.cells #[.int .i64 own, .int .i64 oth, .func (.func 118) #[] #[.pointer (some ⟨n, 0, none⟩)]] 73 (0, 0)) := heap1
  have x0 : (w.alloc (.cells #[.int .i64 own, .int .i64 oth, .func (.func 118) #[] #[.pointer (some ⟨n, 0, none⟩)]] 73)).cell? ⟨w.heap.size, 0, none⟩ = some (.int .i64 own) := by rw [cell_of_row _ _ 0 _ _ (0, 0) HBX]; rfl
  have x1 : (w.alloc (.cells #[.int .i64 own, .int .i64 oth, .func (.func 118) #[] #[.pointer (some ⟨n, 0, none⟩)]] 73)).cell? ⟨w.heap.size, 1, none⟩ = some (.int .i64 oth) := by rw [cell_of_row _ _ 1 _ _ (0, 0) HBX]; rfl
  have x2 : (w.alloc (.cells #[.int .i64 own, .int .i64 oth, .func (.func 118) #[] #[.pointer (some ⟨n, 0, none⟩)]] 73)).cell? ⟨w.heap.size, 2, none⟩ = some (.func (.func 118) #[] #[.pointer (some ⟨n, 0, none⟩)]) := by rw [cell_of_row _ _ 2 _ _ (0, 0) HBX]; rfl
  have hbw : Below w.heap.size w (w.alloc (.cells #[.int .i64 own, .int .i64 oth, .func (.func 118) #[] #[.pointer (some ⟨n, 0, none⟩)]] 73)) := below1
  clear HBX
  go_enter Try.func97, Try.ntmps97
  go_wp2_with fail
  generalize hW : (w.alloc (.cells #[.int .i64 own, .int .i64 oth, .func (.func 118) #[] #[.pointer (some ⟨n, 0, none⟩)]] 73)) = W at *
  have HW := Lib.hid hbw
  clear hbw hW
  go_loop [4, 5, 11] (fun ch ms i => ∃ k : Nat, k ≤ own ∧ i = .int .i64 k ∧ ch = .int .i64 ((topN (fun x => lowN (f x) oth) k).1 : Nat) ∧ ms = .int .i64 (topN (fun x => lowN (f x) oth) k).2) (fun _ _ i => own - (intOf i).toNat)
  case atStart => exact ⟨0, Nat.zero_le _, rfl, rfl, rfl⟩
  case round =>
    obtain ⟨k, hk, rfl, rfl, rfl⟩ := hrel
    by_cases hlt : k < own
    · obtain ⟨ct, hct⟩ : ∃ ct : Nat, (topN (fun x => lowN (f x) oth) k).1 = ct := ⟨_, rfl⟩
      obtain ⟨mt, hmt⟩ : ∃ mt, (topN (fun x => lowN (f x) oth) k).2 = mt := ⟨_, rfl⟩
      rw [hct, hmt]
      have HCT := Lib.hid hct
      have HMT := Lib.hid hmt
      clear hct hmt
      go_wp2_with fail
      go_loop [7, 16] (fun ls j => ∃ q : Nat, q ≤ oth ∧ j = .int .i64 q ∧ ls = .int .i64 (lowN (f k) q)) (fun _ j => oth - (intOf j).toNat)
      case atStart => exact ⟨0, Nat.zero_le _, rfl, rfl⟩
      case round =>
        obtain ⟨q, hq, rfl, rfl⟩ := hrel
        by_cases hql : q < oth
        · have HS : Hid (lowN (f k) (q + 1) = min (lowN (f k) q) (f k q)) := Lib.hid rfl
          generalize lowN (f k) q = lq at *
          go_wp2_with (go_at_call 118; refine (HG.out k q _ hlt hql HW.out).mono ?_; rintro e w' ⟨rfl, rfl⟩)
          go_round
          case rel => exact ⟨q + 1, by omega, by go_num, by rw [HS.out]; congr 1; simp only [Int.min_def]; split <;> split <;> omega⟩
          case measure => simp [intOf]; omega
        · obtain rfl : q = oth := by omega
          obtain ⟨lt, hlt2⟩ : ∃ lt, lowN (f k) q = lt := ⟨_, rfl⟩
          rw [hlt2]
          have HLT := Lib.hid hlt2
          clear hlt2
          by_cases hgt : mt < lt
          · have HT : Hid (topN (fun x => lowN (f x) q) (k + 1) = (k, lt)) := Lib.hid (by simp only [topN]; rw [HMT.out, HLT.out, if_pos hgt])
            go_wp2_with fail
            go_round
            case rel => exact ⟨k + 1, by omega, by go_num, by rw [HT.out], by rw [HT.out]⟩
            case measure => simp [intOf]; omega
          · have HT : Hid (topN (fun x => lowN (f x) q) (k + 1) = topN (fun x => lowN (f x) q) k) := Lib.hid (by simp only [topN]; rw [HMT.out, HLT.out, if_neg hgt])
            have hd : decide (mt < lt) = false := decide_eq_false hgt
            go_wp2_with fail
            go_round
            case rel => exact ⟨k + 1, by omega, by go_num, by rw [HT.out, HCT.out], by rw [HT.out, HMT.out]⟩
            case measure => simp [intOf]; omega
    · obtain rfl : k = own := by omega
      go_wp2_with fail
      go_ret2
      exact ⟨rfl, HW.out⟩
end Go.Proofs.Ytpopmcgieegikaa
