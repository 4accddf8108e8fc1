/-
  ParetoCells: the reference's answer.
-/
import Derived.Test.YtpopmcgieegikaaGSafeR
namespace Go.Proofs.Ytpopmcgieegikaa
open Go.RowKit Go.ChangeShapes Go.WideShapes
set_option linter.unusedVariables false

/-- is a cell worse for both than another one? -/
def domP (A B : List Int) (i k : Nat) : Bool := decide (A.getD i 0 ≤ A.getD k 0) && (decide (B.getD i 0 ≤ B.getD k 0) && (decide (A.getD i 0 < A.getD k 0) || decide (B.getD i 0 < B.getD k 0)))
def freeP (A B : List Int) (n i : Nat) : Bool := (List.range n).all fun k => !domP A B i k
def paretoV (r c : Int) (A B : List Int) : List Int × Bool := if okGame r c A B = true then (ints (pickL (freeP A B A.length) A.length), true) else ([], false)
theorem paretoV_len (r c : Int) (A B : List Int) : (paretoV r c A B).1.length ≤ 4096 := by
  unfold paretoV
  split
  · rename_i hok
    obtain ⟨R, C, rfl, rfl, r1, r6, q1, q6, hlA, _⟩ := okGame_true hok
    have := pickL_length (freeP A B A.length) A.length
    have h2 : R * C ≤ 6 * 6 := Nat.mul_le_mul r6 q6
    simp only [ints_length]
    omega
  · simp

theorem all_next (p : Nat → Bool) (q : Nat) : ((List.range (q + 1)).all p) = ((List.range q).all p && p q) := by
  rw [List.range_succ, List.all_append]; simp

set_option maxHeartbeats 2000000 in
set_option maxRecDepth 20000 in
theorem specPareto_any (r c : Int) (a1 : Option Addr) (l1 c1 : Nat) (a2 : Option Addr) (l2 c2 : Nat) (A B : List Int) (w : World) (hA : IAt w a1 l1 A) (hB : IAt w a2 l2 B) :
    Calls Try.prog 67 #[gameV r c a1 l1 c1 a2 l2 c2] w (PairOut w (paretoV r c A B)) := by
  have HA := Lib.hid hA
  have HB := Lib.hid hB
  cases hok : okGame r c A B with
  | true =>
    obtain ⟨i0, hi, hz0, hz1, hz2⟩ := info_parts (P := Try.prog) (e := 2) (z := .int .i64 0) (size := 1) (bytes := 8) (by kernel_rfl)
    obtain ⟨R, C, rfl, rfl, r1, r6, q1, q6, hlA, hlB, hgA, _⟩ := okGame_true hok
    obtain ⟨b, off, rfl, rfl, hb, hc⟩ := game_at hA hlA r1 q1
    obtain ⟨b', off', rfl, rfl, hb', hc'⟩ := game_at hB hlB r1 q1
    have OK := Lib.hid hok
    have hRC : R * C ≤ 36 := Nat.mul_le_mul r6 q6
    have HV : Hid (paretoV R C A B = (ints (pickL (freeP A B (R * C)) (R * C)), true)) := Lib.hid (by unfold paretoV; rw [OK.out, hlA]; simp)
    have X1 : Hid (Box4 (w.alloc (.cells #[.int .i64 R, .int .i64 C, .slice (some ⟨b, off, none⟩) (R * C) c1, .slice (some ⟨b', off', none⟩) (R * C) c2] 27)) w.heap.size 27 (.int .i64 R) (.int .i64 C) (.slice (some ⟨b, off, none⟩) (R * C) c1) (.slice (some ⟨b', off', none⟩) (R * C) c2)) := Lib.hid heap1
    have bw : Below w.heap.size w (w.alloc (.cells #[.int .i64 R, .int .i64 C, .slice (some ⟨b, off, none⟩) (R * C) c1, .slice (some ⟨b', off', none⟩) (R * C) c2] 27)) := below1
    have HC : Hid (∀ i, i < R * C → (w.alloc (.cells #[.int .i64 R, .int .i64 C, .slice (some ⟨b, off, none⟩) (R * C) c1, .slice (some ⟨b', off', none⟩) (R * C) c2] 27)).cell? ⟨b, off + i, none⟩ = some (.int .i64 (A.getD i 0))) := Lib.hid fun i hi => (bw.cell (p := ⟨b, off + i, none⟩) hb).trans (hc i hi)
    have HC' : Hid (∀ i, i < R * C → (w.alloc (.cells #[.int .i64 R, .int .i64 C, .slice (some ⟨b, off, none⟩) (R * C) c1, .slice (some ⟨b', off', none⟩) (R * C) c2] 27)).cell? ⟨b', off' + i, none⟩ = some (.int .i64 (B.getD i 0))) := Lib.hid fun i hi => (bw.cell (p := ⟨b', off' + i, none⟩) hb').trans (hc' i hi)
    have BW := Lib.hid bw
    have hbs : w.heap.size < (w.alloc (.cells #[.int .i64 R, .int .i64 C, .slice (some ⟨b, off, none⟩) (R * C) c1, .slice (some ⟨b', off', none⟩) (R * C) c2] 27)).heap.size := by simp
    clear hA hB hc hc' hlA hlB hok hgA bw
    go_enter Try.func67, Try.ntmps67
    go_wp2_with fail
    refine (specIs_any _ R C _ (R * C) c1 _ (R * C) c2 A B _ X1.out (HA.out.below BW.out) (HB.out.below BW.out)).mono ?_
    rintro e w1 ⟨rfl, n1, rfl⟩
    rw [OK.out]
    generalize hW : (w.alloc (.cells #[.int .i64 R, .int .i64 C, .slice (some ⟨b, off, none⟩) (R * C) c1, .slice (some ⟨b', off', none⟩) (R * C) c2] 27)) = W at *
    clear hW
    obtain ⟨len, hlen⟩ : ∃ len, R * C = len := ⟨_, rfl⟩
    rw [hlen] at X1 HC HC' hRC HV
    simp only [hlen]
    clear hlen
    obtain ⟨⟨p0, p1, p2, p3⟩, _⟩ := X1.out.all
    go_wp2_with fail
    go_loopw [4, 5] (fun o i wr => ∃ (k : Nat) (a : Option Addr) (m cap : Nat), k ≤ len ∧ i = .int .i64 k ∧ o = .slice a m cap ∧ m ≤ k ∧
        Hid (wr.ownsRow W.heap.size 2 1 (.slice a m cap) m ((ints (pickL (freeP A B len) k)).map (Value.int .i64))) ∧ Hid (Below W.heap.size W wr))
      (fun _ i _ => len - (intOf i).toNat)
    case atStart =>
      exact ⟨0, _, 0, 0, Nat.zero_le _, rfl, rfl, Nat.le_refl _, Lib.hid (World.ownsRow_made (W.drewN n1) #[] 0 (Nat.le_refl _) (Nat.zero_le _) rfl), Lib.hid ((same_below ⟨n1, rfl⟩ _).alloc (Nat.le_refl _) _)⟩
    case round =>
      obtain ⟨k, a, m, cap, hk, rfl, rfl, hm, HO, HWR⟩ := hrel
      have hwr : Box4 wr w.heap.size 27 (.int .i64 R) (.int .i64 C) (.slice (some ⟨b, off, none⟩) len c1) (.slice (some ⟨b', off', none⟩) len c2) := (HWR.out.block _ hbs).trans X1.out
      obtain ⟨⟨q0, q1', q2, q3⟩, _⟩ := hwr.all
      have hwsz := HWR.out.size
      clear hwr
      by_cases hlt : k < len
      · have hsk : wr.cell? ⟨b, off + k, none⟩ = some (.int .i64 (A.getD k 0)) := (HWR.out.cell (p := ⟨b, off + k, none⟩) (World.block_lt_of_cell? W _ (HC.out k hlt))).trans (HC.out k hlt)
        have hsk' : wr.cell? ⟨b', off' + k, none⟩ = some (.int .i64 (B.getD k 0)) := (HWR.out.cell (p := ⟨b', off' + k, none⟩) (World.block_lt_of_cell? W _ (HC'.out k hlt))).trans (HC'.out k hlt)
        obtain ⟨va, hva⟩ : ∃ va, A.getD k 0 = va := ⟨_, rfl⟩
        obtain ⟨vb, hvb⟩ : ∃ vb, B.getD k 0 = vb := ⟨_, rfl⟩
        have HVA := Lib.hid hva
        have HVB := Lib.hid hvb
        rw [hva] at hsk
        rw [hvb] at hsk'
        clear hva hvb
        go_wp2_with fail
        go_loopw [6, 7] (fun gd j wj => ∃ (q mm : Nat), q ≤ len ∧ j = .int .i64 q ∧ gd = .bool ((List.range q).all fun k' => !domP A B k k') ∧ wj = wr.drewN mm)
          (fun _ j _ => len - (intOf j).toNat)
        case atStart => exact ⟨0, 0, Nat.zero_le _, rfl, rfl, rfl⟩
        case round =>
          obtain ⟨q, mm, hq, rfl, rfl, hw⟩ := hrel
          subst hw
          by_cases hql : q < len
          · have hsq : wr.cell? ⟨b, off + q, none⟩ = some (.int .i64 (A.getD q 0)) := (HWR.out.cell (p := ⟨b, off + q, none⟩) (World.block_lt_of_cell? W _ (HC.out q hql))).trans (HC.out q hql)
            have hsq' : wr.cell? ⟨b', off' + q, none⟩ = some (.int .i64 (B.getD q 0)) := (HWR.out.cell (p := ⟨b', off' + q, none⟩) (World.block_lt_of_cell? W _ (HC'.out q hql))).trans (HC'.out q hql)
            obtain ⟨ua, hua⟩ : ∃ ua, A.getD q 0 = ua := ⟨_, rfl⟩
            obtain ⟨ub, hub⟩ : ∃ ub, B.getD q 0 = ub := ⟨_, rfl⟩
            rw [hua] at hsq
            rw [hub] at hsq'
            have HD : Hid (domP A B k q = (decide (va ≤ ua) && (decide (vb ≤ ub) && (decide (va < ua) || decide (vb < ub))))) := Lib.hid (by unfold domP; rw [HVA.out, HVB.out, hua, hub])
            clear hua hub
            have HN := Lib.hid (all_next (fun k' => !domP A B k k') q)
            generalize ((List.range q).all fun k' => !domP A B k k') = g at *
            rcases (show ua < va ∨ (va ≤ ua ∧ ub < vb) ∨ (va < ua ∧ vb ≤ ub) ∨ (va = ua ∧ vb < ub) ∨ (va = ua ∧ vb = ub) by omega) with e1 | ⟨e1, e2⟩ | ⟨e1, e2⟩ | ⟨e1, e2⟩ | ⟨e1, e2⟩
            · have hd1 : decide (va ≤ ua) = false := decide_eq_false (by omega)
              have HR : Hid (domP A B k q = false) := Lib.hid (by rw [HD.out, hd1]; rfl)
              go_wp2_with fail
              go_quiet (fail)
              go_wp2_with fail
              go_roundw
              case rel => exact ⟨q + 1, mm + nq, by omega, by go_num, by rw [HN.out, HR.out]; simp, by first | rfl | exact World.drewN_drewN _ _ _⟩
              case measure => simp [intOf]; omega
            · have hd1 : decide (va ≤ ua) = true := decide_eq_true e1
              have hd2 : decide (vb ≤ ub) = false := decide_eq_false (by omega)
              have HR : Hid (domP A B k q = false) := Lib.hid (by rw [HD.out, hd1, hd2]; rfl)
              go_wp2_with fail
              go_quiet (fail)
              go_wp2_with fail
              go_roundw
              case rel => exact ⟨q + 1, mm + nq, by omega, by go_num, by rw [HN.out, HR.out]; simp, by first | rfl | exact World.drewN_drewN _ _ _⟩
              case measure => simp [intOf]; omega
            · have hd1 : decide (va ≤ ua) = true := decide_eq_true (by omega)
              have hd2 : decide (vb ≤ ub) = true := decide_eq_true e2
              have hd3 : decide (va < ua) = true := decide_eq_true e1
              have HR : Hid (domP A B k q = true) := Lib.hid (by rw [HD.out, hd1, hd2, hd3]; rfl)
              go_wp2_with fail
              go_quiet (fail)
              go_wp2_with fail
              go_roundw
              case rel => exact ⟨q + 1, mm + nq, by omega, by go_num, by rw [HN.out, HR.out]; simp, by first | rfl | exact World.drewN_drewN _ _ _⟩
              case measure => simp [intOf]; omega
            · have hd1 : decide (va ≤ ua) = true := decide_eq_true (by omega)
              have hd2 : decide (vb ≤ ub) = true := decide_eq_true (by omega)
              have hd3 : decide (va < ua) = false := decide_eq_false (by omega)
              have hd4 : decide (vb < ub) = true := decide_eq_true e2
              have HR : Hid (domP A B k q = true) := Lib.hid (by rw [HD.out, hd1, hd2, hd3, hd4]; rfl)
              go_wp2_with fail
              go_quiet (fail)
              go_wp2_with fail
              go_roundw
              case rel => exact ⟨q + 1, mm + nq, by omega, by go_num, by rw [HN.out, HR.out]; simp, by first | rfl | exact World.drewN_drewN _ _ _⟩
              case measure => simp [intOf]; omega
            · have hd1 : decide (va ≤ ua) = true := decide_eq_true (by omega)
              have hd2 : decide (vb ≤ ub) = true := decide_eq_true (by omega)
              have hd3 : decide (va < ua) = false := decide_eq_false (by omega)
              have hd4 : decide (vb < ub) = false := decide_eq_false (by omega)
              have HR : Hid (domP A B k q = false) := Lib.hid (by rw [HD.out, hd1, hd2, hd3, hd4]; rfl)
              go_wp2_with fail
              go_quiet (fail)
              go_wp2_with fail
              go_roundw
              case rel => exact ⟨q + 1, mm + nq, by omega, by go_num, by rw [HN.out, HR.out]; simp, by first | rfl | exact World.drewN_drewN _ _ _⟩
              case measure => simp [intOf]; omega
          · obtain rfl : q = len := by omega
            cases hgd : (List.range q).all fun k' => !domP A B k k' with
            | true =>
              have HP : Hid (pickL (freeP A B q) (k + 1) = pickL (freeP A B q) k ++ [k]) := Lib.hid (by rw [pickL_succ]; simp only [freeP, hgd, if_true])
              clear hgd
              have hO : (wr.drewN mm).ownsRow W.heap.size 2 1 (.slice a m cap) m ((ints (pickL (freeP A B q) k)).map (Value.int .i64)) := HO.out
              have HO' := Lib.hid hO
              clear hO
              go_wp2_with (at_builtin; refine wpList_append_own _ rfl (.tmp 76) (.tmp 78) 22 rfl W.heap.size 2 i0 (.int .i64 0) 1 8 Try.underlying22 hi hz0 hz1 hz2 rfl (by decide) _ m _ rfl (HO'.out.alloc _) ⟨wr.heap.size, 0, none⟩ 1 1 [.int .i64 k] rfl rfl (news_one _ _ (by simp)) (one_int _) (by unfold maxLen; omega) (by omega) (by simp; omega) ?_)
              intro v' w1 hown hgrow _
              obtain ⟨a', cap', rfl⟩ := row_slice hown
              have HX1 := Lib.hid (Below.grown (((HWR.out.trans (same_below ⟨mm, rfl⟩ _)).alloc (by simpa using hwsz) _)) hgrow (by simp; omega) (fun k hk => (World.ownsRow.lt HO'.out k hk).1))
              have HO1 : Hid (w1.ownsRow W.heap.size 2 1 (.slice a' (m + 1) cap') (m + 1) ((ints (pickL (freeP A B q) (k + 1))).map (Value.int .i64))) :=
                Lib.hid (by rw [HP.out, ints_append, List.map_append]; exact hown)
              clear hown hgrow
              go_wp2_with fail
              go_roundw
              case rel => exact ⟨k + 1, a', m + 1, cap', by omega, by go_num, rfl, by omega, HO1, HX1⟩
              case measure => simp [intOf]; omega
            | false =>
              have HP : Hid (pickL (freeP A B q) (k + 1) = pickL (freeP A B q) k) := Lib.hid (by rw [pickL_succ]; simp only [freeP, hgd]; simp)
              clear hgd
              go_wp2_with fail
              go_roundw
              case rel => exact ⟨k + 1, a, m, cap, by omega, by go_num, rfl, by omega, Lib.hid (by rw [HP.out]; exact HO.out), Lib.hid (HWR.out.trans (same_below ⟨mm, rfl⟩ _))⟩
              case measure => simp [intOf]; omega
      · obtain rfl : k = len := by omega
        go_wp2_with fail
        go_ret2
        rw [HV.out]
        refine ⟨a, m, cap, rfl, (own_of_row HO.out (ints_big fun i hi => by have := (pickL_lt hi).1; omega)).wide (Nat.le_of_lt hbs) (Nat.le_refl _) (Nat.le_refl _), below_after BW.out (Nat.le_refl _) HWR.out⟩
  | false =>
    have OK := Lib.hid hok
    have HV : Hid (paretoV r c A B = ([], false)) := Lib.hid (by unfold paretoV; rw [OK.out]; simp)
    clear hok hA hB
    go_enter Try.func67, Try.ntmps67
    go_wp2_with fail
    refine (specIs_any _ r c a1 l1 c1 a2 l2 c2 A B _ heap1 (HA.out.below below1) (HB.out.below below1)).mono ?_
    rintro e w1 ⟨rfl, n1, rfl⟩
    rw [OK.out]
    go_wp2_with fail
    go_ret2
    rw [HV.out]
    exact ⟨none, 0, 0, rfl, own_nil _ (Nat.le_refl _), below1.trans (same_below ⟨n1, rfl⟩ _)⟩
end Go.Proofs.Ytpopmcgieegikaa
