/-
  ParetoCells: the program's answer.
-/
import Derived.Test.YtpopmcgieegikaaGParS
import Derived.Deep.LoopGhost
import Derived.WalkMore
namespace Go.Proofs.Ytpopmcgieegikaa
open Go.RowKit Go.ChangeShapes Go.WideShapes
set_option linter.unusedVariables false

set_option maxHeartbeats 4000000 in
set_option maxRecDepth 20000 in
theorem implPareto_any (r c : Int) (a1 : Option Addr) (l1 c1 : Nat) (a2 : Option Addr) (l2 c2 : Nat) (A B : List Int) (w : World) (hA : IAt w a1 l1 A) (hB : IAt w a2 l2 B) :
    Calls Try.prog 68 #[gameV r c a1 l1 c1 a2 l2 c2] w (PairOut w (paretoV r c A B)) := by
  have HA := Lib.hid hA
  have HB := Lib.hid hB
  cases hok : okGame r c A B with
  | true =>
    obtain ⟨i0, hi, hz0, hz1, hz2⟩ := info_parts (P := Try.prog) (e := 2) (z := .int .i64 0) (size := 1) (bytes := 8) (by kernel_rfl)
    obtain ⟨R, C, rfl, rfl, r1, r6, q1, q6, hlA, hlB, hgA, hgB⟩ := okGame_true hok
    obtain ⟨b, off, rfl, rfl, hb, hc⟩ := game_at hA hlA r1 q1
    obtain ⟨b', off', rfl, rfl, hb', hc'⟩ := game_at hB hlB r1 q1
    have OK := Lib.hid hok
    have hRC : R * C ≤ 36 := Nat.mul_le_mul r6 q6
    have HV : Hid (paretoV R C A B = (ints (pickL (freeP A B (R * C)) (R * C)), true)) := Lib.hid (by unfold paretoV; rw [OK.out, hlA]; simp)
    have HG : Hid (∀ i, i < R * C → -1000 ≤ A.getD i 0 ∧ A.getD i 0 ≤ 1000) := Lib.hid fun i hi => okGains_at hgA (by omega)
    have HG' : Hid (∀ i, i < R * C → -1000 ≤ B.getD i 0 ∧ B.getD i 0 ≤ 1000) := Lib.hid fun i hi => okGains_at hgB (by omega)
    have HCA := Lib.hid hc
    have HCB := Lib.hid hc'
    clear hA hB hc hc' hlA hlB hok hgA hgB
    go_enter Try.func68, Try.ntmps68
    go_wp2_with fail
    go_step3
    go_wp2_with fail
    refine (implValid_any R C _ (R * C) c1 _ (R * C) c2 A B _ (HA.out.below below1) (HB.out.below below1)).mono ?_
    rintro e W ⟨rfl, b1⟩
    rw [OK.out]
    have x1 : Box4 W w.heap.size 27 (.int .i64 R) (.int .i64 C) (.slice (some ⟨b, off, none⟩) (R * C) c1) (.slice (some ⟨b', off', none⟩) (R * C) c2) := Box4.below heap1 b1
    have BW := Lib.hid (below_after below1 (Nat.le_refl _) b1)
    have hbs : w.heap.size < W.heap.size := by have := b1.size; simp at this; omega
    have HC : Hid (∀ i, i < R * C → W.cell? ⟨b, off + i, none⟩ = some (.int .i64 (A.getD i 0))) := Lib.hid fun i hi => (BW.out.cell (p := ⟨b, off + i, none⟩) hb).trans (HCA.out i hi)
    have HC' : Hid (∀ i, i < R * C → W.cell? ⟨b', off' + i, none⟩ = some (.int .i64 (B.getD i 0))) := Lib.hid fun i hi => (BW.out.cell (p := ⟨b', off' + i, none⟩) hb').trans (HCB.out i hi)
    have X1 := Lib.hid x1
    clear b1 x1 HCA HCB
    obtain ⟨len, hlen⟩ : ∃ len, R * C = len := ⟨_, rfl⟩
    rw [hlen] at X1 HC HC' HG HG' hRC HV
    simp only [hlen]
    clear hlen
    obtain ⟨⟨p0, p1, p2, p3⟩, _⟩ := X1.out.all
    go_wp2_with fail
    go_step3
    go_wp2_with fail
    go_loopg [4, 15] len (fun g o i wr => ∃ (k : Nat) (a : Option Addr) (m cap : Nat), k + g = len ∧ i = .int .i64 k ∧ o = .slice a m cap ∧ m ≤ k ∧
        Hid (wr.ownsRow W.heap.size 2 1 (.slice a m cap) m ((ints (pickL (freeP A B len) k)).map (Value.int .i64))) ∧ Hid (Below W.heap.size W wr))
    case atStart => exact ⟨0, none, 0, 0, by omega, rfl, rfl, Nat.le_refl _, Lib.hid (World.ownsRow_nil _ _ _ _), Lib.hid (Below.refl _ _)⟩
    case round =>
      obtain ⟨k, a, m, cap, hkg, rfl, rfl, hm, HO, HWR⟩ := hrel
      have hwr : Box4 wr w.heap.size 27 (.int .i64 R) (.int .i64 C) (.slice (some ⟨b, off, none⟩) len c1) (.slice (some ⟨b', off', none⟩) len c2) := (HWR.out.block _ hbs).trans X1.out
      obtain ⟨⟨q0, q1', q2, q3⟩, _⟩ := hwr.all
      have hwsz := HWR.out.size
      clear hwr
      cases gk with
      | zero =>
        obtain rfl : k = len := by omega
        go_wp2_with fail
        try rw [Exit.noGoto_ret]
        go_ret2
        rw [HV.out]
        exact ⟨a, m, cap, rfl, (own_of_row HO.out (ints_big fun i hi => by have := (pickL_lt hi).1; omega)).wide (Nat.le_of_lt hbs) (Nat.le_refl _) (Nat.le_refl _), below_after BW.out (Nat.le_refl _) HWR.out⟩
      | succ g =>
        have hlt : k < len := by omega
        have hsk : wr.cell? ⟨b, off + k, none⟩ = some (.int .i64 (A.getD k 0)) := (HWR.out.cell (p := ⟨b, off + k, none⟩) (World.block_lt_of_cell? W _ (HC.out k hlt))).trans (HC.out k hlt)
        have hsk' : wr.cell? ⟨b', off' + k, none⟩ = some (.int .i64 (B.getD k 0)) := (HWR.out.cell (p := ⟨b', off' + k, none⟩) (World.block_lt_of_cell? W _ (HC'.out k hlt))).trans (HC'.out k hlt)
        have hga := HG.out k hlt
        have hgb := HG'.out k hlt
        obtain ⟨va, hva⟩ : ∃ va, A.getD k 0 = va := ⟨_, rfl⟩
        obtain ⟨vb, hvb⟩ : ∃ vb, B.getD k 0 = vb := ⟨_, rfl⟩
        have HVA := Lib.hid hva
        have HVB := Lib.hid hvb
        rw [hva] at hsk hga
        rw [hvb] at hsk' hgb
        clear hva hvb
        go_wp2_with fail
        go_loopg [21] len (fun g2 j wj => ∃ (q mm : Nat), q + g2 = len ∧ j = .int .i64 q ∧ Hid (∀ x, x < q → domP A B k x = false) ∧ wj = wr.drewN mm)
        case atStart => exact ⟨0, 0, by omega, rfl, Lib.hid (fun x hx => absurd hx (by omega)), rfl⟩
        case round =>
          obtain ⟨q, mm, hqg, rfl, HF, hw⟩ := hrel
          subst hw
          cases gk with
          | zero =>
            obtain rfl : q = len := by omega
            have HP : Hid (pickL (freeP A B q) (k + 1) = pickL (freeP A B q) k ++ [k]) := Lib.hid (by
              have : freeP A B q k = true := List.all_eq_true.2 fun x hx => by rw [HF.out x (by simpa using hx)]; rfl
              rw [pickL_succ, this]; simp)
            have hO : (wr.drewN mm).ownsRow W.heap.size 2 1 (.slice a m cap) m ((ints (pickL (freeP A B q) k)).map (Value.int .i64)) := HO.out
            have HO' := Lib.hid hO
            clear hO
            go_wp2_with (at_builtin; refine wpList_append_own _ rfl (.tmp 59) (.tmp 61) 22 rfl W.heap.size 2 i0 (.int .i64 0) 1 8 Try.underlying22 hi hz0 hz1 hz2 rfl (by decide) _ m _ rfl (HO'.out.alloc _) ⟨wr.heap.size, 0, none⟩ 1 1 [.int .i64 k] rfl rfl (news_one _ _ (by simp)) (one_int _) (by unfold maxLen; omega) (by omega) (by simp; omega) ?_)
            intro v' w1 hown hgrow _
            obtain ⟨a', cap', rfl⟩ := row_slice hown
            have HX1 := Lib.hid (Below.grown (((HWR.out.trans (same_below ⟨mm, rfl⟩ _)).alloc (by simpa using hwsz) _)) hgrow (by simp; omega) (fun k hk => (World.ownsRow.lt HO'.out k hk).1))
            have HO1 : Hid (w1.ownsRow W.heap.size 2 1 (.slice a' (m + 1) cap') (m + 1) ((ints (pickL (freeP A B q) (k + 1))).map (Value.int .i64))) :=
              Lib.hid (by rw [HP.out, ints_append, List.map_append]; exact hown)
            clear hown hgrow
            go_wp2_with fail
            go_roundg g
            case measure => omega
            case rel => exact ⟨k + 1, a', m + 1, cap', by omega, by go_num, rfl, by omega, HO1, HX1⟩
          | succ g2 =>
                  have hql : q < len := by omega
                  have hsq : wr.cell? ⟨b, off + q, none⟩ = some (.int .i64 (A.getD q 0)) := (HWR.out.cell (p := ⟨b, off + q, none⟩) (World.block_lt_of_cell? W _ (HC.out q hql))).trans (HC.out q hql)
                  have hsq' : wr.cell? ⟨b', off' + q, none⟩ = some (.int .i64 (B.getD q 0)) := (HWR.out.cell (p := ⟨b', off' + q, none⟩) (World.block_lt_of_cell? W _ (HC'.out q hql))).trans (HC'.out q hql)
                  have hha := HG.out q hql
                  have hhb := HG'.out q hql
                  obtain ⟨ua, hua⟩ : ∃ ua, A.getD q 0 = ua := ⟨_, rfl⟩
                  obtain ⟨ub, hub⟩ : ∃ ub, B.getD q 0 = ub := ⟨_, rfl⟩
                  rw [hua] at hsq hha
                  rw [hub] at hsq' hhb
                  have HD : Hid (domP A B k q = (decide (va ≤ ua) && (decide (vb ≤ ub) && (decide (va < ua) || decide (vb < ub))))) := Lib.hid (by unfold domP; rw [HVA.out, HVB.out, hua, hub])
                  clear hua hub
                  by_cases e1 : va ≤ ua
                  · by_cases e2 : vb ≤ ub
                    · by_cases e3 : 0 < ua - va + (ub - vb)
                      · skip
                        have hd3 : decide (0 < ua - va + (ub - vb)) = true := decide_eq_true (by omega)
                        have HR : Hid (freeP A B len k = false) := Lib.hid (by
                          cases hf : freeP A B len k with
                          | false => rfl
                          | true =>
                            have := List.all_eq_true.1 hf q (by simp; omega)
                            rw [HD.out] at this
                            simp at this
                            omega)
                        have HP : Hid (pickL (freeP A B len) (k + 1) = pickL (freeP A B len) k) := Lib.hid (by rw [pickL_succ, HR.out]; simp)
                        go_wp2_with fail
                        go_quiet (fail)
                        go_wp2_with fail
                        go_roundg g
                        case measure => omega
                        case rel => exact ⟨k + 1, a, m, cap, by omega, by go_num, rfl, by omega, Lib.hid (by rw [HP.out]; exact HO.out), Lib.hid (HWR.out.trans (same_below ⟨_, rfl⟩ _))⟩
                      · have hd3 : decide (0 < ua - va + (ub - vb)) = false := decide_eq_false e3
                        have HR : Hid (domP A B k q = false) := Lib.hid (by rw [HD.out]; simp; omega)
                        go_wp2_with fail
                        go_quiet (fail)
                        go_wp2_with fail
                        go_roundg g2
                        case measure => omega
                        case rel => exact ⟨q + 1, mm + nq, by omega, by go_num, Lib.hid (fun x hx => by by_cases e : x = q; (rw [e]; exact HR.out); exact HF.out x (by omega)), by first | rfl | exact World.drewN_drewN _ _ _⟩
                    · have hd2 : decide (0 ≤ ub - vb) = false := decide_eq_false (by omega)
                      have HR : Hid (domP A B k q = false) := Lib.hid (by rw [HD.out]; simp; omega)
                      go_wp2_with fail
                      go_quiet (fail)
                      go_wp2_with fail
                      go_roundg g2
                      case measure => omega
                      case rel => exact ⟨q + 1, mm + nq, by omega, by go_num, Lib.hid (fun x hx => by by_cases e : x = q; (rw [e]; exact HR.out); exact HF.out x (by omega)), by first | rfl | exact World.drewN_drewN _ _ _⟩
                  · have hd1 : decide (0 ≤ ua - va) = false := decide_eq_false (by omega)
                    have HR : Hid (domP A B k q = false) := Lib.hid (by rw [HD.out]; simp; omega)
                    go_wp2_with fail
                    go_quiet (fail)
                    go_wp2_with fail
                    go_roundg g2
                    case measure => omega
                    case rel => exact ⟨q + 1, mm + nq, by omega, by go_num, Lib.hid (fun x hx => by by_cases e : x = q; (rw [e]; exact HR.out); exact HF.out x (by omega)), by first | rfl | exact World.drewN_drewN _ _ _⟩
  | false =>
    have OK := Lib.hid hok
    have HV : Hid (paretoV r c A B = ([], false)) := Lib.hid (by unfold paretoV; rw [OK.out]; simp)
    clear hok hA hB
    go_enter Try.func68, Try.ntmps68
    go_wp2_with fail
    go_step3
    go_wp2_with fail
    refine (implValid_any r c a1 l1 c1 a2 l2 c2 A B _ (HA.out.below below1) (HB.out.below below1)).mono ?_
    rintro e w1 ⟨rfl, b1⟩
    rw [OK.out]
    have B1 := Lib.hid (below_after below1 (Nat.le_refl _) b1)
    clear b1
    go_wp2_with fail
    try rw [Exit.noGoto_ret]
    go_ret2
    rw [HV.out]
    exact ⟨none, 0, 0, rfl, own_nil _ (Nat.le_refl _), B1.out⟩
end Go.Proofs.Ytpopmcgieegikaa
