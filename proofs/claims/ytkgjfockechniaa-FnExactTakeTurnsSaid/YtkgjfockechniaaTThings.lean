/-
  The program's iterator over the things of an owner; the row of a player, and what a thing is worth to it.
-/
import Derived.Test.YtkgjfockechniaaKpX
import Derived.Test.YtkgjfockechniaaTPart
import Derived.Test.YtkgjfockechniaaSValues
namespace Go.Proofs.Ytkgjfockechniaa
open Go.RowKit Go.Shelf
set_option linter.unusedVariables false
attribute [local go_sem] Oper.semAt_some

theorem row_prod {P T i : Nat} (hi : i < P) : ∃ f g : Nat, (i : Int) * (T : Int) = (f : Nat) ∧ ((i : Int) + 1) * (T : Int) = (g : Nat) ∧ i * T = f ∧ g = f + T ∧ f + T ≤ P * T := by
  refine ⟨i * T, i * T + T, by simp, ?_, rfl, rfl, ?_⟩
  · rw [Int.add_mul, Int.one_mul]; simp
  · have := Nat.mul_le_mul_right T hi
    rw [Nat.succ_mul] at this
    exact this

set_option maxRecDepth 20000 in
theorem rowOf_any (b off len cap P T i : Nat) (w : World) (hi : i < P) (hT : 1 ≤ T) (hl : len = P * T) (hc : len ≤ cap) (hm : len ≤ 96) :
    Calls Try.prog 118 #[.slice (some ⟨b, off, none⟩) len cap, .int .i64 i, .int .i64 T] w fun e w' => e = .returned (.slice (some ⟨b, off + i * T, none⟩) T T) ∧ w = w' := by
  obtain ⟨f, g, e1, e2, e3, e4, e5⟩ := row_prod (T := T) hi
  have hi6 : (i : Int) ≤ 96 := by
    have := Nat.mul_le_mul_left (i + 1) hT
    have h2 := Nat.mul_le_mul_right T (show i + 1 ≤ P from hi)
    omega
  have hT6 : (T : Int) ≤ 96 := by omega
  rw [e3]
  clear e3
  have HE := Lib.hid e4
  have HL := Lib.hid hl
  have hfl : f + T ≤ len := by omega
  clear hl e5 hi
  have hg : (g : Nat) ≤ len := by omega
  have hfg : f < g := by omega
  have hgc : (g : Nat) ≤ cap := by omega
  have hgT : g - f = T := by omega
  have HT := Lib.hid hgT
  clear e4 hgT hfl
  go_enter Try.func118, Try.ntmps118
  go_wp2
  go_ret
  exact ⟨by rw [HT.out]; rfl, rfl⟩

theorem row_any (b off len cap P T i : Nat) (w : World) (hi : i < P) (hT : 1 ≤ T) (hl : len = P * T) (hc : len ≤ cap) (hm : len ≤ 96) :
    Calls Try.prog 78 #[valuesV (P : Nat) (T : Nat) (some ⟨b, off, none⟩) len cap, .int .i64 i] w fun e w' => e = .returned (.slice (some ⟨b, off + i * T, none⟩) T T) ∧ Below w.heap.size w w' := by
  have HL := Lib.hid hl
  clear hl
  go_enter Try.func78, Try.ntmps78
  go_wp2_with fail
  refine (rowOf_any b off len cap P T i _ hi hT HL.out hc hm).mono ?_
  rintro e w' ⟨rfl, rfl⟩
  go_wp2_with fail
  go_ret
  exact ⟨rfl, below1⟩

theorem worth_any (b off T k : Nat) (v : Int) (w : World) (hk : k < T) (hT : T ≤ 96) (hc : w.cell? ⟨b, off + k, none⟩ = some (.int .i64 v)) :
    Calls Try.prog 79 #[.slice (some ⟨b, off, none⟩) T T, .int .i64 k] w fun e w' => e = .returned (.int .i64 v) ∧ w = w' := by
  go_enter Try.func79, Try.ntmps79
  go_wp2
  go_ret
  exact ⟨rfl, rfl⟩

theorem thingsOf_any (j : Int) (a : Option Addr) (len cap : Nat) (w : World) :
    Calls Try.prog 77 #[.int .i64 j, .slice a len cap] w fun e w' => e = .returned (.func (.func 117) #[] #[.pointer (some ⟨w.heap.size + 1, 0, none⟩), .pointer (some ⟨w.heap.size, 0, none⟩)]) ∧ w' = (w.alloc (.cells #[.int .i64 j] 2)).alloc (.cells #[.slice a len cap] 22) := by
  go_enter Try.func77, Try.ntmps77
  go_wp2
  go_ret
  exact ⟨rfl, rfl⟩

set_option maxRecDepth 100000 in
set_option maxHeartbeats 1000000 in
/-- the closure that 'thingsOf' hands back, for every loop body that keeps the two boxes and the owners -/
theorem things1_in (n : Nat) (hn : 1 ≤ n) (l Bj Bo b off len cap N : Nat) (S : Nat → Prop) (j : Int) (O : List Int) (hO : O.length = len) (hm : len ≤ maxLen)
    (hj : Bj < N ∧ ¬ S Bj) (ho : Bo < N ∧ ¬ S Bo) (hb : b < N ∧ ¬ S b) (J Jx : List (Thing j O) → World → Prop)
    (hY : ∀ pre (x : Thing j O) W, J pre W → pre.length < (thingsAll j O).length → YieldAt Fence.wide (n - 1) Try.prog l #[.int .i64 (x.1 : Nat)] W fun e W' =>
      (e = .returned (.bool true) ∧ J (pre ++ [x]) W' ∧ KpX S N W W') ∨ (e = .returned (.bool false) ∧ Jx (pre ++ [x]) W'))
    (W : World) (cj : W.cell? ⟨Bj, 0, none⟩ = some (.int .i64 j)) (co : W.cell? ⟨Bo, 0, none⟩ = some (.slice (some ⟨b, off, none⟩) len cap))
    (hc : ∀ i, i < len → W.cell? ⟨b, off + i, none⟩ = some (.int .i64 (O.getD i 0))) (h0 : J [] W) :
    CallsIn Fence.wide n Try.prog 117 #[.func (.yield l) #[] #[], .pointer (some ⟨Bo, 0, none⟩), .pointer (some ⟨Bj, 0, none⟩)] W fun e W' => (∃ v, e = .returned v) ∧
      ((∃ ys, ys = thingsAll j O ∧ J ys W') ∨ (∃ pre, pre <+: thingsAll j O ∧ Jx pre W')) := by
  have HC := Lib.hid hc
  have HO := Lib.hid hO
  clear hc hO
  unfold maxLen at hm
  refine callsIn_of_wp Try.func117 rfl trivial ?_ rfl
  simp only [Try.ntmps117, List.size_toArray, List.length_cons, List.length_nil, Nat.reduceAdd, Nat.reduceSub, Array.replicate_succ, Array.replicate_zero, List.push_toArray, List.append_toArray, List.nil_append, List.cons_append]
  gi_wp2
  gi_loopw [8] (fun p wr => ∃ k : Nat, k ≤ len ∧ p = .int .i64 k ∧ Hid (KpX S N W wr) ∧ Hid (J (thingsTo j O k) wr)) (fun p wr => len - (intOf p).toNat)
  case atStart => exact ⟨0, Nat.zero_le _, rfl, Lib.hid KpX.refl, Lib.hid h0⟩
  case round =>
    obtain ⟨k, hk, rfl, HK, HJ⟩ := hrel
    by_cases hlt : k < len
    · have cv := HK.out.cell hb.1 hb.2 (HC.out k hlt)
      have cw := HK.out.cell hj.1 hj.2 cj
      clear cj co
      by_cases e : O.getD k 0 = j
      · have hlen : (thingsTo j O k).length < (thingsAll j O).length := by
          obtain ⟨t, ht⟩ := thingsTo_pre j O (k + 1) O.length (by rw [HO.out]; omega)
          unfold thingsAll
          rw [ht, thingsTo_yes ⟨by rw [HO.out]; exact hlt, e⟩]
          simp
        obtain ⟨x, hx, hs⟩ : ∃ x : Thing j O, x.1 = k ∧ thingsTo j O (k + 1) = thingsTo j O k ++ [x] := ⟨⟨k, by rw [HO.out]; exact hlt, e⟩, rfl, thingsTo_yes _⟩
        obtain ⟨fn, tmps, assign, body, hy, hR⟩ := hY (thingsTo j O k) x wr HJ.out hlen
        rw [hx] at hy
        have HR := Lib.hid hR
        have HS := Lib.hid hs
        rw [e] at cv
        have hjj : (j == j) = true := beq_self_eq_true j
        clear hR e hlen HJ hs hx
        gi_wp2
        refine HR.out.mono ?_
        rintro e W3 (⟨rfl, hJ3, hk3⟩ | ⟨rfl, hJx3⟩)
        · rw [← HS.out] at hJ3
          have HK3 := Lib.hid (HK.out.trans hk3)
          have HJ3 := Lib.hid hJ3
          clear hJ3 hk3 HK cv cw HR
          gi_wp2
          go_roundw
          case rel => exact ⟨k + 1, by omega, by go_num, HK3, HJ3⟩
          case measure => simp [intOf]; omega
        · rw [← HS.out] at hJx3
          have HJ3 := Lib.hid hJx3
          clear hJx3 cv cw HR
          gi_wp2
          refine bodyPost_ret (results_none rfl _ _ _) rfl ?_
          refine ⟨⟨_, rfl⟩, .inr ⟨_, ?_, HJ3.out⟩⟩
          obtain ⟨t, ht⟩ := thingsTo_pre j O (k + 1) O.length (by rw [HO.out]; omega)
          exact ⟨t, ht.symm⟩
      · have hne : (O.getD k 0 == j) = false := by simpa using e
        have HS := Lib.hid (thingsTo_no e)
        clear e
        generalize O.getD k 0 = v at *
        gi_wp2
        refine ⟨fun _ h => (by cases h), ?_⟩
        gi_wp2
        go_roundw
        case rel => exact ⟨k + 1, by omega, by go_num, HK, Lib.hid (by rw [HS.out]; exact HJ.out)⟩
        case measure => simp [intOf]; omega
    · obtain rfl : k = len := by omega
      clear cj co
      gi_wp2
      go_end0
      exact ⟨⟨_, rfl⟩, .inl ⟨_, by unfold thingsAll; rw [HO.out], HJ.out⟩⟩

/-- what it hands back gives all things, in their order, to whatever round keeps the two boxes and the owners -/
theorem things_stops (n : Nat) (hn : 1 ≤ n) (Bj Bo b off len cap N : Nat) (S : Nat → Prop) (j : Int) (O : List Int) (hO : O.length = len) (hm : len ≤ maxLen)
    (hj : Bj < N ∧ ¬ S Bj) (ho : Bo < N ∧ ¬ S Bo) (hb : b < N ∧ ¬ S b) (w : World) (hN : N ≤ w.heap.size) (cj : w.cell? ⟨Bj, 0, none⟩ = some (.int .i64 j)) (co : w.cell? ⟨Bo, 0, none⟩ = some (.slice (some ⟨b, off, none⟩) len cap))
    (hc : ∀ i, i < len → w.cell? ⟨b, off + i, none⟩ = some (.int .i64 (O.getD i 0))) :
    SeqStopsK Fence.wide n Try.prog 117 #[.pointer (some ⟨Bo, 0, none⟩), .pointer (some ⟨Bj, 0, none⟩)] (fun x : Thing j O => #[Value.int .i64 (x.1 : Nat)]) (KpX S N) (fun ys => ys = thingsAll j O) (fun pre => pre <+: thingsAll j O) (thingsAll j O).length w := fun l J Jx W hW _ _ hY h0 =>
  things1_in n hn l Bj Bo b off len cap N S j O hO hm hj ho hb J Jx hY W ((hW.cell (p := ⟨Bj, 0, none⟩) (by show Bj < _; omega)).trans cj) ((hW.cell (p := ⟨Bo, 0, none⟩) (by show Bo < _; omega)).trans co)
    (fun i hi => (hW.cell (p := ⟨b, off + i, none⟩) (by show b < _; omega)).trans (hc i hi)) h0
end Go.Proofs.Ytkgjfockechniaa
