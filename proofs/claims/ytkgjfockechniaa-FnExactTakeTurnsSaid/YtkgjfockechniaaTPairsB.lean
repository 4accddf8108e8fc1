/-
  What is told of each two players, yes or no: the program's table, and whether it holds a no.
-/
import Derived.Test.YtkgjfockechniaaTEnvy
import Derived.Test.YtkgjfockechniaaTBest
namespace Go.Proofs.Ytkgjfockechniaa
open Go.RowKit Go.ChangeShapes Go.WideShapes
set_option linter.unusedVariables false

/-- a list of yes and no in a row of the call's own -/
def RowOutB (w : World) (zs : List Bool) (e : Ending) (w' : World) : Prop :=
  ∃ a len cap, e = .returned (.slice a len cap) ∧ w'.ownsRow w.heap.size 4 1 (.slice a len cap) len (zs.map Value.bool) ∧ Below w.heap.size w w'
theorem one_bool (b : Bool) : ∀ u ∈ [Value.bool b], u.oneCell' = true := by
  intro u hu
  simp only [List.mem_singleton] at hu
  subst hu
  rfl

/-- f of each pair, row by row, the first k rows -/
def pairsToB (f : Nat → Nat → Bool) (P : Nat) : Nat → List Bool
  | 0 => []
  | k + 1 => pairsToB f P k ++ (List.range P).map (f k)
theorem pairsToB_len (f : Nat → Nat → Bool) (P : Nat) (k : Nat) : (pairsToB f P k).length = k * P := by
  induction k with
  | zero => simp [pairsToB]
  | succ k ih => simp [pairsToB, ih, Nat.succ_mul]
theorem pairsToB_mem {f : Nat → Nat → Bool} {P k : Nat} {z : Bool} (h : z ∈ pairsToB f P k) : ∃ i j, i < k ∧ j < P ∧ z = f i j := by
  induction k with
  | zero => simp [pairsToB] at h
  | succ k ih =>
    rcases List.mem_append.1 h with h | h
    · obtain ⟨i, j, h1, h2, h3⟩ := ih h
      exact ⟨i, j, by omega, h2, h3⟩
    · simp only [List.mem_map, List.mem_range] at h
      obtain ⟨j, hj, rfl⟩ := h
      exact ⟨k, j, by omega, hj, rfl⟩

/-- a closure that tells yes or no of two players -/
def TellB (w : World) (g : Nat) (caps : Array Value) (P : Nat) (f : Nat → Nat → Bool) : Prop :=
  ∀ W, Below w.heap.size w W → ∀ i j, i < P → j < P → Calls Try.prog g (#[.int .i64 i, .int .i64 j] ++ caps) W fun e W' => e = .returned (.bool (f i j)) ∧ Below W.heap.size W W'

set_option maxHeartbeats 2000000 in
set_option maxRecDepth 20000 in
theorem forPairsB_any (P g : Nat) (caps : Array Value) (f : Nat → Nat → Bool) (w : World) (hP : P ≤ 6) (he : ∀ args w, (callFunc g args).run Try.prog w = .ok (.enter g args) w) (hf : TellB w g caps P f) :
    Calls Try.prog 74 #[.int .i64 P, .func (.func g) #[] caps] w (RowOutB w (pairsToB f P P)) := by
  obtain ⟨i0, hi, hz0, hz1, hz2⟩ := info_parts (P := Try.prog) (e := 4) (z := .bool false) (size := 1) (bytes := 1) (by kernel_rfl)
  have HF := Lib.hid hf
  have HE := Lib.hid he
  clear hf he
  go_enter Try.func74, Try.ntmps74
  go_wp2_with fail
  go_loopw [5, 9] (fun o q wr => ∃ (k m : Nat) (a : Option Addr) (cap : Nat), k ≤ P ∧ q = .int .i64 k ∧ o = .slice a m cap ∧ m ≤ 6 * k ∧
      Hid (wr.ownsRow w.heap.size 4 1 (.slice a m cap) m ((pairsToB f P k).map Value.bool)) ∧ Hid (Below w.heap.size w wr))
    (fun _ q _ => P - (intOf q).toNat)
  case atStart =>
    exact ⟨0, 0, _, 0, Nat.zero_le _, rfl, rfl, Nat.zero_le _, Lib.hid (World.ownsRow_nil _ _ _ _), Lib.hid (Below.refl _ _)⟩
  case round =>
    obtain ⟨k, m, a, cap, hk, rfl, rfl, hm, HR, HW⟩ := hrel
    by_cases hlt : k < P
    · have HR0 : Hid (wr.ownsRow w.heap.size 4 1 (.slice a m cap) m ((pairsToB f P k ++ (List.range 0).map (f k)).map Value.bool)) := Lib.hid (by simpa using HR.out)
      clear HR
      obtain ⟨wo, rfl⟩ : ∃ wo : World, wo = wr := ⟨_, rfl⟩
      go_wp2_with fail
      go_loopw [5, 13] (fun o q wr => ∃ (r m : Nat) (a : Option Addr) (cap : Nat), r ≤ P ∧ q = .int .i64 r ∧ o = .slice a m cap ∧ m ≤ 6 * k + r ∧
          Hid (wr.ownsRow w.heap.size 4 1 (.slice a m cap) m ((pairsToB f P k ++ (List.range r).map (f k)).map Value.bool)) ∧ Hid (Below w.heap.size w wr))
        (fun _ q _ => P - (intOf q).toNat)
      case atStart => exact ⟨0, m, a, cap, Nat.zero_le _, rfl, rfl, by omega, HR0, HW⟩
      case round =>
        clear hm HR0 HW
        obtain ⟨r, m, a, cap, hr, rfl, rfl, hm, HR, HW⟩ := hrel
        have hwsz := HW.out.size
        by_cases hlt2 : r < P
        · go_wp2_with fail
          rw [HE.out]
          refine (HF.out wr HW.out k r hlt hlt2).mono ?_
          rintro e w2 ⟨rfl, b2⟩
          have hb2 : Below w.heap.size w w2 := below_after HW.out (Nat.le_refl _) b2
          have HR' := Lib.hid (row_below HR.out b2)
          have HW2 := Lib.hid hb2
          have hw2sz := hb2.size
          have HN : Hid (pairsToB f P k ++ (List.range (r + 1)).map (f k) = (pairsToB f P k ++ (List.range r).map (f k)) ++ [f k r]) := Lib.hid (by simp [List.range_succ])
          clear b2 hb2 HW
          generalize f k r = v at *
          go_wp2_with (at_builtin; refine wpList_append_own _ rfl (.tmp 16) (.tmp 21) 65 rfl w.heap.size 4 i0 (.bool false) 1 1 Try.underlying65 hi hz0 hz1 hz2 rfl (by decide) _ m _ rfl (HR'.out.alloc _) ⟨w2.heap.size, 0, none⟩ 1 1 [.bool v] rfl rfl (news_one _ _ (by simp)) (one_bool _) (by unfold maxLen; omega) (by omega) (by simp; omega) ?_)
          intro v' w1 hown hgrow _
          obtain ⟨a', cap', rfl⟩ := row_slice hown
          have HX1 := Lib.hid (Below.grown (HW2.out.alloc (by simpa using hw2sz) _) hgrow (by simp; omega) (fun k hk => (World.ownsRow.lt HR'.out k hk).1))
          have HO1 : Hid (w1.ownsRow w.heap.size 4 1 (.slice a' (m + 1) cap') (m + 1) ((pairsToB f P k ++ (List.range (r + 1)).map (f k)).map Value.bool)) :=
            Lib.hid (by rw [HN.out]; simpa using hown)
          clear hown hgrow HR HR'
          go_wp2_with fail
          go_roundw
          case rel => exact ⟨r + 1, m + 1, a', cap', by omega, by go_num, rfl, by omega, HO1, HX1⟩
          case measure => simp [intOf]; omega
        · obtain rfl : r = P := by omega
          go_wp2_with fail
          go_roundw
          case rel => exact ⟨k + 1, m, a, cap, by omega, by go_num, rfl, by omega, HR, HW⟩
          case measure => simp [intOf]; omega
    · obtain rfl : k = P := by omega
      go_wp2_with fail
      go_ret
      exact ⟨a, m, cap, rfl, HR.out, HW.out⟩

/-! ### does it hold a no? -/

def allB (zs : List Bool) : Bool := zs.all id
def IdxB (zs : List Bool) (i : Int) : Prop := (0 ≤ i ↔ allB zs = false) ∧ -1 ≤ i ∧ i ≤ 4096

theorem indexB_any (a : Option Addr) (len cap lo : Nat) (zs : List Bool) (w : World) (hm : len ≤ 4096) (h : w.ownsRow lo 4 1 (.slice a len cap) len (zs.map Value.bool)) :
    Calls Try.prog 119 #[.slice a len cap, .bool false] w fun e w' => (∃ i : Int, e = .returned (.int .i64 i) ∧ IdxB zs i) ∧ w = w' := by
  have hz : zs.length = len := by simpa using h.1
  have HZ := Lib.hid hz
  have HR := Lib.hid h
  clear h hz
  go_enter Try.func119, Try.ntmps119
  go_wp2
  go_loop [8] (fun q => ∃ k : Nat, k ≤ len ∧ q = .int .i64 k ∧ Hid (∀ j, j < k → zs.getD j true = true)) (fun q => len - (intOf q).toNat)
  case atStart => exact ⟨0, Nat.zero_le _, rfl, Lib.hid (fun j hj => absurd hj (by omega))⟩
  case round =>
    obtain ⟨k, hk, rfl, H⟩ := hrel
    by_cases hlt : k < len
    · obtain ⟨g, rfl⟩ : ∃ g, a = some ⟨g, 0, none⟩ := by
        rcases HR.out.2 with ⟨_, e⟩ | ⟨g, cap', cur, e, _⟩
        · omega
        · simp only [Value.slice.injEq, true_and] at e
          exact ⟨g, e.1⟩
      have hkz : k < zs.length := by rw [HZ.out]; exact hlt
      have hsrc : w.cell? ⟨g, k, none⟩ = some (.bool (zs.getD k true)) := by
        rw [HR.out.cellAt k (by omega)]
        simp [List.getD, hkz]
      cases hb : zs.getD k true with
      | true =>
        rw [hb] at hsrc
        have H' : Hid (∀ j, j < k + 1 → zs.getD j true = true) := Lib.hid fun j hj => by
          by_cases e : j = k
          · rw [e]; exact hb
          · exact H.out j (by omega)
        clear hb
        go_wp2
        go_round
        case rel => exact ⟨k + 1, by omega, by go_num, H'⟩
        case measure => simp [intOf]; omega
      | false =>
        rw [hb] at hsrc
        have E : Hid (allB zs = false) := Lib.hid (by
          unfold allB
          rw [List.all_eq_false]
          refine ⟨zs[k], List.getElem_mem _, ?_⟩
          rw [List.getD_eq_getElem?_getD, List.getElem?_eq_getElem hkz] at hb
          simpa using hb)
        clear hb
        go_wp2
        go_ret
        exact ⟨⟨k, rfl, ⟨⟨fun _ => E.out, fun _ => by omega⟩, by omega, by omega⟩⟩, rfl⟩
    · obtain rfl : k = len := by omega
      have E : Hid (allB zs = true) := Lib.hid (by
        unfold allB
        rw [List.all_eq_true]
        intro z hzm
        obtain ⟨i, hi, rfl⟩ := List.getElem_of_mem hzm
        have := H.out i (by rw [← HZ.out]; exact hi)
        rw [List.getD_eq_getElem?_getD, List.getElem?_eq_getElem hi] at this
        simpa using this)
      go_wp2
      go_ret
      exact ⟨⟨-1, rfl, ⟨⟨(fun h => by omega), (fun h => by rw [E.out] at h; cases h)⟩, by omega, by omega⟩⟩, rfl⟩

theorem containsB_any (a : Option Addr) (len cap lo : Nat) (zs : List Bool) (w : World) (hm : len ≤ 4096) (h : w.ownsRow lo 4 1 (.slice a len cap) len (zs.map Value.bool)) :
    Calls Try.prog 80 #[.slice a len cap, .bool false] w fun e w' => e = .returned (.bool (!allB zs)) ∧ w = w' := by
  have H := Lib.hid h
  clear h
  obtain ⟨v, hv⟩ : ∃ v, allB zs = v := ⟨_, rfl⟩
  rw [hv]
  have HV := Lib.hid hv
  clear hv
  go_enter Try.func80, Try.ntmps80
  go_wp2_with fail
  refine (indexB_any a len cap lo zs w hm H.out).mono ?_
  rintro e w' ⟨⟨i, rfl, hi, h1, h2⟩, rfl⟩
  rw [HV.out] at hi
  cases v with
  | true =>
    have hn : ¬ 0 ≤ i := fun h => by have := hi.1 h; cases this
    have HN := Lib.hid hn
    clear hi hn
    go_wp2_with fail
    go_ret
    refine ⟨?_, rfl⟩
    show Ending.returned (Value.bool (decide (0 ≤ i))) = _
    rw [decide_eq_false (by have := HN.out; omega)]
    rfl
  | false =>
    have hn : 0 ≤ i := hi.2 rfl
    clear hi
    go_wp2_with fail
    go_ret
    exact ⟨rfl, rfl⟩
end Go.Proofs.Ytkgjfockechniaa
