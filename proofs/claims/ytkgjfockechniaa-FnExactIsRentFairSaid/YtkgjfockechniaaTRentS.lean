/-
  IsRentFair: the reference's answer.
-/
import Derived.Test.YtkgjfockechniaaTRentI
namespace Go.Proofs.Ytkgjfockechniaa
open Go.RowKit Go.ChangeShapes Go.WideShapes
set_option linter.unusedVariables false

theorem has_at (b off len cap : Nat) (zs : List Int) (x : Int) (w : World) (hl : len ≤ maxLen) (hz : zs.length = len)
    (hc : ∀ i, i < len → w.cell? ⟨b, off + i, none⟩ = some (.int .i64 (zs.getD i 0))) :
    Calls Try.prog 110 #[.slice (some ⟨b, off, none⟩) len cap, .int .i64 x] w fun e w' => e = .returned (.bool (decide (x ∈ zs))) ∧ w = w' := by
  have HC := Lib.hid hc
  have HZ := Lib.hid hz
  clear hc hz
  unfold maxLen at hl
  go_enter Try.func110, Try.ntmps110
  go_wp2
  go_loop [5] (fun i => ∃ k : Nat, k ≤ len ∧ i = .int .i64 k ∧ Hid (∀ j, j < k → zs.getD j 0 ≠ x)) (fun i => len - (intOf i).toNat)
  case atStart => exact ⟨0, Nat.zero_le _, rfl, Lib.hid (fun j hj => absurd hj (by omega))⟩
  case round =>
    obtain ⟨k, hk, rfl, H⟩ := hrel
    by_cases hlt : k < len
    · have hsrc := HC.out k hlt
      have hmem : zs.getD k 0 ∈ zs := by
        have hk' : k < zs.length := by have := HZ.out; omega
        have e : zs.getD k 0 = zs[k] := by simp [List.getD, hk']
        rw [e]
        exact List.getElem_mem hk'
      have HM := Lib.hid hmem
      have HN : Hid (zs.getD k 0 ≠ x → ∀ j, j < k + 1 → zs.getD j 0 ≠ x) := Lib.hid fun h j hj => by
        by_cases e : j = k
        · rw [e]; exact h
        · exact H.out j (by omega)
      clear hmem H
      obtain ⟨v, hv⟩ : ∃ v, zs.getD k 0 = v := ⟨_, rfl⟩
      rw [hv] at hsrc HM HN
      clear hv
      by_cases hx : v = x
      · subst hx
        go_wp2
        go_ret
        exact ⟨by rw [decide_eq_true HM.out]; rfl, rfl⟩
      · have hb : (v == x) = false := by rw [beq_eq_false_iff_ne]; exact hx
        have HN' := Lib.hid (HN.out hx)
        clear HN hx HM
        go_wp2
        go_round
        case rel => exact ⟨k + 1, by omega, by go_num, HN'⟩
        case measure => simp [intOf]; omega
    · have HE : Hid (decide (x ∈ zs) = false) := Lib.hid (decide_eq_false fun hm => by
        obtain ⟨j, hj, e⟩ := List.getElem_of_mem hm
        have := H.out j (by have := HZ.out; omega)
        rw [List.getD_eq_getElem?_getD, List.getElem?_eq_getElem hj] at this
        exact this e)
      go_wp2
      go_ret
      exact ⟨by rw [HE.out]; rfl, rfl⟩

theorem has_none (a : Option Addr) (cap : Nat) (x : Int) (w : World) :
    Calls Try.prog 110 #[.slice a 0 cap, .int .i64 x] w fun e w' => e = .returned (.bool false) ∧ w = w' := by
  go_enter Try.func110, Try.ntmps110
  go_wp2
  go_loop [5] (fun i => i = .int .i64 0) (fun _ => 0)
  case atStart => exact rfl
  case round =>
    obtain rfl := hrel
    go_wp2
    go_ret
    exact ⟨rfl, rfl⟩

theorem has_any (a : Option Addr) (len cap : Nat) (zs : List Int) (x : Int) (w : World) (h : IAt w a len zs) :
    Calls Try.prog 110 #[.slice a len cap, .int .i64 x] w fun e w' => e = .returned (.bool (decide (x ∈ zs))) ∧ w = w' := by
  obtain ⟨h1, h2, h3, rfl | ⟨b, off, rfl, hb, hc⟩⟩ := h
  · obtain rfl := List.eq_nil_of_length_eq_zero h1
    exact (has_none a cap x w).mono fun e w' h => by simpa using h
  · exact has_at b off len cap zs x w h2 h1 hc

/-- the first k of a list that is read -/
theorem IAt.first {w : World} {a : Option Addr} {len k : Nat} {zs : List Int} (h : IAt w a len zs) (hk : k ≤ len) : IAt w a k (zs.take k) := by
  obtain ⟨h1, h2, h3, h4⟩ := h
  refine ⟨by simp; omega, by omega, fun z hz => h3 z (List.mem_of_mem_take hz), ?_⟩
  rcases h4 with rfl | ⟨b, off, rfl, hb, hc⟩
  · exact .inl (by omega)
  · refine .inr ⟨b, off, rfl, hb, fun i hi => ?_⟩
    rw [hc i (by omega)]
    simp [List.getD, hi]


theorem okOrder_own {P : Nat} {R : List Int} (h : okOrder P R = true) : (decide ((R.length : Int) = (P : Nat)) && okAll 0 ((P : Int) - 1) R) = true := by
  obtain ⟨h1, h2⟩ := okOrder_true h
  rw [decide_eq_true (by rw [h1]), Bool.true_and]
  refine okAll_all fun i hi => ?_
  obtain ⟨q, e, hq, _⟩ := okAt_in (h2 i hi)
  rw [e]
  exact inB_true.2 ⟨by omega, by omega⟩
theorem rent_bad {A : List Int} {P : Nat} {R Q : List Int} {i j : Nat} (hi : i < P) (hj : j < P) (h : rentB A P R Q i j = false) : rentL A P R Q = false := by
  unfold rentL
  rw [List.all_eq_false]
  refine ⟨i, List.mem_range.2 hi, ?_⟩
  rw [Bool.not_eq_true, List.all_eq_false]
  exact ⟨j, List.mem_range.2 hj, by rw [h]; simp⟩
theorem rent_all {A : List Int} {P : Nat} {R Q : List Int} (h : ∀ i, i < P → ∀ j, j < P → rentB A P R Q i j = true) : rentL A P R Q = true := by
  unfold rentL
  rw [List.all_eq_true]
  intro i hi
  rw [List.all_eq_true]
  intro j hj
  exact h i (List.mem_range.1 hi) j (List.mem_range.1 hj)

/-- the reference's last two loops -/
structure RentSt (w : World) (P m : Nat) (b off : Nat) (l1 c1 : Nat) (A : List Int) (br or : Nat) (R : List Int) (bq oq : Nat) (Q : List Int) : Prop where
  box : Box3 w m 27 (.int .i64 (P : Nat)) (.int .i64 (P : Nat)) (.slice (some ⟨b, off, none⟩) l1 c1)
  ok : VOk w P P (some ⟨b, off, none⟩) l1 c1 A
  cells : ∀ i, i < l1 → w.cell? ⟨b, off + i, none⟩ = some (.int .i64 (A.getD i 0))
  rooms : ∀ i, i < P → w.cell? ⟨br, or + i, none⟩ = some (.int .i64 (R.getD i 0))
  prices : ∀ i, i < P → w.cell? ⟨bq, oq + i, none⟩ = some (.int .i64 (Q.getD i 0))
  order : okOrder P R = true
  fair : okAll (-1000000000) 1000000000 Q = true
  qlen : Q.length = P
theorem RentSt.drew {w : World} {P m b off l1 c1 : Nat} {A : List Int} {br or : Nat} {R : List Int} {bq oq : Nat} {Q : List Int} (h : RentSt w P m b off l1 c1 A br or R bq oq Q) (n : Nat) : RentSt (w.drewN n) P m b off l1 c1 A br or R bq oq Q :=
  ⟨h.box.below (same_below ⟨n, rfl⟩ _), h.ok.below (same_below ⟨n, rfl⟩ _), h.cells, h.rooms, h.prices, h.order, h.fair, h.qlen⟩
theorem RentSt.room {w : World} {P m b off l1 c1 : Nat} {A : List Int} {br or : Nat} {R : List Int} {bq oq : Nat} {Q : List Int} (h : RentSt w P m b off l1 c1 A br or R bq oq Q) {i : Nat} (hi : i < P) : ∃ r : Nat, R.getD i 0 = r ∧ r < P := by
  obtain ⟨q, e, hq, _⟩ := okAt_in ((okOrder_true h.order).2 i (by rw [(okOrder_true h.order).1]; exact hi))
  exact ⟨q, e, hq⟩
theorem RentSt.worth {w : World} {P m b off l1 c1 : Nat} {A : List Int} {br or : Nat} {R : List Int} {bq oq : Nat} {Q : List Int} (h : RentSt w P m b off l1 c1 A br or R bq oq Q) {i k f : Nat} (hi : i < P) (hk : k < P) (hf : i * P = f) :
    w.cell? ⟨b, off + (f + k), none⟩ = some (.int .i64 (wAt A P i k)) ∧ f + k < l1 ∧ f ≤ 48 := by
  have hl := h.ok.l48
  have h1 : f + k < l1 := by rw [← hf, hl.1]; exact row_lt hi hk
  refine ⟨?_, h1, by omega⟩
  have := h.cells (f + k) h1
  unfold wAt
  rw [hf]
  exact this
theorem RentSt.gain {w : World} {P m b off l1 c1 : Nat} {A : List Int} {br or : Nat} {R : List Int} {bq oq : Nat} {Q : List Int} (h : RentSt w P m b off l1 c1 A br or R bq oq Q) {i k : Nat} (hi : i < P) (hk : k < P) :
    (0 ≤ wAt A P i k * P ∧ wAt A P i k * P ≤ 6000) ∧ -1000000000 ≤ Q.getD k 0 ∧ Q.getD k 0 ≤ 1000000000 := gain_in h.ok.ok h.ok.len h.ok.p6 hi hk h.fair h.qlen
end Go.Proofs.Ytkgjfockechniaa
