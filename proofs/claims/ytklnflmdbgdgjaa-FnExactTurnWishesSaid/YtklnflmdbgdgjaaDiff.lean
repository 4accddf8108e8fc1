/-
  Lists of numbers below a bound (8 at most), each at most once: by the program's sets, and by the reference's look-ups.
-/
import Derived.Test.YtklnflmdbgdgjaaGCom
import Derived.Laws.BitsLemmas
import Derived.Deep.RegionWith
namespace Go.Proofs.Ytklnflmdbgdgjaa
open Go.RowKit Go.ChangeShapes Go.WideShapes
set_option linter.unusedVariables false

theorem wrap_small8 (n : Int) (h0 : 0 ≤ n) (h1 : n < 2 ^ 8) : IntKind.i64.wrap n = n := by rw [IntKind.wrap_i64]; omega
theorem bits_or8 {a b : Nat} (ha : a < 256) (hb : b < 256) : bits .or .i64 (a : Int) (b : Int) = ((a ||| b : Nat) : Int) := (bits_nat .i64 8 (by decide) wrap_small8 a b ha hb).2
theorem bits_and8 {a b : Nat} (ha : a < 256) (hb : b < 256) : bits .and .i64 (a : Int) (b : Int) = ((a &&& b : Nat) : Int) := (bits_nat .i64 8 (by decide) wrap_small8 a b ha hb).1
theorem in_tab8 : ((List.range 256).all fun s => (List.range 8).all fun p => (bits .and .i64 (s : Int) ((2 ^ p : Nat) : Int) != 0) == s.testBit p) = true := by decide +kernel
theorem in_bits8 {s p : Nat} (hs : s < 256) (hp : p < 8) : (bits .and .i64 (s : Int) ((2 ^ p : Nat) : Int) != 0) = s.testBit p := by
  have := List.all_eq_true.1 (List.all_eq_true.1 in_tab8 s (by simpa using hs)) p (by simpa using hp)
  exact eq_of_beq this
theorem pow_lt8 {p P : Nat} (h : p < P) : 2 ^ p < 2 ^ P := Nat.pow_lt_pow_right (by decide) h
theorem pow_le256 {P : Nat} (h : P ≤ 8) : 2 ^ P ≤ 256 := Nat.pow_le_pow_right (n := 2) (by decide) h
theorem pow_le128 {p : Nat} (h : p < 8) : 2 ^ p ≤ 128 := Nat.pow_le_pow_right (n := 2) (by decide) (show p ≤ 7 by omega)

/-- the set of the first k of a list -/
def seenTo (O : List Int) : Nat → Nat
  | 0 => 0
  | k + 1 => seenTo O k ||| 2 ^ (O.getD k 0).toNat
def okAt (P : Nat) (O : List Int) (k : Nat) : Bool := decide (0 ≤ O.getD k 0) && (decide (O.getD k 0 < P) && !(seenTo O k).testBit (O.getD k 0).toNat)
def okDiff (P : Nat) (O : List Int) : Bool := (List.range O.length).all (okAt P O)

def okOrder (P : Nat) (O : List Int) : Bool := decide (O.length = P) && (List.range O.length).all (okAt P O)
theorem okOrder_bad {P : Nat} {O : List Int} {k : Nat} (hk : k < O.length) (h : okAt P O k = false) : okOrder P O = false := by
  cases e : okOrder P O with
  | false => rfl
  | true =>
    simp only [okOrder, Bool.and_eq_true, List.all_eq_true, List.mem_range] at e
    rw [e.2 k hk] at h
    cases h
theorem okOrder_all {P : Nat} {O : List Int} (h : ∀ j, j < O.length → okAt P O j = true) : okOrder P O = decide (O.length = P) := by
  unfold okOrder
  rw [List.all_eq_true.2 (fun j hj => h j (by simpa using hj)), Bool.and_true]
theorem okOrder_len {P : Nat} {O : List Int} (h : ¬ O.length = P) : okOrder P O = false := by
  unfold okOrder
  rw [decide_eq_false h]
  rfl
theorem okOrder_true {P : Nat} {O : List Int} (h : okOrder P O = true) : O.length = P ∧ ∀ j, j < O.length → okAt P O j = true := by
  simp only [okOrder, Bool.and_eq_true, decide_eq_true_eq, List.all_eq_true, List.mem_range] at h
  exact h
theorem okAt_in {P : Nat} {O : List Int} {k : Nat} (h : okAt P O k = true) : ∃ i : Nat, O.getD k 0 = i ∧ i < P ∧ (seenTo O k).testBit i = false ∧ seenTo O (k + 1) = seenTo O k ||| 2 ^ i := by
  simp only [okAt, Bool.and_eq_true, decide_eq_true_eq, Bool.not_eq_true'] at h
  obtain ⟨h1, h2, h3⟩ := h
  refine ⟨(O.getD k 0).toNat, by omega, by omega, h3, rfl⟩
theorem seenTo_lt {P : Nat} {O : List Int} {k : Nat} (h : ∀ j, j < k → okAt P O j = true) : seenTo O k < 2 ^ P := by
  induction k with
  | zero => exact Nat.pow_pos (by decide)
  | succ k ih =>
    obtain ⟨i, _, hi, _, e⟩ := okAt_in (h k (by omega))
    rw [e]
    exact Nat.or_lt_two_pow (ih fun j hj => h j (by omega)) (pow_lt8 hi)
theorem okDiff_bad {P : Nat} {O : List Int} {k : Nat} (hk : k < O.length) (h : okAt P O k = false) : okDiff P O = false := by
  cases e : okDiff P O with
  | false => rfl
  | true =>
    simp only [okDiff, List.all_eq_true, List.mem_range] at e
    rw [e k hk] at h
    cases h
theorem okDiff_all {P : Nat} {O : List Int} (h : ∀ j, j < O.length → okAt P O j = true) : okDiff P O = true :=
  List.all_eq_true.2 fun j hj => h j (by simpa using hj)
theorem okDiff_true {P : Nat} {O : List Int} (h : okDiff P O = true) : ∀ j, j < O.length → okAt P O j = true := fun j hj => by
  simp only [okDiff, List.all_eq_true, List.mem_range] at h
  exact h j hj
/-- the set of the first k has just what is among them -/
theorem seen_mem {P : Nat} {O : List Int} {k : Nat} (h : ∀ j, j < k → okAt P O j = true) (hk : k ≤ O.length) (q : Nat) : (seenTo O k).testBit q = decide ((q : Int) ∈ O.take k) := by
  induction k with
  | zero => simp [seenTo]
  | succ k ih =>
    obtain ⟨i, hv, hi, _, e⟩ := okAt_in (h k (by omega))
    have hlt : k < O.length := by omega
    have hg : O[k] = (i : Int) := by rw [← hv]; simp [List.getD, hlt]
    rw [e, Nat.testBit_or, ih (fun j hj => h j (by omega)) (by omega), Nat.testBit_two_pow, List.take_succ_eq_append_getElem hlt, hg]
    rw [Bool.eq_iff_iff]
    simp only [Bool.or_eq_true, decide_eq_true_eq, List.mem_append, List.mem_singleton]
    constructor
    · rintro (h | h)
      · exact .inl h
      · exact .inr (by omega)
    · rintro (h | h)
      · exact .inl h
      · exact .inr (by omega)
theorem okAt_mem {P : Nat} {O : List Int} {k : Nat} (h : ∀ j, j < k → okAt P O j = true) (hk : k < O.length) : okAt P O k = (decide (0 ≤ O.getD k 0) && (decide (O.getD k 0 < P) && !decide (O.getD k 0 ∈ O.take k))) := by
  unfold okAt
  by_cases h0 : 0 ≤ O.getD k 0
  · rw [seen_mem h (by omega), Int.toNat_of_nonneg h0]
  · rw [decide_eq_false h0]; rfl

def okIndex (i n : Int) : Bool := decide (0 ≤ i) && decide (i < n)
theorem isIndex_any (i n : Int) (w : World) :
    Calls Try.prog 39 #[.int .i64 i, .int .i64 n] w fun e w' => e = .returned (.bool (okIndex i n)) ∧ w = w' := by
  unfold okIndex
  by_cases h : 0 ≤ i
  · have e : (decide (0 ≤ i) && decide (i < n)) = decide (i < n) := by rw [decide_eq_true h]; rfl
    rw [e]
    clear e
    go_enter Try.func39, Try.ntmps39
    go_wp2
    go_ret
    exact ⟨rfl, rfl⟩
  · have e : (decide (0 ≤ i) && decide (i < n)) = false := by rw [decide_eq_false h]; rfl
    rw [e]
    clear e
    go_enter Try.func39, Try.ntmps39
    go_wp2
    go_ret
    exact ⟨rfl, rfl⟩

theorem setOf8_any (i : Nat) (h : i < 8) (w : World) :
    Calls Try.prog 41 #[.int .i64 (i : Nat)] w fun e w' => e = .returned (.int .i64 (2 ^ i : Nat)) ∧ w = w' := by
  have : i = 0 ∨ i = 1 ∨ i = 2 ∨ i = 3 ∨ i = 4 ∨ i = 5 ∨ i = 6 ∨ i = 7 := by omega
  rcases this with rfl | rfl | rfl | rfl | rfl | rfl | rfl | rfl
  all_goals
    go_enter Try.func41, Try.ntmps41
    go_wp2
    go_ret
    exact ⟨rfl, rfl⟩

theorem isIn8_any (i s : Nat) (hi : i < 8) (hs : s < 256) (w : World) :
    Calls Try.prog 40 #[.int .i64 (i : Nat), .int .i64 (s : Nat)] w fun e w' => e = .returned (.bool (s.testBit i)) ∧ w = w' := by
  have E := Lib.hid (in_bits8 hs hi)
  go_enter Try.func40, Try.ntmps40
  go_wp2_with (go_at_call 41; refine (setOf8_any i (by omega) _).mono ?_; rintro e w' ⟨rfl, rfl⟩)
  go_ret
  exact ⟨by rw [← E.out]; rfl, rfl⟩

set_option maxRecDepth 20000 in
theorem areDifferent_at (b off len cap P : Nat) (O : List Int) (w : World) (hP : P ≤ 8) (hl : len ≤ maxLen) (hz : O.length = len)
    (hc : ∀ i, i < len → w.cell? ⟨b, off + i, none⟩ = some (.int .i64 (O.getD i 0))) :
    Calls Try.prog 26 #[.slice (some ⟨b, off, none⟩) len cap, .int .i64 (P : Nat)] w fun e w' => e = .returned (.bool (okDiff P O)) ∧ w = w' := by
  have HC := Lib.hid hc
  clear hc
  have h64 := pow_le256 hP
  unfold maxLen at hl
  go_enter Try.func26, Try.ntmps26
  go_wp2
  go_loop [5, 10] (fun s i => ∃ k : Nat, k ≤ len ∧ i = .int .i64 k ∧ s = .int .i64 (seenTo O k : Nat) ∧ Hid (∀ j, j < k → okAt P O j = true)) (fun _ i => len - (intOf i).toNat)
  case atStart => exact ⟨0, Nat.zero_le _, rfl, rfl, Lib.hid (fun j hj => absurd hj (by omega))⟩
  case round =>
    obtain ⟨k, hk, rfl, rfl, H⟩ := hrel
    have hseen := seenTo_lt H.out
    by_cases hlt : k < len
    · have hsrc := HC.out k hlt
      have HB : Hid (okAt P O k = false → okDiff P O = false) := Lib.hid fun h => okDiff_bad (by omega) h
      cases hi : okIndex (O.getD k 0) (P : Nat) with
      | false =>
        have E : Hid (okDiff P O = false) := Lib.hid (HB.out (by
          unfold okIndex at hi
          unfold okAt
          rw [← Bool.and_assoc, hi]
          rfl))
        have HI := Lib.hid hi
        clear hi HB
        generalize O.getD k 0 = v at *
        go_wp2_with (go_at_call 39; refine (isIndex_any _ _ _).mono ?_; rintro e w' ⟨rfl, rfl⟩; rw [HI.out])
        go_ret
        exact ⟨by rw [E.out]; rfl, rfl⟩
      | true =>
        obtain ⟨q, hq, hqP⟩ : ∃ q : Nat, O.getD k 0 = q ∧ q < P := by
          simp only [okIndex, Bool.and_eq_true, decide_eq_true_eq] at hi
          exact ⟨(O.getD k 0).toNat, by omega, by omega⟩
        have HI := Lib.hid hi
        have HV : Hid (okAt P O k = !(seenTo O k).testBit q) := Lib.hid (by
          unfold okIndex at hi
          unfold okAt
          rw [← Bool.and_assoc, hi, hq]
          rfl)
        have HNX : Hid (seenTo O (k + 1) = seenTo O k ||| 2 ^ q) := Lib.hid (by
          show seenTo O k ||| 2 ^ (O.getD k 0).toNat = _
          rw [hq]; rfl)
        clear hi
        rw [hq] at hsrc HI
        clear hq
        cases ht : (seenTo O k).testBit q with
        | true =>
          have E : Hid (okDiff P O = false) := Lib.hid (HB.out (by rw [HV.out, ht]; rfl))
          have HT := Lib.hid ht
          clear ht HB HV
          go_wp2_with (first
            | (go_at_call 39; refine (isIndex_any _ _ _).mono ?_; rintro e w' ⟨rfl, rfl⟩; rw [HI.out])
            | (go_at_call 40; refine (isIn8_any _ _ (by omega) (by omega) _).mono ?_; rintro e w' ⟨rfl, rfl⟩; rw [HT.out]))
          go_ret
          exact ⟨by rw [E.out]; rfl, rfl⟩
        | false =>
          have H' : Hid (∀ j, j < k + 1 → okAt P O j = true) := Lib.hid fun j hj => by
            by_cases e : j = k
            · rw [e, HV.out, ht]; rfl
            · exact H.out j (by omega)
          have HT := Lib.hid ht
          have h32 := pow_le128 (show q < 8 by omega)
          have e1 := bits_or8 (show seenTo O k < 256 by omega) (show 2 ^ q < 256 by omega)
          rw [← HNX.out] at e1
          have HS := Lib.hid (setOf8_any q (by omega))
          clear ht HB HV HNX
          generalize (2 : Nat) ^ q = z at *
          go_wp2_with (first
            | (go_at_call 39; refine (isIndex_any _ _ _).mono ?_; rintro e w' ⟨rfl, rfl⟩; rw [HI.out])
            | (go_at_call 40; refine (isIn8_any _ _ (by omega) (by omega) _).mono ?_; rintro e w' ⟨rfl, rfl⟩; rw [HT.out])
            | (go_at_call 41; refine (HS.out _).mono ?_; rintro e w' ⟨rfl, rfl⟩))
          go_round
          case rel => exact ⟨k + 1, by omega, by go_num, rfl, H'⟩
          case measure => simp [intOf]; omega
    · obtain rfl : k = len := by omega
      have HE := Lib.hid (okDiff_all (by rw [hz]; exact H.out))
      go_wp2_with fail
      go_ret
      exact ⟨by rw [HE.out]; rfl, rfl⟩

theorem areDifferent_none (a : Option Addr) (cap P : Nat) (w : World) :
    Calls Try.prog 26 #[.slice a 0 cap, .int .i64 (P : Nat)] w fun e w' => e = .returned (.bool true) ∧ w = w' := by
  go_enter Try.func26, Try.ntmps26
  go_wp2
  go_loop [10] (fun i => i = .int .i64 0) (fun _ => 0)
  case atStart => exact rfl
  case round =>
    obtain rfl := hrel
    go_wp2
    go_ret
    exact ⟨rfl, rfl⟩

theorem areDifferent_any (a : Option Addr) (len cap P : Nat) (O : List Int) (w : World) (hP : P ≤ 8) (h : IAt w a len O) :
    Calls Try.prog 26 #[.slice a len cap, .int .i64 (P : Nat)] w fun e w' => e = .returned (.bool (okDiff P O)) ∧ w = w' := by
  obtain ⟨h1, h2, h3, rfl | ⟨b, off, rfl, hb, hc⟩⟩ := h
  · obtain rfl := List.eq_nil_of_length_eq_zero h1
    exact areDifferent_none a cap P w
  · exact areDifferent_at b off len cap P O w hP h2 h1 hc
end Go.Proofs.Ytklnflmdbgdgjaa
