/-
  Names and check numbers: what the program's and the model's functions answer, for every string of at most 2^20 bytes.
-/
import Derived.Test.YtbopdefpfnancaaRows
import Derived.WalkKit
import Derived.WalkLawsBesides
import Derived.Lib.OthersKept
import Derived.Lib.Strings
import Derived.Lib.Hide
import Derived.Outline
import Derived.WalkSpells
namespace Go.Proofs.Ytbopdefpfnancaa
open Go.RowKit

/-- each byte before place k is a letter -/
def Lows (s : ByteArray) (k : Nat) : Prop := ∀ i (h : i < s.size), i < k → 97 ≤ (s[i]'h).toNat ∧ (s[i]'h).toNat ≤ 122
theorem lows_zero (s : ByteArray) : Lows s 0 := fun i _ h => absurd h (by omega)
theorem lows_succ {s : ByteArray} {k : Nat} (h : Lows s k) (hk : k < s.size) (h1 : 97 ≤ (s[k]'hk).toNat) (h2 : (s[k]'hk).toNat ≤ 122) : Lows s (k + 1) := by
  intro i hi hik
  by_cases e : i = k
  · subst e; exact ⟨h1, h2⟩
  · exact h i hi (by omega)
theorem not_lows {s : ByteArray} {k : Nat} (hk : k < s.size) (h : (s[k]'hk).toNat < 97 ∨ 122 < (s[k]'hk).toNat) : ¬ Lows s s.size := by
  intro hl
  have := hl k hk hk
  omega

theorem ret_bool {a b : Bool} (h : a = b) : Ending.returned (.bool a) = Ending.returned (.bool b) := by rw [h]

/-- 1 to 8 bytes -/
def few (s : ByteArray) : Bool := decide (1 ≤ s.size ∧ s.size ≤ 8)

theorem specName_yes (s : ByteArray) (hs : s.size ≤ 1048576) (h : Lows s s.size) (w : World) :
    Calls Try.prog 5 #[.string s] w fun e w' => e = .returned (.bool (few s)) ∧ w = w' := by
  have H := Lib.hid h
  clear h
  go_enter Try.func5, Try.ntmps5
  go_wp2
  go_loop [3] (fun i => ∃ k : Nat, k ≤ s.size ∧ i = .int .i64 k) (fun i => s.size - (intOf i).toNat)
  case atStart => exact ⟨0, Nat.zero_le _, rfl⟩
  case round =>
    obtain ⟨k, hk, rfl⟩ := hrel
    by_cases hlt : k < s.size
    · obtain ⟨h1, h2⟩ := H.out k hlt hlt
      go_wp2
      all_goals
        go_round
        case rel => exact ⟨k + 1, by omega, by go_num⟩
        case measure => simp [intOf]; omega
    · go_wp2
      · go_ret
        have h1 : (1 : Int) ≤ s.size := by assumption
        exact ⟨ret_bool (by unfold few; rw [decide_eq_decide]; omega), rfl⟩
      · go_ret
        have h1 : (s.size : Int) < 1 := by assumption
        exact ⟨ret_bool (by unfold few; exact (decide_eq_false (by omega)).symm), rfl⟩

theorem specName_few (s : ByteArray) (hs : s.size ≤ 1048576) (h : Lows s s.size) (b : Bool) (hb : few s = b) (w : World) :
    Calls Try.prog 5 #[.string s] w fun e w' => e = .returned (.bool b) ∧ w = w' := by
  subst hb; exact specName_yes s hs h w

theorem specName_no (s : ByteArray) (hs : s.size ≤ 1048576) (h : ¬ Lows s s.size) (w : World) :
    Calls Try.prog 5 #[.string s] w fun e w' => e = .returned (.bool false) ∧ w = w' := by
  have H := Lib.hid h
  clear h
  go_enter Try.func5, Try.ntmps5
  go_wp2
  go_loop [3] (fun i => ∃ k : Nat, k ≤ s.size ∧ i = .int .i64 k ∧ Lows s k) (fun i => s.size - (intOf i).toNat)
  case atStart => exact ⟨0, Nat.zero_le _, rfl, lows_zero s⟩
  case round =>
    obtain ⟨k, hk, rfl, hlow⟩ := hrel
    have HL := Lib.hid hlow
    clear hlow
    by_cases hlt : k < s.size
    · by_cases h1 : (s[k]'hlt).toNat < 97
      · go_wp2
        go_ret
        exact ⟨rfl, rfl⟩
      · by_cases h2 : 122 < (s[k]'hlt).toNat
        · go_wp2
          go_ret
          exact ⟨rfl, rfl⟩
        · go_wp2
          all_goals
            go_round
            case rel => exact ⟨k + 1, by omega, by go_num, lows_succ HL.out hlt (by omega) (by omega)⟩
            case measure => simp [intOf]; omega
    · exact absurd (by have e : k = s.size := by omega
                       rw [← e]; exact HL.out) H.out

theorem decode_big (s : ByteArray) (i : Nat) (h : 128 ≤ (s.get! i).toNat) : 128 ≤ (Utf8.decode s i).1 := by
  unfold Utf8.decode
  simp only [Nat.add_zero]
  rw [if_neg (by omega)]
  simp only [Utf8.runeError]
  repeat' split
  all_goals first | omega | (simp only [ge_iff_le, Bool.and_eq_true, decide_eq_true_eq] at *; omega)

theorem get_bang (s : ByteArray) (i : Nat) (h : i < s.size) : s.get! i = s[i]'h := by
  show s.data[i]! = s.data[i]'h
  exact getElem!_pos s.data i h

theorem implName_few (s : ByteArray) (h : few s = false) (hs : s.size ≤ 1048576) (w : World) :
    Calls Try.prog 6 #[.string s] w fun e w' => e = .returned (.bool false) ∧ Below w.heap.size w w' := by
  have h' : s.size < 1 ∨ 8 < s.size := by unfold few at h; simp only [decide_eq_false_iff_not] at h; omega
  clear h
  rcases h' with h | h
  · go_enter Try.func6, Try.ntmps6
    go_wp2
    go_ret
    exact ⟨rfl, Below.refl _ _⟩
  · have h1 : ¬ s.size < 1 := by omega
    go_enter Try.func6, Try.ntmps6
    go_wp2
    go_ret
    exact ⟨rfl, Below.refl _ _⟩

/-- all letters, or not: 'true' at the end of the loop, 'false' at the first that is none -/
theorem implName_loop (s : ByteArray) (h : few s = true) (b : Bool) (hb : b = true ↔ Lows s s.size) (w : World) :
    Calls Try.prog 6 #[.string s] w fun e w' => e = .returned (.bool b) ∧ Below w.heap.size w w' := by
  have h1 : ¬ s.size < 1 := by unfold few at h; simp only [decide_eq_true_eq] at h; omega
  have h8 : ¬ 8 < s.size := by unfold few at h; simp only [decide_eq_true_eq] at h; omega
  have HB := Lib.hid hb
  have hk0 : (w.iter s 0).heap[w.heap.size]? = some (.stringIter s 0) := World.iter_heap w s 0
  have hb0 : Below w.heap.size w (w.iter s 0) := (Below.refl _ w).alloc (Nat.le_refl _) _
  clear h hb
  go_enter Try.func6, Try.ntmps6
  go_wp2
  go_loopw [4] (fun _ wr => ∃ pos : Nat, pos ≤ s.size ∧ wr.heap[w.heap.size]? = some (.stringIter s pos) ∧ Lows s pos ∧ Below w.heap.size w wr)
    (fun _ wr => s.size - wr.iterPos w.heap.size)
  case atStart => exact ⟨0, Nat.zero_le _, hk0, lows_zero s, hb0⟩
  case round =>
    obtain ⟨pos, hps, hk, hlow, hnx⟩ := hrel
    have HL := Lib.hid hlow
    clear hk0 hb0 hlow
    by_cases hp : pos < s.size
    · have hmu : wr.iterPos w.heap.size = pos := by simp [World.iterPos, hk]
      by_cases h128 : (s[pos]'hp).toNat < 128
      · have hnext : ∀ ty, (Instr.next (.pointer (some ⟨w.heap.size, 0, none⟩)) true ty).run Try.prog wr = _ := fun ty => Lib.run_next_ascii_at wr w.heap.size s pos ty hk hp h128
        have hk1 := Lib.iterAt_heap wr w.heap.size s pos (pos + 1) hk
        have hnx1 : Below w.heap.size w (wr.iterAt w.heap.size s (pos + 1)) := Lib.below_iterAt hnx (by omega) s (pos + 1)
        generalize wr.iterAt w.heap.size s (pos + 1) = W1 at hnext hk1 hnx1
        by_cases c1 : (s[pos]'hp).toNat < 97
        · have e : b = false := by
            cases hbb : b
            · rfl
            · exact absurd (HB.out.1 hbb) (not_lows hp (.inl c1))
          go_wp2
          go_ret
          first | exact ⟨ret_bool e.symm, hnx1⟩ | exact ⟨rfl, hnx1⟩
        · by_cases c2 : 122 < (s[pos]'hp).toNat
          · have e : b = false := by
              cases hbb : b
              · rfl
              · exact absurd (HB.out.1 hbb) (not_lows hp (.inr c2))
            go_wp2
            go_ret
            first | exact ⟨ret_bool e.symm, hnx1⟩ | exact ⟨rfl, hnx1⟩
          · have hmu2 : W1.iterPos w.heap.size = pos + 1 := by simp [World.iterPos, hk1]
            go_wp2
            go_roundw
            case rel => exact ⟨pos + 1, by omega, hk1, lows_succ HL.out hp (by omega) (by omega), hnx1⟩
            case measure => rw [hmu, hmu2]; omega
      · have hnext : ∀ ty, (Instr.next (.pointer (some ⟨w.heap.size, 0, none⟩)) true ty).run Try.prog wr = _ := fun ty => Lib.run_next_any_at wr w.heap.size s pos ty hk hp
        have hnx1 : Below w.heap.size w (wr.iterAt w.heap.size s (pos + (Utf8.decode s pos).2)) := Lib.below_iterAt hnx (by omega) s _
        have hr := decode_big s pos (by rw [get_bang s pos hp]; omega)
        generalize wr.iterAt w.heap.size s (pos + (Utf8.decode s pos).2) = W1 at hnext hnx1
        generalize (Utf8.decode s pos).1 = r at hnext hr
        have e : b = false := by
          cases hbb : b
          · rfl
          · exact absurd (HB.out.1 hbb) (not_lows hp (.inr (by omega)))
        go_wp2
        go_ret
        first | exact ⟨ret_bool e.symm, hnx1⟩ | exact ⟨rfl, hnx1⟩
    · have hnext : ∀ ty, (Instr.next (.pointer (some ⟨w.heap.size, 0, none⟩)) true ty).run Try.prog wr = _ := fun ty => Lib.run_next_end_at wr w.heap.size s pos ty hk hp
      have e : b = true := HB.out.2 (by have e : pos = s.size := by omega
                                        rw [← e]; exact HL.out)
      go_wp2
      go_ret
      first | exact ⟨ret_bool e.symm, hnx⟩ | exact ⟨rfl, hnx⟩

theorem walk_fnExactIsName (a0 : ByteArray) (w : World) (w0 : a0.size ≤ maxLen) :
    Calls Try.prog 3 #[.string a0] w fun e w' => e = .returned (.bool true) ∧ Below w.heap.size w w' := by
  unfold maxLen at w0
  by_cases hb : 1048576 < a0.size
  · go_enter Try.func3, Try.ntmps3
    go_wp2
    go_ret
    exact ⟨rfl, Below.refl _ _⟩
  · have hs : a0.size ≤ 1048576 := by omega
    clear hb
    by_cases hl : Lows a0 a0.size
    · by_cases hf : few a0 = true
      · have HL := Lib.hid hl
        have HF := Lib.hid hf
        clear hl hf
        go_enter Try.func3, Try.ntmps3
        go_wp2_with (first | (go_at_call 5; refine (specName_few _ hs HL.out _ HF.out _).mono ?_; rintro e w' ⟨rfl, rfl⟩) | (go_at_call 6; refine (implName_loop _ HF.out true ⟨fun _ => HL.out, fun _ => rfl⟩ _).mono ?_; rintro e w' ⟨rfl, hnx⟩))
        go_ret
        exact ⟨rfl, by assumption⟩
      · have HF : Hid (few a0 = false) := Lib.hid (by simpa using hf)
        have HL := Lib.hid hl
        clear hl hf
        go_enter Try.func3, Try.ntmps3
        go_wp2_with (first | (go_at_call 5; refine (specName_few _ hs HL.out _ HF.out _).mono ?_; rintro e w' ⟨rfl, rfl⟩) | (go_at_call 6; refine (implName_few _ HF.out hs _).mono ?_; rintro e w' ⟨rfl, hnx⟩))
        go_ret
        exact ⟨rfl, by assumption⟩
    · by_cases hf : few a0 = true
      · have HL := Lib.hid hl
        have HF := Lib.hid hf
        clear hl hf
        go_enter Try.func3, Try.ntmps3
        go_wp2_with (first | (go_at_call 5; refine (specName_no _ hs HL.out _).mono ?_; rintro e w' ⟨rfl, rfl⟩) | (go_at_call 6; refine (implName_loop _ HF.out false ⟨(fun h => by cases h), fun h => absurd h HL.out⟩ _).mono ?_; rintro e w' ⟨rfl, hnx⟩))
        go_ret
        exact ⟨rfl, by assumption⟩
      · have HF : Hid (few a0 = false) := Lib.hid (by simpa using hf)
        have HL := Lib.hid hl
        clear hl hf
        go_enter Try.func3, Try.ntmps3
        go_wp2_with (first | (go_at_call 5; refine (specName_no _ hs HL.out _).mono ?_; rintro e w' ⟨rfl, rfl⟩) | (go_at_call 6; refine (implName_few _ HF.out hs _).mono ?_; rintro e w' ⟨rfl, hnx⟩))
        go_ret
        exact ⟨rfl, by assumption⟩

/-! ### check numbers -/
/-- one byte more -/
def chk1 (n : Nat) (c : UInt8) : Nat := (937 * n + c.toNat + 197) % 65003
def chk (n : Nat) (l : List UInt8) : Nat := l.foldl chk1 n
theorem chk1_lt (n : Nat) (c : UInt8) : chk1 n c < 65003 := Nat.mod_lt _ (by decide)
theorem chk_lt {n : Nat} (hn : n < 65003) (l : List UInt8) : chk n l < 65003 := by
  unfold chk
  induction l generalizing n with
  | nil => exact hn
  | cons c l ih => exact ih (chk1_lt n c)
theorem chk_snoc (n : Nat) (l : List UInt8) (c : UInt8) : chk n (l ++ [c]) = chk1 (chk n l) c := by
  unfold chk; rw [List.foldl_append]; rfl
theorem take_snoc (s : ByteArray) (k : Nat) (h : k < s.size) : s.data.toList.take (k + 1) = s.data.toList.take k ++ [s[k]'h] := by
  rw [List.take_succ_eq_append_getElem (by simpa using h)]; rfl
theorem chk_take (n : Nat) (s : ByteArray) (k : Nat) (h : k < s.size) : chk n (s.data.toList.take (k + 1)) = (937 * chk n (s.data.toList.take k) + (s[k]'h).toNat + 197) % 65003 := by
  rw [take_snoc s k h, chk_snoc]; rfl

theorem specChk (n : Nat) (hn : n < 65003) (s : ByteArray) (hs : s.size ≤ 1048576) (w : World) :
    Calls Try.prog 10 #[.int .i64 n, .string s] w fun e w' => e = .returned (.int .i64 (chk n s.data.toList)) ∧ w = w' := by
  go_enter Try.func10, Try.ntmps10
  go_wp2
  go_loop [0, 5] (fun m i => ∃ k : Nat, k ≤ s.size ∧ i = .int .i64 k ∧ m = .int .i64 (chk n (s.data.toList.take k))) (fun _ i => s.size - (intOf i).toNat)
  case atStart => exact ⟨0, Nat.zero_le _, rfl, rfl⟩
  case round =>
    obtain ⟨k, hk, rfl, rfl⟩ := hrel
    by_cases hlt : k < s.size
    · have hc := chk_lt hn (s.data.toList.take k)
      have HS := Lib.hid (chk_take n s k hlt)
      have h255 : (s[k]'hlt).toNat < 256 := UInt8.toNat_lt _
      generalize chk n (s.data.toList.take k) = m at *
      go_wp2
      go_round
      case rel => exact ⟨k + 1, by omega, by go_num, by rw [HS.out]; go_num⟩
      case measure => simp [intOf]; omega
    · have HT := Lib.hid (show s.data.toList.take k = s.data.toList from List.take_of_length_le (by simp; omega))
      go_wp2
      go_ret
      exact ⟨by rw [HT.out]; rfl, rfl⟩

set_option maxRecDepth 100000 in
theorem implChk (n : Nat) (hn : n < 65003) (s : ByteArray) (hs : s.size ≤ 1048576) (w : World) :
    Calls Try.prog 8 #[.int .i64 n, .string s] w fun e w' => e = .returned (.tuple #[.int .i64 (chk n s.data.toList), .bool true]) ∧ w = w' := by
  go_enter Try.func8, Try.ntmps8
  go_wp2
  go_loop [6, 7, 17] (fun m _ i => ∃ k : Nat, k ≤ s.size ∧ i = .int .i64 k ∧ m = .int .i64 (chk n (s.data.toList.take k))) (fun _ _ i => s.size - (intOf i).toNat)
  case atStart => exact ⟨0, Nat.zero_le _, rfl, rfl⟩
  case round =>
    obtain ⟨k, hk, rfl, rfl⟩ := hrel
    by_cases hlt : k < s.size
    · have hc := chk_lt hn (s.data.toList.take k)
      have HS := Lib.hid (chk_take n s k hlt)
      have h255 : (s[k]'hlt).toNat < 256 := UInt8.toNat_lt _
      generalize chk n (s.data.toList.take k) = m at *
      go_wp2
      go_round
      case rel => exact ⟨k + 1, by omega, by go_num, by rw [HS.out]; go_num⟩
      case measure => simp [intOf]; omega
    · have HT := Lib.hid (show s.data.toList.take k = s.data.toList from List.take_of_length_le (by simp; omega))
      go_wp2
      go_ret2
      exact ⟨by rw [HT.out]; rfl, rfl⟩

theorem implChk_out (n : Int) (hn : n < 0 ∨ 65003 ≤ n) (s : ByteArray) (w : World) :
    Calls Try.prog 8 #[.int .i64 n, .string s] w fun e w' => e = .returned (.tuple #[.int .i64 0, .bool false]) ∧ w = w' := by
  rcases hn with h | h
  · go_enter Try.func8, Try.ntmps8
    go_wp2
    go_ret2
    exact ⟨rfl, rfl⟩
  · have h0 : ¬ n < 0 := by omega
    have hd : decide (65003 ≤ n) = true := decide_eq_true h
    go_enter Try.func8, Try.ntmps8
    go_wp2
    go_ret2
    exact ⟨rfl, rfl⟩

theorem walk_fnExactCheckOf (a0 : Int) (a1 : ByteArray) (w : World) (w0 : (Lit.int .i64 a0).wf = true) (w1 : a1.size ≤ maxLen) :
    Calls Try.prog 4 #[.int .i64 a0, .string a1] w fun e w' => e = .returned (.bool true) ∧ Below w.heap.size w w' := by
  unfold maxLen at w1
  by_cases hb : 1048576 < a1.size
  · go_enter Try.func4, Try.ntmps4
    go_wp2
    go_ret
    exact ⟨rfl, Below.refl _ _⟩
  · have hs : a1.size ≤ 1048576 := by omega
    clear hb
    by_cases hn : 0 ≤ a0 ∧ a0 < 65003
    · obtain ⟨n, rfl⟩ := Int.eq_ofNat_of_zero_le hn.1
      have hn' : n < 65003 := by omega
      have h1 : decide ((n : Int) ≤ 65002) = true := decide_eq_true (by omega)
      clear hn w0 w1
      go_enter Try.func4, Try.ntmps4
      go_wp2_with (first | (go_at_call 10; refine (specChk _ hn' _ hs _).mono ?_; rintro e w' ⟨rfl, rfl⟩) | (go_at_call 8; refine (implChk _ hn' _ hs _).mono ?_; rintro e w' ⟨rfl, rfl⟩) | go_in)
      go_ret
      exact ⟨rfl, Below.refl _ _⟩
    · have hn' : a0 < 0 ∨ 65003 ≤ a0 := by omega
      have HN := Lib.hid hn'
      rcases hn' with h | h
      · clear hn w0 w1
        go_enter Try.func4, Try.ntmps4
        go_wp2_with (first | (go_at_call 8; refine (implChk_out _ HN.out _ _).mono ?_; rintro e w' ⟨rfl, rfl⟩) | go_in)
        go_ret
        exact ⟨rfl, Below.refl _ _⟩
      · have h1 : decide (a0 ≤ 65002) = false := decide_eq_false (by omega)
        have h2 : 0 ≤ a0 := by omega
        clear hn w0 w1
        go_enter Try.func4, Try.ntmps4
        go_wp2_with (first | (go_at_call 8; refine (implChk_out _ HN.out _ _).mono ?_; rintro e w' ⟨rfl, rfl⟩) | go_in)
        go_ret
        exact ⟨rfl, Below.refl _ _⟩
end Go.Proofs.Ytbopdefpfnancaa
