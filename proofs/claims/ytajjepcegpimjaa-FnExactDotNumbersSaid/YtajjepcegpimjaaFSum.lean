/-
  Sums and products of slices of float32, and the two slices compared: for every words.
-/
import Derived.Test.YtajjepcegpimjaaFRow
import Derived.Test.YtajjepcegpimjaaAnyV
import Derived.Deep.QuietTactic
import Derived.BigQuiet
namespace Go.Proofs.Ytajjepcegpimjaa
open Go.RowKit Go.ChangeShapes Go.WideShapes Fl

/-- the same word, or both no number -/
def EqN (x y : Nat) : Prop := x = y ∨ (¬ Num .f32 x ∧ ¬ Num .f32 y)
def fop (op : BinOp) (x y : Nat) : Nat := (floatBits op .f32 x y).getD 2143289344
theorem fop_none : ¬ Num .f32 2143289344 := by rw [num32]; decide

theorem op_step {P : Program} (op : BinOp) (hop : op = .add ∨ op = .mul) (t : TypeId) {s r x y : Nat} (h : EqN s r) (h' : EqN x y) (w : World) :
    ∃ s' n, (binOp op t (.float .f32 s) (.float .f32 x)).run P w = .ok (.float .f32 s') (w.drewN n) ∧ EqN s' (fop op r y) := by
  have none_of : floatBits op .f32 s x = none → floatBits op .f32 r y = none → ∃ s' n, (binOp op t (.float .f32 s) (.float .f32 x)).run P w = .ok (.float .f32 s') (w.drewN n) ∧ EqN s' (fop op r y) := fun e1 e2 =>
    ⟨_, 1, run_arith_nan w op (by rcases hop with rfl | rfl <;> simp) t .f32 s x e1, .inr ⟨nanAt_bits32 _ _ _, by unfold fop; rw [e2]; exact fop_none⟩⟩
  rcases h with rfl | ⟨h1, h2⟩
  · rcases h' with rfl | ⟨h1', h2'⟩
    · cases e : floatBits op .f32 s x with
      | none => exact none_of e e
      | some v => exact ⟨v, 0, run_float_arith w op t .f32 s x v e, .inl (by unfold fop; rw [e]; rfl)⟩
    · exact none_of (nan_arith op .f32 (.inr h1')) (nan_arith op .f32 (.inr h2'))
  · exact none_of (nan_arith op .f32 (.inl h1)) (nan_arith op .f32 (.inl h2))

/-- a number, as it was reckoned up to the drawn words -/
def Summed (w : World) (mk : Nat → Value) (r : Nat) (e : Ending) (w' : World) : Prop := ∃ s n, e = .returned (mk s) ∧ EqN s r ∧ w' = w.drewN n

def fsum (zs : List Nat) : Nat := zs.foldl (fop .add) 0
theorem fsum_take (zs : List Nat) (k : Nat) (h : k < zs.length) : fsum (zs.take (k + 1)) = fop .add (fsum (zs.take k)) (zs.getD k 0) := by
  unfold fsum
  rw [List.take_succ_eq_append_getElem h, List.foldl_append]
  simp [List.getD, h]

theorem specSum_at (b off len cap : Nat) (zs : List Nat) (w : World) (hl : len ≤ 1048576) (hz : zs.length = len)
    (hc : ∀ i, i < len → w.cell? ⟨b, off + i, none⟩ = some (.float .f32 (zs.getD i 0))) :
    Calls Try.prog 49 #[.slice (some ⟨b, off, none⟩) len cap] w (Summed w (.float .f32) (fsum zs)) := by
  have HC := Lib.hid hc
  clear hc
  go_enter Try.func49, Try.ntmps49
  go_wp2
  go_loopw [3, 4] (fun s i wr => ∃ (k s0 m : Nat), k ≤ len ∧ s = .float .f32 s0 ∧ i = .int .i64 k ∧ EqN s0 (fsum (zs.take k)) ∧ wr = w.drewN m)
    (fun _ i _ => len - (intOf i).toNat)
  case atStart => exact ⟨0, 0, 0, Nat.zero_le _, rfl, rfl, .inl rfl, rfl⟩
  case round =>
    obtain ⟨k, s0, m, hk, rfl, rfl, hs, rfl⟩ := hrel
    by_cases hlt : k < len
    · have hsrc : (w.drewN m).cell? ⟨b, off + k, none⟩ = some (.float .f32 (zs.getD k 0)) := HC.out k hlt
      obtain ⟨s', n, hrun, hs'⟩ := op_step (P := Try.prog) .add (.inl rfl) 28 hs (.inl rfl : EqN (zs.getD k 0) (zs.getD k 0)) (w.drewN m)
      rw [← fsum_take zs k (by omega)] at hs'
      have HS := Lib.hid hs'
      clear hs hs'
      generalize zs.getD k 0 = v at *
      go_wp2
      go_roundw
      case rel => exact ⟨k + 1, s', m + n, by omega, rfl, by go_num, HS.out, rfl⟩
      case measure => simp [intOf]; omega
    · obtain rfl : k = len := by omega
      have HS := Lib.hid hs
      clear hs
      go_wp2
      go_ret
      exact ⟨s0, m, rfl, by have := HS.out; rwa [List.take_of_length_le (by omega)] at this, rfl⟩

theorem specSum_none (a : Option Addr) (cap : Nat) (w : World) :
    Calls Try.prog 49 #[.slice a 0 cap] w (Summed w (.float .f32) (fsum [])) := by
  go_enter Try.func49, Try.ntmps49
  go_wp2
  go_loop [3, 4] (fun s i => s = .float .f32 0 ∧ i = .int .i64 0) (fun _ _ => 0)
  case atStart => exact ⟨rfl, rfl⟩
  case round =>
    obtain ⟨rfl, rfl⟩ := hrel
    go_wp2
    go_ret
    exact ⟨0, 0, rfl, .inl rfl, rfl⟩

theorem specSum_any (a : Option Addr) (len cap : Nat) (zs : List Nat) (w : World) (hl : len ≤ 1048576) (h : FAt w a len zs) :
    Calls Try.prog 49 #[.slice a len cap] w (Summed w (.float .f32) (fsum zs)) := by
  obtain ⟨_, h2, h3, rfl | ⟨b, off, rfl, hb, hc⟩⟩ := h
  · obtain rfl := List.length_eq_zero_iff.1 h2
    exact specSum_none a cap w
  · exact specSum_at b off len cap zs w hl h2 hc

theorem implSum_at (b off len cap : Nat) (zs : List Nat) (w : World) (hl : len ≤ 256) (hz : zs.length = len)
    (hc : ∀ i, i < len → w.cell? ⟨b, off + i, none⟩ = some (.float .f32 (zs.getD i 0))) :
    Calls Try.prog 23 #[.slice (some ⟨b, off, none⟩) len cap] w (Summed w (fun s => .tuple #[.float .f32 s, .bool true]) (fsum zs)) := by
  have HC := Lib.hid hc
  clear hc
  go_enter Try.func23, Try.ntmps23
  go_wp2
  go_loopw [4, 12] (fun s i wr => ∃ (k s0 m : Nat), k ≤ len ∧ s = .float .f32 s0 ∧ i = .int .i64 k ∧ EqN s0 (fsum (zs.take k)) ∧ wr = w.drewN m)
    (fun _ i _ => len - (intOf i).toNat)
  case atStart => exact ⟨0, 0, 0, Nat.zero_le _, rfl, rfl, .inl rfl, rfl⟩
  case round =>
    obtain ⟨k, s0, m, hk, rfl, rfl, hs, rfl⟩ := hrel
    by_cases hlt : k < len
    · have hsrc : (w.drewN m).cell? ⟨b, off + k, none⟩ = some (.float .f32 (zs.getD k 0)) := HC.out k hlt
      obtain ⟨s', n, hrun, hs'⟩ := op_step (P := Try.prog) .add (.inl rfl) 28 hs (.inl rfl : EqN (zs.getD k 0) (zs.getD k 0)) (w.drewN m)
      rw [← fsum_take zs k (by omega)] at hs'
      have HS := Lib.hid hs'
      clear hs hs'
      generalize zs.getD k 0 = v at *
      go_wp2
      go_roundw
      case rel => exact ⟨k + 1, s', m + n, by omega, rfl, by go_num, HS.out, rfl⟩
      case measure => simp [intOf]; omega
    · obtain rfl : k = len := by omega
      have HS := Lib.hid hs
      clear hs
      go_wp2
      go_ret2
      exact ⟨s0, m, rfl, by have := HS.out; rwa [List.take_of_length_le (by omega)] at this, rfl⟩

theorem implSum_none (a : Option Addr) (cap : Nat) (w : World) :
    Calls Try.prog 23 #[.slice a 0 cap] w (Summed w (fun s => .tuple #[.float .f32 s, .bool true]) (fsum [])) := by
  go_enter Try.func23, Try.ntmps23
  go_wp2
  go_loop [4, 12] (fun s i => s = .float .f32 0 ∧ i = .int .i64 0) (fun _ _ => 0)
  case atStart => exact ⟨rfl, rfl⟩
  case round =>
    obtain ⟨rfl, rfl⟩ := hrel
    go_wp2
    go_ret2
    exact ⟨0, 0, rfl, .inl rfl, rfl⟩

theorem implSum_any (a : Option Addr) (len cap : Nat) (zs : List Nat) (w : World) (hl : len ≤ 256) (h : FAt w a len zs) :
    Calls Try.prog 23 #[.slice a len cap] w (Summed w (fun s => .tuple #[.float .f32 s, .bool true]) (fsum zs)) := by
  obtain ⟨_, h2, h3, rfl | ⟨b, off, rfl, hb, hc⟩⟩ := h
  · obtain rfl := List.length_eq_zero_iff.1 h2
    exact implSum_none a cap w
  · exact implSum_at b off len cap zs w hl h2 hc

theorem implSum_long (a : Option Addr) (len cap : Nat) (w : World) (hl : len ≤ 1048576) (h : 256 < len) :
    Calls Try.prog 23 #[.slice a len cap] w fun e w' => e = .returned (.tuple #[.float .f32 0, .bool false]) ∧ w = w' := by
  go_enter Try.func23, Try.ntmps23
  go_wp2
  go_ret2
  exact ⟨rfl, rfl⟩
theorem specSum_long (a : Option Addr) (len cap : Nat) (w : World) (hl : len ≤ 1048576) (h : 256 < len) :
    Calls Try.prog 21 #[.slice a len cap] w fun e w' => e = .returned (.tuple #[.float .f32 0, .bool false]) ∧ w = w' := by
  have ht : decide ((len : Int) ≤ 256) = false := decide_eq_false (by omega)
  go_enter Try.func21, Try.ntmps21
  go_wp2_with go_in
  go_ret2
  exact ⟨rfl, rfl⟩
theorem specSum_short (a : Option Addr) (len cap : Nat) (zs : List Nat) (w : World) (hl : len ≤ 256) (h : FAt w a len zs) :
    Calls Try.prog 21 #[.slice a len cap] w (Summed w (fun s => .tuple #[.float .f32 s, .bool true]) (fsum zs)) := by
  have HF := Lib.hid h
  clear h
  have ht : decide ((len : Int) ≤ 256) = true := decide_eq_true (by omega)
  go_enter Try.func21, Try.ntmps21
  go_wp2_with (first | (go_at_call 49; refine (specSum_any _ _ _ zs _ (by omega) HF.out).mono ?_; rintro e w' ⟨s0, m, rfl, hs, rfl⟩; have HS := Lib.hid hs; clear hs) | go_in)
  go_ret2
  exact ⟨s0, m, rfl, HS.out, rfl⟩

theorem same_quiet (x : Nat) (hn : Num .f32 x) (w : World) :
    Calls Try.prog 18 #[.float .f64 (up x), .float .f64 (up x)] w fun e w' => e = .returned (.bool true) ∧ w' = w :=
  (sameFloat_num _ (up_lt _) (up_num hn) _).mono fun _ _ ⟨he, hw⟩ => ⟨he, hw.symm⟩
theorem nan_quiet (a b : Nat) (w1 w2 w : World) :
    Calls Try.prog 18 #[.float .f64 (nanAt (.nanConv .f64 a) w1), .float .f64 (nanAt (.nanConv .f64 b) w2)] w fun e w' => e = .returned (.bool true) ∧ w' = w :=
  (sameFloat_nan _ _ (nanAt_conv64 _ _) (nanAt_conv64 _ _) _).mono fun _ _ ⟨he, hw⟩ => ⟨he, hw.symm⟩

/-- 'true'; what was drawn is open -/
def Yes (w : World) (e : Ending) (w' : World) : Prop := e = .returned (.bool true) ∧ ∃ n, w' = w.drewN n

theorem nanC : ¬ Num .f64 9221120237041090561 := by rw [num64]; decide
attribute [local go_sem] GivesU

set_option maxHeartbeats 1000000 in
theorem eq_at (b off b' off' len cap cap' : Nat) (zs : List Nat) (w : World) (hl : len ≤ 1048576)
    (hc : ∀ i, i < len → w.cell? ⟨b, off + i, none⟩ = some (.float .f32 (zs.getD i 0))) (hc' : ∀ i, i < len → w.cell? ⟨b', off' + i, none⟩ = some (.float .f32 (zs.getD i 0))) :
    Calls Try.prog 24 #[.slice (some ⟨b, off, none⟩) len cap, .slice (some ⟨b', off', none⟩) len cap'] w (Yes w) := by
  have HC := Lib.hid hc
  have HC' := Lib.hid hc'
  clear hc hc'
  go_enter Try.func24, Try.ntmps24
  go_wp2
  go_loopw [5] (fun i wr => ∃ (k m : Nat), k ≤ len ∧ i = .int .i64 k ∧ wr = w.drewN m) (fun i _ => len - (intOf i).toNat)
  case atStart => exact ⟨0, 0, Nat.zero_le _, rfl, rfl⟩
  case round =>
    obtain ⟨k, m, hk, rfl, hw⟩ := hrel
    have HW := Lib.hid hw
    clear hw
    by_cases hlt : k < len
    · have hsrc : wr.cell? ⟨b, off + k, none⟩ = some (.float .f32 (zs.getD k 0)) := by rw [HW.out]; exact HC.out k hlt
      have hsrc' : wr.cell? ⟨b', off' + k, none⟩ = some (.float .f32 (zs.getD k 0)) := by rw [HW.out]; exact HC'.out k hlt
      generalize zs.getD k 0 = v at *
      by_cases hn : Num .f32 v
      · have c1 : ∀ w, (convert 28 22 (.float .f32 v)).run Try.prog w = .ok (.float .f64 (up v)) w := fun w => run_up w _ _ hn (by kernel_rfl) Try.underlying22
        have HN := Lib.hid hn
        clear hn
        go_wp2
        go_quiet ((go_at_call 18; exact Calls.quiet_of_same (same_quiet v HN.out _)))
        all_goals go_wp2
        all_goals go_roundw
        all_goals first | (case rel => exact ⟨k + 1, _, by omega, by go_num, by rw [HW.out]; exact World.drewN_drewN _ _ _⟩) | (case measure => simp [intOf]; omega)
      · have c1 : ∀ w, (convert 28 22 (.float .f32 v)).run Try.prog w = .ok (.float .f64 (nanAt (.nanConv .f64 v) w)) w.drew := fun w => run_up_nan w _ _ hn (by kernel_rfl) Try.underlying22
        clear hn
        go_wp2
        refine region_img (by kernel_rfl) (by kernel_rfl) ?_
        refine LexU.det (.slice (some ⟨b, off, none⟩) len cap) (fun _ _ => ⟨by go_simp, fun n => ?_⟩) ?_
        · go_simp; exact ⟨n, rfl⟩
        refine LexU.det (.int .i64 k) (fun _ _ => ⟨by go_simp, fun n => ?_⟩) ?_
        · go_simp; exact ⟨n, rfl⟩
        refine LexU.det (.pointer (some ⟨b, off + k, none⟩)) (fun _ _ => ⟨by go_simp, fun n => ?_⟩) ?_
        · go_simp; exact ⟨n, rfl⟩
        refine LexU.det (.float .f32 v) (fun _ _ => ⟨by go_simp, fun n => ?_⟩) ?_
        · go_simp; exact ⟨n, rfl⟩
        refine LexU.draw (fun x => ¬ Num .f64 x) (.float .f64) ⟨_, nanC⟩ (fun _ _ => ⟨by go_simp, fun n => ?_⟩) ?_
        · go_simp; exact ⟨nanAt_conv64 _ _, n + 1, rfl⟩
        refine LexU.det (.slice (some ⟨b', off', none⟩) len cap') (fun _ _ => ⟨by go_simp, fun n => ?_⟩) ?_
        · go_simp; exact ⟨n, rfl⟩
        refine LexU.det (.int .i64 k) (fun _ _ => ⟨by go_simp, fun n => ?_⟩) ?_
        · go_simp; exact ⟨n, rfl⟩
        refine LexU.det (.pointer (some ⟨b', off' + k, none⟩)) (fun _ _ => ⟨by go_simp, fun n => ?_⟩) ?_
        · go_simp; exact ⟨n, rfl⟩
        refine LexU.det (.float .f32 v) (fun _ _ => ⟨by go_simp, fun n => ?_⟩) ?_
        · go_simp; exact ⟨n, rfl⟩
        refine LexU.draw (fun x => ¬ Num .f64 x) (.float .f64) ⟨_, nanC⟩ (fun _ _ => ⟨by go_simp, fun n => ?_⟩) ?_
        · go_simp; exact ⟨nanAt_conv64 _ _, n + 1, rfl⟩
        refine LexU.det (.bool true) (fun p hp => ⟨by go_simp, fun n => ?_⟩) ?_
        · go_simp
          refine (sameFloat_nan _ _ hp.1.2 hp.2 _).mono ?_
          rintro e w' ⟨rfl, rfl⟩
          exact ⟨rfl, n, rfl⟩
        refine LexU.det (.bool false) (fun _ _ => ⟨by go_simp, fun n => ?_⟩) ?_
        · go_simp; exact ⟨n, rfl⟩
        refine LexU.done fun p _ nq => ?_
        go_simp
        go_wp2
        go_roundw
        case rel => exact ⟨k + 1, _, by omega, by go_num, by rw [HW.out]; exact World.drewN_drewN _ _ _⟩
        case measure => simp [intOf]; omega
    · obtain rfl : k = len := by omega
      go_wp2
      go_ret
      exact ⟨rfl, m, HW.out⟩
end Go.Proofs.Ytajjepcegpimjaa
