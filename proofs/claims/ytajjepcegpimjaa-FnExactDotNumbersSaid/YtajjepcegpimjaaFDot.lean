/-
  Sums of products of two slices of float32: the program's and the reference's.
-/
import Derived.Test.YtajjepcegpimjaaFSumW
namespace Go.Proofs.Ytajjepcegpimjaa
open Go.RowKit Go.ChangeShapes Go.WideShapes Fl
attribute [local go_sem] GivesU

/-- an operation's word, drawn where it is no number -/
def opVal (op : BinOp) (x y : Nat) (w : World) : Nat := (floatBits op .f32 x y).getD (nanAt (.nanBits .f32 x y) w)
def opDraws (op : BinOp) (x y : Nat) : Nat := if (floatBits op .f32 x y).isSome then 0 else 1
theorem run_opVal {P : Program} (op : BinOp) (hop : op = .add ∨ op = .mul) (t : TypeId) (x y : Nat) (w : World) :
    (binOp op t (.float .f32 x) (.float .f32 y)).run P w = .ok (.float .f32 (opVal op x y w)) (w.drewN (opDraws op x y)) := by
  unfold opVal opDraws
  cases e : floatBits op .f32 x y with
  | none => exact run_arith_nan w op (by rcases hop with rfl | rfl <;> simp) t .f32 x y e
  | some v => exact run_float_arith w op t .f32 x y v e
theorem opVal_eq (op : BinOp) {s r x y : Nat} (h : EqN s r) (h' : EqN x y) (w : World) : EqN (opVal op s x w) (fop op r y) := by
  have none_of : floatBits op .f32 s x = none → floatBits op .f32 r y = none → EqN (opVal op s x w) (fop op r y) := fun e1 e2 =>
    .inr ⟨by unfold opVal; rw [e1]; exact nanAt_bits32 _ _ _, by unfold fop; rw [e2]; exact fop_none⟩
  rcases h with rfl | ⟨h1, h2⟩
  · rcases h' with rfl | ⟨h1', h2'⟩
    · cases e : floatBits op .f32 s x with
      | none => exact none_of e e
      | some v => exact .inl (by unfold opVal fop; rw [e]; rfl)
    · exact none_of (nan_arith op .f32 (.inr h1')) (nan_arith op .f32 (.inr h2'))
  · exact none_of (nan_arith op .f32 (.inl h1)) (nan_arith op .f32 (.inl h2))

def fdot (zs ys : List Nat) : Nat → Nat
  | 0 => 0
  | k + 1 => fop .add (fdot zs ys k) (fop .mul (zs.getD k 0) (ys.getD k 0))

set_option maxHeartbeats 1000000 in
theorem specDot_at (b off b' off' len cap cap' : Nat) (zs ys : List Nat) (w : World) (hl : len ≤ 1048576)
    (hc : ∀ i, i < len → w.cell? ⟨b, off + i, none⟩ = some (.float .f32 (zs.getD i 0))) (hc' : ∀ i, i < len → w.cell? ⟨b', off' + i, none⟩ = some (.float .f32 (ys.getD i 0))) :
    Calls Try.prog 50 #[.slice (some ⟨b, off, none⟩) len cap, .slice (some ⟨b', off', none⟩) len cap'] w (Summed w (.float .f32) (fdot zs ys len)) := by
  have HC := Lib.hid hc
  have HC' := Lib.hid hc'
  clear hc hc'
  go_enter Try.func50, Try.ntmps50
  go_wp2
  go_loopw [5, 6] (fun s i wr => ∃ (k s0 m : Nat), k ≤ len ∧ s = .float .f32 s0 ∧ i = .int .i64 k ∧ EqN s0 (fdot zs ys k) ∧ wr = w.drewN m)
    (fun _ i _ => len - (intOf i).toNat)
  case atStart => exact ⟨0, 0, 0, Nat.zero_le _, rfl, rfl, .inl rfl, rfl⟩
  case round =>
    obtain ⟨k, s0, m, hk, rfl, rfl, hs, hw⟩ := hrel
    have HW := Lib.hid hw
    have HS := Lib.hid hs
    clear hw hs
    by_cases hlt : k < len
    · have hsrc : wr.cell? ⟨b, off + k, none⟩ = some (.float .f32 (zs.getD k 0)) := by rw [HW.out]; exact HC.out k hlt
      have hsrc' : wr.cell? ⟨b', off' + k, none⟩ = some (.float .f32 (ys.getD k 0)) := by rw [HW.out]; exact HC'.out k hlt
      have HD : Hid (fdot zs ys (k + 1) = fop .add (fdot zs ys k) (fop .mul (zs.getD k 0) (ys.getD k 0))) := Lib.hid rfl
      generalize zs.getD k 0 = v at *
      generalize ys.getD k 0 = u at *
      have RM : ∀ (x y : Nat) (w : World), (binOp .mul 28 (.float .f32 x) (.float .f32 y)).run Try.prog w = .ok (.float .f32 (opVal .mul x y w)) (w.drewN (opDraws .mul x y)) := fun x y w => run_opVal .mul (.inr rfl) _ x y w
      have RA : ∀ (x y : Nat) (w : World), (binOp .add 28 (.float .f32 x) (.float .f32 y)).run Try.prog w = .ok (.float .f32 (opVal .add x y w)) (w.drewN (opDraws .add x y)) := fun x y w => run_opVal .add (.inl rfl) _ x y w
      go_wp2
      refine region_img (by kernel_rfl) (by kernel_rfl) ?_
      refine LexU.det (.float .f32 s0) (fun _ _ => ⟨by go_simp, fun n => ?_⟩) ?_
      · go_simp; exact ⟨n, rfl⟩
      refine LexU.det (.slice (some ⟨b, off, none⟩) len cap) (fun _ _ => ⟨by go_simp, fun n => ?_⟩) ?_
      · go_simp; exact ⟨n, rfl⟩
      refine LexU.det (.int .i64 k) (fun _ _ => ⟨by go_simp, fun n => ?_⟩) ?_
      · go_simp; exact ⟨n, rfl⟩
      refine LexU.det (.pointer (some ⟨b, off + k, none⟩)) (fun _ _ => ⟨by go_simp, fun n => ?_⟩) ?_
      · go_simp; exact ⟨n, rfl⟩
      refine LexU.det (.float .f32 v) (fun _ _ => ⟨by go_simp, fun n => ?_⟩) ?_
      · go_simp; exact ⟨n, rfl⟩
      refine LexU.det (.slice (some ⟨b', off', none⟩) len cap') (fun _ _ => ⟨by go_simp, fun n => ?_⟩) ?_
      · go_simp; exact ⟨n, rfl⟩
      refine LexU.det (.int .i64 k) (fun _ _ => ⟨by go_simp, fun n => ?_⟩) ?_
      · go_simp; exact ⟨n, rfl⟩
      refine LexU.det (.pointer (some ⟨b', off' + k, none⟩)) (fun _ _ => ⟨by go_simp, fun n => ?_⟩) ?_
      · go_simp; exact ⟨n, rfl⟩
      refine LexU.det (.float .f32 u) (fun _ _ => ⟨by go_simp, fun n => ?_⟩) ?_
      · go_simp; exact ⟨n, rfl⟩
      refine LexU.draw (fun x => EqN x (fop .mul v u)) (.float .f32) ⟨_, .inl rfl⟩ (fun _ _ => ⟨by go_simp, fun n => ?_⟩) ?_
      · go_simp
        exact ⟨opVal_eq .mul (.inl rfl) (.inl rfl) _, n + opDraws .mul v u, rfl⟩
      refine LexU.draw (fun x => EqN x (fop .add (fdot zs ys k) (fop .mul v u))) (.float .f32) ⟨_, .inl rfl⟩ (fun p hp => ⟨by go_simp, fun n => ?_⟩) ?_
      · have HP := Lib.hid hp.2
        clear hp
        go_simp
        exact ⟨opVal_eq .add HS.out HP.out _, n + opDraws .add s0 p.2, rfl⟩
      refine LexU.draw (fun x => EqN x (fop .add (fdot zs ys k) (fop .mul v u))) (.float .f32) ⟨_, .inl rfl⟩ (fun p hp => ⟨by go_simp, fun n => ?_⟩) ?_
      · have HP := Lib.hid hp.2
        clear hp
        go_simp
        exact ⟨HP.out, n, rfl⟩
      refine LexU.done fun p hp nq => ?_
      have HP := Lib.hid hp.2
      clear hp
      go_simp
      go_wp2
      go_roundw
      case rel => exact ⟨k + 1, p.2, m + nq, by omega, rfl, by go_num, by rw [HD.out]; exact HP.out, by rw [HW.out]; exact World.drewN_drewN _ _ _⟩
      case measure => simp [intOf]; omega
    · obtain rfl : k = len := by omega
      go_wp2
      go_ret
      exact ⟨s0, m, rfl, HS.out, HW.out⟩

theorem specDot_none (a a' : Option Addr) (cap cap' : Nat) (zs ys : List Nat) (w : World) :
    Calls Try.prog 50 #[.slice a 0 cap, .slice a' 0 cap'] w (Summed w (.float .f32) (fdot zs ys 0)) := by
  go_enter Try.func50, Try.ntmps50
  go_wp2
  go_loop [5, 6] (fun s i => s = .float .f32 0 ∧ i = .int .i64 0) (fun _ _ => 0)
  case atStart => exact ⟨rfl, rfl⟩
  case round =>
    obtain ⟨rfl, rfl⟩ := hrel
    go_wp2
    go_ret
    exact ⟨0, 0, rfl, .inl rfl, rfl⟩

theorem specDot_any (a a' : Option Addr) (len cap cap' : Nat) (zs ys : List Nat) (w : World) (hl : len ≤ 1048576) (h : FAt w a len zs) (h' : FAt w a' len ys) :
    Calls Try.prog 50 #[.slice a len cap, .slice a' len cap'] w (Summed w (.float .f32) (fdot zs ys len)) := by
  obtain ⟨_, _, _, e | ⟨b, off, rfl, _, hc⟩⟩ := h
  · subst e; exact specDot_none a a' cap cap' zs ys w
  · obtain ⟨_, _, _, e | ⟨b', off', rfl, _, hc'⟩⟩ := h'
    · subst e; exact specDot_none _ a' cap cap' zs ys w
    · exact specDot_at b off b' off' len cap cap' zs ys w hl hc hc'

theorem paired_yes (n : Nat) (h : n ≤ 256) (w : World) :
    Calls Try.prog 51 #[.int .i64 n, .int .i64 n] w fun e w' => e = .returned (.bool true) ∧ w = w' := by
  have ht : decide ((n : Int) ≤ 256) = true := decide_eq_true (by omega)
  go_enter Try.func51, Try.ntmps51
  go_wp2
  go_ret
  exact ⟨rfl, rfl⟩

set_option maxHeartbeats 1000000 in
theorem implDot_at (b off b' off' len cap cap' : Nat) (zs ys : List Nat) (w : World) (hl : len ≤ 256)
    (hc : ∀ i, i < len → w.cell? ⟨b, off + i, none⟩ = some (.float .f32 (zs.getD i 0))) (hc' : ∀ i, i < len → w.cell? ⟨b', off' + i, none⟩ = some (.float .f32 (ys.getD i 0))) :
    Calls Try.prog 26 #[.slice (some ⟨b, off, none⟩) len cap, .slice (some ⟨b', off', none⟩) len cap'] w (Summed w (fun s => .tuple #[.float .f32 s, .bool true]) (fdot zs ys len)) := by
  have HC := Lib.hid hc
  have HC' := Lib.hid hc'
  clear hc hc'
  go_enter Try.func26, Try.ntmps26
  go_wp2_with (go_at_call 51; refine (paired_yes _ hl _).mono ?_; rintro e w' ⟨rfl, rfl⟩)
  go_loopw [6, 16] (fun s i wr => ∃ (k s0 m : Nat), k ≤ len ∧ s = .float .f32 s0 ∧ i = .int .i64 k ∧ EqN s0 (fdot zs ys k) ∧ wr = w.drewN m)
    (fun _ i _ => len - (intOf i).toNat)
  case atStart => exact ⟨0, 0, 0, Nat.zero_le _, rfl, rfl, .inl rfl, rfl⟩
  case round =>
    obtain ⟨k, s0, m, hk, rfl, rfl, hs, hw⟩ := hrel
    have HW := Lib.hid hw
    have HS := Lib.hid hs
    clear hw hs
    by_cases hlt : k < len
    · have hsrc : wr.cell? ⟨b, off + k, none⟩ = some (.float .f32 (zs.getD k 0)) := by rw [HW.out]; exact HC.out k hlt
      have hsrc' : wr.cell? ⟨b', off' + k, none⟩ = some (.float .f32 (ys.getD k 0)) := by rw [HW.out]; exact HC'.out k hlt
      have HD : Hid (fdot zs ys (k + 1) = fop .add (fdot zs ys k) (fop .mul (zs.getD k 0) (ys.getD k 0))) := Lib.hid rfl
      generalize zs.getD k 0 = v at *
      generalize ys.getD k 0 = u at *
      have RM : ∀ (x y : Nat) (w : World), (binOp .mul 28 (.float .f32 x) (.float .f32 y)).run Try.prog w = .ok (.float .f32 (opVal .mul x y w)) (w.drewN (opDraws .mul x y)) := fun x y w => run_opVal .mul (.inr rfl) _ x y w
      have RA : ∀ (x y : Nat) (w : World), (binOp .add 28 (.float .f32 x) (.float .f32 y)).run Try.prog w = .ok (.float .f32 (opVal .add x y w)) (w.drewN (opDraws .add x y)) := fun x y w => run_opVal .add (.inl rfl) _ x y w
      go_wp2
      refine region_img (by kernel_rfl) (by kernel_rfl) ?_
      refine LexU.det (.float .f32 s0) (fun _ _ => ⟨by go_simp, fun n => ?_⟩) ?_
      · go_simp; exact ⟨n, rfl⟩
      refine LexU.det (.slice (some ⟨b, off, none⟩) len cap) (fun _ _ => ⟨by go_simp, fun n => ?_⟩) ?_
      · go_simp; exact ⟨n, rfl⟩
      refine LexU.det (.int .i64 k) (fun _ _ => ⟨by go_simp, fun n => ?_⟩) ?_
      · go_simp; exact ⟨n, rfl⟩
      refine LexU.det (.pointer (some ⟨b, off + k, none⟩)) (fun _ _ => ⟨by go_simp, fun n => ?_⟩) ?_
      · go_simp; exact ⟨n, rfl⟩
      refine LexU.det (.float .f32 v) (fun _ _ => ⟨by go_simp, fun n => ?_⟩) ?_
      · go_simp; exact ⟨n, rfl⟩
      refine LexU.det (.slice (some ⟨b', off', none⟩) len cap') (fun _ _ => ⟨by go_simp, fun n => ?_⟩) ?_
      · go_simp; exact ⟨n, rfl⟩
      refine LexU.det (.int .i64 k) (fun _ _ => ⟨by go_simp, fun n => ?_⟩) ?_
      · go_simp; exact ⟨n, rfl⟩
      refine LexU.det (.pointer (some ⟨b', off' + k, none⟩)) (fun _ _ => ⟨by go_simp, fun n => ?_⟩) ?_
      · go_simp; exact ⟨n, rfl⟩
      refine LexU.det (.float .f32 u) (fun _ _ => ⟨by go_simp, fun n => ?_⟩) ?_
      · go_simp; exact ⟨n, rfl⟩
      refine LexU.draw (fun x => EqN x (fop .mul v u)) (.float .f32) ⟨_, .inl rfl⟩ (fun _ _ => ⟨by go_simp, fun n => ?_⟩) ?_
      · go_simp
        exact ⟨opVal_eq .mul (.inl rfl) (.inl rfl) _, n + opDraws .mul v u, rfl⟩
      refine LexU.draw (fun x => EqN x (fop .add (fdot zs ys k) (fop .mul v u))) (.float .f32) ⟨_, .inl rfl⟩ (fun p hp => ⟨by go_simp, fun n => ?_⟩) ?_
      · have HP := Lib.hid hp.2
        clear hp
        go_simp
        exact ⟨opVal_eq .add HS.out HP.out _, n + opDraws .add s0 p.2, rfl⟩
      refine LexU.draw (fun x => EqN x (fop .add (fdot zs ys k) (fop .mul v u))) (.float .f32) ⟨_, .inl rfl⟩ (fun p hp => ⟨by go_simp, fun n => ?_⟩) ?_
      · have HP := Lib.hid hp.2
        clear hp
        go_simp
        exact ⟨HP.out, n, rfl⟩
      refine LexU.done fun p hp nq => ?_
      have HP := Lib.hid hp.2
      clear hp
      go_simp
      go_wp2
      go_roundw
      case rel => exact ⟨k + 1, p.2, m + nq, by omega, rfl, by go_num, by rw [HD.out]; exact HP.out, by rw [HW.out]; exact World.drewN_drewN _ _ _⟩
      case measure => simp [intOf]; omega
    · obtain rfl : k = len := by omega
      go_wp2
      go_ret2
      exact ⟨s0, m, rfl, HS.out, HW.out⟩

theorem implDot_none (a a' : Option Addr) (cap cap' : Nat) (zs ys : List Nat) (w : World) :
    Calls Try.prog 26 #[.slice a 0 cap, .slice a' 0 cap'] w (Summed w (fun s => .tuple #[.float .f32 s, .bool true]) (fdot zs ys 0)) := by
  go_enter Try.func26, Try.ntmps26
  go_wp2_with (go_at_call 51; refine (paired_yes 0 (by decide) _).mono ?_; rintro e w' ⟨rfl, rfl⟩)
  go_loop [6, 16] (fun s i => s = .float .f32 0 ∧ i = .int .i64 0) (fun _ _ => 0)
  case atStart => exact ⟨rfl, rfl⟩
  case round =>
    obtain ⟨rfl, rfl⟩ := hrel
    go_wp2
    go_ret2
    exact ⟨0, 0, rfl, .inl rfl, rfl⟩

theorem implDot_any (a a' : Option Addr) (len cap cap' : Nat) (zs ys : List Nat) (w : World) (hl : len ≤ 256) (h : FAt w a len zs) (h' : FAt w a' len ys) :
    Calls Try.prog 26 #[.slice a len cap, .slice a' len cap'] w (Summed w (fun s => .tuple #[.float .f32 s, .bool true]) (fdot zs ys len)) := by
  obtain ⟨_, _, _, e | ⟨b, off, rfl, _, hc⟩⟩ := h
  · subst e; exact implDot_none a a' cap cap' zs ys w
  · obtain ⟨_, _, _, e | ⟨b', off', rfl, _, hc'⟩⟩ := h'
    · subst e; exact implDot_none _ a' cap cap' zs ys w
    · exact implDot_at b off b' off' len cap cap' zs ys w hl hc hc'


/-- what both answer where nothing is summed -/
theorem implDot_no (a a' : Option Addr) (la lb cap cap' : Nat) (w : World) (hl : la ≤ 1048576) (hl' : lb ≤ 1048576) (h : la = lb → 256 < lb) :
    Calls Try.prog 26 #[.slice a la cap, .slice a' lb cap'] w fun e w' => e = .returned (.tuple #[.float .f32 0, .bool false]) ∧ w = w' := by
  by_cases he : la = lb
  · subst he
    have ht : decide ((la : Int) ≤ 256) = false := decide_eq_false (by have := h rfl; omega)
    clear h
    go_enter Try.func26, Try.ntmps26
    go_wp2_with go_in
    go_ret2
    exact ⟨rfl, rfl⟩
  · have ht : ((la : Int) == (lb : Int)) = false := by simp; omega
    clear h
    go_enter Try.func26, Try.ntmps26
    go_wp2_with go_in
    go_ret2
    exact ⟨rfl, rfl⟩
theorem specDot_no (a a' : Option Addr) (la lb cap cap' : Nat) (w : World) (hl : la ≤ 1048576) (_ : lb ≤ 1048576) (h : la = lb → 256 < lb) :
    Calls Try.prog 25 #[.slice a la cap, .slice a' lb cap'] w fun e w' => e = .returned (.tuple #[.float .f32 0, .bool false]) ∧ w = w' := by
  by_cases he : la ≤ 256
  · have ht : decide ((la : Int) ≤ 256) = true := decide_eq_true (by omega)
    have ht2 : ((la : Int) != (lb : Int)) = true := by simp; omega
    clear h
    go_enter Try.func25, Try.ntmps25
    go_wp2_with go_in
    go_ret2
    exact ⟨rfl, rfl⟩
  · have ht : decide ((la : Int) ≤ 256) = false := decide_eq_false (by omega)
    clear h
    go_enter Try.func25, Try.ntmps25
    go_wp2_with go_in
    go_ret2
    exact ⟨rfl, rfl⟩
theorem specDot_yes (a a' : Option Addr) (len cap cap' : Nat) (zs ys : List Nat) (w : World) (hl : len ≤ 256) (h : FAt w a len zs) (h' : FAt w a' len ys) :
    Calls Try.prog 25 #[.slice a len cap, .slice a' len cap'] w (Summed w (fun s => .tuple #[.float .f32 s, .bool true]) (fdot zs ys len)) := by
  have HF := Lib.hid h
  have HF' := Lib.hid h'
  clear h h'
  have ht : decide ((len : Int) ≤ 256) = true := decide_eq_true (by omega)
  go_enter Try.func25, Try.ntmps25
  go_wp2_with (first | (go_at_call 50; refine (specDot_any _ _ _ _ _ zs ys _ (by omega) HF.out HF'.out).mono ?_; rintro e w' ⟨s0, m, rfl, hs, rfl⟩; have HS := Lib.hid hs; clear hs) | go_in)
  go_ret2
  exact ⟨s0, m, rfl, HS.out, rfl⟩
end Go.Proofs.Ytajjepcegpimjaa
