/-
  The first of those that are worth most: the program's generic function, for whatever iterator and whatever worth.
-/
import Derived.Test.YtkgjfockechniaaTThings
import Derived.Test.YtkgjfockechniaaExt
namespace Go.Proofs.Ytkgjfockechniaa
open Go.RowKit Go.Shelf
set_option linter.unusedVariables false
attribute [local go_sem] Oper.semAt_some

section
variable {α : Type}
def bestStep (val : α → Int) (acc : Option α) (x : α) : Option α :=
  match acc with
  | none => some x
  | some b => if val b < val x then some x else some b
def bestL (val : α → Int) (xs : List α) : Option α := xs.foldl (bestStep val) none
theorem bestL_snoc (val : α → Int) (xs : List α) (x : α) : bestL val (xs ++ [x]) = bestStep val (bestL val xs) x := by simp [bestL]
def keyOr (key : α → Int) : Option α → Int
  | none => 0
  | some b => key b
end

/-- an iterator whose contract holds in whatever world goes on from w, for whatever a loop writes of what it made behind -/
def SeqAll {α : Type} (w : World) (gf : Nat) (lb : Array Value) (encs : α → Array Value) (xs : List α) : Prop :=
  ∀ (W : World) (S : Nat → Prop) (N n : Nat), Below w.heap.size w W → w.heap.size ≤ N → N ≤ W.heap.size → (∀ k, S k → w.heap.size ≤ k) → 1 ≤ n →
    SeqStopsK Fence.wide n Try.prog gf lb encs (KpX S N) (fun ys => ys = xs) (fun pre => pre <+: xs) xs.length W
theorem SeqAll.on {α : Type} {w w' : World} {gf : Nat} {lb : Array Value} {encs : α → Array Value} {xs : List α} (h : SeqAll w gf lb encs xs) (hb : Below w.heap.size w w') : SeqAll w' gf lb encs xs :=
  fun W S N n h1 h2 h3 h4 h5 => h W S N n (below_after hb (Nat.le_refl _) h1) (Nat.le_trans hb.size h2) h3 (fun k hk => Nat.le_trans hb.size (h4 k hk)) h5

theorem things_all (Bj Bo b off len cap : Nat) (j : Int) (O : List Int) (hO : O.length = len) (hm : len ≤ maxLen) (w : World)
    (cj : w.cell? ⟨Bj, 0, none⟩ = some (.int .i64 j)) (co : w.cell? ⟨Bo, 0, none⟩ = some (.slice (some ⟨b, off, none⟩) len cap)) (hb : b < w.heap.size)
    (hc : ∀ i, i < len → w.cell? ⟨b, off + i, none⟩ = some (.int .i64 (O.getD i 0))) :
    SeqAll w 117 #[.pointer (some ⟨Bo, 0, none⟩), .pointer (some ⟨Bj, 0, none⟩)] (fun x : Thing j O => #[Value.int .i64 (x.1 : Nat)]) (thingsAll j O) := by
  intro W S N n h1 h2 h3 h4 h5
  have lj := World.block_lt_of_cell? w ⟨Bj, 0, none⟩ cj
  have lo := World.block_lt_of_cell? w ⟨Bo, 0, none⟩ co
  have lj : Bj < w.heap.size := lj
  have lo : Bo < w.heap.size := lo
  exact things_stops n h5 Bj Bo b off len cap N S j O hO hm ⟨by omega, fun h => by have := h4 _ h; omega⟩ ⟨by omega, fun h => by have := h4 _ h; omega⟩ ⟨by omega, fun h => by have := h4 _ h; omega⟩ W h3
    ((h1.cell (p := ⟨Bj, 0, none⟩) lj).trans cj) ((h1.cell (p := ⟨Bo, 0, none⟩) lo).trans co) (fun i hi => (h1.cell (p := ⟨b, off + i, none⟩) hb).trans (hc i hi))

/-- a function value that tells what one is worth -/
def ValAt {α : Type} (w : World) (gw : Nat) (pre caps : Array Value) (key val : α → Int) : Prop :=
  ∀ W, Below w.heap.size w W → ∀ x, Calls Try.prog gw (pre ++ #[.int .i64 (key x)] ++ caps) W fun e W' => e = .returned (.int .i64 (val x)) ∧ Below W.heap.size W W'

set_option maxRecDepth 100000 in
set_option maxHeartbeats 4000000 in
theorem bestOf_any {α : Type} (gf gw : Nat) (lb pre caps : Array Value) (key val : α → Int) (xs : List α) (w : World)
    (eg : ∀ args w, (callFunc gf args).run Try.prog w = .ok (.enter gf args) w) (ew : ∀ args w, (callFunc gw args).run Try.prog w = .ok (.enter gw args) w)
    (hs : SeqAll w gf lb (fun x : α => #[Value.int .i64 (key x)]) xs) (hv : ValAt w gw pre caps key val) :
    Calls Try.prog 76 #[.func (.func gf) #[] lb, .func (.func gw) pre caps] w fun e w' => e = .returned (.tuple #[.int .i64 (keyOr key (bestL val xs)), .int .i64 (keyOr val (bestL val xs))]) ∧ Below w.heap.size w w' := by
  refine (callsIn_wide (n := 12)).1 ?_
  refine callsIn_of_wp_marks Try.func76 rfl trivial ?_ rfl
  simp only [Try.ntmps76, List.size_toArray, List.length_cons, List.length_nil, Nat.reduceAdd, Nat.reduceSub, Array.replicate_succ, Array.replicate_zero, List.push_toArray, List.append_toArray, List.nil_append, List.cons_append]
  gi_wp2
  have b0 := below4 (w := w) (o := .cells #[.func (.func gw) pre caps] 72) (p := .cells #[.int .i64 0] 2) (q := .cells #[.int .i64 0] 2) (r := .cells #[.bool true] 4)
  have F0 : Boxed _ w.heap.size 72 (.func (.func gw) pre caps) := heap4a (w := w) (o := .cells #[.func (.func gw) pre caps] 72) (p := .cells #[.int .i64 0] 2) (q := .cells #[.int .i64 0] 2) (r := .cells #[.bool true] 4)
  have K0 : Boxed _ (w.heap.size + 1) 2 (.int .i64 0) := heap4b (w := w) (o := .cells #[.func (.func gw) pre caps] 72) (p := .cells #[.int .i64 0] 2) (q := .cells #[.int .i64 0] 2) (r := .cells #[.bool true] 4)
  have M0 : Boxed _ (w.heap.size + 2) 2 (.int .i64 0) := heap4c (w := w) (o := .cells #[.func (.func gw) pre caps] 72) (p := .cells #[.int .i64 0] 2) (q := .cells #[.int .i64 0] 2) (r := .cells #[.bool true] 4)
  have T0 : Boxed _ (w.heap.size + 3) 4 (.bool true) := heap4d (w := w) (o := .cells #[.func (.func gw) pre caps] 72) (p := .cells #[.int .i64 0] 2) (q := .cells #[.int .i64 0] 2) (r := .cells #[.bool true] 4)
  have z0 : ((((w.alloc (.cells #[.func (.func gw) pre caps] 72)).alloc (.cells #[.int .i64 0] 2)).alloc (.cells #[.int .i64 0] 2)).alloc (.cells #[.bool true] 4)).heap.size = w.heap.size + 4 := by simp
  generalize (((w.alloc (.cells #[.func (.func gw) pre caps] 72)).alloc (.cells #[.int .i64 0] 2)).alloc (.cells #[.int .i64 0] 2)).alloc (.cells #[.bool true] 4) = W0 at *
  have HV : Hid (∀ W, Below w.heap.size W0 W → ∀ x, Calls Try.prog gw (pre ++ #[.int .i64 (key x)] ++ caps) W fun e W' => e = .returned (.int .i64 (val x)) ∧ Below W.heap.size W W') := Lib.hid fun W hW => hv W (b0.trans hW)
  have HSQ := Lib.hid (hs W0 (fun k => w.heap.size + 1 ≤ k ∧ k ≤ w.heap.size + 3) (w.heap.size + 4) (12 - 1) b0 (by omega) (by omega) (fun k hk => by omega) (by decide))
  have HB0 := Lib.hid b0
  have HEW := Lib.hid ew
  clear hv hs b0 ew
  obtain ⟨n0, hn0⟩ : ∃ n0, w.heap.size = n0 := ⟨_, rfl⟩
  simp only [hn0] at F0 K0 M0 T0 z0 HSQ HV ⊢
  have HN0 := Lib.hid hn0
  clear hn0
  refine wpIn_rangeFunc_ownH rfl (by decide) (gf := gf) (lb := lb) rfl trivial eg HSQ.out kpX_t (kpX_b (by omega)) (Below.refl _ _) (fun _ => rfl)
    (fun pr W => Boxed W (n0 + 1) 2 (.int .i64 (keyOr key (bestL val pr))) ∧ Boxed W (n0 + 2) 2 (.int .i64 (keyOr val (bestL val pr))) ∧ Boxed W (n0 + 3) 4 (.bool (bestL val pr).isNone) ∧ KpX (fun k => n0 + 1 ≤ k ∧ k ≤ n0 + 3) (n0 + 4) W0 W)
    (fun _ _ _ => False)
    (OwnFrom.and (Own.from (boxed_own _ _ _) _) (OwnFrom.and (Own.from (boxed_own _ _ _) _) (OwnFrom.and (Own.from (boxed_own _ _ _) _) (ownFrom_kpX (by omega) (by omega)))))
    (fun _ _ _ _ _ hs _ _ => hs)
    ⟨K0, M0, T0, KpX.refl⟩
    (fun x a' W => a' = { tmps := #[.func (.func gf) #[] lb, .func (.func gw) pre caps, undef, .pointer (some ⟨n0, 0, none⟩), .int .i64 0, .int .i64 0, .pointer (some ⟨n0 + 1, 0, none⟩), .pointer (some ⟨n0 + 1 + 1, 0, none⟩), .pointer (some ⟨n0 + 1 + 1 + 1, 0, none⟩), .int .i64 (key x), undef, .func (.func gf) #[] lb, .int .i64 (key x), undef, undef, undef, undef, undef, undef, undef, undef, undef, undef, undef, undef, undef], defers := [] })
    (fun _ _ _ _ _ _ hs _ _ => hs)
    ?assign ?body ?done ?stop
  case assign =>
    rintro l pr x W K hi hK
    gi_wp2
    exact hK _ _ (KeepsFrom.refl _ _) KpX.refl hi rfl
  case body =>
    rintro l pr x a' W hl ⟨r, hr⟩ ⟨hK, hM, hT, hX⟩ rfl hlt'
    have sN := hX.size
    have cF := (hX.boxed (by omega) (by omega) F0).cell
    have HX := Lib.hid hX
    have HK := Lib.hid hK
    have HM := Lib.hid hM
    have HT := Lib.hid hT
    have HST := Lib.hid (bestL_snoc val pr x)
    clear hX hK hM hT hr
    gi_wp2_with fail
    refine ⟨trivial, ?_⟩
    rw [HEW.out]
    refine ⟨by simp [Fence.wide], ?_⟩
    refine (CallsIn.inRound l (callsIn_wide.2 (HV.out W (HX.out.below (by omega) (fun k hk => by omega)) x))).mono ?_
    rintro e w2 ⟨rfl, b2⟩
    have hK2 := boxed_ext HK.out b2
    have hM2 := boxed_ext HM.out b2
    have hT2 := boxed_ext HT.out b2
    have hk2 : KpX (fun k => n0 + 1 ≤ k ∧ k ≤ n0 + 3) (n0 + 4) W w2 := KpX.of_ext b2 (by omega)
    have hf2 : KeepsFrom W0.heap.size W w2 := keepsFrom_ext b2
    clear b2 cF HK HM HT
    have HX2 := Lib.hid (HX.out.trans hk2)
    clear HX
    have stay : bestL val (pr ++ [x]) = bestL val pr → ∀ a : Act, (ownPostG W0.heap.size (KpX (fun k => n0 + 1 ≤ k ∧ k ≤ n0 + 3) (n0 + 4)) (fun pr W => Boxed W (n0 + 1) 2 (.int .i64 (keyOr key (bestL val pr))) ∧ Boxed W (n0 + 2) 2 (.int .i64 (keyOr val (bestL val pr))) ∧ Boxed W (n0 + 3) 4 (.bool (bestL val pr).isNone) ∧ KpX (fun k => n0 + 1 ≤ k ∧ k ≤ n0 + 3) (n0 + 4) W0 W) (fun _ _ _ => False) (pr ++ [x]) W .normal a w2) := fun e a => by
      exact ⟨hf2, hk2, by dsimp only; rw [e]; exact ⟨hK2, hM2, hT2, HX2.out⟩⟩
    have take : bestL val (pr ++ [x]) = some x → ∀ a : Act, (ownPostG W0.heap.size (KpX (fun k => n0 + 1 ≤ k ∧ k ≤ n0 + 3) (n0 + 4)) (fun pr W => Boxed W (n0 + 1) 2 (.int .i64 (keyOr key (bestL val pr))) ∧ Boxed W (n0 + 2) 2 (.int .i64 (keyOr val (bestL val pr))) ∧ Boxed W (n0 + 3) 4 (.bool (bestL val pr).isNone) ∧ KpX (fun k => n0 + 1 ≤ k ∧ k ≤ n0 + 3) (n0 + 4) W0 W) (fun _ _ _ => False) (pr ++ [x]) W .normal a (((w2.setCell ⟨n0 + 1, 0, none⟩ (.int .i64 (key x))).setCell ⟨n0 + 1 + 1, 0, none⟩ (.int .i64 (val x))).setCell ⟨n0 + 1 + 1 + 1, 0, none⟩ (.bool false))) := fun e a => by
      have hk3 : KpX (fun k => n0 + 1 ≤ k ∧ k ≤ n0 + 3) (n0 + 4) w2 (((w2.setCell ⟨n0 + 1, 0, none⟩ (.int .i64 (key x))).setCell ⟨n0 + 1 + 1, 0, none⟩ (.int .i64 (val x))).setCell ⟨n0 + 1 + 1 + 1, 0, none⟩ (.bool false)) :=
        ((KpX.set (.inl ⟨by omega, by omega⟩)).trans (KpX.set (.inl ⟨by omega, by omega⟩))).trans (KpX.set (.inl ⟨by omega, by omega⟩))
      have ho : KeepsOthers w2 (((w2.setCell ⟨n0 + 1, 0, none⟩ (.int .i64 (key x))).setCell ⟨n0 + 1 + 1, 0, none⟩ (.int .i64 (val x))).setCell ⟨n0 + 1 + 1 + 1, 0, none⟩ (.bool false)) :=
        ((KeepsOthers.setCell _ _ _).trans (KeepsOthers.setCell _ _ _)).trans (KeepsOthers.setCell _ _ _)
      refine ⟨hf2.trans (ho.from _), hk2.trans hk3, ?_⟩
      dsimp only
      rw [e]
      exact ⟨((Boxed.set _ hK2).other (by omega) _).other (by omega) _, (Boxed.set _ (hM2.other (by omega) _)).other (by omega) _, Boxed.set _ ((hT2.other (by omega) _).other (by omega) _), HX2.out.trans hk3⟩
    have HSTAY := Lib.hid stay
    have HTAKE := Lib.hid take
    have cK := hK2.cell
    have cM := hM2.cell
    have cT := hT2.cell
    have fK := hK2.frozen
    have fM := hM2.frozen
    have fT := hT2.frozen
    clear stay take hK2 hM2 hT2 hk2 hf2 HX2
    cases hacc : bestL val pr with
    | none =>
      rw [hacc] at cK cM cT
      have HS2 : Hid (bestL val (pr ++ [x]) = some x) := Lib.hid (by rw [HST.out, hacc]; rfl)
      clear hacc HST
      simp only [keyOr, Option.isNone] at cK cM cT
      gi_wp2
      exact HTAKE.out HS2.out _
    | some b =>
      rw [hacc] at cK cM cT
      have HSTP := HST.out
      rw [hacc] at HSTP
      simp only [keyOr, Option.isNone] at cK cM cT
      by_cases hlt : val b < val x
      · have HS2 : Hid (bestL val (pr ++ [x]) = some x) := Lib.hid (by rw [HSTP]; simp [bestStep, hlt])
        clear hacc HST HSTP
        gi_wp2
        exact HTAKE.out HS2.out _
      · have HS2 : Hid (bestL val (pr ++ [x]) = bestL val pr) := Lib.hid (by rw [HSTP, hacc]; simp [bestStep, hlt])
        clear hacc HST HSTP
        gi_wp2
        exact HSTAY.out HS2.out _
  case done =>
    rintro D zs W hD rfl ⟨hK, hM, hT, hX⟩ hD2
    have cK := hK.cell
    have cM := hM.cell
    have HX := Lib.hid hX
    clear hX hK hM hT
    gi_wp2
    refine wpIn_wide.2 ?_
    go_quiet (fail)
    have hD3 : (W.drewN nq).heap[D]? = some (.deferred (some [])) := hD2
    gi_wp2
    refine ⟨by simp, .inl ⟨_, _, rfl, run_takeDeferred hD3, ?_⟩⟩
    refine ⟨.tuple #[.int .i64 (keyOr key (bestL val zs)), .int .i64 (keyOr val (bestL val zs))], ?_, rfl, ?_⟩
    · simp [results, Try.f76, go_sem]
    · exact ((HB0.out.trans ((HX.out.below (n := n0) (by omega) (fun k hk => by omega)).mono (by have := HN0.out; omega))).trans (same_below ⟨nq, rfl⟩ _)).trans (belowK_b (w := w) (Nat.le_refl _) _ D _ _ (by have := HN0.out; omega) hD3 rfl rfl)
  case stop =>
    rintro D c pr W hD hpre h
    exact h.elim
end Go.Proofs.Ytkgjfockechniaa
