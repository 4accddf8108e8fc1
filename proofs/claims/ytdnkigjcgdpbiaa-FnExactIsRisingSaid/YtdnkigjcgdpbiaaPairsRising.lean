/-
  Does the rule of IsRising hold for any two sets? The program's two loops over all parts.
-/
import Derived.Test.YtdnkigjcgdpbiaaPairs
namespace Go.Proofs.Ytdnkigjcgdpbiaa
open Go.RowKit Go.Shelf
set_option linter.unusedVariables false
attribute [local go_sem] Oper.semAt_some

set_option maxRecDepth 100000 in
set_option maxHeartbeats 4000000 in
theorem pairs_yes_IsRising (P : Nat) (a1 : Option Addr) (l1 c1 : Nat) (A : List Int) (caps : Array Value) (f : Nat → Nat → Bool) (w : World) (hA : IAt w a1 l1 A) (hok : okW (P : Nat) A = true) (hP : P ≤ 6) (hf : RuleAt w 86 caps (wholeN P) f) :
    CallsIn Fence.wide 12 Try.prog 85 #[worthsV (P : Nat) a1 l1 c1, .func (.func 86) #[] caps] w (TwoOut w (allPairs (wholeN P) f, true)) := by
  have HA := Lib.hid hA
  have HOK := Lib.hid hok
  have hS := wholeN_lt hP
  clear hA hok
  refine callsIn_of_wp_marks Try.func85 rfl trivial ?_ rfl
  simp only [Try.ntmps85, List.size_toArray, List.length_cons, List.length_nil, Nat.reduceAdd, Nat.reduceSub, Array.replicate_succ, Array.replicate_zero, List.push_toArray, List.append_toArray, List.nil_append, List.cons_append]
  gi_wp2_with fail
  refine ⟨trivial, ?_⟩
  refine (callsIn_wide.2 (implValidW_any _ _ _ _ A _ (HA.out.below below4))).mono ?_
  rintro e w1 ⟨rfl, b1⟩
  rw [HOK.out]
  have X1 : Box2 w1 w.heap.size 27 (.int .i64 (P : Nat)) (.slice a1 l1 c1) := Box2.below heap4a b1
  have R1 : Boxed w1 (w.heap.size + 2) 4 (.bool false) := Boxed.below heap4c b1
  have T1 : Boxed w1 (w.heap.size + 3) 4 (.bool false) := Boxed.below heap4d b1
  have F1 := Boxed.below (heap4b (w := w) (o := .cells #[.int .i64 (P : Nat), .slice a1 l1 c1] 27) (p := .cells #[.func (.func 86) #[] caps] 75) (q := .cells #[.bool false] 4) (r := .cells #[.bool false] 4)) b1
  have B1 := below_after (below4 (w := w)) (Nat.le_refl _) b1
  have s1 : w.heap.size + 4 ≤ w1.heap.size := by have := b1.size; simp at this; omega
  clear b1
  obtain ⟨⟨p0, p1⟩, _⟩ := X1.all
  gi_wp2_with fail
  refine ⟨trivial, ?_⟩
  refine (callsIn_wide.2 (whole_any P hP a1 l1 c1 _)).mono ?_
  rintro e w2 ⟨rfl, b2⟩
  clear p0 p1
  gi_wp2_with fail
  refine ⟨trivial, ?_⟩
  refine (callsIn_wide.2 (partsOf_any _ _)).mono ?_
  rintro e W0 ⟨rfl, hW0⟩
  have BO := Boxed.new w2 2 (.int .i64 (wholeN P : Nat))
  rw [← hW0] at BO
  have hb0 : Below w2.heap.size w2 W0 := by rw [hW0]; exact below1
  have hsz : W0.heap.size = w2.heap.size + 1 := by rw [hW0]; simp
  clear hW0
  have X0 := (X1.below b2).below hb0
  have R0 := Boxed.below (Boxed.below R1 b2) hb0
  have T0 := Boxed.below (Boxed.below T1 b2) hb0
  have F0 := Boxed.below (Boxed.below F1 b2) hb0
  have B0 := below_after (below_after B1 (Nat.le_refl _) b2) (Nat.le_refl _) hb0
  have s2 := b2.size
  clear X1 R1 T1 F1 B1 b2 hb0
  obtain ⟨n0, hn0⟩ : ∃ n0, w.heap.size = n0 := ⟨_, rfl⟩
  obtain ⟨Bo, hBo⟩ : ∃ Bo, w2.heap.size = Bo := ⟨_, rfl⟩
  rw [hBo] at BO hsz s2
  simp only [hBo]
  clear hBo
  simp only [hn0] at X0 R0 T0 F0 s1 ⊢
  have HF : Hid (∀ W, Below (n0 + 2) W0 W → ∀ s t : Part (wholeN P), Calls Try.prog 86 (#[.int .i64 (s.1 : Nat), .int .i64 (t.1 : Nat)] ++ caps) W fun e W' => e = .returned (.bool (f s.1 t.1)) ∧ Same W W') :=
    Lib.hid fun W hW => hf W (B0.trans (hW.mono (by omega)))
  have HB0 := Lib.hid B0
  clear B0 hf HA HOK
  gi_wp2
  refine wpIn_rangeFunc_ownH rfl (by decide) (gf := 93) (lb := #[.pointer (some ⟨Bo, 0, none⟩)]) rfl trivial (enters_of Try.func93 (by kernel_rfl) rfl)
    (parts_stops (12 - 1) (by decide) Bo (n0 + 2) (wholeN P) hS W0 (by omega) BO.cell) kpS_t (kpS_b (by omega) (by omega)) (Below.refl _ _) (fun _ => rfl)
    (fun pre W => (((∀ x ∈ pre, ∀ y ∈ partsAll (wholeN P), f x.1 y.1 = true) ∧ Boxed W (n0 + 2) 4 (.bool false)) ∧ Boxed W (n0 + 3) 4 (.bool false)) ∧ Below (n0 + 2) W0 W)
    (fun c pre W => (((c = .ret ∧ ∃ x ∈ pre, ∃ y ∈ partsAll (wholeN P), f x.1 y.1 = false) ∧ Boxed W (n0 + 2) 4 (.bool false)) ∧ Boxed W (n0 + 3) 4 (.bool true)) ∧ Below (n0 + 2) W0 W)
    (OwnFrom.and (OwnFrom.and (OwnFrom.and (ownFrom_pure _ _) (Own.from (boxed_own _ _ _) _)) (Own.from (boxed_own _ _ _) _)) (ownFrom_below (by omega) (by omega)))
    (fun c => OwnFrom.and (OwnFrom.and (OwnFrom.and (ownFrom_pure _ _) (Own.from (boxed_own _ _ _) _)) (Own.from (boxed_own _ _ _) _)) (ownFrom_below (by omega) (by omega)))
    ⟨⟨⟨by simp, R0⟩, T0⟩, Below.refl _ _⟩
    (fun x a' W => ∃ Bx, n0 + 3 < Bx ∧ Boxed W Bx 2 (.int .i64 (x.1 : Nat)) ∧ a' = { tmps := #[worthsV (P : Nat) a1 l1 c1, .func (.func 86) #[] caps, .pointer (some ⟨n0, 0, none⟩), .pointer (some ⟨n0 + 1, 0, none⟩), .pointer (some ⟨n0 + 1 + 1, 0, none⟩), .pointer (some ⟨n0 + 1 + 1 + 1, 0, none⟩), .pointer (some ⟨Bx, 0, none⟩), undef, .agg #[.int .i64 (P : Nat), .slice a1 l1 c1], .bool true, .bool false, .agg #[.int .i64 (P : Nat), .slice a1 l1 c1], .int .i64 (wholeN P : Nat), .func (.func 93) #[] #[.pointer (some ⟨Bo, 0, none⟩)], .int .i64 (x.1 : Nat), undef, undef, undef, undef, undef, undef, undef, undef, undef], defers := [] })
    (fun x a' _ X Y row hs hg hr => by obtain ⟨Bx, e1, e2, e3⟩ := hs; exact ⟨Bx, e1, boxed_own Bx 2 (fun (_ : Unit) => Value.int .i64 (x.1 : Nat)) () X Y row e2 hg (fun r e => (hr r e).2), e3⟩)
    ?assign ?body ?done ?stop
  case assign =>
    rintro l pre x W K ⟨⟨⟨hp, bR⟩, bT⟩, hB⟩ hK
    gi_wp2
    have hlW := bT.lt
    have hBO := hB.size
    exact hK _ _ ((KeepsOthers.alloc _ _).from _) ⟨(Below.refl _ W).alloc (by omega) _, Below.heap_alloc W _ Bo (by omega)⟩ ⟨⟨⟨hp, bR.alloc _⟩, bT.alloc _⟩, hB.alloc (by omega) _⟩ ⟨W.heap.size, hlW, Boxed.new W 2 _, rfl⟩
  case body =>
    rintro l pre x a' W hl ⟨r, hr⟩ ⟨⟨⟨hp, bR⟩, bT⟩, hB⟩ ⟨Bx, hBx, bX, rfl⟩ hlt
    have hXW : Box2 W n0 27 (.int .i64 (P : Nat)) (.slice a1 l1 c1) := (hB.block n0 (by omega)).trans X0
    have hFW : Boxed W (n0 + 1) 75 (.func (.func 86) #[] caps) := (hB.block (n0 + 1) (by omega)).trans F0
    obtain ⟨⟨p0, p1⟩, _⟩ := hXW.all
    have sW := hB.size
    gi_wp2_with fail
    refine ⟨trivial, ?_⟩
    refine (CallsIn.inRound l (callsIn_wide.2 (whole_any P hP a1 l1 c1 _))).mono ?_
    rintro e W1 ⟨rfl, b1⟩
    clear p0 p1
    gi_wp2_with fail
    refine ⟨trivial, ?_⟩
    refine (CallsIn.inRound l (callsIn_wide.2 (partsOf_any _ _))).mono ?_
    rintro e W2 ⟨rfl, hW2⟩
    have bI := Boxed.new W1 2 (.int .i64 (wholeN P : Nat))
    rw [← hW2] at bI
    have b2 : Below W1.heap.size W1 W2 := by rw [hW2]; exact below1
    have hsz2 : W2.heap.size = W1.heap.size + 1 := by rw [hW2]; simp
    clear hW2
    have b12 : Below W.heap.size W W2 := below_after b1 (Nat.le_refl _) b2
    have s1 := b1.size
    have s12 := b12.size
    clear b1 b2
    obtain ⟨Bi, hBi⟩ : ∃ Bi, W1.heap.size = Bi := ⟨_, rfl⟩
    rw [hBi] at bI hsz2 s1
    simp only [hBi]
    clear hBi
    have hr2 : W2.heap[l]? = some (.loop r) := (b12.block l (Array.getElem?_eq_some_iff.1 hr).1).trans hr
    have bR2 := Boxed.below bR b12
    have bT2 := Boxed.below bT b12
    have bX2 := Boxed.below bX b12
    have lX := bX.lt
    have k12 : KpS (n0 + 2) Bo W W2 := KpS.below b12 (by omega) (by omega)
    have f12 : KeepsFrom W0.heap.size W W2 := keepsFrom_below b12
    clear b12
    gi_wp2
    refine wpIn_rangeFunc_ownN (l₀ := l) (r₀ := r) rfl hr2 (by decide) (gf := 93) (lb := #[.pointer (some ⟨Bi, 0, none⟩)]) rfl trivial (enters_of Try.func93 (by kernel_rfl) rfl)
      ((parts_stops (12 - 1 - 1 - 1) (by decide) Bi (n0 + 2) (wholeN P) hS W2 (by omega) bI.cell).inRound l) kpS_t (kpS_b (by omega) (by omega)) (Below.refl _ _) (fun _ => rfl)
      (fun pre' W' => ((((∀ y ∈ pre', f x.1 y.1 = true) ∧ Boxed W' (n0 + 2) 4 (.bool false)) ∧ Boxed W' (n0 + 3) 4 (.bool false)) ∧ Boxed W' Bx 2 (.int .i64 (x.1 : Nat))) ∧ (KpS (n0 + 2) Bo W W' ∧ KeepsFrom W0.heap.size W W'))
      (fun c pre' W' => (((c = .ret ∧ ∃ y ∈ pre', f x.1 y.1 = false) ∧ Boxed W' (n0 + 2) 4 (.bool false)) ∧ Boxed W' (n0 + 3) 4 (.bool true)) ∧ (KpS (n0 + 2) Bo W W' ∧ KeepsFrom W0.heap.size W W'))
      (OwnFrom.and (OwnFrom.and (OwnFrom.and (OwnFrom.and (ownFrom_pure _ _) (Own.from (boxed_own _ _ _) _)) (Own.from (boxed_own _ _ _) _)) (Own.from (boxed_own _ _ _) _)) (OwnFrom.and (ownFrom_kpS (by omega) (by omega) (by omega) (by omega)) (ownFrom_keepsFrom (by omega))))
      (fun c => OwnFrom.and (OwnFrom.and (OwnFrom.and (ownFrom_pure _ _) (Own.from (boxed_own _ _ _) _)) (Own.from (boxed_own _ _ _) _)) (OwnFrom.and (ownFrom_kpS (by omega) (by omega) (by omega) (by omega)) (ownFrom_keepsFrom (by omega))))
      ⟨⟨⟨⟨by simp, bR2⟩, bT2⟩, bX2⟩, k12, f12⟩
      (fun y a'' _ => a'' = { tmps := #[worthsV (P : Nat) a1 l1 c1, .func (.func 86) #[] caps, .pointer (some ⟨n0, 0, none⟩), .pointer (some ⟨n0 + 1, 0, none⟩), .pointer (some ⟨n0 + 1 + 1, 0, none⟩), .pointer (some ⟨n0 + 1 + 1 + 1, 0, none⟩), .pointer (some ⟨Bx, 0, none⟩), .int .i64 (y.1 : Nat), .agg #[.int .i64 (P : Nat), .slice a1 l1 c1], .bool true, .bool false, .agg #[.int .i64 (P : Nat), .slice a1 l1 c1], .int .i64 (wholeN P : Nat), .func (.func 93) #[] #[.pointer (some ⟨Bo, 0, none⟩)], .int .i64 (x.1 : Nat), .agg #[.int .i64 (P : Nat), .slice a1 l1 c1], .int .i64 (wholeN P : Nat), .func (.func 93) #[] #[.pointer (some ⟨Bi, 0, none⟩)], .int .i64 (y.1 : Nat), undef, undef, undef, undef, undef], defers := [] })
      (fun _ _ _ _ _ _ hs _ _ => hs)
      ?assign2 ?body2 ?done2 ?stop2
    case assign2 =>
      rintro l2 pre' y W' K hi hK
      gi_wp2
      exact hK _ _ (KeepsFrom.refl _ _) ⟨Below.refl _ _, rfl⟩ hi rfl
    case body2 =>
      rintro l2 pre' y a'' W' _ _ ⟨⟨⟨⟨hq, bR3⟩, bT3⟩, bX3⟩, hKW, hKF⟩ rfl _
      have hFW' : Boxed W' (n0 + 1) 75 (.func (.func 86) #[] caps) := (hKW.1.block (n0 + 1) (by omega)).trans hFW
      have cF := hFW'.cell
      have cX := bX3.cell
      have cR := bR3.cell
      have fR := bR3.frozen
      have cT := bT3.cell
      have fT := bT3.frozen
      gi_wp2_with fail
      refine ⟨trivial, ?_⟩
      have hcall := HF.out W' ((hB.trans hKW.1)) x y
      cases hv : f x.1 y.1 with
      | false =>
        rw [hv] at hcall
        refine (CallsIn.inRound l2 (CallsIn.inRound l (callsIn_wide.2 hcall))).mono ?_
        rintro e W3 ⟨rfl, k, rfl⟩
        gi_wp2
        have hb3 : Below (n0 + 2) W' (((W'.drewN k).setCell ⟨n0 + 1 + 1, 0, none⟩ (.bool false)).setCell ⟨n0 + 1 + 1 + 1, 0, none⟩ (.bool true)) :=
          ((same_below ⟨k, rfl⟩ _).setCell (p := ⟨n0 + 1 + 1, 0, none⟩) (by show n0 + 2 ≤ n0 + 1 + 1; omega) _).setCell (p := ⟨n0 + 1 + 1 + 1, 0, none⟩) (by show n0 + 2 ≤ n0 + 1 + 1 + 1; omega) _
        have ho3 : KeepsOthers W' (((W'.drewN k).setCell ⟨n0 + 1 + 1, 0, none⟩ (.bool false)).setCell ⟨n0 + 1 + 1 + 1, 0, none⟩ (.bool true)) :=
          KeepsOthers.trans (KeepsOthers.trans (show KeepsOthers W' (W'.drewN k) from ⟨Nat.le_refl _, fun _ _ h _ => h⟩) (KeepsOthers.setCell (W'.drewN k) _ _)) (KeepsOthers.setCell _ _ _)
        have hBo3 : (((W'.drewN k).setCell ⟨n0 + 1 + 1, 0, none⟩ (.bool false)).setCell ⟨n0 + 1 + 1 + 1, 0, none⟩ (.bool true)).heap[Bo]? = W'.heap[Bo]? :=
          (Below.heap_setCell _ ⟨n0 + 1 + 1 + 1, 0, none⟩ _ Bo (by show Bo ≠ n0 + 1 + 1 + 1; omega)).trans (Below.heap_setCell _ ⟨n0 + 1 + 1, 0, none⟩ _ Bo (by show Bo ≠ n0 + 1 + 1; omega))
        exact ⟨ho3.from _, ⟨⟨⟨rfl, y, List.mem_append.2 (.inr (by simp)), hv⟩, (Boxed.set _ (show Boxed (W'.drewN k) (n0 + 2) _ _ from bR3)).other (by omega) _⟩, Boxed.set _ ((show Boxed (W'.drewN k) (n0 + 3) _ _ from bT3).other (by omega) _)⟩, ⟨hKW.1.trans hb3, hBo3.trans hKW.2⟩, hKF.trans (ho3.from _)⟩
      | true =>
        rw [hv] at hcall
        refine (CallsIn.inRound l2 (CallsIn.inRound l (callsIn_wide.2 hcall))).mono ?_
        rintro e W3 ⟨rfl, k, rfl⟩
        gi_wp2
        have ho3 : KeepsOthers W' (W'.drewN k) := ⟨Nat.le_refl _, fun _ _ h _ => h⟩
        refine ⟨ho3.from _, ⟨same_below ⟨k, rfl⟩ _, rfl⟩, ⟨⟨⟨?_, bR3⟩, bT3⟩, bX3⟩, ⟨hKW.1.trans (same_below ⟨k, rfl⟩ _), hKW.2⟩, hKF.trans (ho3.from _)⟩
        intro z hz
        rcases List.mem_append.1 hz with h | h
        · exact hq z h
        · obtain rfl : z = y := by simpa using h
          exact hv
    case done2 =>
      rintro ys' W' rfl ⟨⟨⟨⟨hq, bR3⟩, bT3⟩, bX3⟩, hKW, hKF⟩
      gi_wp2
      refine ⟨hKF, hKW, ⟨⟨?_, bR3⟩, bT3⟩, hB.trans hKW.1⟩
      intro z hz
      rcases List.mem_append.1 hz with h | h
      · exact hp z h
      · obtain rfl : z = x := by simpa using h
        exact hq
    case stop2 =>
      rintro c pre' W' hpre ⟨⟨⟨⟨rfl, y, hy, hv⟩, bR3⟩, bT3⟩, hKW, hKF⟩
      gi_wp2
      exact ⟨hKF, ⟨⟨⟨rfl, x, List.mem_append.2 (.inr (by simp)), y, mem_partsAll y, hv⟩, bR3⟩, bT3⟩, hB.trans hKW.1⟩
  case done =>
    rintro D zs W hD rfl ⟨⟨⟨hp, bR⟩, bT⟩, hB⟩ hK
    have cR := bR.cell
    have fR := bR.frozen
    have cT := bT.cell
    have fT := bT.frozen
    gi_wp2
    have hy : allPairs (wholeN P) f = true := List.all_eq_true.2 fun x hx => List.all_eq_true.2 fun y hy => hp x hx y hy
    have r4 := (Boxed.set (.bool true) bR).other (B' := n0 + 3) (by omega) (.bool true)
    have r5 := Boxed.set (.bool true) (bT.other (B' := n0 + 2) (by omega) (.bool true))
    have hK2 := (KeepsOthers.trans (KeepsOthers.setCell W ⟨n0 + 1 + 1, 0, none⟩ (.bool true)) (KeepsOthers.setCell _ ⟨n0 + 1 + 1 + 1, 0, none⟩ (.bool true))).same D _ hK rfl
    have c4 := cell_kept r4.cell (grownBy_putObj' _ D (.deferred none)) (fun r e => by cases e; exact ⟨_, hK2, rfl⟩)
    have c5 := cell_kept r5.cell (grownBy_putObj' _ D (.deferred none)) (fun r e => by cases e; exact ⟨_, hK2, rfl⟩)
    refine ⟨by simp, .inl ⟨_, _, rfl, run_takeDeferred hK2, ?_⟩⟩
    refine ⟨.tuple #[.bool true, .bool true], ?_, by rw [hy], ?_⟩
    · simp [results, Try.f85, go_sem, c4, c5]
    · have hw : Below w.heap.size w (((W.setCell ⟨n0 + 1 + 1, 0, none⟩ (.bool true)).setCell ⟨n0 + 1 + 1 + 1, 0, none⟩ (.bool true))) :=
        ((HB0.out.trans (hB.mono (by omega))).setCell (p := ⟨n0 + 1 + 1, 0, none⟩) (by show w.heap.size ≤ n0 + 1 + 1; omega) _).setCell (p := ⟨n0 + 1 + 1 + 1, 0, none⟩) (by show w.heap.size ≤ n0 + 1 + 1 + 1; omega) _
      exact hw.trans (belowK_b (w := w) (Nat.le_refl _) _ D _ _ (by omega) hK2 rfl rfl)
  case stop =>
    rintro D c pre W hD hpre ⟨⟨⟨⟨rfl, x, hx, y, hy, hv⟩, bR⟩, bT⟩, hB⟩ hK
    gi_wp2
    have hn : allPairs (wholeN P) f = false := by
      cases h : allPairs (wholeN P) f with
      | false => rfl
      | true =>
        have := List.all_eq_true.1 (List.all_eq_true.1 h x (mem_partsAll x)) y hy
        rw [hv] at this
        cases this
    have c4 := cell_kept bR.cell (grownBy_putObj' _ D (.deferred none)) (fun r e => by cases e; exact ⟨_, hK, rfl⟩)
    have c5 := cell_kept bT.cell (grownBy_putObj' _ D (.deferred none)) (fun r e => by cases e; exact ⟨_, hK, rfl⟩)
    refine ⟨by simp, .inl ⟨_, _, rfl, run_takeDeferred hK, ?_⟩⟩
    refine ⟨.tuple #[.bool false, .bool true], ?_, by rw [hn], ?_⟩
    · simp [results, Try.f85, go_sem, c4, c5]
    · exact (HB0.out.trans (hB.mono (by omega))).trans (belowK_b (w := w) (Nat.le_refl _) _ D _ _ (by omega) hK rfl rfl)
end Go.Proofs.Ytdnkigjcgdpbiaa
