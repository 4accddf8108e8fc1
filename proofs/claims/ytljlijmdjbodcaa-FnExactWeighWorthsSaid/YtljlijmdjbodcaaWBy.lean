/-
  worthsBy: the worths that a rule tells, set by set.
-/
import Derived.Test.YtljlijmdjbodcaaSets
import Derived.Test.YtljlijmdjbodcaaKpX
import Derived.Test.YtljlijmdjbodcaaMove
namespace Go.Proofs.Ytljlijmdjbodcaa
open Go.RowKit Go.Shelf
set_option linter.unusedVariables false
attribute [local go_sem] Oper.semAt_some

theorem ownFrom_row {β : Type} {C lo : Nat} {E : TypeId} (v : β → Value) (n : β → Nat) (xs : β → List Value) : OwnFrom C (fun s W => W.ownsRow lo E 1 (v s) (n s) (xs s)) :=
  fun s X Y row h hg hr => by
    refine ⟨h.1, h.2.imp id ?_⟩
    rintro ⟨g, cap, cur, e, h1, h2, r⟩
    refine ⟨g, cap, cur, e, h1, (hg.block g (Array.getElem?_eq_some_iff.1 h2).1 fun e' => ?_).trans h2, r⟩
    obtain ⟨_, o, ho, hc⟩ := hr g e'.symm
    rw [h2] at ho
    cases ho
    cases hc

theorem keepsOthers_grown {w w' : World} {row : Option Nat} (h : w.grownBy w' row) (hr : ∀ r, row = some r → ∃ c e z, w.heap[r]? = some (.cells c e z)) : KeepsOthers w w' :=
  ⟨h.size, fun k o hk ho => (h.block k (Array.getElem?_eq_some_iff.1 hk).1 fun e => by
    obtain ⟨c, t, z, hc⟩ := hr k e.symm
    rw [hc] at hk
    cases hk
    cases ho).trans hk⟩
theorem row_cells {w : World} {lo : Nat} {e : TypeId} {v : Value} {n : Nat} {xs : List Value} (h : w.ownsRow lo e 1 v n xs) (r : Nat) (hr : v.ownBlock = some r) : ∃ c t z, w.heap[r]? = some (.cells c t z) := by
  rcases h.2 with ⟨rfl, -⟩ | ⟨g, cap, cur, rfl, -, h2, -⟩
  · cases hr
  · cases hr
    exact ⟨_, _, _, h2⟩

/-- the iterator's contract, for a loop that writes the blocks of S alone -/
theorem parts_stopsX (n : Nat) (hn : 1 ≤ n) (B N S' : Nat) (S : Nat → Prop) (hS : S' < 64) (w : World) (hB : B < N ∧ ¬ S B) (hN : N ≤ w.heap.size) (hc : w.cell? ⟨B, 0, none⟩ = some (.int .i64 (S' : Nat))) :
    SeqStopsK Fence.wide n Try.prog 93 #[.pointer (some ⟨B, 0, none⟩)] (fun x : Part S' => #[Value.int .i64 (x.1 : Nat)]) (KpX S N) (fun ys => ys = partsAll S') (fun pre => pre <+: partsAll S') (partsAll S').length w :=
  fun l J Jx W hW h1 h2 hY h0 => parts_stops n hn B 0 S' hS w (by omega) hc l J Jx W hW h1 h2 (fun pre x W1 hJ hl => by
    obtain ⟨fn, tmps, assign, body, hy, hR⟩ := hY pre x W1 hJ hl
    refine ⟨fn, tmps, assign, body, hy, hR.mono ?_⟩
    rintro e W' (⟨a, b, k⟩ | h)
    · exact .inl ⟨a, b, k.below (Nat.zero_le _) (fun k hk => by omega), k.block B hB.1 hB.2⟩
    · exact .inr h) h0

/-- what a rule tells of all sets -/
def byL (P : Nat) (f : Nat → Int) : List Int := (partsAll (wholeN P)).map fun x => f x.1
def byV (P : Nat) (f : Nat → Int) : Int × List Int × Bool := if okW P (byL P f) then ((P : Int), byL P f, true) else (0, [], false)

/-- a rule on one set, as the program's closure tells it -/
def RuleOne (w : World) (g : Nat) (caps : Array Value) (S : Nat) (f : Nat → Int) : Prop :=
  ∀ W, Below w.heap.size w W → ∀ s : Part S, Calls Try.prog g (#[.int .i64 (s.1 : Nat)] ++ caps) W fun e W' => e = .returned (.int .i64 (f s.1)) ∧ Below W.heap.size W W'

theorem by_no (p : Int) (g : Nat) (caps : Array Value) (w : World) (h : inB 1 6 p = false) :
    Calls Try.prog 66 #[.int .i64 p, .func (.func g) #[] caps] w (OutWorths w (0, [], false)) := by
  have HM := Lib.hid h
  clear h
  go_enter Try.func66, Try.ntmps66
  go_wp2_with (go_at_call 59; refine (areMembers_any _ _).mono ?_; rintro e w1 ⟨rfl, rfl⟩; rw [HM.out])
  refine bodyPost_ret (v := .tuple #[worthsV 0 none 0 0, .bool false]) (by simp [results, Try.f66, go_sem]) rfl ?_
  exact ⟨none, 0, 0, rfl, own_nil _ (Nat.le_refl _), below2⟩

set_option maxRecDepth 100000 in
set_option maxHeartbeats 4000000 in
theorem by_yes (P g : Nat) (caps : Array Value) (f : Nat → Int) (w : World) (hP1 : 1 ≤ P) (hP : P ≤ 6) (eg : ∀ args w, (callFunc g args).run Try.prog w = .ok (.enter g args) w) (hf : RuleOne w g caps (wholeN P) f) (hbig : ∀ s, Big (f s)) :
    Calls Try.prog 66 #[.int .i64 (P : Nat), .func (.func g) #[] caps] w (OutWorths w (byV P f)) := by
  have hS := wholeN_lt hP
  have HM : Hid (inB 1 6 (P : Nat) = true) := Lib.hid (inB_true.2 ⟨by omega, by omega⟩)
  obtain ⟨i0, hi, hz0, hz1, hz2⟩ := info_parts (P := Try.prog) (e := 2) (z := .int .i64 0) (size := 1) (bytes := 8) (by kernel_rfl)
  refine (callsIn_wide (n := 12)).1 ?_
  refine callsIn_of_wp_marks Try.func66 rfl trivial ?_ rfl
  simp only [Try.ntmps66, List.size_toArray, List.length_cons, List.length_nil, Nat.reduceAdd, Nat.reduceSub, Array.replicate_succ, Array.replicate_zero, List.push_toArray, List.append_toArray, List.nil_append, List.cons_append]
  gi_wp2_with (first
    | (refine ⟨trivial, ?_⟩; gi_at_call 59; refine (callsIn_wide.2 (areMembers_any _ _)).mono ?_; rintro e w1 ⟨rfl, rfl⟩; rw [HM.out])
    | (refine ⟨trivial, ?_⟩; gi_at_call 91; refine (callsIn_wide.2 (wholeOf_any P hP _)).mono ?_; rintro e w1 ⟨rfl, rfl⟩)
    | (refine ⟨trivial, ?_⟩; gi_at_call 69; refine (callsIn_wide.2 (partsOf_any _ _)).mono ?_; rintro e w1 ⟨rfl, rfl⟩))
  obtain ⟨n0, hn0⟩ : ∃ n0, w.heap.size = n0 := ⟨_, rfl⟩
  have BO := Boxed.new (((w.alloc (.cells #[.func (.func g) #[] caps] 58)).alloc (.cells #[.int .i64 0, .slice none 0 0] 27)).alloc (.cells #[.int .i64 (P : Nat), .slice none 0 0] 27)) 2 (.int .i64 (wholeN P : Nat))
  have hb0 := below4 (w := w) (o := .cells #[.func (.func g) #[] caps] 58) (p := .cells #[.int .i64 0, .slice none 0 0] 27) (q := .cells #[.int .i64 (P : Nat), .slice none 0 0] 27) (r := .cells #[.int .i64 (wholeN P : Nat)] 2)
  have F0 : Boxed _ w.heap.size 58 (.func (.func g) #[] caps) := heap4a (w := w) (o := .cells #[.func (.func g) #[] caps] 58) (p := .cells #[.int .i64 0, .slice none 0 0] 27) (q := .cells #[.int .i64 (P : Nat), .slice none 0 0] 27) (r := .cells #[.int .i64 (wholeN P : Nat)] 2)
  have R0 : Box2 _ (w.heap.size + 1) 27 (.int .i64 0) (.slice none 0 0) := heap4b (w := w) (o := .cells #[.func (.func g) #[] caps] 58) (p := .cells #[.int .i64 0, .slice none 0 0] 27) (q := .cells #[.int .i64 (P : Nat), .slice none 0 0] 27) (r := .cells #[.int .i64 (wholeN P : Nat)] 2)
  have T0 : Box2 _ (w.heap.size + 2) 27 (.int .i64 (P : Nat)) (.slice none 0 0) := heap4c (w := w) (o := .cells #[.func (.func g) #[] caps] 58) (p := .cells #[.int .i64 0, .slice none 0 0] 27) (q := .cells #[.int .i64 (P : Nat), .slice none 0 0] 27) (r := .cells #[.int .i64 (wholeN P : Nat)] 2)
  have hsz : ((((w.alloc (.cells #[.func (.func g) #[] caps] 58)).alloc (.cells #[.int .i64 0, .slice none 0 0] 27)).alloc (.cells #[.int .i64 (P : Nat), .slice none 0 0] 27)).alloc (.cells #[.int .i64 (wholeN P : Nat)] 2)).heap.size = n0 + 4 := by simp; omega
  simp only [World.size_alloc] at BO
  generalize ((((w.alloc (.cells #[.func (.func g) #[] caps] 58)).alloc (.cells #[.int .i64 0, .slice none 0 0] 27)).alloc (.cells #[.int .i64 (P : Nat), .slice none 0 0] 27)).alloc (.cells #[.int .i64 (wholeN P : Nat)] 2)) = W0 at *
  have HF : Hid (∀ W, Below n0 W0 W → ∀ s : Part (wholeN P), Calls Try.prog g (#[.int .i64 (s.1 : Nat)] ++ caps) W fun e W' => e = .returned (.int .i64 (f s.1)) ∧ Below W.heap.size W W') :=
    Lib.hid fun W hW => hf W (hb0.trans (by rw [hn0]; exact hW))
  have HB0 := Lib.hid hb0
  have HEW := Lib.hid eg
  have HBIG := Lib.hid hbig
  clear hb0 hf eg hbig
  simp only [hn0] at BO F0 R0 T0 ⊢
  have HN0 := Lib.hid hn0
  clear hn0
  have hpl : (partsAll (wholeN P)).length ≤ 64 := Nat.le_trans (List.length_filterMap_le _ _) (by simp; omega)
  refine wpIn_rangeFunc_ownH rfl (by decide) (gf := 93) (lb := #[.pointer (some ⟨n0 + 1 + 1 + 1, 0, none⟩)]) rfl trivial (enters_of Try.func93 (by kernel_rfl) rfl)
    (parts_stopsX (12 - 1) (by decide) (n0 + 3) (n0 + 4) (wholeN P) (fun k => k = n0 + 2) hS W0 ⟨by omega, by omega⟩ (by omega) BO.cell) kpX_t (kpX_b (by omega)) (Below.refl _ _) (fun _ => rfl)
    (fun pre W => ∃ a cap, Box2 W (n0 + 2) 27 (.int .i64 (P : Nat)) (.slice a pre.length cap) ∧ W.ownsRow (n0 + 4) 2 1 (.slice a pre.length cap) pre.length (pre.map fun x => Value.int .i64 (f x.1)) ∧ KpX (fun k => k = n0 + 2) (n0 + 4) W0 W)
    (fun _ _ _ => False)
    (fun s X Y row hs hg hr => by
      obtain ⟨a, cap, h1, h2, h3⟩ := hs
      refine ⟨a, cap, (hg.block _ h1.lt fun e => ?_).trans h1, ownFrom_row (fun _ : Unit => .slice a s.length cap) (fun _ => s.length) (fun _ => s.map fun x => Value.int .i64 (f x.1)) () X Y row h2 hg hr, ownFrom_kpX (β := Unit) (by omega) (by omega) () X Y row h3 hg hr⟩
      obtain ⟨h4, _⟩ := hr _ e.symm
      omega)
    (fun _ _ _ _ _ hs _ _ => hs)
    ⟨none, 0, T0, World.ownsRow_nil _ _ _ _, KpX.refl⟩
    (fun x a' W => a' = { tmps := #[.int .i64 (P : Nat), .func (.func g) #[] caps, undef, .pointer (some ⟨n0, 0, none⟩), .pointer (some ⟨n0 + 1, 0, none⟩), .bool false, .pointer (some ⟨n0 + 1 + 1, 0, none⟩), .int .i64 (x.1 : Nat), .int .i64 (P : Nat), .bool true, .bool false, undef, .int .i64 (P : Nat), .agg #[.int .i64 (P : Nat), .slice none 0 0], .int .i64 (P : Nat), .int .i64 (wholeN P : Nat), .func (.func 93) #[] #[.pointer (some ⟨n0 + 1 + 1 + 1, 0, none⟩)], .int .i64 (x.1 : Nat), undef, undef, undef, undef, undef, undef, undef, undef, undef, undef, undef, undef, undef], defers := [] })
    (fun _ _ _ _ _ _ hs _ _ => hs)
    ?assign ?body ?done ?stop
  case assign =>
    rintro l pre x W K hi hK
    gi_wp2
    exact hK _ _ (KeepsFrom.refl _ _) KpX.refl hi rfl
  case body =>
    rintro l pre x a' W hl ⟨r, hr⟩ ⟨a, cap, hx, ho, hK⟩ rfl hlt
    have sN := hK.size
    have hm64 : pre.length ≤ 63 := by omega
    have HX := Lib.hid hx
    have HO := Lib.hid ho
    have HK := Lib.hid hK
    have p1 := fun y : ExtW W => (HX.out.below y.ext).c1
    have pF := fun y : ExtW W => (boxed_ext (hK.boxed (by omega) (by omega) F0) y.ext).cell
    have HFX : Hid (∀ y : ExtW W, Calls Try.prog g (#[.int .i64 (x.1 : Nat)] ++ caps) y.val fun e W' => e = .returned (.int .i64 (f x.1)) ∧ Below y.val.heap.size y.val W') := Lib.hid fun y => HF.out y.val ((hK.below (n := n0) (by omega) (fun k hk => by omega)).trans (y.ext.mono (by omega))) x
    obtain ⟨k, hkx⟩ : ∃ k, x.1 = k := ⟨_, rfl⟩
    have HSN : Hid ((pre ++ [x]).map (fun x => Value.int .i64 (f x.1)) = pre.map (fun x => Value.int .i64 (f x.1)) ++ [Value.int .i64 (f k)]) := Lib.hid (by simp [hkx])
    have HLN : Hid ((pre ++ [x]).length = pre.length + 1) := Lib.hid (by simp)
    rw [hkx] at HFX ⊢
    generalize f k = v at *
    generalize hml : pre.length = m at *
    have HML := Lib.hid hml
    clear hx ho hK hr hml
    gi_wp2_with fail
    refine region_move_in (C := fun w' => ∃ y : ExtW W, w' = y.val) 4 2 (by kernel_rfl) (by kernel_rfl) rfl ⟨⟨W.drew, Below.drew (Below.refl _ _)⟩, rfl⟩ ?_
    simp only [List.take_succ_cons, List.take_zero, List.drop_succ_cons, List.drop_zero]
    repeat (go_big_quiet_step (fail))
    refine wpQuiet_nil ?_
    intro _ hw'
    obtain ⟨y, hy⟩ := hw'
    subst hy
    simp only [seqC, stepIn]
    gi_wp2_with fail
    refine ⟨trivial, ?_⟩
    rw [HEW.out]
    refine ⟨by simp [Fence.wide], ?_⟩
    refine (callsIn_wide.2 (HFX.out y)).mono ?_
    rintro e w2 ⟨rfl, b2⟩
    have hb2 := below_after y.ext (Nat.le_refl _) b2
    have HB2 := Lib.hid hb2
    clear b2 hb2 p1 pF
    gi_wp2_with fail
    refine ⟨⟨⟨w2, HB2.out⟩, rfl⟩, ?_⟩
    gi_wp2_with fail
    refine ⟨⟨⟨_, HB2.out.alloc HB2.out.size (.cells #[.int .i64 v] 2)⟩, rfl⟩, ?_⟩
    have HO2 := Lib.hid (ownsRow_block HO.out fun k hk => HB2.out.block k (HO.out.lt k hk).2)
    have hs2 := HB2.out.size
    refine wpListIn_append_own _ rfl (.tmp 19) (.tmp 23) 22 rfl (n0 + 4) 2 i0 (.int .i64 0) 1 8 Try.underlying22 hi hz0 hz1 hz2 rfl (by decide) _ m _ rfl (HO2.out.alloc _) ⟨w2.heap.size, 0, none⟩ 1 1 [.int .i64 v] rfl rfl (news_one _ _ (by simp)) (one_int _) (by unfold maxLen; omega) (by omega) (by simp; omega) ?_
    intro v' w1 hown hgrow _
    obtain ⟨a', cap', rfl⟩ := row_slice hown
    have hBa : Below W.heap.size W (w2.alloc (.cells #[.int .i64 v] 2)) := HB2.out.alloc hs2 _
    have hB4 : Below (n0 + 4) W w1 := Below.grown (hBa.mono (by omega)) hgrow (by simp; omega) (fun k hk => (World.ownsRow.lt HO2.out k hk).1)
    have hko : KeepsFrom W0.heap.size W w1 := (keepsFrom_ext hBa).trans ((keepsOthers_grown hgrow (row_cells (HO2.out.alloc _))).from _)
    have hX1 : Box2 w1 (n0 + 2) 27 (.int .i64 (P : Nat)) (.slice a m cap) := (hB4.block (n0 + 2) (by omega)).trans HX.out
    have HX1 := Lib.hid hX1
    have c1 := hX1.c1
    have f1 := hX1.free 1
    have HKO := Lib.hid hko
    have HB4 := Lib.hid hB4
    have HOW := Lib.hid hown
    clear hX1 hko hB4 hBa hown hgrow
    gi_wp2
    have hkp : KpX (fun k => k = n0 + 2) (n0 + 4) W (w1.setCell ⟨n0 + 1 + 1, 1, none⟩ (.slice a' (m + 1) cap')) := (KpX.of_below HB4.out).trans (KpX.set (.inl rfl))
    refine ⟨HKO.out.trans ((KeepsOthers.setCell _ _ _).from _), hkp, a', cap', ?_, ?_, HK.out.trans hkp⟩
    · rw [HLN.out]
      exact Box2.set1 HX1.out
    · rw [HLN.out, HSN.out]
      refine ownsRow_block HOW.out fun k hk => Below.heap_setCell _ _ _ _ ?_
      have := (HOW.out.lt k hk).1
      show k ≠ n0 + 1 + 1
      omega
  case done =>
    rintro D zs W hD rfl ⟨a, cap, hx, ho, hK⟩ hD2
    have hlen : (partsAll (wholeN P)).length = (byL P f).length := by simp [byL]
    have HO := Lib.hid ho
    have HX := Lib.hid hx
    have HK := Lib.hid hK
    have hiat : IAt W a (partsAll (wholeN P)).length (byL P f) := (own_of_row (zs := byL P f) (by
      have : (byL P f).map (Value.int .i64) = (partsAll (wholeN P)).map fun x => Value.int .i64 (f x.1) := by simp [byL]
      rw [this]
      exact ho) (by
      intro z hz
      simp only [byL, List.mem_map] at hz
      obtain ⟨x, -, rfl⟩ := hz
      exact HBIG.out _)).iat
    have HI := Lib.hid hiat
    generalize (partsAll (wholeN P)).length = m at *
    clear hx ho hK hiat hlen
    obtain ⟨⟨q0, q1⟩, _⟩ := HX.out.all
    gi_wp2_with fail
    refine ⟨trivial, ?_⟩
    refine (callsIn_wide.2 (implValidW_any _ _ _ _ (byL P f) W HI.out)).mono ?_
    rintro e w2 ⟨rfl, b2⟩
    have hDl : D < W.heap.size := (Array.getElem?_eq_some_iff.1 hD2).1
    have hD3 : w2.heap[D]? = some (.deferred (some [])) := (b2.block D hDl).trans hD2
    have hR2 : Box2 w2 (n0 + 1) 27 (.int .i64 0) (.slice none 0 0) := (b2.block _ (by have := HK.out.size; omega)).trans ((HK.out.block (n0 + 1) (by omega) (by omega)).trans R0)
    have hX2 : Box2 w2 (n0 + 2) 27 (.int .i64 (P : Nat)) (.slice a m cap) := HX.out.below b2
    have hO2 := ownsRow_block HO.out fun k hk => b2.block k (HO.out.lt k hk).2
    have hB2 : Below n0 W0 w2 := (HK.out.below (n := n0) (by omega) (fun k hk => by omega)).trans (b2.mono (by have := HK.out.size; omega))
    have HD3 := Lib.hid hD3
    have HR2 := Lib.hid hR2
    have HO2 := Lib.hid hO2
    have HB2 := Lib.hid hB2
    have hLm : (partsAll (wholeN P)).map (fun x => Value.int .i64 (f x.1)) = (byL P f).map (Value.int .i64) := by simp [byL]
    have HLM := Lib.hid hLm
    have hbigL : ∀ z ∈ byL P f, Big z := by
      intro z hz
      simp only [byL, List.mem_map] at hz
      obtain ⟨x, -, rfl⟩ := hz
      exact HBIG.out _
    have HBL := Lib.hid hbigL
    cases hok : okW (P : Nat) (byL P f) with
    | false =>
      have E : Hid (byV P f = (0, [], false)) := Lib.hid (by unfold byV; rw [hok]; rfl)
      obtain ⟨⟨r0, r1⟩, g0, g1⟩ := hR2.all
      clear q0 q1 hok hR2 hX2 hO2 hB2 hD3 b2 hLm hbigL
      gi_wp2
      have hr4 := (HR2.out.set0 (u := .int .i64 0)).set1 (u := .slice none 0 0)
      have hD4 : ((w2.setCell ⟨n0 + 1, 0, none⟩ (.int .i64 0)).setCell ⟨n0 + 1, 1, none⟩ (.slice none 0 0)).heap[D]? = some (.deferred (some [])) :=
        (Below.heap_setCell _ ⟨n0 + 1, 1, none⟩ _ D (by show D ≠ n0 + 1; omega)).trans ((Below.heap_setCell _ ⟨n0 + 1, 0, none⟩ _ D (by show D ≠ n0 + 1; omega)).trans HD3.out)
      have c0 := cell_kept hr4.c0 (grownBy_putObj' _ D (.deferred none)) (fun r e => by cases e; exact ⟨_, hD4, rfl⟩)
      have c1 := cell_kept hr4.c1 (grownBy_putObj' _ D (.deferred none)) (fun r e => by cases e; exact ⟨_, hD4, rfl⟩)
      refine ⟨by simp, .inl ⟨_, _, rfl, run_takeDeferred hD4, ?_⟩⟩
      refine ⟨.tuple #[worthsV 0 none 0 0, .bool false], ?_, ?_⟩
      · simp [results, Try.f66, go_sem, c0, c1]
      · rw [E.out]
        refine ⟨none, 0, 0, rfl, own_nil _ (Nat.le_refl _), ?_⟩
        exact (((HB0.out.trans (HB2.out.mono (by have := HN0.out; omega))).setCell (p := ⟨n0 + 1, 0, none⟩) (by show w.heap.size ≤ n0 + 1; have := HN0.out; omega) _).setCell (p := ⟨n0 + 1, 1, none⟩) (by show w.heap.size ≤ n0 + 1; have := HN0.out; omega) _).trans (belowK_b (w := w) (Nat.le_refl _) _ D _ _ (by have := HN0.out; omega) hD4 rfl rfl)
    | true =>
      have E : Hid (byV P f = ((P : Int), byL P f, true)) := Lib.hid (by unfold byV; rw [hok]; rfl)
      obtain ⟨⟨r0, r1⟩, g0, g1⟩ := hR2.all
      obtain ⟨⟨s0, s1⟩, _⟩ := hX2.all
      clear q0 q1 hok hR2 hX2 hO2 hB2 hD3 b2 hLm hbigL
      gi_wp2
      have hr4 := (HR2.out.set0 (u := .int .i64 (P : Nat))).set1 (u := .slice a m cap)
      have hD4 : ((w2.setCell ⟨n0 + 1, 0, none⟩ (.int .i64 (P : Nat))).setCell ⟨n0 + 1, 1, none⟩ (.slice a m cap)).heap[D]? = some (.deferred (some [])) :=
        (Below.heap_setCell _ ⟨n0 + 1, 1, none⟩ _ D (by show D ≠ n0 + 1; omega)).trans ((Below.heap_setCell _ ⟨n0 + 1, 0, none⟩ _ D (by show D ≠ n0 + 1; omega)).trans HD3.out)
      have c0 := cell_kept hr4.c0 (grownBy_putObj' _ D (.deferred none)) (fun r e => by cases e; exact ⟨_, hD4, rfl⟩)
      have c1 := cell_kept hr4.c1 (grownBy_putObj' _ D (.deferred none)) (fun r e => by cases e; exact ⟨_, hD4, rfl⟩)
      refine ⟨by simp, .inl ⟨_, _, rfl, run_takeDeferred hD4, ?_⟩⟩
      refine ⟨.tuple #[worthsV (P : Nat) a m cap, .bool true], ?_, ?_⟩
      · simp [results, Try.f66, go_sem, c0, c1]
      · rw [E.out]
        refine ⟨a, m, cap, rfl, ?_, ?_⟩
        · have ho4 : (((w2.setCell ⟨n0 + 1, 0, none⟩ (.int .i64 (P : Nat))).setCell ⟨n0 + 1, 1, none⟩ (.slice a m cap)).putObj D (.deferred none)).ownsRow (n0 + 4) 2 1 (.slice a m cap) m ((byL P f).map (Value.int .i64)) := by
            rw [← HLM.out]
            refine ownsRow_block HO2.out fun k hk => ?_
            have h1 := (HO2.out.lt k hk).1
            obtain ⟨cc, tt, zz, h2⟩ := row_cells HO2.out k hk
            have hkD : k ≠ D := fun e => by rw [e, HD3.out] at h2; cases h2
            have h3 : (((w2.setCell ⟨n0 + 1, 0, none⟩ (.int .i64 (P : Nat))).setCell ⟨n0 + 1, 1, none⟩ (.slice a m cap)).putObj D (.deferred none)).heap[k]? = ((w2.setCell ⟨n0 + 1, 0, none⟩ (.int .i64 (P : Nat))).setCell ⟨n0 + 1, 1, none⟩ (.slice a m cap)).heap[k]? := by
              simp [World.putObj, Ne.symm hkD]
            rw [h3]
            exact (Below.heap_setCell _ ⟨n0 + 1, 1, none⟩ _ k (by show k ≠ n0 + 1; omega)).trans (Below.heap_setCell _ ⟨n0 + 1, 0, none⟩ _ k (by show k ≠ n0 + 1; omega))
          exact (own_of_row ho4 HBL.out).wide (by have := HN0.out; omega) (Nat.le_refl _) (Nat.le_refl _)
        · exact (((HB0.out.trans (HB2.out.mono (by have := HN0.out; omega))).setCell (p := ⟨n0 + 1, 0, none⟩) (by show w.heap.size ≤ n0 + 1; have := HN0.out; omega) _).setCell (p := ⟨n0 + 1, 1, none⟩) (by show w.heap.size ≤ n0 + 1; have := HN0.out; omega) _).trans (belowK_b (w := w) (Nat.le_refl _) _ D _ _ (by have := HN0.out; omega) hD4 rfl rfl)
  case stop =>
    rintro D c pre W hD hpre h
    exact h.elim
end Go.Proofs.Ytljlijmdjbodcaa
