/-
  TurnGame: both players exchanged. The value, and the program's answer.
-/
import Derived.Test.YtnmehenkbinfmaaGSt
namespace Go.Proofs.Ytnmehenkbinfmaa
open Go.RowKit Go.ChangeShapes Go.WideShapes Go.Shelf
set_option linter.unusedVariables false

def turnGV (r c : Int) (A B : List Int) : Int × Int × List Int × List Int × Bool := if okGame r c A B = true then (c, r, tab (turnF B r.toNat c.toNat) (c.toNat * r.toNat), tab (turnF A r.toNat c.toNat) (c.toNat * r.toNat), true) else (0, 0, [], [], false)
theorem turnGV_no {r c : Int} {A B : List Int} (h : okGame r c A B = false) : turnGV r c A B = (0, 0, [], [], false) := by unfold turnGV; rw [h]; rfl
theorem turnGV_yes {R C : Nat} {A B : List Int} (h : okGame R C A B = true) : turnGV R C A B = ((C : Int), (R : Int), tab (turnF B R C) (C * R), tab (turnF A R C) (C * R), true) := by unfold turnGV; rw [h]; rfl
theorem turnGV_len (r c : Int) (A B : List Int) : (turnGV r c A B).2.2.1.length + (turnGV r c A B).2.2.2.1.length ≤ 4096 := by
  cases h : okGame r c A B with
  | false => rw [turnGV_no h]; simp
  | true =>
    obtain ⟨R, C, rfl, rfl, h1, h2, h3, h4, _⟩ := okGame_true h
    rw [turnGV_yes h]
    have := Nat.mul_le_mul h4 h2
    simp only [tab, List.length_map, List.length_range]
    omega
theorem turn_big {X : List Int} {R C t : Nat} (h : ∀ z ∈ X, Big z) : ∀ z ∈ tab (turnF X R C) t, Big z := by
  intro z hz
  obtain ⟨i, _, rfl⟩ := List.mem_map.1 hz
  exact getD_big h _

set_option maxHeartbeats 4000000 in
set_option maxRecDepth 20000 in
theorem implTurnG_any (r c : Int) (a1 : Option Addr) (l1 c1 : Nat) (a2 : Option Addr) (l2 c2 : Nat) (A B : List Int) (w : World) (hA : IAt w a1 l1 A) (hB : IAt w a2 l2 B) :
    Calls Try.prog 37 #[gameV r c a1 l1 c1 a2 l2 c2] w (OutGame w (turnGV r c A B)) := by
  have b0 := Lib.hid (below2 (w := w) (o := .cells #[.int .i64 r, .int .i64 c, .slice a1 l1 c1, .slice a2 l2 c2] 27) (p := .cells #[.int .i64 0, .int .i64 0, .slice none 0 0, .slice none 0 0] 27))
  have HA := Lib.hid (hA.below b0.out)
  have HB := Lib.hid (hB.below b0.out)
  have HX : Hid (Box4 _ w.heap.size 27 (.int .i64 r) (.int .i64 c) (.slice a1 l1 c1) (.slice a2 l2 c2)) := Lib.hid (heap2a (w := w) (p := .cells #[.int .i64 0, .int .i64 0, .slice none 0 0, .slice none 0 0] 27))
  have HR : Hid (Box4 _ (w.heap.size + 1) 27 (.int .i64 0) (.int .i64 0) (.slice none 0 0) (.slice none 0 0)) := Lib.hid (heap2b (w := w) (o := .cells #[.int .i64 r, .int .i64 c, .slice a1 l1 c1, .slice a2 l2 c2] 27))
  clear hA hB
  cases s1 : okGame r c A B with
  | false =>
    have S1 := Lib.hid s1
    rw [turnGV_no s1]
    clear s1
    obtain ⟨⟨x0, x1, x2, x3⟩, _⟩ := HX.out.all
    go_enter Try.func37, Try.ntmps37
    go_wp2_with fail
    refine (implValid_any r c a1 l1 c1 a2 l2 c2 A B _ HA.out HB.out).mono ?_
    rintro e w1 ⟨rfl, b1⟩
    rw [S1.out]
    have B1 := Lib.hid (below_after b0.out (Nat.le_refl _) b1)
    have hr := HR.out.below b1
    have HR1 := Lib.hid hr
    obtain ⟨⟨r0, r1, r2, r3⟩, g0, g1, g2, g3⟩ := hr.all
    clear b1 hr x0 x1 x2 x3
    go_wp2_with fail
    have z := (((HR1.out.set0 (u := .int .i64 0)).set1 (u := .int .i64 0)).set2 (u := .slice none 0 0)).set3 (u := .slice none 0 0)
    have zb := (((B1.out.setCell (p := ⟨w.heap.size + 1, 0, none⟩) (by show w.heap.size ≤ _ + 1; omega) (.int .i64 0)).setCell (p := ⟨w.heap.size + 1, 1, none⟩) (by show w.heap.size ≤ _ + 1; omega) (.int .i64 0)).setCell (p := ⟨w.heap.size + 1, 2, none⟩) (by show w.heap.size ≤ _ + 1; omega) (.slice none 0 0)).setCell (p := ⟨w.heap.size + 1, 3, none⟩) (by show w.heap.size ≤ _ + 1; omega) (.slice none 0 0)
    generalize (((w1.setCell ⟨w.heap.size + 1, 0, none⟩ (.int .i64 0)).setCell ⟨w.heap.size + 1, 1, none⟩ (.int .i64 0)).setCell ⟨w.heap.size + 1, 2, none⟩ (.slice none 0 0)).setCell ⟨w.heap.size + 1, 3, none⟩ (.slice none 0 0) = W5 at *
    have k0 := z.c0
    have k1 := z.c1
    have k2 := z.c2
    have k3 := z.c3
    refine bodyPost_ret (v := .tuple #[gameV 0 0 none 0 0 none 0 0, .bool false]) (by simp [results, Try.f37, go_sem, k0, k1, k2, k3]) rfl ?_
    exact ⟨none, 0, 0, none, 0, 0, rfl, game_nil _ zb.size (Nat.le_refl _), zb⟩
  | true =>
    obtain ⟨R, C, rfl, rfl, r1, r6, q1, q6, hlA, hlB, _, _⟩ := okGame_true s1
    have S1 := Lib.hid s1
    rw [turnGV_yes s1]
    clear s1
    obtain ⟨b, off, rfl, rfl, hb, hc⟩ := game_at HA.out hlA r1 q1
    obtain ⟨b', off', rfl, rfl, hb', hc'⟩ := game_at HB.out hlB r1 q1
    have HBA := Lib.hid HA.out.2.2.1
    have HBB := Lib.hid HB.out.2.2.1
    have hRC : R * C ≤ 36 := Nat.mul_le_mul r6 q6
    obtain ⟨len, hlen⟩ : ∃ len, R * C = len := ⟨_, rfl⟩
    have HCA := Lib.hid hc
    have HCB := Lib.hid hc'
    rw [hlen] at HA HB HX HR b0 HCA HCB hb hb' hRC ⊢
    have HL := Lib.hid hlen
    clear hc hc' hlA hlB hlen
    obtain ⟨i0, hi, hz0, hz1, hz2⟩ := info_parts (P := Try.prog) (e := 2) (z := .int .i64 0) (size := 1) (bytes := 8) (by kernel_rfl)
    obtain ⟨⟨x0, x1, x2, x3⟩, _⟩ := HX.out.all
    go_enter Try.func37, Try.ntmps37
    go_wp2_with fail
    refine (implValid_any R C (some ⟨b, off, none⟩) len c1 (some ⟨b', off', none⟩) len c2 A B _ HA.out HB.out).mono ?_
    rintro e w1 ⟨rfl, b1⟩
    rw [S1.out]
    have B1 := Lib.hid (below_after b0.out (Nat.le_refl _) b1)
    have HR1 := Lib.hid (HR.out.below b1)
    have HX1 := Lib.hid (HX.out.below b1)
    have HCA1 : Hid (∀ i, i < len → w1.cell? ⟨b, off + i, none⟩ = some (.int .i64 (A.getD i 0))) := Lib.hid fun i hi => (b1.cell (p := ⟨b, off + i, none⟩) hb).trans (HCA.out i hi)
    have HCB1 : Hid (∀ i, i < len → w1.cell? ⟨b', off' + i, none⟩ = some (.int .i64 (B.getD i 0))) := Lib.hid fun i hi => (b1.cell (p := ⟨b', off' + i, none⟩) hb').trans (HCB.out i hi)
    have hsz : w.heap.size + 2 ≤ w1.heap.size := by have := b1.size; simp at this; omega
    have hb1 : b < w1.heap.size := by have := b1.size; omega
    have hb1' : b' < w1.heap.size := by have := b1.size; omega
    clear b1 HR HX HCA HCB HA HB b0 hb hb' x0 x1 x2 x3
    obtain ⟨⟨x0, x1, x2, x3⟩, _⟩ := HX1.out.all
    have BD := Lib.hid (below1 (w := w1) (o := .cells #[.int .i64 (C : Nat), .int .i64 (R : Nat), .slice none 0 0, .slice none 0 0] 27))
    have HG0 := Lib.hid (gst_start (w := w1) (r := (C : Nat)) (c := (R : Nat)))
    have hzd : (w1.alloc (.cells #[.int .i64 (C : Nat), .int .i64 (R : Nat), .slice none 0 0, .slice none 0 0] 27)).heap.size = w1.heap.size + 1 := by simp
    have y1 := (HX1.out.below BD.out).c1
    go_wp2_with fail
    clear y1
    generalize w1.alloc (.cells #[.int .i64 (C : Nat), .int .i64 (R : Nat), .slice none 0 0, .slice none 0 0] 27) = W0 at *
    obtain ⟨no, hno⟩ : ∃ no, w1.heap.size = no := ⟨_, rfl⟩
    have HNO := Lib.hid hno
    have HXW := Lib.hid (HX1.out.below BD.out)
    have HRW := Lib.hid (HR1.out.below BD.out)
    have HCAW : Hid (∀ i, i < len → W0.cell? ⟨b, off + i, none⟩ = some (.int .i64 (A.getD i 0))) := Lib.hid fun i hi => (BD.out.cell (p := ⟨b, off + i, none⟩) hb1).trans (HCA1.out i hi)
    have HCBW : Hid (∀ i, i < len → W0.cell? ⟨b', off' + i, none⟩ = some (.int .i64 (B.getD i 0))) := Lib.hid fun i hi => (BD.out.cell (p := ⟨b', off' + i, none⟩) hb1').trans (HCB1.out i hi)
    simp only [hno] at HG0 hzd hsz hb1 hb1' ⊢
    clear hno x0 x1 x2 x3 HX1 HR1 HCA1 HCB1
    go_loopw [19] (fun q wr => ∃ (k : Nat) (aA aB : Option Addr) (cA cB : Nat), k ≤ C ∧ q = .int .i64 k ∧ Hid (GSt W0 wr no (C : Nat) (R : Nat) aA (k * R) cA aB (k * R) cB (tab (turnF B R C) (k * R)) (tab (turnF A R C) (k * R)))) (fun q _ => C - (intOf q).toNat)
    case atStart => exact ⟨0, none, none, 0, 0, Nat.zero_le _, rfl, by rw [Nat.zero_mul]; exact HG0⟩
    case round =>
      clear HG0
      obtain ⟨k, aA, aB, cA, cB, hk, rfl, HG⟩ := hrel
      have hwz := HG.out.kp.size
      by_cases hlt : k < C
      · have hxr : Box4 wr w.heap.size 27 (.int .i64 (R : Nat)) (.int .i64 (C : Nat)) (.slice (some ⟨b, off, none⟩) len c1) (.slice (some ⟨b', off', none⟩) len c2) := (HG.out.kp.block _ (by omega) (by omega)).trans HXW.out
        obtain ⟨⟨x0, x1, x2, x3⟩, _⟩ := hxr.all
        clear hxr
        go_wp2_with fail
        clear x0 x1 x2 x3
        go_loopw [24] (fun q wr => ∃ (i : Nat) (aA aB : Option Addr) (cA cB : Nat), i ≤ R ∧ q = .int .i64 i ∧ Hid (GSt W0 wr no (C : Nat) (R : Nat) aA (k * R + i) cA aB (k * R + i) cB (tab (turnF B R C) (k * R + i)) (tab (turnF A R C) (k * R + i)))) (fun q _ => R - (intOf q).toNat)
        case atStart => exact ⟨0, aA, aB, cA, cB, Nat.zero_le _, rfl, HG⟩
        case round =>
          clear HG
          obtain ⟨i, aA, aB, cA, cB, hi2, rfl, HG⟩ := hrel
          have hwz2 := HG.out.kp.size
          by_cases hlt2 : i < R
          · have hpl : i * C + k < len := by rw [← HL.out]; exact place_lt hlt2 hlt
            have HVA : Hid (turnF A R C (k * R + i) = A.getD (i * C + k) 0) := Lib.hid (turnF_at hlt2)
            have HVB : Hid (turnF B R C (k * R + i) = B.getD (i * C + k) 0) := Lib.hid (turnF_at hlt2)
            have htl : k * R + i < 36 := by
              have h1 : k * R + i < C * R := place_lt hlt hlt2
              rw [Nat.mul_comm C R, HL.out] at h1
              omega
            have HTN : Hid (k * R + (i + 1) = k * R + i + 1) := Lib.hid rfl
            obtain ⟨t, ht⟩ : ∃ t, k * R + i = t := ⟨_, rfl⟩
            rw [ht] at HG HVA HVB htl HTN
            clear ht
            have HSA : Hid (tab (turnF A R C) (t + 1) = tab (turnF A R C) t ++ [A.getD (i * C + k) 0]) := Lib.hid (by rw [tab_succ, HVA.out])
            have HSB : Hid (tab (turnF B R C) (t + 1) = tab (turnF B R C) t ++ [B.getD (i * C + k) 0]) := Lib.hid (by rw [tab_succ, HVB.out])
            obtain ⟨p, hp⟩ : ∃ p, i * C = p := ⟨_, rfl⟩
            have hp' : (i : Int) * (C : Int) = (p : Int) := by rw [← hp]; push_cast; rfl
            rw [hp] at hpl HSA HSB
            clear hp
            obtain ⟨s, hs⟩ : ∃ s, p + k = s := ⟨_, rfl⟩
            have hs' : (p : Int) + (k : Int) = (s : Int) := by rw [← hs]; push_cast; rfl
            have hps : p ≤ s := by omega
            rw [hs] at hpl HSA HSB
            clear hs HVA HVB
            have hw1 : IntKind.i64.wrap (p : Int) = (p : Int) := IntWalk.i64_in _ (by omega)
            have hw2 : IntKind.i64.wrap (s : Int) = (s : Int) := IntWalk.i64_in _ (by omega)
            have hxr : Box4 wr w.heap.size 27 (.int .i64 (R : Nat)) (.int .i64 (C : Nat)) (.slice (some ⟨b, off, none⟩) len c1) (.slice (some ⟨b', off', none⟩) len c2) := (HG.out.kp.block _ (by omega) (by omega)).trans HXW.out
            obtain ⟨⟨x0, x1, x2, x3⟩, _⟩ := hxr.all
            go_upto_region 11 with fail
            clear x0 x1 x2 x3 hp' hs' hw1 hw2
            have m2 := fun y : ExtW wr => (HG.out.box.below y.ext).c2
            have n3 := fun y : ExtW wr => (hxr.below y.ext).c3
            have hcb := HG.out.kp.cell (b := b') (i := off' + s) (by omega) (by omega) (HCBW.out s hpl)
            have e1 := fun y : ExtW wr => (y.ext.cell (p := ⟨b', off' + s, none⟩) (by show b' < _; omega)).trans hcb
            clear hcb hxr
            generalize B.getD s 0 = vb at *
            refine region_move_wp (C := fun w' => ∃ y : ExtW wr, w' = y.val) 7 1 (by kernel_rfl) (by kernel_rfl) ⟨⟨wr.drew, Below.drew (Below.refl _ _)⟩, rfl⟩ ?_
            simp only [List.take_succ_cons, List.take_zero, List.drop_succ_cons, List.drop_zero]
            repeat (go_big_quiet_step (fail))
            refine wpQuiet_nil ?_
            intro _ hw'
            obtain ⟨y, hy⟩ := hw'
            subst hy
            simp only [seqC, stepIn]
            clear e1 m2 n3
            gi_wp2_with fail
            have hys := y.ext.size
            have hBa := y.ext.alloc hys (.cells #[.int .i64 vb] 2)
            refine ⟨⟨⟨_, hBa⟩, rfl⟩, ?_⟩
            have HO3 := Lib.hid (ownsRow_block HG.out.rowA fun k hk => y.ext.block k (HG.out.rowA.lt k hk).2)
            refine wpListIn_append_lies _ rfl (.tmp 34) (.tmp 40) 22 rfl (no + 1) 2 i0 (.int .i64 0) 1 8 Try.underlying22 hi hz0 hz1 hz2 rfl (by decide) _ t _ rfl (HO3.out.alloc _) ⟨y.val.heap.size, 0, none⟩ 1 1 [.int .i64 vb] rfl rfl (news_one _ _ (by simp)) (one_int _) (by decide) (by unfold maxLen; omega) (by omega) (by simp; omega) ?_
            intro g4 cap4 w4 hown hgrow hat
            have HG4 := Lib.hid (gst_A HG.out hBa hown hgrow hat)
            rw [← HSB.out] at HG4
            have hbx := gst_boxA HG.out hBa hgrow
            have cc2 := hbx.c2
            have f2 := hbx.free 2
            clear hown hgrow hat hBa hbx HG HO3
            gi_wp2_with fail
            clear cc2 f2 hys
            generalize w4.setCell ⟨no, 2, none⟩ (.slice (some ⟨g4, 0, none⟩) (t + 1) cap4) = W4 at *
            have hwz4 := HG4.out.kp.size
            have hxr : Box4 W4 w.heap.size 27 (.int .i64 (R : Nat)) (.int .i64 (C : Nat)) (.slice (some ⟨b, off, none⟩) len c1) (.slice (some ⟨b', off', none⟩) len c2) := (HG4.out.kp.block _ (by omega) (by omega)).trans HXW.out
            have m3 := fun y : ExtW W4 => (HG4.out.box.below y.ext).c3
            have n2 := fun y : ExtW W4 => (hxr.below y.ext).c2
            have hca := HG4.out.kp.cell (b := b) (i := off + s) (by omega) (by omega) (HCAW.out s hpl)
            have e2 := fun y : ExtW W4 => (y.ext.cell (p := ⟨b, off + s, none⟩) (by show b < _; omega)).trans hca
            clear hca hxr
            generalize A.getD s 0 = va at *
            go_wp2_with fail
            refine region_move_wp (C := fun w' => ∃ y : ExtW W4, w' = y.val) 7 1 (by kernel_rfl) (by kernel_rfl) ⟨⟨W4.drew, Below.drew (Below.refl _ _)⟩, rfl⟩ ?_
            simp only [List.take_succ_cons, List.take_zero, List.drop_succ_cons, List.drop_zero]
            repeat (go_big_quiet_step (fail))
            refine wpQuiet_nil ?_
            intro _ hw'
            obtain ⟨y2, hy⟩ := hw'
            subst hy
            simp only [seqC, stepIn]
            clear e2 m3 n2
            gi_wp2_with fail
            have hys := y2.ext.size
            have hBa := y2.ext.alloc hys (.cells #[.int .i64 va] 2)
            refine ⟨⟨⟨_, hBa⟩, rfl⟩, ?_⟩
            have HO3 := Lib.hid (ownsRow_block HG4.out.rowB fun k hk => y2.ext.block k (HG4.out.rowB.lt k hk).2)
            refine wpListIn_append_lies _ rfl (.tmp 44) (.tmp 50) 22 rfl (no + 1) 2 i0 (.int .i64 0) 1 8 Try.underlying22 hi hz0 hz1 hz2 rfl (by decide) _ t _ rfl (HO3.out.alloc _) ⟨y2.val.heap.size, 0, none⟩ 1 1 [.int .i64 va] rfl rfl (news_one _ _ (by simp)) (one_int _) (by decide) (by unfold maxLen; omega) (by omega) (by simp; omega) ?_
            intro g5 cap5 w5 hown hgrow hat
            have HG5 := Lib.hid (gst_B HG4.out hBa hown hgrow hat)
            rw [← HSA.out] at HG5
            have hbx := gst_boxB HG4.out hBa hgrow
            have cc3 := hbx.c3
            have f3 := hbx.free 3
            clear hown hgrow hat hBa hbx HG4 HO3
            gi_wp2_with fail
            clear cc3 f3 hys
            generalize w5.setCell ⟨no, 3, none⟩ (.slice (some ⟨g5, 0, none⟩) (t + 1) cap5) = W5 at *
            go_wp2_with fail
            go_roundw
            case rel => exact ⟨i + 1, _, _, _, _, by omega, by go_num, by rw [HTN.out]; exact HG5⟩
            case measure => simp [intOf]; omega
          · obtain rfl : i = R := by omega
            have HG2 : Hid (GSt W0 wr no (C : Nat) (i : Nat) aA ((k + 1) * i) cA aB ((k + 1) * i) cB (tab (turnF B i C) ((k + 1) * i)) (tab (turnF A i C) ((k + 1) * i))) := Lib.hid (by rw [Nat.succ_mul]; exact HG.out)
            clear HG
            go_wp2_with fail
            go_roundw
            case rel => exact ⟨k + 1, _, _, _, _, by omega, by go_num, HG2⟩
            case measure => simp [intOf]; omega
      · obtain rfl : k = C := by omega
        have hpos : 0 < k * R := Nat.mul_pos (by omega) (by omega)
        obtain ⟨⟨x0, x1, x2, x3⟩, _⟩ := HG.out.box.all
        have HGM := Lib.hid (gst_game HG.out hpos hpos (turn_big HBB.out) (turn_big HBA.out))
        have hN := HNO.out
        have HBW : Hid (Below w.heap.size w wr) := Lib.hid ((B1.out.trans (BD.out.mono (by omega))).trans (HG.out.kp.below (n := w.heap.size) (by omega) (fun k hk => by omega)))
        have hRW : Box4 wr (w.heap.size + 1) 27 (.int .i64 0) (.int .i64 0) (.slice none 0 0) (.slice none 0 0) := (HG.out.kp.block _ (by omega) (by omega)).trans HRW.out
        have HRW2 := Lib.hid hRW
        obtain ⟨⟨r0, r1, r2, r3⟩, g0, g1, g2, g3⟩ := hRW.all
        clear hRW
        obtain ⟨tt, htt⟩ : ∃ tt, k * R = tt := ⟨_, rfl⟩
        rw [htt] at HGM x2 x3 ⊢
        have HTT := Lib.hid htt
        clear htt HG
        go_wp2_with fail

        have z := (((HRW2.out.set0 (u := .int .i64 k)).set1 (u := .int .i64 R)).set2 (u := .slice aA tt cA)).set3 (u := .slice aB tt cB)
        have zb := (((HBW.out.setCell (p := ⟨w.heap.size + 1, 0, none⟩) (by show w.heap.size ≤ _ + 1; omega) (.int .i64 k)).setCell (p := ⟨w.heap.size + 1, 1, none⟩) (by show w.heap.size ≤ _ + 1; omega) (.int .i64 R)).setCell (p := ⟨w.heap.size + 1, 2, none⟩) (by show w.heap.size ≤ _ + 1; omega) (.slice aA tt cA)).setCell (p := ⟨w.heap.size + 1, 3, none⟩) (by show w.heap.size ≤ _ + 1; omega) (.slice aB tt cB)
        have za := (((HGM.out.far (n := w.heap.size + 1) (i := 0) (u := .int .i64 k) (by omega)).far (n := w.heap.size + 1) (i := 1) (u := .int .i64 R) (by omega)).far (n := w.heap.size + 1) (i := 2) (u := .slice aA tt cA) (by omega)).far (n := w.heap.size + 1) (i := 3) (u := .slice aB tt cB) (by omega)
        have zs : ((((wr.setCell ⟨w.heap.size + 1, 0, none⟩ (.int .i64 k)).setCell ⟨w.heap.size + 1, 1, none⟩ (.int .i64 R)).setCell ⟨w.heap.size + 1, 2, none⟩ (.slice aA tt cA)).setCell ⟨w.heap.size + 1, 3, none⟩ (.slice aB tt cB)).heap.size = wr.heap.size := by simp [World.setCell]
        generalize (((wr.setCell ⟨w.heap.size + 1, 0, none⟩ (.int .i64 k)).setCell ⟨w.heap.size + 1, 1, none⟩ (.int .i64 R)).setCell ⟨w.heap.size + 1, 2, none⟩ (.slice aA tt cA)).setCell ⟨w.heap.size + 1, 3, none⟩ (.slice aB tt cB) = W5 at *
        have zf := za.wide (lo' := w.heap.size) (hi' := W5.heap.size) (by omega) (by omega) (Nat.le_refl _)
        have k0 := z.c0
        have k1 := z.c1
        have k2 := z.c2
        have k3 := z.c3
        refine bodyPost_ret (v := .tuple #[gameV k R aA tt cA aB tt cB, .bool true]) (by simp [results, Try.f37, go_sem, k0, k1, k2, k3]) rfl ?_
        rw [HTT.out]
        exact ⟨aA, tt, cA, aB, tt, cB, rfl, zf, zb⟩
end Go.Proofs.Ytnmehenkbinfmaa
