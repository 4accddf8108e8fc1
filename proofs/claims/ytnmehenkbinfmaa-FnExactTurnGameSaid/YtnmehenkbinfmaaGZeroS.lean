/-
  ZeroSum: the reference's answer.
-/
import Derived.Test.YtnmehenkbinfmaaGZero
import Derived.Test.YtnmehenkbinfmaaMove
import Derived.Deep.Cut
namespace Go.Proofs.Ytnmehenkbinfmaa
open Go.RowKit Go.ChangeShapes Go.WideShapes Go.Shelf
set_option linter.unusedVariables false

def giveG (r c : Int) (a1 : Option Addr) (l1 c1 : Nat) (a2 : Option Addr) (l2 c2 : Nat) (A B : List Int) : Value := if okGame r c A B then .tuple #[gameV r c a1 l1 c1 a2 l2 c2, .bool true] else .tuple #[gameV 0 0 none 0 0 none 0 0, .bool false]
theorem giveG_no {r c : Int} {a1 : Option Addr} {l1 c1 : Nat} {a2 : Option Addr} {l2 c2 : Nat} {A B : List Int} (h : okGame r c A B = false) : giveG r c a1 l1 c1 a2 l2 c2 A B = .tuple #[gameV 0 0 none 0 0 none 0 0, .bool false] := by unfold giveG; rw [h]; rfl
theorem giveG_yes {r c : Int} {a1 : Option Addr} {l1 c1 : Nat} {a2 : Option Addr} {l2 c2 : Nat} {A B : List Int} (h : okGame r c A B = true) : giveG r c a1 l1 c1 a2 l2 c2 A B = .tuple #[gameV r c a1 l1 c1 a2 l2 c2, .bool true] := by unfold giveG; rw [h]; rfl
theorem big_wrap (x : Int) : Big (IntKind.i64.wrap x) := by
  have e : IntKind.i64.wrap x = if x % 18446744073709551616 ≥ 9223372036854775808 then x % 18446744073709551616 - 18446744073709551616 else x % 18446744073709551616 := by
    simp [IntKind.wrap, IntKind.signed, IntKind.bits]
  rw [e]
  unfold Big
  split <;> omega

theorem wrap_64 (x : Int) : IntKind.i64.wrap x = wrap64 x := by
  have e : IntKind.i64.wrap x = if x % 18446744073709551616 ≥ 9223372036854775808 then x % 18446744073709551616 - 18446744073709551616 else x % 18446744073709551616 := by
    simp [IntKind.wrap, IntKind.signed, IntKind.bits]
  rw [e]
  unfold wrap64
  split <;> omega

set_option maxRecDepth 20000 in
theorem giveG_any (r c : Int) (a1 : Option Addr) (l1 c1 : Nat) (a2 : Option Addr) (l2 c2 : Nat) (A B : List Int) (w : World) (hA : IAt w a1 l1 A) (hB : IAt w a2 l2 B) :
    Calls Try.prog 76 #[gameV r c a1 l1 c1 a2 l2 c2] w fun e w' => e = .returned (giveG r c a1 l1 c1 a2 l2 c2 A B) ∧ Below w.heap.size w w' := by
  have b0 := Lib.hid (below2 (w := w) (o := .cells #[.int .i64 r, .int .i64 c, .slice a1 l1 c1, .slice a2 l2 c2] 27) (p := .cells #[.int .i64 0, .int .i64 0, .slice none 0 0, .slice none 0 0] 27))
  have HA := Lib.hid (hA.below b0.out)
  have HB := Lib.hid (hB.below b0.out)
  have HX : Hid (Box4 _ w.heap.size 27 (.int .i64 r) (.int .i64 c) (.slice a1 l1 c1) (.slice a2 l2 c2)) := Lib.hid (heap2a (w := w) (p := .cells #[.int .i64 0, .int .i64 0, .slice none 0 0, .slice none 0 0] 27))
  have HR : Hid (Box4 _ (w.heap.size + 1) 27 (.int .i64 0) (.int .i64 0) (.slice none 0 0) (.slice none 0 0)) := Lib.hid (heap2b (w := w) (o := .cells #[.int .i64 r, .int .i64 c, .slice a1 l1 c1, .slice a2 l2 c2] 27))
  clear hA hB
  cases s1 : okGame r c A B with
  | false =>
    have S1 := Lib.hid s1
    rw [giveG_no s1]
    clear s1
    go_enter Try.func76, Try.ntmps76
    go_wp2_with fail
    refine (specIs_any w.heap.size r c a1 l1 c1 a2 l2 c2 A B _ HX.out HA.out HB.out).mono ?_
    rintro e w1 ⟨rfl, s1⟩
    rw [S1.out]
    have b1 := same_below s1 ((w.alloc (.cells #[.int .i64 r, .int .i64 c, .slice a1 l1 c1, .slice a2 l2 c2] 27)).alloc (.cells #[.int .i64 0, .int .i64 0, .slice none 0 0, .slice none 0 0] 27)).heap.size
    have B1 := Lib.hid (below_after b0.out (Nat.le_refl _) b1)
    have hr := HR.out.below b1
    have HR1 := Lib.hid hr
    obtain ⟨⟨r0, r1, r2, r3⟩, g0, g1, g2, g3⟩ := hr.all
    obtain ⟨⟨x0, x1, x2, x3⟩, _⟩ := (HX.out.below b1).all
    clear b1 hr s1
    go_wp2_with fail
    have z := (((HR1.out.set0 (u := .int .i64 0)).set1 (u := .int .i64 0)).set2 (u := .slice none 0 0)).set3 (u := .slice none 0 0)
    have zb := (((B1.out.setCell (p := ⟨w.heap.size + 1, 0, none⟩) (by show w.heap.size ≤ _ + 1; omega) (.int .i64 0)).setCell (p := ⟨w.heap.size + 1, 1, none⟩) (by show w.heap.size ≤ _ + 1; omega) (.int .i64 0)).setCell (p := ⟨w.heap.size + 1, 2, none⟩) (by show w.heap.size ≤ _ + 1; omega) (.slice none 0 0)).setCell (p := ⟨w.heap.size + 1, 3, none⟩) (by show w.heap.size ≤ _ + 1; omega) (.slice none 0 0)
    generalize (((w1.setCell ⟨w.heap.size + 1, 0, none⟩ (.int .i64 0)).setCell ⟨w.heap.size + 1, 1, none⟩ (.int .i64 0)).setCell ⟨w.heap.size + 1, 2, none⟩ (.slice none 0 0)).setCell ⟨w.heap.size + 1, 3, none⟩ (.slice none 0 0) = W5 at *
    have k0 := z.c0
    have k1 := z.c1
    have k2 := z.c2
    have k3 := z.c3
    refine bodyPost_ret (v := .tuple #[gameV 0 0 none 0 0 none 0 0, .bool false]) (by simp [results, Try.f76, go_sem, k0, k1, k2, k3]) rfl ?_
    exact ⟨rfl, zb⟩
  
  | true =>
    have S1 := Lib.hid s1
    rw [giveG_yes s1]
    clear s1
    go_enter Try.func76, Try.ntmps76
    go_wp2_with fail
    refine (specIs_any w.heap.size r c a1 l1 c1 a2 l2 c2 A B _ HX.out HA.out HB.out).mono ?_
    rintro e w1 ⟨rfl, s1⟩
    rw [S1.out]
    have b1 := same_below s1 ((w.alloc (.cells #[.int .i64 r, .int .i64 c, .slice a1 l1 c1, .slice a2 l2 c2] 27)).alloc (.cells #[.int .i64 0, .int .i64 0, .slice none 0 0, .slice none 0 0] 27)).heap.size
    have B1 := Lib.hid (below_after b0.out (Nat.le_refl _) b1)
    have hr := HR.out.below b1
    have HR1 := Lib.hid hr
    obtain ⟨⟨r0, r1, r2, r3⟩, g0, g1, g2, g3⟩ := hr.all
    obtain ⟨⟨x0, x1, x2, x3⟩, _⟩ := (HX.out.below b1).all
    clear b1 hr s1
    go_wp2_with fail
    have z := (((HR1.out.set0 (u := .int .i64 r)).set1 (u := .int .i64 c)).set2 (u := .slice a1 l1 c1)).set3 (u := .slice a2 l2 c2)
    have zb := (((B1.out.setCell (p := ⟨w.heap.size + 1, 0, none⟩) (by show w.heap.size ≤ _ + 1; omega) (.int .i64 r)).setCell (p := ⟨w.heap.size + 1, 1, none⟩) (by show w.heap.size ≤ _ + 1; omega) (.int .i64 c)).setCell (p := ⟨w.heap.size + 1, 2, none⟩) (by show w.heap.size ≤ _ + 1; omega) (.slice a1 l1 c1)).setCell (p := ⟨w.heap.size + 1, 3, none⟩) (by show w.heap.size ≤ _ + 1; omega) (.slice a2 l2 c2)
    generalize (((w1.setCell ⟨w.heap.size + 1, 0, none⟩ (.int .i64 r)).setCell ⟨w.heap.size + 1, 1, none⟩ (.int .i64 c)).setCell ⟨w.heap.size + 1, 2, none⟩ (.slice a1 l1 c1)).setCell ⟨w.heap.size + 1, 3, none⟩ (.slice a2 l2 c2) = W5 at *
    have k0 := z.c0
    have k1 := z.c1
    have k2 := z.c2
    have k3 := z.c3
    refine bodyPost_ret (v := .tuple #[gameV r c a1 l1 c1 a2 l2 c2, .bool true]) (by simp [results, Try.f76, go_sem, k0, k1, k2, k3]) rfl ?_
    exact ⟨rfl, zb⟩

set_option maxHeartbeats 4000000 in
set_option maxRecDepth 20000 in
theorem specZero_any (r c : Int) (ad : Addr) (l1 c1 : Nat) (A : List Int) (w : World) (hA : IAt w (some ad) l1 A) (hr : Big r) (hc : Big c) (hlen : l1 ≤ 1048576) :
    Calls Try.prog 29 #[.int .i64 r, .int .i64 c, .slice (some ad) l1 c1] w (OutGame w (zeroV r c A)) := by
  have b0 := Lib.hid (below1 (w := w) (o := .cells #[.int .i64 0, .int .i64 0, .slice none 0 0, .slice none 0 0] 27))
  have HR : Hid (Box4 _ w.heap.size 27 (.int .i64 0) (.int .i64 0) (.slice none 0 0) (.slice none 0 0)) := Lib.hid (heap1 (w := w))
  obtain ⟨i0, hi, hz0, hz1, hz2⟩ := info_parts (P := Try.prog) (e := 2) (z := .int .i64 0) (size := 1) (bytes := 8) (by kernel_rfl)
  have HA := Lib.hid (hA.below b0.out)
  have hz : (w.alloc (.cells #[.int .i64 0, .int .i64 0, .slice none 0 0, .slice none 0 0] 27)).heap.size = w.heap.size + 1 := by simp
  clear hA hr hc
  obtain ⟨W1, hW1⟩ : ∃ W1, W1 = w.alloc (.cells #[.int .i64 0, .int .i64 0, .slice none 0 0, .slice none 0 0] 27) := ⟨_, rfl⟩
  rw [← hW1] at b0 HR HA hz
  have HW1 := Lib.hid hW1
  have HZ := Lib.hid hz
  clear hW1 hz
  have HL := Lib.hid HA.out.1
  have HN : Hid (∀ j u, (A.map (Value.int .i64))[j]? = some u → (W1.alloc (.cells #[] 2)).cell? (ad.add j) = some u) := by
    rcases HA.out.2.2.2 with rfl | ⟨b, off, e, hb, hc⟩
    · obtain rfl := List.eq_nil_of_length_eq_zero HL.out
      exact Lib.hid (fun j u hj => by simp at hj)
    · obtain rfl : ad = ⟨b, off, none⟩ := by simpa using e
      exact Lib.hid (news_ints HL.out fun i hi => (below1.cell (p := ⟨b, off + i, none⟩) hb).trans (hc i hi))
  go_enter Try.func29, Try.ntmps29
  go_upto_region 1 with fail
  rw [← HW1.out]
  go_wp2_with (at_builtin; refine wpList_append_own _ rfl (.tmp 12) (.tmp 13) 22 rfl W1.heap.size 2 i0 (.int .i64 0) 1 8 Try.underlying22 hi hz0 hz1 hz2 rfl (by decide) _ 0 [] rfl (World.ownsRow_lit W1 #[] 0 (Nat.le_refl _) (by decide) rfl) ad l1 c1 (A.map (Value.int .i64)) rfl (by rw [List.length_map, HL.out, Nat.mul_one]) HN.out (ints_one A) (by unfold maxLen; omega) (by omega) (by simp) ?_)
  intro v2 w2 hown hgrow _
  obtain ⟨a2, c2, rfl⟩ := row_slice hown
  have hb2 : Below W1.heap.size W1 w2 := Below.grown (below1 (w := W1)) hgrow (by simp) (fun k hk => by
    have := (World.ownsRow.lt (World.ownsRow_lit W1 #[] 0 (Nat.le_refl _) (by decide) rfl : (W1.alloc (.cells #[] 2)).ownsRow W1.heap.size 2 1 _ 0 []) k hk).1
    exact this)
  have HO2 := Lib.hid (own_of_row (zs := A) (by simpa using hown) HA.out.2.2.1)
  have HB2 := Lib.hid hb2
  have HR2 := Lib.hid (HR.out.below hb2)
  have HA2 := Lib.hid (HA.out.below hb2)
  have hs2 := hb2.size
  clear hown hgrow hb2 HN HA HR
  have HT : Hid (Box4 _ w2.heap.size 27 (.int .i64 r) (.int .i64 c) (.slice a2 l1 c2) (.slice none 0 0)) := Lib.hid (heap1 (w := w2) (o := .cells #[.int .i64 r, .int .i64 c, .slice a2 l1 c2, .slice none 0 0] 27))
  have BD := Lib.hid (below1 (w := w2) (o := .cells #[.int .i64 r, .int .i64 c, .slice a2 l1 c2, .slice none 0 0] 27))
  have hzd : (w2.alloc (.cells #[.int .i64 r, .int .i64 c, .slice a2 l1 c2, .slice none 0 0] 27)).heap.size = w2.heap.size + 1 := by simp
  have HCW : Hid (l1 = 0 ∨ ∃ b off, ad = ⟨b, off, none⟩ ∧ b < w2.heap.size ∧ ∀ i, i < l1 → (w2.alloc (.cells #[.int .i64 r, .int .i64 c, .slice a2 l1 c2, .slice none 0 0] 27)).cell? ⟨b, off + i, none⟩ = some (.int .i64 (A.getD i 0))) := Lib.hid (by
    rcases HA2.out.2.2.2 with e | ⟨b, off, e, hb, hcl⟩
    · exact .inl e
    · obtain rfl : ad = ⟨b, off, none⟩ := by simpa using e
      exact .inr ⟨b, off, rfl, hb, fun i hi => (BD.out.cell (p := ⟨b, off + i, none⟩) hb).trans (hcl i hi)⟩)
  have HBIG := Lib.hid HA2.out.2.2.1
  go_wp2_with fail
  generalize w2.alloc (.cells #[.int .i64 r, .int .i64 c, .slice a2 l1 c2, .slice none 0 0] 27) = W0 at *
  obtain ⟨no, hno⟩ : ∃ no, w2.heap.size = no := ⟨_, rfl⟩
  have HNO := Lib.hid hno
  simp only [hno] at HT hzd hs2 HCW ⊢
  clear hno
  go_loopw [9] (fun q wr => ∃ (k : Nat) (a : Option Addr) (cap : Nat), k ≤ l1 ∧ q = .int .i64 k ∧ Hid (Box4 wr no 27 (.int .i64 r) (.int .i64 c) (.slice a2 l1 c2) (.slice a k cap)) ∧
      Hid (wr.ownsRow (no + 1) 2 1 (.slice a k cap) k ((negL (A.take k)).map (Value.int .i64))) ∧ Hid (KpX (fun k => k = no) (no + 1) W0 wr)) (fun q _ => l1 - (intOf q).toNat)
  case atStart => exact ⟨0, none, 0, Nat.zero_le _, rfl, HT, Lib.hid (World.ownsRow_nil _ _ _ _), Lib.hid KpX.refl⟩
  case round =>
    clear HT
    obtain ⟨k, a, cap, hk, rfl, HB, HO, HK⟩ := hrel
    have hsz2 := HK.out.size
    by_cases hlt : k < l1
    · obtain ⟨b, off, rfl, hb, hcl⟩ := HCW.out.resolve_left (by omega)
      have hcv : wr.cell? ⟨b, off + k, none⟩ = some (.int .i64 (A.getD k 0)) := HK.out.cell (i := off + k) (by omega) (by omega) (hcl k hlt)
      have hsn : negL (A.take (k + 1)) = negL (A.take k) ++ [wrap64 (-(A.getD k 0))] := by
        have hkl : k < A.length := by rw [HL.out]; exact hlt
        unfold negL
        rw [List.take_add_one, List.map_append, List.getElem?_eq_getElem hkl, List.getD_eq_getElem?_getD, List.getElem?_eq_getElem hkl]
        show _ ++ [IntKind.i64.wrap (-A[k])] = _ ++ [wrap64 (-A[k])]
        rw [wrap_64]
      have HSN := Lib.hid hsn
      have q3 := fun y : ExtW wr => (HB.out.below y.ext).c3
      have r1 := fun y : ExtW wr => (y.ext.cell (p := ⟨b, off + k, none⟩) (by show b < _; omega)).trans hcv
      clear hsn hcv hcl
      generalize A.getD k 0 = v at *
      go_wp2_with fail
      refine region_move_wp (C := fun w' => ∃ y : ExtW wr, w' = y.val) 7 1 (by kernel_rfl) (by kernel_rfl) ⟨⟨wr.drew, Below.drew (Below.refl _ _)⟩, rfl⟩ ?_
      simp only [List.take_succ_cons, List.take_zero, List.drop_succ_cons, List.drop_zero]
      repeat (go_big_quiet_step (fail))
      refine wpQuiet_nil ?_
      intro _ hw'
      obtain ⟨y, hy⟩ := hw'
      subst hy
      simp only [seqC, stepIn]
      clear r1
      gi_wp2_with fail
      have hys := y.ext.size
      have hBa := y.ext.alloc hys (.cells #[.int .i64 (wrap64 (-v))] 2)
      refine ⟨⟨⟨_, hBa⟩, rfl⟩, ?_⟩
      have HO3 := Lib.hid (ownsRow_block HO.out fun k hk => y.ext.block k (HO.out.lt k hk).2)
      refine wpListIn_append_own _ rfl (.tmp 23) (.tmp 29) 22 rfl (no + 1) 2 i0 (.int .i64 0) 1 8 Try.underlying22 hi hz0 hz1 hz2 rfl (by decide) _ k _ rfl (HO3.out.alloc _) ⟨y.val.heap.size, 0, none⟩ 1 1 [.int .i64 (wrap64 (-v))] rfl rfl (news_one _ _ (by simp)) (one_int _) (by unfold maxLen; omega) (by omega) (by simp; omega) ?_
      intro v' w4 hown hgrow _
      obtain ⟨a', cap', rfl⟩ := row_slice hown
      have hB4 : Below (no + 1) wr w4 := Below.grown (hBa.mono (by omega)) hgrow (by simp; omega) (fun k hk => (World.ownsRow.lt HO3.out k hk).1)
      have HX1 : Hid (Box4 w4 no 27 (.int .i64 r) (.int .i64 c) (.slice a2 l1 c2) (.slice a k cap)) := Lib.hid ((hB4.block no (by omega)).trans HB.out)
      have cc3 := HX1.out.c3
      have f3 := HX1.out.free 3
      have HB4 := Lib.hid hB4
      have HOW := Lib.hid hown
      clear hB4 hBa hown hgrow
      gi_wp2_with fail
      have HB5 : Hid (Box4 (w4.setCell ⟨no, 3, none⟩ (.slice a' (k + 1) cap')) no 27 (.int .i64 r) (.int .i64 c) (.slice a2 l1 c2) (.slice a' (k + 1) cap')) := Lib.hid (Box4.set3 HX1.out)
      have HO5 : Hid ((w4.setCell ⟨no, 3, none⟩ (.slice a' (k + 1) cap')).ownsRow (no + 1) 2 1 (.slice a' (k + 1) cap') (k + 1) ((negL (A.take (k + 1))).map (Value.int .i64))) := Lib.hid (by
        rw [HSN.out, List.map_append]
        refine ownsRow_block HOW.out fun k hk => Below.heap_setCell _ _ _ _ ?_
        have := (HOW.out.lt k hk).1
        show k ≠ no
        omega)
      have HK5 : Hid (KpX (fun k => k = no) (no + 1) W0 (w4.setCell ⟨no, 3, none⟩ (.slice a' (k + 1) cap'))) := Lib.hid (HK.out.trans ((KpX.of_below HB4.out).trans (KpX.set (.inl rfl))))
      generalize w4.setCell ⟨no, 3, none⟩ (.slice a' (k + 1) cap') = W5 at *
      clear cc3 f3 q3 hys
      go_wp2_with fail
      go_roundw
      case rel => exact ⟨k + 1, a', cap', by omega, by go_num, HB5, HO5, HK5⟩
      case measure => simp [intOf]; omega
    · obtain rfl : k = l1 := by omega
      obtain ⟨⟨x0, x1, x2, x3⟩, _⟩ := HB.out.all
      have hN := HNO.out
      have hz := HZ.out
      have htk : A.take k = A := List.take_of_length_le (by rw [HL.out]; exact Nat.le_refl _)
      have hrow := own_of_row (zs := negL A) (by have := HO.out; rw [htk] at this; exact this) (by
        intro z hz
        obtain ⟨x, hx, rfl⟩ := List.mem_map.1 hz
        exact big_wrap _)
      have HOB := Lib.hid hrow
      have HOA : Hid (Own wr W1.heap.size no a2 k c2 A) := Lib.hid (by
        have h := HO2.out
        rw [hN] at h
        exact h.keep (by omega) fun i h1 h2 => (HK.out.block i (by omega) (by omega)).trans (BD.out.block i (by omega)))
      have HBW : Hid (Below w.heap.size w wr) := Lib.hid ((b0.out.trans ((HB2.out.mono (by omega)).trans (BD.out.mono (by omega)))).trans (HK.out.below (n := w.heap.size) (by omega) (fun k hk => by omega)))
      have HRW : Hid (Box4 wr w.heap.size 27 (.int .i64 0) (.int .i64 0) (.slice none 0 0) (.slice none 0 0)) := Lib.hid ((HK.out.block _ (by omega) (by omega)).trans (HR2.out.below BD.out))
      have HIA := Lib.hid HOA.out.iat
      have HIB := Lib.hid HOB.out.iat
      clear hrow htk hz hN
      go_wp2_with fail
      refine (giveG_any r c a2 k c2 a k cap A (negL A) wr HIA.out HIB.out).mono ?_
      rintro e w4 ⟨rfl, b4⟩
      have HB4 := Lib.hid (below_after HBW.out (Nat.le_refl _) b4)
      have HOA4 := Lib.hid (HOA.out.below b4)
      have HOB4 := Lib.hid (HOB.out.below b4)
      have hr := HRW.out.below b4
      have HR4 := Lib.hid hr
      obtain ⟨⟨r0, r1, r2, r3⟩, g0, g1, g2, g3⟩ := hr.all
      have hs4 := b4.size
      clear hr b4 x0 x1 x2 x3
      cases hok : okGame r c A A with
      | false =>
        have E : Hid (zeroV r c A = (0, 0, [], [], false)) := Lib.hid (zeroV_no hok)
        rw [giveG_no (by rw [zero_ok]; exact hok)]
        clear hok
        go_wp2_with fail
        have z := (((HR4.out.set0 (u := .int .i64 0)).set1 (u := .int .i64 0)).set2 (u := .slice none 0 0)).set3 (u := .slice none 0 0)
        have zb := (((HB4.out.setCell (p := ⟨w.heap.size, 0, none⟩) (Nat.le_refl _) (.int .i64 0)).setCell (p := ⟨w.heap.size, 1, none⟩) (Nat.le_refl _) (.int .i64 0)).setCell (p := ⟨w.heap.size, 2, none⟩) (Nat.le_refl _) (.slice none 0 0)).setCell (p := ⟨w.heap.size, 3, none⟩) (Nat.le_refl _) (.slice none 0 0)
        generalize (((w4.setCell ⟨w.heap.size, 0, none⟩ (.int .i64 0)).setCell ⟨w.heap.size, 1, none⟩ (.int .i64 0)).setCell ⟨w.heap.size, 2, none⟩ (.slice none 0 0)).setCell ⟨w.heap.size, 3, none⟩ (.slice none 0 0) = W5 at *
        have k0 := z.c0
        have k1 := z.c1
        have k2 := z.c2
        have k3 := z.c3
        refine bodyPost_ret (v := .tuple #[gameV 0 0 none 0 0 none 0 0, .bool false]) (by simp [results, Try.f29, go_sem, k0, k1, k2, k3]) rfl ?_
        rw [E.out]
        exact ⟨none, 0, 0, none, 0, 0, rfl, game_nil _ zb.size (Nat.le_refl _), zb⟩
      | true =>
        have E : Hid (zeroV r c A = (r, c, A, negL A, true)) := Lib.hid (zeroV_yes hok)
        rw [giveG_yes (by rw [zero_ok]; exact hok)]
        clear hok
        have hN := HNO.out
        have hz := HZ.out
        have HF : Hid (w.heap.size < W1.heap.size ∧ W1.heap.size ≤ no ∧ w.heap.size < no + 1 ∧ wr.heap.size ≤ w4.heap.size ∧ no + 1 ≤ wr.heap.size) := Lib.hid ⟨by omega, by omega, by omega, by omega, by omega⟩
        clear hN hz
        go_wp2_with fail
        have hF := HF.out
        have z := (((HR4.out.set0 (u := .int .i64 r)).set1 (u := .int .i64 c)).set2 (u := .slice a2 k c2)).set3 (u := .slice a k cap)
        have zb := (((HB4.out.setCell (p := ⟨w.heap.size, 0, none⟩) (Nat.le_refl _) (.int .i64 r)).setCell (p := ⟨w.heap.size, 1, none⟩) (Nat.le_refl _) (.int .i64 c)).setCell (p := ⟨w.heap.size, 2, none⟩) (Nat.le_refl _) (.slice a2 k c2)).setCell (p := ⟨w.heap.size, 3, none⟩) (Nat.le_refl _) (.slice a k cap)
        have za := (((HOA4.out.far (n := w.heap.size) (i := 0) (u := .int .i64 r) (by omega)).far (n := w.heap.size) (i := 1) (u := .int .i64 c) (by omega)).far (n := w.heap.size) (i := 2) (u := .slice a2 k c2) (by omega)).far (n := w.heap.size) (i := 3) (u := .slice a k cap) (by omega)
        have zo := (((HOB4.out.far (n := w.heap.size) (i := 0) (u := .int .i64 r) (by omega)).far (n := w.heap.size) (i := 1) (u := .int .i64 c) (by omega)).far (n := w.heap.size) (i := 2) (u := .slice a2 k c2) (by omega)).far (n := w.heap.size) (i := 3) (u := .slice a k cap) (by omega)
        have zs : ((((w4.setCell ⟨w.heap.size, 0, none⟩ (.int .i64 r)).setCell ⟨w.heap.size, 1, none⟩ (.int .i64 c)).setCell ⟨w.heap.size, 2, none⟩ (.slice a2 k c2)).setCell ⟨w.heap.size, 3, none⟩ (.slice a k cap)).heap.size = w4.heap.size := by simp [World.setCell]
        generalize (((w4.setCell ⟨w.heap.size, 0, none⟩ (.int .i64 r)).setCell ⟨w.heap.size, 1, none⟩ (.int .i64 c)).setCell ⟨w.heap.size, 2, none⟩ (.slice a2 k c2)).setCell ⟨w.heap.size, 3, none⟩ (.slice a k cap) = W5 at *
        have k0 := z.c0
        have k1 := z.c1
        have k2 := z.c2
        have k3 := z.c3
        refine bodyPost_ret (v := .tuple #[gameV r c a2 k c2 a k cap, .bool true]) (by simp [results, Try.f29, go_sem, k0, k1, k2, k3]) rfl ?_
        rw [E.out]
        exact ⟨a2, k, c2, a, k, cap, rfl, Game.of (mid := no) (by omega) (by omega) (za.wide (by omega) (Nat.le_refl _) (by omega)) (zo.wide (by omega) (by omega) (Nat.le_refl _)), zb⟩
end Go.Proofs.Ytnmehenkbinfmaa
