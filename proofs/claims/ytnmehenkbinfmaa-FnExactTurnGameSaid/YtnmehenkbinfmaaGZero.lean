/-
  ZeroSum: one loses what the other one gains. The value, and the program's answer.
-/
import Derived.Test.YtnmehenkbinfmaaGIs
import Derived.Test.YtnmehenkbinfmaaClone
import Derived.Test.YtnmehenkbinfmaaKpX
namespace Go.Proofs.Ytnmehenkbinfmaa
open Go.RowKit Go.ChangeShapes Go.WideShapes
set_option linter.unusedVariables false

def OutGame (w : World) (x : Int × Int × List Int × List Int × Bool) (e : Ending) (w' : World) : Prop :=
  ∃ a n c d m f, e = .returned (.tuple #[gameV x.1 x.2.1 a n c d m f, .bool x.2.2.2.2]) ∧ Game w' w.heap.size w'.heap.size a n c d m f x.2.2.1 x.2.2.2.1 ∧ Below w.heap.size w w'
theorem Game.lens {w : World} {lo hi : Nat} {a1 : Option Addr} {l1 c1 : Nat} {a2 : Option Addr} {l2 c2 : Nat} {A B : List Int} (h : Game w lo hi a1 l1 c1 a2 l2 c2 A B) : A.length = l1 ∧ B.length = l2 := by
  obtain ⟨p, q, r, s, g1, g2, g3, g4, g5, h3, h4⟩ := h.fst
  exact ⟨h3.1, h4.1⟩
theorem Game.wide {w : World} {lo hi lo' hi' : Nat} {a1 : Option Addr} {l1 c1 : Nat} {a2 : Option Addr} {l2 c2 : Nat} {A B : List Int} (h : Game w lo hi a1 l1 c1 a2 l2 c2 A B) (h1 : lo' ≤ lo) (h2 : hi ≤ hi') (h3 : hi' ≤ w.heap.size) : Game w lo' hi' a1 l1 c1 a2 l2 c2 A B := by
  obtain ⟨p, q, r, s, g1, g2, g3, g4, g5, k3, k4⟩ := h.fst
  exact ⟨p, q, r, s, by omega, by omega, by omega, by omega, g5, k3, k4⟩
theorem game_nil (w : World) {lo hi : Nat} (h : lo ≤ hi) (h2 : hi ≤ w.heap.size) : Game w lo hi none 0 0 none 0 0 [] [] :=
  Game.of (Nat.le_refl _) h ⟨rfl, by simp, by omega, by simp, World.ownsRow_nil _ _ _ _⟩ ⟨rfl, by simp, h2, by simp, World.ownsRow_nil _ _ _ _⟩

/-- what the other one gains -/
def negL (A : List Int) : List Int := A.map fun x => IntKind.i64.wrap (-x)
theorem negL_len (A : List Int) : (negL A).length = A.length := by simp [negL]
theorem negL_ok {A : List Int} (h : okGains A = true) : okGains (negL A) = true := by
  refine List.all_eq_true.2 fun z hz => ?_
  obtain ⟨x, hx, rfl⟩ := List.mem_map.1 hz
  have := List.all_eq_true.1 h x hx
  simp only [Bool.and_eq_true, decide_eq_true_eq] at this
  show (decide (-1000 ≤ IntKind.i64.wrap (-x)) && decide (IntKind.i64.wrap (-x) ≤ 1000)) = true
  rw [IntWalk.i64_in _ (by omega)]
  simp only [Bool.and_eq_true, decide_eq_true_eq]
  omega
theorem zero_ok (r c : Int) (A : List Int) : okGame r c A (negL A) = okGame r c A A := by
  unfold okGame
  rw [negL_len]
  cases h : okGains A with
  | false => simp
  | true => rw [negL_ok h]
def zeroV (r c : Int) (A : List Int) : Int × Int × List Int × List Int × Bool := if okGame r c A A = true then (r, c, A, negL A, true) else (0, 0, [], [], false)
theorem zeroV_no {r c : Int} {A : List Int} (h : okGame r c A A = false) : zeroV r c A = (0, 0, [], [], false) := by unfold zeroV; rw [h]; rfl
theorem zeroV_yes {r c : Int} {A : List Int} (h : okGame r c A A = true) : zeroV r c A = (r, c, A, negL A, true) := by unfold zeroV; rw [h]; rfl
theorem okGame_36 {r c : Int} {A B : List Int} (h : okGame r c A B = true) : 1 ≤ A.length ∧ A.length ≤ 36 := by
  obtain ⟨R, C, rfl, rfl, h1, h2, h3, h4, h5, _⟩ := okGame_true h
  have a := Nat.mul_le_mul h2 h4
  have b := Nat.mul_le_mul h1 h3
  omega
theorem zeroV_len (r c : Int) (A : List Int) : (zeroV r c A).2.2.1.length + (zeroV r c A).2.2.2.1.length ≤ 4096 := by
  cases h : okGame r c A A with
  | false => rw [zeroV_no h]; simp
  | true =>
    rw [zeroV_yes h]
    have := okGame_36 h
    show A.length + (negL A).length ≤ 4096
    rw [negL_len]
    omega

set_option maxHeartbeats 1000000 in
set_option maxRecDepth 20000 in
theorem implZero_any (r c : Int) (a1 : Option Addr) (l1 c1 : Nat) (A : List Int) (w : World) (hA : IAt w a1 l1 A) (hr : Big r) (hc : Big c) :
    Calls Try.prog 31 #[.int .i64 r, .int .i64 c, .slice a1 l1 c1] w (OutGame w (zeroV r c A)) := by
  have b0 := Lib.hid (below1 (w := w) (o := .cells #[.int .i64 0, .int .i64 0, .slice none 0 0, .slice none 0 0] 27))
  have HA := Lib.hid (hA.below b0.out)
  have HR : Hid (Box4 _ w.heap.size 27 (.int .i64 0) (.int .i64 0) (.slice none 0 0) (.slice none 0 0)) := Lib.hid (heap1 (w := w))
  have hlen := hA.1
  clear hA hr hc
  cases s1 : okGame r c A A with
  | false =>
    have S1 := Lib.hid s1
    rw [zeroV_no s1]
    clear s1
    go_enter Try.func31, Try.ntmps31
    go_wp2_with fail
    refine (implValid_any r c a1 l1 c1 a1 l1 c1 A A _ HA.out HA.out).mono ?_
    rintro e w1 ⟨rfl, b1⟩
    rw [S1.out]
    have B1 := Lib.hid (below_after b0.out (Nat.le_refl _) b1)
    have hr := HR.out.below b1
    have HR1 := Lib.hid hr
    obtain ⟨⟨r0, r1, r2, r3⟩, g0, g1, g2, g3⟩ := hr.all
    clear b1 hr
    go_wp2_with fail
    have z := (((HR1.out.set0 (u := .int .i64 0)).set1 (u := .int .i64 0)).set2 (u := .slice none 0 0)).set3 (u := .slice none 0 0)
    have zb := (((B1.out.setCell (p := ⟨w.heap.size, 0, none⟩) (Nat.le_refl _) (.int .i64 0)).setCell (p := ⟨w.heap.size, 1, none⟩) (Nat.le_refl _) (.int .i64 0)).setCell (p := ⟨w.heap.size, 2, none⟩) (Nat.le_refl _) (.slice none 0 0)).setCell (p := ⟨w.heap.size, 3, none⟩) (Nat.le_refl _) (.slice none 0 0)
    generalize (((w1.setCell ⟨w.heap.size, 0, none⟩ (.int .i64 0)).setCell ⟨w.heap.size, 1, none⟩ (.int .i64 0)).setCell ⟨w.heap.size, 2, none⟩ (.slice none 0 0)).setCell ⟨w.heap.size, 3, none⟩ (.slice none 0 0) = W5 at *
    have c0 := z.c0
    have c1 := z.c1
    have c2 := z.c2
    have c3 := z.c3
    refine bodyPost_ret (v := .tuple #[gameV 0 0 none 0 0 none 0 0, .bool false]) (by simp [results, Try.f31, go_sem, c0, c1, c2, c3]) rfl ?_
    exact ⟨none, 0, 0, none, 0, 0, rfl, game_nil _ zb.size (Nat.le_refl _), zb⟩
  | true =>
    have S1 := Lib.hid s1
    rw [zeroV_yes s1]
    obtain ⟨hl1, hl36⟩ := okGame_36 s1
    rw [hlen] at hl1 hl36
    clear s1
    go_enter Try.func31, Try.ntmps31
    go_wp2_with fail
    refine (implValid_any r c a1 l1 c1 a1 l1 c1 A A _ HA.out HA.out).mono ?_
    rintro e w1 ⟨rfl, b1⟩
    rw [S1.out]
    have B1 := Lib.hid (below_after b0.out (Nat.le_refl _) b1)
    have HR1 := Lib.hid (HR.out.below b1)
    have HA1 := Lib.hid (HA.out.below b1)
    have hsz : w.heap.size + 1 ≤ w1.heap.size := by have := b1.size; simp at this; omega
    clear b1 b0 HR HA
    go_wp2_with fail
    refine (clone_any a1 l1 c1 A w1 (by omega) HA1.out).mono ?_
    rintro e w2 ⟨a2, n2, c2, rfl, hn2, o2, b2⟩
    obtain rfl : n2 = l1 := by omega
    have HO2 := Lib.hid (o2.resolve_left (by rintro ⟨h, _⟩; omega))
    have HB2 := Lib.hid b2
    have HR2 := Lib.hid (HR1.out.below b2)
    have HA2 := Lib.hid (HA1.out.below b2)
    have hs2 := b2.size
    clear o2 b2 HA1 HR1
    obtain ⟨i0, hi, hz0, hz1, hz2⟩ := info_parts (P := Try.prog) (e := 2) (z := .int .i64 0) (size := 1) (bytes := 8) (by kernel_rfl)
    have HT : Hid (Box4 _ w2.heap.size 27 (.int .i64 r) (.int .i64 c) (.slice a2 n2 c2) (.slice none 0 0)) := Lib.hid (heap1 (w := w2) (o := .cells #[.int .i64 r, .int .i64 c, .slice a2 n2 c2, .slice none 0 0] 27))
    have BD := Lib.hid (below1 (w := w2) (o := .cells #[.int .i64 r, .int .i64 c, .slice a2 n2 c2, .slice none 0 0] 27))
    have hzd : (w2.alloc (.cells #[.int .i64 r, .int .i64 c, .slice a2 n2 c2, .slice none 0 0] 27)).heap.size = w2.heap.size + 1 := by simp
    obtain ⟨b, off, rfl, hb, hcl⟩ : ∃ b off, a1 = some ⟨b, off, none⟩ ∧ b < w2.heap.size ∧ ∀ i, i < n2 → w2.cell? ⟨b, off + i, none⟩ = some (.int .i64 (A.getD i 0)) := by
      rcases HA2.out.2.2.2 with e | g
      · omega
      · exact g
    have HOK : Hid (∀ i, i < n2 → -1000 ≤ A.getD i 0 ∧ A.getD i 0 ≤ 1000) := Lib.hid fun i hi => by
      obtain ⟨_, _, _, _, _, _, _, _, _, _, h, _⟩ := okGame_true S1.out
      exact okGains_at h (by omega)
    have HCW : Hid (∀ i, i < n2 → (w2.alloc (.cells #[.int .i64 r, .int .i64 c, .slice a2 n2 c2, .slice none 0 0] 27)).cell? ⟨b, off + i, none⟩ = some (.int .i64 (A.getD i 0))) := Lib.hid fun i hi => (BD.out.cell (p := ⟨b, off + i, none⟩) hb).trans (hcl i hi)
    have HL := Lib.hid hlen
    clear hcl hn2 hlen
    go_wp2_with fail
    generalize w2.alloc (.cells #[.int .i64 r, .int .i64 c, .slice a2 n2 c2, .slice none 0 0] 27) = W0 at *
    obtain ⟨no, hno⟩ : ∃ no, w2.heap.size = no := ⟨_, rfl⟩
    have HNO := Lib.hid hno
    simp only [hno] at HT hzd hb hs2 ⊢
    clear hno
    go_loopw [26] (fun q wr => ∃ (k : Nat) (a : Option Addr) (cap : Nat), k ≤ n2 ∧ q = .int .i64 k ∧ Hid (Box4 wr no 27 (.int .i64 r) (.int .i64 c) (.slice a2 n2 c2) (.slice a k cap)) ∧
        Hid (wr.ownsRow (no + 1) 2 1 (.slice a k cap) k ((negL (A.take k)).map (Value.int .i64))) ∧ Hid (KpX (fun k => k = no) (no + 1) W0 wr)) (fun q _ => n2 - (intOf q).toNat)
    case atStart => exact ⟨0, none, 0, Nat.zero_le _, rfl, HT, Lib.hid (World.ownsRow_nil _ _ _ _), Lib.hid KpX.refl⟩
    case round =>
      clear HT
      obtain ⟨k, a, cap, hk, rfl, HB, HO, HK⟩ := hrel
      have hsz2 := HK.out.size
      by_cases hlt : k < n2
      · have hcv : wr.cell? ⟨b, off + k, none⟩ = some (.int .i64 (A.getD k 0)) := HK.out.cell (i := off + k) (by omega) (by omega) (HCW.out k hlt)
        have hvb := HOK.out k hlt
        have hsn : negL (A.take (k + 1)) = negL (A.take k) ++ [-(A.getD k 0)] := by
          have hkl : k < A.length := by rw [HL.out]; exact hlt
          unfold negL
          rw [List.take_add_one, List.map_append, List.getElem?_eq_getElem hkl, List.getD_eq_getElem?_getD, List.getElem?_eq_getElem hkl]
          show _ ++ [IntKind.i64.wrap (-A[k])] = _ ++ [-A[k]]
          rw [List.getD_eq_getElem?_getD, List.getElem?_eq_getElem hkl] at hvb
          simp only [Option.getD_some] at hvb
          rw [IntWalk.i64_in _ (by omega)]
        have HSN := Lib.hid hsn
        obtain ⟨⟨x0, x1, x2, x3⟩, _⟩ := HB.out.all
        clear hsn
        generalize A.getD k 0 = v at *
        go_wp2_with (at_builtin; refine wpList_append_own _ rfl (.tmp 31) (.tmp 34) 22 rfl (no + 1) 2 i0 (.int .i64 0) 1 8 Try.underlying22 hi hz0 hz1 hz2 rfl (by decide) _ k _ rfl (HO.out.alloc _) ⟨wr.heap.size, 0, none⟩ 1 1 [.int .i64 (-v)] rfl rfl (news_one _ _ (by simp)) (one_int _) (by unfold maxLen; omega) (by omega) (by simp; omega) ?_)
        intro v' w3 hown hgrow _
        obtain ⟨a', cap', rfl⟩ := row_slice hown
        have hB4 : Below (no + 1) wr w3 := Below.grown ((Below.refl _ wr).alloc (by omega) _) hgrow (by simp; omega) (fun k hk => (World.ownsRow.lt HO.out k hk).1)
        have HB4 := Lib.hid hB4
        have HX1 : Hid (Box4 w3 no 27 (.int .i64 r) (.int .i64 c) (.slice a2 n2 c2) (.slice a k cap)) := Lib.hid ((hB4.block no (by omega)).trans HB.out)
        have cc3 := HX1.out.c3
        have f3 := HX1.out.free 3
        have HOW := Lib.hid hown
        clear hown hgrow hB4 x0 x1 x2 x3 hcv
        have HB5 : Hid (Box4 (w3.setCell ⟨no, 3, none⟩ (.slice a' (k + 1) cap')) no 27 (.int .i64 r) (.int .i64 c) (.slice a2 n2 c2) (.slice a' (k + 1) cap')) := Lib.hid (Box4.set3 HX1.out)
        have HO5 : Hid ((w3.setCell ⟨no, 3, none⟩ (.slice a' (k + 1) cap')).ownsRow (no + 1) 2 1 (.slice a' (k + 1) cap') (k + 1) ((negL (A.take (k + 1))).map (Value.int .i64))) := Lib.hid (by
          rw [HSN.out, List.map_append]
          refine ownsRow_block HOW.out fun k hk => Below.heap_setCell _ _ _ _ ?_
          have := (HOW.out.lt k hk).1
          show k ≠ no
          omega)
        have HK5 : Hid (KpX (fun k => k = no) (no + 1) W0 (w3.setCell ⟨no, 3, none⟩ (.slice a' (k + 1) cap'))) := Lib.hid (HK.out.trans ((KpX.of_below HB4.out).trans (KpX.set (.inl rfl))))
        go_wp2_with fail
        go_roundw
        case rel => exact ⟨k + 1, a', cap', by omega, by go_num, HB5, HO5, HK5⟩
        case measure => simp [intOf]; omega
      · obtain rfl : k = n2 := by omega
        obtain ⟨⟨x0, x1, x2, x3⟩, _⟩ := HB.out.all
        have hN := HNO.out
        have htk : A.take k = A := List.take_of_length_le (by rw [HL.out]; exact Nat.le_refl _)
        have hrow := own_of_row (zs := negL A) (by have := HO.out; rw [htk] at this; exact this) (by
          intro z hz
          obtain ⟨x, hx, rfl⟩ := List.mem_map.1 hz
          obtain ⟨i, hi, rfl⟩ := List.getElem_of_mem hx
          have := HOK.out i (by rw [← HL.out]; exact hi)
          rw [List.getD_eq_getElem?_getD, List.getElem?_eq_getElem hi] at this
          simp only [Option.getD_some] at this
          show Big (IntKind.i64.wrap (-A[i]))
          rw [IntWalk.i64_in _ (by omega)]
          exact ⟨by omega, by omega⟩)
        have HOB := Lib.hid hrow
        have HOA : Hid (Own wr w1.heap.size no a2 k c2 A) := Lib.hid (by
          have h := HO2.out
          rw [hN] at h
          exact h.keep (by omega) fun i h1 h2 => (HK.out.block i (by omega) (by omega)).trans (BD.out.block i (by omega)))
        have HBW : Hid (Below w.heap.size w wr) := Lib.hid ((B1.out.trans ((HB2.out.mono (by omega)).trans (BD.out.mono (by omega)))).trans (HK.out.below (n := w.heap.size) (by omega) (fun k hk => by omega)))
        have hRW : Box4 wr w.heap.size 27 (.int .i64 0) (.int .i64 0) (.slice none 0 0) (.slice none 0 0) := (HK.out.block _ (by omega) (by omega)).trans (HR2.out.below BD.out)
        have HRW := Lib.hid hRW
        obtain ⟨⟨r0, r1, r2, r3⟩, g0, g1, g2, g3⟩ := hRW.all
        clear hrow hRW htk
        go_wp2_with fail
        have z := (((HRW.out.set0 (u := .int .i64 r)).set1 (u := .int .i64 c)).set2 (u := .slice a2 k c2)).set3 (u := .slice a k cap)
        have zb := (((HBW.out.setCell (p := ⟨w.heap.size, 0, none⟩) (Nat.le_refl _) (.int .i64 r)).setCell (p := ⟨w.heap.size, 1, none⟩) (Nat.le_refl _) (.int .i64 c)).setCell (p := ⟨w.heap.size, 2, none⟩) (Nat.le_refl _) (.slice a2 k c2)).setCell (p := ⟨w.heap.size, 3, none⟩) (Nat.le_refl _) (.slice a k cap)
        have za := (((HOA.out.far (n := w.heap.size) (i := 0) (u := .int .i64 r) (by omega)).far (n := w.heap.size) (i := 1) (u := .int .i64 c) (by omega)).far (n := w.heap.size) (i := 2) (u := .slice a2 k c2) (by omega)).far (n := w.heap.size) (i := 3) (u := .slice a k cap) (by omega)
        have zo := (((HOB.out.far (n := w.heap.size) (i := 0) (u := .int .i64 r) (by omega)).far (n := w.heap.size) (i := 1) (u := .int .i64 c) (by omega)).far (n := w.heap.size) (i := 2) (u := .slice a2 k c2) (by omega)).far (n := w.heap.size) (i := 3) (u := .slice a k cap) (by omega)
        have zs : ((((wr.setCell ⟨w.heap.size, 0, none⟩ (.int .i64 r)).setCell ⟨w.heap.size, 1, none⟩ (.int .i64 c)).setCell ⟨w.heap.size, 2, none⟩ (.slice a2 k c2)).setCell ⟨w.heap.size, 3, none⟩ (.slice a k cap)).heap.size = wr.heap.size := by simp [World.setCell]
        generalize (((wr.setCell ⟨w.heap.size, 0, none⟩ (.int .i64 r)).setCell ⟨w.heap.size, 1, none⟩ (.int .i64 c)).setCell ⟨w.heap.size, 2, none⟩ (.slice a2 k c2)).setCell ⟨w.heap.size, 3, none⟩ (.slice a k cap) = W5 at *
        have c0 := z.c0
        have cc1 := z.c1
        have cc2 := z.c2
        have cc3 := z.c3
        refine bodyPost_ret (v := .tuple #[gameV r c a2 k c2 a k cap, .bool true]) (by simp [results, Try.f31, go_sem, c0, cc1, cc2, cc3]) rfl ?_
        exact ⟨a2, k, c2, a, k, cap, rfl, Game.of (mid := no) (by omega) (by omega) (za.wide (by omega) (Nat.le_refl _) (by omega)) (zo.wide (by omega) (by omega) (Nat.le_refl _)), zb⟩
end Go.Proofs.Ytnmehenkbinfmaa
