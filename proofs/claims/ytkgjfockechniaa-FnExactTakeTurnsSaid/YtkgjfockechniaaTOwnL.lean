/-
  What all parts are worth to their owners: the two lists.
-/
import Derived.Test.YtkgjfockechniaaTOwn
import Derived.Test.YtkgjfockechniaaLawKit
namespace Go.Proofs.Ytkgjfockechniaa
open Go.RowKit Go.ChangeShapes Go.WideShapes
set_option linter.unusedVariables false

def ownL (A : List Int) (T : Nat) (O : List Int) (P : Nat) : List Int := (List.range P).map fun i => partW A T i i O
theorem ownL_succ (A : List Int) (T : Nat) (O : List Int) (k : Nat) : ownL A T O (k + 1) = ownL A T O k ++ [partW A T k k O] := by simp [ownL, List.range_succ]
theorem ownL_len (A : List Int) (T : Nat) (O : List Int) (k : Nat) : (ownL A T O k).length = k := by simp [ownL]

set_option maxHeartbeats 1000000 in
set_option maxRecDepth 20000 in
theorem specOwnL_any (m P T : Nat) (a1 : Option Addr) (l1 c1 : Nat) (A : List Int) (ao : Option Addr) (lo co : Nat) (O : List Int) (w : World) (hx : Box3 w m 27 (.int .i64 (P : Nat)) (.int .i64 (T : Nat)) (.slice a1 l1 c1)) (hv : VOk w P T a1 l1 c1 A) (hO : IAt w ao lo O) (hlt : lo ≤ T) :
    Calls Try.prog 65 #[.pointer (some ⟨m, 0, none⟩), .slice ao lo co] w (RowOut w (ownL A T O P)) := by
  obtain ⟨i0, hi, hz0, hz1, hz2⟩ := info_parts (P := Try.prog) (e := 2) (z := .int .i64 0) (size := 1) (bytes := 8) (by kernel_rfl)
  have hn := hx.lt
  have hP := hv.p6
  have hlen := fun i (h : i < P) => partW_in (j := (i : Int)) (O := O) hv.ok hv.len h (by rw [hO.1]; exact hlt) hv.t8
  have HB := Lib.hid hlen
  have HX := Lib.hid hx
  have HV := Lib.hid hv
  have HO := Lib.hid hO
  clear hx hv hO hlen
  go_enter Try.func65, Try.ntmps65
  go_wp2_with fail
  go_loopw [5, 6] (fun o q wr => ∃ (k : Nat) (a : Option Addr) (cap : Nat), k ≤ P ∧ q = .int .i64 k ∧ o = .slice a k cap ∧
      Hid (wr.ownsRow w.heap.size 2 1 (.slice a k cap) k ((ownL A T O k).map (Value.int .i64))) ∧ Hid (Below w.heap.size w wr))
    (fun _ q _ => P - (intOf q).toNat)
  case atStart =>
    exact ⟨0, _, 0, Nat.zero_le _, rfl, rfl, Lib.hid (World.ownsRow_made w #[] 0 (Nat.le_refl _) (Nat.zero_le _) rfl), Lib.hid below1⟩
  case round =>
    obtain ⟨k, a, cap, hk, rfl, rfl, HR, HW⟩ := hrel
    have hwr : Box3 wr m 27 (.int .i64 (P : Nat)) (.int .i64 (T : Nat)) (.slice a1 l1 c1) := HX.out.below HW.out
    obtain ⟨⟨q0, q1, q2⟩, _⟩ := hwr.all
    have HWR := Lib.hid hwr
    clear hwr
    have hwsz := HW.out.size
    by_cases hlt2 : k < P
    · go_wp2_with fail
      refine (specPart_any m P T k a1 l1 c1 A k ao lo co O wr HWR.out (HV.out.below HW.out) hlt2 (HO.out.below HW.out) hlt).mono ?_
      rintro e w2 ⟨rfl, nd, rfl⟩
      have hR : (wr.drewN nd).ownsRow w.heap.size 2 1 (.slice a k cap) k ((ownL A T O k).map (Value.int .i64)) := HR.out
      have HR' := Lib.hid hR
      clear hR
      have HN := Lib.hid (ownL_succ A T O k)
      generalize partW A T k k O = v at *
      go_wp2_with (at_builtin; refine wpList_append_own _ rfl (.tmp 16) (.tmp 22) 22 rfl w.heap.size 2 i0 (.int .i64 0) 1 8 Try.underlying22 hi hz0 hz1 hz2 rfl (by decide) _ k _ rfl (HR'.out.alloc _) ⟨wr.heap.size, 0, none⟩ 1 1 [.int .i64 v] rfl rfl (news_one _ _ (by simp)) (one_int _) (by unfold maxLen; omega) (by omega) (by simp; omega) ?_)
      intro v' w1 hown hgrow _
      obtain ⟨a', cap', rfl⟩ := row_slice hown
      have HX1 := Lib.hid (Below.grown (((HW.out.trans (same_below ⟨nd, rfl⟩ _)).alloc (by simpa using hwsz) _)) hgrow (by simp; omega) (fun k hk => (World.ownsRow.lt HR'.out k hk).1))
      have HO1 : Hid (w1.ownsRow w.heap.size 2 1 (.slice a' (k + 1) cap') (k + 1) ((ownL A T O (k + 1)).map (Value.int .i64))) :=
        Lib.hid (by rw [HN.out, List.map_append]; exact hown)
      clear hown hgrow q0 q1 q2
      go_wp2_with fail
      go_roundw
      case rel => exact ⟨k + 1, a', cap', by omega, by go_num, rfl, HO1, HX1⟩
      case measure => simp [intOf]; omega
    · obtain rfl : k = P := by omega
      go_wp2_with fail
      go_ret
      refine ⟨a, k, cap, rfl, own_of_row HR.out ?_, HW.out⟩
      intro z hz
      simp only [ownL, List.mem_map, List.mem_range] at hz
      obtain ⟨i, hi, rfl⟩ := hz
      have := HB.out i hi
      exact ⟨by omega, by omega⟩

set_option maxHeartbeats 1000000 in
set_option maxRecDepth 20000 in
theorem implOwnL_any (P T : Nat) (a1 : Option Addr) (l1 c1 : Nat) (A : List Int) (ao : Option Addr) (lo co : Nat) (O : List Int) (w : World) (hv : VOk w P T a1 l1 c1 A) (hO : IAt w ao lo O) (hlo : 1 ≤ lo) (hlt : lo ≤ T) :
    Calls Try.prog 67 #[valuesV (P : Nat) (T : Nat) a1 l1 c1, .slice ao lo co] w (RowOut w (ownL A T O P)) := by
  obtain ⟨i0, hi, hz0, hz1, hz2⟩ := info_parts (P := Try.prog) (e := 2) (z := .int .i64 0) (size := 1) (bytes := 8) (by kernel_rfl)
  have hP := hv.p6
  have hlen := fun i (h : i < P) => partW_in (j := (i : Int)) (O := O) hv.ok hv.len h (by rw [hO.1]; exact hlt) hv.t8
  have HB := Lib.hid hlen
  have HX : Hid (Box3 _ w.heap.size 27 (.int .i64 (P : Nat)) (.int .i64 (T : Nat)) (.slice a1 l1 c1)) := Lib.hid (heap1 (w := w))
  have HV := Lib.hid (hv.below (below1 (o := .cells #[.int .i64 (P : Nat), .int .i64 (T : Nat), .slice a1 l1 c1] 27)))
  have HO := Lib.hid (hO.below (below1 (o := .cells #[.int .i64 (P : Nat), .int .i64 (T : Nat), .slice a1 l1 c1] 27)))
  clear hv hO hlen
  go_enter Try.func67, Try.ntmps67
  go_wp2_with fail
  have b0 := Lib.hid (below1 (w := w) (o := .cells #[.int .i64 (P : Nat), .int .i64 (T : Nat), .slice a1 l1 c1] 27))
  have hz : w.heap.size ≤ (w.alloc (.cells #[.int .i64 (P : Nat), .int .i64 (T : Nat), .slice a1 l1 c1] 27)).heap.size := by simp
  generalize w.alloc (.cells #[.int .i64 (P : Nat), .int .i64 (T : Nat), .slice a1 l1 c1] 27) = W0 at *
  go_loopw [5, 9] (fun o q wr => ∃ (k : Nat) (a : Option Addr) (cap : Nat), k ≤ P ∧ q = .int .i64 k ∧ o = .slice a k cap ∧
      Hid (wr.ownsRow W0.heap.size 2 1 (.slice a k cap) k ((ownL A T O k).map (Value.int .i64))) ∧ Hid (Below W0.heap.size W0 wr))
    (fun _ q _ => P - (intOf q).toNat)
  case atStart =>
    exact ⟨0, _, 0, Nat.zero_le _, rfl, rfl, Lib.hid (World.ownsRow_nil _ _ _ _), Lib.hid (Below.refl _ _)⟩
  case round =>
    obtain ⟨k, a, cap, hk, rfl, rfl, HR, HW⟩ := hrel
    have hwr := HX.out.below HW.out
    obtain ⟨⟨q0, q1, q2⟩, _⟩ := hwr.all
    clear hwr
    have hwsz := HW.out.size
    by_cases hlt2 : k < P
    · go_wp2_with fail
      refine (partWorth_any P T k a1 l1 c1 A k ao lo co O wr (HV.out.below HW.out) hlt2 (HO.out.below HW.out) hlo hlt).mono ?_
      rintro e w2 ⟨rfl, b2⟩
      have hb2 : Below W0.heap.size W0 w2 := below_after HW.out (Nat.le_refl _) b2
      have HR' := Lib.hid (row_below HR.out b2)
      have HW2 := Lib.hid hb2
      have hw2sz := hb2.size
      have HN := Lib.hid (ownL_succ A T O k)
      clear b2 hb2 q0 q1 q2
      generalize partW A T k k O = v at *
      go_wp2_with (at_builtin; refine wpList_append_own _ rfl (.tmp 12) (.tmp 18) 22 rfl W0.heap.size 2 i0 (.int .i64 0) 1 8 Try.underlying22 hi hz0 hz1 hz2 rfl (by decide) _ k _ rfl (HR'.out.alloc _) ⟨w2.heap.size, 0, none⟩ 1 1 [.int .i64 v] rfl rfl (news_one _ _ (by simp)) (one_int _) (by unfold maxLen; omega) (by omega) (by simp; omega) ?_)
      intro v' w1 hown hgrow _
      obtain ⟨a', cap', rfl⟩ := row_slice hown
      have HX1 := Lib.hid (Below.grown (HW2.out.alloc (by simpa using hw2sz) _) hgrow (by simp; omega) (fun k hk => (World.ownsRow.lt HR'.out k hk).1))
      have HO1 : Hid (w1.ownsRow W0.heap.size 2 1 (.slice a' (k + 1) cap') (k + 1) ((ownL A T O (k + 1)).map (Value.int .i64))) :=
        Lib.hid (by rw [HN.out, List.map_append]; exact hown)
      clear hown hgrow
      go_wp2_with fail
      go_roundw
      case rel => exact ⟨k + 1, a', cap', by omega, by go_num, rfl, HO1, HX1⟩
      case measure => simp [intOf]; omega
    · obtain rfl : k = P := by omega
      go_wp2_with fail
      go_ret
      refine ⟨a, k, cap, rfl, (own_of_row HR.out ?_).wide (by omega) (Nat.le_refl _) (Nat.le_refl _), below_after b0.out (Nat.le_refl _) HW.out⟩
      intro z hz
      simp only [ownL, List.mem_map, List.mem_range] at hz
      obtain ⟨i, hi, rfl⟩ := hz
      have := HB.out i hi
      exact ⟨by omega, by omega⟩

/-- owners of things, and what all parts are worth to their owners -/
def ownV (p t : Int) (A O : List Int) : List Int × Bool := if okOwn p t A O then (ownL A t.toNat O p.toNat, true) else ([], false)
theorem ownV_no {p t : Int} {A O : List Int} (h : okOwn p t A O = false) : ownV p t A O = ([], false) := by unfold ownV; rw [h]; rfl
theorem ownV_yes {P T : Nat} {A O : List Int} (h : okOwn P T A O = true) : ownV P T A O = (ownL A T O P, true) := by unfold ownV; rw [h]; rfl
theorem okOwn_true {p t : Int} {A O : List Int} (h : okOwn p t A O = true) : okV p t A = true ∧ (O.length : Int) = t ∧ okAll 0 (p - 1) O = true := by
  simp only [okOwn, Bool.and_eq_true, decide_eq_true_eq] at h
  exact ⟨h.1, h.2.1, h.2.2⟩
theorem ownV_len (p t : Int) (A O : List Int) : (ownV p t A O).1.length ≤ 4096 := by
  cases h : okOwn p t A O with
  | false => rw [ownV_no h]; simp
  | true =>
    obtain ⟨h1, -, -⟩ := okOwn_true h
    obtain ⟨P, T, rfl, rfl, _, h2, _⟩ := okRows_true h1 (by omega)
    rw [ownV_yes h, ownL_len]
    omega

set_option maxRecDepth 20000 in
theorem implOwnWorths_any (p t : Int) (a1 : Option Addr) (l1 c1 : Nat) (A : List Int) (ao : Option Addr) (lo co : Nat) (O : List Int) (w : World) (hA : IAt w a1 l1 A) (hO : IAt w ao lo O) (hc : l1 ≤ c1) :
    Calls Try.prog 28 #[valuesV p t a1 l1 c1, .slice ao lo co] w (PairOut w (ownV p t A O)) := by
  have HA := Lib.hid hA
  have HO := Lib.hid hO
  clear hA hO
  cases s1 : okOwn p t A O with
  | false =>
    have S1 := Lib.hid s1
    rw [ownV_no s1]
    clear s1
    go_enter Try.func28, Try.ntmps28
    go_wp2_with fail
    refine (areOwned_any p t a1 l1 c1 A ao lo co O _ (HA.out.below below1) (HO.out.below below1)).mono ?_
    rintro e w1 ⟨rfl, b1⟩
    rw [S1.out]
    have B1 := Lib.hid (below_after below1 (Nat.le_refl _) b1)
    clear b1
    go_wp2_with fail
    go_ret2
    exact ⟨none, 0, 0, rfl, own_nil _ (Nat.le_refl _), B1.out⟩
  | true =>
    obtain ⟨h1, h2, h3⟩ := okOwn_true s1
    obtain ⟨P, T, rfl, rfl, hv⟩ := VOk.of HA.out hc h1
    have S1 := Lib.hid s1
    rw [ownV_yes s1]
    have HV := Lib.hid hv
    have hlo : lo = T := by have := HO.out.1; omega
    have ht1 := hv.t1
    have hl1 : 1 ≤ lo := by omega
    have hl2 : lo ≤ T := by omega
    clear s1 h1 h2 h3 hv hlo ht1
    go_enter Try.func28, Try.ntmps28
    go_wp2_with fail
    refine (areOwned_any P T a1 l1 c1 A ao lo co O _ (HA.out.below below1) (HO.out.below below1)).mono ?_
    rintro e w1 ⟨rfl, b1⟩
    rw [S1.out]
    obtain ⟨⟨x0, x1, x2⟩, _⟩ := (Box3.below (heap1 (w := w) (o := .cells #[.int .i64 (P : Nat), .int .i64 (T : Nat), .slice a1 l1 c1] 27)) b1).all
    have B1 := Lib.hid (below_after below1 (Nat.le_refl _) b1)
    have hs1 := B1.out.size
    clear b1
    go_wp2_with fail
    refine (implOwnL_any P T a1 l1 c1 A ao lo co O w1 (HV.out.below B1.out) (HO.out.below B1.out) (by omega) (by omega)).mono ?_
    rintro e w2 ⟨a, len, cap, rfl, o2, b2⟩
    have O2 := Lib.hid (o2.wide (lo' := w.heap.size) (by omega) (Nat.le_refl _) (Nat.le_refl _))
    have B2 := Lib.hid (below_after B1.out (Nat.le_refl _) b2)
    clear o2 b2 x0 x1 x2
    go_wp2_with fail
    go_ret2
    exact ⟨a, len, cap, rfl, O2.out, B2.out⟩

set_option maxRecDepth 20000 in
theorem specOwnWorths_any (p t : Int) (a1 : Option Addr) (l1 c1 : Nat) (A : List Int) (ao : Option Addr) (lo co : Nat) (O : List Int) (w : World) (hA : IAt w a1 l1 A) (hO : IAt w ao lo O) (hc : l1 ≤ c1) :
    Calls Try.prog 26 #[valuesV p t a1 l1 c1, .slice ao lo co] w (PairOut w (ownV p t A O)) := by
  have HA := Lib.hid hA
  have HO := Lib.hid hO
  clear hA hO
  have HX : Hid (Box3 _ w.heap.size 27 (.int .i64 p) (.int .i64 t) (.slice a1 l1 c1)) := Lib.hid (heap1 (w := w))
  have b0 := Lib.hid (below1 (w := w) (o := .cells #[.int .i64 p, .int .i64 t, .slice a1 l1 c1] 27))
  cases s0 : okV p t A with
  | false =>
    have S0 := Lib.hid s0
    rw [ownV_no (okOwn_out s0)]
    clear s0
    go_enter Try.func26, Try.ntmps26
    go_wp2_with fail
    refine (specIsV_any w.heap.size p t a1 l1 c1 A _ HX.out (HA.out.below b0.out)).mono ?_
    rintro e w1 ⟨rfl, n1, rfl⟩
    rw [S0.out]
    go_wp2_with fail
    go_ret2
    exact ⟨none, 0, 0, rfl, own_nil _ (Nat.le_refl _), b0.out.trans (same_below ⟨n1, rfl⟩ _)⟩
  | true =>
    obtain ⟨P, T, rfl, rfl, hv⟩ := VOk.of HA.out hc s0
    have hE := okOwn_in (O := O) s0
    have S0 := Lib.hid s0
    have HV := Lib.hid (hv.below b0.out)
    have hp6 := hv.p6
    have ht8 := hv.t8
    clear hv s0
    have hz : w.heap.size ≤ (w.alloc (.cells #[.int .i64 (P : Nat), .int .i64 (T : Nat), .slice a1 l1 c1] 27)).heap.size := by simp
    cases s1 : okOwn P T A O with
    | false =>
      rw [hE] at s1
      have E := Lib.hid hE
      have S1 := Lib.hid s1
      rw [ownV_no (E.out.trans S1.out)]
      clear s1 hE E
      go_enter Try.func26, Try.ntmps26
      go_wp2_with fail
      refine (specIsV_any w.heap.size P T a1 l1 c1 A _ HX.out (HA.out.below b0.out)).mono ?_
      rintro e w1 ⟨rfl, n1, rfl⟩
      rw [S0.out]
      go_wp2_with fail
      refine (owners04_any w.heap.size P T a1 l1 c1 ao lo co O _ (HX.out.below (same_below ⟨_, rfl⟩ _)) hp6 ht8 ((HO.out.below b0.out).below (same_below ⟨_, rfl⟩ _))).mono ?_
      rintro e w2 ⟨rfl, n2, rfl⟩
      rw [S1.out]
      go_wp2_with fail
      go_ret2
      exact ⟨none, 0, 0, rfl, own_nil _ (Nat.le_refl _), b0.out.trans (same_below ⟨n1 + n2, rfl⟩ _)⟩
    | true =>
      have hl2 : lo ≤ T := by have := (okOwn_true s1).2.1; have := HO.out.1; omega
      rw [ownV_yes s1]
      rw [hE] at s1
      have S1 := Lib.hid s1
      clear s1 hE
      go_enter Try.func26, Try.ntmps26
      go_wp2_with fail
      refine (specIsV_any w.heap.size P T a1 l1 c1 A _ HX.out (HA.out.below b0.out)).mono ?_
      rintro e w1 ⟨rfl, n1, rfl⟩
      rw [S0.out]
      go_wp2_with fail
      refine (owners04_any w.heap.size P T a1 l1 c1 ao lo co O _ (HX.out.below (same_below ⟨_, rfl⟩ _)) hp6 ht8 ((HO.out.below b0.out).below (same_below ⟨_, rfl⟩ _))).mono ?_
      rintro e w2 ⟨rfl, n2, rfl⟩
      rw [S1.out]
      go_wp2_with fail
      refine (specOwnL_any w.heap.size P T a1 l1 c1 A ao lo co O _ (HX.out.below (same_below ⟨n1 + n2, rfl⟩ _)) (HV.out.below (same_below ⟨n1 + n2, rfl⟩ _)) ((HO.out.below b0.out).below (same_below ⟨n1 + n2, rfl⟩ _)) (by omega)).mono ?_
      rintro e w3 ⟨a, len, cap, rfl, o3, b3⟩
      have O3 := Lib.hid (o3.wide (lo' := w.heap.size) hz (Nat.le_refl _) (Nat.le_refl _))
      have B3 := Lib.hid (below_after (b0.out.trans (same_below ⟨n1 + n2, rfl⟩ _)) (Nat.le_refl _) b3)
      clear o3 b3
      go_wp2_with fail
      go_ret2
      exact ⟨a, len, cap, rfl, O3.out, B3.out⟩
end Go.Proofs.Ytkgjfockechniaa
