/-
  IsRentFair: the program's whole walk.
-/
import Derived.Test.YtkgjfockechniaaTRent
import Derived.Test.YtkgjfockechniaaTUpTo
namespace Go.Proofs.Ytkgjfockechniaa
open Go.RowKit Go.ChangeShapes Go.WideShapes
set_option linter.unusedVariables false

theorem areRooms_any (p t : Int) (a1 : Option Addr) (l1 c1 : Nat) (A : List Int) (w : World) (hA : IAt w a1 l1 A) :
    Calls Try.prog 107 #[valuesV p t a1 l1 c1] w (BoolOut w (okV p t A && decide (t = p))) := by
  have b0 := below1 (w := w) (o := .cells #[.int .i64 p, .int .i64 t, .slice a1 l1 c1] 27)
  have hx : Box3 _ w.heap.size 27 (.int .i64 p) (.int .i64 t) (.slice a1 l1 c1) := heap1 (w := w)
  have HA := Lib.hid (hA.below b0)
  have HX := Lib.hid hx
  have B0 := Lib.hid b0
  clear hA hx b0
  cases s1 : okV p t A with
  | false =>
    have S1 := Lib.hid s1
    clear s1
    go_enter Try.func107, Try.ntmps107
    go_wp2_with fail
    refine (implValidV_any p t a1 l1 c1 A _ HA.out).mono ?_
    rintro e w1 ⟨rfl, b1⟩
    rw [S1.out]
    have B1 := Lib.hid (below_after B0.out (Nat.le_refl _) b1)
    clear b1
    go_wp2_with fail
    go_ret
    exact ⟨rfl, B1.out⟩
  | true =>
    have S1 := Lib.hid s1
    clear s1
    by_cases hq : t = p
    · have HD : Hid ((true && decide (t = p)) = true) := Lib.hid (by rw [decide_eq_true hq]; rfl)
      rw [HD.out]
      have hb : (t == p) = true := by simpa using hq
      clear hq
      go_enter Try.func107, Try.ntmps107
      go_wp2_with fail
      refine (implValidV_any p t a1 l1 c1 A _ HA.out).mono ?_
      rintro e w1 ⟨rfl, b1⟩
      rw [S1.out]
      have B1 := Lib.hid (below_after B0.out (Nat.le_refl _) b1)
      obtain ⟨⟨x0, x1, x2⟩, _⟩ := (HX.out.below b1).all
      clear b1
      go_wp2_with fail
      go_ret
      exact ⟨rfl, B1.out⟩
    · have HD : Hid ((true && decide (t = p)) = false) := Lib.hid (by rw [decide_eq_false hq]; rfl)
      rw [HD.out]
      have hb : (t == p) = false := by simpa using hq
      clear hq
      go_enter Try.func107, Try.ntmps107
      go_wp2_with fail
      refine (implValidV_any p t a1 l1 c1 A _ HA.out).mono ?_
      rintro e w1 ⟨rfl, b1⟩
      rw [S1.out]
      have B1 := Lib.hid (below_after B0.out (Nat.le_refl _) b1)
      obtain ⟨⟨x0, x1, x2⟩, _⟩ := (HX.out.below b1).all
      clear b1
      go_wp2_with fail
      go_ret
      exact ⟨rfl, B1.out⟩

theorem areRooms_yes (P : Nat) (a1 : Option Addr) (l1 c1 : Nat) (A : List Int) (w : World) (hA : IAt w a1 l1 A) (h : okV (P : Nat) (P : Nat) A = true) :
    Calls Try.prog 107 #[valuesV (P : Nat) (P : Nat) a1 l1 c1] w (BoolOut w true) := by
  refine (areRooms_any (P : Nat) (P : Nat) a1 l1 c1 A w hA).mono ?_
  rintro e w' ⟨rfl, hb⟩
  exact ⟨by rw [h, decide_eq_true rfl]; rfl, hb⟩

set_option maxHeartbeats 2000000 in
set_option maxRecDepth 20000 in
theorem implRent_any (p t : Int) (a1 : Option Addr) (l1 c1 : Nat) (A : List Int) (ar : Option Addr) (lr cr : Nat) (R : List Int) (aq : Option Addr) (lq cq : Nat) (Q : List Int) (w : World) (hA : IAt w a1 l1 A) (hR : IAt w ar lr R) (hQ : IAt w aq lq Q) (hc : l1 ≤ c1) (hrc : lr ≤ cr) (hqc : lq ≤ cq) :
    Calls Try.prog 58 #[valuesV p t a1 l1 c1, .slice ar lr cr, .slice aq lq cq] w (TwoOut w (rentV p t A R Q)) := by
  have hmf : ∀ (fn : Fn) (first cap : Array Value) (w : World), (Instr.makeFunc fn first cap).run Try.prog w = .ok (.func fn first cap) w := fun _ _ _ _ => rfl
  have RS : ∀ (w' : World) (a : Addr) (m : Mode) (cs : Array Value), (store a (.func (.func 113) #[] cs) m).run Try.prog w' = stored Try.prog w' a (.func (.func 113) #[] cs) m := fun w' a m cs => run_store Try.prog w' a _ m rfl
  have b0 : Below w.heap.size w _ := below3 (w := w) (o := .cells #[.int .i64 p, .int .i64 t, .slice a1 l1 c1] 27) (p := .cells #[.slice ar lr cr] 22) (q := .cells #[.slice aq lq cq] 22)
  have HA := Lib.hid (hA.below b0)
  have HR := Lib.hid (hR.below b0)
  have HQ := Lib.hid (hQ.below b0)
  have B0 := Lib.hid b0
  have HX : Hid (Box3 _ w.heap.size 27 (.int .i64 p) (.int .i64 t) (.slice a1 l1 c1)) := Lib.hid (heap3a (w := w) (o := .cells #[.int .i64 p, .int .i64 t, .slice a1 l1 c1] 27) (p := .cells #[.slice ar lr cr] 22) (q := .cells #[.slice aq lq cq] 22))
  have HXR : Hid (Boxed _ (w.heap.size + 1) 22 (.slice ar lr cr)) := Lib.hid (heap3b (w := w) (o := .cells #[.int .i64 p, .int .i64 t, .slice a1 l1 c1] 27) (p := .cells #[.slice ar lr cr] 22) (q := .cells #[.slice aq lq cq] 22))
  have HXQ : Hid (Boxed _ (w.heap.size + 2) 22 (.slice aq lq cq)) := Lib.hid (heap3c (w := w) (o := .cells #[.int .i64 p, .int .i64 t, .slice a1 l1 c1] 27) (p := .cells #[.slice ar lr cr] 22) (q := .cells #[.slice aq lq cq] 22))
  clear hA hR hQ b0
  cases s1 : okV p t A && decide (t = p) with
  | false =>
    have S1 := Lib.hid s1
    rw [rentV_no (by unfold okRent; rw [s1]; rfl)]
    clear s1
    go_enter Try.func58, Try.ntmps58
    go_wp2_with fail
    refine (areRooms_any p t a1 l1 c1 A _ HA.out).mono ?_
    rintro e w1 ⟨rfl, b1⟩
    rw [S1.out]
    have B1 := Lib.hid (below_after B0.out (Nat.le_refl _) b1)
    clear b1
    go_wp2_with fail
    go_ret2
    exact ⟨rfl, B1.out⟩
  | true =>
    obtain ⟨h1, h2⟩ := (Bool.and_eq_true _ _).mp s1
    obtain rfl : t = p := of_decide_eq_true h2
    obtain ⟨P, T, rfl, hPT, hv⟩ := VOk.of HA.out hc h1
    obtain rfl : P = T := by omega
    have S1 := Lib.hid h1
    have HV := Lib.hid hv
    have hp1 := hv.p1
    have hp6 := hv.p6
    have hlr := HR.out.1
    have hlq := HQ.out.1
    have hmq := HQ.out.2.1
    unfold maxLen at hmq
    cases s2 : okOrder P R with
    | false =>
      have S2 := Lib.hid s2
      rw [rentV_no (by unfold okRent; rw [Int.toNat_natCast, s2]; simp)]
      clear s1 s2 h1 h2 hPT hv hlr hlq hmq
      go_enter Try.func58, Try.ntmps58
      go_wp2_with fail
      refine (areRooms_yes P a1 l1 c1 A _ HA.out S1.out).mono ?_
      rintro e w1 ⟨rfl, b1⟩
      have B1 := Lib.hid (below_after B0.out (Nat.le_refl _) b1)
      have HR1 := Lib.hid (HR.out.below b1)
      obtain ⟨⟨x0, x1, x2⟩, _⟩ := (HX.out.below b1).all
      have y0 := (boxed_ext HXR.out b1).cell
      clear b1
      go_wp2_with fail
      refine (isOrder_any ar lr cr P R _ (by omega) HR1.out).mono ?_
      rintro e w2 ⟨rfl, rfl⟩
      rw [S2.out]
      go_wp2_with fail
      go_ret2
      exact ⟨rfl, B1.out⟩
    | true =>
      by_cases hq : lq = P
      · subst hq
        cases s3 : okAll (-1000000000) 1000000000 Q with
        | false =>
          have S2 := Lib.hid s2
          have S3 := Lib.hid s3
          rw [rentV_no (by unfold okRent; rw [s3]; simp)]
          have hqb : ((lq : Int) == (lq : Int)) = true := beq_self_eq_true _
          have hqc : ((lq : Int) != (lq : Int)) = false := by rw [bne, hqb]; rfl
          clear s1 s2 s3 h1 h2 hPT hv hlr hlq
          go_enter Try.func58, Try.ntmps58
          go_wp2_with fail
          refine (areRooms_yes lq a1 l1 c1 A _ HA.out S1.out).mono ?_
          rintro e w1 ⟨rfl, b1⟩
          have B1 := Lib.hid (below_after B0.out (Nat.le_refl _) b1)
          have HR1 := Lib.hid (HR.out.below b1)
          have HQ1 := Lib.hid (HQ.out.below b1)
          obtain ⟨⟨x0, x1, x2⟩, _⟩ := (HX.out.below b1).all
          have y0 := (boxed_ext HXR.out b1).cell
          have z0 := (boxed_ext HXQ.out b1).cell
          clear b1
          go_wp2_with fail
          refine (isOrder_any ar lr cr lq R _ (by omega) HR1.out).mono ?_
          rintro e w2 ⟨rfl, rfl⟩
          rw [S2.out]
          go_wp2_with fail
          refine (areBetween_any aq lq cq Q _ _ _ HQ1.out).mono ?_
          rintro e w2 ⟨rfl, rfl⟩
          rw [S3.out]
          go_wp2_with fail
          go_ret2
          exact ⟨rfl, B1.out⟩
        | true =>
          have S2 := Lib.hid s2
          have S3 := Lib.hid s3
          have hok : okRent lq lq A R Q = true := by
            unfold okRent
            rw [h1, decide_eq_true rfl, Int.toNat_natCast, s2, s3, decide_eq_true (show ((Q.length : Int) = lq) by omega)]
            rfl
          rw [rentV_yes hok]
          have hrl : lr = lq := by rw [← hlr]; exact (okOrder_true s2).1
          have HRL := Lib.hid hrl
          obtain ⟨u, hu⟩ : ∃ u, rentL A lq R Q = u := ⟨_, rfl⟩
          rw [hu]
          have HU : Hid (allB (pairsToB (rentB A lq R Q) lq lq) = u) := Lib.hid (by rw [pairsB_all, ← hu]; rfl)
          clear s1 s2 s3 h1 h2 hPT hv hlr hlq hok hrl hu
          go_enter Try.func58, Try.ntmps58
          go_wp2_with fail
          refine (areRooms_yes lq a1 l1 c1 A _ HA.out S1.out).mono ?_
          rintro e w1 ⟨rfl, b1⟩
          have B1 := Lib.hid (below_after B0.out (Nat.le_refl _) b1)
          have HR1 := Lib.hid (HR.out.below b1)
          have HQ1 := Lib.hid (HQ.out.below b1)
          have HV1 := Lib.hid (HV.out.below b1)
          have HX1 := Lib.hid (HX.out.below b1)
          have HXR1 := Lib.hid (boxed_ext HXR.out b1)
          have HXQ1 := Lib.hid (boxed_ext HXQ.out b1)
          have hz1 : w.heap.size + 3 ≤ w1.heap.size := by have := b1.size; simp at this; omega
          obtain ⟨⟨x0, x1, x2⟩, _⟩ := HX1.out.all
          have y0 := HXR1.out.cell
          have z0 := HXQ1.out.cell
          clear b1
          go_wp2_with fail
          refine (isOrder_any ar lr cr lq R _ (by omega) HR1.out).mono ?_
          rintro e w2 ⟨rfl, rfl⟩
          rw [S2.out]
          go_wp2_with fail
          refine (areBetween_any aq lq cq Q _ _ _ HQ1.out).mono ?_
          rintro e w2 ⟨rfl, rfl⟩
          rw [S3.out]
          have b2 : Below w1.heap.size w1 (w1.alloc (.cells #[.func (.func 113) #[] #[.pointer (some ⟨w.heap.size, 0, none⟩), .pointer (some ⟨w.heap.size + 1 + 1, 0, none⟩)]] 63)) := below1
          have hg : (w1.alloc (.cells #[.func (.func 113) #[] #[.pointer (some ⟨w.heap.size, 0, none⟩), .pointer (some ⟨w.heap.size + 1 + 1, 0, none⟩)]] 63)).heap[w1.heap.size]? = some (.cells #[.func (.func 113) #[] #[.pointer (some ⟨w.heap.size, 0, none⟩), .pointer (some ⟨w.heap.size + 1 + 1, 0, none⟩)]] 63) := heap1
          have X2 := HX1.out.below b2
          have Y2 := boxed_ext HXR1.out b2
          have Z2 := boxed_ext HXQ1.out b2
          have V2 := HV1.out.below b2
          have R2 := HR1.out.below b2
          have Q2 := HQ1.out.below b2
          have G2 : Boxed _ w1.heap.size 63 (.func (.func 113) #[] #[.pointer (some ⟨w.heap.size, 0, none⟩), .pointer (some ⟨w.heap.size + 1 + 1, 0, none⟩)]) := hg
          have HT : Hid (TellB _ 114 #[.pointer (some ⟨w1.heap.size, 0, none⟩), .pointer (some ⟨w.heap.size + 1, 0, none⟩)] lq (rentB A lq R Q)) := Lib.hid fun W hW i j hi hj =>
            rentTell_any lq i j w.heap.size (w.heap.size + 2) w1.heap.size (w.heap.size + 1) a1 l1 c1 A aq lq cq Q ar lr cr R W (X2.below hW) (boxed_ext Z2 hW).cell (boxed_ext G2 hW).cell (boxed_ext Y2 hW).cell (V2.below hW) hi hj (Q2.below hW) rfl S3.out (R2.below hW) HRL.out S2.out
          have B2 := Lib.hid (below_after B1.out (Nat.le_refl _) b2)
          obtain ⟨⟨x0, x1, x2⟩, _⟩ := X2.all
          clear b2 hg X2 Y2 Z2 V2 R2 Q2 G2
          go_wp2_with fail
          refine (forPairsB_any lq 114 _ (rentB A lq R Q) _ hp6 (enters_of Try.func114 (by kernel_rfl) rfl) HT.out).mono ?_
          rintro e w2 ⟨a, len, cap, rfl, o2, b2⟩
          have hlen : len ≤ 4096 := by have := o2.1; simp only [List.length_map] at this; have h := pairsB_len (rentB A lq R Q) hp6; omega
          have O2 := Lib.hid o2
          have B3 := Lib.hid (below_after B2.out (Nat.le_refl _) b2)
          clear o2 b2 x0 x1 x2
          go_wp2_with fail
          refine (containsB_any a len cap _ _ w2 hlen O2.out).mono ?_
          rintro e w3 ⟨rfl, rfl⟩
          rw [HU.out]
          cases u with
          | true =>
            go_wp2_with fail
            go_ret2
            exact ⟨rfl, B3.out⟩
          | false =>
            go_wp2_with fail
            go_ret2
            exact ⟨rfl, B3.out⟩
      · have hqb : ((lq : Int) == (P : Int)) = false := by rw [beq_eq_false_iff_ne]; omega
        have hqc : ((lq : Int) != (P : Int)) = true := by rw [bne, hqb]; rfl
        have S2 := Lib.hid s2
        rw [rentV_no (by unfold okRent; rw [decide_eq_false (show ¬ ((Q.length : Int) = (P : Int)) by omega)]; simp)]
        clear s1 s2 h1 h2 hPT hv hlr hlq hq
        go_enter Try.func58, Try.ntmps58
        go_wp2_with fail
        refine (areRooms_yes P a1 l1 c1 A _ HA.out S1.out).mono ?_
        rintro e w1 ⟨rfl, b1⟩
        have B1 := Lib.hid (below_after B0.out (Nat.le_refl _) b1)
        have HR1 := Lib.hid (HR.out.below b1)
        obtain ⟨⟨x0, x1, x2⟩, _⟩ := (HX.out.below b1).all
        have y0 := (boxed_ext HXR.out b1).cell
        have z0 := (boxed_ext HXQ.out b1).cell
        clear b1
        go_wp2_with fail
        refine (isOrder_any ar lr cr P R _ (by omega) HR1.out).mono ?_
        rintro e w2 ⟨rfl, rfl⟩
        rw [S2.out]
        go_wp2_with fail
        go_ret2
        exact ⟨rfl, B1.out⟩
end Go.Proofs.Ytkgjfockechniaa
