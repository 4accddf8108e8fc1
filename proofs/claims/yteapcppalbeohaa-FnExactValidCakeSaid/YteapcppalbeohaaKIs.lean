/-
  Is a cake valid? The reference.
-/
import Derived.Test.YteapcppalbeohaaKRow
namespace Go.Proofs.Yteapcppalbeohaa
open Go.RowKit Go.ChangeShapes Go.WideShapes
set_option linter.unusedVariables false

theorem okRows_16 {p t : Int} {A : List Int} (h1 : inB 1 6 p = true) (h2 : inB 1 16 t = true) : okRows 16 p t A = (decide ((A.length : Int) = p * t) && okAll 0 1000 A) := okRows_in h1 h2

set_option maxHeartbeats 4000000 in
set_option maxRecDepth 20000 in
theorem specIsC_any (m : Nat) (p t : Int) (a1 : Option Addr) (l1 c1 : Nat) (A : List Int) (w : World) (hx : Box3 w m 39 (.int .i64 p) (.int .i64 t) (.slice a1 l1 c1)) (hA : IAt w a1 l1 A) (hc : l1 ≤ c1) :
    Calls Try.prog 54 #[.pointer (some ⟨m, 0, none⟩)] w fun e w' => e = .returned (.bool (okC p t A)) ∧ Same w w' := by
  obtain ⟨⟨p0, p1, p2⟩, _⟩ := hx.all
  have HA := Lib.hid hA
  have HX := Lib.hid hx
  clear hA hx
  cases s1 : inB 1 6 p with
  | false =>
    have S1 := Lib.hid s1
    have E := Lib.hid (okC_out (okRows_p (m := 16) (t := t) (A := A) s1))
    clear s1
    rw [E.out]
    go_enter Try.func54, Try.ntmps54
    go_wp2_with fail
    go_quiet ((go_at_call 47; refine (inR_any _ _ _ _).mono ?_; rintro e w2 ⟨rfl, h2⟩; rw [S1.out]; exact ⟨rfl, _, h2.symm⟩))
    go_wp2
    go_ret
    exact ⟨rfl, nq, rfl⟩
  | true =>
    cases s2 : inB 1 16 t with
    | false =>
      have S1 := Lib.hid s1
      have S2 := Lib.hid s2
      have E := Lib.hid (okC_out (okRows_t (p := p) (A := A) s2))
      clear s1 s2
      rw [E.out]
      go_enter Try.func54, Try.ntmps54
      go_wp2_with fail
      go_quiet ((go_at_call 47; refine (inR_any _ _ _ _).mono ?_; rintro e w2 ⟨rfl, h2⟩; (first | rw [S1.out] | rw [S2.out]); exact ⟨rfl, _, h2.symm⟩))
      go_wp2
      go_ret
      exact ⟨rfl, nq, rfl⟩
    | true =>
      obtain ⟨q0, q1⟩ := prod_in s1 s2 (by omega)
      have hw : IntKind.i64.wrap (p * t) = p * t := IntWalk.i64_in _ (by omega)
      have hE := okRows_16 (A := A) s1 s2
      have S1 := Lib.hid s1
      have S2 := Lib.hid s2
      have HW := Lib.hid hw
      clear s1 s2 hw q0 q1
      cases s3 : (decide ((A.length : Int) = p * t) && okAll 0 1000 A) with
      | false =>
        have S3 := Lib.hid s3
        have E := Lib.hid (okC_out (hE.trans s3))
        clear s3 hE
        rw [E.out]
        go_enter Try.func54, Try.ntmps54
        go_wp2_with fail
        go_quiet (first
          | (go_at_call 47; refine (inR_any _ _ _ _).mono ?_; rintro e w2 ⟨rfl, h2⟩; (first | rw [S1.out] | rw [S2.out]); exact ⟨rfl, _, h2.symm⟩)
          | (go_at_call 84; refine (worths04_any _ _ _ A _ _ (HA.out.below (same_below ⟨_, rfl⟩ _))).mono ?_; rintro e w2 ⟨rfl, h2⟩; rw [HW.out, S3.out]; exact ⟨rfl, _, h2.symm⟩))
        go_wp2
        go_ret
        exact ⟨rfl, nq, rfl⟩
      | true =>
        have S3 := Lib.hid s3
        have hok := hE.trans s3
        obtain ⟨P, T, rfl, rfl, hv⟩ := COk.of HA.out hc hok
        rw [okC_in hok]
        obtain ⟨b, off, rfl, hb, hcl⟩ := hv.at_
        obtain ⟨hl, hl1, hl96⟩ := hv.l96
        have hp6 := hv.p6
        have ht1 := hv.t1
        have ht16 := hv.t16
        have HV := Lib.hid hv
        have HL := Lib.hid hl
        have HC := Lib.hid hcl
        clear s3 hE hok hv hl hcl
        go_enter Try.func54, Try.ntmps54
        go_wp2_with fail
        go_quiet (first
          | (go_at_call 47; refine (inR_any _ _ _ _).mono ?_; rintro e w2 ⟨rfl, h2⟩; (first | rw [S1.out] | rw [S2.out]); exact ⟨rfl, _, h2.symm⟩)
          | (go_at_call 84; refine (worths04_any _ _ _ A _ _ (HA.out.below (same_below ⟨_, rfl⟩ _))).mono ?_; rintro e w2 ⟨rfl, h2⟩; rw [HW.out, S3.out]; exact ⟨rfl, _, h2.symm⟩))
        have HQ : Hid (Same w (w.drewN nq)) := Lib.hid ⟨nq, rfl⟩
        have hq0 := HX.out.below (same_below HQ.out _)
        clear p0 p1 p2
        obtain ⟨⟨p0, p1, p2⟩, _⟩ := hq0.all
        clear hq0
        go_wp2_with fail
        clear p0 p1 p2
        go_loopw [3] (fun q wr => ∃ k : Nat, k ≤ P ∧ q = .int .i64 k ∧ Hid (∀ j, j < k → ¬ sumF (wAt A T j) T = 0) ∧ Hid (Same w wr)) (fun q _ => P - (intOf q).toNat)
        case atStart => exact ⟨0, Nat.zero_le _, rfl, Lib.hid (fun j hj => absurd hj (by omega)), HQ⟩
        case round =>
          obtain ⟨k, hk, rfl, H, HS⟩ := hrel
          have hX3 := HX.out.below (same_below HS.out _)
          obtain ⟨⟨q0, q1, q2⟩, _⟩ := hX3.all
          clear hX3
          by_cases hlt : k < P
          · obtain ⟨f, g, e1, e2, e3, e4, e5⟩ := row_prod (T := T) hlt
            have HE := Lib.hid e3
            have hgT : g - f = T := by omega
            have HT := Lib.hid hgT
            have hfl : f + T ≤ l1 := by rw [HL.out]; exact e5
            have hgl : g ≤ c1 := by omega
            have hfg : f ≤ g := by omega
            have hg96 : g ≤ 96 := by omega
            have HCF : Hid (¬ c1 = f) := Lib.hid (by omega)
            have HB : Hid (sumF (wAt A T k) T = 0 → cakeRows A T P = false) := Lib.hid (cakeRows_bad hlt)
            have HN : Hid (¬ sumF (wAt A T k) T = 0 → ∀ j, j < k + 1 → ¬ sumF (wAt A T j) T = 0) := Lib.hid fun h j hj => by
              by_cases e : j = k
              · rw [e]; exact h
              · exact H.out j (by omega)
            have HR : Hid (∀ n, ∀ q, q < T → (wr.drewN n).cell? ⟨b, off + f + q, none⟩ = some (.int .i64 (wAt A T k q))) := Lib.hid fun n q hq => by
              have := ((HV.out.below (same_below HS.out _)).below (same_below ⟨n, rfl⟩ _)).row hlt q hq
              rw [HE.out] at this
              exact this
            have HF : Hid (∀ q, q < T → 0 ≤ wAt A T k q ∧ wAt A T k q ≤ 1000000) := Lib.hid fun q hq => by have := HV.out.w_in hlt hq; omega
            clear e3 e4 e5 hgT hfl
            obtain ⟨s, hs⟩ : ∃ s, sumF (wAt A T k) T = s := ⟨_, rfl⟩
            rw [hs] at HB HN
            have HSS := Lib.hid hs
            clear hs
            go_wp2_with fail
            go_quiet ((go_at_call 97; rw [HT.out, if_neg HCF.out]; refine (sum04_any b (off + f) T _ (wAt A T k) _ (by omega) HF.out (HR.out _)).mono ?_; rintro e w3 ⟨rfl, h2⟩; rw [HSS.out]; exact ⟨rfl, _, h2.symm⟩))
            have HS' : Hid (Same w (wr.drewN nq)) := Lib.hid (by
              obtain ⟨n, hn⟩ := HS.out
              exact ⟨n + nq, by rw [hn]; exact World.drewN_drewN _ _ _⟩)
            by_cases h0 : s = 0
            · have E := Lib.hid (HB.out h0)
              subst h0
              go_wp2_with fail
              go_ret
              exact ⟨by rw [E.out]; rfl, HS'.out⟩
            · have H' := Lib.hid (HN.out h0)
              have hq : (s == 0) = false := by simpa using h0
              clear h0
              go_wp2_with fail
              go_roundw
              case rel => exact ⟨k + 1, by omega, by go_num, H', HS'⟩
              case measure => simp [intOf]; omega
          · obtain rfl : k = P := by omega
            have E : Hid (cakeRows A T k = true) := Lib.hid (cakeRows_all H.out)
            go_wp2_with fail
            go_ret
            exact ⟨by rw [E.out]; rfl, HS.out⟩

theorem specValidC_any (p t : Int) (a1 : Option Addr) (l1 c1 : Nat) (A : List Int) (w : World) (hA : IAt w a1 l1 A) (hc : l1 ≤ c1) :
    Calls Try.prog 21 #[cakeV p t a1 l1 c1] w (BoolOut w (okC p t A)) := by
  have HA := Lib.hid hA
  clear hA
  go_enter Try.func21, Try.ntmps21
  go_wp2_with fail
  refine (specIsC_any w.heap.size p t a1 l1 c1 A _ heap1 (HA.out.below below1) hc).mono ?_
  rintro e w' ⟨rfl, n, rfl⟩
  go_wp2_with fail
  go_ret
  exact ⟨rfl, below1.trans (same_below ⟨n, rfl⟩ _)⟩
end Go.Proofs.Yteapcppalbeohaa
