/-
  EnvyTable: the program's answer and the reference's.
-/
import Derived.Test.YtkgjfockechniaaTPairs
namespace Go.Proofs.Ytkgjfockechniaa
open Go.RowKit Go.ChangeShapes Go.WideShapes
set_option linter.unusedVariables false

def tableL (A : List Int) (T : Nat) (O : List Int) (P : Nat) : List Int := pairsTo (envyF A T O) P P
def tableV (p t : Int) (A O : List Int) : List Int × Bool := if okOwn p t A O then (tableL A t.toNat O p.toNat, true) else ([], false)
theorem tableV_no {p t : Int} {A O : List Int} (h : okOwn p t A O = false) : tableV p t A O = ([], false) := by unfold tableV; rw [h]; rfl
theorem tableV_yes {P T : Nat} {A O : List Int} (h : okOwn P T A O = true) : tableV P T A O = (tableL A T O P, true) := by unfold tableV; rw [h]; rfl
theorem tableV_len (p t : Int) (A O : List Int) : (tableV p t A O).1.length ≤ 4096 := by
  cases h : okOwn p t A O with
  | false => rw [tableV_no h]; simp
  | true =>
    obtain ⟨h1, -, -⟩ := okOwn_true h
    obtain ⟨P, T, rfl, rfl, _, h2, _⟩ := okRows_true h1 (by omega)
    rw [tableV_yes h]
    unfold tableL
    rw [pairsTo_len]
    have := Nat.mul_le_mul h2 h2
    omega
theorem envyF_big {w : World} {P T : Nat} {a : Option Addr} {l c : Nat} {A O : List Int} (hv : VOk w P T a l c A) (hO : O.length ≤ T) {i j : Nat} (hi : i < P) : -8000 ≤ envyF A T O i j ∧ envyF A T O i j ≤ 8000 := by
  have h1 := partW_in (j := (j : Int)) (O := O) hv.ok hv.len hi hO hv.t8
  have h2 := partW_in (j := (i : Int)) (O := O) hv.ok hv.len hi hO hv.t8
  unfold envyF
  omega

set_option maxRecDepth 20000 in
theorem implTable_any (p t : Int) (a1 : Option Addr) (l1 c1 : Nat) (A : List Int) (ao : Option Addr) (lo co : Nat) (O : List Int) (w : World) (hA : IAt w a1 l1 A) (hO : IAt w ao lo O) (hc : l1 ≤ c1) :
    Calls Try.prog 34 #[valuesV p t a1 l1 c1, .slice ao lo co] w (PairOut w (tableV p t A O)) := by
  have HA := Lib.hid hA
  have HO := Lib.hid hO
  clear hA hO
  cases s1 : okOwn p t A O with
  | false =>
    have S1 := Lib.hid s1
    rw [tableV_no s1]
    clear s1
    go_enter Try.func34, Try.ntmps34
    go_wp2_with fail
    refine (areOwned_any p t a1 l1 c1 A ao lo co O _ (HA.out.below below2) (HO.out.below below2)).mono ?_
    rintro e w1 ⟨rfl, b1⟩
    rw [S1.out]
    have B1 := Lib.hid (below_after below2 (Nat.le_refl _) b1)
    clear b1
    go_wp2_with fail
    go_ret2
    exact ⟨none, 0, 0, rfl, own_nil _ (Nat.le_refl _), B1.out⟩
  | true =>
    obtain ⟨h1, h2, h3⟩ := okOwn_true s1
    obtain ⟨P, T, rfl, rfl, hv⟩ := VOk.of HA.out hc h1
    have S1 := Lib.hid s1
    rw [tableV_yes s1]
    have HV := Lib.hid hv
    have hlo : lo = T := by have := HO.out.1; omega
    have hl1 : 1 ≤ lo := by have := hv.t1; omega
    have hl2 : lo ≤ T := by omega
    have hp6 := hv.p6
    clear s1 h1 h2 h3 hv hlo
    go_enter Try.func34, Try.ntmps34
    go_wp2_with fail
    refine (areOwned_any P T a1 l1 c1 A ao lo co O _ (HA.out.below below2) (HO.out.below below2)).mono ?_
    rintro e w1 ⟨rfl, b1⟩
    rw [S1.out]
    have X1 : Box3 w1 w.heap.size 27 (.int .i64 (P : Nat)) (.int .i64 (T : Nat)) (.slice a1 l1 c1) := Box3.below (heap2a (w := w) (o := .cells #[.int .i64 (P : Nat), .int .i64 (T : Nat), .slice a1 l1 c1] 27) (p := .cells #[.slice ao lo co] 22)) b1
    have Y1 : Boxed w1 (w.heap.size + 1) 22 (.slice ao lo co) := boxed_ext (heap2b (w := w) (o := .cells #[.int .i64 (P : Nat), .int .i64 (T : Nat), .slice a1 l1 c1] 27) (p := .cells #[.slice ao lo co] 22)) b1
    have B1 := Lib.hid (below_after below2 (Nat.le_refl _) b1)
    have hs1 := B1.out.size
    have V1 := HV.out.below B1.out
    have O1 := HO.out.below B1.out
    have hT : TellI w1 70 #[.pointer (some ⟨w.heap.size, 0, none⟩), .pointer (some ⟨w.heap.size + 1, 0, none⟩)] P (envyF A T O) := fun W hW i j hi hj =>
      tellEnvy_any P T i j w.heap.size (w.heap.size + 1) a1 l1 c1 A ao lo co O W (X1.below hW) (boxed_ext Y1 hW).cell (V1.below hW) hi (O1.below hW) hl1 hl2
    have HT := Lib.hid hT
    have HG : Hid (∀ i j, i < P → j < P → Big (envyF A T O i j)) := Lib.hid fun i j hi hj => by
      have := envyF_big (O := O) (j := j) V1 (by rw [O1.1]; exact hl2) hi
      exact ⟨by omega, by omega⟩
    obtain ⟨⟨x0, x1, x2⟩, _⟩ := X1.all
    clear b1 hT X1 Y1 V1 O1
    go_wp2_with fail
    refine (forPairsI_any P 70 #[.pointer (some ⟨w.heap.size, 0, none⟩), .pointer (some ⟨w.heap.size + 1, 0, none⟩)] (envyF A T O) w1 hp6 (enters_of Try.func70 (by kernel_rfl) rfl) HT.out HG.out).mono ?_
    rintro e w2 ⟨a, len, cap, rfl, o2, b2⟩
    have O2 := Lib.hid (o2.wide (lo' := w.heap.size) (by omega) (Nat.le_refl _) (Nat.le_refl _))
    have B2 := Lib.hid (below_after B1.out (Nat.le_refl _) b2)
    clear o2 b2 x0 x1 x2
    go_wp2_with fail
    go_ret2
    exact ⟨a, len, cap, rfl, O2.out, B2.out⟩

theorem specEnvy_any (m P T i : Nat) (a1 : Option Addr) (l1 c1 : Nat) (A : List Int) (j : Int) (ao : Option Addr) (lo co : Nat) (O : List Int) (w : World) (hx : Box3 w m 27 (.int .i64 (P : Nat)) (.int .i64 (T : Nat)) (.slice a1 l1 c1)) (hv : VOk w P T a1 l1 c1 A) (hi : i < P) (hO : IAt w ao lo O) (hlt : lo ≤ T) :
    Calls Try.prog 68 #[.pointer (some ⟨m, 0, none⟩), .slice ao lo co, .int .i64 i, .int .i64 j] w fun e w' => e = .returned (.int .i64 (partW A T i j O - partW A T i i O)) ∧ Same w w' := by
  have h1 := partW_in (j := j) (O := O) hv.ok hv.len hi (by rw [hO.1]; exact hlt) hv.t8
  have h2 := partW_in (j := (i : Int)) (O := O) hv.ok hv.len hi (by rw [hO.1]; exact hlt) hv.t8
  have HX := Lib.hid hx
  have HV := Lib.hid hv
  have HO := Lib.hid hO
  clear hx hv hO
  obtain ⟨u, hu⟩ : ∃ u, partW A T i j O = u := ⟨_, rfl⟩
  obtain ⟨v, hv⟩ : ∃ v, partW A T i i O = v := ⟨_, rfl⟩
  rw [hu] at h1 ⊢
  rw [hv] at h2 ⊢
  have HU := Lib.hid hu
  have HVV := Lib.hid hv
  clear hu hv
  go_enter Try.func68, Try.ntmps68
  go_wp2_with fail
  refine (specPart_any m P T i a1 l1 c1 A j ao lo co O w HX.out HV.out hi HO.out hlt).mono ?_
  rintro e w1 ⟨rfl, s1⟩
  rw [HU.out]
  have b1 := Lib.hid (same_below s1 w.heap.size)
  have S1 := Lib.hid s1
  clear s1
  go_wp2_with fail
  refine (specPart_any m P T i a1 l1 c1 A i ao lo co O w1 (HX.out.below b1.out) (HV.out.below b1.out) hi (HO.out.below b1.out) hlt).mono ?_
  rintro e w2 ⟨rfl, s2⟩
  rw [HVV.out]
  have S2 := Lib.hid s2
  clear s2
  go_wp2_with fail
  go_ret
  refine ⟨rfl, ?_⟩
  obtain ⟨n1, e1⟩ := S1.out
  obtain ⟨n2, e2⟩ := S2.out
  subst e1
  subst e2
  exact ⟨n1 + n2, World.drewN_drewN _ _ _⟩
end Go.Proofs.Ytkgjfockechniaa
