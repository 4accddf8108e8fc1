/-
  IsRentFair: the program's answer.
-/
import Derived.Test.YtkgjfockechniaaTPairsB
import Derived.Test.YtkgjfockechniaaIsOrd
namespace Go.Proofs.Ytkgjfockechniaa
open Go.RowKit Go.ChangeShapes Go.WideShapes
set_option linter.unusedVariables false

/-- what i gains in a room -/
def gainR (A : List Int) (P : Nat) (Q : List Int) (i k : Nat) : Int := wAt A P i k * P - Q.getD k 0
def rentB (A : List Int) (P : Nat) (R Q : List Int) (i j : Nat) : Bool := decide (gainR A P Q i j ≤ gainR A P Q i (R.getD i 0).toNat)
def rentL (A : List Int) (P : Nat) (R Q : List Int) : Bool := (List.range P).all fun i => (List.range P).all fun j => rentB A P R Q i j
def okRent (p t : Int) (A R Q : List Int) : Bool := (okV p t A && decide (t = p)) && (okOrder p.toNat R && (decide ((Q.length : Int) = p) && okAll (-1000000000) 1000000000 Q))
def rentV (p t : Int) (A R Q : List Int) : Bool × Bool := if okRent p t A R Q = true then (rentL A p.toNat R Q, true) else (false, false)
theorem rentV_no {p t : Int} {A R Q : List Int} (h : okRent p t A R Q = false) : rentV p t A R Q = (false, false) := by unfold rentV; rw [h]; rfl
theorem rentV_yes {P : Nat} {A R Q : List Int} (h : okRent P P A R Q = true) : rentV P P A R Q = (rentL A P R Q, true) := by unfold rentV; rw [h]; rfl
theorem gain_in {A : List Int} {P : Nat} {Q : List Int} {i k : Nat} (h : okAll 0 1000 A = true) (hl : A.length = P * P) (hP : P ≤ 6) (hi : i < P) (hk : k < P) (hq : okAll (-1000000000) 1000000000 Q = true) (hql : Q.length = P) :
    (0 ≤ wAt A P i k * P ∧ wAt A P i k * P ≤ 6000) ∧ -1000000000 ≤ Q.getD k 0 ∧ Q.getD k 0 ≤ 1000000000 := by
  obtain ⟨h1, h2⟩ := wAt_in h hl hi hk
  have := okAll_at hq (i := k) (by omega)
  refine ⟨⟨Int.mul_nonneg h1 (by omega), ?_⟩, this⟩
  have hp6 : (P : Int) ≤ 6 := by omega
  have := Int.mul_le_mul h2 hp6 (by omega) (by omega)
  omega

set_option maxHeartbeats 1000000 in
theorem rentGain_any (P i k m n : Nat) (a1 : Option Addr) (l1 c1 : Nat) (A : List Int) (aq : Option Addr) (lq cq : Nat) (Q : List Int) (w : World) (hx : Box3 w m 27 (.int .i64 (P : Nat)) (.int .i64 (P : Nat)) (.slice a1 l1 c1))
    (hy : w.cell? ⟨n, 0, none⟩ = some (.slice aq lq cq)) (hv : VOk w P P a1 l1 c1 A) (hi : i < P) (hk : k < P) (hQ : IAt w aq lq Q) (hql : lq = P) (hqb : okAll (-1000000000) 1000000000 Q = true) :
    Calls Try.prog 113 #[.int .i64 i, .int .i64 k, .pointer (some ⟨m, 0, none⟩), .pointer (some ⟨n, 0, none⟩)] w fun e w' => e = .returned (.int .i64 (gainR A P Q i k)) ∧ Below w.heap.size w w' := by
  obtain ⟨b, off, rfl, hb, hc⟩ := hv.at_
  obtain ⟨hl, hl1, hl48⟩ := hv.l48
  obtain ⟨bq, oq, rfl, hbq, hcq⟩ : ∃ b off, aq = some ⟨b, off, none⟩ ∧ b < w.heap.size ∧ ∀ i, i < lq → w.cell? ⟨b, off + i, none⟩ = some (.int .i64 (Q.getD i 0)) := by
    rcases hQ.2.2.2 with e | g
    · omega
    · exact g
  obtain ⟨⟨g0, g1⟩, g2, g3⟩ := gain_in hv.ok hv.len hv.p6 hi hk hqb (by rw [hQ.1, hql])
  obtain ⟨v0, v1⟩ := wAt_in hv.ok hv.len hi hk
  have hp1 := hv.p1
  have hp6 := hv.p6
  have ht1 := hv.t1
  have hcap := hv.cap
  have hql' : k < lq := by omega
  have HL := Lib.hid hl
  have p0 := fun y : ExtW w => (hx.below y.ext).c0
  have p1 := fun y : ExtW w => (hx.below y.ext).c1
  have p2 := fun y : ExtW w => (hx.below y.ext).c2
  have q0 := fun y : ExtW w => (y.ext.cell (p := ⟨n, 0, none⟩) (World.block_lt_of_cell? w ⟨n, 0, none⟩ hy)).trans hy
  have q1 := fun y : ExtW w => (y.ext.cell (p := ⟨bq, oq + k, none⟩) hbq).trans (hcq k hql')
  have HCR : Hid (w.cell? ⟨b, off + i * P + k, none⟩ = some (.int .i64 (wAt A P i k))) := Lib.hid (by
    have h1 := hc (i * P + k) (by rw [hl]; exact row_lt hi hk)
    rw [← Nat.add_assoc] at h1
    exact h1)
  obtain ⟨d, hd⟩ : ∃ d, wAt A P i k * P = d := ⟨_, rfl⟩
  have HE : Hid (gainR A P Q i k = d - Q.getD k 0) := Lib.hid (by unfold gainR; rw [hd])
  rw [hd] at g0 g1
  generalize Q.getD k 0 = u at *
  generalize wAt A P i k = v at *
  generalize gainR A P Q i k = g at *
  have HS1 : Hid (wrap64 (v * (P : Int)) = d) := Lib.hid (by rw [hd]; unfold wrap64; omega)
  have HS2 : Hid (wrap64 (d - u) = d - u) := Lib.hid (by unfold wrap64; omega)
  clear hc hcq hx hy hv hQ hl hql hqb hd
  go_enter Try.func113, Try.ntmps113
  go_wp2_with fail
  refine region_ext (by kernel_rfl) (by kernel_rfl) ?_
  repeat (go_big_quiet_step (first
    | (go_at_call 78; refine (row_any b off l1 c1 P P i _ hi ht1 HL.out hcap (by omega)).mono ?_; rintro e w2 ⟨rfl, hb⟩; exact ⟨rfl, ExtW.on _ hb⟩)
    | (go_at_call 79; refine (worth_any b _ P k v _ hk (by omega) (((ExtW.ext _).cell (p := ⟨b, off + i * P + k, none⟩) hb).trans HCR.out)).mono ?_; rintro e w2 ⟨rfl, h2⟩; exact ⟨rfl, ExtW.same _ h2⟩)))
  refine wpQuiet_nil ?_
  intro _ hw'
  obtain ⟨y, hy⟩ := hw'
  subst hy
  rw [HS1.out, HS2.out]
  go_wp2_with fail
  go_ret
  exact ⟨by rw [HE.out]; rfl, y.ext⟩

set_option maxHeartbeats 1000000 in
/-- the program's second closure -/
theorem rentTell_any (P i j m n g h : Nat) (a1 : Option Addr) (l1 c1 : Nat) (A : List Int) (aq : Option Addr) (lq cq : Nat) (Q : List Int) (ar : Option Addr) (lr cr : Nat) (R : List Int) (w : World) (hx : Box3 w m 27 (.int .i64 (P : Nat)) (.int .i64 (P : Nat)) (.slice a1 l1 c1))
    (hy : w.cell? ⟨n, 0, none⟩ = some (.slice aq lq cq)) (hg : w.cell? ⟨g, 0, none⟩ = some (.func (.func 113) #[] #[.pointer (some ⟨m, 0, none⟩), .pointer (some ⟨n, 0, none⟩)])) (hh : w.cell? ⟨h, 0, none⟩ = some (.slice ar lr cr))
    (hv : VOk w P P a1 l1 c1 A) (hi : i < P) (hj : j < P) (hQ : IAt w aq lq Q) (hql : lq = P) (hqb : okAll (-1000000000) 1000000000 Q = true) (hR : IAt w ar lr R) (hrl : lr = P) (hro : okOrder P R = true) :
    Calls Try.prog 114 #[.int .i64 i, .int .i64 j, .pointer (some ⟨g, 0, none⟩), .pointer (some ⟨h, 0, none⟩)] w fun e w' => e = .returned (.bool (rentB A P R Q i j)) ∧ Below w.heap.size w w' := by
  obtain ⟨br, or, rfl, hbr, hcr⟩ : ∃ b off, ar = some ⟨b, off, none⟩ ∧ b < w.heap.size ∧ ∀ i, i < lr → w.cell? ⟨b, off + i, none⟩ = some (.int .i64 (R.getD i 0)) := by
    rcases hR.2.2.2 with e | g
    · omega
    · exact g
  obtain ⟨r, hrv, hrP⟩ : ∃ r : Nat, R.getD i 0 = r ∧ r < P := by
    obtain ⟨q, e, hq, _⟩ := okAt_in ((okOrder_true hro).2 i (by rw [(okOrder_true hro).1]; exact hi))
    exact ⟨q, e, hq⟩
  have hri : i < lr := by omega
  have r0 := fun y : ExtW w => (y.ext.cell (p := ⟨g, 0, none⟩) (World.block_lt_of_cell? w ⟨g, 0, none⟩ hg)).trans hg
  have r1 := fun y : ExtW w => (y.ext.cell (p := ⟨h, 0, none⟩) (World.block_lt_of_cell? w ⟨h, 0, none⟩ hh)).trans hh
  have r2 := fun y : ExtW w => (y.ext.cell (p := ⟨br, or + i, none⟩) hbr).trans (hcr i hri)
  rw [hrv] at r2
  have HG1 : Hid (∀ y : ExtW w, Calls Try.prog 113 #[.int .i64 i, .int .i64 r, .pointer (some ⟨m, 0, none⟩), .pointer (some ⟨n, 0, none⟩)] y.val fun e w' => e = .returned (.int .i64 (gainR A P Q i r)) ∧ Below y.val.heap.size y.val w') :=
    Lib.hid fun y => rentGain_any P i r m n a1 l1 c1 A aq lq cq Q y.val (hx.below y.ext) ((y.ext.cell (p := ⟨n, 0, none⟩) (World.block_lt_of_cell? w ⟨n, 0, none⟩ hy)).trans hy) (hv.below y.ext) hi hrP (hQ.below y.ext) hql hqb
  have HG2 : Hid (∀ y : ExtW w, Calls Try.prog 113 #[.int .i64 i, .int .i64 j, .pointer (some ⟨m, 0, none⟩), .pointer (some ⟨n, 0, none⟩)] y.val fun e w' => e = .returned (.int .i64 (gainR A P Q i j)) ∧ Below y.val.heap.size y.val w') :=
    Lib.hid fun y => rentGain_any P i j m n a1 l1 c1 A aq lq cq Q y.val (hx.below y.ext) ((y.ext.cell (p := ⟨n, 0, none⟩) (World.block_lt_of_cell? w ⟨n, 0, none⟩ hy)).trans hy) (hv.below y.ext) hi hj (hQ.below y.ext) hql hqb
  have HB : Hid (rentB A P R Q i j = decide (gainR A P Q i j ≤ gainR A P Q i r)) := Lib.hid (by unfold rentB; rw [hrv]; rfl)
  have HN : Hid (r = j → gainR A P Q i r = gainR A P Q i j) := Lib.hid fun e => by rw [e]
  have hi6 : i < 6 := by have := hv.p6; omega
  generalize gainR A P Q i r = gr at *
  generalize gainR A P Q i j = gj at *
  generalize rentB A P R Q i j = z at *
  clear hcr hg hh hx hy hv hQ hql hqb hR hrl hro hrv
  go_enter Try.func114, Try.ntmps114
  go_wp2_with fail
  refine region_ext (by kernel_rfl) (by kernel_rfl) ?_
  repeat (go_big_quiet_step (first
    | (go_at_call_of 113 (Value.int IntKind.i64 (j : Int)); refine (HG2.out _).mono ?_; rintro e w2 ⟨rfl, hb⟩; exact ⟨rfl, ExtW.on _ hb⟩)
    | (go_at_call 113; refine (HG1.out _).mono ?_; rintro e w2 ⟨rfl, hb⟩; exact ⟨rfl, ExtW.on _ hb⟩)))
  refine wpQuiet_nil ?_
  intro _ hw'
  obtain ⟨y, hy⟩ := hw'
  subst hy
  go_wp2_with fail
  go_ret
  exact ⟨by rw [HB.out]; rfl, y.ext⟩
end Go.Proofs.Ytkgjfockechniaa
