/-
  What a part is worth to a player: the program's sum over the things of an owner, and the reference's.
-/
import Derived.Test.YtkgjfockechniaaTThings
import Derived.Test.YtkgjfockechniaaTRows
import Derived.Test.YtkgjfockechniaaExt
import Derived.Test.YtkgjfockechniaaReg
namespace Go.Proofs.Ytkgjfockechniaa
open Go.RowKit Go.Shelf
set_option linter.unusedVariables false
attribute [local go_sem] Oper.semAt_some

/-- values that are read, valid ones -/
structure VOk (w : World) (P T : Nat) (a : Option Addr) (l c : Nat) (A : List Int) : Prop where
  iat : IAt w a l A
  len : A.length = P * T
  cap : l ≤ c
  p1 : 1 ≤ P
  p6 : P ≤ 6
  t1 : 1 ≤ T
  t8 : T ≤ 8
  ok : okAll 0 1000 A = true
theorem VOk.below {w w' : World} {P T : Nat} {a : Option Addr} {l c : Nat} {A : List Int} (h : VOk w P T a l c A) (hb : Below w.heap.size w w') : VOk w' P T a l c A :=
  ⟨h.iat.below hb, h.len, h.cap, h.p1, h.p6, h.t1, h.t8, h.ok⟩
theorem VOk.l48 {w : World} {P T : Nat} {a : Option Addr} {l c : Nat} {A : List Int} (h : VOk w P T a l c A) : l = P * T ∧ 1 ≤ l ∧ l ≤ 48 := by
  have h1 : l = P * T := h.iat.1.symm.trans h.len
  have h2 := Nat.mul_le_mul h.p6 h.t8
  have h3 := Nat.mul_le_mul h.p1 h.t1
  exact ⟨h1, by omega, by omega⟩
theorem VOk.at_ {w : World} {P T : Nat} {a : Option Addr} {l c : Nat} {A : List Int} (h : VOk w P T a l c A) : ∃ b off, a = some ⟨b, off, none⟩ ∧ b < w.heap.size ∧ ∀ i, i < l → w.cell? ⟨b, off + i, none⟩ = some (.int .i64 (A.getD i 0)) := by
  rcases h.iat.2.2.2 with e | g
  · have := h.l48; omega
  · exact g
theorem VOk.of {w : World} {p t : Int} {a : Option Addr} {l c : Nat} {A : List Int} (hA : IAt w a l A) (hc : l ≤ c) (h : okRows 8 p t A = true) : ∃ P T : Nat, p = P ∧ t = T ∧ VOk w P T a l c A := by
  obtain ⟨P, T, rfl, rfl, h1, h2, h3, h4, h5, h6⟩ := okRows_true h (by omega)
  exact ⟨P, T, rfl, rfl, hA, h5, hc, h1, h2, h3, by omega, h6⟩

set_option maxRecDepth 100000 in
set_option maxHeartbeats 4000000 in
theorem partWorth_any (P T i : Nat) (a1 : Option Addr) (l1 c1 : Nat) (A : List Int) (j : Int) (ao : Option Addr) (lo co : Nat) (O : List Int) (w : World) (hv : VOk w P T a1 l1 c1 A) (hi : i < P) (ho : IAt w ao lo O) (hlo : 1 ≤ lo) (hlt : lo ≤ T) :
    Calls Try.prog 116 #[valuesV (P : Nat) (T : Nat) a1 l1 c1, .int .i64 i, .int .i64 j, .slice ao lo co] w fun e w' => e = .returned (.int .i64 (partW A T i j O)) ∧ Below w.heap.size w w' := by
  obtain ⟨b, off, rfl, hb, hc⟩ := hv.at_
  obtain ⟨hl, hl1, hl48⟩ := hv.l48
  obtain ⟨bo, oo, rfl, hbo, hco⟩ : ∃ b off, ao = some ⟨b, off, none⟩ ∧ b < w.heap.size ∧ ∀ i, i < lo → w.cell? ⟨b, off + i, none⟩ = some (.int .i64 (O.getD i 0)) := by
    rcases ho.2.2.2 with e | g
    · omega
    · exact g
  have hO := Lib.hid ho.1
  have HC := Lib.hid hc
  have HO := Lib.hid hco
  have HV := Lib.hid hv
  have HL := Lib.hid hl
  have hcap := hv.cap
  have ht1 := hv.t1
  have ht8 := hv.t8
  clear hc hco hv ho hl
  refine (callsIn_wide (n := 12)).1 ?_
  refine callsIn_of_wp_marks Try.func116 rfl trivial ?_ rfl
  simp only [Try.ntmps116, List.size_toArray, List.length_cons, List.length_nil, Nat.reduceAdd, Nat.reduceSub, Array.replicate_succ, Array.replicate_zero, List.push_toArray, List.append_toArray, List.nil_append, List.cons_append]
  gi_wp2_with fail
  refine ⟨trivial, ?_⟩
  refine (callsIn_wide.2 (thingsOf_any j _ lo co _)).mono ?_
  rintro e W0 ⟨rfl, hW0⟩
  have b0 := below3 (w := w) (o := .cells #[.int .i64 (P : Nat), .int .i64 (T : Nat), .slice (some ⟨b, off, none⟩) l1 c1] 27) (p := .cells #[.int .i64 i] 2) (q := .cells #[.int .i64 0] 2)
  have X3 : Box3 _ w.heap.size 27 (.int .i64 (P : Nat)) (.int .i64 (T : Nat)) (.slice (some ⟨b, off, none⟩) l1 c1) := heap3a (w := w) (p := .cells #[.int .i64 i] 2) (q := .cells #[.int .i64 0] 2)
  have I3 : Boxed _ (w.heap.size + 1) 2 (.int .i64 i) := heap3b (w := w) (o := .cells #[.int .i64 (P : Nat), .int .i64 (T : Nat), .slice (some ⟨b, off, none⟩) l1 c1] 27) (q := .cells #[.int .i64 0] 2)
  have S3 : Boxed _ (w.heap.size + 2) 2 (.int .i64 0) := heap3c (w := w) (o := .cells #[.int .i64 (P : Nat), .int .i64 (T : Nat), .slice (some ⟨b, off, none⟩) l1 c1] 27) (p := .cells #[.int .i64 i] 2)
  have z3 : (((w.alloc (.cells #[.int .i64 (P : Nat), .int .i64 (T : Nat), .slice (some ⟨b, off, none⟩) l1 c1] 27)).alloc (.cells #[.int .i64 i] 2)).alloc (.cells #[.int .i64 0] 2)).heap.size = w.heap.size + 3 := by simp
  generalize ((w.alloc (.cells #[.int .i64 (P : Nat), .int .i64 (T : Nat), .slice (some ⟨b, off, none⟩) l1 c1] 27)).alloc (.cells #[.int .i64 i] 2)).alloc (.cells #[.int .i64 0] 2) = W3 at *
  have b1 : Below W3.heap.size W3 W0 := by rw [hW0]; exact below2
  have J0 : Boxed W0 W3.heap.size 2 (.int .i64 j) := by rw [hW0]; exact heap2a
  have O0 : Boxed W0 (W3.heap.size + 1) 22 (.slice (some ⟨bo, oo, none⟩) lo co) := by rw [hW0]; exact heap2b
  have z0 : W0.heap.size = w.heap.size + 5 := by rw [hW0]; simp; omega
  clear hW0
  have X0 := X3.below b1
  have I0 := boxed_ext I3 b1
  have S0 := boxed_ext S3 b1
  have B0 := below_after b0 (Nat.le_refl _) b1
  rw [z3] at J0 O0 ⊢
  clear X3 I3 S3 b0 b1 z3
  clear W3
  obtain ⟨n0, hn0⟩ : ∃ n0, w.heap.size = n0 := ⟨_, rfl⟩
  have HB0 := Lib.hid B0
  clear B0
  simp only [hn0] at X0 I0 S0 J0 O0 z0 hb hbo ⊢
  have HN0 := Lib.hid hn0
  clear hn0
  have HC0 : Hid (∀ k, k < l1 → W0.cell? ⟨b, off + k, none⟩ = some (.int .i64 (A.getD k 0))) := Lib.hid fun k hk => (HB0.out.cell (p := ⟨b, off + k, none⟩) (by rw [HN0.out]; exact hb)).trans (HC.out k hk)
  have HO0 : Hid (∀ k, k < lo → W0.cell? ⟨bo, oo + k, none⟩ = some (.int .i64 (O.getD k 0))) := Lib.hid fun k hk => (HB0.out.cell (p := ⟨bo, oo + k, none⟩) (by rw [HN0.out]; exact hbo)).trans (HO.out k hk)
  clear HC HO
  gi_wp2
  refine wpIn_rangeFunc_ownH rfl (by decide) (gf := 117) (lb := #[.pointer (some ⟨n0 + 3 + 1, 0, none⟩), .pointer (some ⟨n0 + 3, 0, none⟩)]) rfl trivial (enters_of Try.func117 (by kernel_rfl) rfl)
    (things_stops (12 - 1) (by decide) (n0 + 3) (n0 + 3 + 1) bo oo lo co (n0 + 5) (fun k => k = n0 + 2) j O hO.out (by unfold maxLen; omega) ⟨by omega, by omega⟩ ⟨by omega, by omega⟩ ⟨by omega, by omega⟩ W0 (by omega) J0.cell O0.cell HO0.out) kpX_t (kpX_b (by omega)) (Below.refl _ _) (fun _ => rfl)
    (fun pre W => Boxed W (n0 + 2) 2 (.int .i64 (sumT (wAt A T i) pre)) ∧ KpX (fun k => k = n0 + 2) (n0 + 5) W0 W)
    (fun _ _ _ => False)
    (OwnFrom.and (Own.from (boxed_own _ _ _) _) (ownFrom_kpX (by omega) (by omega)))
    (fun _ _ _ _ _ hs _ _ => hs)
    ⟨S0, KpX.refl⟩
    (fun x a' W => a' = { tmps := #[valuesV (P : Nat) (T : Nat) (some ⟨b, off, none⟩) l1 c1, .int .i64 i, .int .i64 j, .slice (some ⟨bo, oo, none⟩) lo co, .pointer (some ⟨n0, 0, none⟩), .pointer (some ⟨n0 + 1, 0, none⟩), undef, undef, .int .i64 0, .pointer (some ⟨n0 + 1 + 1, 0, none⟩), .int .i64 (x.1 : Nat), .int .i64 j, .slice (some ⟨bo, oo, none⟩) lo co, .func (.func 117) #[] #[.pointer (some ⟨n0 + 3 + 1, 0, none⟩), .pointer (some ⟨n0 + 3, 0, none⟩)], .int .i64 (x.1 : Nat), undef, undef, undef, undef, undef, undef, undef, undef], defers := [] })
    (fun _ _ _ _ _ _ hs _ _ => hs)
    ?assign ?body ?done ?stop
  case assign =>
    rintro l pre x W K hi hK
    gi_wp2
    exact hK _ _ (KeepsFrom.refl _ _) KpX.refl hi rfl
  case body =>
    rintro l pre x a' W hl ⟨r, hr⟩ ⟨hS, hK⟩ rfl hlt'
    have sN := hK.size
    obtain ⟨k, hkx⟩ : ∃ k, x.1 = k := ⟨_, rfl⟩
    have hk : k < T := by have h1 := x.2.1; have h2 := hO.out; omega
    have hsn := sumT_snoc (wAt A T i) pre x
    have hsb := sumT_in (wAt A T i) 1000 pre (fun k hk => wAt_in HV.out.ok HV.out.len hi (by have h2 := hO.out; omega))
    have hpl : pre.length ≤ 8 := by have h1 := things_len j O; have h2 := hO.out; omega
    have hvb := wAt_in HV.out.ok HV.out.len hi hk
    have hcw : W.cell? ⟨b, off + i * T + k, none⟩ = some (.int .i64 (wAt A T i k)) := by
      have h1 := HC0.out (i * T + k) (by rw [HL.out]; exact row_lt hi hk)
      rw [← Nat.add_assoc] at h1
      exact hK.cell (by omega) (by omega) h1
    rw [hkx] at hsn ⊢
    generalize hv : wAt A T i k = v at *
    generalize hs : sumT (wAt A T i) pre = s at *
    have hsum : wrap64 (s + v) = s + v := by unfold wrap64; omega
    have HS := Lib.hid hsum
    have HSN := Lib.hid hsn
    clear hsum hsn hsb hvb hpl hv hs
    have pV : ∀ y : ExtW W, y.val.cell? ⟨n0, 0, none⟩ = some (.int .i64 (P : Nat)) ∧ y.val.cell? ⟨n0, 1, none⟩ = some (.int .i64 (T : Nat)) ∧ y.val.cell? ⟨n0, 2, none⟩ = some (.slice (some ⟨b, off, none⟩) l1 c1) := fun y =>
      (Box3.below ((hK.block n0 (by omega) (by omega)).trans X0) y.ext).all.1
    have pV0 := fun y : ExtW W => (pV y).1
    have pV1 := fun y : ExtW W => (pV y).2.1
    have pV2 := fun y : ExtW W => (pV y).2.2
    have pI := fun y : ExtW W => (boxed_ext ((hK.boxed (by omega) (by omega) I0)) y.ext).cell
    have pS := fun y : ExtW W => (boxed_ext hS y.ext).cell
    have fS := hS
    have HW : Hid (∀ y : ExtW W, y.val.cell? ⟨b, off + i * T + k, none⟩ = some (.int .i64 v)) := Lib.hid fun y => (y.ext.cell (p := ⟨b, off + i * T + k, none⟩) (by show b < _; omega)).trans hcw
    clear pV hcw
    have HK := Lib.hid hK
    have HSB := Lib.hid hS
    clear hK hS hr
    gi_wp2_with fail
    refine region_tail_in (C := fun w' => ∃ x : ExtW W, w' = x.val) 7 (by kernel_rfl) (by kernel_rfl) rfl ⟨⟨W.drew, Below.drew (Below.refl _ _)⟩, rfl⟩ ?_
    simp only [List.take_succ_cons, List.take_zero, List.drop_succ_cons, List.drop_zero]
    repeat (go_big_quiet_step (first
      | (go_at_call 78; refine (row_any b off l1 c1 P T i _ hi ht1 HL.out hcap (by omega)).mono ?_; rintro e w2 ⟨rfl, hb⟩; exact ⟨rfl, ExtW.on _ hb⟩)
      | (go_at_call 79; refine (worth_any b (off + i * T) T k v _ hk (by omega) (HW.out _)).mono ?_; rintro e w2 ⟨rfl, hb⟩; exact ⟨rfl, ExtW.same _ hb⟩)))
    refine wpQuiet_nil ?_
    intro _ hw'
    obtain ⟨y, hy⟩ := hw'
    subst hy
    rw [HS.out]
    have cS := (boxed_ext HSB.out y.ext).cell
    have gS := (boxed_ext HSB.out y.ext).frozen
    gi_wp2
    have hx := y.ext
    have hko : KeepsFrom W0.heap.size W (y.val.setCell ⟨n0 + 1 + 1, 0, none⟩ (.int .i64 (s + v))) := (keepsFrom_ext hx).trans ((KeepsOthers.setCell y.val ⟨n0 + 1 + 1, 0, none⟩ (.int .i64 (s + v))).from _)
    have hkp : KpX (fun k => k = n0 + 2) (n0 + 5) W (y.val.setCell ⟨n0 + 1 + 1, 0, none⟩ (.int .i64 (s + v))) := (KpX.of_ext hx (by omega)).trans (KpX.set (.inl rfl))
    exact ⟨hko, hkp, by rw [HSN.out]; exact Boxed.set _ (boxed_ext HSB.out hx), HK.out.trans hkp⟩
  case done =>
    rintro D zs W hD rfl ⟨hS, hK⟩ hD2
    have cS := hS.cell
    rw [show sumT (wAt A T i) (thingsAll j O) = partW A T i j O from sumT_to _ _ _ _ (Nat.le_refl _)] at cS
    gi_wp2
    refine ⟨by simp, .inl ⟨_, _, rfl, run_takeDeferred hD2, ?_⟩⟩
    refine ⟨.int .i64 (partW A T i j O), ?_, rfl, ?_⟩
    · simp [results, Try.f116, go_sem]
    · exact (HB0.out.trans ((hK.below (n := n0) (by omega) (by omega)).mono (by have := HN0.out; omega))).trans (belowK_b (w := w) (Nat.le_refl _) _ D _ _ (by have := HN0.out; omega) hD2 rfl rfl)
  case stop =>
    rintro D c pre W hD hpre h
    exact h.elim
end Go.Proofs.Ytkgjfockechniaa
