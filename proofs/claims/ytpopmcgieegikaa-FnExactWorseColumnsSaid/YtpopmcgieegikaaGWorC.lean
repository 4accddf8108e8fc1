/-
  WorseColumns: the program's and the reference's answers.
-/
import Derived.Test.YtpopmcgieegikaaGWorA
import Derived.Deep.DeepCutAuto
import Derived.Deep.RegionLaw
namespace Go.Proofs.Ytpopmcgieegikaa
open Go.RowKit Go.ChangeShapes Go.WideShapes
set_option linter.unusedVariables false

theorem worseF_congr {f g : Nat → Nat → Int} {R C i j : Nat} (hi : i < R) (hj : j < R) (h : ∀ x, x < R → ∀ k, k < C → f x k = g x k) : worseF f C i j = worseF g C i j := by
  unfold worseF
  rw [Bool.eq_iff_iff, List.all_eq_true, List.all_eq_true]
  constructor
  · intro a k hk
    have hk' : k < C := by simpa using hk
    rw [← h i hi k hk', ← h j hj k hk']
    exact a k hk
  · intro a k hk
    have hk' : k < C := by simpa using hk
    rw [h i hi k hk', h j hj k hk']
    exact a k hk
theorem worseAny_congr {f g : Nat → Nat → Int} {R C i : Nat} (hi : i < R) (h : ∀ x, x < R → ∀ k, k < C → f x k = g x k) : worseAny f R C i = worseAny g R C i := by
  unfold worseAny
  rw [Bool.eq_iff_iff, List.any_eq_true, List.any_eq_true]
  constructor
  · rintro ⟨j, hj, e⟩
    exact ⟨j, hj, by rw [← worseF_congr hi (by simpa using hj) h]; exact e⟩
  · rintro ⟨j, hj, e⟩
    exact ⟨j, hj, by rw [worseF_congr hi (by simpa using hj) h]; exact e⟩
/-- what a column gains against a row -/
def colsF (B : List Int) (C : Nat) (k i : Nat) : Int := B.getD (i * C + k) 0

def worseColsV (r c : Int) (A B : List Int) : List Int × Bool :=
  if okGame r c A B = true then (ints (pickL (worseAny (colsF B c.toNat) c.toNat r.toNat) c.toNat), true) else ([], false)
theorem worseColsV_len (r c : Int) (A B : List Int) : (worseColsV r c A B).1.length ≤ 4096 := by
  unfold worseColsV
  split
  · rename_i hok
    obtain ⟨R, C, rfl, rfl, r1, r6, q1, q6, _⟩ := okGame_true hok
    have := pickL_length (worseAny (colsF B (C : Int).toNat) (C : Int).toNat (R : Int).toNat) C
    simp only [ints_length, Int.toNat_natCast] at *
    omega
  · simp

set_option maxHeartbeats 40000000 in
set_option maxRecDepth 20000 in
theorem implWorseCols_yes (R C b off c1 b' off' c2 : Nat) (A B : List Int) (w : World) (r1 : 1 ≤ R) (q1 : 1 ≤ C) (r6 : R ≤ 6) (q6 : C ≤ 6)
    (hA : IAt w (some ⟨b, off, none⟩) (R * C) A) (hB : IAt w (some ⟨b', off', none⟩) (R * C) B) (hb' : b' < w.heap.size)
    (hc' : ∀ i, i < R * C → w.cell? ⟨b', off' + i, none⟩ = some (.int .i64 (B.getD i 0))) (hok : okGame R C A B = true) :
    Calls Try.prog 46 #[gameV R C (some ⟨b, off, none⟩) (R * C) c1 (some ⟨b', off', none⟩) (R * C) c2] w (PairOut w (ints (pickL (worseAny (colsF B C) C R) C), true)) := by
  have HA := Lib.hid hA
  have HB := Lib.hid hB
  have HCB := Lib.hid hc'
  have hRC : R * C ≤ 36 := Nat.mul_le_mul r6 q6
  have OK := Lib.hid hok
  clear hA hB hc' hok
  go_enter Try.func46, Try.ntmps46
  go_wp2_with fail
  refine (implValid_any R C _ (R * C) c1 _ (R * C) c2 A B _ (HA.out.below below1) (HB.out.below below1)).mono ?_
  rintro e w1 ⟨rfl, b1⟩
  rw [OK.out]
  have x1 : Box4 w1 w.heap.size 27 (.int .i64 R) (.int .i64 C) (.slice (some ⟨b, off, none⟩) (R * C) c1) (.slice (some ⟨b', off', none⟩) (R * C) c2) := Box4.below heap1 b1
  have B1 := Lib.hid (below_after below1 (Nat.le_refl _) b1)
  have X1 := Lib.hid x1
  obtain ⟨⟨p0, p1, p2, p3⟩, _⟩ := x1.all
  clear b1 x1
  go_upto_region 3 with fail
  go_region_law (first
    | (go_simp; go_at_call 89; refine (secondSide_any R C _ (R * C) c1 _ (R * C) c2 _).mono ?_; rintro e wf ⟨n1, rfl, hn1, bn⟩
       first
         | replace BB := Lib.hid (below_after BB.out (Nat.le_refl _) bn)
         | have BB := Lib.hid (below_after (Below.drew (Below.refl w1.heap.size w1)) (Nat.le_refl _) bn)
       have F1 := Lib.hid hn1
       try replace U1 := Lib.hid (U1.out.below bn)
       try replace U2 := Lib.hid (U2.out.below bn)
       obtain ⟨⟨s0, s1, s2, s3⟩, _⟩ := (X1.out.below BB.out).all)
    | (go_simp; go_at_call_of 85 (Value.int IntKind.i64 (R : Int)); refine (upTo_any R r6 _).mono ?_; rintro e wu ⟨gR, rfl, hu1, bn⟩
       first
         | replace BB := Lib.hid (below_after BB.out (Nat.le_refl _) bn)
         | have BB := Lib.hid (below_after (Below.drew (Below.refl w1.heap.size w1)) (Nat.le_refl _) bn)
       have U1 := Lib.hid hu1
       try replace F1 := Lib.hid (F1.out.below bn)
       try replace U2 := Lib.hid (U2.out.below bn)
       obtain ⟨⟨s0, s1, s2, s3⟩, _⟩ := (X1.out.below BB.out).all)
    | (go_simp; go_at_call_of 85 (Value.int IntKind.i64 (C : Int)); refine (upTo_any C q6 _).mono ?_; rintro e wv ⟨gC, rfl, hu2, bn⟩
       first
         | replace BB := Lib.hid (below_after BB.out (Nat.le_refl _) bn)
         | have BB := Lib.hid (below_after (Below.drew (Below.refl w1.heap.size w1)) (Nat.le_refl _) bn)
       have U2 := Lib.hid hu2
       try replace F1 := Lib.hid (F1.out.below bn)
       try replace U1 := Lib.hid (U1.out.below bn)
       obtain ⟨⟨s0, s1, s2, s3⟩, _⟩ := (X1.out.below BB.out).all)
    | (go_simp; go_at_call 87
       refine (worseOfSecond_any (colsF B C) C R n1 gC gR _ q6 r6 U2.out U1.out (fun x y w' hx hy hw => secondSide_gain n1 R C y x b off c1 b' off' c2 A B w' hy hx hRC (F1.out.below hw) fun t ht => (((B1.out.trans (BB.out.mono B1.out.size)).trans (hw.mono (Nat.le_trans B1.out.size BB.out.size))).cell (p := ⟨b', off' + t, none⟩) hb').trans (HCB.out t ht))).mono ?_
       rintro e wz ⟨a, len, cap, rfl, ho, bz⟩
       have HO := Lib.hid ho
       have BZ := Lib.hid bz
       clear ho bz))
  all_goals (try go_wp2_with fail)
  all_goals (
    go_ret2
    exact ⟨a, len, cap, rfl, HO.out.wide (Nat.le_trans B1.out.size BB.out.size) (Nat.le_refl _) (Nat.le_refl _), below_after (below_after B1.out (Nat.le_refl _) BB.out) (Nat.le_refl _) BZ.out⟩)

set_option maxRecDepth 20000 in
theorem implWorseCols_any (r c : Int) (a1 : Option Addr) (l1 c1 : Nat) (a2 : Option Addr) (l2 c2 : Nat) (A B : List Int) (w : World) (hA : IAt w a1 l1 A) (hB : IAt w a2 l2 B) :
    Calls Try.prog 46 #[gameV r c a1 l1 c1 a2 l2 c2] w (PairOut w (worseColsV r c A B)) := by
  cases hok : okGame r c A B with
  | true =>
    have HV : worseColsV r c A B = (ints (pickL (worseAny (colsF B c.toNat) c.toNat r.toNat) c.toNat), true) := by unfold worseColsV; rw [if_pos hok]
    rw [HV]
    obtain ⟨R, C, rfl, rfl, r1, r6, q1, q6, hlA, hlB, _, _⟩ := okGame_true hok
    obtain ⟨b, off, rfl, rfl, hb, hc⟩ := game_at hA hlA r1 q1
    obtain ⟨b', off', rfl, rfl, hb', hc'⟩ := game_at hB hlB r1 q1
    exact implWorseCols_yes R C b off c1 b' off' c2 A B w r1 q1 r6 q6 hA hB hb' hc' hok
  | false =>
    have HA := Lib.hid hA
    have HB := Lib.hid hB
    have OK := Lib.hid hok
    have HV : Hid (worseColsV r c A B = ([], false)) := Lib.hid (by unfold worseColsV; rw [hok]; rfl)
    clear hok hA hB
    go_enter Try.func46, Try.ntmps46
    go_wp2_with fail
    refine (implValid_any r c a1 l1 c1 a2 l2 c2 A B _ (HA.out.below below1) (HB.out.below below1)).mono ?_
    rintro e w1 ⟨rfl, b1⟩
    rw [OK.out]
    have B1 := Lib.hid (below_after below1 (Nat.le_refl _) b1)
    clear b1
    go_wp2_with fail
    go_ret2
    rw [HV.out]
    exact ⟨none, 0, 0, rfl, own_nil _ (Nat.le_refl _), B1.out⟩

set_option maxRecDepth 20000 in
theorem specWorseCols_any (r c : Int) (a1 : Option Addr) (l1 c1 : Nat) (a2 : Option Addr) (l2 c2 : Nat) (A B : List Int) (w : World) (hA : IAt w a1 l1 A) (hB : IAt w a2 l2 B) :
    Calls Try.prog 45 #[gameV r c a1 l1 c1 a2 l2 c2] w (PairOut w (worseColsV r c A B)) := by
  have HA := Lib.hid hA
  have HB := Lib.hid hB
  cases hok : okGame r c A B with
  | true =>
    obtain ⟨R, C, rfl, rfl, r1, r6, q1, q6, hlA, hlB, _, _⟩ := okGame_true hok
    obtain ⟨b, off, rfl, rfl, hb, hc⟩ := game_at hA hlA r1 q1
    obtain ⟨b', off', rfl, rfl, hb', hc'⟩ := game_at hB hlB r1 q1
    have HCA := Lib.hid hc
    have HCB := Lib.hid hc'
    have HBA := Lib.hid hA.2.2.1
    have HBB := Lib.hid hB.2.2.1
    have HE : Hid (pickL (worseAny (rowsF (tab (turnF B R C) (C * R)) R) C R) C = pickL (worseAny (colsF B C) C R) C) := Lib.hid (pickL_congr fun k hk => worseAny_congr hk fun x hx i hi => colAt_turn hi x hx)
    have OK := Lib.hid hok
    have HV : Hid (worseColsV R C A B = (ints (pickL (worseAny (colsF B C) C R) C), true)) := Lib.hid (by unfold worseColsV; rw [OK.out]; simp)
    clear hA hB hc hc' hlA hlB hok
    have X1 : Hid (Box4 (w.alloc (.cells #[.int .i64 R, .int .i64 C, .slice (some ⟨b, off, none⟩) (R * C) c1, .slice (some ⟨b', off', none⟩) (R * C) c2] 27)) w.heap.size 27 (.int .i64 R) (.int .i64 C) (.slice (some ⟨b, off, none⟩) (R * C) c1) (.slice (some ⟨b', off', none⟩) (R * C) c2)) := Lib.hid heap1
    go_enter Try.func45, Try.ntmps45
    go_wp2_with fail
    refine (specIs_any _ R C _ (R * C) c1 _ (R * C) c2 A B _ X1.out (HA.out.below below1) (HB.out.below below1)).mono ?_
    rintro e w1 ⟨rfl, n1, rfl⟩
    rw [OK.out]
    have b1 : Below w.heap.size w ((w.alloc (.cells #[.int .i64 R, .int .i64 C, .slice (some ⟨b, off, none⟩) (R * C) c1, .slice (some ⟨b', off', none⟩) (R * C) c2] 27)).drewN n1) := below1.trans (same_below ⟨n1, rfl⟩ _)
    have B1 := Lib.hid b1
    go_wp2_with fail
    refine (specTurn_at w.heap.size R C b off c1 b' off' c2 A B _ r1 q1 r6 q6 (X1.out.below (same_below ⟨n1, rfl⟩ _)) (by simp; omega) (by simp; omega) HBA.out HBB.out (fun i hi => (b1.cell (p := ⟨b, off + i, none⟩) hb).trans (HCA.out i hi)) (fun i hi => (b1.cell (p := ⟨b', off' + i, none⟩) hb').trans (HCB.out i hi))).mono ?_
    rintro e w2 ⟨a1, m1, a2, m2, rfl, o1, o2, _, b2⟩
    have B2 := Lib.hid (below_after B1.out (Nat.le_refl _) b2)
    have s2 := B2.out.size
    obtain ⟨g1, off1, rfl, _, hg1, hcc⟩ := game_at o1.iat (tab_length _ _) q1 r1
    have HCC := Lib.hid hcc
    clear o1 o2 b2 hcc
    go_wp2_with fail
    refine (specWorseRows_at w2.heap.size C R g1 off1 m1 _ (tab (turnF B R C) (C * R)) _ q6 r6 heap1 (by simp; omega) (fun i hi => (below1.cell (p := ⟨g1, off1 + i, none⟩) hg1).trans (HCC.out i hi))).mono ?_
    clear b1
    rintro e w3 ⟨a, len, cap, rfl, ho, b3⟩
    rw [HE.out] at ho
    have HO := Lib.hid ho
    have B3 := Lib.hid b3
    clear ho b3
    go_wp2_with fail
    go_ret2
    rw [HV.out]
    exact ⟨a, len, cap, rfl, HO.out.wide (by simp; omega) (Nat.le_refl _) (Nat.le_refl _), below_after (below_after B2.out (Nat.le_refl _) below1) (Nat.le_refl _) B3.out⟩
  | false =>
    have OK := Lib.hid hok
    have HV : Hid (worseColsV r c A B = ([], false)) := Lib.hid (by unfold worseColsV; rw [OK.out]; simp)
    clear hok hA hB
    go_enter Try.func45, Try.ntmps45
    go_wp2_with fail
    refine (specIs_any _ r c a1 l1 c1 a2 l2 c2 A B _ heap1 (HA.out.below below1) (HB.out.below below1)).mono ?_
    rintro e w1 ⟨rfl, n1, rfl⟩
    rw [OK.out]
    go_wp2_with fail
    go_ret2
    rw [HV.out]
    exact ⟨none, 0, 0, rfl, own_nil _ (Nat.le_refl _), below1.trans (same_below ⟨n1, rfl⟩ _)⟩
end Go.Proofs.Ytpopmcgieegikaa
