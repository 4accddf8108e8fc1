/-
  WorseRows: the program's and the reference's answers.
-/
import Derived.Test.YtpopmcgieegikaaGWorA
import Derived.Deep.DeepCutAuto
import Derived.Deep.RegionLaw
namespace Go.Proofs.Ytpopmcgieegikaa
open Go.RowKit Go.ChangeShapes Go.WideShapes
set_option linter.unusedVariables false

def worseRowsV (r c : Int) (A B : List Int) : List Int × Bool :=
  if okGame r c A B = true then (ints (pickL (worseAny (rowsF A c.toNat) r.toNat c.toNat) r.toNat), true) else ([], false)
theorem worseRowsV_len (r c : Int) (A B : List Int) : (worseRowsV r c A B).1.length ≤ 4096 := by
  unfold worseRowsV
  split
  · rename_i hok
    obtain ⟨R, C, rfl, rfl, r1, r6, q1, q6, _⟩ := okGame_true hok
    have := pickL_length (worseAny (rowsF A (C : Int).toNat) (R : Int).toNat (C : Int).toNat) R
    simp only [ints_length, Int.toNat_natCast] at *
    omega
  · simp

set_option maxHeartbeats 40000000 in
set_option maxRecDepth 20000 in
theorem implWorseRows_yes (R C b off c1 b' off' c2 : Nat) (A B : List Int) (w : World) (r1 : 1 ≤ R) (q1 : 1 ≤ C) (r6 : R ≤ 6) (q6 : C ≤ 6)
    (hA : IAt w (some ⟨b, off, none⟩) (R * C) A) (hB : IAt w (some ⟨b', off', none⟩) (R * C) B) (hb : b < w.heap.size)
    (hc : ∀ i, i < R * C → w.cell? ⟨b, off + i, none⟩ = some (.int .i64 (A.getD i 0))) (hok : okGame R C A B = true) :
    Calls Try.prog 43 #[gameV R C (some ⟨b, off, none⟩) (R * C) c1 (some ⟨b', off', none⟩) (R * C) c2] w (PairOut w (ints (pickL (worseAny (rowsF A C) R C) R), true)) := by
  have HA := Lib.hid hA
  have HB := Lib.hid hB
  have HCA := Lib.hid hc
  have hRC : R * C ≤ 36 := Nat.mul_le_mul r6 q6
  have OK := Lib.hid hok
  clear hA hB hc hok
  go_enter Try.func43, Try.ntmps43
  go_wp2_with fail
  refine (implValid_any R C _ (R * C) c1 _ (R * C) c2 A B _ (HA.out.below below1) (HB.out.below below1)).mono ?_
  rintro e w1 ⟨rfl, b1⟩
  rw [OK.out]
  have x1 : Box4 w1 w.heap.size 27 (.int .i64 R) (.int .i64 C) (.slice (some ⟨b, off, none⟩) (R * C) c1) (.slice (some ⟨b', off', none⟩) (R * C) c2) := Box4.below heap1 b1
  have B1 := Lib.hid (below_after below1 (Nat.le_refl _) b1)
  have X1 := Lib.hid x1
  obtain ⟨⟨p0, p1, p2, p3⟩, _⟩ := x1.all
  clear b1 x1
  go_upto_region 3 with fail
  go_region_law (first
    | (go_simp; go_at_call 88; refine (firstSide_any R C _ (R * C) c1 _ (R * C) c2 _).mono ?_; rintro e wf ⟨n1, rfl, hn1, bn⟩
       first
         | replace BB := Lib.hid (below_after BB.out (Nat.le_refl _) bn)
         | have BB := Lib.hid (below_after (Below.drew (Below.refl w1.heap.size w1)) (Nat.le_refl _) bn)
       have F1 := Lib.hid hn1
       try replace U1 := Lib.hid (U1.out.below bn)
       try replace U2 := Lib.hid (U2.out.below bn)
       obtain ⟨⟨s0, s1, s2, s3⟩, _⟩ := (X1.out.below BB.out).all)
    | (go_simp; go_at_call_of 85 (Value.int IntKind.i64 (R : Int)); refine (upTo_any R r6 _).mono ?_; rintro e wu ⟨gR, rfl, hu1, bn⟩
       first
         | replace BB := Lib.hid (below_after BB.out (Nat.le_refl _) bn)
         | have BB := Lib.hid (below_after (Below.drew (Below.refl w1.heap.size w1)) (Nat.le_refl _) bn)
       have U1 := Lib.hid hu1
       try replace F1 := Lib.hid (F1.out.below bn)
       try replace U2 := Lib.hid (U2.out.below bn)
       obtain ⟨⟨s0, s1, s2, s3⟩, _⟩ := (X1.out.below BB.out).all)
    | (go_simp; go_at_call_of 85 (Value.int IntKind.i64 (C : Int)); refine (upTo_any C q6 _).mono ?_; rintro e wv ⟨gC, rfl, hu2, bn⟩
       first
         | replace BB := Lib.hid (below_after BB.out (Nat.le_refl _) bn)
         | have BB := Lib.hid (below_after (Below.drew (Below.refl w1.heap.size w1)) (Nat.le_refl _) bn)
       have U2 := Lib.hid hu2
       try replace F1 := Lib.hid (F1.out.below bn)
       try replace U1 := Lib.hid (U1.out.below bn)
       obtain ⟨⟨s0, s1, s2, s3⟩, _⟩ := (X1.out.below BB.out).all)
    | (go_simp; go_at_call 87
       refine (worseOfFirst_any (rowsF A C) R C n1 gR gC _ r6 q6 U1.out U2.out (fun x y w' hx hy hw => firstSide_gain n1 R C x y b off c1 b' off' c2 A B w' hx hy hRC (F1.out.below hw) fun t ht => (((B1.out.trans (BB.out.mono B1.out.size)).trans (hw.mono (Nat.le_trans B1.out.size BB.out.size))).cell (p := ⟨b, off + t, none⟩) hb).trans (HCA.out t ht))).mono ?_
       rintro e wz ⟨a, len, cap, rfl, ho, bz⟩
       have HO := Lib.hid ho
       have BZ := Lib.hid bz
       clear ho bz))
  all_goals (try go_wp2_with fail)
  all_goals (
    go_ret2
    exact ⟨a, len, cap, rfl, HO.out.wide (Nat.le_trans B1.out.size BB.out.size) (Nat.le_refl _) (Nat.le_refl _), below_after (below_after B1.out (Nat.le_refl _) BB.out) (Nat.le_refl _) BZ.out⟩)

set_option maxRecDepth 20000 in
theorem implWorseRows_any (r c : Int) (a1 : Option Addr) (l1 c1 : Nat) (a2 : Option Addr) (l2 c2 : Nat) (A B : List Int) (w : World) (hA : IAt w a1 l1 A) (hB : IAt w a2 l2 B) :
    Calls Try.prog 43 #[gameV r c a1 l1 c1 a2 l2 c2] w (PairOut w (worseRowsV r c A B)) := by
  cases hok : okGame r c A B with
  | true =>
    have HV : worseRowsV r c A B = (ints (pickL (worseAny (rowsF A c.toNat) r.toNat c.toNat) r.toNat), true) := by unfold worseRowsV; rw [if_pos hok]
    rw [HV]
    obtain ⟨R, C, rfl, rfl, r1, r6, q1, q6, hlA, hlB, _, _⟩ := okGame_true hok
    obtain ⟨b, off, rfl, rfl, hb, hc⟩ := game_at hA hlA r1 q1
    obtain ⟨b', off', rfl, rfl, hb', hc'⟩ := game_at hB hlB r1 q1
    exact implWorseRows_yes R C b off c1 b' off' c2 A B w r1 q1 r6 q6 hA hB hb hc hok
  | false =>
    have HA := Lib.hid hA
    have HB := Lib.hid hB
    have OK := Lib.hid hok
    have HV : Hid (worseRowsV r c A B = ([], false)) := Lib.hid (by unfold worseRowsV; rw [hok]; rfl)
    clear hok hA hB
    go_enter Try.func43, Try.ntmps43
    go_wp2_with fail
    refine (implValid_any r c a1 l1 c1 a2 l2 c2 A B _ (HA.out.below below1) (HB.out.below below1)).mono ?_
    rintro e w1 ⟨rfl, b1⟩
    rw [OK.out]
    have B1 := Lib.hid (below_after below1 (Nat.le_refl _) b1)
    clear b1
    go_wp2_with fail
    go_ret2
    rw [HV.out]
    exact ⟨none, 0, 0, rfl, own_nil _ (Nat.le_refl _), B1.out⟩

set_option maxRecDepth 20000 in
theorem specWorseRows_any (r c : Int) (a1 : Option Addr) (l1 c1 : Nat) (a2 : Option Addr) (l2 c2 : Nat) (A B : List Int) (w : World) (hA : IAt w a1 l1 A) (hB : IAt w a2 l2 B) :
    Calls Try.prog 42 #[gameV r c a1 l1 c1 a2 l2 c2] w (PairOut w (worseRowsV r c A B)) := by
  have HA := Lib.hid hA
  have HB := Lib.hid hB
  cases hok : okGame r c A B with
  | true =>
    obtain ⟨R, C, rfl, rfl, r1, r6, q1, q6, hlA, hlB, _, _⟩ := okGame_true hok
    obtain ⟨b, off, rfl, rfl, hb, hc⟩ := game_at hA hlA r1 q1
    obtain ⟨b', off', rfl, rfl, hb', hc'⟩ := game_at hB hlB r1 q1
    have HCA := Lib.hid hc
    have OK := Lib.hid hok
    have HV : Hid (worseRowsV R C A B = (ints (pickL (worseAny (rowsF A C) R C) R), true)) := Lib.hid (by unfold worseRowsV; rw [OK.out]; simp)
    clear hA hB hc hc' hlA hlB hok
    have X1 : Hid (Box4 (w.alloc (.cells #[.int .i64 R, .int .i64 C, .slice (some ⟨b, off, none⟩) (R * C) c1, .slice (some ⟨b', off', none⟩) (R * C) c2] 27)) w.heap.size 27 (.int .i64 R) (.int .i64 C) (.slice (some ⟨b, off, none⟩) (R * C) c1) (.slice (some ⟨b', off', none⟩) (R * C) c2)) := Lib.hid heap1
    go_enter Try.func42, Try.ntmps42
    go_wp2_with fail
    refine (specIs_any _ R C _ (R * C) c1 _ (R * C) c2 A B _ X1.out (HA.out.below below1) (HB.out.below below1)).mono ?_
    rintro e w1 ⟨rfl, n1, rfl⟩
    rw [OK.out]
    have b1 : Below w.heap.size w ((w.alloc (.cells #[.int .i64 R, .int .i64 C, .slice (some ⟨b, off, none⟩) (R * C) c1, .slice (some ⟨b', off', none⟩) (R * C) c2] 27)).drewN n1) := below1.trans (same_below ⟨n1, rfl⟩ _)
    have B1 := Lib.hid b1
    go_wp2_with fail
    refine (specWorseRows_at w.heap.size R C b off c1 _ A _ r6 q6 (X1.out.below (same_below ⟨n1, rfl⟩ _)) (by simp; omega) (fun i hi => (b1.cell (p := ⟨b, off + i, none⟩) hb).trans (HCA.out i hi))).mono ?_
    clear b1
    rintro e w3 ⟨a, len, cap, rfl, ho, b3⟩
    have HO := Lib.hid ho
    have B3 := Lib.hid b3
    clear ho b3
    go_wp2_with fail
    go_ret2
    rw [HV.out]
    exact ⟨a, len, cap, rfl, HO.out.wide (by simp) (Nat.le_refl _) (Nat.le_refl _), below_after B1.out (Nat.le_refl _) B3.out⟩
  | false =>
    have OK := Lib.hid hok
    have HV : Hid (worseRowsV r c A B = ([], false)) := Lib.hid (by unfold worseRowsV; rw [OK.out]; simp)
    clear hok hA hB
    go_enter Try.func42, Try.ntmps42
    go_wp2_with fail
    refine (specIs_any _ r c a1 l1 c1 a2 l2 c2 A B _ heap1 (HA.out.below below1) (HB.out.below below1)).mono ?_
    rintro e w1 ⟨rfl, n1, rfl⟩
    rw [OK.out]
    go_wp2_with fail
    go_ret2
    rw [HV.out]
    exact ⟨none, 0, 0, rfl, own_nil _ (Nat.le_refl _), below1.trans (same_below ⟨n1, rfl⟩ _)⟩
end Go.Proofs.Ytpopmcgieegikaa
