/-
  Cells where no player gains by leaving: the program's list.
-/
import Derived.Test.YtpopmcgieegikaaGSides
import Derived.Deep.DeepCutAuto
import Derived.Deep.RegionLaw
namespace Go.Proofs.Ytpopmcgieegikaa
open Go.RowKit Go.ChangeShapes Go.WideShapes
set_option linter.unusedVariables false

set_option maxHeartbeats 100000000 in
set_option maxRecDepth 20000 in
theorem implPure_yes (R C b off c1 b' off' c2 : Nat) (A B : List Int) (w : World) (r1 : 1 ≤ R) (q1 : 1 ≤ C) (r6 : R ≤ 6) (q6 : C ≤ 6)
    (hA : IAt w (some ⟨b, off, none⟩) (R * C) A) (hB : IAt w (some ⟨b', off', none⟩) (R * C) B) (hb : b < w.heap.size) (hb' : b' < w.heap.size)
    (hc : ∀ i, i < R * C → w.cell? ⟨b, off + i, none⟩ = some (.int .i64 (A.getD i 0))) (hc' : ∀ i, i < R * C → w.cell? ⟨b', off' + i, none⟩ = some (.int .i64 (B.getD i 0))) (hok : okGame R C A B = true) :
    Calls Try.prog 54 #[gameV R C (some ⟨b, off, none⟩) (R * C) c1 (some ⟨b', off', none⟩) (R * C) c2] w (PairOut w (pureV R C A B)) := by
  obtain ⟨i0, hi, hz0, hz1, hz2⟩ := info_parts (P := Try.prog) (e := 2) (z := .int .i64 0) (size := 1) (bytes := 8) (by kernel_rfl)
  have HA := Lib.hid hA
  have HB := Lib.hid hB
  have HCA := Lib.hid hc
  have HCB := Lib.hid hc'
  have hRC : R * C ≤ 36 := Nat.mul_le_mul r6 q6
  have OK := Lib.hid hok
  have HV : Hid (pureV R C A B = (ints (pickL (pureP A B R C) (R * C)), true)) := Lib.hid (by unfold pureV; rw [OK.out]; simp)
  clear hA hB hc hc' hok
  go_enter Try.func54, Try.ntmps54
  go_wp2_with fail
  refine (implValid_any R C _ (R * C) c1 _ (R * C) c2 A B _ (HA.out.below below1) (HB.out.below below1)).mono ?_
  rintro e w1 ⟨rfl, b1⟩
  rw [OK.out]
  have x1 : Box4 w1 w.heap.size 27 (.int .i64 R) (.int .i64 C) (.slice (some ⟨b, off, none⟩) (R * C) c1) (.slice (some ⟨b', off', none⟩) (R * C) c2) := Box4.below heap1 b1
  have B1 := Lib.hid (below_after below1 (Nat.le_refl _) b1)
  have X1 := Lib.hid x1
  have hlt1 := x1.lt
  obtain ⟨⟨p0, p1, p2, p3⟩, _⟩ := x1.all
  clear b1 x1
  have RS1 : ∀ (z : Nat) (w' : World) (a : Addr) (m : Mode), (store a (.func (.func 114) #[] #[.pointer (some ⟨z, 0, none⟩)]) m).run Try.prog w' = stored Try.prog w' a (.func (.func 114) #[] #[.pointer (some ⟨z, 0, none⟩)]) m := fun z w' a m => run_store Try.prog w' a _ m rfl
  have RS2 : ∀ (z : Nat) (w' : World) (a : Addr) (m : Mode), (store a (.func (.func 115) #[] #[.pointer (some ⟨z, 0, none⟩)]) m).run Try.prog w' = stored Try.prog w' a (.func (.func 115) #[] #[.pointer (some ⟨z, 0, none⟩)]) m := fun z w' a m => run_store Try.prog w' a _ m rfl
  go_upto_region 3 with fail
  go_cut [4, 5] (fun s4 s5 wx => ∃ n4 n5 n1 n2 : Nat, s4 = .pointer (some ⟨n4, 0, none⟩) ∧ s5 = .pointer (some ⟨n5, 0, none⟩) ∧ Hid (Sides w1 wx R C (.slice (some ⟨b, off, none⟩) (R * C) c1) (.slice (some ⟨b', off', none⟩) (R * C) c2) n4 n5 n1 n2))
  case first =>
    go_region_law (first
      | (go_simp; go_at_call 88; refine (firstSide_any R C _ (R * C) c1 _ (R * C) c2 _).mono ?_; rintro e w2 ⟨n1, rfl, hn1, bn1⟩
         have x2 : Box4 w2 w.heap.size 27 (.int .i64 R) (.int .i64 C) (.slice (some ⟨b, off, none⟩) (R * C) c1) (.slice (some ⟨b', off', none⟩) (R * C) c2) := by first | exact (X1.out.below (Below.drew (Below.refl _ _))).below bn1 | exact (X1.out.below (Below.drew below1)).below bn1 | exact (X1.out.below (Below.drew below2)).below bn1
         obtain ⟨⟨q0, q1, q2, q3⟩, _⟩ := x2.all
         have ltq := x2.lt
         have BB1 : Below w1.heap.size w1 w2 := by first | exact below_after (Below.drew (Below.refl _ _)) (Nat.le_refl _) bn1 | exact below_after (Below.drew below1) (Nat.le_refl _) bn1 | exact below_after (Below.drew below2) (Nat.le_refl _) bn1
         first
           | (have z4 : Box3 w2 w1.heap.size 73 (.int .i64 0) (.int .i64 0) .nilFunc := Box3.below (Box3.below (w := (w1.alloc (.cells #[.int .i64 0, .int .i64 0, .nilFunc] 73)).alloc (.cells #[.int .i64 0, .int .i64 0, .nilFunc] 73)) heap2a (Below.drew (Below.refl _ _))) bn1
              have z5 : Box3 w2 (w1.heap.size + 1) 73 (.int .i64 0) (.int .i64 0) .nilFunc := Box3.below (Box3.below (w := (w1.alloc (.cells #[.int .i64 0, .int .i64 0, .nilFunc] 73)).alloc (.cells #[.int .i64 0, .int .i64 0, .nilFunc] 73)) heap2b (Below.drew (Below.refl _ _))) bn1)
           | (have z4 : Box3 w2 w1.heap.size 73 (.int .i64 0) (.int .i64 0) .nilFunc := Box3.below (Box3.below (w := w1.alloc (.cells #[.int .i64 0, .int .i64 0, .nilFunc] 73)) heap1 (Below.drew (Below.refl _ _))) bn1)
           | skip)
      | (go_simp; go_at_call 89; refine (secondSide_any R C _ (R * C) c1 _ (R * C) c2 _).mono ?_; rintro e w3 ⟨n2, rfl, hn2, bn2⟩
         have BB2 : Below w1.heap.size w1 w3 := by first | exact below_after BB1 (Nat.le_refl _) bn2 | exact below_after (below_after BB1 (Nat.le_refl _) below1) (Nat.le_refl _) bn2 | exact below_after (below_after BB1 (Nat.le_refl _) below2) (Nat.le_refl _) bn2
         have gn1 : Box4 w3 n1 27 (.int .i64 R) (.int .i64 C) (.slice (some ⟨b, off, none⟩) (R * C) c1) (.slice (some ⟨b', off', none⟩) (R * C) c2) := by first | exact hn1.below bn2 | exact (hn1.below below1).below bn2 | exact (hn1.below below2).below bn2
         first
           | (have t4 : Box3 w3 w2.heap.size 73 (.int .i64 0) (.int .i64 0) .nilFunc := Box3.below heap2a bn2
              have t5 : Box3 w3 (w2.heap.size + 1) 73 (.int .i64 0) (.int .i64 0) .nilFunc := Box3.below heap2b bn2
              obtain ⟨⟨d0, d1, d2⟩, d3, d4, d5⟩ := t4.all
              have lt4 := t4.lt
              obtain ⟨⟨e0, e1, e2⟩, e3, e4, e5⟩ := t5.all
              have lt5 := t5.lt)
           | (have t4 : Box3 w3 w1.heap.size 73 (.int .i64 0) (.int .i64 0) .nilFunc := Box3.below z4 bn2
              have t5 : Box3 w3 (w1.heap.size + 1) 73 (.int .i64 0) (.int .i64 0) .nilFunc := Box3.below z5 bn2
              obtain ⟨⟨d0, d1, d2⟩, d3, d4, d5⟩ := t4.all
              have lt4 := t4.lt
              obtain ⟨⟨e0, e1, e2⟩, e3, e4, e5⟩ := t5.all
              have lt5 := t5.lt)
           | (have t4 : Box3 w3 w1.heap.size 73 (.int .i64 0) (.int .i64 0) .nilFunc := (z4.below below1).below bn2
              have ltz := z4.lt
              have ne45 : w2.heap.size ≠ w1.heap.size := by omega
              have ne54 : w1.heap.size ≠ w2.heap.size := by omega
              have t5 : Box3 w3 w2.heap.size 73 (.int .i64 0) (.int .i64 0) .nilFunc := Box3.below heap1 bn2
              obtain ⟨⟨d0, d1, d2⟩, d3, d4, d5⟩ := t4.all
              have lt4 := t4.lt
              obtain ⟨⟨e0, e1, e2⟩, e3, e4, e5⟩ := t5.all
              have lt5 := t5.lt)
           | (have t4 : Box3 w3 w1.heap.size 73 (.int .i64 0) (.int .i64 0) .nilFunc := Box3.below z4 bn2
              obtain ⟨⟨d0, d1, d2⟩, d3, d4, d5⟩ := t4.all
              have lt4 := t4.lt)
           | (have t4 : Box3 w3 w2.heap.size 73 (.int .i64 0) (.int .i64 0) .nilFunc := Box3.below heap1 bn2
              obtain ⟨⟨d0, d1, d2⟩, d3, d4, d5⟩ := t4.all
              have lt4 := t4.lt)
           | skip))
    all_goals (try go_wp2_with fail)
    all_goals go_meet
    all_goals (
      have hsz2 := BB1.size
      have hsz3 := BB2.size
      refine ⟨_, _, n1, n2, rfl, rfl, ?_⟩
      refine Lib.hid ?_
      with_reducible first
        | exact sidesA gn1 hn2 BB2
        | exact sidesA' gn1 hn2 BB2
        | exact sidesB t4 gn1 hn2 BB2 (by omega)
        | exact sidesB t5 gn1 hn2 BB2 (by omega)
        | exact sidesB' t4 gn1 hn2 BB2 (by omega)
        | exact sidesB' t5 gn1 hn2 BB2 (by omega)
        | exact sides_stored t4 t5 (by omega) gn1 hn2 BB2 (by omega) (by omega)
        | exact sides_stored t5 t4 (by omega) gn1 hn2 BB2 (by omega) (by omega))
  case rest =>
    obtain ⟨n4, n5, n1, n2, rfl, rfl, HS⟩ := hcut
    have xb : Box4 wc w.heap.size 27 (.int .i64 R) (.int .i64 C) (.slice (some ⟨b, off, none⟩) (R * C) c1) (.slice (some ⟨b', off', none⟩) (R * C) c2) := X1.out.below HS.out.below
    have XB := Lib.hid xb
    have B01 := Lib.hid (below_after B1.out (Nat.le_refl _) HS.out.below)
    have hsx := B01.out.size
    have hn0 := xb.lt
    have hn1 := HS.out.g1.lt
    have hn2 := HS.out.g2.lt
    have hn4 := HS.out.one.lt
    have hn5 := HS.out.two.lt
    obtain ⟨⟨y0, y1, y2, y3⟩, _⟩ := xb.all
    clear xb B1 X1
    go_wp2_with fail
    clear y0 y1 y2 y3
    go_loopg [6, 19] R (fun g o ii wr => ∃ (i : Nat) (a : Option Addr) (m cap : Nat), i + g = R ∧ ii = .int .i64 i ∧ o = .slice a m cap ∧ m ≤ i * C ∧ Hid ((wr).ownsRow wc.heap.size 2 1 (.slice a m cap) m ((ints (pickL (pureP A B R C) (i * C))).map (Value.int .i64))) ∧ Hid (Below wc.heap.size wc wr))
    case atStart => exact ⟨0, none, 0, 0, by omega, rfl, rfl, by omega, Lib.hid (by rw [Nat.zero_mul]; exact World.ownsRow_nil _ _ _ _), Lib.hid (Below.refl _ _)⟩
    case round =>
      obtain ⟨i, a, m, cap, hig, rfl, rfl, hmi, HO, HW⟩ := hrel
      have hgb : Box4 wr w.heap.size 27 (.int .i64 R) (.int .i64 C) (.slice (some ⟨b, off, none⟩) (R * C) c1) (.slice (some ⟨b', off', none⟩) (R * C) c2) := XB.out.below HW.out
      obtain ⟨⟨y0, y1, y2, y3⟩, _⟩ := hgb.all
      clear hgb
      cases gk with
      | zero =>
        obtain rfl : i = R := by omega
        go_wp2_with fail
        go_ret2
        rw [HV.out]
        exact ⟨a, m, cap, rfl, (own_of_row HO.out (ints_big fun x hx => by have := (pickL_lt hx).1; have : i * C ≤ 36 := Nat.mul_le_mul r6 q6; omega)).wide hsx (Nat.le_refl _) (Nat.le_refl _), below_after B01.out (Nat.le_refl _) HW.out⟩
      | succ g =>
        have hil : i < R := by omega
        go_wp2_with fail
        go_loopg [6, 24] C (fun g2 o kk wr => ∃ (k : Nat) (a : Option Addr) (m cap : Nat), k + g2 = C ∧ kk = .int .i64 k ∧ o = .slice a m cap ∧ m ≤ i * C + k ∧ Hid ((wr).ownsRow wc.heap.size 2 1 (.slice a m cap) m ((ints (pickL (pureP A B R C) (i * C + k))).map (Value.int .i64))) ∧ Hid (Below wc.heap.size wc wr))
        case atStart => exact ⟨0, a, m, cap, by omega, rfl, rfl, by omega, HO, HW⟩
        case round =>
          clear HO HW y0 y1 y2 y3 hmi
          obtain ⟨k, a, m, cap, hkg, rfl, rfl, hmk, HO, HW⟩ := hrel
          have hgb : Box4 wr w.heap.size 27 (.int .i64 R) (.int .i64 C) (.slice (some ⟨b, off, none⟩) (R * C) c1) (.slice (some ⟨b', off', none⟩) (R * C) c2) := XB.out.below HW.out
          obtain ⟨⟨y0, y1, y2, y3⟩, _⟩ := hgb.all
          have HG := Lib.hid hgb
          clear hgb
          have h4 := HS.out.one.below HW.out
          obtain ⟨⟨d0, d1, d2⟩, _⟩ := h4.all
          clear h4
          have hwsz := HW.out.size
          cases gk with
          | zero =>
            obtain rfl : k = C := by omega
            go_wp2_with fail
            go_roundg g
            case measure => omega
            case rel => exact ⟨i + 1, a, m, cap, by omega, by go_num, rfl, by rw [Nat.succ_mul]; exact hmk, by rw [Nat.succ_mul]; exact HO, HW⟩
          | succ g2 =>
            have hlt : k < C := by omega
            have hpl : i * C + k < 36 := Nat.lt_of_lt_of_le (place_lt hil hlt) (Nat.mul_le_mul r6 q6)
            have HP := Lib.hid (pureP_at (A := A) (B := B) (R := R) (C := C) (i := i) hlt)
            have hp' : (i : Int) * (C : Int) = ((i * C : Nat) : Int) := by push_cast; rfl
            have G1 := Lib.hid (HS.out.g1.below HW.out)
            have G2 := Lib.hid (HS.out.g2.below HW.out)
            have HCW := Lib.hid (below_after B01.out (Nat.le_refl _) HW.out)
            go_wp2_with fail
            refine (bestFirst_any (colAt A C k) R C k n1 wr r1 r6 (Nat.lt_of_lt_of_le hn1 hwsz) ?_).mono ?_
            · intro x w' hx hw
              exact firstSide_gain n1 R C x k b off c1 b' off' c2 A B w' hx hlt hRC (G1.out.below hw) fun t ht => ((HCW.out.trans (hw.mono HCW.out.size)).cell (p := ⟨b, off + t, none⟩) hb).trans (HCA.out t ht)
            rintro e w3 ⟨a1, l1, m1, rfl, ho, b1⟩
            have IA := Lib.hid ho.iat
            have B1 := Lib.hid b1
            clear ho b1 d0 d1 d2
            go_wp2_with fail
            refine (contains_any a1 l1 m1 _ i w3 IA.out).mono ?_
            rintro e w' ⟨rfl, rfl⟩
            obtain ⟨v1, hv1⟩ : ∃ v1, decide ((i : Int) ∈ ints (bestL (colAt A C k) R)) = v1 := ⟨_, rfl⟩
            rw [hv1] at HP ⊢
            clear hv1
            cases v1 with
            | false =>
              have HN : Hid (pickL (pureP A B R C) (i * C + k + 1) = pickL (pureP A B R C) (i * C + k)) := Lib.hid (by rw [pickL_succ, HP.out]; simp)
              go_wp2_with fail
              go_roundg g2
              case measure => omega
              case rel => exact ⟨k + 1, a, m, cap, by omega, by go_num, rfl, by omega, Lib.hid (by rw [show i * C + (k + 1) = i * C + k + 1 from rfl, HN.out]; exact row_below HO.out B1.out), Lib.hid (below_after HW.out (Nat.le_refl _) B1.out)⟩
            | true =>
              have h5 := (HS.out.two.below HW.out).below B1.out
              obtain ⟨⟨e0, e1, e2⟩, _⟩ := h5.all
              clear h5
              have hws3 := Nat.le_trans hwsz B1.out.size
              go_wp2_with fail
              refine (bestSecond_any (rowAt B C i) C R i n2 w3 q1 q6 (Nat.lt_of_lt_of_le hn2 hws3) ?_).mono ?_
              · intro x w' hx hw
                exact secondSide_gain n2 R C i x b off c1 b' off' c2 A B w' hil hx hRC ((G2.out.below B1.out).below hw) fun t ht => (((HCW.out.trans (B1.out.mono HCW.out.size)).trans (hw.mono (Nat.le_trans HCW.out.size B1.out.size))).cell (p := ⟨b', off' + t, none⟩) hb').trans (HCB.out t ht)
              rintro e w4 ⟨a2, l2, m2, rfl, ho, b2⟩
              have IB := Lib.hid ho.iat
              have B2 := Lib.hid (below_after B1.out (Nat.le_refl _) b2)
              clear ho b2 e0 e1 e2
              go_wp2_with fail
              refine (contains_any a2 l2 m2 _ k w4 IB.out).mono ?_
              rintro e w' ⟨rfl, rfl⟩
              obtain ⟨v2, hv2⟩ : ∃ v2, decide ((k : Int) ∈ ints (bestL (rowAt B C i) C)) = v2 := ⟨_, rfl⟩
              rw [hv2] at HP ⊢
              clear hv2
              cases v2 with
              | false =>
                have HN : Hid (pickL (pureP A B R C) (i * C + k + 1) = pickL (pureP A B R C) (i * C + k)) := Lib.hid (by rw [pickL_succ, HP.out]; simp)
                go_wp2_with fail
                go_roundg g2
                case measure => omega
                case rel => exact ⟨k + 1, a, m, cap, by omega, by go_num, rfl, by omega, Lib.hid (by rw [show i * C + (k + 1) = i * C + k + 1 from rfl, HN.out]; exact row_below HO.out B2.out), Lib.hid (below_after HW.out (Nat.le_refl _) B2.out)⟩
              | true =>
                have HN : Hid (pickL (pureP A B R C) (i * C + k + 1) = pickL (pureP A B R C) (i * C + k) ++ [i * C + k]) := Lib.hid (by rw [pickL_succ, HP.out]; simp)
                have hgb2 := (HG.out.below B2.out).c1
                have HO2 := Lib.hid (row_below HO.out B2.out)
                have HW2 := Lib.hid (below_after HW.out (Nat.le_refl _) B2.out)
                have hw2 := HW2.out.size
                have hq : IntKind.i64.wrap ((i : Int) * (C : Int)) = ((i * C : Nat) : Int) := by rw [hp']; simp (disch := omega) only [IntWalk.i64_in]
                have hq2 : IntKind.i64.wrap (((i * C : Nat) : Int) + (k : Int)) = ((i * C + k : Nat) : Int) := by simp (disch := omega) only [IntWalk.i64_in]; push_cast; rfl
                clear y0 y1 y2 y3 hp'
                go_wp2_with (at_builtin; refine wpList_append_own _ rfl (.tmp 40) (.tmp 47) 22 rfl wc.heap.size 2 i0 (.int .i64 0) 1 8 Try.underlying22 hi hz0 hz1 hz2 rfl (by decide) _ m _ rfl (HO2.out.alloc _) ⟨w4.heap.size, 0, none⟩ 1 1 [.int .i64 ((i * C + k : Nat) : Int)] rfl rfl (news_one _ _ (by simp)) (one_int _) (by unfold maxLen; omega) (by omega) (by simp; omega) ?_)
                intro v' w5 hown hgrow _
                obtain ⟨a', cap', rfl⟩ := row_slice hown
                have HX1 := Lib.hid (Below.grown ((HW2.out).alloc (by simpa using hw2) _) hgrow (by simp; omega) (fun k hk => (World.ownsRow.lt HO2.out k hk).1))
                have HO1 : Hid (w5.ownsRow wc.heap.size 2 1 (.slice a' (m + 1) cap') (m + 1) ((ints (pickL (pureP A B R C) (i * C + k + 1))).map (Value.int .i64))) :=
                  Lib.hid (by rw [HN.out, ints_append, List.map_append]; exact hown)
                clear hown hgrow
                go_wp2_with fail
                go_roundg g2
                case measure => omega
                case rel => exact ⟨k + 1, a', m + 1, cap', by omega, by go_num, rfl, by omega, HO1, HX1⟩

theorem implPure_any (r c : Int) (a1 : Option Addr) (l1 c1 : Nat) (a2 : Option Addr) (l2 c2 : Nat) (A B : List Int) (w : World) (hA : IAt w a1 l1 A) (hB : IAt w a2 l2 B) :
    Calls Try.prog 54 #[gameV r c a1 l1 c1 a2 l2 c2] w (PairOut w (pureV r c A B)) := by
  cases hok : okGame r c A B with
  | true =>
    obtain ⟨R, C, rfl, rfl, r1, r6, q1, q6, hlA, hlB, _, _⟩ := okGame_true hok
    obtain ⟨b, off, rfl, rfl, hb, hc⟩ := game_at hA hlA r1 q1
    obtain ⟨b', off', rfl, rfl, hb', hc'⟩ := game_at hB hlB r1 q1
    exact implPure_yes R C b off c1 b' off' c2 A B w r1 q1 r6 q6 hA hB hb hb' hc hc' hok
  | false => exact implPure_no r c a1 l1 c1 a2 l2 c2 A B w hA hB hok

theorem pureV_len (r c : Int) (A B : List Int) : (pureV r c A B).1.length ≤ 4096 := by
  unfold pureV
  split
  · rename_i hok
    obtain ⟨R, C, rfl, rfl, r1, r6, q1, q6, _⟩ := okGame_true hok
    have := pickL_length (pureP A B (R : Int).toNat (C : Int).toNat) (R * C)
    have : R * C ≤ 36 := Nat.mul_le_mul r6 q6
    simp only [ints_length, Int.toNat_natCast] at *
    omega
  · simp
end Go.Proofs.Ytpopmcgieegikaa
