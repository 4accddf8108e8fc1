/-
  Cells where no player gains by leaving: the reference's list.
-/
import Derived.Test.YtpopmcgieegikaaGHas
namespace Go.Proofs.Ytpopmcgieegikaa
open Go.RowKit Go.ChangeShapes Go.WideShapes
set_option linter.unusedVariables false

set_option maxRecDepth 20000 in
theorem index_any (a : Option Addr) (len cap : Nat) (zs : List Int) (x : Int) (w : World) (hA : IAt w a len zs) :
    Calls Try.prog 116 #[.slice a len cap, .int .i64 x] w fun e w' => ∃ r : Int, e = .returned (.int .i64 r) ∧ decide (0 ≤ r) = decide (x ∈ zs) ∧ w = w' := by
  obtain ⟨hl, hm, _, h0 | ⟨b, off, rfl, hb, hc⟩⟩ := hA
  · subst h0
    obtain rfl : zs = [] := List.length_eq_zero_iff.1 hl
    go_enter Try.func116, Try.ntmps116
    go_wp2_with fail
    go_loopg [8] 0 (fun g i wr => i = .int .i64 0 ∧ wr = w)
    case atStart => exact ⟨rfl, rfl⟩
    case round =>
      obtain ⟨rfl, rfl⟩ := hrel
      go_wp2_with fail
      go_ret
      exact ⟨-1, rfl, by simp, rfl⟩
  · have HC := Lib.hid hc
    have HL := Lib.hid hl
    clear hc hl
    unfold maxLen at hm
    go_enter Try.func116, Try.ntmps116
    go_wp2_with fail
    go_loopg [8] len (fun g i wr => ∃ k : Nat, k + g = len ∧ i = .int .i64 k ∧ Hid (∀ j, j < k → zs.getD j 0 ≠ x) ∧ wr = w)
    case atStart => exact ⟨0, by omega, rfl, Lib.hid (fun j hj => absurd hj (by omega)), rfl⟩
    case round =>
      obtain ⟨k, hkg, rfl, HN, rfl⟩ := hrel
      cases gk with
      | zero =>
        obtain rfl : k = len := by omega
        have HV : Hid (decide (x ∈ zs) = false) := Lib.hid (decide_eq_false (not_mem_getD fun j hj => HN.out j (by rw [← HL.out]; exact hj)))
        go_wp2_with fail
        go_ret
        exact ⟨-1, rfl, by rw [HV.out]; rfl, rfl⟩
      | succ g =>
        have hlt : k < len := by omega
        have hs := HC.out k hlt
        by_cases hx : x = zs.getD k 0
        · rw [← hx] at hs
          have HV : Hid (decide (x ∈ zs) = true) := Lib.hid (decide_eq_true (mem_of_getD (by rw [HL.out]; exact hlt) hx.symm))
          clear hx
          go_wp2_with fail
          go_ret
          exact ⟨k, rfl, by rw [HV.out]; simp, rfl⟩
        · have HX := Lib.hid hx
          obtain ⟨z, hz⟩ : ∃ z, zs.getD k 0 = z := ⟨_, rfl⟩
          rw [hz] at hs hx
          clear hz
          have hne : decide (x = z) = false := decide_eq_false hx
          go_wp2_with fail
          go_roundg g
          case measure => omega
          case rel => exact ⟨k + 1, by omega, by go_num, Lib.hid (fun j hj => by by_cases e : j = k; (rw [e]; exact fun h => HX.out h.symm); exact HN.out j (by omega)), rfl⟩

set_option maxRecDepth 20000 in
theorem contains_any (a : Option Addr) (len cap : Nat) (zs : List Int) (x : Int) (w : World) (hA : IAt w a len zs) :
    Calls Try.prog 95 #[.slice a len cap, .int .i64 x] w fun e w' => e = .returned (.bool (decide (x ∈ zs))) ∧ w = w' := by
  go_enter Try.func95, Try.ntmps95
  go_wp2_with fail
  refine (index_any a len cap zs x w hA).mono ?_
  rintro e w' ⟨r, rfl, hr, rfl⟩
  have HR := Lib.hid hr
  clear hr
  go_wp2_with fail
  go_ret
  rw [← HR.out]
  exact ⟨rfl, rfl⟩

def pureP (A B : List Int) (R C t : Nat) : Bool := decide (((t / C : Nat) : Int) ∈ ints (bestL (colAt A C (t % C)) R)) && decide (((t % C : Nat) : Int) ∈ ints (bestL (rowAt B C (t / C)) C))

theorem pureP_at {A B : List Int} {R C i k : Nat} (hk : k < C) : pureP A B R C (i * C + k) = (decide ((i : Int) ∈ ints (bestL (colAt A C k) R)) && decide ((k : Int) ∈ ints (bestL (rowAt B C i) C))) := by
  have h1 : (i * C + k) % C = k := by rw [Nat.mul_comm, Nat.mul_add_mod]; exact Nat.mod_eq_of_lt hk
  have h2 : (i * C + k) / C = i := by
    rw [Nat.mul_comm, Nat.mul_add_div (by omega), Nat.div_eq_of_lt hk, Nat.add_zero]
  unfold pureP
  rw [h1, h2]

theorem row_below {w w' : World} {lo : Nat} {e : TypeId} {size : Nat} {a : Option Addr} {n cap : Nat} {xs : List Value} (h : w.ownsRow lo e size (.slice a n cap) n xs) (hb : Below w.heap.size w w') : w'.ownsRow lo e size (.slice a n cap) n xs :=
  row_keep h fun x hx => hb.block _ (row_lt h x hx).2

set_option maxHeartbeats 2000000 in
set_option maxRecDepth 20000 in
theorem specPure_at (n R C b off c1 b' off' c2 : Nat) (A B : List Int) (w : World) (r1 : 1 ≤ R) (q1 : 1 ≤ C) (hR : R ≤ 6) (hC : C ≤ 6)
    (hx : Box4 w n 27 (.int .i64 R) (.int .i64 C) (.slice (some ⟨b, off, none⟩) (R * C) c1) (.slice (some ⟨b', off', none⟩) (R * C) c2))
    (hb : b < w.heap.size) (hb' : b' < w.heap.size) (ha : ∀ z ∈ A, Big z) (hbg : ∀ z ∈ B, Big z)
    (hc : ∀ i, i < R * C → w.cell? ⟨b, off + i, none⟩ = some (.int .i64 (A.getD i 0))) (hc' : ∀ i, i < R * C → w.cell? ⟨b', off' + i, none⟩ = some (.int .i64 (B.getD i 0))) :
    Calls Try.prog 94 #[.pointer (some ⟨n, 0, none⟩)] w (IntsOut w (ints (pickL (pureP A B R C) (R * C)))) := by
  obtain ⟨i0, hi, hz0, hz1, hz2⟩ := info_parts (P := Try.prog) (e := 2) (z := .int .i64 0) (size := 1) (bytes := 8) (by kernel_rfl)
  have hn := hx.lt
  have HX := Lib.hid hx
  have HC := Lib.hid hc
  have HC' := Lib.hid hc'
  have HA := Lib.hid ha
  have HB := Lib.hid hbg
  clear hx hc hc' ha hbg
  go_enter Try.func94, Try.ntmps94
  --PURE
  go_wp2_with fail
  go_loopg [3, 4] R (fun g o ii wr => ∃ (i : Nat) (a : Option Addr) (m cap : Nat), i + g = R ∧ ii = .int .i64 i ∧ o = .slice a m cap ∧ m ≤ i * C ∧ Hid (wr.ownsRow w.heap.size 2 1 (.slice a m cap) m ((ints (pickL (pureP A B R C) (i * C))).map (Value.int .i64))) ∧ Hid (Below w.heap.size w wr))
  case atStart => exact ⟨0, _, 0, 0, by omega, rfl, rfl, by omega, Lib.hid (by rw [Nat.zero_mul]; exact World.ownsRow_lit (base := w.heap.size) (e := 2) (size := 1) w #[] 0 (Nat.le_refl _) (by decide) rfl), Lib.hid below1⟩
  case round =>
    obtain ⟨i, a, m, cap, hig, rfl, rfl, hmi, HO, HW⟩ := hrel
    have hgb : Box4 wr n 27 (.int .i64 R) (.int .i64 C) (.slice (some ⟨b, off, none⟩) (R * C) c1) (.slice (some ⟨b', off', none⟩) (R * C) c2) := (HW.out.block n hn).trans HX.out
    obtain ⟨⟨y0, y1, y2, y3⟩, _⟩ := hgb.all
    clear hgb
    cases gk with
    | zero =>
      obtain rfl : i = R := by omega
      go_wp2_with fail
      go_ret
      exact ⟨a, m, cap, rfl, own_of_row HO.out (ints_big fun x hx => by have := (pickL_lt hx).1; have : i * C ≤ 36 := Nat.mul_le_mul hR hC; omega), HW.out⟩
    | succ g =>
      have hil : i < R := by omega
      go_wp2_with fail
      go_loopg [3, 5] C (fun g2 o kk wr => ∃ (k : Nat) (a : Option Addr) (m cap : Nat), k + g2 = C ∧ kk = .int .i64 k ∧ o = .slice a m cap ∧ m ≤ i * C + k ∧ Hid (wr.ownsRow w.heap.size 2 1 (.slice a m cap) m ((ints (pickL (pureP A B R C) (i * C + k))).map (Value.int .i64))) ∧ Hid (Below w.heap.size w wr))
      case atStart => exact ⟨0, a, m, cap, by omega, rfl, rfl, by omega, HO, HW⟩
      case round =>
        clear HO HW y0 y1 y2 y3 hmi
        obtain ⟨k, a, m, cap, hkg, rfl, rfl, hmk, HO, HW⟩ := hrel
        have hgb : Box4 wr n 27 (.int .i64 R) (.int .i64 C) (.slice (some ⟨b, off, none⟩) (R * C) c1) (.slice (some ⟨b', off', none⟩) (R * C) c2) := (HW.out.block n hn).trans HX.out
        obtain ⟨⟨y0, y1, y2, y3⟩, _⟩ := hgb.all
        have HG := Lib.hid hgb
        clear hgb
        have hwsz := HW.out.size
        have hwsz' : w.heap.size ≤ w.heap.size := Nat.le_refl _
        cases gk with
        | zero =>
          obtain rfl : k = C := by omega
          go_wp2_with fail
          go_roundg g
          case measure => omega
          case rel => exact ⟨i + 1, a, m, cap, by omega, by go_num, rfl, by rw [Nat.succ_mul]; exact hmk, by rw [Nat.succ_mul]; exact HO, HW⟩
        | succ g2 =>
          have hlt : k < C := by omega
          have hpl : i * C + k < 36 := Nat.lt_of_lt_of_le (place_lt hil hlt) (Nat.mul_le_mul hR hC)
          have HP := Lib.hid (pureP_at (A := A) (B := B) (R := R) (C := C) (i := i) hlt)
          have hp' : (i : Int) * (C : Int) = ((i * C : Nat) : Int) := by push_cast; rfl
          go_wp2_with fail
          refine (specBest_at n R C k b off c1 _ A wr hR hC hlt HG.out (Nat.lt_of_lt_of_le hb hwsz) (fun x hx => (HW.out.cell (p := ⟨b, off + x, none⟩) hb).trans (HC.out x hx))).mono ?_
          rintro e w1 ⟨a1, l1, m1, rfl, ho, b1⟩
          have IA := Lib.hid ho.iat
          have B1 := Lib.hid b1
          clear ho b1
          go_wp2_with fail
          refine (specHas_any a1 l1 m1 _ i w1 IA.out).mono ?_
          rintro e w' ⟨rfl, rfl⟩
          obtain ⟨v1, hv1⟩ : ∃ v1, decide ((i : Int) ∈ ints (bestL (colAt A C k) R)) = v1 := ⟨_, rfl⟩
          rw [hv1] at HP ⊢
          clear hv1
          cases v1 with
          | false =>
            have HN : Hid (pickL (pureP A B R C) (i * C + k + 1) = pickL (pureP A B R C) (i * C + k)) := Lib.hid (by rw [pickL_succ, HP.out]; simp)
            go_wp2_with fail
            go_roundg g2
            case measure => omega
            case rel => exact ⟨k + 1, a, m, cap, by omega, by go_num, rfl, by omega, Lib.hid (by rw [show i * C + (k + 1) = i * C + k + 1 from rfl, HN.out]; exact row_below HO.out B1.out), Lib.hid (below_after HW.out hwsz' B1.out)⟩
          | true =>
            go_wp2_with fail
            have HG1 : Hid (Box4 w1 n 27 (.int .i64 R) (.int .i64 C) (.slice (some ⟨b, off, none⟩) (R * C) c1) (.slice (some ⟨b', off', none⟩) (R * C) c2)) := Lib.hid (HG.out.below B1.out)
            refine (specBestCols_at n R C i b off c1 b' off' c2 A B w1 r1 q1 hR hC hil HG1.out (Nat.lt_of_lt_of_le hb (Nat.le_trans hwsz B1.out.size)) (Nat.lt_of_lt_of_le hb' (Nat.le_trans hwsz B1.out.size)) HA.out HB.out (fun x hx => ((HW.out.trans (B1.out.mono hwsz)).cell (p := ⟨b, off + x, none⟩) hb).trans (HC.out x hx)) (fun x hx => ((HW.out.trans (B1.out.mono hwsz)).cell (p := ⟨b', off' + x, none⟩) hb').trans (HC'.out x hx))).mono ?_
            rintro e w2 ⟨a2, l2, m2, rfl, ho, b2⟩
            have IB := Lib.hid ho.iat
            have B2 := Lib.hid (below_after B1.out (Nat.le_refl _) b2)
            clear ho b2
            go_wp2_with fail
            refine (specHas_any a2 l2 m2 _ k w2 IB.out).mono ?_
            rintro e w' ⟨rfl, rfl⟩
            obtain ⟨v2, hv2⟩ : ∃ v2, decide ((k : Int) ∈ ints (bestL (rowAt B C i) C)) = v2 := ⟨_, rfl⟩
            rw [hv2] at HP ⊢
            clear hv2
            cases v2 with
            | false =>
              have HN : Hid (pickL (pureP A B R C) (i * C + k + 1) = pickL (pureP A B R C) (i * C + k)) := Lib.hid (by rw [pickL_succ, HP.out]; simp)
              go_wp2_with fail
              go_roundg g2
              case measure => omega
              case rel => exact ⟨k + 1, a, m, cap, by omega, by go_num, rfl, by omega, Lib.hid (by rw [show i * C + (k + 1) = i * C + k + 1 from rfl, HN.out]; exact row_below HO.out B2.out), Lib.hid (below_after HW.out hwsz' B2.out)⟩
            | true =>
              have HN : Hid (pickL (pureP A B R C) (i * C + k + 1) = pickL (pureP A B R C) (i * C + k) ++ [i * C + k]) := Lib.hid (by rw [pickL_succ, HP.out]; simp)
              have hgb2 := (HG.out.below B2.out).c1
              have HO2 := Lib.hid (row_below HO.out B2.out)
              have HW2 := Lib.hid (below_after HW.out (Nat.le_refl _) B2.out)
              have hw2 := HW2.out.size
              have hq : IntKind.i64.wrap ((i : Int) * (C : Int)) = ((i * C : Nat) : Int) := by rw [hp']; simp (disch := omega) only [IntWalk.i64_in]
              have hq2 : IntKind.i64.wrap (((i * C : Nat) : Int) + (k : Int)) = ((i * C + k : Nat) : Int) := by simp (disch := omega) only [IntWalk.i64_in]; push_cast; rfl
              clear y0 y1 y2 y3 hp'
              go_wp2_with (at_builtin; refine wpList_append_own _ rfl (.tmp 35) (.tmp 44) 22 rfl w.heap.size 2 i0 (.int .i64 0) 1 8 Try.underlying22 hi hz0 hz1 hz2 rfl (by decide) _ m _ rfl (HO2.out.alloc _) ⟨w2.heap.size, 0, none⟩ 1 1 [.int .i64 ((i * C + k : Nat) : Int)] rfl rfl (news_one _ _ (by simp)) (one_int _) (by unfold maxLen; omega) (by omega) (by simp; omega) ?_)
              intro v' w3 hown hgrow _
              obtain ⟨a', cap', rfl⟩ := row_slice hown
              have HX1 := Lib.hid (Below.grown ((HW2.out).alloc (by simpa using hw2) _) hgrow (by simp; omega) (fun k hk => (World.ownsRow.lt HO2.out k hk).1))
              have HO1 : Hid (w3.ownsRow w.heap.size 2 1 (.slice a' (m + 1) cap') (m + 1) ((ints (pickL (pureP A B R C) (i * C + k + 1))).map (Value.int .i64))) :=
                Lib.hid (by rw [HN.out, ints_append, List.map_append]; exact hown)
              clear hown hgrow
              go_wp2_with fail
              go_roundg g2
              case measure => omega
              case rel => exact ⟨k + 1, a', m + 1, cap', by omega, by go_num, rfl, by omega, HO1, HX1⟩
end Go.Proofs.Ytpopmcgieegikaa
