/-
  Worse rows: the reference's list.
-/
import Derived.Test.YtpopmcgieegikaaGBetS
namespace Go.Proofs.Ytpopmcgieegikaa
open Go.RowKit Go.ChangeShapes Go.WideShapes
set_option linter.unusedVariables false

/-- a choice gains less than another one, whatever is chosen against it -/
def worseF (f : Nat → Nat → Int) (C i j : Nat) : Bool := (List.range C).all fun k => decide (f i k < f j k)
def worseAny (f : Nat → Nat → Int) (R C i : Nat) : Bool := (List.range R).any fun j => worseF f C i j
def rowsF (A : List Int) (C : Nat) (i k : Nat) : Int := A.getD (i * C + k) 0
theorem worseF_false {f : Nat → Nat → Int} {C i j k : Nat} (hk : k < C) (h : ¬ f i k < f j k) : worseF f C i j = false := by
  cases e : worseF f C i j with
  | false => rfl
  | true => exact absurd (of_decide_eq_true (List.all_eq_true.1 e k (by simpa using hk))) h
theorem worseF_true {f : Nat → Nat → Int} {C i j : Nat} (h : ∀ k, k < C → f i k < f j k) : worseF f C i j = true :=
  List.all_eq_true.2 fun k hk => decide_eq_true (h k (by simpa using hk))
theorem worseAny_true {f : Nat → Nat → Int} {R C i j : Nat} (hj : j < R) (h : worseF f C i j = true) : worseAny f R C i = true :=
  List.any_eq_true.2 ⟨j, by simpa using hj, h⟩
theorem worseAny_false {f : Nat → Nat → Int} {R C i : Nat} (h : ∀ j, j < R → worseF f C i j = false) : worseAny f R C i = false := by
  cases e : worseAny f R C i with
  | false => rfl
  | true =>
    obtain ⟨j, hj, hw⟩ := List.any_eq_true.1 e
    rw [h j (by simpa using hj)] at hw
    cases hw

set_option maxHeartbeats 2000000 in
set_option maxRecDepth 20000 in
theorem specWorse_at (n R C b off c1 i j : Nat) (s2 : Value) (A : List Int) (w : World) (hRC : R * C ≤ 36) (hC : C ≤ 6) (hi : i < R) (hj : j < R) (hx : Box4 w n 27 (.int .i64 R) (.int .i64 C) (.slice (some ⟨b, off, none⟩) (R * C) c1) s2)
    (hc : ∀ i, i < R * C → w.cell? ⟨b, off + i, none⟩ = some (.int .i64 (A.getD i 0))) :
    Calls Try.prog 112 #[.pointer (some ⟨n, 0, none⟩), .int .i64 i, .int .i64 j] w fun e w' => e = .returned (.bool (worseF (rowsF A C) C i j)) ∧ Same w w' := by
  have hn := hx.lt
  have HX := Lib.hid hx
  have HC := Lib.hid hc
  clear hx hc
  obtain ⟨len, hlen⟩ : ∃ len, R * C = len := ⟨_, rfl⟩
  obtain ⟨pi, hpi⟩ : ∃ p, i * C = p := ⟨_, rfl⟩
  obtain ⟨pj, hpj⟩ : ∃ p, j * C = p := ⟨_, rfl⟩
  have HI : Hid (∀ k, k < C → pi + k < len) := Lib.hid fun k hk => by rw [← hpi, ← hlen]; exact place_lt hi hk
  have HJ : Hid (∀ k, k < C → pj + k < len) := Lib.hid fun k hk => by rw [← hpj, ← hlen]; exact place_lt hj hk
  have HFI : Hid (∀ k, rowsF A C i k = A.getD (pi + k) 0) := Lib.hid fun k => by unfold rowsF; rw [hpi]
  have HFJ : Hid (∀ k, rowsF A C j k = A.getD (pj + k) 0) := Lib.hid fun k => by unfold rowsF; rw [hpj]
  have hbi : i * C ≤ 36 := Nat.le_trans (Nat.mul_le_mul_right C (Nat.le_of_lt hi)) hRC
  have hbj : j * C ≤ 36 := Nat.le_trans (Nat.mul_le_mul_right C (Nat.le_of_lt hj)) hRC
  have hqi := wrap_mul hpi (by omega)
  have hqj := wrap_mul hpj (by omega)
  have hpi36 : pi ≤ 36 := by omega
  have hpj36 : pj ≤ 36 := by omega
  rw [hlen] at HX HC hRC
  clear hlen hpi hpj hbi hbj
  obtain ⟨⟨y0, y1, y2, y3⟩, _⟩ := HX.out.all
  go_enter Try.func112, Try.ntmps112
  go_wp2_with fail
  go_loopg [7] C (fun g kk wr => ∃ (k mm : Nat), k + g = C ∧ kk = .int .i64 k ∧ Hid (∀ x, x < k → rowsF A C i x < rowsF A C j x) ∧ Hid (wr = w.drewN mm) ∧ Box4 wr n 27 (.int .i64 R) (.int .i64 C) (.slice (some ⟨b, off, none⟩) len c1) s2)
  case atStart => exact ⟨0, 0, by omega, rfl, Lib.hid (fun x hx => absurd hx (by omega)), Lib.hid rfl, HX.out⟩
  case round =>
    clear y0 y1 y2 y3
    obtain ⟨k, mm, hkg, rfl, HF, HW, hbox⟩ := hrel
    obtain ⟨⟨y0, y1, y2, y3⟩, _⟩ := hbox.all
    cases gk with
    | zero =>
      obtain rfl : k = C := by omega
      have HV : Hid (worseF (rowsF A k) k i j = true) := Lib.hid (worseF_true HF.out)
      go_wp2_with fail
      go_ret
      rw [HV.out]
      exact ⟨rfl, mm, HW.out⟩
    | succ g =>
      have hlt : k < C := by omega
      have hil := HI.out k hlt
      have hjl := HJ.out k hlt
      have sI : wr.cell? ⟨b, off + (pi + k), none⟩ = some (.int .i64 (A.getD (pi + k) 0)) := by rw [HW.out]; exact HC.out _ hil
      have sJ : wr.cell? ⟨b, off + (pj + k), none⟩ = some (.int .i64 (A.getD (pj + k) 0)) := by rw [HW.out]; exact HC.out _ hjl
      have fI := HFI.out k
      have fJ := HFJ.out k
      obtain ⟨ci, hci⟩ : ∃ c, pi + k = c := ⟨_, rfl⟩
      obtain ⟨cj, hcj⟩ : ∃ c, pj + k = c := ⟨_, rfl⟩
      have hsi := wrap_add hci (by omega)
      have hsj := wrap_add hcj (by omega)
      rw [hci] at sI hil fI
      rw [hcj] at sJ hjl fJ
      obtain ⟨va, hva⟩ : ∃ v, A.getD ci 0 = v := ⟨_, rfl⟩
      obtain ⟨vb, hvb⟩ : ∃ v, A.getD cj 0 = v := ⟨_, rfl⟩
      rw [hva] at sI fI
      rw [hvb] at sJ fJ
      have FI := Lib.hid fI
      have FJ := Lib.hid fJ
      clear hva hvb fI fJ hci hcj hbox
      by_cases ha : va < vb
      · have hd : decide (vb ≤ va) = false := decide_eq_false (by omega)
        go_wp2_with fail
        go_quiet (fail)
        go_wp2_with fail
        go_roundg g
        case measure => omega
        case rel => exact ⟨k + 1, mm + nq, by omega, by go_num, Lib.hid (fun x hx => by by_cases e : x = k; (rw [e, FI.out, FJ.out]; exact ha); exact HF.out x (by omega)), Lib.hid (by rw [HW.out]; first | rfl | exact World.drewN_drewN _ _ _), by rw [HW.out]; exact HX.out⟩
      · have hd : decide (vb ≤ va) = true := decide_eq_true (by omega)
        have HV : Hid (worseF (rowsF A C) C i j = false) := Lib.hid (worseF_false hlt (by rw [FI.out, FJ.out]; exact ha))
        go_wp2_with fail
        go_quiet (fail)
        go_wp2_with fail
        go_ret
        rw [HV.out]
        exact ⟨rfl, mm + nq, by rw [HW.out]; first | rfl | exact World.drewN_drewN _ _ _⟩

set_option maxHeartbeats 2000000 in
set_option maxRecDepth 20000 in
theorem specWorseRows_at (n R C b off c1 : Nat) (s2 : Value) (A : List Int) (w : World) (hR : R ≤ 6) (hC : C ≤ 6) (hx : Box4 w n 27 (.int .i64 R) (.int .i64 C) (.slice (some ⟨b, off, none⟩) (R * C) c1) s2)
    (hb : b < w.heap.size) (hc : ∀ i, i < R * C → w.cell? ⟨b, off + i, none⟩ = some (.int .i64 (A.getD i 0))) :
    Calls Try.prog 86 #[.pointer (some ⟨n, 0, none⟩)] w (IntsOut w (ints (pickL (worseAny (rowsF A C) R C) R))) := by
  obtain ⟨i0, hi, hz0, hz1, hz2⟩ := info_parts (P := Try.prog) (e := 2) (z := .int .i64 0) (size := 1) (bytes := 8) (by kernel_rfl)
  have hn := hx.lt
  have hRC : R * C ≤ 36 := Nat.mul_le_mul hR hC
  have HX := Lib.hid hx
  have HC := Lib.hid hc
  clear hx hc
  go_enter Try.func86, Try.ntmps86
  go_wp2_with fail
  go_loopg [3, 4] R (fun g o ii wr => ∃ (i : Nat) (a : Option Addr) (m cap : Nat), i + g = R ∧ ii = .int .i64 i ∧ o = .slice a m cap ∧ m ≤ i ∧ Hid (wr.ownsRow w.heap.size 2 1 (.slice a m cap) m ((ints (pickL (worseAny (rowsF A C) R C) i)).map (Value.int .i64))) ∧ Hid (Below w.heap.size w wr))
  case atStart => exact ⟨0, _, 0, 0, by omega, rfl, rfl, by omega, Lib.hid (World.ownsRow_lit (base := w.heap.size) (e := 2) (size := 1) w #[] 0 (Nat.le_refl _) (by decide) rfl), Lib.hid below1⟩
  case round =>
    obtain ⟨i, a, m, cap, hig, rfl, rfl, hmi, HO, HW⟩ := hrel
    have HG : Hid (Box4 wr n 27 (.int .i64 R) (.int .i64 C) (.slice (some ⟨b, off, none⟩) (R * C) c1) s2) := Lib.hid ((HW.out.block n hn).trans HX.out)
    obtain ⟨⟨y0, y1, y2, y3⟩, _⟩ := HG.out.all
    have hwsz := HW.out.size
    cases gk with
    | zero =>
      obtain rfl : i = R := by omega
      go_wp2_with fail
      go_ret
      exact ⟨a, m, cap, rfl, own_of_row HO.out (ints_big fun x hx => by have := (pickL_lt hx).1; omega), HW.out⟩
    | succ g =>
      have hil : i < R := by omega
      go_wp2_with fail
      go_loopg [3, 5] R (fun g2 o jj wj => ∃ (j : Nat), j + g2 = R ∧ o = .slice a m cap ∧ jj = .int .i64 j ∧ Hid (∀ x, x < j → worseF (rowsF A C) C i x = false) ∧ Hid (wj.ownsRow w.heap.size 2 1 (.slice a m cap) m ((ints (pickL (worseAny (rowsF A C) R C) i)).map (Value.int .i64))) ∧ Hid (Below w.heap.size w wj))
      case atStart => exact ⟨0, by omega, rfl, rfl, Lib.hid (fun x hx => absurd hx (by omega)), HO, HW⟩
      case round =>
        clear HO HW HG y0 y1 y2 y3 hwsz
        obtain ⟨j, hjg, rfl, rfl, HF, HOJ, HBJ⟩ := hrel
        have HBX : Hid (Box4 wr n 27 (.int .i64 R) (.int .i64 C) (.slice (some ⟨b, off, none⟩) (R * C) c1) s2) := Lib.hid ((HBJ.out.block n hn).trans HX.out)
        obtain ⟨⟨y0, y1, y2, y3⟩, _⟩ := HBX.out.all
        cases gk with
        | zero =>
          obtain rfl : j = R := by omega
          have HN : Hid (pickL (worseAny (rowsF A C) j C) (i + 1) = pickL (worseAny (rowsF A C) j C) i) := Lib.hid (by rw [pickL_succ, worseAny_false HF.out]; simp)
          go_wp2_with fail
          go_roundg g
          case measure => omega
          case rel => exact ⟨i + 1, a, m, cap, by omega, by go_num, rfl, by omega, Lib.hid (by rw [HN.out]; exact HOJ.out), HBJ⟩
        | succ g2 =>
          have hjl : j < R := by omega
          go_wp2_with fail
          refine (specWorse_at n R C b off c1 i j s2 A _ hRC hC hil hjl HBX.out (fun x hx => (HBJ.out.cell (p := ⟨b, off + x, none⟩) hb).trans (HC.out x hx))).mono ?_
          rintro e w3 ⟨rfl, n3, hw3⟩
          have HB3 : Hid (Below w.heap.size w w3) := Lib.hid (HBJ.out.trans (same_below ⟨n3, hw3⟩ _))
          have G3 : Box4 w3 n 27 (.int .i64 R) (.int .i64 C) (.slice (some ⟨b, off, none⟩) (R * C) c1) s2 := HBX.out.below (same_below ⟨n3, hw3⟩ _)
          have GG3 := Lib.hid G3
          have HO3 : Hid (w3.ownsRow w.heap.size 2 1 (.slice a m cap) m ((ints (pickL (worseAny (rowsF A C) R C) i)).map (Value.int .i64))) := Lib.hid (row_below HOJ.out (same_below ⟨n3, hw3⟩ _))
          clear hw3 G3
          cases hv : worseF (rowsF A C) C i j with
          | false =>
            have HVV := Lib.hid hv
            clear hv
            go_wp2_with fail
            go_roundg g2
            case measure => omega
            case rel => exact ⟨j + 1, by omega, rfl, by go_num, Lib.hid (fun x hx => by by_cases e : x = j; (rw [e]; exact HVV.out); exact HF.out x (by omega)), HO3, HB3⟩
          | true =>
            have HN : Hid (pickL (worseAny (rowsF A C) R C) (i + 1) = pickL (worseAny (rowsF A C) R C) i ++ [i]) := Lib.hid (by rw [pickL_succ, worseAny_true hjl hv]; simp)
            clear hv y0 y1 y2 y3
            obtain ⟨⟨y0, y1, y2, y3⟩, _⟩ := GG3.out.all
            have hs3 := HB3.out.size
            go_wp2_with (at_builtin; refine wpList_append_own _ rfl (.tmp 27) (.tmp 29) 22 rfl w.heap.size 2 i0 (.int .i64 0) 1 8 Try.underlying22 hi hz0 hz1 hz2 rfl (by decide) _ m _ rfl (HO3.out.alloc _) ⟨w3.heap.size, 0, none⟩ 1 1 [.int .i64 i] rfl rfl (news_one _ _ (by simp)) (one_int _) (by unfold maxLen; omega) (by omega) (by simp; omega) ?_)
            intro v' w5 hown hgrow _
            obtain ⟨a', cap', rfl⟩ := row_slice hown
            have HX1 := Lib.hid (Below.grown ((HB3.out).alloc (by simpa using hs3) _) hgrow (by simp; omega) (fun k hk => (World.ownsRow.lt HO3.out k hk).1))
            have HO1 : Hid (w5.ownsRow w.heap.size 2 1 (.slice a' (m + 1) cap') (m + 1) ((ints (pickL (worseAny (rowsF A C) R C) (i + 1))).map (Value.int .i64))) :=
              Lib.hid (by rw [HN.out, ints_append, List.map_append]; exact hown)
            clear hown hgrow
            go_wp2_with fail
            go_roundg g
            case measure => omega
            case rel => exact ⟨i + 1, a', m + 1, cap', by omega, by go_num, rfl, by omega, HO1, HX1⟩
end Go.Proofs.Ytpopmcgieegikaa
