/-
  What is told of each two players: the program's table, and how much one envies another.
-/
import Derived.Test.YtkgjfockechniaaTOwnL
namespace Go.Proofs.Ytkgjfockechniaa
open Go.RowKit Go.ChangeShapes Go.WideShapes
set_option linter.unusedVariables false

/-- f of each pair, row by row, the first k rows -/
def pairsTo (f : Nat → Nat → Int) (P : Nat) : Nat → List Int
  | 0 => []
  | k + 1 => pairsTo f P k ++ (List.range P).map (f k)
theorem pairsTo_len (f : Nat → Nat → Int) (P : Nat) (k : Nat) : (pairsTo f P k).length = k * P := by
  induction k with
  | zero => simp [pairsTo]
  | succ k ih => simp [pairsTo, ih, Nat.succ_mul]
theorem pairsTo_mem {f : Nat → Nat → Int} {P k : Nat} {z : Int} (h : z ∈ pairsTo f P k) : ∃ i j, i < k ∧ j < P ∧ z = f i j := by
  induction k with
  | zero => simp [pairsTo] at h
  | succ k ih =>
    rcases List.mem_append.1 h with h | h
    · obtain ⟨i, j, h1, h2, h3⟩ := ih h
      exact ⟨i, j, by omega, h2, h3⟩
    · simp only [List.mem_map, List.mem_range] at h
      obtain ⟨j, hj, rfl⟩ := h
      exact ⟨k, j, by omega, hj, rfl⟩

/-- a closure that tells a number of two players -/
def TellI (w : World) (g : Nat) (caps : Array Value) (P : Nat) (f : Nat → Nat → Int) : Prop :=
  ∀ W, Below w.heap.size w W → ∀ i j, i < P → j < P → Calls Try.prog g (#[.int .i64 i, .int .i64 j] ++ caps) W fun e W' => e = .returned (.int .i64 (f i j)) ∧ Below W.heap.size W W'

set_option maxHeartbeats 2000000 in
set_option maxRecDepth 20000 in
theorem forPairsI_any (P g : Nat) (caps : Array Value) (f : Nat → Nat → Int) (w : World) (hP : P ≤ 6) (he : ∀ args w, (callFunc g args).run Try.prog w = .ok (.enter g args) w) (hf : TellI w g caps P f) (hb : ∀ i j, i < P → j < P → Big (f i j)) :
    Calls Try.prog 69 #[.int .i64 P, .func (.func g) #[] caps] w (RowOut w (pairsTo f P P)) := by
  obtain ⟨i0, hi, hz0, hz1, hz2⟩ := info_parts (P := Try.prog) (e := 2) (z := .int .i64 0) (size := 1) (bytes := 8) (by kernel_rfl)
  have HF := Lib.hid hf
  have HB := Lib.hid hb
  have HE := Lib.hid he
  clear hf hb he
  go_enter Try.func69, Try.ntmps69
  go_wp2_with fail
  go_loopw [5, 9] (fun o q wr => ∃ (k m : Nat) (a : Option Addr) (cap : Nat), k ≤ P ∧ q = .int .i64 k ∧ o = .slice a m cap ∧ m ≤ 6 * k ∧
      Hid (wr.ownsRow w.heap.size 2 1 (.slice a m cap) m ((pairsTo f P k).map (Value.int .i64))) ∧ Hid (Below w.heap.size w wr))
    (fun _ q _ => P - (intOf q).toNat)
  case atStart =>
    exact ⟨0, 0, _, 0, Nat.zero_le _, rfl, rfl, Nat.zero_le _, Lib.hid (World.ownsRow_nil _ _ _ _), Lib.hid (Below.refl _ _)⟩
  case round =>
    obtain ⟨k, m, a, cap, hk, rfl, rfl, hm, HR, HW⟩ := hrel
    by_cases hlt : k < P
    · have HR0 : Hid (wr.ownsRow w.heap.size 2 1 (.slice a m cap) m ((pairsTo f P k ++ (List.range 0).map (f k)).map (Value.int .i64))) := Lib.hid (by simpa using HR.out)
      clear HR
      obtain ⟨wo, rfl⟩ : ∃ wo : World, wo = wr := ⟨_, rfl⟩
      go_wp2_with fail
      go_loopw [5, 13] (fun o q wr => ∃ (r m : Nat) (a : Option Addr) (cap : Nat), r ≤ P ∧ q = .int .i64 r ∧ o = .slice a m cap ∧ m ≤ 6 * k + r ∧
          Hid (wr.ownsRow w.heap.size 2 1 (.slice a m cap) m ((pairsTo f P k ++ (List.range r).map (f k)).map (Value.int .i64))) ∧ Hid (Below w.heap.size w wr))
        (fun _ q _ => P - (intOf q).toNat)
      case atStart => exact ⟨0, m, a, cap, Nat.zero_le _, rfl, rfl, by omega, HR0, HW⟩
      case round =>
        clear hm HR0 HW
        obtain ⟨r, m, a, cap, hr, rfl, rfl, hm, HR, HW⟩ := hrel
        have hwsz := HW.out.size
        by_cases hlt2 : r < P
        · go_wp2_with fail
          rw [HE.out]
          refine (HF.out wr HW.out k r hlt hlt2).mono ?_
          rintro e w2 ⟨rfl, b2⟩
          have hb2 : Below w.heap.size w w2 := below_after HW.out (Nat.le_refl _) b2
          have HR' := Lib.hid (row_below HR.out b2)
          have HW2 := Lib.hid hb2
          have hw2sz := hb2.size
          have HN : Hid (pairsTo f P k ++ (List.range (r + 1)).map (f k) = (pairsTo f P k ++ (List.range r).map (f k)) ++ [f k r]) := Lib.hid (by simp [List.range_succ])
          clear b2 hb2 HW
          generalize f k r = v at *
          go_wp2_with (at_builtin; refine wpList_append_own _ rfl (.tmp 16) (.tmp 21) 22 rfl w.heap.size 2 i0 (.int .i64 0) 1 8 Try.underlying22 hi hz0 hz1 hz2 rfl (by decide) _ m _ rfl (HR'.out.alloc _) ⟨w2.heap.size, 0, none⟩ 1 1 [.int .i64 v] rfl rfl (news_one _ _ (by simp)) (one_int _) (by unfold maxLen; omega) (by omega) (by simp; omega) ?_)
          intro v' w1 hown hgrow _
          obtain ⟨a', cap', rfl⟩ := row_slice hown
          have HX1 := Lib.hid (Below.grown (HW2.out.alloc (by simpa using hw2sz) _) hgrow (by simp; omega) (fun k hk => (World.ownsRow.lt HR'.out k hk).1))
          have HO1 : Hid (w1.ownsRow w.heap.size 2 1 (.slice a' (m + 1) cap') (m + 1) ((pairsTo f P k ++ (List.range (r + 1)).map (f k)).map (Value.int .i64))) :=
            Lib.hid (by rw [HN.out]; simpa using hown)
          clear hown hgrow HR HR'
          go_wp2_with fail
          go_roundw
          case rel => exact ⟨r + 1, m + 1, a', cap', by omega, by go_num, rfl, by omega, HO1, HX1⟩
          case measure => simp [intOf]; omega
        · obtain rfl : r = P := by omega
          go_wp2_with fail
          go_roundw
          case rel => exact ⟨k + 1, m, a, cap, by omega, by go_num, rfl, by omega, HR, HW⟩
          case measure => simp [intOf]; omega
    · obtain rfl : k = P := by omega
      go_wp2_with fail
      go_ret
      refine ⟨a, m, cap, rfl, own_of_row HR.out ?_, HW.out⟩
      intro z hz
      obtain ⟨i, j, h1, h2, rfl⟩ := pairsTo_mem hz
      exact HB.out i j h1 h2

/-! ### envy -/

def envyF (A : List Int) (T : Nat) (O : List Int) (i j : Nat) : Int := partW A T i j O - partW A T i i O

theorem envy_any (P T i : Nat) (a1 : Option Addr) (l1 c1 : Nat) (A : List Int) (j : Int) (ao : Option Addr) (lo co : Nat) (O : List Int) (w : World) (hv : VOk w P T a1 l1 c1 A) (hi : i < P) (hO : IAt w ao lo O) (hlo : 1 ≤ lo) (hlt : lo ≤ T) :
    Calls Try.prog 71 #[valuesV (P : Nat) (T : Nat) a1 l1 c1, .int .i64 i, .int .i64 j, .slice ao lo co] w fun e w' => e = .returned (.int .i64 (partW A T i j O - partW A T i i O)) ∧ Below w.heap.size w w' := by
  have h1 := partW_in (j := j) (O := O) hv.ok hv.len hi (by rw [hO.1]; exact hlt) hv.t8
  have h2 := partW_in (j := (i : Int)) (O := O) hv.ok hv.len hi (by rw [hO.1]; exact hlt) hv.t8
  have hs : wrap64 (partW A T i j O - partW A T i i O) = partW A T i j O - partW A T i i O := by unfold wrap64; omega
  have HS := Lib.hid hs
  have b0 := below1 (w := w) (o := .cells #[.int .i64 (P : Nat), .int .i64 (T : Nat), .slice a1 l1 c1] 27)
  have hx : Box3 _ w.heap.size 27 (.int .i64 (P : Nat)) (.int .i64 (T : Nat)) (.slice a1 l1 c1) := heap1 (w := w)
  have HV := Lib.hid (hv.below b0)
  have HO := Lib.hid (hO.below b0)
  have B0 := Lib.hid b0
  clear h1 h2 hs hv hO b0
  go_enter Try.func71, Try.ntmps71
  go_wp2_with fail
  generalize w.alloc (.cells #[.int .i64 (P : Nat), .int .i64 (T : Nat), .slice a1 l1 c1] 27) = W at *
  have p0 := fun y : ExtW W => (hx.below y.ext).c0
  have p1 := fun y : ExtW W => (hx.below y.ext).c1
  have p2 := fun y : ExtW W => (hx.below y.ext).c2
  clear hx
  refine region_ext (by kernel_rfl) (by kernel_rfl) ?_
  repeat (go_big_quiet_step ((go_at_call 116; refine (partWorth_any P T i a1 l1 c1 A _ ao lo co O _ (HV.out.below (ExtW.ext _)) hi (HO.out.below (ExtW.ext _)) hlo hlt).mono ?_; rintro e w2 ⟨rfl, hb⟩; exact ⟨rfl, ExtW.on _ hb⟩)))
  refine wpQuiet_nil ?_
  intro _ hw'
  obtain ⟨y, hy⟩ := hw'
  subst hy
  rw [HS.out]
  go_wp2_with fail
  go_ret
  exact ⟨rfl, below_after B0.out (Nat.le_refl _) y.ext⟩

/-- the program's closure in EnvyTable -/
theorem tellEnvy_any (P T i j m n : Nat) (a1 : Option Addr) (l1 c1 : Nat) (A : List Int) (ao : Option Addr) (lo co : Nat) (O : List Int) (w : World) (hx : Box3 w m 27 (.int .i64 (P : Nat)) (.int .i64 (T : Nat)) (.slice a1 l1 c1))
    (hy : w.cell? ⟨n, 0, none⟩ = some (.slice ao lo co)) (hv : VOk w P T a1 l1 c1 A) (hi : i < P) (hO : IAt w ao lo O) (hlo : 1 ≤ lo) (hlt : lo ≤ T) :
    Calls Try.prog 70 #[.int .i64 i, .int .i64 j, .pointer (some ⟨m, 0, none⟩), .pointer (some ⟨n, 0, none⟩)] w fun e w' => e = .returned (.int .i64 (envyF A T O i j)) ∧ Below w.heap.size w w' := by
  obtain ⟨⟨p0, p1, p2⟩, _⟩ := hx.all
  have HV := Lib.hid hv
  have HO := Lib.hid hO
  have E : Hid (envyF A T O i j = partW A T i j O - partW A T i i O) := Lib.hid rfl
  generalize envyF A T O i j = v at *
  clear hx hv hO
  go_enter Try.func70, Try.ntmps70
  go_wp2_with fail
  refine (envy_any P T i a1 l1 c1 A j ao lo co O w HV.out hi HO.out hlo hlt).mono ?_
  rintro e w2 ⟨rfl, b2⟩
  rw [← E.out]
  have B2 := Lib.hid b2
  clear b2 p0 p1 p2 hy
  go_wp2_with fail
  go_ret
  exact ⟨rfl, B2.out⟩
end Go.Proofs.Ytkgjfockechniaa
