/-
  How much more sets are worth with a player: the program's closure, and the sums over an order.
-/
import Derived.Test.YtnlknofcdapalaaWOrderI
namespace Go.Proofs.Ytnlknofcdapalaa
open Go.RowKit
set_option linter.unusedVariables false

theorem moreOf_any (p pl : Int) (a1 : Option Addr) (l1 c1 : Nat) (w : World) :
    Calls Try.prog 79 #[worthsV p a1 l1 c1, .int .i64 pl] w fun e w' => e = .returned (.func (.func 98) #[] #[.pointer (some ⟨w.heap.size, 0, none⟩), .pointer (some ⟨w.heap.size + 1, 0, none⟩)]) ∧
      w' = (w.alloc (.cells #[.int .i64 p, .slice a1 l1 c1] 27)).alloc (.cells #[.int .i64 pl] 2) := by
  go_enter Try.func79, Try.ntmps79
  go_wp2
  go_ret
  exact ⟨rfl, rfl⟩

set_option maxRecDepth 20000 in
theorem more1_at (b off n1 n2 l1 c1 s q o : Nat) (v1 v2 : Int) (w : World) (hl : l1 ≤ 64) (hs : s < l1) (hq : q < 6) (ho : o < l1) (hso : s ||| 2 ^ q = o)
    (p1 : w.cell? ⟨n1, 1, none⟩ = some (.slice (some ⟨b, off, none⟩) l1 c1)) (p2 : w.cell? ⟨n2, 0, none⟩ = some (.int .i64 (q : Nat)))
    (g1 : w.cell? ⟨b, off + s, none⟩ = some (.int .i64 v1)) (g2 : w.cell? ⟨b, off + o, none⟩ = some (.int .i64 v2)) (h1 : -10000 ≤ v1 ∧ v1 ≤ 10000) (h2 : -10000 ≤ v2 ∧ v2 ≤ 10000) :
    Calls Try.prog 98 #[.int .i64 (s : Nat), .pointer (some ⟨n1, 0, none⟩), .pointer (some ⟨n2, 0, none⟩)] w fun e w' => e = .returned (.int .i64 (v2 - v1)) ∧ Same w w' := by
  have h32 := pow_le32 hq
  have e1 := bits_or6 (show s < 64 by omega) (show 2 ^ q < 64 by omega)
  rw [hso] at e1
  have HS := Lib.hid (setOfN_any q (by omega))
  obtain ⟨h3, h4⟩ := h1
  obtain ⟨h5, h6⟩ := h2
  clear hso
  generalize (2 : Nat) ^ q = z at *
  go_enter Try.func98, Try.ntmps98
  go_wp2_with fail
  go_quiet (first
    | (go_at_call 60; refine (HS.out _).mono ?_; rintro e w2 ⟨rfl, h2⟩; exact ⟨rfl, _, h2.symm⟩))
  go_wp2
  go_ret
  exact ⟨rfl, nq, rfl⟩

theorem moreTo_big {P : Nat} {A O : List Int} {k : Nat} (hall : ∀ i, i < A.length → -10000 ≤ A.getD i 0 ∧ A.getD i 0 ≤ 10000) (hok : ∀ j, j < k → okAt P O j = true) (hl : A.length = 2 ^ P) : ∀ z ∈ moreTo A O P k, Big z := by
  induction k with
  | zero =>
    intro z hz
    rw [show moreTo A O P 0 = List.replicate P 0 from rfl] at hz
    rw [List.eq_of_mem_replicate hz]
    simp [Big]
  | succ k ih =>
    intro z hz
    rcases List.mem_or_eq_of_mem_set hz with h | rfl
    · exact ih (fun j hj => hok j (by omega)) z h
    · have h1 := hall (seenTo O k) (by rw [hl]; exact seenTo_lt fun j hj => hok j (by omega))
      have h2 := hall (seenTo O (k + 1)) (by rw [hl]; exact seenTo_lt hok)
      unfold moreAt
      exact ⟨by omega, by omega⟩

set_option maxHeartbeats 1000000 in
set_option maxRecDepth 20000 in
theorem moreIn_at (b off l1 c1 bo oo len co g lo hi cap P : Nat) (A O : List Int) (w : World) (hP : P ≤ 6) (hl : l1 = 2 ^ P) (hlen : A.length = l1) (hO : O.length = len) (hLP : len = P)
    (hall : ∀ i, i < l1 → -10000 ≤ A.getD i 0 ∧ A.getD i 0 ≤ 10000) (hok : ∀ j, j < len → okAt P O j = true)
    (hc : ∀ i, i < l1 → w.cell? ⟨b, off + i, none⟩ = some (.int .i64 (A.getD i 0))) (hco : ∀ i, i < len → w.cell? ⟨bo, oo + i, none⟩ = some (.int .i64 (O.getD i 0))) (hb : b < lo) (hbo : bo < lo)
    (hown : Own w lo hi (some ⟨g, 0, none⟩) P cap (List.replicate P 0)) :
    Calls Try.prog 74 #[worthsV (P : Nat) (some ⟨b, off, none⟩) l1 c1, .slice (some ⟨bo, oo, none⟩) len co, .slice (some ⟨g, 0, none⟩) P cap] w fun e w' => (∃ v, e = .returned v) ∧ Own w' lo hi (some ⟨g, 0, none⟩) P cap (moreTo A O P P) ∧ Keeps lo hi w w' := by
  have hb1 : Below w.heap.size w (w.alloc (.cells #[.int .i64 (P : Nat), .slice (some ⟨b, off, none⟩) l1 c1] 27)) := below1
  have hx : Box2 (w.alloc (.cells #[.int .i64 (P : Nat), .slice (some ⟨b, off, none⟩) l1 c1] 27)) w.heap.size 27 (.int .i64 (P : Nat)) (.slice (some ⟨b, off, none⟩) l1 c1) := heap1
  have hhi := hown.2.2.1
  have hgh : g < hi := hown.2.2.2.1 _ rfl
  have hgl : lo ≤ g := (hown.2.2.2.2.lt g rfl).1
  have HC := Lib.hid hc
  have HCO := Lib.hid hco
  have HALL := Lib.hid hall
  have HOK := Lib.hid hok
  have HOW := Lib.hid hown
  have HX := Lib.hid hx
  have HK0 := Lib.hid (Keeps.of_below (lo := lo) (hi := hi) hb1)
  have h64 : l1 ≤ 64 := by rw [hl]; exact pow_le64 hP
  have HL := Lib.hid hl
  have HLP := Lib.hid hLP
  have hlen6 : len ≤ 6 := by omega
  clear hc hco hall hok hown hx hl hLP
  go_enter Try.func74, Try.ntmps74
  go_wp2_with fail
  generalize w.alloc (.cells #[.int .i64 (P : Nat), .slice (some ⟨b, off, none⟩) l1 c1] 27) = W0 at *
  have HOW0 := Lib.hid (HOW.out.keep hb1.size fun k h1 h2 => hb1.block k (Nat.lt_of_lt_of_le h2 hhi))
  clear hb1
  go_loopw [6, 11] (fun s i wr => ∃ k : Nat, k ≤ len ∧ i = .int .i64 k ∧ s = .int .i64 (seenTo O k : Nat) ∧ Hid (wr.ownsRow lo 2 1 (.slice (some ⟨g, 0, none⟩) P cap) P ((moreTo A O P k).map (Value.int .i64))) ∧ Hid (Keeps lo hi W0 wr)) (fun _ i _ => len - (intOf i).toNat)
  case atStart => exact ⟨0, Nat.zero_le _, rfl, rfl, Lib.hid HOW0.out.2.2.2.2, Lib.hid (Keeps.refl _ _ _)⟩
  case round =>
    obtain ⟨k, hk, rfl, rfl, HR, HK⟩ := hrel
    have hsz := HK.out.size
    have hsz0 := HK0.out.size
    have hlr := HR.out.lt g rfl
    by_cases hlt : k < len
    · have hsrc : wr.cell? ⟨bo, oo + k, none⟩ = some (.int .i64 (O.getD k 0)) := by
        have h1 := HCO.out k hlt
        have hb1 := World.block_lt_of_cell? w ⟨bo, oo + k, none⟩ h1
        exact ((World.cell?_of_block (HK.out.block bo (Nat.lt_of_lt_of_le hb1 hsz0) (.inl hbo))).trans (World.cell?_of_block (HK0.out.block bo hb1 (.inl hbo)))).trans h1
      have hA : ∀ i, i < l1 → wr.cell? ⟨b, off + i, none⟩ = some (.int .i64 (A.getD i 0)) := fun i hi => by
        have h1 := HC.out i hi
        have hb1 := World.block_lt_of_cell? w ⟨b, off + i, none⟩ h1
        exact ((World.cell?_of_block (HK.out.block b (Nat.lt_of_lt_of_le hb1 hsz0) (.inl hb))).trans (World.cell?_of_block (HK0.out.block b hb1 (.inl hb)))).trans h1
      have hxw : Box2 wr w.heap.size 27 (.int .i64 (P : Nat)) (.slice (some ⟨b, off, none⟩) l1 c1) := (HK.out.block _ HX.out.lt (.inr hhi)).trans HX.out
      obtain ⟨q, hq, hqP, hbit, hnx⟩ := okAt_in (HOK.out k hlt)
      have hs1 : seenTo O k < l1 := by rw [HL.out]; exact seenTo_lt fun j hj => HOK.out j (by omega)
      have hs2 : seenTo O (k + 1) < l1 := by rw [HL.out]; exact seenTo_lt fun j hj => HOK.out j (by omega)
      have hz : (moreTo A O P k).getD q 0 = 0 := moreTo_zero (fun j hj => HOK.out j (by omega)) hbit
      have hdst : wr.cell? ⟨g, q, none⟩ = some (.int .i64 0) := by
        rw [HR.out.cellAt q (by omega), List.getElem?_map]
        have hl2 := moreTo_length A O P k
        rw [List.getD_eq_getElem?_getD, List.getElem?_eq_getElem (by omega)] at hz
        rw [List.getElem?_eq_getElem (by omega)]
        simp only [Option.getD_some] at hz
        rw [hz]
        rfl
      have hfz : wr.frozen? ⟨g, q, none⟩ = false := HR.out.frozenAt q
      have HM : Hid (moreTo A O P (k + 1) = (moreTo A O P k).set q (A.getD (seenTo O (k + 1)) 0 - A.getD (seenTo O k) 0)) := Lib.hid (by
        show (moreTo A O P k).set (O.getD k 0).toNat (moreAt A O k) = _
        rw [hq]; rfl)
      have g1 := Lib.hid (hA _ hs1)
      have g2 := Lib.hid (hA _ hs2)
      have a1 := HALL.out _ hs1
      have a2 := HALL.out _ hs2
      rw [hq] at hsrc
      have HNX := Lib.hid hnx
      have hq6 : q < 6 := by omega
      have h32 := pow_le32 hq6
      have e1 := bits_or6 (show seenTo O k < 64 by omega) (show 2 ^ q < 64 by omega)
      rw [← hnx] at e1
      have HS := Lib.hid (setOfN_any q (by omega))
      clear hq hnx hz hbit hA
      generalize A.getD (seenTo O k) 0 = v1 at *
      generalize A.getD (seenTo O (k + 1)) 0 = v2 at *
      obtain ⟨⟨x0, x1⟩, _⟩ := hxw.all
      have hbw := World.block_lt_of_cell? wr _ g1.out
      have HCL : Hid (∀ n, Calls Try.prog 98 #[.int .i64 (seenTo O k : Nat), .pointer (some ⟨wr.heap.size, 0, none⟩), .pointer (some ⟨wr.heap.size + 1, 0, none⟩)] (((wr.alloc (.cells #[.int .i64 (P : Nat), .slice (some ⟨b, off, none⟩) l1 c1] 27)).alloc (.cells #[.int .i64 (q : Nat)] 2)).drewN n)
          fun e w' => e = .returned (.int .i64 (v2 - v1)) ∧ Same (((wr.alloc (.cells #[.int .i64 (P : Nat), .slice (some ⟨b, off, none⟩) l1 c1] 27)).alloc (.cells #[.int .i64 (q : Nat)] 2)).drewN n) w') := Lib.hid fun n =>
        more1_at b off _ _ l1 c1 (seenTo O k) q (seenTo O (k + 1)) v1 v2 _ h64 hs1 hq6 hs2 HNX.out.symm
          (show Box2 ((wr.alloc (.cells #[.int .i64 (P : Nat), .slice (some ⟨b, off, none⟩) l1 c1] 27)).alloc (.cells #[.int .i64 (q : Nat)] 2)) wr.heap.size 27 (.int .i64 (P : Nat)) (.slice (some ⟨b, off, none⟩) l1 c1) from heap2a).c1
          (cell_of_row ((wr.alloc (.cells #[.int .i64 (P : Nat), .slice (some ⟨b, off, none⟩) l1 c1] 27)).alloc (.cells #[.int .i64 (q : Nat)] 2)) (wr.heap.size + 1) 0 _ 2 (0, 0) heap2b)
          ((below2.cell (p := ⟨b, off + seenTo O k, none⟩) hbw).trans g1.out) ((below2.cell (p := ⟨b, off + seenTo O (k + 1), none⟩) hbw).trans g2.out) a1 a2
      obtain ⟨a1, a3⟩ := a1
      obtain ⟨a2, a4⟩ := a2
      have hrow : ∀ n, (((wr.alloc (.cells #[.int .i64 (P : Nat), .slice (some ⟨b, off, none⟩) l1 c1] 27)).alloc (.cells #[.int .i64 (q : Nat)] 2)).drewN n).ownsRow lo 2 1 (.slice (some ⟨g, 0, none⟩) P cap) P ((moreTo A O P k).map (Value.int .i64)) := fun n =>
        ownsRow_block HR.out fun k hk => (below2 (w := wr)).block k (HR.out.lt k hk).2
      have HROW := Lib.hid fun n => (hrow n).stored q (.int .i64 (v2 - v1))
      have HKN : Hid (∀ n, Keeps lo hi W0 ((((wr.alloc (.cells #[.int .i64 (P : Nat), .slice (some ⟨b, off, none⟩) l1 c1] 27)).alloc (.cells #[.int .i64 (q : Nat)] 2)).drewN n).setCell ⟨g, q, none⟩ (.int .i64 (v2 - v1)))) := Lib.hid fun n =>
        (HK.out.trans (Keeps.of_below ((below2 (w := wr)).trans (same_below ⟨n, rfl⟩ _)))).trans ⟨rfl, rfl, rfl, by simp [World.setCell], fun j _ hj => Below.heap_setCell _ _ _ _ (by show j ≠ g; omega)⟩
      have HW : Hid (IntKind.i64.wrap (v2 - v1) = v2 - v1) := Lib.hid (by rw [IntKind.wrap_i64]; omega)
      have HOK2 : Hid (∀ j, j < k + 1 → okAt P O j = true) := Lib.hid fun j hj => HOK.out j (by omega)
      clear hxw g1 g2 hbw hrow HNX
      generalize (2 : Nat) ^ q = z at *
      go_wp2_with fail
      go_region_with (first
        | (go_at_call 79; refine (moreOf_any _ _ _ _ _ _).mono ?_; rintro e wm ⟨rfl, rfl⟩)
        | (go_at_call 98; refine (HCL.out 1).mono ?_; rintro e wn ⟨rfl, kk, rfl⟩))
      all_goals (
        rw [HW.out]
        go_wp2_with (go_at_call 60; refine (HS.out _).mono ?_; rintro e w2 ⟨rfl, rfl⟩)
        go_roundw
        case rel =>
          refine ⟨k + 1, by omega, by go_num, rfl, ?_, Lib.hid (HKN.out _)⟩
          have h := HROW.out (1 + kk)
          rw [HM.out, List.map_set]
          exact Lib.hid h.1
        case measure => simp [intOf]; omega)
    · obtain rfl : k = len := by omega
      have HEND : Hid (Own wr lo hi (some ⟨g, 0, none⟩) P cap (moreTo A O P P)) := Lib.hid (by
        have h := HR.out
        have hbig : ∀ z ∈ moreTo A O P k, Big z := moreTo_big (P := P) (by rw [hlen]; exact HALL.out) (fun j hj => HOK.out j hj) (by rw [hlen]; exact HL.out)
        rw [HLP.out] at h hbig
        exact ⟨moreTo_length _ _ _ _, hbig, Nat.le_trans hhi (Nat.le_trans hsz0 hsz), fun x hx => by cases hx; exact hgh, h⟩)
      go_wp2_with fail
      go_end0
      exact ⟨⟨_, rfl⟩, HEND.out, HK0.out.trans HK.out⟩
end Go.Proofs.Ytnlknofcdapalaa
