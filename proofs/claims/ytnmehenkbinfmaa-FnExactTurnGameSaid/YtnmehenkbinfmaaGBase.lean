/-
  The laws' own small functions on slices of int64: sizes, copies, comparisons, marks.
-/
import Derived.Test.YtnmehenkbinfmaaInts
import Derived.BigQuiet
import Derived.Handy
import Derived.Deep.QuietTactic
namespace Go.Proofs.Ytnmehenkbinfmaa
open Go.RowKit Go.ChangeShapes Go.WideShapes

def leftOf (left : Int) (len : Nat) : Int := if (len : Int) ≤ left then left - len else -1

theorem sz_any (a : Option Addr) (len cap : Nat) (left : Int) (h : len ≤ maxLen) (h0 : 0 ≤ left) (hl : left ≤ 1048576) (w : World) :
    Calls Try.prog 69 #[.slice a len cap, .int .i64 left] w fun e w' => e = .returned (.int .i64 (leftOf left len)) ∧ w = w' := by
  unfold maxLen at h
  unfold leftOf
  by_cases g : (len : Int) ≤ left
  · rw [if_pos g]
    go_enter Try.func69, Try.ntmps69
    go_wp2
    go_ret
    exact ⟨rfl, rfl⟩
  · rw [if_neg g]
    go_enter Try.func69, Try.ntmps69
    go_wp2
    go_ret
    exact ⟨rfl, rfl⟩

/-- a copy: a new row of its own -/
def CopiedI (w : World) (len : Nat) (zs : List Int) (e : Ending) (w' : World) : Prop :=
  ∃ g, e = .returned (.slice (some ⟨g, 0, none⟩) len len) ∧ Own w' w.heap.size w'.heap.size (some ⟨g, 0, none⟩) len len zs ∧ Below w.heap.size w w'

theorem copy_at (b off len cap : Nat) (zs : List Int) (w : World) (hl : len ≤ 1048576) (hz : zs.length = len) (hlt : ∀ x ∈ zs, Big x) (hb : b < w.heap.size)
    (hc : ∀ i, i < len → w.cell? ⟨b, off + i, none⟩ = some (.int .i64 (zs.getD i 0))) :
    Calls Try.prog 30 #[.slice (some ⟨b, off, none⟩) len cap] w (CopiedI w len zs) := by
  obtain ⟨i0, hi, hz0, hz1, hz2⟩ := info_parts (P := Try.prog) (e := 2) (z := .int .i64 0) (size := 1) (bytes := 8) (by kernel_rfl)
  have HC := Lib.hid hc
  have HL := Lib.hid hlt
  clear hc hlt
  go_enter Try.func30, Try.ntmps30
  go_wp2_with (at_make; refine wpList_make_full _ rfl _ _ 22 rfl w.heap.size 2 i0 (.int .i64 0) 1 Try.underlying22 hi hz0 hz1 .i64 .i64 _ _ len rfl rfl (by first | rfl | omega) (by first | rfl | omega) (by rw [hz2]; omega) (by unfold maxLen; omega) (Nat.le_refl _) ?_; intro w1 hown1 hgrow1)
  have hown1' : w1.ownsRow w.heap.size 2 1 (.slice (some ⟨w.heap.size, 0, none⟩) len len) len ((zs.take 0).map (Value.int .i64) ++ List.replicate (len - 0) (.int .i64 0)) := by
    have e : (madeCells (Value.int .i64 0).cells (len * 1)).toList = List.replicate len (.int .i64 0) := by
      rw [Nat.mul_one]; exact toList_madeCells_one _ _
    rw [e] at hown1
    simpa using hown1
  have hb1 : Below w.heap.size w w1 := (Below.refl _ _).grown hgrow1 (Nat.le_refl _) (fun k h => by cases h)
  clear hown1 hgrow1
  go_loopw [4] (fun i wr => ∃ k : Nat, k ≤ len ∧ i = .int .i64 k ∧ wr.ownsRow w.heap.size 2 1 (.slice (some ⟨w.heap.size, 0, none⟩) len len) len ((zs.take k).map (Value.int .i64) ++ List.replicate (len - k) (.int .i64 0)) ∧ Below w.heap.size w wr)
    (fun i _ => len - (intOf i).toNat)
  case atStart => exact ⟨0, Nat.zero_le _, rfl, hown1', hb1⟩
  case round =>
    obtain ⟨k, hk, rfl, hown, hbw⟩ := hrel
    clear hown1' hb1
    by_cases hlt : k < len
    · have hsrc : wr.cell? ⟨b, off + k, none⟩ = some (.int .i64 (zs.getD k 0)) := (hbw.cell (p := ⟨b, off + k, none⟩) hb).trans (HC.out k hlt)
      have hdst : wr.cell? ⟨w.heap.size, k, none⟩ = some (.int .i64 0) := (hown.cellAt k (by omega)).trans (by
        have hl : ((zs.take k).map (Value.int .i64)).length = k := by simp; omega
        rw [List.getElem?_append_right (by omega), hl, Nat.sub_self, List.getElem?_replicate, if_pos (by omega)])
      have hfz : wr.frozen? ⟨w.heap.size, k, none⟩ = false := hown.frozenAt k
      have HST := Lib.hid (hown.stored k (.int .i64 (zs.getD k 0)))
      have HB := Lib.hid hbw
      clear hown hbw
      generalize hv : zs.getD k 0 = v at *
      have HV := Lib.hid hv
      clear hv
      go_wp2
      go_roundw
      case rel =>
        refine ⟨k + 1, by omega, by go_num, ?_, HB.out.setCell (Nat.le_refl _) _⟩
        have := HST.out.1
        rw [← HV.out, fill_int zs len k hz hlt] at this
        rw [← HV.out]
        exact this
      case measure => simp [intOf]; omega
    · obtain rfl : k = len := by omega
      have HO := Lib.hid hown
      have HB := Lib.hid hbw
      clear hown hbw
      go_wp2
      go_ret
      refine ⟨w.heap.size, rfl, ⟨hz, HL.out, Nat.le_refl _, fun x hx => by cases hx; exact (HO.out.lt _ rfl).2, ?_⟩, HB.out⟩
      have := HO.out
      rw [List.take_of_length_le (by omega), Nat.sub_self, List.replicate_zero, List.append_nil] at this
      exact this

theorem copy_none (a : Option Addr) (cap : Nat) (w : World) :
    Calls Try.prog 30 #[.slice a 0 cap] w (CopiedI w 0 []) := by
  obtain ⟨i0, hi, hz0, hz1, hz2⟩ := info_parts (P := Try.prog) (e := 2) (z := .int .i64 0) (size := 1) (bytes := 8) (by kernel_rfl)
  go_enter Try.func30, Try.ntmps30
  go_wp2_with (at_make; refine wpList_make_full _ rfl _ _ 22 rfl w.heap.size 2 i0 (.int .i64 0) 1 Try.underlying22 hi hz0 hz1 .i64 .i64 _ _ 0 rfl rfl (by first | rfl | omega) (by first | rfl | omega) (by rw [hz2]; omega) (by unfold maxLen; omega) (Nat.le_refl _) ?_; intro w1 hown1 hgrow1)
  have HO := Lib.hid hown1
  have HB := Lib.hid ((Below.refl w.heap.size w).grown hgrow1 (Nat.le_refl _) (fun k h => by cases h))
  clear hown1 hgrow1
  go_loopw [4] (fun i wr => i = .int .i64 0 ∧ wr = w1) (fun _ _ => 0)
  case atStart => exact ⟨rfl, rfl⟩
  case round =>
    obtain ⟨rfl, rfl⟩ := hrel
    go_wp2
    go_ret
    exact ⟨w.heap.size, rfl, ⟨rfl, by simp, Nat.le_refl _, fun x hx => by cases hx; exact (HO.out.lt _ rfl).2, by simpa [madeCells] using HO.out⟩, HB.out⟩

theorem copy_any (a : Option Addr) (len cap : Nat) (zs : List Int) (w : World) (hl : len ≤ 1048576) (h : IAt w a len zs) :
    Calls Try.prog 30 #[.slice a len cap] w (CopiedI w len zs) := by
  obtain ⟨h1, h2, h3, rfl | ⟨b, off, rfl, hb, hc⟩⟩ := h
  · obtain rfl := List.eq_nil_of_length_eq_zero h1
    exact copy_none a cap w
  · exact copy_at b off len cap zs w hl h1 h3 hb hc

/-- what is left behind is as it was, but for draws -/
def Same (w : World) (w' : World) : Prop := ∃ n, w' = w.drewN n
def Yes (w : World) (e : Ending) (w' : World) : Prop := e = .returned (.bool true) ∧ Same w w'

theorem eq_at (b off b' off' len cap cap' : Nat) (zs : List Int) (w : World) (hl : len ≤ maxLen)
    (hc : ∀ i, i < len → w.cell? ⟨b, off + i, none⟩ = some (.int .i64 (zs.getD i 0))) (hc' : ∀ i, i < len → w.cell? ⟨b', off' + i, none⟩ = some (.int .i64 (zs.getD i 0))) :
    Calls Try.prog 32 #[.slice (some ⟨b, off, none⟩) len cap, .slice (some ⟨b', off', none⟩) len cap'] w (Yes w) := by
  have HC := Lib.hid hc
  have HC' := Lib.hid hc'
  clear hc hc'
  unfold maxLen at hl
  go_enter Try.func32, Try.ntmps32
  go_wp2
  go_loopw [5] (fun i wr => ∃ k m : Nat, k ≤ len ∧ i = .int .i64 k ∧ wr = w.drewN m) (fun i _ => len - (intOf i).toNat)
  case atStart => exact ⟨0, 0, Nat.zero_le _, rfl, rfl⟩
  case round =>
    obtain ⟨k, m, hk, rfl, hw⟩ := hrel
    have HW := Lib.hid hw
    clear hw
    by_cases hlt : k < len
    · have hsrc : wr.cell? ⟨b, off + k, none⟩ = some (.int .i64 (zs.getD k 0)) := by rw [HW.out]; exact HC.out k hlt
      have hsrc' : wr.cell? ⟨b', off' + k, none⟩ = some (.int .i64 (zs.getD k 0)) := by rw [HW.out]; exact HC'.out k hlt
      generalize zs.getD k 0 = v at *
      go_wp2
      go_quiet (fail)
      go_wp2
      go_roundw
      case rel => exact ⟨k + 1, m + nq, by omega, by go_num, by rw [HW.out]; exact World.drewN_drewN _ _ _⟩
      case measure => simp [intOf]; omega
    · obtain rfl : k = len := by omega
      go_wp2
      go_ret
      exact ⟨rfl, m, HW.out⟩

theorem eq_none (a a' : Option Addr) (cap cap' : Nat) (w : World) :
    Calls Try.prog 32 #[.slice a 0 cap, .slice a' 0 cap'] w (Yes w) := by
  go_enter Try.func32, Try.ntmps32
  go_wp2
  go_loop [5] (fun i => i = .int .i64 0) (fun _ => 0)
  case atStart => exact rfl
  case round =>
    obtain rfl := hrel
    go_wp2
    go_ret
    exact ⟨rfl, 0, rfl⟩

theorem eq_any (a a' : Option Addr) (len cap cap' : Nat) (zs : List Int) (w : World) (h : IAt w a len zs) (h' : IAt w a' len zs) :
    Calls Try.prog 32 #[.slice a len cap, .slice a' len cap'] w (Yes w) := by
  obtain ⟨_, hm, _, e | ⟨b, off, rfl, _, hc⟩⟩ := h
  · subst e; exact eq_none a a' cap cap' w
  · obtain ⟨_, _, _, e | ⟨b', off', rfl, _, hc'⟩⟩ := h'
    · subst e; exact eq_none _ a' cap cap' w
    · exact eq_at b off b' off' len cap cap' zs w hm hc hc'

/-- k, k + 1, .. -/
def markL (k : Int) (n : Nat) : List Int := (List.range n).map fun i : Nat => k + (i : Int)
theorem markL_length (k : Int) (n : Nat) : (markL k n).length = n := by simp [markL]
theorem markL_getD (k : Int) {n i : Nat} (h : i < n) : (markL k n).getD i 0 = k + i := by simp [markL, List.getD, h]
theorem markL_big {k : Int} {n : Nat} (h0 : 0 ≤ k) (h1 : k + n ≤ 9223372036854775807) : ∀ z ∈ markL k n, Big z := by
  intro z hz
  simp only [markL, List.mem_map, List.mem_range] at hz
  obtain ⟨i, hi, rfl⟩ := hz
  exact ⟨by omega, by omega⟩
theorem mark_step (k : Int) (n : Nat) (zs : List Int) (hn : n < zs.length) :
    (((markL k n) ++ zs.drop n).map (Value.int .i64)).set n (Value.int .i64 (k + n)) = ((markL k (n + 1)) ++ zs.drop (n + 1)).map (Value.int .i64) := by
  have hl : (markL k n).length = n := markL_length k n
  have e : zs.drop n = zs[n] :: zs.drop (n + 1) := List.drop_eq_getElem_cons hn
  rw [e, List.map_append, List.set_append_right _ _ (by simp [hl]), List.length_map, hl, Nat.sub_self, List.map_cons, List.set_cons_zero]
  simp [markL, List.range_succ]

def Marked (w : World) (lo hi : Nat) (a : Option Addr) (len cap : Nat) (k : Int) (e : Ending) (w' : World) : Prop :=
  e = .returned (.int .i64 (k + len)) ∧ Own w' lo hi a len cap (markL k len) ∧ Keeps lo hi w w' ∧ w'.heap.size = w.heap.size

theorem mark_at (g lo hi len cap : Nat) (zs : List Int) (k0 : Int) (w : World) (hk0 : 0 ≤ k0) (hk1 : k0 + len ≤ 4194304) (h : Own w lo hi (some ⟨g, 0, none⟩) len cap zs) :
    Calls Try.prog 33 #[.slice (some ⟨g, 0, none⟩) len cap, .int .i64 k0] w (Marked w lo hi (some ⟨g, 0, none⟩) len cap k0) := by
  obtain ⟨hz, _, hhi, hgh, hown⟩ := h
  have hg : g < hi := hgh _ rfl
  have hglo : lo ≤ g := (hown.lt g rfl).1
  have HO := Lib.hid hown
  clear hown hgh
  go_enter Try.func33, Try.ntmps33
  go_wp2
  go_loopw [1, 5] (fun q i wr => ∃ n : Nat, n ≤ len ∧ i = .int .i64 n ∧ q = .int .i64 (k0 + n) ∧ Hid (wr.ownsRow lo 2 1 (.slice (some ⟨g, 0, none⟩) len cap) len (((markL k0 n) ++ zs.drop n).map (Value.int .i64))) ∧ Hid (Keeps lo hi w wr) ∧ Hid (wr.heap.size = w.heap.size))
    (fun _ i _ => len - (intOf i).toNat)
  case atStart => exact ⟨0, Nat.zero_le _, rfl, by simp, Lib.hid (by simpa [markL] using HO.out), Lib.hid (Keeps.refl _ _ _), Lib.hid rfl⟩
  case round =>
    obtain ⟨n, hn, rfl, rfl, HR, HK, HS⟩ := hrel
    by_cases hlt : n < len
    · obtain ⟨v, hdst⟩ : ∃ v, wr.cell? ⟨g, n, none⟩ = some (.int .i64 v) := by
        have h1 := HR.out.cellAt n (by omega)
        have h2 := HR.out.1
        rw [List.getElem?_eq_getElem (by omega)] at h1
        rw [List.getElem_map] at h1
        exact ⟨_, h1⟩
      have hfz : wr.frozen? ⟨g, n, none⟩ = false := HR.out.frozenAt n
      have HST := Lib.hid (HR.out.stored n (.int .i64 (k0 + n)))
      go_wp2
      go_roundw
      case rel =>
        refine ⟨n + 1, by omega, by go_num, by congr 1; omega, ?_, ?_, ?_⟩
        · have := HST.out.1
          rw [mark_step k0 n zs (by omega)] at this
          exact Lib.hid this
        · refine Lib.hid (HK.out.trans ⟨rfl, rfl, rfl, by simp [World.setCell], fun j _ hj => Below.heap_setCell _ _ _ _ ?_⟩)
          show j ≠ g
          omega
        · have := HS.out
          exact Lib.hid (by simpa [World.setCell] using this)
      case measure => simp [intOf]; omega
    · obtain rfl : n = len := by omega
      go_wp2
      go_ret
      refine ⟨rfl, ⟨markL_length _ _, markL_big hk0 (by omega), by have := HS.out; omega, fun x hx => by cases hx; exact hg, ?_⟩, HK.out, HS.out⟩
      have := HR.out
      rw [List.drop_of_length_le (by omega), List.append_nil] at this
      exact this

theorem mark_none (lo hi : Nat) (a : Option Addr) (cap : Nat) (k0 : Int) (w : World) (h : Own w lo hi a 0 cap []) :
    Calls Try.prog 33 #[.slice a 0 cap, .int .i64 k0] w (Marked w lo hi a 0 cap k0) := by
  have H := Lib.hid h
  clear h
  go_enter Try.func33, Try.ntmps33
  go_wp2
  go_loop [1, 5] (fun q i => q = .int .i64 k0 ∧ i = .int .i64 0) (fun _ _ => 0)
  case atStart => exact ⟨rfl, rfl⟩
  case round =>
    obtain ⟨rfl, rfl⟩ := hrel
    go_wp2
    go_ret
    exact ⟨by simp, by simpa [markL] using H.out, Keeps.refl _ _ _, rfl⟩

theorem mark_any (lo hi : Nat) (a : Option Addr) (len cap : Nat) (zs : List Int) (k0 : Int) (w : World) (hk0 : 0 ≤ k0) (hk1 : k0 + len ≤ 4194304) (h : Own w lo hi a len cap zs) :
    Calls Try.prog 33 #[.slice a len cap, .int .i64 k0] w (Marked w lo hi a len cap k0) := by
  by_cases h0 : len = 0
  · subst h0
    obtain rfl := List.eq_nil_of_length_eq_zero h.1
    exact mark_none lo hi a cap k0 w h
  · rcases h.2.2.2.2.2 with ⟨_, e⟩ | ⟨g, cap', cur, e, _⟩
    · exact absurd e h0
    · simp only [Value.slice.injEq, true_and] at e
      obtain ⟨rfl, rfl⟩ := e
      exact mark_at g lo hi len cap zs k0 w hk0 hk1 h

def Held (w : World) (k : Int) (len : Nat) (e : Ending) (w' : World) : Prop := e = .returned (.int .i64 (k + len)) ∧ Same w w'

theorem held_at (b off len cap : Nat) (k0 : Int) (w : World) (hk0 : 0 ≤ k0) (hk1 : k0 + len ≤ 4194304)
    (hc : ∀ i, i < len → w.cell? ⟨b, off + i, none⟩ = some (.int .i64 (k0 + i))) :
    Calls Try.prog 44 #[.slice (some ⟨b, off, none⟩) len cap, .int .i64 k0] w (Held w k0 len) := by
  have HC := Lib.hid hc
  clear hc
  go_enter Try.func44, Try.ntmps44
  go_wp2
  go_loop [1, 5] (fun q i => ∃ n : Nat, n ≤ len ∧ i = .int .i64 n ∧ q = .int .i64 (k0 + n)) (fun _ i => len - (intOf i).toNat)
  case atStart => exact ⟨0, Nat.zero_le _, rfl, by simp⟩
  case round =>
    obtain ⟨n, hn, rfl, rfl⟩ := hrel
    by_cases hlt : n < len
    · have hsrc := HC.out n hlt
      go_wp2
      go_round
      case rel => exact ⟨n + 1, by omega, by go_num, by congr 1; omega⟩
      case measure => simp [intOf]; omega
    · obtain rfl : n = len := by omega
      go_wp2
      go_ret
      exact ⟨rfl, 0, rfl⟩

theorem held_none (a : Option Addr) (cap : Nat) (k0 : Int) (w : World) :
    Calls Try.prog 44 #[.slice a 0 cap, .int .i64 k0] w (Held w k0 0) := by
  go_enter Try.func44, Try.ntmps44
  go_wp2
  go_loop [1, 5] (fun q i => q = .int .i64 k0 ∧ i = .int .i64 0) (fun _ _ => 0)
  case atStart => exact ⟨rfl, rfl⟩
  case round =>
    obtain ⟨rfl, rfl⟩ := hrel
    go_wp2
    go_ret
    exact ⟨by simp, 0, rfl⟩

theorem held_any (a : Option Addr) (len cap : Nat) (k0 : Int) (w : World) (hk0 : 0 ≤ k0) (hk1 : k0 + len ≤ 4194304) (h : IAt w a len (markL k0 len)) :
    Calls Try.prog 44 #[.slice a len cap, .int .i64 k0] w (Held w k0 len) := by
  obtain ⟨_, hm, _, e | ⟨b, off, rfl, _, hc⟩⟩ := h
  · subst e; exact held_none a cap k0 w
  · exact held_at b off len cap k0 w hk0 hk1 fun i hi => by rw [hc i hi, markL_getD k0 hi]
end Go.Proofs.Ytnmehenkbinfmaa
