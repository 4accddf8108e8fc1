/-
  The laws' own small functions on slices of slices of int64: sizes, copies, comparisons, marks.
-/
import Derived.Test.YtklnflmdbgdgjaaSS
import Derived.Deep.Matrix
namespace Go.Proofs.Ytklnflmdbgdgjaa
open Go.RowKit Go.ChangeShapes Go.WideShapes
set_option linter.unusedVariables false

theorem below_of_eq {w w' : World} (h : w = w') : Below w.heap.size w w' := by subst h; exact Below.refl _ _

/-- a slice of slices that came in, read as the walks are told of it -/
theorem open_rat {H : Type} {enc : TypeId × Value → H} {w : World} {base : Nat} {held : Bool} {fuel : Nat} {cs : List Value} {x : DataW H × List MemPlace}
    (h : DataW.trod enc Try.prog w base (fun _ => true) held fuel 22 cs = some x) : ∃ a len cap Zs, cs = [.slice a len cap] ∧ RAt w a len Zs := by
  rcases Go.Deep.open_int_rows Try.underlying22 Try.underlying35 Try.underlying2 (by kernel_rfl) (by kernel_rfl) h with ⟨hcs, _⟩ | ⟨a, len, cap, A, L, C, Z, hcs, hb, hl, hm, _, hr⟩
  · exact ⟨none, 0, 0, [], hcs, rfl, Nat.zero_le _, .inl rfl⟩
  · refine ⟨some a, len, cap, (List.range len).map fun r => (Z r).take (L r), hcs, by simp, by omega, ?_⟩
    by_cases h0 : len = 0
    · exact .inl h0
    · obtain ⟨b, off, spot⟩ := a
      have hspot : spot = none := by simpa [Addr.add] using World.cell?_spot (hr 0 (by omega)).1
      subst hspot
      have cell : ∀ i, i < len → w.cell? ⟨b, off + i, none⟩ = some (.slice (A i) (L i) (C i)) := fun i hi => by rw [← Go.WideShapes.add_plain]; exact (hr i (by omega)).1
      refine .inr ⟨b, off, rfl, World.block_lt_of_cell? w ⟨b, off + 0, none⟩ (cell 0 (by omega)), fun i hi => ?_⟩
      obtain ⟨h1, h2, h3, h4, h5, h6, h7⟩ := hr i (by omega)
      have hz : ((List.range len).map fun r => (Z r).take (L r)).getD i [] = (Z i).take (L i) := by simp [List.getD, hi]
      have hle : rl ((List.range len).map fun r => (Z r).take (L r)) i = L i := by
        unfold rl
        rw [hz, List.length_take, h4]
        omega
      have h6' := h6
      refine ⟨A i, C i, by rw [hle]; exact cell i hi, by rw [hle]; exact ⟨h2, h6'⟩, ?_⟩
      rw [hle, hz]
      refine ⟨by rw [List.length_take, h4]; omega, by omega, fun z hz => big_of_wf (h5 z (List.mem_of_mem_take hz)), ?_⟩
      by_cases hL : L i = 0
      · exact .inl hL
      · cases hA : A i with
        | none => have := h6 hA; omega
        | some ad =>
          obtain ⟨_, hcell⟩ := h7 ad hA
          obtain ⟨b', off', e, hc⟩ := ints_at (w := w) (a := ad) (k := .i64) (zs := Z i) (fun c hc => hcell c (by omega)) (by omega)
          subst e
          refine .inr ⟨b', off', rfl, World.block_lt_of_cell? w ⟨b', off' + 0, none⟩ (hc 0 (by omega)), fun j hj => ?_⟩
          rw [hc j (by omega)]
          simp [List.getD, hj]

theorem szR_at (b off len cap : Nat) (Zs : List (List Int)) (left : Int) (w : World) (hL : Zs.length = len) (hm : len ≤ maxLen) (h0 : 0 ≤ left) (hl : left ≤ 1048576)
    (hr : ∀ i, i < len → ∃ ai ci, w.cell? ⟨b, off + i, none⟩ = some (.slice ai (rl Zs i) ci) ∧ Fits ai (rl Zs i) ci ∧ IAt w ai (rl Zs i) (Zs.getD i [])) :
    Calls Try.prog 22 #[.slice (some ⟨b, off, none⟩) len cap, .int .i64 left] w fun e w' => e = .returned (.int .i64 (leftOf left (len + tot Zs))) ∧ w = w' := by
  have HR := Lib.hid hr
  clear hr
  unfold maxLen at hm
  by_cases g : (len : Int) ≤ left
  · have hx : ∃ x : Int, x = left - len := ⟨_, rfl⟩
    obtain ⟨x, hx⟩ := hx
    have x0 : 0 ≤ x := by omega
    have x1 : x ≤ 1048576 := by omega
    have HX := Lib.hid hx
    clear hx
    go_enter Try.func22, Try.ntmps22
    go_wp2
    go_loop [1, 5] (fun q i => ∃ (k : Nat) (y : Int), k ≤ len ∧ i = .int .i64 k ∧ q = .int .i64 y ∧ 0 ≤ y ∧ y ≤ 1048576 ∧ Hid (y = left - len - (pre Zs k : Nat))) (fun _ i => len - (intOf i).toNat)
    case atStart => exact ⟨0, left - len, Nat.zero_le _, rfl, rfl, by omega, by omega, Lib.hid (by rw [pre_zero]; omega)⟩
    case round =>
      obtain ⟨k, y, hk, rfl, rfl, y0, y1, HY⟩ := hrel
      by_cases hlt : k < len
      · obtain ⟨ai, ci, hsrc, hle, hz⟩ := HR.out k hlt
        have hzm := hz.2.1
        have HP := Lib.hid (pre_succ Zs k (by omega))
        have HQ := Lib.hid (pre_le Zs (k + 1))
        clear hz hle
        generalize hgl : rl Zs k = l at *
        have HGL := Lib.hid hgl
        clear hgl
        by_cases gl : (l : Int) ≤ y
        · have HS := Lib.hid (leftOf_yes gl)
          obtain ⟨z, hz⟩ : ∃ z : Int, z = y - l := ⟨_, rfl⟩
          have z0 : 0 ≤ z := by omega
          have z1 : z ≤ 1048576 := by omega
          have HZ := Lib.hid hz
          clear hz gl
          go_wp2_with fail
          refine (sz_any ai l ci y hzm y0 y1 _).mono ?_
          rintro e w' ⟨rfl, rfl⟩
          rw [HS.out, ← HZ.out]
          go_wp2
          go_round
          case rel => exact ⟨k + 1, z, by omega, by go_num, rfl, z0, z1, Lib.hid (by have := HP.out; have := HY.out; have := HZ.out; omega)⟩
          case measure => simp [intOf]; omega
        · have HS := Lib.hid (leftOf_no gl)
          have HE := Lib.hid (leftOf_no (left := left) (l := len + tot Zs) (by have := HP.out; have := HY.out; have := HQ.out; omega))
          clear gl
          go_wp2_with fail
          refine (sz_any ai l ci y hzm y0 y1 _).mono ?_
          rintro e w' ⟨rfl, rfl⟩
          rw [HS.out]
          go_wp2
          go_ret
          exact ⟨by rw [HE.out]; rfl, rfl⟩
      · obtain rfl : k = len := by omega
        have HE := Lib.hid (leftOf_yes (left := left) (l := k + tot Zs) (by have := HY.out; have := pre_end Zs; rw [hL] at this; omega))
        have HV := Lib.hid (show y = left - ((k + tot Zs : Nat) : Int) by have := HY.out; have := pre_end Zs; rw [hL] at this; omega)
        clear hL
        go_wp2
        go_ret
        exact ⟨by rw [HE.out, HV.out]; rfl, rfl⟩
  · have HE := Lib.hid (leftOf_no (left := left) (l := len + tot Zs) (by omega))
    rw [HE.out]
    go_enter Try.func22, Try.ntmps22
    go_wp2
    go_ret
    exact ⟨rfl, rfl⟩

theorem szR_none (a : Option Addr) (cap : Nat) (left : Int) (w : World) (h0 : 0 ≤ left) (hl : left ≤ 1048576) :
    Calls Try.prog 22 #[.slice a 0 cap, .int .i64 left] w fun e w' => e = .returned (.int .i64 (leftOf left (0 + tot []))) ∧ w = w' := by
  have e : leftOf left (0 + tot []) = left := by unfold leftOf; rw [if_pos (by simp [tot, pre]; exact h0)]; simp [tot, pre]
  have HE := Lib.hid e
  clear e
  rw [HE.out]
  go_enter Try.func22, Try.ntmps22
  go_wp2
  go_loop [1, 5] (fun q i => q = .int .i64 left ∧ i = .int .i64 0) (fun _ _ => 0)
  case atStart => exact ⟨by simp, rfl⟩
  case round =>
    obtain ⟨rfl, rfl⟩ := hrel
    go_wp2
    go_ret
    exact ⟨rfl, rfl⟩

theorem szR_any (a : Option Addr) (len cap : Nat) (Zs : List (List Int)) (left : Int) (w : World) (h0 : 0 ≤ left) (hl : left ≤ 1048576) (h : RAt w a len Zs) :
    Calls Try.prog 22 #[.slice a len cap, .int .i64 left] w fun e w' => e = .returned (.int .i64 (leftOf left (len + tot Zs))) ∧ w = w' := by
  obtain ⟨h1, h2, rfl | ⟨b, off, rfl, hb, hr⟩⟩ := h
  · obtain rfl := List.eq_nil_of_length_eq_zero h1
    exact szR_none a cap left w h0 hl
  · exact szR_at b off len cap Zs left w h1 h2 h0 hl hr

/-! ## comparisons -/
theorem eqR_at (b off b' off' len cap cap' : Nat) (Zs : List (List Int)) (w : World) (hm : len ≤ maxLen)
    (hr : ∀ i, i < len → ∃ ai ci, w.cell? ⟨b, off + i, none⟩ = some (.slice ai (rl Zs i) ci) ∧ Fits ai (rl Zs i) ci ∧ IAt w ai (rl Zs i) (Zs.getD i []))
    (hr' : ∀ i, i < len → ∃ ai ci, w.cell? ⟨b', off' + i, none⟩ = some (.slice ai (rl Zs i) ci) ∧ Fits ai (rl Zs i) ci ∧ IAt w ai (rl Zs i) (Zs.getD i [])) :
    Calls Try.prog 28 #[.slice (some ⟨b, off, none⟩) len cap, .slice (some ⟨b', off', none⟩) len cap'] w (Yes w) := by
  have HR := Lib.hid hr
  have HR' := Lib.hid hr'
  clear hr hr'
  unfold maxLen at hm
  go_enter Try.func28, Try.ntmps28
  go_wp2
  go_loopw [5] (fun i wr => ∃ k m : Nat, k ≤ len ∧ i = .int .i64 k ∧ wr = w.drewN m) (fun i _ => len - (intOf i).toNat)
  case atStart => exact ⟨0, 0, Nat.zero_le _, rfl, rfl⟩
  case round =>
    obtain ⟨k, m, hk, rfl, hw⟩ := hrel
    have HW := Lib.hid hw
    clear hw
    by_cases hlt : k < len
    · obtain ⟨ai, ci, hs, _, hz⟩ := HR.out k hlt
      obtain ⟨ai', ci', hs', _, hz'⟩ := HR'.out k hlt
      have hsrc : wr.cell? ⟨b, off + k, none⟩ = some (.slice ai (rl Zs k) ci) := by rw [HW.out]; exact hs
      have hsrc' : wr.cell? ⟨b', off' + k, none⟩ = some (.slice ai' (rl Zs k) ci') := by rw [HW.out]; exact hs'
      have HZ : Hid (IAt wr ai (rl Zs k) (Zs.getD k [])) := Lib.hid (by rw [HW.out]; exact hz.below (same_below ⟨m, rfl⟩ _))
      have HZ' : Hid (IAt wr ai' (rl Zs k) (Zs.getD k [])) := Lib.hid (by rw [HW.out]; exact hz'.below (same_below ⟨m, rfl⟩ _))
      clear hs hs' hz hz'
      generalize Zs.getD k [] = Z at *
      generalize rl Zs k = l at *
      go_wp2
      go_quiet ((go_at_call 21; refine (eq_any ai ai' l ci ci' Z _ (HZ.out.below (same_below ⟨_, rfl⟩ _)) (HZ'.out.below (same_below ⟨_, rfl⟩ _))).mono ?_; rintro e w2 ⟨rfl, n2, rfl⟩; exact ⟨rfl, _, World.drewN_drewN _ _ _⟩))
      go_wp2
      go_roundw
      case rel => exact ⟨k + 1, m + nq, by omega, by go_num, by rw [HW.out]; exact World.drewN_drewN _ _ _⟩
      case measure => simp [intOf]; omega
    · obtain rfl : k = len := by omega
      go_wp2
      go_ret
      exact ⟨rfl, m, HW.out⟩

theorem eqR_none (a a' : Option Addr) (cap cap' : Nat) (w : World) :
    Calls Try.prog 28 #[.slice a 0 cap, .slice a' 0 cap'] w (Yes w) := by
  go_enter Try.func28, Try.ntmps28
  go_wp2
  go_loop [5] (fun i => i = .int .i64 0) (fun _ => 0)
  case atStart => exact rfl
  case round =>
    obtain rfl := hrel
    go_wp2
    go_ret
    exact ⟨rfl, 0, rfl⟩

theorem eqR_any (a a' : Option Addr) (len cap cap' : Nat) (Zs : List (List Int)) (w : World) (h : RAt w a len Zs) (h' : RAt w a' len Zs) :
    Calls Try.prog 28 #[.slice a len cap, .slice a' len cap'] w fun e w' => e = .returned (.bool true) ∧ Below w.heap.size w w' := by
  have hx : Calls Try.prog 28 #[.slice a len cap, .slice a' len cap'] w (Yes w) := by
    obtain ⟨_, hm, e | ⟨b, off, rfl, _, hc⟩⟩ := h
    · subst e; exact eqR_none a a' cap cap' w
    · obtain ⟨_, _, e | ⟨b', off', rfl, _, hc'⟩⟩ := h'
      · subst e; exact eqR_none _ a' cap cap' w
      · exact eqR_at b off b' off' len cap cap' Zs w hm hc hc'
  exact hx.mono fun _ _ ⟨h1, h2⟩ => ⟨h1, same_below h2 _⟩

/-! ## copies -/
def CopiedR (w : World) (len : Nat) (Zs : List (List Int)) (e : Ending) (w' : World) : Prop :=
  ∃ g, e = .returned (.slice (some ⟨g, 0, none⟩) len len) ∧ OwnR w' w.heap.size w'.heap.size (some ⟨g, 0, none⟩) len len Zs ∧ Below w.heap.size w w'

theorem fill_slice (V : List Value) (len k : Nat) (v z : Value) (h : V.length = k) (hk : k < len) :
    (V ++ List.replicate (len - k) z).set k v = (V ++ [v]) ++ List.replicate (len - (k + 1)) z := by
  have e1 : len - k = (len - (k + 1)) + 1 := by omega
  rw [List.set_append_right _ _ (by omega), h, Nat.sub_self, e1, List.replicate_succ, List.set_cons_zero, List.append_assoc]
  rfl

structure CRows (w : World) (len : Nat) (Zs : List (List Int)) (k : Nat) (wr : World) (V : List Value) (p q : Nat → Nat) (A : Nat → Option Addr) : Prop where
  vlen : V.length = k
  own : wr.ownsRow w.heap.size 35 1 (.slice (some ⟨w.heap.size, 0, none⟩) len len) len (V ++ List.replicate (len - k) (.slice none 0 0))
  rows : ∀ i, i < k → V[i]? = some (.slice (A i) (rl Zs i) (rl Zs i)) ∧ Own wr (p i) (q i) (A i) (rl Zs i) (rl Zs i) (Zs.getD i []) ∧ w.heap.size < p i
  apart : ∀ i j, i < j → j < k → q i ≤ p j
  below : Below w.heap.size w wr
  lt : w.heap.size < wr.heap.size

theorem CRows.step {w wr w2 : World} {len k : Nat} {Zs : List (List Int)} {V : List Value} {p q : Nat → Nat} {A : Nat → Option Addr} {g2 : Nat} (h : CRows w len Zs k wr V p q A) (hk : k < len)
    (o2 : Own w2 wr.heap.size w2.heap.size (some ⟨g2, 0, none⟩) (rl Zs k) (rl Zs k) (Zs.getD k [])) (b2 : Below wr.heap.size wr w2) :
    ∃ p' q' A', CRows w len Zs (k + 1) (w2.setCell ⟨w.heap.size, k, none⟩ (.slice (some ⟨g2, 0, none⟩) (rl Zs k) (rl Zs k))) (V ++ [.slice (some ⟨g2, 0, none⟩) (rl Zs k) (rl Zs k)]) p' q' A' := by
  obtain ⟨vlen, own, rows, apart, below, lt⟩ := h
  refine ⟨fun i => if i = k then wr.heap.size else p i, fun i => if i = k then w2.heap.size else q i, fun i => if i = k then some ⟨g2, 0, none⟩ else A i, by simp [vlen], ?_, ?_, ?_, ?_, ?_⟩
  · have := ((ownsRow_block own (w' := w2) (fun j hj => by cases hj; exact b2.block _ lt)).stored k (.slice (some ⟨g2, 0, none⟩) (rl Zs k) (rl Zs k))).1
    rw [fill_slice V len k _ _ vlen hk] at this
    exact this
  · intro i hi
    by_cases e : i = k
    · subst e
      simp only [if_true]
      refine ⟨by rw [List.getElem?_append_right (by omega), vlen, Nat.sub_self]; rfl, o2.far (.inl (by omega)), lt⟩
    · simp only [if_neg e]
      obtain ⟨r1, r2, r3⟩ := rows i (by omega)
      exact ⟨by rw [List.getElem?_append_left (by omega)]; exact r1, (r2.below b2).far (.inl r3), r3⟩
  · intro i j hij hj
    by_cases ei : i = k
    · omega
    · simp only [if_neg ei]
      obtain ⟨r1, r2, r3⟩ := rows i (by omega)
      by_cases ej : j = k
      · simp only [if_pos ej]; exact r2.2.2.1
      · simp only [if_neg ej]; exact apart i j hij (by omega)
  · exact (below_after below (Nat.le_refl _) b2).setCell (Nat.le_refl _) _
  · have := b2.size
    simp [World.setCell]
    omega

theorem CRows.done {w wr : World} {len : Nat} {Zs : List (List Int)} {V : List Value} {p q : Nat → Nat} {A : Nat → Option Addr} (h : CRows w len Zs len wr V p q A) (hL : Zs.length = len) (hm : len ≤ maxLen) :
    OwnR wr w.heap.size wr.heap.size (some ⟨w.heap.size, 0, none⟩) len len Zs := by
  obtain ⟨vlen, own, rows, apart, below, lt⟩ := h
  rw [Nat.sub_self, List.replicate_zero, List.append_nil] at own
  refine ⟨hL, hm, Nat.le_refl _, Nat.le_refl _, .inr ⟨w.heap.size, p, q, A, fun i => rl Zs i, rfl, Nat.le_refl _, lt, fun i hi => ?_, apart⟩⟩
  obtain ⟨r1, r2, r3⟩ := rows i hi
  exact ⟨(own.cellAt i (by omega)).trans r1, .inr r2, by omega, r2.2.2.1, .inl r3⟩

theorem copyR_at (b off len cap : Nat) (Zs : List (List Int)) (w : World) (hl : len ≤ 1048576) (hL : Zs.length = len) (hT : tot Zs ≤ 1048576) (hb : b < w.heap.size)
    (hr : ∀ i, i < len → ∃ ai ci, w.cell? ⟨b, off + i, none⟩ = some (.slice ai (rl Zs i) ci) ∧ Fits ai (rl Zs i) ci ∧ IAt w ai (rl Zs i) (Zs.getD i [])) :
    Calls Try.prog 24 #[.slice (some ⟨b, off, none⟩) len cap] w (CopiedR w len Zs) := by
  obtain ⟨i0, hi, hz0, hz1, hz2⟩ := info_parts (P := Try.prog) (e := 35) (z := .slice none 0 0) (size := 1) (bytes := 24) (by kernel_rfl)
  have HR := Lib.hid hr
  have HT := Lib.hid hT
  clear hr hT
  go_enter Try.func24, Try.ntmps24
  go_wp2_with (at_make; refine wpList_make_full _ rfl _ _ 22 rfl w.heap.size 35 i0 (.slice none 0 0) 1 Try.underlying22 hi hz0 hz1 .i64 .i64 _ _ len rfl rfl (by first | rfl | omega) (by first | rfl | omega) (by rw [hz2]; omega) (by unfold maxLen; omega) (Nat.le_refl _) ?_; intro w1 hown1 hgrow1)
  have hown1' : w1.ownsRow w.heap.size 35 1 (.slice (some ⟨w.heap.size, 0, none⟩) len len) len ([] ++ List.replicate (len - 0) (.slice none 0 0)) := by
    have e : (madeCells (Value.slice none 0 0).cells (len * 1)).toList = List.replicate len (.slice none 0 0) := by
      rw [Nat.mul_one]; exact toList_madeCells_one _ _
    rw [e] at hown1
    simpa using hown1
  have hb1 : Below w.heap.size w w1 := (Below.refl _ _).grown hgrow1 (Nat.le_refl _) (fun k h => by cases h)
  have ST := Lib.hid (CRows.mk (w := w) (len := len) (Zs := Zs) (k := 0) (wr := w1) (V := []) (p := fun _ => 0) (q := fun _ => 0) (A := fun _ => none) rfl hown1' (fun i h => absurd h (by omega)) (fun i j _ h => absurd h (by omega)) hb1 (hown1.lt _ rfl).2)
  clear hown1 hgrow1 hown1' hb1
  go_loopw [4] (fun i wr => ∃ (k : Nat) (V : List Value) (p q : Nat → Nat) (A : Nat → Option Addr), k ≤ len ∧ i = .int .i64 k ∧ Hid (CRows w len Zs k wr V p q A))
    (fun i _ => len - (intOf i).toNat)
  case atStart => exact ⟨0, _, _, _, _, Nat.zero_le _, rfl, ST⟩
  case round =>
    obtain ⟨k, V, p, q, A, hk, rfl, HS⟩ := hrel
    clear ST
    by_cases hlt : k < len
    · obtain ⟨ai, ci, hc, _, hz⟩ := HR.out k hlt
      have hsrc : wr.cell? ⟨b, off + k, none⟩ = some (.slice ai (rl Zs k) ci) := (HS.out.below.cell (p := ⟨b, off + k, none⟩) hb).trans hc
      have HZ := Lib.hid (hz.below HS.out.below)
      have hle : rl Zs k ≤ 1048576 := Nat.le_trans (rl_le Zs k) HT.out
      clear hc hz
      have HN : ∀ g2 w2, Own w2 wr.heap.size w2.heap.size (some ⟨g2, 0, none⟩) (rl Zs k) (rl Zs k) (Zs.getD k []) → Below wr.heap.size wr w2 → _ := fun g2 w2 o2 b2 => HS.out.step hlt o2 b2
      have HNx := Lib.hid HN
      clear HN
      generalize hgz : Zs.getD k [] = Z at *
      generalize hgl : rl Zs k = l at *
      clear hgz hgl
      go_wp2_with fail
      refine (copy_any ai l ci Z wr hle HZ.out).mono ?_
      rintro e w2 ⟨g2, rfl, o2, b2⟩
      have hdst : w2.cell? ⟨w.heap.size, k, none⟩ = some (.slice none 0 0) := (b2.cell (p := ⟨w.heap.size, k, none⟩) HS.out.lt).trans ((HS.out.own.cellAt k (by omega)).trans (by
        rw [List.getElem?_append_right (by have := HS.out.vlen; omega), HS.out.vlen, Nat.sub_self, List.getElem?_replicate, if_pos (by omega)]))
      have hfz : w2.frozen? ⟨w.heap.size, k, none⟩ = false := (b2.frozen (p := ⟨w.heap.size, k, none⟩) HS.out.lt).trans (HS.out.own.frozenAt k)
      have HN := Lib.hid (HNx.out g2 w2 o2 b2)
      clear o2 b2 HNx HZ HS
      go_wp2
      go_roundw
      case rel =>
        obtain ⟨p', q', A', hN⟩ := HN.out
        exact ⟨k + 1, _, p', q', A', by omega, by go_num, Lib.hid hN⟩
      case measure => simp [intOf]; omega
    · obtain rfl : k = len := by omega
      go_wp2
      go_ret
      exact ⟨w.heap.size, rfl, HS.out.done hL (by unfold maxLen; omega), HS.out.below⟩

theorem copyR_none (a : Option Addr) (cap : Nat) (w : World) :
    Calls Try.prog 24 #[.slice a 0 cap] w (CopiedR w 0 []) := by
  obtain ⟨i0, hi, hz0, hz1, hz2⟩ := info_parts (P := Try.prog) (e := 35) (z := .slice none 0 0) (size := 1) (bytes := 24) (by kernel_rfl)
  go_enter Try.func24, Try.ntmps24
  go_wp2_with (at_make; refine wpList_make_full _ rfl _ _ 22 rfl w.heap.size 35 i0 (.slice none 0 0) 1 Try.underlying22 hi hz0 hz1 .i64 .i64 _ _ 0 rfl rfl (by first | rfl | omega) (by first | rfl | omega) (by rw [hz2]; omega) (by unfold maxLen; omega) (Nat.le_refl _) ?_; intro w1 hown1 hgrow1)
  have HO := Lib.hid hown1
  have HB := Lib.hid ((Below.refl w.heap.size w).grown hgrow1 (Nat.le_refl _) (fun k h => by cases h))
  clear hown1 hgrow1
  go_loopw [4] (fun i wr => i = .int .i64 0 ∧ wr = w1) (fun _ _ => 0)
  case atStart => exact ⟨rfl, rfl⟩
  case round =>
    obtain ⟨rfl, rfl⟩ := hrel
    go_wp2
    go_ret
    exact ⟨w.heap.size, rfl, ownR_nil _ (Nat.le_refl _) _ _, HB.out⟩

theorem copyR_any (a : Option Addr) (len cap : Nat) (Zs : List (List Int)) (w : World) (hl : len ≤ 1048576) (hT : tot Zs ≤ 1048576) (h : RAt w a len Zs) :
    Calls Try.prog 24 #[.slice a len cap] w (CopiedR w len Zs) := by
  obtain ⟨h1, h2, rfl | ⟨b, off, rfl, hb, hr⟩⟩ := h
  · obtain rfl := List.eq_nil_of_length_eq_zero h1
    exact copyR_none a cap w
  · exact copyR_at b off len cap Zs w hl h1 hT hb hr

/-! ## marks -/
def MarkedR (w : World) (lo hi : Nat) (a : Option Addr) (len cap : Nat) (Zs : List (List Int)) (k : Int) (e : Ending) (w' : World) : Prop :=
  e = .returned (.int .i64 (k + (tot Zs : Nat))) ∧ OwnR w' lo hi a len cap (markR k Zs) ∧ Keeps lo hi w w'

theorem mark_zero (a : Option Addr) (cap : Nat) (k0 : Int) (w : World) :
    Calls Try.prog 47 #[.slice a 0 cap, .int .i64 k0] w fun e w' => e = .returned (.int .i64 k0) ∧ w = w' := by
  go_enter Try.func47, Try.ntmps47
  go_wp2
  go_loop [1, 5] (fun q i => q = .int .i64 k0 ∧ i = .int .i64 0) (fun _ _ => 0)
  case atStart => exact ⟨rfl, rfl⟩
  case round =>
    obtain ⟨rfl, rfl⟩ := hrel
    go_wp2
    go_ret
    exact ⟨rfl, rfl⟩
theorem mark_row (lo hi : Nat) (a : Option Addr) (len cap : Nat) (zs : List Int) (k0 : Int) (w : World) (hk0 : 0 ≤ k0) (hk1 : k0 + len ≤ 4194304) (h : OwnE w lo hi a len cap zs) :
    Calls Try.prog 47 #[.slice a len cap, .int .i64 k0] w fun e w' => e = .returned (.int .i64 (k0 + len)) ∧ OwnE w' lo hi a len cap (markL k0 len) ∧ Keeps lo hi w w' := by
  rcases h with ⟨rfl, rfl, hn⟩ | h
  · refine (mark_zero a cap k0 w).mono ?_
    rintro e w' ⟨rfl, rfl⟩
    exact ⟨by simp, .inl ⟨rfl, rfl, hn⟩, Keeps.refl _ _ _⟩
  · refine (mark_any lo hi a len cap zs k0 w hk0 hk1 h).mono ?_
    rintro e w' ⟨rfl, o, k, _⟩
    exact ⟨rfl, .inr o, k⟩

/-- row i, where the first n rows are marked -/
def mrk (k : Int) (Zs : List (List Int)) (n i : Nat) : List Int := if i < n then markL (k + (pre Zs i : Nat)) (rl Zs i) else Zs.getD i []

structure MRows (w : World) (lo hi g len : Nat) (Zs : List (List Int)) (p q : Nat → Nat) (A : Nat → Option Addr) (C : Nat → Nat) (k0 : Int) (n : Nat) (wr : World) : Prop where
  rows : ∀ i, i < len → wr.cell? ⟨g, i, none⟩ = some (.slice (A i) (rl Zs i) (C i)) ∧ OwnE wr (p i) (q i) (A i) (rl Zs i) (C i) (mrk k0 Zs n i)
  keeps : Keeps lo hi w wr

theorem markR_at (lo hi g len cap : Nat) (Zs : List (List Int)) (p q : Nat → Nat) (A : Nat → Option Addr) (C : Nat → Nat) (k0 : Int) (w : World) (hk0 : 0 ≤ k0) (hk1 : k0 + (tot Zs : Nat) ≤ 4194304) (hL : Zs.length = len) (hm : len ≤ maxLen) (hcap : len ≤ cap) (hhi : hi ≤ w.heap.size) (hg1 : lo ≤ g) (hg2 : g < hi)
    (hr : ∀ i, i < len → w.cell? ⟨g, i, none⟩ = some (.slice (A i) (rl Zs i) (C i)) ∧ OwnE w (p i) (q i) (A i) (rl Zs i) (C i) (Zs.getD i []) ∧ lo ≤ p i ∧ q i ≤ hi ∧ (g < p i ∨ q i ≤ g))
    (hd : ∀ i j, i < j → j < len → q i ≤ p j) :
    Calls Try.prog 33 #[.slice (some ⟨g, 0, none⟩) len cap, .int .i64 k0] w (MarkedR w lo hi (some ⟨g, 0, none⟩) len cap Zs k0) := by
  have HR := Lib.hid hr
  have HD := Lib.hid hd
  have ST : Hid (MRows w lo hi g len Zs p q A C k0 0 w) := Lib.hid ⟨fun i hi => ⟨(hr i hi).1, by simpa [mrk] using (hr i hi).2.1⟩, Keeps.refl _ _ _⟩
  have HL := Lib.hid hL
  clear hr hd hL
  unfold maxLen at hm
  go_enter Try.func33, Try.ntmps33
  go_wp2
  go_loopw [1, 5] (fun x i wr => ∃ (n : Nat) (y : Int), n ≤ len ∧ i = .int .i64 n ∧ x = .int .i64 y ∧ 0 ≤ y ∧ y ≤ 4194304 ∧ Hid (y = k0 + (pre Zs n : Nat)) ∧ Hid (MRows w lo hi g len Zs p q A C k0 n wr))
    (fun _ i _ => len - (intOf i).toNat)
  case atStart => exact ⟨0, k0, Nat.zero_le _, rfl, rfl, hk0, by omega, Lib.hid (by rw [pre_zero]; omega), ST⟩
  case round =>
    obtain ⟨n, y, hn, rfl, rfl, y0, y1, HY, HS⟩ := hrel
    clear ST
    by_cases hlt : n < len
    · obtain ⟨hsrc, ho⟩ := HS.out.rows n hlt
      obtain ⟨_, _, hp, hq, hgo⟩ := HR.out n hlt
      have HO := Lib.hid ho
      have HG := Lib.hid (And.intro hp (And.intro hq hgo))
      have hle := pre_le Zs (n + 1)
      have hps := pre_succ Zs n (by have := HL.out; omega)
      have hyl : y + (rl Zs n : Nat) ≤ 4194304 := by have := HY.out; omega
      have HPS := Lib.hid hps
      clear ho hp hq hgo hle hps
      obtain ⟨l, hl⟩ : ∃ l, rl Zs n = l := ⟨_, rfl⟩
      rw [hl] at hsrc hyl HO HPS
      have HE := Lib.hid hl
      clear hl
      go_wp2_with fail
      refine (mark_row (p n) (q n) (A n) l (C n) _ y wr y0 hyl HO.out).mono ?_
      rintro e w2 ⟨rfl, om, km⟩
      have HM : Hid (MRows w lo hi g len Zs p q A C k0 (n + 1) w2) := by
        refine Lib.hid ⟨fun i hi => ?_, HS.out.keeps.trans (km.wide HG.out.1 HG.out.2.1)⟩
        obtain ⟨c1, o1⟩ := HS.out.rows i hi
        refine ⟨(World.cell?_of_block (a := ⟨g, i, none⟩) (km.block g (World.block_lt_of_cell? _ _ c1) HG.out.2.2)).trans c1, ?_⟩
        by_cases e : i = n
        · subst e
          have e2 : mrk k0 Zs (i + 1) i = markL y l := by rw [HY.out]; unfold mrk; rw [if_pos (by omega), HE.out]
          rw [e2, HE.out]
          exact om
        · have e2 : mrk k0 Zs (n + 1) i = mrk k0 Zs n i := by
            unfold mrk
            by_cases g : i < n
            · rw [if_pos g, if_pos (by omega)]
            · rw [if_neg g, if_neg (by omega)]
          rw [e2]
          refine o1.keeps km ?_
          by_cases g : i < n
          · exact .inl (HD.out i n g hlt)
          · exact .inr (HD.out n i (by omega) hi)
      clear om km HS HO
      go_wp2
      go_roundw
      case rel => exact ⟨n + 1, y + l, by omega, by go_num, rfl, by omega, hyl, Lib.hid (by have := HPS.out; have := HY.out; omega), HM⟩
      case measure => simp [intOf]; omega
    · obtain rfl : n = len := by omega
      have HV := Lib.hid (show y = k0 + (tot Zs : Nat) by have := HY.out; have := pre_end Zs; rw [HL.out] at this; omega)
      go_wp2
      go_ret
      refine ⟨by rw [HV.out]; rfl, ⟨by rw [markR_length]; exact HL.out, by unfold maxLen; omega, hcap, Nat.le_trans hhi HS.out.keeps.size, .inr ⟨g, p, q, A, C, rfl, hg1, hg2, fun i hi => ?_, HD.out⟩⟩, HS.out.keeps⟩
      obtain ⟨c1, o1⟩ := HS.out.rows i hi
      have hi' : i < Zs.length := by have := HL.out; omega
      have e2 : mrk k0 Zs n i = (markR k0 Zs).getD i [] := by rw [markR_getD k0 Zs hi']; unfold mrk; rw [if_pos hi]
      rw [markR_rl k0 Zs hi', ← e2]
      exact ⟨c1, o1, (HR.out i hi).2.2⟩

theorem markR_none (lo hi : Nat) (a : Option Addr) (cap : Nat) (k0 : Int) (w : World) (h : OwnR w lo hi a 0 cap []) :
    Calls Try.prog 33 #[.slice a 0 cap, .int .i64 k0] w (MarkedR w lo hi a 0 cap [] k0) := by
  have H := Lib.hid h
  clear h
  go_enter Try.func33, Try.ntmps33
  go_wp2
  go_loop [1, 5] (fun q i => q = .int .i64 k0 ∧ i = .int .i64 0) (fun _ _ => 0)
  case atStart => exact ⟨rfl, rfl⟩
  case round =>
    obtain ⟨rfl, rfl⟩ := hrel
    go_wp2
    go_ret
    exact ⟨by simp [tot, pre], H.out, Keeps.refl _ _ _⟩

theorem markR_any (lo hi : Nat) (a : Option Addr) (len cap : Nat) (Zs : List (List Int)) (k0 : Int) (w : World) (hk0 : 0 ≤ k0) (hk1 : k0 + (tot Zs : Nat) ≤ 4194304) (h : OwnR w lo hi a len cap Zs) :
    Calls Try.prog 33 #[.slice a len cap, .int .i64 k0] w (MarkedR w lo hi a len cap Zs k0) := by
  have h' := h
  obtain ⟨h1, h2, h3, h4, rfl | ⟨g, p, q, A, C, rfl, hg, hg', hr, hd⟩⟩ := h
  · obtain rfl := List.eq_nil_of_length_eq_zero h1
    exact markR_none lo hi a cap k0 w h'
  · exact markR_at lo hi g len cap Zs p q A C k0 w hk0 hk1 h1 h2 h3 h4 hg hg' hr hd

theorem heldR_at (b off len cap : Nat) (Zs : List (List Int)) (k0 : Int) (w : World) (hk0 : 0 ≤ k0) (hk1 : k0 + (tot Zs : Nat) ≤ 4194304) (hL : Zs.length = len) (hm : len ≤ maxLen)
    (hr : ∀ i, i < len → ∃ ai ci, w.cell? ⟨b, off + i, none⟩ = some (.slice ai (rl Zs i) ci) ∧ IAt w ai (rl Zs i) (markL (k0 + (pre Zs i : Nat)) (rl Zs i))) :
    Calls Try.prog 34 #[.slice (some ⟨b, off, none⟩) len cap, .int .i64 k0] w (Held w k0 (tot Zs)) := by
  have HR := Lib.hid hr
  have HL := Lib.hid hL
  clear hr hL
  unfold maxLen at hm
  go_enter Try.func34, Try.ntmps34
  go_wp2
  go_loopw [1, 5] (fun x i wr => ∃ (n m : Nat) (y : Int), n ≤ len ∧ i = .int .i64 n ∧ x = .int .i64 y ∧ 0 ≤ y ∧ y ≤ 4194304 ∧ Hid (y = k0 + (pre Zs n : Nat)) ∧ Hid (wr = w.drewN m))
    (fun _ i _ => len - (intOf i).toNat)
  case atStart => exact ⟨0, 0, k0, Nat.zero_le _, rfl, rfl, hk0, by omega, Lib.hid (by rw [pre_zero]; omega), Lib.hid rfl⟩
  case round =>
    obtain ⟨n, m, y, hn, rfl, rfl, y0, y1, HY, HW⟩ := hrel
    by_cases hlt : n < len
    · obtain ⟨ai, ci, hs, hz⟩ := HR.out n hlt
      have hle := pre_le Zs (n + 1)
      have hps := pre_succ Zs n (by have := HL.out; omega)
      have hyl : y + (rl Zs n : Nat) ≤ 4194304 := by have := HY.out; omega
      have HPS := Lib.hid hps
      have hsrc : wr.cell? ⟨b, off + n, none⟩ = some (.slice ai (rl Zs n) ci) := by rw [HW.out]; exact hs
      have HZ : Hid (IAt wr ai (rl Zs n) (markL y (rl Zs n))) := Lib.hid (by rw [HW.out, HY.out]; exact hz.below (same_below ⟨m, rfl⟩ _))
      clear hs hz hle hps
      obtain ⟨l, hl⟩ : ∃ l, rl Zs n = l := ⟨_, rfl⟩
      rw [hl] at hsrc hyl HZ HPS
      clear hl
      go_wp2_with fail
      refine (held_any ai l ci y wr y0 hyl HZ.out).mono ?_
      rintro e w2 ⟨rfl, m2, rfl⟩
      go_wp2
      go_roundw
      case rel => exact ⟨n + 1, m + m2, y + l, by omega, by go_num, rfl, by omega, hyl, Lib.hid (by have := HPS.out; have := HY.out; omega), Lib.hid (by rw [HW.out]; exact World.drewN_drewN _ _ _)⟩
      case measure => simp [intOf]; omega
    · obtain rfl : n = len := by omega
      have HV := Lib.hid (show y = k0 + (tot Zs : Nat) by have := HY.out; have := pre_end Zs; rw [HL.out] at this; omega)
      go_wp2
      go_ret
      exact ⟨by rw [HV.out]; rfl, m, HW.out⟩

theorem heldR_none (a : Option Addr) (cap : Nat) (k0 : Int) (w : World) :
    Calls Try.prog 34 #[.slice a 0 cap, .int .i64 k0] w (Held w k0 0) := by
  go_enter Try.func34, Try.ntmps34
  go_wp2
  go_loop [1, 5] (fun q i => q = .int .i64 k0 ∧ i = .int .i64 0) (fun _ _ => 0)
  case atStart => exact ⟨rfl, rfl⟩
  case round =>
    obtain ⟨rfl, rfl⟩ := hrel
    go_wp2
    go_ret
    exact ⟨by simp, 0, rfl⟩

theorem heldR_any (a : Option Addr) (len cap : Nat) (Zs : List (List Int)) (k0 : Int) (w : World) (hk0 : 0 ≤ k0) (hk1 : k0 + (tot Zs : Nat) ≤ 4194304) (h : RAt w a len (markR k0 Zs)) :
    Calls Try.prog 34 #[.slice a len cap, .int .i64 k0] w fun e w' => e = .returned (.int .i64 (k0 + (tot Zs : Nat))) ∧ Below w.heap.size w w' := by
  obtain ⟨h1, h2, h3⟩ := h
  rw [markR_length] at h1
  have hx : Calls Try.prog 34 #[.slice a len cap, .int .i64 k0] w (Held w k0 (tot Zs)) := by
    rcases h3 with rfl | ⟨b, off, rfl, hb, hr⟩
    · obtain rfl := List.eq_nil_of_length_eq_zero h1
      exact heldR_none a cap k0 w
    · refine heldR_at b off len cap Zs k0 w hk0 hk1 h1 h2 fun i hi => ?_
      obtain ⟨ai, ci, hc, _, hz⟩ := hr i hi
      rw [markR_rl k0 Zs (by omega)] at hc hz
      rw [markR_getD k0 Zs (by omega)] at hz
      exact ⟨ai, ci, hc, hz⟩
  exact hx.mono fun _ _ ⟨h1, h2⟩ => ⟨h1, same_below h2 _⟩
end Go.Proofs.Ytklnflmdbgdgjaa
