/-
  The reference's game with both players exchanged.
-/
import Derived.Test.YtnmehenkbinfmaaGBestR
import Derived.Deep.RegionHeld3
import Derived.Deep.RegionLaw
import Derived.Deep.AppendLies
import Derived.Deep.LoopGhost
import Derived.Deep.DeepCutAuto
namespace Go.Proofs.Ytnmehenkbinfmaa
open Go.RowKit Go.ChangeShapes Go.WideShapes
set_option linter.unusedVariables false

/-- the cells of a turned game, by their index -/
def turnF (X : List Int) (R C t : Nat) : Int := X.getD ((t % R) * C + t / R) 0

theorem turnF_at {X : List Int} {R C k i : Nat} (hi : i < R) : turnF X R C (k * R + i) = X.getD (i * C + k) 0 := by
  have h1 : (k * R + i) % R = i := by rw [Nat.mul_comm, Nat.mul_add_mod]; exact Nat.mod_eq_of_lt hi
  have h2 : (k * R + i) / R = k := by
    rw [Nat.mul_comm, Nat.mul_add_div (by omega), Nat.div_eq_of_lt hi, Nat.add_zero]
  unfold turnF
  rw [h1, h2]

/-- how far a turned game has come: its box, the box of the result, both lists in rows of their own -/
structure TSt (w wr : World) (R C tA tB : Nat) (A B : List Int) (aA : Option Addr) (cA : Nat) (aB : Option Addr) (cB : Nat) : Prop where
  out : Box4 wr (w.heap.size + 1) 27 (.int .i64 C) (.int .i64 R) (.slice aA tA cA) (.slice aB tB cB)
  res : Box4 wr w.heap.size 27 (.int .i64 0) (.int .i64 0) (.slice none 0 0) (.slice none 0 0)
  rowA : wr.ownsRow (w.heap.size + 2) 2 1 (.slice aA tA cA) tA ((tab (turnF B R C) tA).map (Value.int .i64))
  rowB : wr.ownsRow (w.heap.size + 2) 2 1 (.slice aB tB cB) tB ((tab (turnF A R C) tB).map (Value.int .i64))
  apart : ∀ x y, aA = some x → aB = some y → x.block ≠ y.block
  below : Below w.heap.size w wr

theorem TSt.drewn {w wr : World} {R C tA tB : Nat} {A B : List Int} {aA : Option Addr} {cA : Nat} {aB : Option Addr} {cB : Nat} (h : TSt w wr R C tA tB A B aA cA aB cB) (m : Nat) : TSt w (wr.drewN m) R C tA tB A B aA cA aB cB :=
  ⟨h.out, h.res, h.rowA, h.rowB, h.apart, h.below.trans (same_below ⟨m, rfl⟩ _)⟩

theorem row_keep {w w' : World} {lo : Nat} {e : TypeId} {size : Nat} {a : Option Addr} {n cap : Nat} {xs : List Value} (h : w.ownsRow lo e size (.slice a n cap) n xs) (hb : ∀ x, a = some x → w'.heap[x.block]? = w.heap[x.block]?) : w'.ownsRow lo e size (.slice a n cap) n xs :=
  ownsRow_block h fun k hk => by
    cases a with
    | none => cases hk
    | some x => cases hk; exact hb x rfl

theorem row_lt {w : World} {lo : Nat} {e : TypeId} {size : Nat} {a : Option Addr} {n cap : Nat} {xs : List Value} (h : w.ownsRow lo e size (.slice a n cap) n xs) : ∀ x, a = some x → lo ≤ x.block ∧ x.block < w.heap.size := by
  intro x hx
  subst hx
  exact h.lt _ rfl

theorem tst_boxA {w wr wX w1 : World} {R C tA tB : Nat} {A B : List Int} {aA : Option Addr} {cA : Nat} {aB : Option Addr} {cB : Nat} (h : TSt w wr R C tA tB A B aA cA aB cB)
    (hB : Below wr.heap.size wr wX) (hgrow : wX.grownBy w1 (Value.slice aA tA cA).ownBlock) : Box4 w1 (w.heap.size + 1) 27 (.int .i64 C) (.int .i64 R) (.slice aA tA cA) (.slice aB tB cB) := by
  have lo := h.out.lt
  refine (hgrow.block _ (by have := hB.size; omega) (fun e => ?_)).trans ((hB.block _ lo).trans h.out)
  cases aA with
  | none => cases e
  | some x => have := (row_lt h.rowA x rfl).1; have := Option.some.inj e; omega
theorem tst_boxB {w wr wX w1 : World} {R C tA tB : Nat} {A B : List Int} {aA : Option Addr} {cA : Nat} {aB : Option Addr} {cB : Nat} (h : TSt w wr R C tA tB A B aA cA aB cB)
    (hB : Below wr.heap.size wr wX) (hgrow : wX.grownBy w1 (Value.slice aB tB cB).ownBlock) : Box4 w1 (w.heap.size + 1) 27 (.int .i64 C) (.int .i64 R) (.slice aA tA cA) (.slice aB tB cB) := by
  have lo := h.out.lt
  refine (hgrow.block _ (by have := hB.size; omega) (fun e => ?_)).trans ((hB.block _ lo).trans h.out)
  cases aB with
  | none => cases e
  | some x => have := (row_lt h.rowB x rfl).1; have := Option.some.inj e; omega

theorem tst_A {w wr wX w1 : World} {R C tA tB : Nat} {A B : List Int} {aA : Option Addr} {cA : Nat} {aB : Option Addr} {cB g cap : Nat} {v : Int} (h : TSt w wr R C tA tB A B aA cA aB cB)
    (hB : Below wr.heap.size wr wX) (hv : v = turnF B R C tA)
    (hown : w1.ownsRow (w.heap.size + 2) 2 1 (.slice (some ⟨g, 0, none⟩) (tA + 1) cap) (tA + 1) ((tab (turnF B R C) tA).map (Value.int .i64) ++ [.int .i64 v]))
    (hgrow : wX.grownBy w1 (Value.slice aA tA cA).ownBlock) (hat : (Value.slice aA tA cA).ownBlock = some g ∨ g = wr.heap.size + 1) :
    TSt w (w1.setCell ⟨w.heap.size + 1, 2, none⟩ (.slice (some ⟨g, 0, none⟩) (tA + 1) cap)) R C (tA + 1) tB A B (some ⟨g, 0, none⟩) cap aB cB := by
  have lA := row_lt h.rowA
  have lB := row_lt h.rowB
  have lo := h.out.lt
  have hne : ∀ k, k < w.heap.size + 2 → some k ≠ (Value.slice aA tA cA).ownBlock := by
    intro k hk e
    cases aA with
    | none => cases e
    | some x => cases e; have := (lA x rfl).1; omega
  have blk : ∀ k, k < w.heap.size + 2 → w1.heap[k]? = wr.heap[k]? := fun k hk => (hgrow.block k (by have := hB.size; omega) (hne k hk)).trans (hB.block k (by omega))
  have o1 : Box4 w1 (w.heap.size + 1) 27 (.int .i64 C) (.int .i64 R) (.slice aA tA cA) (.slice aB tB cB) := (blk _ (by omega)).trans h.out
  have o2 : Box4 w1 w.heap.size 27 (.int .i64 0) (.int .i64 0) (.slice none 0 0) (.slice none 0 0) := (blk _ (by omega)).trans h.res
  have oB : w1.ownsRow (w.heap.size + 2) 2 1 (.slice aB tB cB) tB ((tab (turnF A R C) tB).map (Value.int .i64)) := row_keep h.rowB fun y hy => by
    have l := lB y hy
    refine (hgrow.block y.block (by have := hB.size; omega) (fun e => ?_)).trans (hB.block _ l.2)
    cases aA with
    | none => cases e
    | some x => exact h.apart x y rfl hy (Option.some.inj e).symm
  refine ⟨o1.set2, o2.far (by omega), ?_, ownsRow_setCell_below oB (by show w.heap.size + 1 < w.heap.size + 2; omega) _, ?_, ?_⟩
  · rw [tab_succ, List.map_append, ← hv]
    exact ownsRow_setCell_below hown (by show w.heap.size + 1 < w.heap.size + 2; omega) _
  · intro x y hx hy e
    cases hx
    have l := lB y hy
    rcases hat with hat | hat
    · cases aA with
      | none => cases hat
      | some z => cases hat; exact h.apart z y rfl hy e
    · have : g = y.block := e
      omega
  · have b1 : Below w.heap.size w w1 := by
      refine (h.below.trans (hB.mono (by omega))).trans ⟨hgrow.os, hgrow.tape, hgrow.output, hgrow.size, fun k hk => hgrow.block k (by have := hB.size; omega) (hne k (by omega))⟩
    exact b1.setCell (by show w.heap.size ≤ w.heap.size + 1; omega) _

theorem tst_B {w wr wX w1 : World} {R C tA tB : Nat} {A B : List Int} {aA : Option Addr} {cA : Nat} {aB : Option Addr} {cB g cap : Nat} {v : Int} (h : TSt w wr R C tA tB A B aA cA aB cB)
    (hB : Below wr.heap.size wr wX) (hv : v = turnF A R C tB)
    (hown : w1.ownsRow (w.heap.size + 2) 2 1 (.slice (some ⟨g, 0, none⟩) (tB + 1) cap) (tB + 1) ((tab (turnF A R C) tB).map (Value.int .i64) ++ [.int .i64 v]))
    (hgrow : wX.grownBy w1 (Value.slice aB tB cB).ownBlock) (hat : (Value.slice aB tB cB).ownBlock = some g ∨ g = wr.heap.size + 1) :
    TSt w (w1.setCell ⟨w.heap.size + 1, 3, none⟩ (.slice (some ⟨g, 0, none⟩) (tB + 1) cap)) R C tA (tB + 1) A B aA cA (some ⟨g, 0, none⟩) cap := by
  have lA := row_lt h.rowA
  have lB := row_lt h.rowB
  have lo := h.out.lt
  have hne : ∀ k, k < w.heap.size + 2 → some k ≠ (Value.slice aB tB cB).ownBlock := by
    intro k hk e
    cases aB with
    | none => cases e
    | some x => cases e; have := (lB x rfl).1; omega
  have blk : ∀ k, k < w.heap.size + 2 → w1.heap[k]? = wr.heap[k]? := fun k hk => (hgrow.block k (by have := hB.size; omega) (hne k hk)).trans (hB.block k (by omega))
  have o1 : Box4 w1 (w.heap.size + 1) 27 (.int .i64 C) (.int .i64 R) (.slice aA tA cA) (.slice aB tB cB) := (blk _ (by omega)).trans h.out
  have o2 : Box4 w1 w.heap.size 27 (.int .i64 0) (.int .i64 0) (.slice none 0 0) (.slice none 0 0) := (blk _ (by omega)).trans h.res
  have oA : w1.ownsRow (w.heap.size + 2) 2 1 (.slice aA tA cA) tA ((tab (turnF B R C) tA).map (Value.int .i64)) := row_keep h.rowA fun y hy => by
    have l := lA y hy
    refine (hgrow.block y.block (by have := hB.size; omega) (fun e => ?_)).trans (hB.block _ l.2)
    cases aB with
    | none => cases e
    | some x => exact h.apart y x hy rfl (Option.some.inj e)
  refine ⟨o1.set3, o2.far (by omega), ownsRow_setCell_below oA (by show w.heap.size + 1 < w.heap.size + 2; omega) _, ?_, ?_, ?_⟩
  · rw [tab_succ, List.map_append, ← hv]
    exact ownsRow_setCell_below hown (by show w.heap.size + 1 < w.heap.size + 2; omega) _
  · intro x y hx hy e
    cases hy
    have l := lA x hx
    rcases hat with hat | hat
    · cases aB with
      | none => cases hat
      | some z => cases hat; exact h.apart x z hx rfl e
    · have : x.block = g := e
      omega
  · have b1 : Below w.heap.size w w1 := by
      refine (h.below.trans (hB.mono (by omega))).trans ⟨hgrow.os, hgrow.tape, hgrow.output, hgrow.size, fun k hk => hgrow.block k (by have := hB.size; omega) (hne k (by omega))⟩
    exact b1.setCell (by show w.heap.size ≤ w.heap.size + 1; omega) _

theorem getD_big {X : List Int} (h : ∀ z ∈ X, Big z) (i : Nat) : Big (X.getD i 0) := by
  by_cases hi : i < X.length
  · rw [List.getD_eq_getElem?_getD, List.getElem?_eq_getElem hi]; exact h _ (List.getElem_mem hi)
  · rw [List.getD_eq_getElem?_getD, List.getElem?_eq_none (by omega)]; exact ⟨by decide, by decide⟩

/-- a turned game: both lists in rows of the call's own -/
def TurnedG (w : World) (R C : Nat) (A B : List Int) (e : Ending) (w' : World) : Prop :=
  ∃ a1 c1 a2 c2, e = .returned (gameV C R a1 (C * R) c1 a2 (C * R) c2) ∧ Own w' w.heap.size w'.heap.size a1 (C * R) c1 (tab (turnF B R C) (C * R)) ∧ Own w' w.heap.size w'.heap.size a2 (C * R) c2 (tab (turnF A R C) (C * R)) ∧
    (∀ x y, a1 = some x → a2 = some y → x.block ≠ y.block) ∧ Below w.heap.size w w'

set_option maxHeartbeats 4000000 in
set_option maxRecDepth 20000 in
theorem specTurn_at (n R C b off c1 b' off' c2 : Nat) (A B : List Int) (w : World) (r1 : 1 ≤ R) (q1 : 1 ≤ C) (hR : R ≤ 6) (hC : C ≤ 6)
    (hx : Box4 w n 27 (.int .i64 R) (.int .i64 C) (.slice (some ⟨b, off, none⟩) (R * C) c1) (.slice (some ⟨b', off', none⟩) (R * C) c2))
    (hb : b < w.heap.size) (hb' : b' < w.heap.size)
    (ha : ∀ z ∈ A, Big z) (hbg : ∀ z ∈ B, Big z) (hc : ∀ i, i < R * C → w.cell? ⟨b, off + i, none⟩ = some (.int .i64 (A.getD i 0))) (hc' : ∀ i, i < R * C → w.cell? ⟨b', off' + i, none⟩ = some (.int .i64 (B.getD i 0))) :
    Calls Try.prog 78 #[.pointer (some ⟨n, 0, none⟩)] w (TurnedG w R C A B) := by
  have hn := hx.lt
  have HX := Lib.hid hx
  have HC := Lib.hid hc
  have hBA := Lib.hid ha
  have hBB := Lib.hid hbg
  clear ha hbg
  have HC' := Lib.hid hc'
  have hRC : R * C ≤ 36 := Nat.mul_le_mul hR hC
  obtain ⟨len, hlen⟩ : ∃ len, R * C = len := ⟨_, rfl⟩
  rw [hlen] at HX HC HC' hRC
  have HL := Lib.hid hlen
  clear hx hc hc' hlen
  obtain ⟨i0, hi, hz0, hz1, hz2⟩ := info_parts (P := Try.prog) (e := 2) (z := .int .i64 0) (size := 1) (bytes := 8) (by kernel_rfl)
  obtain ⟨⟨p0, p1, p2, p3⟩, _⟩ := HX.out.all
  have hne : w.heap.size + 1 ≠ n := by omega
  have hne0 : w.heap.size ≠ n := by omega
  go_enter Try.func78, Try.ntmps78
  go_wp2_with fail
  go_region_held3 (fun w' => w'.cell? ⟨n, 0, none⟩ = some (.int .i64 R) ∧ w'.cell? ⟨n, 1, none⟩ = some (.int .i64 C))
    (first | go_keep)
    (fail)
  --WALK
  have T0 : Hid (TSt w ((w.alloc (.cells #[.int .i64 0, .int .i64 0, .slice none 0 0, .slice none 0 0] 27)).alloc (.cells #[.int .i64 C, .int .i64 R, .slice none 0 0, .slice none 0 0] 27)).drew R C 0 0 A B none 0 none 0) :=
    Lib.hid ⟨heap2b, heap2a, World.ownsRow_nil _ _ _ _, World.ownsRow_nil _ _ _ _, (fun x y hx => by cases hx), Below.drew below2⟩
  go_wp2_with fail
  go_loopg [4] C (fun g kk wr => ∃ (k : Nat) (aA : Option Addr) (cA : Nat) (aB : Option Addr) (cB : Nat), k + g = C ∧ kk = .int .i64 k ∧ Hid (TSt w wr R C (k * R) (k * R) A B aA cA aB cB))
  case atStart => exact ⟨0, none, 0, none, 0, by omega, rfl, by rw [Nat.zero_mul]; exact T0⟩
  case round =>
    obtain ⟨k, aA, cA, aB, cB, hk, rfl, HT⟩ := hrel
    have hgb : Box4 wr n 27 (.int .i64 R) (.int .i64 C) (.slice (some ⟨b, off, none⟩) len c1) (.slice (some ⟨b', off', none⟩) len c2) := (HT.out.below.block n hn).trans HX.out
    obtain ⟨⟨u0, u1, u2, u3⟩, _⟩ := hgb.all
    clear hgb
    cases gk with
    | zero =>
      obtain rfl : k = C := by omega
      obtain ⟨⟨o0, o1, o2, o3⟩, _⟩ := HT.out.out.all
      obtain ⟨_, z0, z1, z2, z3⟩ := HT.out.res.all
      have hszr := HT.out.below.size
      go_wp2_with fail
      have zz := ((((HT.out.res.set0 (u := .int .i64 k)).set1 (u := .int .i64 R)).set2 (u := .slice aA (k * R) cA)).set3 (u := .slice aB (k * R) cB))
      refine bodyPost_ret (results_cell_row (p := 2) (by kernel_rfl) _ _ w.heap.size _ _ _ _ rfl zz Try.underlying27 rfl (by kernel_rfl)) rfl ?_
      have hbig : ∀ {X : List Int}, (∀ z ∈ X, Big z) → ∀ m, ∀ z ∈ tab (turnF X R k) m, Big z := by
        intro X hX m z hz
        obtain ⟨j, _, rfl⟩ := List.mem_map.1 hz
        exact getD_big hX _
      have rA := ownsRow_setCell_below (ownsRow_setCell_below (ownsRow_setCell_below (ownsRow_setCell_below HT.out.rowA (a := ⟨w.heap.size, 0, none⟩) (by show w.heap.size < w.heap.size + 2; omega) (.int .i64 k)) (a := ⟨w.heap.size, 1, none⟩) (by show w.heap.size < w.heap.size + 2; omega) (.int .i64 R)) (a := ⟨w.heap.size, 2, none⟩) (by show w.heap.size < w.heap.size + 2; omega) (.slice aA (k * R) cA)) (a := ⟨w.heap.size, 3, none⟩) (by show w.heap.size < w.heap.size + 2; omega) (.slice aB (k * R) cB)
      have rB := ownsRow_setCell_below (ownsRow_setCell_below (ownsRow_setCell_below (ownsRow_setCell_below HT.out.rowB (a := ⟨w.heap.size, 0, none⟩) (by show w.heap.size < w.heap.size + 2; omega) (.int .i64 k)) (a := ⟨w.heap.size, 1, none⟩) (by show w.heap.size < w.heap.size + 2; omega) (.int .i64 R)) (a := ⟨w.heap.size, 2, none⟩) (by show w.heap.size < w.heap.size + 2; omega) (.slice aA (k * R) cA)) (a := ⟨w.heap.size, 3, none⟩) (by show w.heap.size < w.heap.size + 2; omega) (.slice aB (k * R) cB)
      have bf := (((HT.out.below.setCell (p := ⟨w.heap.size, 0, none⟩) (Nat.le_refl _) (.int .i64 k)).setCell (p := ⟨w.heap.size, 1, none⟩) (Nat.le_refl _) (.int .i64 R)).setCell (p := ⟨w.heap.size, 2, none⟩) (Nat.le_refl _) (.slice aA (k * R) cA)).setCell (p := ⟨w.heap.size, 3, none⟩) (Nat.le_refl _) (.slice aB (k * R) cB)
      exact ⟨aA, cA, aB, cB, rfl, (own_of_row rA (hbig hBB.out _)).wide (Nat.le_add_right _ _) (Nat.le_refl _) (Nat.le_refl _), (own_of_row rB (hbig hBA.out _)).wide (Nat.le_add_right _ _) (Nat.le_refl _) (Nat.le_refl _), HT.out.apart, bf⟩
    | succ g =>
      have hlt : k < C := by omega
      go_wp2_with fail
      go_loopg [5] R (fun g2 ii wr => ∃ (i : Nat) (aA : Option Addr) (cA : Nat) (aB : Option Addr) (cB : Nat), i + g2 = R ∧ ii = .int .i64 i ∧ Hid (TSt w wr R C (k * R + i) (k * R + i) A B aA cA aB cB))
      case atStart => exact ⟨0, aA, cA, aB, cB, by omega, rfl, HT⟩
      case round =>
        clear HT u0 u1 u2 u3
        obtain ⟨i, aA, cA, aB, cB, hi', rfl, HT⟩ := hrel
        have hgb : Box4 wr n 27 (.int .i64 R) (.int .i64 C) (.slice (some ⟨b, off, none⟩) len c1) (.slice (some ⟨b', off', none⟩) len c2) := (HT.out.below.block n hn).trans HX.out
        obtain ⟨⟨u0, u1, u2, u3⟩, _⟩ := hgb.all
        clear hgb
        cases gk with
        | zero =>
          obtain rfl : i = R := by omega
          go_wp2_with fail
          go_roundg g
          case measure => omega
          case rel => exact ⟨k + 1, aA, cA, aB, cB, by omega, by go_num, by rw [Nat.succ_mul]; exact HT⟩
        | succ g2 =>
          have hil : i < R := by omega
          have hpl : i * C + k < len := by rw [← HL.out]; exact place_lt hil hlt
          have HSA : Hid (∀ wx : World, Below w.heap.size w wx → wx.cell? ⟨b, off + (i * C + k), none⟩ = some (.int .i64 (A.getD (i * C + k) 0))) := Lib.hid fun wx hx => (hx.cell (p := ⟨b, off + (i * C + k), none⟩) hb).trans (HC.out _ hpl)
          have HSB : Hid (∀ wx : World, Below w.heap.size w wx → wx.cell? ⟨b', off' + (i * C + k), none⟩ = some (.int .i64 (B.getD (i * C + k) 0))) := Lib.hid fun wx hx => (hx.cell (p := ⟨b', off' + (i * C + k), none⟩) hb').trans (HC'.out _ hpl)
          have HVA : Hid (A.getD (i * C + k) 0 = turnF A R C (k * R + i)) := Lib.hid (turnF_at hil).symm
          have HVB : Hid (B.getD (i * C + k) 0 = turnF B R C (k * R + i)) := Lib.hid (turnF_at hil).symm
          have htl : k * R + i < 36 := by
            have h1 : k * R + i < C * R := place_lt hlt hil
            rw [Nat.mul_comm C R, HL.out] at h1
            omega
          obtain ⟨p, hp⟩ : ∃ p, i * C = p := ⟨_, rfl⟩
          have hp' : (i : Int) * (C : Int) = (p : Int) := by rw [← hp]; push_cast; rfl
          rw [hp] at hpl HSA HSB HVA HVB
          clear hp
          have HTN : Hid (k * R + (i + 1) = k * R + i + 1) := Lib.hid rfl
          obtain ⟨t, ht⟩ : ∃ t, k * R + i = t := ⟨_, rfl⟩
          rw [ht] at HT HVA HVB htl HTN
          clear ht
          generalize A.getD (p + k) 0 = va at *
          generalize B.getD (p + k) 0 = vb at *
          have hsA := HSA.out wr HT.out.below
          have hsB := HSB.out wr HT.out.below
          obtain ⟨⟨o0, o1, o2, o3⟩, z0, z1, z2, z3⟩ := HT.out.out.all
          have hn2 := HT.out.out.lt
          have hbw := HT.out.below.size
          have hq0 : (0 : Int) ≤ (p : Int) + (k : Int) := by omega
          have hq1 : (p : Int) + (k : Int) < (len : Int) := by omega
          have hw1 : IntKind.i64.wrap (p : Int) = (p : Int) := by simp (disch := omega) only [IntWalk.i64_in]
          have hw2 : IntKind.i64.wrap ((p : Int) + (k : Int)) = (p : Int) + (k : Int) := by simp (disch := omega) only [IntWalk.i64_in]
          have hw3 : ((p : Int) + (k : Int)).toNat = p + k := by omega
          go_upto_region 8 with fail
          go_cut [] (fun wx => ∃ (aA : Option Addr) (cA : Nat), Hid (TSt w wx R C (t + 1) t A B aA cA aB cB))
          case first =>
            go_region_law ((refine step_append_lies _ (by rfl) _ _ _ (by rfl) (w.heap.size + 2) 2 i0 (.int .i64 0) 1 8 Try.underlying22 hi hz0 hz1 hz2 rfl (by omega) (.slice aA t cA) t _ (by rfl) (HT.out.rowA.alloc (.cells #[.int .i64 vb] 2)) ⟨wr.heap.size, 0, none⟩ 1 1 [.int .i64 vb] (by rfl) (by rfl) (news_one (W := wr) _ _ rfl) (one_int _) (by omega) (by unfold maxLen; omega) (by omega) (by simp; omega) (wr.heap.size + 1) (by simp) ?_; intro gg cap w1 hown1 hgrow hat hlt1; obtain ⟨⟨_, _, e2, e3⟩, _, _, f2, f3⟩ := (tst_boxA HT.out (Below.drew below1) hgrow).all))
            all_goals (try go_wp2_with fail)
            all_goals go_meet
            all_goals exact ⟨_, _, Lib.hid (tst_A HT.out (Below.drew below1) HVB.out hown1 hgrow hat)⟩
          case rest =>
            clear hsA hsB o0 o1 o2 o3 z0 z1 z2 z3 hn2 hbw u0 u1 u2 u3
            obtain ⟨aA', cA', HT1⟩ := hcut
            clear HT
            have hsA := HSA.out wc HT1.out.below
            have hsB := HSB.out wc HT1.out.below
            obtain ⟨⟨o0, o1, o2, o3⟩, z0, z1, z2, z3⟩ := HT1.out.out.all
            have hn2 := HT1.out.out.lt
            have hbw := HT1.out.below.size
            have hgb : Box4 wc n 27 (.int .i64 R) (.int .i64 C) (.slice (some ⟨b, off, none⟩) len c1) (.slice (some ⟨b', off', none⟩) len c2) := (HT1.out.below.block n hn).trans HX.out
            obtain ⟨⟨u0, u1, u2, u3⟩, _⟩ := hgb.all
            clear hgb
            go_wp2_with fail
            go_region_law ((refine step_append_lies _ (by rfl) _ _ _ (by rfl) (w.heap.size + 2) 2 i0 (.int .i64 0) 1 8 Try.underlying22 hi hz0 hz1 hz2 rfl (by omega) (.slice aB t cB) t _ (by rfl) (HT1.out.rowB.alloc (.cells #[.int .i64 va] 2)) ⟨wc.heap.size, 0, none⟩ 1 1 [.int .i64 va] (by rfl) (by rfl) (news_one (W := wc) _ _ rfl) (one_int _) (by omega) (by unfold maxLen; omega) (by omega) (by simp; omega) (wc.heap.size + 1) (by simp) ?_; intro gg cap w1 hown1 hgrow hat hlt1; obtain ⟨⟨_, _, e2, e3⟩, _, _, f2, f3⟩ := (tst_boxB HT1.out (Below.drew below1) hgrow).all))
            all_goals (
              have HT2 := Lib.hid (tst_B HT1.out (Below.drew below1) HVA.out hown1 hgrow hat)
              clear hown1 hgrow hat e2 e3 f2 f3 HT1
              go_wp2_with fail
              go_roundg g2
              case measure => omega
              case rel => exact ⟨i + 1, aA', cA', _, _, by omega, by go_num, by rw [HTN.out]; exact HT2⟩)
end Go.Proofs.Ytnmehenkbinfmaa
