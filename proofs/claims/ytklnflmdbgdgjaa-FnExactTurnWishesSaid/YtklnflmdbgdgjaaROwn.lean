/-
  Slices of slices that grow: each row in a block of its own, the outer row appended to; the reference's copies of lists and the program's.
-/
import Derived.Test.YtklnflmdbgdgjaaClone
import Derived.Test.YtklnflmdbgdgjaaSWishes
import Derived.Laws.AppendOwnNone
namespace Go.Proofs.Ytklnflmdbgdgjaa
open Go.RowKit Go.ChangeShapes Go.WideShapes
set_option linter.unusedVariables false

theorem Own.tight {w : World} {lo hi : Nat} {a : Option Addr} {len cap : Nat} {zs : List Int} (h : Own w lo hi a len cap zs) (h0 : 0 < len) : ∃ g, a = some ⟨g, 0, none⟩ ∧ lo ≤ g ∧ g < hi ∧ Own w g (g + 1) a len cap zs ∧ ∃ cur, w.heap[g]? = some (.cells cur 2 (0, 0)) := by
  obtain ⟨h1, h2, h3, h4, h5⟩ := h
  rcases h5.2 with ⟨e, rfl⟩ | ⟨g, cap', cur, e, hg, hh, hn, hm, hx⟩
  · omega
  · simp only [Value.slice.injEq, true_and] at e
    obtain ⟨rfl, rfl⟩ := e
    have hgh := h4 _ rfl
    refine ⟨g, rfl, hg, hgh, ⟨h1, h2, by simp at hgh; omega, fun x hx => by cases hx; simp, h5.1, .inr ⟨g, cap, cur, rfl, Nat.le_refl _, hh, hn, hm, hx⟩⟩, cur, hh⟩

/-- the first k rows of Zs, the outer row of the call's own -/
structure GRows (w : World) (Zs : List (List Int)) (k : Nat) (wr : World) (a : Option Addr) (cap : Nat) (V : List Value) (p q : Nat → Nat) (A : Nat → Option Addr) (C : Nat → Nat) : Prop where
  vlen : V.length = k
  own : wr.ownsRow w.heap.size 35 1 (.slice a k cap) k V
  rows : ∀ i, i < k → V[i]? = some (.slice (A i) (rl Zs i) (C i)) ∧ OwnE wr (p i) (q i) (A i) (rl Zs i) (C i) (Zs.getD i []) ∧ w.heap.size ≤ p i ∧ q i ≤ wr.heap.size ∧
    (p i = q i ∨ (q i = p i + 1 ∧ ∃ cur, wr.heap[p i]? = some (.cells cur 2 (0, 0))))
  apart : ∀ i j, i < j → j < k → q i ≤ p j
  below : Below w.heap.size w wr

theorem GRows.nil {w wr : World} {Zs : List (List Int)} {a : Option Addr} {cap : Nat} (h : wr.ownsRow w.heap.size 35 1 (.slice a 0 cap) 0 []) (hb : Below w.heap.size w wr) :
    GRows w Zs 0 wr a cap [] (fun _ => 0) (fun _ => 0) (fun _ => none) (fun _ => 0) :=
  ⟨rfl, h, fun i hi => absurd hi (by omega), fun i j _ hj => absurd hj (by omega), hb⟩

theorem GRows.step {w wr w2 w3 : World} {Zs : List (List Int)} {k : Nat} {a : Option Addr} {cap : Nat} {V : List Value} {p q : Nat → Nat} {A : Nat → Option Addr} {C : Nat → Nat} {a2 a' : Option Addr} {c2 cap' : Nat} {o : Obj}
    (h : GRows w Zs k wr a cap V p q A C) (b2 : Below wr.heap.size wr w2) (o2 : OwnE w2 wr.heap.size w2.heap.size a2 (rl Zs k) c2 (Zs.getD k []))
    (hown : w3.ownsRow w.heap.size 35 1 (.slice a' (k + 1) cap') (k + 1) (V ++ [.slice a2 (rl Zs k) c2])) (hgrow : (w2.alloc o).grownBy w3 (Value.ownBlock (.slice a k cap))) :
    ∃ p' q' A' C', GRows w Zs (k + 1) w3 a' cap' (V ++ [.slice a2 (rl Zs k) c2]) p' q' A' C' := by
  obtain ⟨vlen, own, rows, apart, below⟩ := h
  have hs2 := b2.size
  have hs3 : w2.heap.size + 1 ≤ w3.heap.size := by have := hgrow.size; simpa using this
  have hlt : ∀ g, Value.ownBlock (.slice a k cap) = some g → w.heap.size ≤ g ∧ g < wr.heap.size := fun g hg => own.lt g hg
  have kept : ∀ b, b < w2.heap.size → some b ≠ Value.ownBlock (.slice a k cap) → w3.heap[b]? = w2.heap[b]? := fun b hb hne =>
    (hgrow.block b (by simp; omega) hne).trans (Below.heap_alloc _ _ _ (by omega))
  -- the new row's place
  obtain ⟨np, nq, hnp, hnq, hnlo, hnew, hntight⟩ : ∃ np nq, wr.heap.size ≤ np ∧ nq ≤ w3.heap.size ∧ w.heap.size ≤ np ∧ OwnE w3 np nq a2 (rl Zs k) c2 (Zs.getD k []) ∧ (np = nq ∨ (nq = np + 1 ∧ ∃ cur, w3.heap[np]? = some (.cells cur 2 (0, 0)))) := by
    have hwr : w.heap.size ≤ wr.heap.size := below.size
    rcases o2 with ⟨h0, hz, hn⟩ | o2
    · exact ⟨w2.heap.size, w2.heap.size, hs2, by omega, by omega, .inl ⟨h0, hz, hn⟩, .inl rfl⟩
    · by_cases h0 : rl Zs k = 0
      · have hz : Zs.getD k [] = [] := List.eq_nil_of_length_eq_zero h0
        exact ⟨w2.heap.size, w2.heap.size, hs2, by omega, by omega, .inl ⟨h0, hz, o2.fits.2⟩, .inl rfl⟩
      · obtain ⟨g, e, hg1, hg2, ho, cur, hc⟩ := o2.tight (by omega)
        have hne : some g ≠ Value.ownBlock (.slice a k cap) := fun e => by
          have := (hlt g e.symm).2
          omega
        refine ⟨g, g + 1, hg1, by omega, by omega, .inr (ho.keep (by omega) fun b h1 h2 => ?_), .inr ⟨rfl, cur, (kept g hg2 hne).trans hc⟩⟩
        obtain rfl : b = g := by omega
        exact kept b hg2 hne
  refine ⟨fun i => if i = k then np else p i, fun i => if i = k then nq else q i, fun i => if i = k then a2 else A i, fun i => if i = k then c2 else C i, by simp [vlen], hown, ?_, ?_, ?_⟩
  · intro i hi
    by_cases e : i = k
    · subst e
      simp only [if_true]
      exact ⟨by rw [List.getElem?_append_right (by omega), vlen, Nat.sub_self]; rfl, hnew, hnlo, hnq, hntight⟩
    · simp only [if_neg e]
      obtain ⟨r1, r2, r3, r4, r5⟩ := rows i (by omega)
      have hb : ∀ b, p i ≤ b → b < q i → w3.heap[b]? = wr.heap[b]? := fun b h1 h2 => by
        have hbwr : b < wr.heap.size := by omega
        refine (kept b (by omega) fun e => ?_).trans (b2.block b hbwr)
        rcases r5 with r5 | ⟨r5, cur, r6⟩
        · omega
        · obtain rfl : b = p i := by omega
          rcases own.2 with ⟨e1, e2⟩ | ⟨g, cap'', cur', e1, _, e3, _⟩
          · simp only [Value.slice.injEq] at e1
            rw [e1.1] at e
            cases e
          · simp only [Value.slice.injEq, true_and] at e1
            rw [e1.1] at e
            simp only [Value.ownBlock, Option.some.injEq] at e
            rw [← e, r6] at e3
            simp at e3
      refine ⟨by rw [List.getElem?_append_left (by omega)]; exact r1, r2.keep (by omega) hb, r3, by omega, ?_⟩
      rcases r5 with r5 | ⟨r5, cur, r6⟩
      · exact .inl r5
      · exact .inr ⟨r5, cur, (hb (p i) (Nat.le_refl _) (by omega)).trans r6⟩
  · intro i j hij hj
    by_cases ei : i = k
    · omega
    · simp only [if_neg ei]
      by_cases ej : j = k
      · simp only [if_pos ej]
        have := (rows i (by omega)).2.2.2.1
        omega
      · simp only [if_neg ej]
        exact apart i j hij (by omega)
  · exact Below.grown ((below_after below (Nat.le_refl _) b2).alloc (by have := below.size; omega) _) hgrow (by have := below.size; simp; omega) (fun g hg => (hlt g hg).1)

theorem GRows.done {w wr : World} {Zs : List (List Int)} {k : Nat} {a : Option Addr} {cap : Nat} {V : List Value} {p q : Nat → Nat} {A : Nat → Option Addr} {C : Nat → Nat} (h : GRows w Zs k wr a cap V p q A C) (hL : Zs.length = k) (hm : k ≤ maxLen) :
    OwnR wr w.heap.size wr.heap.size a k cap Zs := by
  obtain ⟨vlen, own, rows, apart, below⟩ := h
  rcases own.2 with ⟨e1, e2⟩ | ⟨g, cap', cur, e1, e2, e3, e4, e5, e6⟩
  · subst e2
    obtain rfl := List.eq_nil_of_length_eq_zero hL
    exact ownR_nil _ (Nat.le_refl _) _ _
  · simp only [Value.slice.injEq, true_and] at e1
    obtain ⟨rfl, rfl⟩ := e1
    refine ⟨hL, hm, e4, Nat.le_refl _, .inr ⟨g, p, q, A, C, rfl, e2, ?_, fun i hi => ?_, apart⟩⟩
    · have := own.lt g rfl
      exact this.2
    · obtain ⟨r1, r2, r3, r4, r5⟩ := rows i hi
      refine ⟨(own.cellAt i (by omega)).trans r1, r2, r3, r4, ?_⟩
      rcases r5 with r5 | ⟨r5, cur', r6⟩
      · omega
      · by_cases hg : g = p i
        · rw [← hg, e3] at r6
          simp at r6
        · omega

/-- rows of the call's own -/
def RowsRet (w : World) (Zs : List (List Int)) (e : Ending) (w' : World) : Prop :=
  ∃ a len cap, e = .returned (.slice a len cap) ∧ OwnR w' w.heap.size w'.heap.size a len cap Zs ∧ Below w.heap.size w w'
theorem one_slice (a : Option Addr) (l c : Nat) : ∀ u ∈ [Value.slice a l c], u.oneCell' = true := by
  intro u hu
  simp only [List.mem_singleton] at hu
  subst hu
  rfl

set_option maxHeartbeats 1000000 in
theorem copiesOf_any (a : Option Addr) (len cap : Nat) (Zs : List (List Int)) (w : World) (hl : len ≤ 1048576) (hT : tot Zs ≤ 1048576) (h : RAt w a len Zs) :
    Calls Try.prog 32 #[.slice a len cap] w (RowsRet w Zs) := by
  obtain ⟨i0, hi, hz0, hz1, hz2⟩ := info_parts (P := Try.prog) (e := 35) (z := .slice none 0 0) (size := 1) (bytes := 24) (by kernel_rfl)
  obtain ⟨h1, h2, h3⟩ := h
  have HR := Lib.hid h3
  have H1 := Lib.hid h1
  have HT := Lib.hid hT
  clear h1 h2 h3 hT
  go_enter Try.func32, Try.ntmps32
  go_wp2_with fail
  go_loopw [3, 8] (fun o x wr => ∃ (k : Nat) (b : Option Addr) (c : Nat) (V : List Value) (p q : Nat → Nat) (A : Nat → Option Addr) (C : Nat → Nat), k ≤ len ∧ x = .int .i64 k ∧ o = .slice b k c ∧ Hid (GRows w Zs k wr b c V p q A C)) (fun _ x _ => len - (intOf x).toNat)
  case atStart => exact ⟨0, none, 0, [], _, _, _, _, Nat.zero_le _, rfl, rfl, Lib.hid (GRows.nil (World.ownsRow_nil _ _ _ _) (Below.refl _ _))⟩
  case round =>
    obtain ⟨k, b, c, V, p, q, A, C, hk, rfl, rfl, HG⟩ := hrel
    by_cases hlt : k < len
    · obtain ⟨bs, off, rfl, hb, hr⟩ : ∃ b off, a = some ⟨b, off, none⟩ ∧ b < w.heap.size ∧ ∀ i, i < len → ∃ ai ci, w.cell? ⟨b, off + i, none⟩ = some (.slice ai (rl Zs i) ci) ∧ Fits ai (rl Zs i) ci ∧ IAt w ai (rl Zs i) (Zs.getD i []) := by
        rcases HR.out with e | g
        · omega
        · exact g
      obtain ⟨ai, ci, hc, _, hz⟩ := hr k hlt
      have hsrc : wr.cell? ⟨bs, off + k, none⟩ = some (.slice ai (rl Zs k) ci) := (HG.out.below.cell (p := ⟨bs, off + k, none⟩) hb).trans hc
      have HZ := Lib.hid (hz.below HG.out.below)
      have hle : rl Zs k ≤ 1048576 := Nat.le_trans (rl_le Zs k) HT.out
      have HST : Hid (∀ (w2 w3 : World) (a2 a' : Option Addr) (c2 cap' : Nat) (ob : Obj), Below wr.heap.size wr w2 → OwnE w2 wr.heap.size w2.heap.size a2 (rl Zs k) c2 (Zs.getD k []) →
          w3.ownsRow w.heap.size 35 1 (.slice a' (k + 1) cap') (k + 1) (V ++ [.slice a2 (rl Zs k) c2]) → (w2.alloc ob).grownBy w3 (Value.ownBlock (.slice b k c)) →
          ∃ p' q' A' C', GRows w Zs (k + 1) w3 a' cap' (V ++ [.slice a2 (rl Zs k) c2]) p' q' A' C') := Lib.hid fun w2 w3 a2 a' c2 cap' ob g1 g2 g3 g4 => HG.out.step g1 g2 g3 g4
      have hZl : (Zs.getD k []).length = rl Zs k := rfl
      clear hc hz hr
      generalize Zs.getD k [] = Z at *
      generalize rl Zs k = l at *
      have HZL := Lib.hid hZl
      clear hZl
      go_wp2_with fail
      refine (clone_any ai l ci Z wr hle HZ.out).mono ?_
      rintro e w2 ⟨a2, l2, c2, rfl, hl2, o2, b2⟩
      obtain rfl : l2 = l := hl2.symm.trans HZL.out
      have HO2 := Lib.hid o2
      have HB2 := Lib.hid b2
      have hs2 : w.heap.size ≤ w2.heap.size := Nat.le_trans HG.out.below.size b2.size
      have HOW : Hid (w2.ownsRow w.heap.size 35 1 (.slice b k c) k V) := Lib.hid (ownsRow_block HG.out.own fun g hg => b2.block g (HG.out.own.lt g hg).2)
      clear o2 b2 HG HZ hl2 HZL
      go_wp2_with (at_builtin; refine wpList_append_own _ rfl (.tmp 12) (.tmp 15) 22 rfl w.heap.size 35 i0 (.slice none 0 0) 1 24 Try.underlying22 hi hz0 hz1 hz2 rfl (by decide) _ k _ rfl (HOW.out.alloc _) ⟨w2.heap.size, 0, none⟩ 1 1 [.slice a2 l2 c2] rfl rfl (news_one _ _ (by simp)) (one_slice _ _ _) (by unfold maxLen; omega) (by omega) (by simp; omega) ?_)
      intro v' w3 hown hgrow _
      obtain ⟨a', cap', rfl⟩ := row_slice hown
      have HG2 := Lib.hid (HST.out w2 w3 a2 a' c2 cap' _ HB2.out HO2.out hown hgrow)
      clear hown hgrow HST HO2 HB2 HOW
      go_wp2_with fail
      go_roundw
      case rel =>
        obtain ⟨p', q', A', C', hG⟩ := HG2.out
        exact ⟨k + 1, a', cap', _, p', q', A', C', by omega, by go_num, rfl, Lib.hid hG⟩
      case measure => simp [intOf]; omega
    · obtain rfl : k = len := by omega
      go_wp2_with fail
      go_ret
      exact ⟨b, k, c, rfl, HG.out.done H1.out (by unfold maxLen; omega), HG.out.below⟩
end Go.Proofs.Ytklnflmdbgdgjaa
