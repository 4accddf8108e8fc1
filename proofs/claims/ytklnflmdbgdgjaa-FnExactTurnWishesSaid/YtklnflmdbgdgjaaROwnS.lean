/-
  The reference's copy of lists.
-/
import Derived.Test.YtklnflmdbgdgjaaROwn
namespace Go.Proofs.Ytklnflmdbgdgjaa
open Go.RowKit Go.ChangeShapes Go.WideShapes
set_option linter.unusedVariables false

set_option maxHeartbeats 1000000 in
theorem specOwnR_any (a : Option Addr) (len cap : Nat) (Zs : List (List Int)) (w : World) (hl : len ≤ 1048576) (hT : tot Zs ≤ 1048576) (h : RAt w a len Zs) :
    Calls Try.prog 31 #[.slice a len cap] w (RowsRet w Zs) := by
  obtain ⟨i0, hi, hz0, hz1, hz2⟩ := info_parts (P := Try.prog) (e := 35) (z := .slice none 0 0) (size := 1) (bytes := 24) (by kernel_rfl)
  obtain ⟨j0, hj, hy0, hy1, hy2⟩ := info_parts (P := Try.prog) (e := 2) (z := .int .i64 0) (size := 1) (bytes := 8) (by kernel_rfl)
  obtain ⟨h1, h2, h3⟩ := h
  have HR := Lib.hid h3
  have H1 := Lib.hid h1
  have HT := Lib.hid hT
  clear h1 h2 h3 hT
  go_enter Try.func31, Try.ntmps31
  go_wp2_with fail
  have hg0 := GRows.nil (w := w) (Zs := Zs) (World.ownsRow_lit (base := w.heap.size) (e := 35) (size := 1) w #[] 0 (Nat.le_refl _) (by decide) rfl) (below1 (w := w))
  have HG0 := Lib.hid hg0
  clear hg0
  go_loopw [3, 8] (fun o x wr => ∃ (k : Nat) (b : Option Addr) (c : Nat) (V : List Value) (p q : Nat → Nat) (A : Nat → Option Addr) (C : Nat → Nat), k ≤ len ∧ x = .int .i64 k ∧ o = .slice b k c ∧ Hid (GRows w Zs k wr b c V p q A C)) (fun _ x _ => len - (intOf x).toNat)
  case atStart => exact ⟨0, _, 0, [], _, _, _, _, Nat.zero_le _, rfl, rfl, HG0⟩
  case round =>
    clear HG0
    obtain ⟨k, b, c, V, p, q, A, C, hk, rfl, rfl, HG⟩ := hrel
    by_cases hlt : k < len
    · obtain ⟨bs, off, rfl, hb, hr⟩ : ∃ b off, a = some ⟨b, off, none⟩ ∧ b < w.heap.size ∧ ∀ i, i < len → ∃ ai ci, w.cell? ⟨b, off + i, none⟩ = some (.slice ai (rl Zs i) ci) ∧ Fits ai (rl Zs i) ci ∧ IAt w ai (rl Zs i) (Zs.getD i []) := by
        rcases HR.out with e | g
        · omega
        · exact g
      obtain ⟨ai, ci, hc, hci, hz⟩ := hr k hlt
      have hbw : bs < wr.heap.size := Nat.lt_of_lt_of_le hb HG.out.below.size
      have hwz := HG.out.below.size
      have hsrc : (wr.alloc (.cells #[] 2)).cell? ⟨bs, off + k, none⟩ = some (.slice ai (rl Zs k) ci) := (below1.cell (p := ⟨bs, off + k, none⟩) hbw).trans ((HG.out.below.cell (p := ⟨bs, off + k, none⟩) hb).trans hc)
      have HZ := Lib.hid ((hz.below HG.out.below).below (below1 (o := .cells #[] 2)))
      have hle : rl Zs k ≤ 1048576 := Nat.le_trans (rl_le Zs k) HT.out
      have HST : Hid (∀ (w2 w3 : World) (a2 a' : Option Addr) (c2 cap' : Nat) (ob : Obj), Below wr.heap.size wr w2 → OwnE w2 wr.heap.size w2.heap.size a2 (rl Zs k) c2 (Zs.getD k []) →
          w3.ownsRow w.heap.size 35 1 (.slice a' (k + 1) cap') (k + 1) (V ++ [.slice a2 (rl Zs k) c2]) → (w2.alloc ob).grownBy w3 (Value.ownBlock (.slice b k c)) →
          ∃ p' q' A' C', GRows w Zs (k + 1) w3 a' cap' (V ++ [.slice a2 (rl Zs k) c2]) p' q' A' C') := Lib.hid fun w2 w3 a2 a' c2 cap' ob g1 g2 g3 g4 => HG.out.step g1 g2 g3 g4
      have hZl : (Zs.getD k []).length = rl Zs k := rfl
      have HOWN : Hid (wr.ownsRow w.heap.size 35 1 (.slice b k c) k V) := Lib.hid HG.out.own
      clear hc hz hr HG
      generalize Zs.getD k [] = Z at *
      generalize rl Zs k = l at *
      have HZL := Lib.hid hZl
      clear hZl
      cases ai with
      | none =>
        have h0 : l = 0 := by
          rcases HZ.out.2.2.2 with h | ⟨b, off, e, _⟩
          · exact h
          · cases e
        subst h0
        obtain rfl : Z = [] := List.eq_nil_of_length_eq_zero HZL.out
        obtain rfl : ci = 0 := hci.2 rfl
        have HB2 := Lib.hid (below1 (w := wr) (o := .cells #[] 2))
        have hz2 : (wr.alloc (.cells #[] 2)).heap.size = wr.heap.size + 1 := by simp
        have HO2 : Hid (OwnE (wr.alloc (.cells #[] 2)) wr.heap.size (wr.alloc (.cells #[] 2)).heap.size (some ⟨wr.heap.size, 0, none⟩) 0 0 []) := Lib.hid (.inl ⟨rfl, rfl, fun e => by cases e⟩)
        have HOW : Hid ((wr.alloc (.cells #[] 2)).ownsRow w.heap.size 35 1 (.slice b k c) k V) := Lib.hid (HOWN.out.alloc _)
        have hs2 : w.heap.size ≤ (wr.alloc (.cells #[] 2)).heap.size := by omega
        clear HZ HZL HOWN hz2
        go_wp2_with (first
          | (at_builtin; refine wpList_append_own_none rfl (.tmp 12) (.tmp 16) 35 rfl wr.heap.size 2 j0 1 Try.underlying35 hj _ 0 [] rfl (World.ownsRow_lit wr #[] 0 (Nat.le_refl _) (by decide) rfl) rfl ?_)
          | (at_builtin; refine wpList_append_own _ rfl (.tmp 11) (.tmp 18) 22 rfl w.heap.size 35 i0 (.slice none 0 0) 1 24 Try.underlying22 hi hz0 hz1 hz2 rfl (by decide) _ k _ rfl (HOW.out.alloc _) ⟨wr.heap.size + 1, 0, none⟩ 1 1 [.slice (some ⟨wr.heap.size, 0, none⟩) 0 0] rfl rfl (news_one _ _ (by simp)) (one_slice _ _ _) (by unfold maxLen; omega) (by omega) (by simp; omega) ?_))
        intro v' w3 hown hgrow _
        obtain ⟨a', cap', rfl⟩ := row_slice hown
        have HG2 := Lib.hid (HST.out _ w3 _ a' 0 cap' _ HB2.out HO2.out hown hgrow)
        clear hown hgrow HST HO2 HB2 HOW
        go_wp2_with fail
        go_roundw
        case rel =>
          obtain ⟨p', q', A', C', hG⟩ := HG2.out
          exact ⟨k + 1, a', cap', _, p', q', A', C', by omega, by go_num, rfl, Lib.hid hG⟩
        case measure => simp [intOf]; omega
      | some ad =>
        have HN : Hid (∀ j u, (Z.map (Value.int .i64))[j]? = some u → (wr.alloc (.cells #[] 2)).cell? (ad.add j) = some u) := by
          rcases HZ.out.2.2.2 with rfl | ⟨b, off, e, hb, hc⟩
          · obtain rfl := List.eq_nil_of_length_eq_zero HZL.out
            exact Lib.hid (fun j u hj => by simp at hj)
          · obtain rfl : ad = ⟨b, off, none⟩ := by simpa using e
            exact Lib.hid (news_ints HZL.out hc)
        have HBIG := Lib.hid HZ.out.2.2.1
        clear HZ
        go_wp2_with (at_builtin; refine wpList_append_own _ rfl (.tmp 12) (.tmp 16) 35 rfl wr.heap.size 2 j0 (.int .i64 0) 1 8 Try.underlying35 hj hy0 hy1 hy2 rfl (by decide) _ 0 [] rfl (World.ownsRow_lit wr #[] 0 (Nat.le_refl _) (by decide) rfl) ad l ci (Z.map (Value.int .i64)) rfl (by rw [List.length_map, HZL.out, Nat.mul_one]) HN.out (ints_one Z) (by unfold maxLen; omega) (by omega) (by simp) ?_)
        intro v2 w2 hown hgrow _
        obtain ⟨a2, c2, rfl⟩ := row_slice hown
        have hb2 : Below wr.heap.size wr w2 := Below.grown (below1 (w := wr)) hgrow (by simp) (fun k hk => by
          have := (World.ownsRow.lt (World.ownsRow_lit wr #[] 0 (Nat.le_refl _) (by decide) rfl : (wr.alloc (.cells #[] 2)).ownsRow wr.heap.size 2 1 _ 0 []) k hk).1
          exact this)
        have HO2 : Hid (OwnE w2 wr.heap.size w2.heap.size a2 l c2 Z) := Lib.hid (.inr (own_of_row hown HBIG.out))
        have HB2 := Lib.hid hb2
        have hs2 : w.heap.size ≤ w2.heap.size := Nat.le_trans hwz hb2.size
        have HOW : Hid (w2.ownsRow w.heap.size 35 1 (.slice b k c) k V) := Lib.hid (ownsRow_block HOWN.out fun g hg => hb2.block g (HOWN.out.lt g hg).2)
        clear hown hgrow hb2 HN HOWN HZL
        go_wp2_with (at_builtin; refine wpList_append_own _ rfl (.tmp 11) (.tmp 18) 22 rfl w.heap.size 35 i0 (.slice none 0 0) 1 24 Try.underlying22 hi hz0 hz1 hz2 rfl (by decide) _ k _ rfl (HOW.out.alloc _) ⟨w2.heap.size, 0, none⟩ 1 1 [.slice a2 l c2] rfl rfl (news_one _ _ (by simp)) (one_slice _ _ _) (by unfold maxLen; omega) (by omega) (by simp; omega) ?_)
        intro v' w3 hown hgrow _
        obtain ⟨a', cap', rfl⟩ := row_slice hown
        have HG2 := Lib.hid (HST.out w2 w3 a2 a' c2 cap' _ HB2.out HO2.out hown hgrow)
        clear hown hgrow HST HO2 HB2 HOW
        go_wp2_with fail
        go_roundw
        case rel =>
          obtain ⟨p', q', A', C', hG⟩ := HG2.out
          exact ⟨k + 1, a', cap', _, p', q', A', C', by omega, by go_num, rfl, Lib.hid hG⟩
        case measure => simp [intOf]; omega
    · obtain rfl : k = len := by omega
      go_wp2_with fail
      go_ret
      exact ⟨b, k, c, rfl, HG.out.done H1.out (by unfold maxLen; omega), HG.out.below⟩
end Go.Proofs.Ytklnflmdbgdgjaa
