/-
  The program's better answer of one player.
-/
import Derived.Test.YtpopmcgieegikaaGBetV
namespace Go.Proofs.Ytpopmcgieegikaa
open Go.RowKit Go.ChangeShapes Go.WideShapes
set_option linter.unusedVariables false

set_option maxHeartbeats 2000000 in
set_option maxRecDepth 20000 in
theorem betterFirst_any (f : Nat → Int) (own oth K x n : Nat) (w : World) (h1 : 1 ≤ own) (h6 : own ≤ 6) (hn : n < w.heap.size) (hx : x < own)
    (hG : ∀ (y : Nat) (w' : World), y < own → Below w.heap.size w w' → Calls Try.prog 114 #[.int .i64 y, .int .i64 K, .pointer (some ⟨n, 0, none⟩)] w' fun e w'' => e = .returned (.int .i64 (f y)) ∧ w' = w'') :
    Calls Try.prog 107 #[sideV own oth 114 n, .int .i64 x, .int .i64 K] w fun e w' => e = .returned (.tuple #[.int .i64 (bestHead f own : Nat), .bool (decide (f x < f (bestHead f own)))]) ∧ Below w.heap.size w w' := by
  obtain ⟨t, ht, hlt⟩ := bestHead_cons f h1
  obtain ⟨h, hh⟩ : ∃ h, bestHead f own = h := ⟨_, rfl⟩
  rw [hh] at ht hlt ⊢
  clear hh
  obtain ⟨v1, hv1⟩ : ∃ v, f h = v := ⟨_, rfl⟩
  obtain ⟨v2, hv2⟩ : ∃ v, f x = v := ⟨_, rfl⟩
  rw [hv1, hv2]
  have HV1 := Lib.hid hv1
  have HV2 := Lib.hid hv2
  clear hv1 hv2
  have HT := Lib.hid ht
  have HG := Lib.hid hG
  clear hG ht
  go_enter Try.func107, Try.ntmps107
  go_wp2_with fail
  refine (bestFirst_any f own oth K n _ h1 h6 (by simp; omega) (fun y w' hy hw => HG.out y w' hy (below_after below1 (Nat.le_refl _) hw))).mono ?_
  rintro e w1 ⟨a, l, cap, rfl, ho, b1⟩
  rw [HT.out] at ho
  have hbx : w1.heap[w.heap.size]? = some (.cells #[.int .i64 own, .int .i64 oth, .func (.func 114) #[] #[.pointer (some ⟨n, 0, none⟩)]] 73 (0, 0)) := (b1.block _ (by simp)).trans heap1
  have x2 : w1.cell? ⟨w.heap.size, 2, none⟩ = some (.func (.func 114) #[] #[.pointer (some ⟨n, 0, none⟩)]) := by rw [cell_of_row w1 _ 2 _ _ (0, 0) hbx]; rfl
  have x0 : w1.cell? ⟨w.heap.size, 0, none⟩ = some (.int .i64 own) := by rw [cell_of_row w1 _ 0 _ _ (0, 0) hbx]; rfl
  have x1 : w1.cell? ⟨w.heap.size, 1, none⟩ = some (.int .i64 oth) := by rw [cell_of_row w1 _ 1 _ _ (0, 0) hbx]; rfl
  have BB := Lib.hid (below_after below1 (Nat.le_refl _) b1)
  obtain ⟨g1, _, g3, g4 | ⟨g, off, rfl, hgb, hgc⟩⟩ := ho.iat
  · subst g4
    simp [ints] at g1
  · have hl1 : 1 ≤ l := by rw [← g1]; simp [ints]
    have y0 : w1.cell? ⟨g, off, none⟩ = some (.int .i64 h) := (hgc 0 (by omega)).trans rfl
    clear hgc g1 g3 ho hbx b1
    go_wp2_with fail
    go_quiet (first
      | (go_at_call_of 114 (Value.int IntKind.i64 (h : Int)); refine (HG.out h _ hlt (BB.out.trans (same_below ⟨_, rfl⟩ _))).mono ?_; rintro e w2 ⟨rfl, h2⟩; rw [HV1.out]; exact ⟨rfl, _, h2.symm⟩)
      | (go_at_call_of 114 (Value.int IntKind.i64 (x : Int)); refine (HG.out x _ hx (BB.out.trans (same_below ⟨_, rfl⟩ _))).mono ?_; rintro e w2 ⟨rfl, h2⟩; rw [HV2.out]; exact ⟨rfl, _, h2.symm⟩))
    go_wp2_with fail
    go_ret2
    exact ⟨rfl, BB.out.trans (same_below ⟨_, rfl⟩ _)⟩

set_option maxHeartbeats 2000000 in
set_option maxRecDepth 20000 in
theorem betterSecond_any (f : Nat → Int) (own oth K x n : Nat) (w : World) (h1 : 1 ≤ own) (h6 : own ≤ 6) (hn : n < w.heap.size) (hx : x < own)
    (hG : ∀ (y : Nat) (w' : World), y < own → Below w.heap.size w w' → Calls Try.prog 115 #[.int .i64 y, .int .i64 K, .pointer (some ⟨n, 0, none⟩)] w' fun e w'' => e = .returned (.int .i64 (f y)) ∧ w' = w'') :
    Calls Try.prog 107 #[sideV own oth 115 n, .int .i64 x, .int .i64 K] w fun e w' => e = .returned (.tuple #[.int .i64 (bestHead f own : Nat), .bool (decide (f x < f (bestHead f own)))]) ∧ Below w.heap.size w w' := by
  obtain ⟨t, ht, hlt⟩ := bestHead_cons f h1
  obtain ⟨h, hh⟩ : ∃ h, bestHead f own = h := ⟨_, rfl⟩
  rw [hh] at ht hlt ⊢
  clear hh
  obtain ⟨v1, hv1⟩ : ∃ v, f h = v := ⟨_, rfl⟩
  obtain ⟨v2, hv2⟩ : ∃ v, f x = v := ⟨_, rfl⟩
  rw [hv1, hv2]
  have HV1 := Lib.hid hv1
  have HV2 := Lib.hid hv2
  clear hv1 hv2
  have HT := Lib.hid ht
  have HG := Lib.hid hG
  clear hG ht
  go_enter Try.func107, Try.ntmps107
  go_wp2_with fail
  refine (bestSecond_any f own oth K n _ h1 h6 (by simp; omega) (fun y w' hy hw => HG.out y w' hy (below_after below1 (Nat.le_refl _) hw))).mono ?_
  rintro e w1 ⟨a, l, cap, rfl, ho, b1⟩
  rw [HT.out] at ho
  have hbx : w1.heap[w.heap.size]? = some (.cells #[.int .i64 own, .int .i64 oth, .func (.func 115) #[] #[.pointer (some ⟨n, 0, none⟩)]] 73 (0, 0)) := (b1.block _ (by simp)).trans heap1
  have x2 : w1.cell? ⟨w.heap.size, 2, none⟩ = some (.func (.func 115) #[] #[.pointer (some ⟨n, 0, none⟩)]) := by rw [cell_of_row w1 _ 2 _ _ (0, 0) hbx]; rfl
  have x0 : w1.cell? ⟨w.heap.size, 0, none⟩ = some (.int .i64 own) := by rw [cell_of_row w1 _ 0 _ _ (0, 0) hbx]; rfl
  have x1 : w1.cell? ⟨w.heap.size, 1, none⟩ = some (.int .i64 oth) := by rw [cell_of_row w1 _ 1 _ _ (0, 0) hbx]; rfl
  have BB := Lib.hid (below_after below1 (Nat.le_refl _) b1)
  obtain ⟨g1, _, g3, g4 | ⟨g, off, rfl, hgb, hgc⟩⟩ := ho.iat
  · subst g4
    simp [ints] at g1
  · have hl1 : 1 ≤ l := by rw [← g1]; simp [ints]
    have y0 : w1.cell? ⟨g, off, none⟩ = some (.int .i64 h) := (hgc 0 (by omega)).trans rfl
    clear hgc g1 g3 ho hbx b1
    go_wp2_with fail
    go_quiet (first
      | (go_at_call_of 115 (Value.int IntKind.i64 (h : Int)); refine (HG.out h _ hlt (BB.out.trans (same_below ⟨_, rfl⟩ _))).mono ?_; rintro e w2 ⟨rfl, h2⟩; rw [HV1.out]; exact ⟨rfl, _, h2.symm⟩)
      | (go_at_call_of 115 (Value.int IntKind.i64 (x : Int)); refine (HG.out x _ hx (BB.out.trans (same_below ⟨_, rfl⟩ _))).mono ?_; rintro e w2 ⟨rfl, h2⟩; rw [HV2.out]; exact ⟨rfl, _, h2.symm⟩))
    go_wp2_with fail
    go_ret2
    exact ⟨rfl, BB.out.trans (same_below ⟨_, rfl⟩ _)⟩
end Go.Proofs.Ytpopmcgieegikaa
