/-
  slices.Clone of a list of numbers.
-/
import Derived.Test.YtnmehenkbinfmaaSS
namespace Go.Proofs.Ytnmehenkbinfmaa
open Go.RowKit Go.ChangeShapes Go.WideShapes
set_option linter.unusedVariables false

/-- a list in a row of the call's own, or without numbers -/
def RowE (w : World) (zs : List Int) (e : Ending) (w' : World) : Prop :=
  ∃ a len cap, e = .returned (.slice a len cap) ∧ zs.length = len ∧ OwnE w' w.heap.size w'.heap.size a len cap zs ∧ Below w.heap.size w w'

theorem news_ints {w : World} {b off len : Nat} {zs : List Int} (hz : zs.length = len) (hc : ∀ i, i < len → w.cell? ⟨b, off + i, none⟩ = some (.int .i64 (zs.getD i 0))) :
    ∀ j u, (zs.map (Value.int .i64))[j]? = some u → w.cell? ((⟨b, off, none⟩ : Addr).add j) = some u := by
  intro j u hj
  have hjl : j < zs.length := by
    by_cases h : j < zs.length
    · exact h
    · rw [List.getElem?_eq_none (by simp; omega)] at hj
      cases hj
  rw [Go.WideShapes.add_plain, hc j (by omega)]
  rw [List.getElem?_map, List.getElem?_eq_getElem hjl] at hj
  rw [List.getD_eq_getElem?_getD, List.getElem?_eq_getElem hjl]
  exact hj
theorem ints_one (zs : List Int) : ∀ u ∈ zs.map (Value.int .i64), u.oneCell' = true := by
  intro u hu
  obtain ⟨z, _, rfl⟩ := List.mem_map.1 hu
  rfl

set_option maxHeartbeats 1000000 in
theorem clone_any (a : Option Addr) (len cap : Nat) (zs : List Int) (w : World) (hl : len ≤ 1048576) (h : IAt w a len zs) :
    Calls Try.prog 77 #[.slice a len cap] w (RowE w zs) := by
  obtain ⟨i0, hi, hz0, hz1, hz2⟩ := info_parts (P := Try.prog) (e := 2) (z := .int .i64 0) (size := 1) (bytes := 8) (by kernel_rfl)
  obtain ⟨h1, h2, h3, h4⟩ := h
  cases a with
  | none =>
    have h0 : len = 0 := by
      rcases h4 with h | ⟨b, off, e, _⟩
      · exact h
      · cases e
    subst h0
    obtain rfl := List.eq_nil_of_length_eq_zero h1
    have h0 : cap = cap := rfl
    have he : ∀ w' : World, (binOp .eql 22 (.slice none 0 cap) (.slice none 0 0)).run Try.prog w' = .ok (.bool true) w' := fun w' => by kernel_rfl
    go_enter Try.func77, Try.ntmps77
    go_wp2
    go_ret
    exact ⟨none, 0, 0, rfl, rfl, .inl ⟨rfl, rfl, fun _ => rfl⟩, Below.refl _ _⟩
  | some ad =>
    have HN : Hid (∀ j u, (zs.map (Value.int .i64))[j]? = some u → (w.alloc (.cells #[] 2)).cell? (ad.add j) = some u) := by
      rcases h4 with rfl | ⟨b, off, e, hb, hc⟩
      · obtain rfl := List.eq_nil_of_length_eq_zero h1
        exact Lib.hid (fun j u hj => by simp at hj)
      · obtain rfl : ad = ⟨b, off, none⟩ := by simpa using e
        exact Lib.hid (news_ints h1 fun i hi => (below1.cell (p := ⟨b, off + i, none⟩) hb).trans (hc i hi))
    have H1 := Lib.hid h1
    have H3 := Lib.hid h3
    have he : ∀ w' : World, (binOp .eql 22 (.slice (some ad) len cap) (.slice none 0 0)).run Try.prog w' = .ok (.bool false) w' := fun w' => by kernel_rfl
    clear h1 h2 h3 h4
    go_enter Try.func77, Try.ntmps77
    go_wp2_with (at_builtin; refine wpList_append_own _ rfl (.tmp 5) (.tmp 6) 22 rfl w.heap.size 2 i0 (.int .i64 0) 1 8 Try.underlying22 hi hz0 hz1 hz2 rfl (by decide) _ 0 [] rfl (World.ownsRow_lit w #[] 0 (Nat.le_refl _) (by decide) rfl) ad len cap (zs.map (Value.int .i64)) rfl (by rw [List.length_map, H1.out, Nat.mul_one]) HN.out (ints_one zs) (by unfold maxLen; omega) (by omega) (by simp) ?_)
    intro v' w1 hown hgrow _
    obtain ⟨a', cap', rfl⟩ := row_slice hown
    have hb1 : Below w.heap.size w w1 := Below.grown (below1 (w := w)) hgrow (by simp) (fun k hk => by
      have := (World.ownsRow.lt (World.ownsRow_lit w #[] 0 (Nat.le_refl _) (by decide) rfl : (w.alloc (.cells #[] 2)).ownsRow w.heap.size 2 1 _ 0 []) k hk).1
      exact this)
    have HO := Lib.hid hown
    have HB := Lib.hid hb1
    clear hown hgrow hb1
    go_wp2_with fail
    go_ret
    refine ⟨a', len, cap', by simp, H1.out, .inr (own_of_row (by simpa using HO.out) H3.out), HB.out⟩
end Go.Proofs.Ytnmehenkbinfmaa
