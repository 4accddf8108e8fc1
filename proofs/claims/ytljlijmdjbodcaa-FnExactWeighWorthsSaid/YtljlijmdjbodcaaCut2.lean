/-
  A struct handed back out of a drawn region: its box, laid at whatever time, and its list.
-/
import Derived.Test.YtljlijmdjbodcaaWOther
namespace Go.Proofs.Ytljlijmdjbodcaa
open Go.RowKit Go.Shelf
set_option linter.unusedVariables false

theorem cut_early {W wF : World} {n lo hi l c : Nat} {T : TypeId} {v0 v1 u0 u1 : Value} {a : Option Addr} {zs : List Int} (hb : Below W.heap.size W wF) (hs : Box2 wF n T v0 v1) (ho : Own wF lo hi a l c zs) (hn : W.heap.size ≤ n) (hlo : W.heap.size ≤ lo) (hhi : hi ≤ wF.heap.size) (hf : n < lo ∨ hi ≤ n) :
    Hid (Below W.heap.size W ((wF.setCell ⟨n, 0, none⟩ u0).setCell ⟨n, 1, none⟩ u1)) ∧ Hid (W.heap.size ≤ n ∧ n < ((wF.setCell ⟨n, 0, none⟩ u0).setCell ⟨n, 1, none⟩ u1).heap.size) ∧ Hid (Box2 ((wF.setCell ⟨n, 0, none⟩ u0).setCell ⟨n, 1, none⟩ u1) n T u0 u1) ∧
      Hid (Own ((wF.setCell ⟨n, 0, none⟩ u0).setCell ⟨n, 1, none⟩ u1) W.heap.size ((wF.setCell ⟨n, 0, none⟩ u0).setCell ⟨n, 1, none⟩ u1).heap.size a l c zs) := by
  have zs' : ((wF.setCell ⟨n, 0, none⟩ u0).setCell ⟨n, 1, none⟩ u1).heap.size = wF.heap.size := by simp [World.setCell]
  have hlt := hs.lt
  refine ⟨Lib.hid ((hb.setCell (p := ⟨n, 0, none⟩) hn u0).setCell (p := ⟨n, 1, none⟩) hn u1), Lib.hid ⟨hn, by omega⟩, Lib.hid (hs.set0.set1), Lib.hid ?_⟩
  exact ((ho.far (n := n) (i := 0) (u := u0) (by omega)).far (n := n) (i := 1) (u := u1) (by omega)).wide hlo (by omega) (Nat.le_refl _)
theorem cut_late {W wF : World} {lo hi l c : Nat} {T : TypeId} {v0 v1 u0 u1 : Value} {a : Option Addr} {zs : List Int} (hb : Below W.heap.size W wF) (ho : Own wF lo hi a l c zs) (hlo : W.heap.size ≤ lo) (hhi : hi ≤ wF.heap.size) :
    Hid (Below W.heap.size W (((wF.alloc (.cells #[v0, v1] T)).setCell ⟨wF.heap.size, 0, none⟩ u0).setCell ⟨wF.heap.size, 1, none⟩ u1)) ∧ Hid (W.heap.size ≤ wF.heap.size ∧ wF.heap.size < (((wF.alloc (.cells #[v0, v1] T)).setCell ⟨wF.heap.size, 0, none⟩ u0).setCell ⟨wF.heap.size, 1, none⟩ u1).heap.size) ∧ Hid (Box2 (((wF.alloc (.cells #[v0, v1] T)).setCell ⟨wF.heap.size, 0, none⟩ u0).setCell ⟨wF.heap.size, 1, none⟩ u1) wF.heap.size T u0 u1) ∧
      Hid (Own (((wF.alloc (.cells #[v0, v1] T)).setCell ⟨wF.heap.size, 0, none⟩ u0).setCell ⟨wF.heap.size, 1, none⟩ u1) W.heap.size (((wF.alloc (.cells #[v0, v1] T)).setCell ⟨wF.heap.size, 0, none⟩ u0).setCell ⟨wF.heap.size, 1, none⟩ u1).heap.size a l c zs) :=
  cut_early (hb.alloc hb.size _) heap1 (ho.below below1) hb.size hlo (by simp; omega) (.inr hhi)
theorem cut_new {W wF : World} {lo hi l c : Nat} {T : TypeId} {u0 u1 : Value} {a : Option Addr} {zs : List Int} (hb : Below W.heap.size W wF) (ho : Own wF lo hi a l c zs) (hlo : W.heap.size ≤ lo) (hhi : hi ≤ wF.heap.size) :
    Hid (Below W.heap.size W (wF.alloc (.cells #[u0, u1] T))) ∧ Hid (W.heap.size ≤ wF.heap.size ∧ wF.heap.size < (wF.alloc (.cells #[u0, u1] T)).heap.size) ∧ Hid (Box2 (wF.alloc (.cells #[u0, u1] T)) wF.heap.size T u0 u1) ∧ Hid (Own (wF.alloc (.cells #[u0, u1] T)) W.heap.size (wF.alloc (.cells #[u0, u1] T)).heap.size a l c zs) :=
  ⟨Lib.hid (hb.alloc hb.size _), Lib.hid ⟨hb.size, by simp⟩, Lib.hid heap1, Lib.hid ((ho.below below1).wide hlo (by simp; omega) (Nat.le_refl _))⟩
end Go.Proofs.Ytljlijmdjbodcaa
