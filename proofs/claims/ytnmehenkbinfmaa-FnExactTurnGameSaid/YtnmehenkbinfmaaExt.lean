/-
  A region that draws its order and whose callees may make memory of their own (a box, a row), handing back what does not hang on it: one walk, in the text's order, in whatever world extends the one in which the region begins.
-/
import Derived.Test.YtnmehenkbinfmaaGCom
import Derived.Deep.RegionWith
namespace Go.Proofs.Ytnmehenkbinfmaa
open Go.RowKit

/-- a world in which all that lay in w lies as it did -/
structure ExtW (w : World) where
  val : World
  ext : Below w.heap.size w val

instance ExtW.some (w : World) : Nonempty (ExtW w) := ⟨⟨w, Below.refl _ _⟩⟩

theorem ExtW.on {w w' : World} (x : ExtW w) (h : Below x.val.heap.size x.val w') : ∃ y : ExtW w, w' = y.val := ⟨⟨w', below_after x.ext (Nat.le_refl _) h⟩, rfl⟩
theorem ExtW.same {w w' : World} (x : ExtW w) (h : x.val = w') : ∃ y : ExtW w, w' = y.val := ⟨x, h.symm⟩
theorem ExtW.drewn {w w' : World} (x : ExtW w) (h : Same x.val w') : ∃ y : ExtW w, w' = y.val := x.on (same_below h _)

theorem region_ext {P : Program} {id : Nat} {Q : Exit → Act → World → Prop} {a : Act} {w : World} {l : List Oper} (hm : P.follows .mixedOrders = true) (hB : Region.lexB .any l.toArray = true)
    (h : wpQuiet P l.toArray (fun w' => ∃ x : ExtW w, w' = x.val) (fun a' => ∀ w', (∃ x : ExtW w, w' = x.val) → Q .normal a' w') l a) : (Code.region id l.toArray true).wp P Q a w :=
  wp_region_quiet (C := fun w' => ∃ x : ExtW w, w' = x.val) hm hB ⟨⟨w.drew, Below.drew (Below.refl _ _)⟩, rfl⟩ (by simpa using h)

theorem ExtW.box {w : World} {n : Nat} {T : TypeId} {v0 v1 v2 v3 : Value} (x : ExtW w) (h : Box4 w n T v0 v1 v2 v3) : Box4 x.val n T v0 v1 v2 v3 := h.below x.ext
theorem ExtW.iat {w : World} {a : Option Addr} {len : Nat} {zs : List Int} (x : ExtW w) (h : IAt w a len zs) : IAt x.val a len zs := h.below x.ext

/-- one box's cells -/
def Cells4 (w : World) (n : Nat) (v0 v1 v2 v3 : Value) : Prop := w.cell? ⟨n, 0, none⟩ = some v0 ∧ w.cell? ⟨n, 1, none⟩ = some v1 ∧ w.cell? ⟨n, 2, none⟩ = some v2 ∧ w.cell? ⟨n, 3, none⟩ = some v3
theorem cells4_on {w w' : World} {n : Nat} {v0 v1 v2 v3 : Value} (h : Cells4 w n v0 v1 v2 v3) (hb : Below w.heap.size w w') : Cells4 w' n v0 v1 v2 v3 := by
  have hn : n < w.heap.size := World.block_lt_of_cell? w ⟨n, 0, none⟩ h.1
  exact ⟨(hb.cell (p := ⟨n, 0, none⟩) hn).trans h.1, (hb.cell (p := ⟨n, 1, none⟩) hn).trans h.2.1, (hb.cell (p := ⟨n, 2, none⟩) hn).trans h.2.2.1, (hb.cell (p := ⟨n, 3, none⟩) hn).trans h.2.2.2⟩
theorem Box4.cells (w : World) {n : Nat} {T : TypeId} {v0 v1 v2 v3 : Value} (h : Box4 w n T v0 v1 v2 v3) : Cells4 w n v0 v1 v2 v3 := ⟨h.c0, h.c1, h.c2, h.c3⟩
theorem keep1 {w0 w w' : World} {n : Nat} {v0 v1 v2 v3 : Value} (h : Hid (Below w0.heap.size w0 w) ∧ (w.cell? ⟨n, 0, none⟩ = some v0 ∧ w.cell? ⟨n, 1, none⟩ = some v1 ∧ w.cell? ⟨n, 2, none⟩ = some v2 ∧ w.cell? ⟨n, 3, none⟩ = some v3)) (hb : Hid (Below w.heap.size w w')) :
    Hid (Below w0.heap.size w0 w') ∧ (w'.cell? ⟨n, 0, none⟩ = some v0 ∧ w'.cell? ⟨n, 1, none⟩ = some v1 ∧ w'.cell? ⟨n, 2, none⟩ = some v2 ∧ w'.cell? ⟨n, 3, none⟩ = some v3) :=
  ⟨Lib.hid (below_after h.1.out (Nat.le_refl _) hb.out), cells4_on h.2 hb.out⟩
theorem keep2 {w0 w w' : World} {n m : Nat} {v0 v1 v2 v3 u0 u1 u2 u3 : Value} (h : Hid (Below w0.heap.size w0 w) ∧ (w.cell? ⟨n, 0, none⟩ = some v0 ∧ w.cell? ⟨n, 1, none⟩ = some v1 ∧ w.cell? ⟨n, 2, none⟩ = some v2 ∧ w.cell? ⟨n, 3, none⟩ = some v3) ∧
      (w.cell? ⟨m, 0, none⟩ = some u0 ∧ w.cell? ⟨m, 1, none⟩ = some u1 ∧ w.cell? ⟨m, 2, none⟩ = some u2 ∧ w.cell? ⟨m, 3, none⟩ = some u3)) (hb : Hid (Below w.heap.size w w')) :
    Hid (Below w0.heap.size w0 w') ∧ (w'.cell? ⟨n, 0, none⟩ = some v0 ∧ w'.cell? ⟨n, 1, none⟩ = some v1 ∧ w'.cell? ⟨n, 2, none⟩ = some v2 ∧ w'.cell? ⟨n, 3, none⟩ = some v3) ∧
      (w'.cell? ⟨m, 0, none⟩ = some u0 ∧ w'.cell? ⟨m, 1, none⟩ = some u1 ∧ w'.cell? ⟨m, 2, none⟩ = some u2 ∧ w'.cell? ⟨m, 3, none⟩ = some u3) :=
  ⟨Lib.hid (below_after h.1.out (Nat.le_refl _) hb.out), cells4_on h.2.1 hb.out, cells4_on h.2.2 hb.out⟩
theorem keep0 {w0 : World} : Hid (Below w0.heap.size w0 w0.drew) := Lib.hid (Below.drew (Below.refl _ _))
end Go.Proofs.Ytnmehenkbinfmaa
