/-
  Any rule fails at worths that are not valid.
-/
import Derived.Test.YtnlknofcdapalaaPairs
namespace Go.Proofs.Ytnlknofcdapalaa
open Go.RowKit
set_option linter.unusedVariables false

set_option maxRecDepth 20000 in
theorem pairs_no (p : Int) (a1 : Option Addr) (l1 c1 : Nat) (A : List Int) (g : Nat) (caps : Array Value) (w : World) (hA : IAt w a1 l1 A) (hok : okW p A = false) :
    Calls Try.prog 85 #[worthsV p a1 l1 c1, .func (.func g) #[] caps] w (TwoOut w (false, false)) := by
  have HA := Lib.hid hA
  have HOK := Lib.hid hok
  clear hA hok
  go_enter Try.func85, Try.ntmps85
  go_wp2_with fail
  refine (implValidW_any _ _ _ _ A _ (HA.out.below below4)).mono ?_
  rintro e w1 ⟨rfl, b1⟩
  rw [HOK.out]
  have R1 : Boxed w1 (w.heap.size + 2) 4 (.bool false) := Boxed.below heap4c b1
  have T1 : Boxed w1 (w.heap.size + 3) 4 (.bool false) := Boxed.below heap4d b1
  have B1 := below_after (below4 (w := w)) (Nat.le_refl _) b1
  clear b1
  have cR := R1.cell
  have fR := R1.frozen
  have cT := T1.cell
  have fT := T1.frozen
  go_wp2_with fail
  have r4 := (Boxed.set (.bool false) R1).other (B' := w.heap.size + 3) (by omega) (.bool false)
  have r5 := Boxed.set (.bool false) (T1.other (B' := w.heap.size + 2) (by omega) (.bool false))
  have c4 := r4.cell
  have c5 := r5.cell
  refine bodyPost_ret (v := .tuple #[.bool false, .bool false]) (by simp [results, Try.f85, go_sem, c4, c5]) rfl ?_
  exact ⟨rfl, (B1.setCell (p := ⟨w.heap.size + 1 + 1, 0, none⟩) (by show w.heap.size ≤ w.heap.size + 1 + 1; omega) _).setCell (p := ⟨w.heap.size + 1 + 1 + 1, 0, none⟩) (by show w.heap.size ≤ w.heap.size + 1 + 1 + 1; omega) _⟩
end Go.Proofs.Ytnlknofcdapalaa
