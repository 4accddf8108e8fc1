/-
  What the numbers' functions compute (bits, sameness, finiteness): contracts, for every word of a float32.
-/
import Derived.Test.YtophfenoanjobaaRows
import Derived.Test.YtophfenoanjobaaFloats
import Derived.WalkKit
import Derived.WalkLawsBesides
import Derived.Deep.Draws
import Derived.Outline
namespace Go.Proofs.Ytophfenoanjobaa
open Go.RowKit Fl

/-- the bits of a number, one for each not-a-number -/
def bts (x : Nat) : Int := if Ieee.Format.infRung Ieee.single < rung Ieee.single x then 2143289344 else x
theorem bts_num {x : Nat} (h : Num .f32 x) : bts x = x := by
  unfold bts Num at *; exact if_neg (Nat.not_lt.2 h)
theorem bts_nan {x : Nat} (h : ¬ Num .f32 x) : bts x = 2143289344 := by
  unfold bts Num at *; exact if_pos (Nat.not_le.1 h)

@[go_sem] theorem run_f32bits (x : Nat) (w : World) : (callFunc 33 #[.float .f32 x]).run Try.prog w = .ok (.value (.int .u32 x)) w := by kernel_rfl

theorem ne_self_num (k : FloatKind) {x : Nat} (h : Num k x) : (k.format.order x x != some .eq) = false := by rw [ne_key k h h]; simp
theorem ne_self_nan (k : FloatKind) {x : Nat} (h : ¬ Num k x) : (k.format.order x x != some .eq) = true := by rw [order_nan_left k h]; rfl

theorem l01Bits_any (x : Nat) (hx : x < 4294967296) (w : World) :
    Calls Try.prog 31 #[.float .f32 x] w fun e w' => e = .returned (.int .i64 (bts x)) ∧ w = w' := by
  by_cases hn : Num .f32 x
  · have e1 := ne_self_num .f32 hn
    rw [bts_num hn]
    go_enter Try.func31, Try.ntmps31
    go_wp2
    go_ret
    exact ⟨rfl, rfl⟩
  · have e1 := ne_self_nan .f32 hn
    rw [bts_nan hn]
    go_enter Try.func31, Try.ntmps31
    go_wp2
    go_ret
    exact ⟨rfl, rfl⟩
end Go.Proofs.Ytophfenoanjobaa
