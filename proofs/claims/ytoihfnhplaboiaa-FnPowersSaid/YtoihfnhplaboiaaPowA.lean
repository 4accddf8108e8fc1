/-
  Powers and logarithms at eighths from -8 to 8, reckoned by the kernel: what the law on them asks of their words.
-/
import Derived.Test.YtoihfnhplaboiaaLogB
namespace Go.Proofs.Ytoihfnhplaboiaa
open Go.RowKit Fl

/-- eighths: (m - 64) / 8 -/
def xw (m : Nat) : Nat := (floatBits .quo .f32 (floatOfInt .f32 ((m : Int) - 64)) 1090519040).getD 0
def te : List Nat := [967827720, 969362444, 971101513, 973072137, 974191837, 975457003, 976890623, 978515128, 980355933, 981954487, 983136307, 984475485, 985992972, 987712511, 989661003, 990862339, 992113296, 993530815, 995137075, 996957207, 998632019, 999800566, 1001124704, 1002625149, 1004325375, 1006251984, 1007534039, 1008770946, 1010172546, 1011760767, 1013560457, 1015310670, 1016466094, 1017775360, 1019258954, 1020940085, 1022845057, 1024206924, 1025429940, 1026815799, 1028386182, 1030165660, 1031990428, 1033132876, 1034427438, 1035894369, 1037556620, 1039440198, 1040880981, 1042090262, 1043460556, 1045013303, 1046772796, 1048671281, 1049800898, 1051080921, 1052531378, 1054174960, 1056037383, 1057556197, 1058751896, 1060106801, 1061642109, 1063381841, 1065353216, 1066470146, 1067735794, 1069169961, 1070795084, 1072636591, 1074232558, 1075414828, 1076754516, 1078272582, 1079992775, 1081942010, 1083140607, 1084392041, 1085810101, 1087416973, 1089237798, 1090910051, 1092079044, 1093403686, 1094904703, 1096605577, 1098532920, 1099812267, 1101049646, 1102451780, 1104040606, 1105840981, 1107588665, 1108744529, 1110054295, 1111538453, 1113220225, 1115125923, 1116485113, 1117708595, 1119094981, 1120665963, 1122446119, 1124268386, 1125411269, 1126706325, 1128173815, 1129836699, 1131720994, 1133159130, 1134368872, 1135739688, 1137293027, 1139053190, 1140949202, 1142079249, 1143359761, 1144810770, 1146454979, 1148318112, 1149834307, 1151030462, 1152385883, 1153921776, 1155662171, 1157631101, 1158748457, 1160014587, 1161449300]

/-! ### the power's steps -/
def ke (i : Nat) : Nat := floatOfInt .f64 (12 - (i : Int))
def ep (t : Nat) : Nat → Nat
  | 0 => 4607182418800017408
  | i + 1 => fv .add 4607182418800017408 (fv .quo (fv .mul t (ep t i)) (ke i))
def sqv (v : Nat) : Nat := fv .mul v v
def pw (p : Nat) : Nat → Nat
  | 0 => p
  | i + 1 => sqv (pw p i)
def ok (op : BinOp) (x y : Nat) : Bool := (floatBits op .f64 x y).isSome
theorem ok_fv {op : BinOp} {x y : Nat} (h : ok op x y = true) : floatBits op .f64 x y = some (fv op x y) := by
  unfold ok at h
  obtain ⟨r, hr⟩ := Option.isSome_iff_exists.1 h
  unfold fv; rw [hr]; rfl
def et (x : Nat) : Nat := fv .quo (up x) 4643211215818981376
def ex (x : Nat) : Nat := down (pw (ep (et x) 12) 8)
/-- all steps of the power are valid, and it is narrowed without overflow -/
def expOk (x : Nat) : Bool :=
  decide (rung Ieee.single x ≤ 2139095040) && !(FloatKind.f32.format.order x 1128792064 == some .gt) && !(FloatKind.f32.format.order x 3276275712 == some .lt) &&
  ok .quo (up x) 4643211215818981376 &&
  (List.range 12).all (fun i => ok .mul (et x) (ep (et x) i) && ok .quo (fv .mul (et x) (ep (et x) i)) (ke i) && ok .add 4607182418800017408 (fv .quo (fv .mul (et x) (ep (et x) i)) (ke i))) &&
  (List.range 8).all (fun i => ok .mul (pw (ep (et x) 12) i) (pw (ep (et x) 12) i)) &&
  decide (rung Ieee.double (pw (ep (et x) 12) 8) ≤ 1148 * 4503599627370496)

theorem ke_step : ∀ i, i < 12 → floatBits .sub .f64 (ke i) 4607182418800017408 = some (ke (i + 1)) := by decide +kernel
theorem ke_ge : ∀ i, i < 12 → (FloatKind.f64.format.order (ke i) 4607182418800017408 == some .gt || FloatKind.f64.format.order (ke i) 4607182418800017408 == some .eq) = true := by decide +kernel
theorem ke_end : (FloatKind.f64.format.order (ke 12) 4607182418800017408 == some .gt || FloatKind.f64.format.order (ke 12) 4607182418800017408 == some .eq) = false := by decide +kernel
theorem ke_down : ∀ i, i < 12 → kOf (.float .f64 (ke (i + 1))) < kOf (.float .f64 (ke i)) := by decide +kernel

theorem te_ok : ∀ m, m < 129 → expOk (xw m) = true ∧ ex (xw m) = te.getD m 0 := by decide +kernel
theorem xw_quo : ∀ i : Nat, i < 65 → floatBits .quo .f32 (floatOfInt .f32 ((i : Int) - 32)) 1090519040 = some (xw (i + 32)) := by decide +kernel
theorem xw_add : ∀ i, i < 65 → ∀ j, j < 65 → floatBits .add .f32 (xw (i + 32)) (xw (j + 32)) = some (xw (i + j)) := by decide +kernel
theorem xw_num : ∀ m, m < 129 → rung Ieee.single (xw m) ≤ 2139095040 := by decide +kernel
theorem te_pos : ∀ m, m < 129 → 0 < te.getD m 0 ∧ te.getD m 0 < 2139095040 := by decide +kernel

/-! ### differences -/
def gapv (a b : Nat) : Option Nat := if FloatKind.f64.format.order a b == some .lt then floatBits .sub .f64 b a else floatBits .sub .f64 a b
def lessThan (g : Option Nat) (c : Nat) : Bool := match g with | some r => FloatKind.f64.format.order r c == some .lt | none => false
theorem lessThan_some {g : Option Nat} {c : Nat} (h : lessThan g c = true) : ∃ r, g = some r ∧ (FloatKind.f64.format.order r c == some .lt) = true := by
  unfold lessThan at h
  cases g with
  | none => cases h
  | some r => exact ⟨r, rfl, h⟩

/-- a product of powers is nearly the power of the sum -/
def nearMul (a b c : Nat) : Bool := ok .mul (up a) (up b) && ok .mul 4562254508917369340 (up c) && lessThan (gapv (fv .mul (up a) (up b)) (up c)) (fv .mul 4562254508917369340 (up c))
theorem near_mul : ∀ i, i < 65 → ∀ j, j < 65 → nearMul (te.getD (i + 32) 0) (te.getD (j + 32) 0) (te.getD (i + j) 0) = true := by decide +kernel

/-! ### the logarithm, reckoned -/
def lgv (z : Nat) (e : Int) : Nat :=
  let s := fv .quo (fv .sub z 4607182418800017408) (fv .add z 4607182418800017408)
  fv .add (fv .mul 4611686018427387904 (fv .mul s (lq (fv .mul s s) 13))) (fv .mul (floatOfInt .f64 e) 4604418534313441775)
theorem lgv_of {z : Nat} {e : Int} {a b s u p1 p2 ec r : Nat} (h : LogAt z e a b s u p1 p2 ec r) : lgv z e = r := by
  have g : ∀ {op : BinOp} {x y v : Nat}, floatBits op .f64 x y = some v → fv op x y = v := fun h => by unfold fv; rw [h]; rfl
  unfold lgv
  simp only [g h.ha, g h.hb, g h.hs, g h.hu, g h.hp1, g h.hp2, g h.hec, g h.hr]
def le_ (Y : Nat) : Int := ((Y : Int) - 4604930618986332160) / 4503599627370496
def lz (Y : Nat) : Nat := ((Y : Int) - le_ Y * 4503599627370496).toNat
def lw (v : Nat) : Nat := down (lgv (lz (upr v)) (le_ (upr v)))
theorem near_log : ∀ i, i < 65 → lessThan (gapv (up (lw (te.getD (i + 32) 0))) (up (xw (i + 32)))) 4562254508917369340 = true := by decide +kernel
theorem log_one : (FloatKind.f32.format.order (lw 1065353216) 0 == some .eq) = true := by decide +kernel
theorem exp_zero : xw 64 = 0 ∧ te.getD 64 0 = 1065353216 := by decide +kernel
end Go.Proofs.Ytoihfnhplaboiaa
