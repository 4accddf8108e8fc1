/-
  A slice of float32 that came in, as the walks are told of it.
-/
import Derived.Test.YtajjepcegpimjaaCore
import Derived.ChangeArms
import Derived.ChangeSlices
import Derived.OpenShut
import Derived.OwnWalk
import Derived.Laws.OwnMore
import Derived.Below
import Derived.Lib.Hide
namespace Go.Proofs.Ytajjepcegpimjaa
open Go.RowKit Go.ChangeShapes Go.WideShapes Fl

def flOf {H : Type} (y : DataW H × List MemPlace) : Nat := match y.1 with | .lit (.float _ b) => b | _ => 0

theorem trod_float {H : Type} {enc : TypeId × Value → H} {P : Program} {w : World} {base : Nat} {spare : Nat → Bool} {held : Bool} {fuel : Nat} {t : TypeId} {k : FloatKind} {cs : List Value} {x : DataW H × List MemPlace}
    (ht : P.underlying t = some (.float k)) (h : DataW.trod enc P w base spare held fuel t cs = some x) : ∃ b, cs = [.float k b] ∧ x = (.lit (.float k b), []) ∧ (Lit.float k b).wf = true := by
  cases fuel with
  | zero => simp [DataW.trod] at h
  | succ n =>
    unfold DataW.trod at h
    rw [ht] at h
    split at h <;> simp_all

/-- 'len' words lie at the slice's head -/
def FAt (w : World) (a : Option Addr) (len : Nat) (zs : List Nat) : Prop :=
  len ≤ maxLen ∧ zs.length = len ∧ (∀ b ∈ zs, b < 4294967296) ∧
  (len = 0 ∨ ∃ b off, a = some ⟨b, off, none⟩ ∧ b < w.heap.size ∧ ∀ i, i < len → w.cell? ⟨b, off + i, none⟩ = some (.float .f32 (zs.getD i 0)))

theorem open_floats {H : Type} {enc : TypeId × Value → H} {P : Program} {w : World} {base : Nat} {spare : Nat → Bool} {held : Bool} {fuel : Nat} {t e : TypeId} {cs : List Value} {x : DataW H × List MemPlace}
    (ht : P.underlying t = some (.slice e)) (he : P.underlying e = some (.float .f32)) (hc : P.cellsOf e = 1) (h : DataW.trod enc P w base spare held fuel t cs = some x) :
    ∃ a len cap zs, cs = [.slice a len cap] ∧ FAt w a len zs := by
  rcases DataW.trod_slice ht h with ⟨rfl, _⟩ | ⟨a, len, cap, elems, rest, n, _, rfl, _, _, hl, hm, hlen, hel, _, _⟩
  · exact ⟨none, 0, 0, [], rfl, Nat.zero_le _, rfl, by simp, .inl rfl⟩
  have each : ∀ i, i < len → ∃ b, elems[i]? = some (.lit (.float .f32 b), []) ∧ (Lit.float .f32 b).wf = true ∧ w.cell? (a.add i) = some (.float .f32 b) := by
    intro i hi
    have h1 := hel i hi
    rw [hc, Nat.mul_one, List.getElem?_eq_getElem (by omega), Option.bind_eq_some_iff] at h1
    obtain ⟨cs', h2, h3⟩ := h1
    obtain ⟨b, rfl, h4, h5⟩ := trod_float he h3
    exact ⟨b, by rw [List.getElem?_eq_getElem (by omega), h4], h5, cell_of_cells?_one h2⟩
  have hcell : ∀ i, i < len → w.cell? (a.add i) = some (.float .f32 ((elems.map flOf).getD i 0)) := by
    intro i hi
    obtain ⟨b, h1, _, h3⟩ := each i hi
    rw [h3, List.getD, List.getElem?_map, h1]; rfl
  refine ⟨some a, len, cap, elems.map flOf, rfl, by omega, by simp [hlen], ?_, ?_⟩
  · intro b hb
    obtain ⟨y, hy, rfl⟩ := List.mem_map.1 hb
    obtain ⟨i, hi⟩ := List.getElem?_of_mem hy
    have hi' : i < len := by rw [← hlen]; exact (List.getElem?_eq_some_iff.1 hi).1
    obtain ⟨b, h1, h2, _⟩ := each i hi'
    rw [h1] at hi
    cases hi
    exact lt_of_wf32 h2
  · by_cases h0 : len = 0
    · exact .inl h0
    right
    obtain ⟨b, off, spot⟩ := a
    have hspot : spot = none := by simpa [Addr.add] using World.cell?_spot (hcell 0 (by omega))
    subst hspot
    have hcell' : ∀ i, i < len → w.cell? ⟨b, off + i, none⟩ = some (.float .f32 ((elems.map flOf).getD i 0)) := fun i hi => by
      rw [← Go.WideShapes.add_plain]; exact hcell i hi
    exact ⟨b, off, rfl, World.block_lt_of_cell? w ⟨b, off + 0, none⟩ (hcell' 0 (by omega)), hcell'⟩

theorem FAt.below {w w' : World} {a : Option Addr} {len : Nat} {zs : List Nat} (h : FAt w a len zs) (hb : Below w.heap.size w w') : FAt w' a len zs := by
  obtain ⟨h1, h2, h3, h4⟩ := h
  refine ⟨h1, h2, h3, h4.imp id fun ⟨b, off, e, hlt, hc⟩ => ⟨b, off, e, Nat.lt_of_lt_of_le hlt hb.size, fun i hi => (hb.cell (p := ⟨b, off + i, none⟩) hlt).trans (hc i hi)⟩⟩

theorem FAt.drewN {w : World} {a : Option Addr} {len : Nat} {zs : List Nat} (h : FAt w a len zs) (n : Nat) : FAt (w.drewN n) a len zs := h.below (below_drewn w n)

/-- the copy that 'toFloat32S' makes -/
def Copied (w : World) (len : Nat) (zs : List Nat) (e : Ending) (w' : World) : Prop :=
  ∃ g, e = .returned (.slice (some ⟨g, 0, none⟩) len len) ∧ FAt w' (some ⟨g, 0, none⟩) len zs ∧ Below w.heap.size w w'

theorem fill_done (zs : List Nat) (len k : Nat) (h : zs.length = len) (hk : k < len) :
    ((zs.take k).map (Value.float .f32) ++ List.replicate (len - k) (Value.float .f32 0)).set k (Value.float .f32 (zs.getD k 0)) = (zs.take (k + 1)).map (Value.float .f32) ++ List.replicate (len - (k + 1)) (Value.float .f32 0) := by
  subst h
  have hl : ((zs.take k).map (Value.float .f32)).length = k := by simp; omega
  have e1 : zs.length - k = (zs.length - (k + 1)) + 1 := by omega
  rw [List.set_append_right _ _ (by omega), hl, Nat.sub_self, e1, List.replicate_succ, List.set_cons_zero, List.take_succ_eq_append_getElem hk, List.map_append, List.append_assoc]
  simp [List.getD, hk]

theorem copy_at (b off len cap : Nat) (zs : List Nat) (w : World) (hl : len ≤ 1048576) (hz : zs.length = len) (hlt : ∀ x ∈ zs, x < 4294967296) (hb : b < w.heap.size)
    (hc : ∀ i, i < len → w.cell? ⟨b, off + i, none⟩ = some (.float .f32 (zs.getD i 0))) :
    Calls Try.prog 22 #[.slice (some ⟨b, off, none⟩) len cap] w (Copied w len zs) := by
  obtain ⟨i0, hi, hz0, hz1, hz2⟩ := info_parts (P := Try.prog) (e := 28) (z := .float .f32 0) (size := 1) (bytes := 4) (by kernel_rfl)
  have HC := Lib.hid hc
  have HL := Lib.hid hlt
  clear hc hlt
  go_enter Try.func22, Try.ntmps22
  go_wp2_with (at_make; refine wpList_make_full _ rfl _ _ 36 rfl w.heap.size 28 i0 (.float .f32 0) 1 Try.underlying36 hi hz0 hz1 .i64 .i64 _ _ len rfl rfl (by first | rfl | omega) (by first | rfl | omega) (by rw [hz2]; omega) (by unfold maxLen; omega) (Nat.le_refl _) ?_; intro w1 hown1 hgrow1)
  have hown1' : w1.ownsRow w.heap.size 28 1 (.slice (some ⟨w.heap.size, 0, none⟩) len len) len ((zs.take 0).map (Value.float .f32) ++ List.replicate (len - 0) (.float .f32 0)) := by
    have e : (madeCells (Value.float FloatKind.f32 0).cells (len * 1)).toList = List.replicate len (.float .f32 0) := by
      rw [Nat.mul_one]; exact toList_madeCells_one _ _
    rw [e] at hown1
    simpa using hown1
  have hb1 : Below w.heap.size w w1 := (Below.refl _ _).grown hgrow1 (Nat.le_refl _) (fun k h => by cases h)
  clear hown1 hgrow1
  go_loopw [4] (fun i wr => ∃ k : Nat, k ≤ len ∧ i = .int .i64 k ∧ wr.ownsRow w.heap.size 28 1 (.slice (some ⟨w.heap.size, 0, none⟩) len len) len ((zs.take k).map (Value.float .f32) ++ List.replicate (len - k) (.float .f32 0)) ∧ Below w.heap.size w wr)
    (fun i _ => len - (intOf i).toNat)
  case atStart => exact ⟨0, Nat.zero_le _, rfl, hown1', hb1⟩
  case round =>
    obtain ⟨k, hk, rfl, hown, hbw⟩ := hrel
    clear hown1' hb1
    by_cases hlt : k < len
    · have hsrc : wr.cell? ⟨b, off + k, none⟩ = some (.float .f32 (zs.getD k 0)) := (hbw.cell (p := ⟨b, off + k, none⟩) hb).trans (HC.out k hlt)
      have hdst : wr.cell? ⟨w.heap.size, k, none⟩ = some (.float .f32 0) := (hown.cellAt k (by omega)).trans (by
        have hl : ((zs.take k).map (Value.float .f32)).length = k := by simp; omega
        rw [List.getElem?_append_right (by omega), hl, Nat.sub_self, List.getElem?_replicate, if_pos (by omega)])
      have hfz : wr.frozen? ⟨w.heap.size, k, none⟩ = false := hown.frozenAt k
      have HST := Lib.hid (hown.stored k (.float .f32 (zs.getD k 0)))
      have HB := Lib.hid hbw
      clear hown hbw
      generalize hv : zs.getD k 0 = v at *
      have HV := Lib.hid hv
      clear hv
      have RS : ∀ (w : World) (a : Addr) (m : Mode), (store a (.float .f32 v) m).run Try.prog w = stored Try.prog w a (.float .f32 v) m := fun w a m => run_store Try.prog w a _ m rfl
      go_wp2
      go_roundw
      case rel =>
        refine ⟨k + 1, by omega, by go_num, ?_, HB.out.setCell (Nat.le_refl _) _⟩
        have := HST.out.1
        rw [← HV.out, fill_done zs len k hz hlt] at this
        rw [← HV.out]
        exact this
      case measure => simp [intOf]; omega
    · obtain rfl : k = len := by omega
      have HO := Lib.hid hown
      have HB := Lib.hid hbw
      clear hown hbw
      go_wp2
      go_ret
      refine ⟨w.heap.size, rfl, ⟨by unfold maxLen; omega, hz, HL.out, ?_⟩, HB.out⟩
      by_cases h0 : k = 0
      · exact .inl h0
      · have hcell : ∀ i, i < k → wr.cell? ⟨w.heap.size, 0 + i, none⟩ = some (.float .f32 (zs.getD i 0)) := fun i hi => by
          rw [Nat.zero_add, HO.out.cellAt i (by omega)]
          subst hz
          simp [List.getD, hi]
        exact .inr ⟨w.heap.size, 0, rfl, World.block_lt_of_cell? wr ⟨w.heap.size, 0 + 0, none⟩ (hcell 0 (by omega)), hcell⟩

theorem copy_none (a : Option Addr) (cap : Nat) (w : World) :
    Calls Try.prog 22 #[.slice a 0 cap] w (Copied w 0 []) := by
  obtain ⟨i0, hi, hz0, hz1, hz2⟩ := info_parts (P := Try.prog) (e := 28) (z := .float .f32 0) (size := 1) (bytes := 4) (by kernel_rfl)
  go_enter Try.func22, Try.ntmps22
  go_wp2_with (at_make; refine wpList_make_full _ rfl _ _ 36 rfl w.heap.size 28 i0 (.float .f32 0) 1 Try.underlying36 hi hz0 hz1 .i64 .i64 _ _ 0 rfl rfl (by first | rfl | omega) (by first | rfl | omega) (by rw [hz2]; omega) (by unfold maxLen; omega) (Nat.le_refl _) ?_; intro w1 hown1 hgrow1)
  have hb1 : Below w.heap.size w w1 := (Below.refl _ _).grown hgrow1 (Nat.le_refl _) (fun k h => by cases h)
  have HB := Lib.hid hb1
  clear hown1 hgrow1 hb1
  go_loopw [4] (fun i wr => i = .int .i64 0 ∧ Below w.heap.size w wr) (fun _ _ => 0)
  case atStart => exact ⟨rfl, HB.out⟩
  case round =>
    obtain ⟨rfl, hbw⟩ := hrel
    have HB2 := Lib.hid hbw
    clear hbw
    go_wp2
    go_ret
    exact ⟨w.heap.size, rfl, ⟨Nat.zero_le _, rfl, by simp, .inl rfl⟩, HB2.out⟩

theorem copy_any (a : Option Addr) (len cap : Nat) (zs : List Nat) (w : World) (hl : len ≤ 1048576) (h : FAt w a len zs) :
    Calls Try.prog 22 #[.slice a len cap] w (Copied w len zs) := by
  obtain ⟨_, h2, h3, rfl | ⟨b, off, rfl, hb, hc⟩⟩ := h
  · obtain rfl := List.length_eq_zero_iff.1 h2
    exact copy_none a cap w
  · exact copy_at b off len cap zs w hl h2 h3 hb hc
end Go.Proofs.Ytajjepcegpimjaa
