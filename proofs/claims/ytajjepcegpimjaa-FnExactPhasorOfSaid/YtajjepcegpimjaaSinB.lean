/-
  The walks of the sine, by the program and by the model.
-/
import Derived.Test.YtajjepcegpimjaaSinA
import Derived.Test.YtajjepcegpimjaaLogB
namespace Go.Proofs.Ytajjepcegpimjaa
open Go.RowKit Fl

@[go_sem] theorem unary_negf (k : FloatKind) (b : Nat) : Op.unary .neg (.float k b) = pure (.float k (Op.negFloat k b)) := rfl
/-- the sine, with its sign -/
def sr (below : Bool) (zp : Nat) : Nat := if below then Op.negFloat .f64 zp else zp
theorem fk_step' : ∀ i, i < 8 → kOf (.float .f64 (fk (i + 1))) < kOf (.float .f64 (fk i)) := by decide +kernel

theorem turnPart_any {y : Nat} {n : Int} {d : Nat} {neg : Bool} {f : Nat} (h : PartAt y n d neg f) (w : World) :
    Calls Try.prog 35 #[.float .f64 y] w fun x w' => x = .returned (.float .f64 f) ∧ w = w' := by
  have c1 : ∀ w, (convert 22 2 (.float .f64 y)).run Try.prog w = .ok (.int .i64 n) w := fun w => run_convert_float_int w _ _ _ _ _ _ (by kernel_rfl) Try.underlying2 h.hn
  have d1 := op64 h.hd
  have t := h.ht
  cases neg
  · have e := h.hf' rfl
    subst e
    clear h
    go_enter Try.func35, Try.ntmps35
    go_wp2
    go_ret
    exact ⟨rfl, rfl⟩
  · have d2 := op64 (h.hf rfl)
    clear h
    go_enter Try.func35, Try.ntmps35
    go_wp2
    go_ret
    exact ⟨rfl, rfl⟩

set_option maxHeartbeats 2000000 in
theorem sineOf_any {y : Nat} {n : Int} {d : Nat} {neg : Bool} {f : Nat} (hP : PartAt y n d neg f) {below over : Bool} {f1 f2 z u zp : Nat} (h : SinAt f below over f1 f2 z u zp) (w : World) :
    Calls Try.prog 36 #[.float .f64 y] w fun x w' => x = .returned (.float .f64 (sr below zp)) ∧ w = w' := by
  have t1 := h.hb
  have t2 := h.ho
  have d3 := op64 h.hz
  have d4 := op64 h.hu
  have H := Lib.hid h
  have HP := Lib.hid hP
  cases below <;> cases over
  · have e1 := h.h1' rfl
    have e2 := h.h2' rfl
    subst e1
    subst e2
    clear h hP
    go_enter Try.func36, Try.ntmps36
    go_wp2_with (first | (go_at_call 35; refine (turnPart_any HP.out _).mono ?_; rintro e w' ⟨rfl, rfl⟩) | go_in)
    go_loop [7, 8] (fun p k => ∃ i : Nat, i ≤ 8 ∧ p = .float .f64 (pq u i) ∧ k = .float .f64 (fk i)) (fun _ k => kOf k)
    case atStart => exact ⟨0, by omega, rfl, by rw [show fk 0 = 4620693217682128896 by decide]⟩
    case round =>
      clear t1 t2 d3 d4
      obtain ⟨i, hi, rfl, rfl⟩ := hrel
      by_cases c3 : i < 8
      · have g0 := fk_ge i c3
        have g1 := op64 (fa_ok i c3)
        have g2 := op64 (fb_ok i c3)
        have g3 := op64 (fd_ok i c3)
        have g4 := op64 (fk_step i c3)
        obtain ⟨m1, m2, m3⟩ := H.out.hp i c3
        have m1 := op64 m1
        have m2 := op64 m2
        have m3 := op64 m3
        go_wp2
        go_round
        case rel => exact ⟨i + 1, by omega, rfl, rfl⟩
        case measure => exact fk_step' i c3
      · obtain rfl : i = 8 := by omega
        have g0 := fk_end
        have g1 := op64 H.out.hzp
        go_wp2
        go_ret
        exact ⟨rfl, rfl⟩
  · have e1 := h.h1' rfl
    have e2 := op64 (h.h2 rfl)
    subst e1
    clear h hP
    go_enter Try.func36, Try.ntmps36
    go_wp2_with (first | (go_at_call 35; refine (turnPart_any HP.out _).mono ?_; rintro e w' ⟨rfl, rfl⟩) | go_in)
    go_loop [7, 8] (fun p k => ∃ i : Nat, i ≤ 8 ∧ p = .float .f64 (pq u i) ∧ k = .float .f64 (fk i)) (fun _ k => kOf k)
    case atStart => exact ⟨0, by omega, rfl, by rw [show fk 0 = 4620693217682128896 by decide]⟩
    case round =>
      clear t1 t2 d3 d4 e2
      obtain ⟨i, hi, rfl, rfl⟩ := hrel
      by_cases c3 : i < 8
      · have g0 := fk_ge i c3
        have g1 := op64 (fa_ok i c3)
        have g2 := op64 (fb_ok i c3)
        have g3 := op64 (fd_ok i c3)
        have g4 := op64 (fk_step i c3)
        obtain ⟨m1, m2, m3⟩ := H.out.hp i c3
        have m1 := op64 m1
        have m2 := op64 m2
        have m3 := op64 m3
        go_wp2
        go_round
        case rel => exact ⟨i + 1, by omega, rfl, rfl⟩
        case measure => exact fk_step' i c3
      · obtain rfl : i = 8 := by omega
        have g0 := fk_end
        have g1 := op64 H.out.hzp
        go_wp2
        go_ret
        exact ⟨rfl, rfl⟩
  · have e1 := op64 (h.h1 rfl)
    have e2 := h.h2' rfl
    subst e2
    clear h hP
    go_enter Try.func36, Try.ntmps36
    go_wp2_with (first | (go_at_call 35; refine (turnPart_any HP.out _).mono ?_; rintro e w' ⟨rfl, rfl⟩) | go_in)
    go_loop [7, 8] (fun p k => ∃ i : Nat, i ≤ 8 ∧ p = .float .f64 (pq u i) ∧ k = .float .f64 (fk i)) (fun _ k => kOf k)
    case atStart => exact ⟨0, by omega, rfl, by rw [show fk 0 = 4620693217682128896 by decide]⟩
    case round =>
      clear t1 t2 d3 d4 e1
      obtain ⟨i, hi, rfl, rfl⟩ := hrel
      by_cases c3 : i < 8
      · have g0 := fk_ge i c3
        have g1 := op64 (fa_ok i c3)
        have g2 := op64 (fb_ok i c3)
        have g3 := op64 (fd_ok i c3)
        have g4 := op64 (fk_step i c3)
        obtain ⟨m1, m2, m3⟩ := H.out.hp i c3
        have m1 := op64 m1
        have m2 := op64 m2
        have m3 := op64 m3
        go_wp2
        go_round
        case rel => exact ⟨i + 1, by omega, rfl, rfl⟩
        case measure => exact fk_step' i c3
      · obtain rfl : i = 8 := by omega
        have g0 := fk_end
        have g1 := op64 H.out.hzp
        go_wp2
        go_ret
        exact ⟨rfl, rfl⟩
  · have e1 := op64 (h.h1 rfl)
    have e2 := op64 (h.h2 rfl)
    clear h hP
    go_enter Try.func36, Try.ntmps36
    go_wp2_with (first | (go_at_call 35; refine (turnPart_any HP.out _).mono ?_; rintro e w' ⟨rfl, rfl⟩) | go_in)
    go_loop [7, 8] (fun p k => ∃ i : Nat, i ≤ 8 ∧ p = .float .f64 (pq u i) ∧ k = .float .f64 (fk i)) (fun _ k => kOf k)
    case atStart => exact ⟨0, by omega, rfl, by rw [show fk 0 = 4620693217682128896 by decide]⟩
    case round =>
      clear t1 t2 d3 d4 e1 e2
      obtain ⟨i, hi, rfl, rfl⟩ := hrel
      by_cases c3 : i < 8
      · have g0 := fk_ge i c3
        have g1 := op64 (fa_ok i c3)
        have g2 := op64 (fb_ok i c3)
        have g3 := op64 (fd_ok i c3)
        have g4 := op64 (fk_step i c3)
        obtain ⟨m1, m2, m3⟩ := H.out.hp i c3
        have m1 := op64 m1
        have m2 := op64 m2
        have m3 := op64 m3
        go_wp2
        go_round
        case rel => exact ⟨i + 1, by omega, rfl, rfl⟩
        case measure => exact fk_step' i c3
      · obtain rfl : i = 8 := by omega
        have g0 := fk_end
        have g1 := op64 H.out.hzp
        go_wp2
        go_ret
        exact ⟨rfl, rfl⟩
end Go.Proofs.Ytajjepcegpimjaa
