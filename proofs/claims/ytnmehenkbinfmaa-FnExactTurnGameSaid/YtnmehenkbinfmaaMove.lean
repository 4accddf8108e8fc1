/-
  Regions that draw their order: reads that may come at whatever time, and operations one after another beside them, some of which make memory; outside a round of a range over a function, and inside one.
-/
import Derived.Test.YtnmehenkbinfmaaReg
import Derived.Test.YtnmehenkbinfmaaInRound
namespace Go.Proofs.Ytnmehenkbinfmaa
open Go
set_option linter.unusedVariables false

/-- an operation that yields a value and never enters a function -/
def valueOp (o : Oper) : Bool :=
  match o.op with
  | .move _ | .assign _ | .load _ _ | .fieldAddr _ _ _ | .field _ _ _ | .indexAddr _ _ _ | .index _ _ _ | .binOp _ _ _ _ _ | .unOp _ _ _ | .convert _ _ _ => true
  | _ => false
theorem value_run {P : Program} {s : Sem Value} {w w' : World} {n : Next} (h : (do pure (Next.value (← s)) : Sem Next).run P w = .ok n w') : ∃ v, n = .value v := by
  rw [Sem.run_bind] at h
  cases hs : s.run P w with
  | ok v w1 =>
    rw [hs] at h
    simp only [Result.andThen, Sem.run_pure, Result.ok.injEq] at h
    exact ⟨v, h.1.symm⟩
  | halt x w1 =>
    rw [hs] at h
    simp [Result.andThen] at h
theorem valueOp_run {P : Program} {ρ : Operand → Value} {o : Oper} {w w' : World} {n : Next} (hv : valueOp o = true) (h : (execOp ρ o).run P w = .ok n w') : ∃ v, n = .value v := by
  unfold valueOp at hv
  cases ho : o.op <;> simp only [ho, Bool.false_eq_true] at hv
  case move x => simp only [execOp, ho, Sem.run_pure, Result.ok.injEq] at h; exact ⟨_, h.1.symm⟩
  case assign x => simp only [execOp, ho, Sem.run_pure, Result.ok.injEq] at h; exact ⟨_, h.1.symm⟩
  all_goals
    simp only [execOp, ho] at h
    exact value_run h

section
variable {P : Program} {ops : Array Oper} {md : Region.Mode} {C : World → Prop} {n : Nat}

theorem yields_run {o : Oper} {v : Value} {a : Act} {w : World} (hy : YieldsIn P ops C o v a) (hv : valueOp o = true) (hw : C w) :
    (Region.wanted o (yielded ops a.tmps) = true ∧ (execOp a.eval o).run P w = .ok (.value v) w) ∨ (Region.wanted o (yielded ops a.tmps) = false ∧ v = undef) := by
  rcases hy with ⟨h1, h2⟩ | h
  · refine .inl ⟨h1, ?_⟩
    have h3 := h2 w hw
    unfold Oper.quietAt at h3
    cases hr : (execOp a.eval o).run P w with
    | halt x w' => rw [hr] at h3; simp only [Oper.quietUpon] at h3
    | ok x w' =>
      obtain ⟨u, rfl⟩ := valueOp_run hv hr
      rw [hr] at h3
      obtain ⟨rfl, rfl⟩ := h3
      rfl
  · exact .inr h

/-- one operation behind which K holds -/
def stepIn (n : Nat) (P : Program) (ops : Array Oper) (o : Oper) (K : Act → World → Prop) (a : Act) (w : World) : Prop := wpListIn Fence.wide n P ops (Exit.then K (fun _ _ _ => False)) [o] a w

theorem step_put {oi oj : Oper} {v : Value} (hap : oi.apart ops oj = true) (hsi : ∀ cs b, oi.op ≠ .select cs b) (hsj : ∀ cs b, oj.op ≠ .select cs b) {K : Act → World → Prop} {a : Act} {w : World}
    (hy : YieldsIn P ops C oi v a) (h : stepIn n P ops oj K (a.put oi.dst v) w) : stepIn n P ops oj (fun a' w' => YieldsIn P ops C oi v a' ∧ K (a'.put oi.dst v) w') a w := by
  obtain ⟨h1, h2, h3⟩ := Oper.apart_spec hap
  have keep : ∀ (a : Act), YieldsIn P ops C oi v a → ∀ u, YieldsIn P ops C oi v (a.put oj.dst u) := fun a hy u =>
    hy.of_same (execOp_put oi hsi a oj.dst u h3) (wanted_put oi a oj.dst u h3)
  unfold stepIn wpListIn at *
  rw [wanted_put oj a oi.dst v h1, about_put oj w a oi.dst v h1] at h
  by_cases hw : Region.wanted oj (yielded ops a.tmps) = true
  · rw [if_pos hw] at h ⊢
    unfold Oper.wpIn at *
    rw [about_put oj w a oi.dst v h1] at h
    refine ⟨h.1, ?_⟩
    have h := h.2
    rw [show Fence.wide.round = none from rfl, Oper.semAt_none] at h ⊢
    rw [execOp_put oj hsj a oi.dst v h1] at h
    generalize (execOp a.eval oj).run P w = r at *
    cases r with
    | halt x w' => cases x <;> exact h
    | ok x w' =>
      cases x with
      | value u => exact ⟨keep a hy u, by rw [← Act.put_comm a v u h2]; exact h⟩
      | skip => exact ⟨keep a hy _, by rw [← Act.put_comm a v undef h2]; exact h⟩
      | defer d =>
        refine ⟨keep { a with defers := d :: a.defers } (hy.of_same rfl rfl) _, ?_⟩
        rw [← Act.put_comm _ v undef h2, ← Act.put_defers]
        exact h
      | enter f args =>
        refine ⟨h.1, h.2.mono fun e w'' he => ?_⟩
        cases e with
        | returned u => exact ⟨keep a hy u, by rw [← Act.put_comm a v u h2]; exact he⟩
        | panicked c => exact he
        | outgrown => exact he
      | row row args => exact ⟨h.1, h.2.mono fun u w'' he => ⟨keep a hy u, by rw [← Act.put_comm a v u h2]; exact he⟩⟩
      | round l f tmps assign body =>
        refine ⟨h.1, h.2.mono fun e w'' he => ?_⟩
        cases e with
        | returned u => exact ⟨keep a hy u, by rw [← Act.put_comm a v u h2]; exact he⟩
        | panicked c => exact he
        | outgrown => exact he
      | _ => exact h
  · rw [if_neg hw] at h ⊢
    exact ⟨h.1, keep a hy _, by rw [← Act.put_comm a v undef h2]; exact h.2⟩

theorem step_mono {o : Oper} {K K' : Act → World → Prop} {a : Act} {w : World} (h : stepIn n P ops o K a w) (k : ∀ a w, K a w → K' a w) : stepIn n P ops o K' a w := by
  unfold stepIn wpListIn at *
  by_cases hw : Region.wanted o (yielded ops a.tmps) = true
  · rw [if_pos hw] at h ⊢
    refine ⟨h.1, ?_⟩
    have h := h.2
    generalize (o.semAt Fence.wide.round a.eval).run P w = r at *
    cases r with
    | halt x w' => cases x <;> exact h
    | ok x w' =>
      cases x with
      | value u => exact k _ _ h
      | skip => exact k _ _ h
      | defer d => exact k _ _ h
      | enter f args => exact ⟨h.1, h.2.mono fun e w'' he => by cases e <;> first | exact k _ _ he | exact he⟩
      | row row args => exact ⟨h.1, h.2.mono fun u w'' he => k _ _ he⟩
      | round l f tmps assign body => exact ⟨h.1, h.2.mono fun e w'' he => by cases e <;> first | exact k _ _ he | exact he⟩
      | _ => exact h
  · rw [if_neg hw] at h ⊢
    exact ⟨h.1, k _ _ h.2⟩

theorem step_op {i : Nat} {o : Oper} {K : Act → World → Prop} {Q : Exit → Act → World → Prop} {a : Act} {w : World} (hi : ops[i]? = some o) (h : stepIn n P ops o K a w) : wpOpIn Fence.wide n P ops Q i K a w := by
  unfold stepIn wpListIn at h
  unfold wpOpIn
  simp only [hi]
  by_cases hw : Region.wanted o (yielded ops a.tmps) = true
  · rw [if_pos hw] at h ⊢
    refine ⟨h.1, ?_⟩
    have h := h.2
    generalize (o.semAt Fence.wide.round a.eval).run P w = r at *
    cases r with
    | halt x w' => cases x <;> exact h.elim
    | ok x w' =>
      cases x with
      | value u => exact h
      | skip => exact h
      | defer d => exact h
      | enter f args => exact ⟨h.1, h.2.mono fun e w'' he => by cases e with | returned u => exact he | panicked c => exact he.elim | outgrown => obtain ⟨_, _, k⟩ := he; exact k.elim⟩
      | row row args => exact h
      | round l f tmps assign body => exact ⟨h.1, h.2.mono fun e w'' he => by cases e with | returned u => exact he | panicked c => exact he.elim | outgrown => obtain ⟨_, _, k⟩ := he; exact k.elim⟩
      | _ => exact h
  · rw [if_neg hw] at h ⊢
    exact h

/-- the reads still to come, in the text's order; then L -/
def quietL (P : Program) (ops : Array Oper) (C : World → Prop) (L : Act → Prop) : List Nat → Act → Prop
  | [], a => L a
  | i :: r, a => qOp P ops C i (quietL P ops C L r) a

theorem quietL_take {L : Act → Prop} {i : Nat} {oi : Oper} (hi : ops[i]? = some oi) (hsel : ∀ (j : Nat) (o : Oper) cs b, ops[j]? = some o → o.op ≠ .select cs b) :
    ∀ (R : List Nat) (a : Act), R.Pairwise (· < ·) → i ∈ R → (∀ j, j ∈ R → j < i → ∃ oj, ops[j]? = some oj ∧ oj.apart ops oi = true) → quietL P ops C L R a →
    ∃ v, YieldsIn P ops C oi v a ∧ quietL P ops C L (R.erase i) (a.put oi.dst v)
  | [], a, _, h, _, _ => by cases h
  | j :: R, a, hp, hm, hap, h => by
    by_cases e : j = i
    · subst e
      obtain ⟨v, hy, hK⟩ := yieldsIn_of_qOp hi h
      exact ⟨v, hy, by rw [List.erase_cons_head]; exact hK⟩
    · have hm' : i ∈ R := by
        rcases List.mem_cons.1 hm with h | h
        · exact absurd h.symm e
        · exact h
      have hlt : j < i := (List.pairwise_cons.1 hp).1 i hm'
      obtain ⟨oj, hj, ha⟩ := hap j (List.mem_cons_self ..) hlt
      obtain ⟨h1, h2, h3⟩ := Oper.apart_spec ha
      obtain ⟨vj, hyj, hK⟩ := yieldsIn_of_qOp hj h
      obtain ⟨vi, hyi, hQ⟩ := quietL_take hi hsel R (a.put oj.dst vj) (List.pairwise_cons.1 hp).2 hm' (fun q hq hlq => hap q (List.mem_cons_of_mem _ hq) hlq) hK
      refine ⟨vi, hyi.of_same (execOp_put oi (fun cs b => hsel i oi cs b hi) a oj.dst vj h1).symm (wanted_put oi a oj.dst vj h1).symm, ?_⟩
      rw [List.erase_cons_tail (by simpa using e)]
      have hyj' : YieldsIn P ops C oj vj (a.put oi.dst vi) := hyj.of_same (execOp_put oj (fun cs b => hsel j oj cs b hj) a oi.dst vi h3) (wanted_put oj a oi.dst vi h3)
      refine hyj'.qOp hj ?_
      rw [← Act.put_comm a vj vi h2]
      exact hQ

theorem quietL_step {o : Oper} {rest : Act → World → Prop} {w : World} (hso : ∀ cs b, o.op ≠ .select cs b) (hsel : ∀ (j : Nat) (o : Oper) cs b, ops[j]? = some o → o.op ≠ .select cs b) :
    ∀ (R : List Nat) (a : Act), (∀ j, j ∈ R → ∃ oj, ops[j]? = some oj ∧ oj.apart ops o = true) → quietL P ops C (stepIn n P ops o (fun a' w' => C w' ∧ rest a' w') · w) R a →
    stepIn n P ops o (fun a' w' => C w' ∧ quietL P ops C (rest · w') R a') a w
  | [], a, _, h => h
  | j :: R, a, hap, h => by
    obtain ⟨oj, hj, ha⟩ := hap j (List.mem_cons_self ..)
    obtain ⟨v, hy, hK⟩ := yieldsIn_of_qOp hj h
    have ih := quietL_step hso hsel R _ (fun q hq => hap q (List.mem_cons_of_mem _ hq)) hK
    exact step_mono (step_put ha (fun cs b => hsel j oj cs b hj) hso hy ih) fun a' w' ⟨h1, h2, h3⟩ => ⟨h2, h1.qOp hj h3⟩

/-! ### the Bool over the region -/

def apartB (ops : Array Oper) (i j : Nat) : Bool :=
  match ops[i]?, ops[j]? with
  | some x, some y => x.apart ops y
  | _, _ => false
def moveB (md : Region.Mode) (ops : Array Oper) (m c : Nat) : Bool :=
  Region.noSelect ops && (decide (m + c < ops.size) &&
  (((List.range ops.size).all fun i => match ops[i]? with | some o => o.after.all (fun e => !Region.binds md e || decide (e.on < i)) | none => true) &&
  (((List.range m).all fun i => match ops[i]? with | some o => valueOp o | none => true) &&
  (((List.range m).all fun i => (List.range ops.size).all fun j => decide (j ≤ i) || (Region.waitsFor md ops j i || apartB ops i j)) &&
  (((List.range ops.size).all fun t => decide (t ≤ m) || Region.waitsFor md ops t (t - 1)) &&
  (((List.range m).all fun i => (List.range (m + c + 1)).any fun j => decide (i < j) && Region.waitsFor md ops j i) &&
  Region.seqB md ops (ops.size - (m + c)) (m + c) ((Array.range ops.size).map fun i => decide (i < m + c))))))))

structure MoveOk (md : Region.Mode) (ops : Array Oper) (m c : Nat) : Prop where
  sel : ∀ (j : Nat) (o : Oper) cs b, ops[j]? = some o → o.op ≠ .select cs b
  lt : m + c < ops.size
  topo : ∀ i o, ops[i]? = some o → ∀ e ∈ o.after, Region.binds md e = true → e.on < i
  val : ∀ i o, i < m → ops[i]? = some o → valueOp o = true
  apart : ∀ i j, i < m → i < j → j < ops.size → Region.waitsFor md ops j i = true ∨ apartB ops i j = true
  chain : ∀ t, m < t → t < ops.size → Region.waitsFor md ops t (t - 1) = true
  sink : ∀ i, i < m → ∃ j, i < j ∧ j ≤ m + c ∧ Region.waitsFor md ops j i = true
  seq : Region.seqB md ops (ops.size - (m + c)) (m + c) ((Array.range ops.size).map fun i => decide (i < m + c)) = true

theorem MoveOk.of {m c : Nat} (h : moveB md ops m c = true) : MoveOk md ops m c := by
  simp only [moveB, Bool.and_eq_true, decide_eq_true_eq] at h
  obtain ⟨h1, h2, h3, h4, h5, h6, h7, h8⟩ := h
  refine ⟨Region.noSelect_spec h1, h2, fun i o ho e he hb => ?_, fun i o hi ho => ?_, fun i j hi hij hj => ?_, fun t ht hl => ?_, fun i hi => ?_, h8⟩
  · have hi : i < ops.size := (Array.getElem?_eq_some_iff.1 ho).1
    have := List.all_eq_true.1 h3 i (List.mem_range.2 hi)
    simp only [ho] at this
    have := Array.all_eq_true_iff_forall_mem.1 this e he
    simpa [hb] using this
  · have := List.all_eq_true.1 h4 i (List.mem_range.2 hi)
    simpa only [ho] using this
  · have := List.all_eq_true.1 (List.all_eq_true.1 h5 i (List.mem_range.2 hi)) j (List.mem_range.2 hj)
    simp only [Bool.or_eq_true, decide_eq_true_eq] at this
    rcases this with h | h
    · omega
    · exact h
  · have := List.all_eq_true.1 h6 t (List.mem_range.2 hl)
    simp only [Bool.or_eq_true, decide_eq_true_eq] at this
    rcases this with h | h
    · omega
    · exact h
  · have := List.all_eq_true.1 h7 i (List.mem_range.2 hi)
    simp only [List.any_eq_true, List.mem_range, Bool.and_eq_true, decide_eq_true_eq] at this
    obtain ⟨j, hj, h1, h2⟩ := this
    exact ⟨j, h1, by omega, h2⟩

structure MInv (md : Region.Mode) (ops : Array Oper) (m : Nat) (listed : Array Bool) (R : List Nat) (k : Nat) : Prop where
  size : listed.size = ops.size
  closed : ∀ j oj, ops[j]? = some oj → listed.getD j false = true → ∀ e ∈ oj.after, Region.binds md e = true → listed.getD e.on false = true
  reads : ∀ i, i < m → (listed.getD i true = false ↔ i ∈ R)
  low : ∀ i, i ∈ R → i < m
  sorted : R.Pairwise (· < ·)
  seq : ∀ t, m ≤ t → t < ops.size → (listed.getD t true = false ↔ m + k ≤ t)

theorem getD_out {listed : Array Bool} {i : Nat} (hi : i < listed.size) (h : listed.getD i true = true) : listed.getD i false = true := by
  simp [hi] at h ⊢; exact h
theorem unlisted_of {listed : Array Bool} {i : Nat} (hi : i < listed.size) (h : ¬ listed.getD i false = true) : listed.getD i true = false := by
  simp [hi] at h ⊢; exact h

theorem some_ready {m c : Nat} (ok : MoveOk md ops m c) {listed : Array Bool} (hs : listed.size = ops.size) (j : Nat) (hj : j < ops.size) (hu : listed.getD j true = false) : Region.ready md ops listed ≠ [] := by
  induction j using Nat.strongRecOn with
  | _ j ih =>
    have ho : ops[j]? = some ops[j] := Array.getElem?_eq_getElem hj
    by_cases hall : ∀ e ∈ (ops[j]).after, Region.binds md e = true → listed.getD e.on false = true
    · exact List.ne_nil_of_mem (mem_ready.2 ⟨hu, _, ho, hall⟩)
    · simp only [Classical.not_forall] at hall
      obtain ⟨e, he, hb, hn⟩ := hall
      have hlt := ok.topo j _ ho e he hb
      exact ih e.on hlt (by omega) (unlisted_of (by omega) hn)

/-- what waits for an unlisted operation is unlisted and not ready -/
theorem waits_un {m : Nat} {listed : Array Bool} {R : List Nat} {k i j : Nat} (inv : MInv md ops m listed R k) (hi : listed.getD i true = false) (hw : Region.waitsFor md ops j i = true) : listed.getD j true = false ∧ j ∉ Region.ready md ops listed := by
  obtain ⟨oj, hj, e, he, hb, hon⟩ := Region.waitsFor_spec hw
  have hjs : j < listed.size := by rw [inv.size]; exact (Array.getElem?_eq_some_iff.1 hj).1
  have hif := getD_both hi
  constructor
  · refine unlisted_of hjs fun h => ?_
    have := inv.closed j oj hj h e he hb
    rw [hon, hif] at this
    cases this
  · intro h
    obtain ⟨_, o', ho', hall⟩ := mem_ready.1 h
    have : o' = oj := Option.some.inj (ho'.symm.trans hj)
    subst this
    have := hall e he hb
    rw [hon, hif] at this
    cases this

theorem reads_first {m c : Nat} (ok : MoveOk md ops m c) {listed : Array Bool} {R : List Nat} {k : Nat} (inv : MInv md ops m listed R k) (i : Nat) (hi : i < m) (hu : listed.getD i true = false) : k ≤ c ∧ (k = c → m + c ∉ Region.ready md ops listed) := by
  obtain ⟨j, h1, h2, h3⟩ := ok.sink i hi
  obtain ⟨h4, h5⟩ := waits_un inv hu h3
  have hlt := ok.lt
  by_cases hj : j < m
  · exact reads_first ok inv j hj h4
  · have h6 := (inv.seq j (by omega) (by omega)).1 h4
    refine ⟨by omega, fun e => ?_⟩
    have : j = m + c := by omega
    rw [← this]
    exact h5
termination_by m - i

theorem MInv.take {m : Nat} {listed : Array Bool} {R : List Nat} {k i : Nat} (inv : MInv md ops m listed R k) (hi : i ∈ Region.ready md ops listed) (him : i < m) : MInv md ops m (listed.setIfInBounds i true) (R.erase i) k := by
  obtain ⟨h0, oi, hoi, hall⟩ := mem_ready.1 hi
  have hnd : R.Nodup := inv.sorted.imp (fun h => Nat.ne_of_lt h)
  have his : i < ops.size := (Array.getElem?_eq_some_iff.1 hoi).1
  refine ⟨by simp [inv.size], fun j oj hj hl e he hb => ?_, fun q hq => ?_, fun q hq => inv.low q (List.mem_of_mem_erase hq), inv.sorted.sublist List.erase_sublist, fun t h1 h2 => ?_⟩
  · by_cases e1 : i = j
    · subst e1
      have : oj = oi := Option.some.inj (hj.symm.trans hoi)
      subst this
      exact getD_set_true (hall e he hb)
    · rw [getD_set_ne false e1] at hl
      exact getD_set_true (inv.closed j oj hj hl e he hb)
  · by_cases e1 : i = q
    · subst e1
      constructor
      · intro h
        simp [inv.size, his] at h
      · intro h
        exact absurd h (List.Nodup.not_mem_erase hnd)
    · rw [getD_set_ne true e1, inv.reads q hq]
      exact (List.mem_erase_of_ne (Ne.symm e1)).symm
  · rw [getD_set_ne true (by omega)]
    exact inv.seq t h1 h2

theorem MInv.next {m : Nat} {listed : Array Bool} {R : List Nat} {k : Nat} (inv : MInv md ops m listed R k) (hi : m + k ∈ Region.ready md ops listed) : MInv md ops m (listed.setIfInBounds (m + k) true) R (k + 1) := by
  obtain ⟨h0, oi, hoi, hall⟩ := mem_ready.1 hi
  have his : m + k < ops.size := (Array.getElem?_eq_some_iff.1 hoi).1
  refine ⟨by simp [inv.size], fun j oj hj hl e he hb => ?_, fun q hq => ?_, inv.low, inv.sorted, fun t h1 h2 => ?_⟩
  · by_cases e1 : m + k = j
    · subst e1
      have : oj = oi := Option.some.inj (hj.symm.trans hoi)
      subst this
      exact getD_set_true (hall e he hb)
    · rw [getD_set_ne false e1] at hl
      exact getD_set_true (inv.closed j oj hj hl e he hb)
  · rw [getD_set_ne true (by omega)]
    exact inv.reads q hq
  · by_cases e1 : m + k = t
    · subst e1
      constructor
      · intro h
        simp [inv.size, his] at h
      · intro h
        omega
    · rw [getD_set_ne true e1, inv.seq t h1 h2]
      omega

/-- the operations beside the reads, one after another, each keeping the class -/
def seqC (n : Nat) (P : Program) (ops : Array Oper) (C : World → Prop) (fin : Act → World → Prop) : List Oper → Act → World → Prop
  | [], a, w => fin a w
  | o :: r, a, w => stepIn n P ops o (fun a' w' => C w' ∧ seqC n P ops C fin r a' w') a w

theorem move_any {m c : Nat} {Q : Exit → Act → World → Prop} (ok : MoveOk md ops m c) : ∀ (fuel : Nat) (R : List Nat) (k : Nat) (listed : Array Bool) (a : Act) (w : World), MInv md ops m listed R k → fuel = R.length + (ops.size - (m + k)) → k ≤ c → C w →
    quietL P ops C (seqC n P ops C (wpListIn Fence.wide n P ops Q (ops.toList.drop (m + c))) ((ops.toList.drop (m + k)).take (c - k)) · w) R a → wpAnyIn Fence.wide n P md ops Q fuel listed a w := by
  have hlt := ok.lt
  intro fuel
  induction fuel with
  | zero =>
    intro R k listed a w inv hf hk hw h
    omega
  | succ fuel ih =>
    intro R k listed a w inv hf hk hw h
    by_cases hend : R = [] ∧ k = c
    · obtain ⟨rfl, rfl⟩ := hend
      have hcan : listed = (Array.range ops.size).map fun i => decide (i < m + k) := by
        refine Array.ext (by simp [inv.size]) fun i h1 h2 => ?_
        rw [inv.size] at h1
        simp only [Array.getElem_map, Array.getElem_range]
        by_cases him : i < m
        · have := inv.reads i him
          simp only [List.not_mem_nil, iff_false] at this
          rw [decide_eq_true (by omega)]
          simpa [inv.size, h1] using this
        · have := inv.seq i (by omega) h1
          by_cases hik : i < m + k
          · rw [decide_eq_true hik]
            have : ¬ listed.getD i true = false := fun g => by have := this.1 g; omega
            simpa [inv.size, h1] using this
          · rw [decide_eq_false hik]
            have := this.2 (by omega)
            simpa [inv.size, h1] using this
      have hl : (ops.toList.drop (m + k)).length = ops.size - (m + k) := by simp
      have he : fuel + 1 = (ops.toList.drop (m + k)).length := by rw [hl, hf]; simp
      rw [he]
      refine anyIn_seq (ops.toList.drop (m + k)) (m + k) listed a w (fun j => by simp [List.getElem?_drop]) (by rw [hl, hcan]; exact ok.seq) ?_
      have := h
      simp only [quietL, Nat.sub_self, List.take_zero, seqC] at this
      exact this
    · refine ⟨fun e => absurd e (some_ready ok inv.size (m + k) (by omega) ((inv.seq (m + k) (by omega) (by omega)).2 (Nat.le_refl _))), fun i hi => ?_⟩
      obtain ⟨hun, oi, hoi, hall⟩ := mem_ready.1 hi
      have his : i < ops.size := (Array.getElem?_eq_some_iff.1 hoi).1
      have notwait : ∀ j, listed.getD j true = false → Region.waitsFor md ops i j = true → False := fun j hj hw => (waits_un inv hj hw).2 hi
      by_cases him : i < m
      · have hiR := (inv.reads i him).1 hun
        obtain ⟨v, hy, hK⟩ := quietL_take hoi ok.sel R a inv.sorted hiR (fun j hj hji => by
          have hjm := inv.low j hj
          rcases ok.apart j i hjm hji his with h1 | h1
          · exact absurd h1 (fun h1 => notwait j ((inv.reads j hjm).2 hj) h1)
          · unfold apartB at h1
            have hjs : j < ops.size := by omega
            rw [Array.getElem?_eq_getElem hjs, hoi] at h1
            exact ⟨_, Array.getElem?_eq_getElem hjs, h1⟩) h
        have hnext := ih (R.erase i) k _ (a.put oi.dst v) w (inv.take hi him) (by rw [List.length_erase_of_mem hiR]; have := List.length_pos_of_mem hiR; omega) hk hw hK
        unfold wpOpIn
        simp only [hoi]
        rcases yields_run hy (ok.val i oi him hoi) hw with ⟨h1, h2⟩ | ⟨h1, rfl⟩
        · simp only [h1, if_true]
          refine ⟨fun _ _ => trivial, ?_⟩
          rw [show Fence.wide.round = none from rfl, Oper.semAt_none, h2]
          exact hnext
        · simp only [h1, Bool.false_eq_true, if_false]
          exact ⟨fun _ _ => trivial, hnext⟩
      · have hmk := (inv.seq i (by omega) his).1 hun
        have hik : i = m + k := by
          by_cases e : i = m + k
          · exact e
          · have h1 := ok.chain i (by omega) his
            have h2 := (inv.seq (i - 1) (by omega) (by omega)).2 (by omega)
            exact absurd h1 (fun h1 => notwait (i - 1) h2 h1)
        subst hik
        have hkc : k < c := by
          by_cases e : k = c
          · cases R with
            | nil => exact absurd ⟨rfl, e⟩ hend
            | cons j R =>
              have hj := inv.low j (List.mem_cons_self ..)
              have := (reads_first ok inv j hj ((inv.reads j hj).2 (List.mem_cons_self ..))).2 e
              rw [← e] at this
              exact absurd hi this
          · omega
        have hd : (ops.toList.drop (m + k)).take (c - k) = oi :: (ops.toList.drop (m + (k + 1))).take (c - (k + 1)) := by
          have e1 : ops.toList.drop (m + k) = oi :: ops.toList.drop (m + k + 1) := by
            rw [List.drop_eq_getElem_cons (by simpa using his)]
            have : ops.toList[m + k]'(by simpa using his) = oi := by
              have := (Array.getElem?_eq_some_iff.1 hoi).2
              simpa using this
            rw [this]
          have e2 : c - k = (c - (k + 1)) + 1 := by omega
          rw [e1, e2, List.take_succ_cons, Nat.add_assoc]
        rw [hd] at h
        have hst := quietL_step (fun cs b => ok.sel _ oi cs b hoi) ok.sel R a (fun j hj => by
          have hjm := inv.low j hj
          rcases ok.apart j (m + k) hjm (by omega) his with h1 | h1
          · exact absurd h1 (fun h1 => notwait j ((inv.reads j hjm).2 hj) h1)
          · unfold apartB at h1
            have hjs : j < ops.size := by omega
            rw [Array.getElem?_eq_getElem hjs, hoi] at h1
            exact ⟨_, Array.getElem?_eq_getElem hjs, h1⟩) h
        exact step_op hoi (step_mono hst fun a' w' ⟨h1, h2⟩ => ih R (k + 1) _ a' w' (inv.next hi) (by omega) (by omega) h1 h2)

theorem quiet_imp {L L' : Act → Prop} (h : ∀ a, L a → L' a) : ∀ (l : List Oper) (a : Act), wpQuiet P ops C L l a → wpQuiet P ops C L' l a
  | [], a, g => h a g
  | o :: l, a, g => by
    unfold wpQuiet at *
    by_cases hw : Region.wanted o (yielded ops a.tmps) = true
    · rw [if_pos hw] at g ⊢
      exact Oper.quiet_mono (fun a' k => quiet_imp h l a' k) g
    · rw [if_neg hw] at g ⊢
      exact quiet_imp h l _ g

theorem quietL_of {L : Act → Prop} : ∀ (l : List Oper) (k : Nat) (a : Act), (∀ j, j < l.length → l[j]? = ops[k + j]?) → wpQuiet P ops C L l a → quietL P ops C L (List.range' k l.length) a
  | [], k, a, _, h => h
  | o :: l, k, a, hl, h => by
    have ho : ops[k]? = some o := by simpa using (hl 0 (by simp)).symm
    rw [List.length_cons, List.range'_succ]
    have hq : qOp P ops C k (wpQuiet P ops C L l) a := by
      unfold qOp
      simp only [ho]
      exact h
    exact qOp_mono (fun a' h' => quietL_of l (k + 1) a' (fun j hj => by have := hl (j + 1) (by simp; omega); simpa [Nat.add_assoc, Nat.add_comm 1 j] using this) h') hq

theorem move_start {m c : Nat} (ok : MoveOk md ops m c) : MInv md ops m (Array.replicate ops.size false) (List.range' 0 m) 0 := by
  have hlt := ok.lt
  have hf : ∀ i, i < ops.size → (Array.replicate ops.size false).getD i true = false := fun i hi => getD_in (by simpa using hi) (getD_replicate_false _ _)
  refine ⟨by simp, fun j oj _ h => (by rw [getD_replicate_false] at h; cases h), fun i hi => ⟨fun _ => ?_, fun _ => hf i (by omega)⟩, fun i hi => ?_, List.pairwise_lt_range', fun t h1 h2 => ⟨fun _ => h1, fun _ => hf t h2⟩⟩
  · simp [List.mem_range'_1, hi]
  · simpa [List.mem_range'_1] using hi

/-- reads, m of them, at whatever time; beside them c operations that keep the class, then the rest -/
theorem region_move {id : Nat} {Q : Exit → Act → World → Prop} {a : Act} {w : World} {l : List Oper} (m c : Nat) (hm : P.follows .mixedOrders = true) (hB : moveB .any l.toArray m c = true) (hC : C w.drew)
    (h : wpQuiet P l.toArray C (fun a' => ∀ w', C w' → seqC n P l.toArray C (wpListIn Fence.wide n P l.toArray Q (l.drop (m + c))) ((l.drop m).take c) a' w') (l.take m) a) : wpAnyIn Fence.wide n P .any l.toArray Q l.toArray.size (Array.replicate l.toArray.size false) a w.drew := by
  have ok := MoveOk.of hB
  have hlt := ok.lt
  have hml : m < l.length := by have := ok.lt; simp at this; omega
  have htl : (l.take m).length = m := by simp; omega
  refine move_any (C := C) ok l.toArray.size (List.range' 0 m) 0 _ a w.drew (move_start ok) (by simp; omega) (Nat.zero_le _) hC ?_
  have h1 : wpQuiet P l.toArray C (fun a' => seqC n P l.toArray C (wpListIn Fence.wide n P l.toArray Q (l.drop (m + c))) ((l.drop m).take c) a' w.drew) (l.take m) a := by
    exact quiet_imp (fun a' g => g _ hC) _ _ h
  have h2 := quietL_of (ops := l.toArray) (l.take m) 0 a (fun j hj => by rw [htl] at hj; simp [hj]) h1
  rw [htl] at h2
  simpa using h2

/-- the same, as the code's own step -/
theorem region_move_wp {id : Nat} {Q : Exit → Act → World → Prop} {a : Act} {w : World} {l : List Oper} (m c : Nat) (hm : P.follows .mixedOrders = true) (hB : moveB .any l.toArray m c = true) (hC : C w.drew)
    (h : wpQuiet P l.toArray C (fun a' => ∀ w', C w' → seqC 1 P l.toArray C (wpListIn Fence.wide 1 P l.toArray Q (l.drop (m + c))) ((l.drop m).take c) a' w') (l.take m) a) : (Code.region id l.toArray true).wp P Q a w :=
  wpIn_wide.1 (wpIn_region_any hm (region_move (id := id) m c hm hB hC h))

/-- the same, inside a round -/
theorem region_move_in {id r : Nat} {Q : Exit → Act → World → Prop} {a : Act} {w : World} {l : List Oper} (m c : Nat) (hm : P.follows .mixedOrders = true) (hB : moveB .any l.toArray m c = true) (hd : noDefer l = true) (hC : C w.drew)
    (h : wpQuiet P l.toArray C (fun a' => ∀ w', C w' → seqC n P l.toArray C (wpListIn Fence.wide n P l.toArray Q (l.drop (m + c))) ((l.drop m).take c) a' w') (l.take m) a) : (Code.region id l.toArray true).wpIn (Fence.wide.inRound r) n P Q a w :=
  region_round hm (noDefer_at hd) (region_move (id := id) m c hm hB hC h)
end
end Go.Proofs.Ytnmehenkbinfmaa
