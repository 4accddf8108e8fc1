/-
  Regions that draw their order: first reads and calls that hand back what does not hang on the order and keep the world in a class, then operations one after another; outside a round of a range over a function, and inside one.
-/
import Derived.StillTail
import Derived.Deep.Quiet
import Derived.OrdersIn
import Derived.TacticsIn
import Derived.RangeFuncCalls
namespace Go.Proofs.Ytnmehenkbinfmaa
open Go
set_option linter.unusedVariables false

section
variable {P : Program} {ops : Array Oper} {md : Region.Mode} {C : World → Prop}

/-- the head in whatever order, each operation quiet in the class; what stands behind it is L -/
def Heads (P : Program) (md : Region.Mode) (ops : Array Oper) (C : World → Prop) (n : Nat) (L : Array Bool → Act → Prop) : Nat → Array Bool → Act → Prop
  | 0, listed, a => L listed a
  | f + 1, listed, a => Region.ready md ops listed ≠ [] ∧ ∀ i ∈ Region.ready md ops listed, i < n ∧ qOp P ops C i (Heads P md ops C n L f (listed.setIfInBounds i true)) a

theorem heads_first {n i : Nat} {oi : Oper} {v : Value} {L : Array Bool → Act → Prop} (hi : ops[i]? = some oi) (hsel : ∀ (j : Nat) (o : Oper) cs b, ops[j]? = some o → o.op ≠ .select cs b)
    (hlow : ∀ listed, HeadInv md ops n listed → listed.getD i true = false → ∀ j ∈ Region.ready md ops listed, j < n)
    (hL : ∀ listed a, L listed a → ∀ j ∈ Region.ready md ops listed, n ≤ j) (f : Nat) : ∀ (listed : Array Bool) (a : Act), HeadInv md ops n listed →
      (∀ j oj, ops[j]? = some oj → j ≠ i → listed.getD j true = false → (∀ e ∈ oj.after, Region.binds md e = true → e.on ≠ i) → oi.apart ops oj = true) →
      i ∈ Region.ready md ops listed → YieldsIn P ops C oi v a →
      Heads P md ops C n L f (listed.setIfInBounds i true) (a.put oi.dst v) → Heads P md ops C n L (f + 1) listed a := by
  induction f with
  | zero =>
    intro listed a inv _ hr hy H
    have low := hlow listed inv (mem_ready.1 hr).1
    refine ⟨List.ne_nil_of_mem hr, fun j hj => ⟨low j hj, ?_⟩⟩
    by_cases e : j = i
    · subst e
      exact hy.qOp hi H
    · have h1 := hL _ _ H j (ready_mono hj e)
      have h2 := low j hj
      omega
  | succ f ih =>
    intro listed a inv apart hr hy H
    have low := hlow listed inv (mem_ready.1 hr).1
    refine ⟨List.ne_nil_of_mem hr, fun j hj => ⟨low j hj, ?_⟩⟩
    by_cases e : j = i
    · subst e
      exact hy.qOp hi H
    · obtain ⟨j0, oj, hoj, hdone⟩ := mem_ready.1 hj
      have free : ∀ e ∈ oj.after, Region.binds md e = true → e.on ≠ i := by
        intro e1 he hb h
        have h1 := hdone e1 he hb
        rw [h, getD_both (mem_ready.1 hr).1] at h1
        cases h1
      have step := qOp_put hoj (apart j oj hoj e j0 free) (fun cs b => hsel i oi cs b hi) (fun cs b => hsel j oj cs b hoj) hy (H.2 j (ready_mono hj e)).2
      refine qOp_mono (fun a' h => ih _ a' (inv.set hj (low j hj)) ?_ (ready_mono hr (Ne.symm e)) h.1 (by rw [Array.setIfInBounds_comm _ _ e]; exact h.2)) step
      intro k ok hk hki hun hno
      refine apart k ok hk hki ?_ hno
      by_cases ejk : j = k
      · subst ejk
        exact j0
      · rwa [getD_set_ne true ejk] at hun

theorem heads_lex {n g : Nat} {L : Act → Prop} (hsel : Region.noSelect ops = true) (hs : Region.sinkB md ops n = true) (hc : Region.chainB md ops n = true) (hn : n < ops.size) :
    ∀ (l : List Oper) (k : Nat) (listed : Array Bool) (a : Act), (∀ j, j < l.length → l[j]? = ops[k + j]?) → k + l.length = n → HeadInv md ops n listed →
    Region.lexHead md ops g l.length k listed = true → wpQuiet P ops C L l a →
    Heads P md ops C n (fun listed' a' => Region.seqB md ops g n listed' = true ∧ L a') l.length listed a
  | [], k, listed, a, _, hk, _, hB, h => by
    obtain rfl : k = n := by simpa using hk
    exact ⟨by simpa [Region.lexHead] using hB, h⟩
  | o :: l, k, listed, a, hl, hk, inv, hB, h => by
    have ho : ops[k]? = some o := by simpa using (hl 0 (by simp)).symm
    rw [List.length_cons] at hk
    simp only [List.length_cons, Region.lexHead, Bool.and_eq_true] at hB
    have hr : k ∈ Region.ready md ops listed := by simpa using hB.1.1
    have hq : qOp P ops C k (wpQuiet P ops C L l) a := by
      unfold qOp
      simp only [ho]
      exact h
    obtain ⟨v, hy, hK⟩ := yieldsIn_of_qOp ho hq
    refine heads_first ho (Region.noSelect_spec hsel) (fun ls iv hun j hj => ?_) (fun ls a' hL => seqB_ready hL.1) l.length listed a inv (Region.free_spec ho hB.1.2) hr hy
      (heads_lex hsel hs hc hn l (k + 1) _ _ (fun j hj => ?_) (by omega) (inv.set hr (by omega)) hB.2 hK)
    · by_cases hjn : j < n
      · exact hjn
      · exact absurd hj (tail_waits hs hc hn iv _ k rfl (by omega) hun j (by omega))
    · have := hl (j + 1) (by simp; omega)
      simpa [Nat.add_assoc, Nat.add_comm 1 j] using this

/-- the head's walk in the text's order, out of the Bool over the region -/
theorem heads_of {n : Nat} {L : Act → Prop} {l : List Oper} {a : Act} (hB : Region.lexTailB .any l.toArray n = true) (h : wpQuiet P l.toArray C L (l.take n) a) :
    Heads P .any l.toArray C n (fun listed' a' => Region.seqB .any l.toArray (l.drop n).length n listed' = true ∧ L a') n (Array.replicate l.toArray.size false) a ∧ n + (l.drop n).length = l.toArray.size := by
  simp only [Region.lexTailB, Bool.and_eq_true, decide_eq_true_eq] at hB
  obtain ⟨⟨⟨⟨hsel, hn⟩, hs⟩, hc⟩, hlex⟩ := hB
  have hn' : n < l.length := by simpa using hn
  have htl : (l.take n).length = n := by simp; omega
  have hdl : (l.drop n).length = l.toArray.size - n := by simp
  have H := heads_lex (P := P) (C := C) (L := L) (md := .any) (g := (l.drop n).length) hsel hs hc hn (l.take n) 0 (Array.replicate l.toArray.size false) a
    (fun j hj => by rw [htl] at hj; simp [hj]) (by simpa using htl)
    ⟨by simp, fun j oj _ h => (by rw [getD_replicate_false] at h; cases h), fun t _ ht => getD_in (by simpa using ht) (getD_replicate_false _ _)⟩
    (by rw [htl, hdl]; exact hlex) h
  rw [htl] at H
  exact ⟨H, by rw [hdl]; omega⟩

theorem heads_any {n g : Nat} {L : Array Bool → Act → Prop} {Q : Exit → Act → World → Prop} (hL : ∀ listed a w, C w → L listed a → wpAny P md ops Q g listed a w) :
    ∀ (f : Nat) (listed : Array Bool) (a : Act) (w : World), C w → Heads P md ops C n L f listed a → wpAny P md ops Q (f + g) listed a w
  | 0, listed, a, w, hw, h => by rw [Nat.zero_add]; exact hL _ _ _ hw h
  | f + 1, listed, a, w, hw, h => by
    rw [Nat.add_right_comm]
    exact ⟨fun e => absurd e h.1, fun i hi => wpOp_of_qOp hw (fun a' w' hw' k => heads_any hL f _ a' w' hw' k) (h.2 i hi).2⟩

/-- **quiet operations, then a tail**: in whatever order the head comes -/
theorem region_tail {id : Nat} {Q : Exit → Act → World → Prop} {a : Act} {w : World} {l : List Oper} (n : Nat) (hm : P.follows .mixedOrders = true) (hB : Region.lexTailB .any l.toArray n = true) (hC : C w.drew)
    (h : wpQuiet P l.toArray C (fun a' => ∀ w', C w' → wpList P l.toArray Q (l.drop n) a' w') (l.take n) a) : (Code.region id l.toArray true).wp P Q a w := by
  obtain ⟨H, e⟩ := heads_of hB h
  refine wp_region_any hm ?_
  have := heads_any (Q := Q) (L := fun listed' a' => Region.seqB .any l.toArray (l.drop n).length n listed' = true ∧ ∀ w', C w' → wpList P l.toArray Q (l.drop n) a' w') (fun listed a' w' hw' hL => wpAny_of_seq (md := .any) (l.drop n) n listed a' w' (fun j => by simp [List.getElem?_drop]) hL.1 (hL.2 w' hw')) n _ a _ hC H
  rw [e] at this
  exact this

/-! ### inside a round -/

def noDefer (l : List Oper) : Bool := l.all fun o => match o.op with | .defer _ => false | _ => true
theorem noDefer_at {l : List Oper} (h : noDefer l = true) (j : Nat) (o : Oper) (c : Call) (hj : l.toArray[j]? = some o) : o.op ≠ .defer c := by
  intro e
  have hj' : l[j]? = some o := by simpa using hj
  have := List.all_eq_true.1 h o (List.mem_of_getElem? hj')
  rw [e] at this
  cases this

variable {m r : Nat}
theorem quietIn {i : Nat} {a : Act} {K : Act → Prop} {K' : Act → World → Prop} {Q : Exit → Act → World → Prop} {w : World} (hd : ∀ (o : Oper) c, ops[i]? = some o → o.op ≠ .defer c) (hw : C w) (h : ∀ a w', C w' → K a → K' a w') (hh : qOp P ops C i K a) :
    wpOpIn (Fence.wide.inRound r) m P ops Q i K' a w := by
  unfold qOp at hh
  unfold wpOpIn
  cases ho : ops[i]? with
  | none =>
    simp only [ho] at hh
    exact h _ _ hw hh
  | some o =>
    simp only [ho] at hh
    by_cases hq : Region.wanted o (yielded ops a.tmps) = true
    · simp only [hq, if_true] at hh ⊢
      obtain ⟨v, h1, h2⟩ := hh
      have h3 := h1 w hw
      unfold Oper.quietAt at h3
      unfold Oper.wpIn
      rw [Oper.semAt_eq _ _ _ (fun c => hd o c ho)]
      refine ⟨fun _ _ => trivial, ?_⟩
      generalize (execOp a.eval o).run P w = res at *
      cases res with
      | halt x w' => simp only [Oper.quietUpon] at h3
      | ok x w' =>
        cases x with
        | value u =>
          obtain ⟨rfl, rfl⟩ := h3
          exact h _ _ hw h2
        | skip =>
          obtain ⟨rfl, rfl⟩ := h3
          exact h _ _ hw h2
        | enter f args =>
          obtain ⟨rfl, hc⟩ := h3
          refine ⟨(fun e => by cases e), (CallsIn.inRound r (callsIn_wide.2 hc)).mono ?_⟩
          rintro e w'' ⟨rfl, hw''⟩
          exact h _ _ hw'' h2
        | _ => simp only [Oper.quietUpon] at h3
    · simp only [hq, Bool.false_eq_true, if_false] at hh ⊢
      exact ⟨fun _ _ => trivial, h _ _ hw hh⟩

theorem anyIn_quiet {K : Act → Prop} {Q : Exit → Act → World → Prop} (hd : ∀ (j : Nat) (o : Oper) c, ops[j]? = some o → o.op ≠ .defer c) (hQ : ∀ a w, C w → K a → Q .normal a w) : ∀ (fuel : Nat) (listed : Array Bool) (a : Act) (w : World), C w →
    wpAnyQ P md ops C K fuel listed a → wpAnyIn (Fence.wide.inRound r) m P md ops Q fuel listed a w
  | 0, _, _, _, hw, h => ⟨h.1, hQ _ _ hw h.2⟩
  | fuel + 1, _, _, _, hw, h => ⟨fun e => hQ _ _ hw (h.1 e), fun i hi => quietIn (fun o c => hd i o c) hw (fun a' w' hw' k => anyIn_quiet hd hQ fuel _ a' w' hw' k) (h.2 i hi)⟩

theorem heads_anyIn {n g : Nat} {L : Array Bool → Act → Prop} {Q : Exit → Act → World → Prop} (hd : ∀ (j : Nat) (o : Oper) c, ops[j]? = some o → o.op ≠ .defer c)
    (hL : ∀ listed a w, C w → L listed a → wpAnyIn (Fence.wide.inRound r) m P md ops Q g listed a w) :
    ∀ (f : Nat) (listed : Array Bool) (a : Act) (w : World), C w → Heads P md ops C n L f listed a → wpAnyIn (Fence.wide.inRound r) m P md ops Q (f + g) listed a w
  | 0, listed, a, w, hw, h => by rw [Nat.zero_add]; exact hL _ _ _ hw h
  | f + 1, listed, a, w, hw, h => by
    rw [Nat.add_right_comm]
    exact ⟨fun e => absurd e h.1, fun i hi => quietIn (fun o c => hd i o c) hw (fun a' w' hw' k => heads_anyIn hd hL f _ a' w' hw' k) (h.2 i hi).2⟩

theorem anyIn_seq {F : Fence} {Q : Exit → Act → World → Prop} : ∀ (l : List Oper) (k : Nat) (listed : Array Bool) (a : Act) (w : World), (∀ j, l[j]? = ops[k + j]?) →
    Region.seqB md ops l.length k listed = true → wpListIn F m P ops Q l a w → wpAnyIn F m P md ops Q l.length listed a w
  | [], _, _, _, _, _, hB, h => ⟨by simpa [Region.seqB] using hB, h⟩
  | o :: l, k, listed, a, w, hl, hB, h => by
    have ho : ops[k]? = some o := by simpa using (hl 0).symm
    simp only [List.length_cons, Region.seqB, Bool.and_eq_true, decide_eq_true_eq] at hB
    refine ⟨fun e => (by rw [hB.1] at e; cases e), fun i hi => ?_⟩
    rw [hB.1, List.mem_singleton] at hi
    subst hi
    have hw : wpOpIn F m P ops Q i (wpListIn F m P ops Q l) a w := by
      unfold wpOpIn
      simp only [ho]
      exact h
    refine wpOpIn_mono (fun a' w' k => anyIn_seq l (i + 1) _ a' w' (fun j => ?_) hB.2 k) hw
    have := hl (j + 1)
    simpa [Nat.add_assoc, Nat.add_comm 1 j] using this

/-- a quiet region inside a round -/
theorem region_quiet_in {id : Nat} {Q : Exit → Act → World → Prop} {a : Act} {w : World} {l : List Oper} (hm : P.follows .mixedOrders = true) (hB : Region.lexB .any l.toArray = true) (hd : noDefer l = true) (hC : C w.drew)
    (h : wpQuiet P l.toArray C (fun a' => ∀ w', C w' → Q .normal a' w') l a) : (Code.region id l.toArray true).wpIn (Fence.wide.inRound r) m P Q a w := by
  simp only [Region.lexB, Bool.and_eq_true] at hB
  refine wpIn_region_any hm (anyIn_quiet (K := fun a' => ∀ w', C w' → Q .normal a' w') (noDefer_at hd) (fun _ w' hw' h => h w' hw') _ _ _ _ hC ?_)
  have := wpAnyQ_lex (C := C) (md := .any) hB.1 l 0 (Array.replicate l.toArray.size false) a (by simp) (by simpa using hB.2) h
  simpa using this

/-- quiet operations, then a tail, inside a round -/
theorem region_tail_in {id : Nat} {Q : Exit → Act → World → Prop} {a : Act} {w : World} {l : List Oper} (n : Nat) (hm : P.follows .mixedOrders = true) (hB : Region.lexTailB .any l.toArray n = true) (hd : noDefer l = true) (hC : C w.drew)
    (h : wpQuiet P l.toArray C (fun a' => ∀ w', C w' → wpListIn (Fence.wide.inRound r) m P l.toArray Q (l.drop n) a' w') (l.take n) a) : (Code.region id l.toArray true).wpIn (Fence.wide.inRound r) m P Q a w := by
  obtain ⟨H, e⟩ := heads_of hB h
  refine wpIn_region_any hm ?_
  have := heads_anyIn (Q := Q) (m := m) (r := r) (L := fun listed' a' => Region.seqB .any l.toArray (l.drop n).length n listed' = true ∧ ∀ w', C w' → wpListIn (Fence.wide.inRound r) m P l.toArray Q (l.drop n) a' w') (noDefer_at hd) (fun listed a' w' hw' hL => anyIn_seq (l.drop n) n listed a' w' (fun j => by simp [List.getElem?_drop]) hL.1 (hL.2 w' hw')) n _ a _ hC H
  rw [e] at this
  exact this
end
end Go.Proofs.Ytnmehenkbinfmaa
