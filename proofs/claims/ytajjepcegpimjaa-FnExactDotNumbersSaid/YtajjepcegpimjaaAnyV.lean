/-
  A region that draws its order and whose operations may draw besides (a conversion of what is no number): one walk in the text's order serves every order, where each operation's value is known only to lie in a set.
  The frames are carried as a set: so that the set of an operation's values does not hang on what other operations drew.
-/
import Derived.Deep.Quiet
namespace Go.Proofs.Ytajjepcegpimjaa
section
variable {P : Program} {ops : Array Oper} {md : Region.Mode} {C : World → Prop} {w : World}

/-- what comes of an operation: a value of U, and a world of the class -/
def GivesU (P : Program) (C : World → Prop) (U : Value → Prop) : Result Next → Prop
  | .ok (.value u) w' => U u ∧ C w'
  | .ok .skip w' => U undef ∧ C w'
  | .ok (.enter f args) w' => Calls P f args w' fun e w'' => ∃ u, U u ∧ e = .returned u ∧ C w''
  | _ => False

/-- from frame 'a', in whatever world of the class, the operation's value lies in U -/
structure InU (P : Program) (ops : Array Oper) (C : World → Prop) (o : Oper) (U : Value → Prop) (a : Act) : Prop where
  inh : ∃ u, U u
  run : Region.wanted o (yielded ops a.tmps) = true → ∀ w, C w → GivesU P C U ((execOp a.eval o).run P w)
  skip : Region.wanted o (yielded ops a.tmps) = false → U undef

theorem InU.of_same {o : Oper} {U : Value → Prop} {a a' : Act} (h : InU P ops C o U a) (he : execOp a'.eval o = execOp a.eval o)
    (hw : Region.wanted o (yielded ops a'.tmps) = Region.wanted o (yielded ops a.tmps)) : InU P ops C o U a' :=
  ⟨h.inh, fun h1 w hC => by rw [he]; exact h.run (by rw [← hw]; exact h1) w hC, fun h1 => h.skip (by rw [← hw]; exact h1)⟩

/-- the frames behind the operation -/
def PutU (S : Act → Prop) (dst : Option Tmp) (U : Value → Prop) : Act → Prop := fun a => ∃ b u, S b ∧ U u ∧ a = b.put dst u

theorem InU.op {Q' : Exit → Act → World → Prop} {i : Nat} {o : Oper} {U : Value → Prop} {a : Act} {w : World} {K : Act → World → Prop} (hi : ops[i]? = some o) (h : InU P ops C o U a) (hC : C w)
    (hK : ∀ u w', U u → C w' → K (a.put o.dst u) w') : wpOp P ops Q' i K a w := by
  unfold Go.wpOp
  simp only [hi]
  by_cases hw : Region.wanted o (yielded ops a.tmps) = true
  · simp only [hw, if_true]
    left
    have h1 := h.run hw w hC
    unfold Oper.wp
    generalize (execOp a.eval o).run P w = r at *
    cases r with
    | ok n w' =>
      cases n <;> simp only [GivesU] at h1 <;> simp only [Oper.upon]
      case value u => exact hK u w' h1.1 h1.2
      case skip => exact hK undef w' h1.1 h1.2
      case enter f args =>
        exact h1.mono fun e w'' ⟨u, hu, he, hC'⟩ => by subst he; exact hK u w'' hu hC'
    | halt x w' => simp only [GivesU] at h1
  · simp only [hw]
    exact hK undef w (h.skip (by simpa using hw)) hC

/-- whatever order is picked from here on -/
def AnyU (P : Program) (md : Region.Mode) (ops : Array Oper) (C : World → Prop) (Q : Act → Prop) : Nat → Array Bool → (Act → Prop) → Prop
  | 0, listed, S => Region.ready md ops listed = [] ∧ ∀ a, S a → Q a
  | fuel + 1, listed, S =>
    (Region.ready md ops listed = [] → ∀ a, S a → Q a) ∧
    ∀ i ∈ Region.ready md ops listed, ∃ o U, ops[i]? = some o ∧ (∀ a, S a → InU P ops C o U a) ∧ AnyU P md ops C Q fuel (listed.setIfInBounds i true) (PutU S o.dst U)

theorem AnyU.less {Q : Act → Prop} : ∀ (fuel : Nat) (listed : Array Bool) (S S' : Act → Prop), (∀ a, S' a → S a) → AnyU P md ops C Q fuel listed S → AnyU P md ops C Q fuel listed S'
  | 0, _, _, _, hS, h => ⟨h.1, fun a ha => h.2 a (hS a ha)⟩
  | fuel + 1, _, _, _, hS, h => ⟨fun h0 a ha => h.1 h0 a (hS a ha), fun i hi => by
      obtain ⟨o, U, h1, h2, h3⟩ := h.2 i hi
      exact ⟨o, U, h1, fun a ha => h2 a (hS a ha), AnyU.less fuel _ _ _ (fun a ⟨b, u, hb, hu, e⟩ => ⟨b, u, hS b hb, hu, e⟩) h3⟩⟩

theorem AnyU.sound {Q : Act → Prop} {Q' : Exit → Act → World → Prop} (hQ : ∀ a w, C w → Q a → Q' .normal a w) : ∀ (fuel : Nat) (listed : Array Bool) (S : Act → Prop), AnyU P md ops C Q fuel listed S →
    ∀ a w, S a → C w → wpAny P md ops Q' fuel listed a w
  | 0, _, _, h, a, w, ha, hC => ⟨h.1, hQ a w hC (h.2 a ha)⟩
  | fuel + 1, _, _, h, a, w, ha, hC => ⟨fun h0 => hQ a w hC (h.1 h0 a ha), fun i hi => by
      obtain ⟨o, U, h1, h2, h3⟩ := h.2 i hi
      exact (h2 a ha).op h1 hC fun u w' hu hC' => AnyU.sound hQ fuel _ _ h3 _ w' ⟨a, u, ha, hu, rfl⟩ hC'⟩

/-- an operation that may come up now may be taken first -/
theorem AnyU.first {Q : Act → Prop} {i : Nat} {oi : Oper} {V : Value → Prop} (hi : ops[i]? = some oi) (hsel : ∀ (j : Nat) (o : Oper) cs b, ops[j]? = some o → o.op ≠ .select cs b) :
    ∀ (fuel : Nat) (listed : Array Bool) (S : Act → Prop),
      (∀ j oj, ops[j]? = some oj → j ≠ i → listed.getD j true = false → (∀ e ∈ oj.after, Region.binds md e = true → e.on ≠ i) → oi.apart ops oj = true) →
      i ∈ Region.ready md ops listed → (∀ a, S a → InU P ops C oi V a) →
      AnyU P md ops C Q fuel (listed.setIfInBounds i true) (PutU S oi.dst V) → AnyU P md ops C Q (fuel + 1) listed S := by
  intro fuel
  induction fuel with
  | zero =>
    intro listed S _ hr hy H
    refine ⟨fun h => (by rw [h] at hr; cases hr), fun j hj => ?_⟩
    by_cases hji : j = i
    · subst hji; exact ⟨oi, V, hi, hy, H⟩
    · have := ready_mono hj hji
      rw [H.1] at this
      cases this
  | succ fuel ih =>
    intro listed S hfree hr hy H
    refine ⟨fun h => (by rw [h] at hr; cases hr), fun j hj => ?_⟩
    by_cases hji : j = i
    · subst hji; exact ⟨oi, V, hi, hy, H⟩
    · obtain ⟨oj, U, hoj, hyj, HU⟩ := H.2 j (ready_mono hj hji)
      obtain ⟨hjun, oj', hoj', hall⟩ := mem_ready.1 hj
      obtain rfl : oj = oj' := Option.some.inj (hoj.symm.trans hoj')
      have hnot : ∀ e ∈ oj.after, Region.binds md e = true → e.on ≠ i := fun e he hb heq => by
        have h1 := hall e he hb
        have h0 := (mem_ready.1 hr).1
        rw [heq] at h1
        rcases Nat.lt_or_ge i listed.size with h' | h'
        · simp [h'] at h0 h1; rw [h0] at h1; cases h1
        · simp [Array.getElem?_eq_none h'] at h1
      obtain ⟨a1, a2, a3⟩ := Oper.apart_spec (hfree j oj hoj hji hjun hnot)
      have si := fun cs b => hsel i oi cs b hi
      have sj := fun cs b => hsel j oj cs b hoj
      refine ⟨oj, U, hoj, fun a ha => ?_, ?_⟩
      · obtain ⟨v, hv⟩ := (hy a ha).inh
        exact (hyj (a.put oi.dst v) ⟨a, v, ha, hv, rfl⟩).of_same (execOp_put oj sj a oi.dst v a1).symm (wanted_put oj a oi.dst v a1).symm
      · refine ih (listed.setIfInBounds j true) _ (fun k ok hk hki hun hno => ?_) (ready_mono hr (Ne.symm hji)) (fun a ⟨b, u, hb, _, e⟩ => ?_) ?_
        · refine hfree k ok hk hki ?_ hno
          by_cases hjk : j = k
          · subst hjk; exact hjun
          · rw [getD_set_ne true hjk] at hun; exact hun
        · rw [e]
          exact (hy b hb).of_same (execOp_put oi si b oj.dst u a3) (wanted_put oi b oj.dst u a3)
        · rw [Array.setIfInBounds_comm _ _ hji]
          exact AnyU.less _ _ _ _ (fun a ⟨b, v, ⟨c, u, hc, hu, e1⟩, hv, e2⟩ => ⟨c.put oi.dst v, u, ⟨c, v, hc, hv, rfl⟩, hu, by rw [e2, e1]; exact (Act.put_comm c v u a2).symm⟩) HU

/-- the operations in the text's order -/
def LexU (P : Program) (ops : Array Oper) (C : World → Prop) (Q : Act → Prop) : List Oper → (Act → Prop) → Prop
  | [], S => ∀ a, S a → Q a
  | o :: rest, S => ∃ U, (∀ a, S a → InU P ops C o U a) ∧ LexU P ops C Q rest (PutU S o.dst U)

theorem LexU.any {Q : Act → Prop} (hs : Region.noSelect ops = true) : ∀ (l : List Oper) (k : Nat) (listed : Array Bool) (S : Act → Prop), (∀ j, l[j]? = ops[k + j]?) →
    Region.lexFrom md ops l.length k listed = true → LexU P ops C Q l S → AnyU P md ops C Q l.length listed S
  | [], _, _, _, _, hB, h => ⟨by simpa [Region.lexFrom] using hB, h⟩
  | o :: l, k, listed, S, hl, hB, h => by
    have h0 : ops[k]? = some o := by simpa using (hl 0).symm
    simp only [List.length_cons, Region.lexFrom, Bool.and_eq_true] at hB
    obtain ⟨⟨hr, hf⟩, hB'⟩ := hB
    obtain ⟨U, hy, hK⟩ := h
    exact AnyU.first h0 (Region.noSelect_spec hs) l.length listed S (Region.free_spec h0 hf) (by simpa using hr) hy
      (LexU.any hs l (k + 1) _ _ (fun j => by have := hl (j + 1); simpa [Nat.add_assoc, Nat.add_comm 1 j] using this) hB' hK)

/-- the worlds behind some draws -/
def Drawn (w : World) (w' : World) : Prop := ∃ n, w' = w.drewN n

theorem region_U {id : Nat} {Q : Exit → Act → World → Prop} {a : Act} {w : World} {l : List Oper} (hm : P.follows .mixedOrders = true) (hB : Region.lexB .any l.toArray = true)
    (h : LexU P l.toArray (Drawn w) (fun a' => ∀ n, Q .normal a' (w.drewN n)) l (· = a)) : (Code.region id l.toArray true).wp P Q a w := by
  simp only [Region.lexB, Bool.and_eq_true] at hB
  refine wp_region_any hm (AnyU.sound (C := Drawn w) (Q := fun a' => ∀ n, Q .normal a' (w.drewN n)) (fun a' w' ⟨n, e⟩ h => by rw [e]; exact h n) _ _ (· = a) ?_ a _ rfl ⟨1, rfl⟩)
  have := LexU.any (P := P) (C := Drawn w) (md := .any) hB.1 l 0 (Array.replicate l.toArray.size false) (· = a) (by simp) (by simpa using hB.2) h
  simpa using this

theorem LexU.less {Q : Act → Prop} : ∀ (l : List Oper) (S S' : Act → Prop), (∀ a, S' a → S a) → LexU P ops C Q l S → LexU P ops C Q l S'
  | [], _, _, hS, h => fun a ha => h a (hS a ha)
  | _ :: l, _, _, hS, ⟨U, h1, h2⟩ => ⟨U, fun a ha => h1 a (hS a ha), LexU.less l _ _ (fun _ ⟨b, u, hb, hu, e⟩ => ⟨b, u, hS b hb, hu, e⟩) h2⟩

/-- frames under a parameter -/
def Img {ι : Type} (ok : ι → Prop) (F : ι → Act) : Act → Prop := fun a => ∃ p, ok p ∧ a = F p

theorem LexU.one {ι : Type} {Q : Act → Prop} {ok : ι → Prop} {F : ι → Act} {o : Oper} {rest : List Oper} (v : Value) (G : ι → Act)
    (h : ∀ p, ok p → (Region.wanted o (yielded ops (F p).tmps) = true ∧ ∀ n, GivesU P (Drawn w) (· = v) ((execOp (F p).eval o).run P (w.drewN n))) ∧ (F p).put o.dst v = G p)
    (hK : LexU P ops (Drawn w) Q rest (Img ok G)) : LexU P ops (Drawn w) Q (o :: rest) (Img ok F) := by
  refine ⟨(· = v), fun a ⟨p, hp, e⟩ => ?_, LexU.less _ _ _ (fun _ ⟨b, u, ⟨p, hp, e1⟩, hu, e2⟩ => ⟨p, hp, ?_⟩) hK⟩
  · rw [e]
    exact ⟨⟨v, rfl⟩, fun _ w' ⟨n, e'⟩ => by rw [e']; exact (h p hp).1.2 n, fun h0 => by rw [(h p hp).1.1] at h0; cases h0⟩
  · rw [e2, e1, hu]; exact (h p hp).2

theorem LexU.new {ι : Type} {Q : Act → Prop} {ok : ι → Prop} {F : ι → Act} {o : Oper} {rest : List Oper} {κ : Type} (ok' : κ → Prop) (V : κ → Value) (G : ι → κ → Act) (h0 : ∃ x, ok' x)
    (h : ∀ p, ok p → (Region.wanted o (yielded ops (F p).tmps) = true ∧ ∀ n, GivesU P (Drawn w) (fun u => ∃ x, ok' x ∧ u = V x) ((execOp (F p).eval o).run P (w.drewN n))) ∧ ∀ x, (F p).put o.dst (V x) = G p x)
    (hK : LexU P ops (Drawn w) Q rest (Img (fun q : ι × κ => ok q.1 ∧ ok' q.2) (fun q => G q.1 q.2))) : LexU P ops (Drawn w) Q (o :: rest) (Img ok F) := by
  refine ⟨fun u => ∃ x, ok' x ∧ u = V x, fun a ⟨p, hp, e⟩ => ?_, LexU.less _ _ _ (fun _ ⟨b, u, ⟨p, hp, e1⟩, ⟨x, hx, hu⟩, e2⟩ => ⟨(p, x), ⟨hp, hx⟩, ?_⟩) hK⟩
  · rw [e]
    obtain ⟨x, hx⟩ := h0
    exact ⟨⟨V x, x, hx, rfl⟩, fun _ w' ⟨n, e'⟩ => by rw [e']; exact (h p hp).1.2 n, fun h0 => by rw [(h p hp).1.1] at h0; cases h0⟩
  · rw [e2, e1, hu]; exact (h p hp).2 x

theorem LexU.det {ι : Type} {Q : Act → Prop} {ok : ι → Prop} {F : ι → Act} {o : Oper} {rest : List Oper} (v : Value)
    (h : ∀ p, ok p → Region.wanted o (yielded ops (F p).tmps) = true ∧ ∀ n, GivesU P (Drawn w) (· = v) ((execOp (F p).eval o).run P (w.drewN n)))
    (hK : LexU P ops (Drawn w) Q rest (Img ok fun p => (F p).put o.dst v)) : LexU P ops (Drawn w) Q (o :: rest) (Img ok F) :=
  LexU.one v _ (fun p hp => ⟨h p hp, rfl⟩) hK

theorem LexU.draw {ι : Type} {Q : Act → Prop} {ok : ι → Prop} {F : ι → Act} {o : Oper} {rest : List Oper} {κ : Type} (ok' : κ → Prop) (V : κ → Value) (h0 : ∃ x, ok' x)
    (h : ∀ p, ok p → Region.wanted o (yielded ops (F p).tmps) = true ∧ ∀ n, GivesU P (Drawn w) (fun u => ∃ x, ok' x ∧ u = V x) ((execOp (F p).eval o).run P (w.drewN n)))
    (hK : LexU P ops (Drawn w) Q rest (Img (fun q : ι × κ => ok q.1 ∧ ok' q.2) fun q => (F q.1).put o.dst (V q.2))) : LexU P ops (Drawn w) Q (o :: rest) (Img ok F) :=
  LexU.new ok' V (fun p x => (F p).put o.dst (V x)) h0 (fun p hp => ⟨h p hp, fun _ => rfl⟩) hK

theorem region_img {id : Nat} {Q : Exit → Act → World → Prop} {a : Act} {l : List Oper} (hm : P.follows .mixedOrders = true) (hB : Region.lexB .any l.toArray = true)
    (h : LexU P l.toArray (Drawn w) (fun a' => ∀ n, Q .normal a' (w.drewN n)) l (Img (fun _ : Unit => True) fun _ => a)) : (Code.region id l.toArray true).wp P Q a w :=
  region_U hm hB (LexU.less _ _ _ (fun _ e => ⟨(), trivial, e⟩) h)
theorem LexU.done {ι : Type} {Q : Act → Prop} {ok : ι → Prop} {F : ι → Act} (h : ∀ p, ok p → Q (F p)) : LexU P ops (Drawn w) Q [] (Img ok F) := fun a ⟨p, hp, e⟩ => by rw [e]; exact h p hp
end
end Go.Proofs.Ytajjepcegpimjaa
