/-
  A game under way: its box, both lists in rows of their own that are appended to through the box.
-/
import Derived.Test.YtnmehenkbinfmaaGZeroS
import Derived.Test.YtnmehenkbinfmaaGTurnS
namespace Go.Proofs.Ytnmehenkbinfmaa
open Go.RowKit Go.ChangeShapes Go.WideShapes Go.Shelf
set_option linter.unusedVariables false

/-- an append in a round, with the block in which the row lies behind it -/
theorem wpListIn_append_lies {F : Fence} {n : Nat} {P : Program} (w : World) {ops : Array Oper} {rest : List Oper} {o : Oper} {a : Act} {Q : Exit → Act → World → Prop}
    (hg : o.guard = none) (s x : Operand) (t : TypeId) (hop : o.op = Op.call { callee := Callee.builtin Builtin.append, args := #[s, x], argTypes := #[t, t] })
    (base : Nat) (e : TypeId) (i : TypeInfo) (z : Value) (size bytes : Nat) (h1 : P.underlying t = some (.slice e)) (h2 : P.info? e = some i) (h3 : i.zero = some z) (h4 : i.size = size) (h5 : i.bytes = bytes) (h6 : z.cells.size = size) (h7 : 0 < size)
    (v : Value) (k : Nat) (xs : List Value) (hs : a.eval s = v) (hown : w.ownsRow base e size v k xs) (ad : Addr) (m c : Nat) (news : List Value) (hx : a.eval x = .slice (some ad) m c) (hn : news.length = m * size)
    (hc : ∀ j u, news[j]? = some u → w.cell? (ad.add j) = some u) (h1c : ∀ u ∈ news, u.oneCell' = true) (hm : 0 < m) (b1 : k + m ≤ maxLen) (b2 : (k + m) * bytes ≤ 140737488355328) (b3 : base ≤ w.heap.size)
    (hK : ∀ g cap w', w'.ownsRow base e size (.slice (some ⟨g, 0, none⟩) (k + m) cap) (k + m) (xs ++ news) → w.grownBy w' v.ownBlock → (v.ownBlock = some g ∨ g = w.heap.size) → wpListIn F n P ops Q rest (a.put o.dst (.slice (some ⟨g, 0, none⟩) (k + m) cap)) w') :
    wpListIn F n P ops Q (o :: rest) a w := by
  refine wpListIn_plain hg fun K hK' => ?_
  obtain ⟨g, cap, w', hrun, r1, r2, r3, _⟩ := run_append_lies (P := P) w t o.type base e i z size bytes h1 h2 h3 h4 h5 h6 h7 v k xs hown ad m c news hn hc h1c hm b1 b2 b3 _ rfl
  unfold Oper.wpIn
  refine ⟨?_, ?_⟩
  · simp [Oper.about, hop, resolve, Target.leads, Sem.run_pure]
  · rw [Oper.semAt_plain F _ _ (by rw [hop]; intro c hc'; cases hc')]
    simp [execOp, hop, resolve, invoke, builtin, hs, hx, hrun, Result.andThen]
    exact hK' _ _ (hK g cap w' r1 r2 r3)

structure GSt (W0 wr : World) (no : Nat) (r c : Int) (aA : Option Addr) (tA cA : Nat) (aB : Option Addr) (tB cB : Nat) (A B : List Int) : Prop where
  box : Box4 wr no 27 (.int .i64 r) (.int .i64 c) (.slice aA tA cA) (.slice aB tB cB)
  rowA : wr.ownsRow (no + 1) 2 1 (.slice aA tA cA) tA (A.map (Value.int .i64))
  rowB : wr.ownsRow (no + 1) 2 1 (.slice aB tB cB) tB (B.map (Value.int .i64))
  apart : ∀ x y, aA = some x → aB = some y → x.block ≠ y.block
  kp : KpX (fun k => k = no) (no + 1) W0 wr

theorem gst_start {w : World} {r c : Int} : GSt (w.alloc (.cells #[.int .i64 r, .int .i64 c, .slice none 0 0, .slice none 0 0] 27)) (w.alloc (.cells #[.int .i64 r, .int .i64 c, .slice none 0 0, .slice none 0 0] 27)) w.heap.size r c none 0 0 none 0 0 [] [] :=
  ⟨heap1, World.ownsRow_nil _ _ _ _, World.ownsRow_nil _ _ _ _, fun x y h => by (cases h), KpX.refl⟩

section
variable {W0 wr wX w1 : World} {no : Nat} {r c v : Int} {aA aB : Option Addr} {tA cA tB cB g cap : Nat} {A B : List Int}
theorem gst_boxA (h : GSt W0 wr no r c aA tA cA aB tB cB A B) (hB : Below wr.heap.size wr wX) (hgrow : wX.grownBy w1 (Value.slice aA tA cA).ownBlock) : Box4 w1 no 27 (.int .i64 r) (.int .i64 c) (.slice aA tA cA) (.slice aB tB cB) := by
  have lo := h.box.lt
  refine (hgrow.block _ (by have := hB.size; omega) (fun e => ?_)).trans ((hB.block _ lo).trans h.box)
  cases aA with
  | none => cases e
  | some x => have := (row_lt h.rowA x rfl).1; have := Option.some.inj e; omega
theorem gst_boxB (h : GSt W0 wr no r c aA tA cA aB tB cB A B) (hB : Below wr.heap.size wr wX) (hgrow : wX.grownBy w1 (Value.slice aB tB cB).ownBlock) : Box4 w1 no 27 (.int .i64 r) (.int .i64 c) (.slice aA tA cA) (.slice aB tB cB) := by
  have lo := h.box.lt
  refine (hgrow.block _ (by have := hB.size; omega) (fun e => ?_)).trans ((hB.block _ lo).trans h.box)
  cases aB with
  | none => cases e
  | some x => have := (row_lt h.rowB x rfl).1; have := Option.some.inj e; omega

theorem gst_A (h : GSt W0 wr no r c aA tA cA aB tB cB A B) (hB : Below wr.heap.size wr wX)
    (hown : w1.ownsRow (no + 1) 2 1 (.slice (some ⟨g, 0, none⟩) (tA + 1) cap) (tA + 1) (A.map (Value.int .i64) ++ [.int .i64 v]))
    (hgrow : wX.grownBy w1 (Value.slice aA tA cA).ownBlock) (hat : (Value.slice aA tA cA).ownBlock = some g ∨ g = wX.heap.size) :
    GSt W0 (w1.setCell ⟨no, 2, none⟩ (.slice (some ⟨g, 0, none⟩) (tA + 1) cap)) no r c (some ⟨g, 0, none⟩) (tA + 1) cap aB tB cB (A ++ [v]) B := by
  have lA := row_lt h.rowA
  have lB := row_lt h.rowB
  have lo := h.box.lt
  have hs := hB.size
  have hne : ∀ k, k < no + 1 → some k ≠ (Value.slice aA tA cA).ownBlock := by
    intro k hk e
    cases aA with
    | none => cases e
    | some x => cases e; have := (lA x rfl).1; omega
  have blk : ∀ k, k < no + 1 → w1.heap[k]? = wr.heap[k]? := fun k hk => (hgrow.block k (by omega) (hne k hk)).trans (hB.block k (by omega))
  have o1 := gst_boxA h hB hgrow
  have oB : w1.ownsRow (no + 1) 2 1 (.slice aB tB cB) tB (B.map (Value.int .i64)) := row_keep h.rowB fun y hy => by
    have l := lB y hy
    refine (hgrow.block y.block (by omega) (fun e => ?_)).trans (hB.block _ l.2)
    cases aA with
    | none => cases e
    | some x => exact h.apart x y rfl hy (Option.some.inj e).symm
  refine ⟨o1.set2, ?_, ownsRow_setCell_below oB (by show no < no + 1; omega) _, ?_, ?_⟩
  · rw [List.map_append]
    exact ownsRow_setCell_below hown (by show no < no + 1; omega) _
  · intro x y hx hy e
    cases hx
    have l := lB y hy
    rcases hat with hat | hat
    · cases aA with
      | none => cases hat
      | some z => cases hat; exact h.apart z y rfl hy e
    · have : g = y.block := e
      omega
  · have k1 : KpX (fun k => k = no) (no + 1) wr w1 := KpX.of_below ⟨hgrow.os.trans hB.os, hgrow.tape.trans hB.tape, hgrow.output.trans hB.output, Nat.le_trans hs hgrow.size, blk⟩
    exact h.kp.trans (k1.trans (KpX.set (.inl rfl)))

theorem gst_B (h : GSt W0 wr no r c aA tA cA aB tB cB A B) (hB : Below wr.heap.size wr wX)
    (hown : w1.ownsRow (no + 1) 2 1 (.slice (some ⟨g, 0, none⟩) (tB + 1) cap) (tB + 1) (B.map (Value.int .i64) ++ [.int .i64 v]))
    (hgrow : wX.grownBy w1 (Value.slice aB tB cB).ownBlock) (hat : (Value.slice aB tB cB).ownBlock = some g ∨ g = wX.heap.size) :
    GSt W0 (w1.setCell ⟨no, 3, none⟩ (.slice (some ⟨g, 0, none⟩) (tB + 1) cap)) no r c aA tA cA (some ⟨g, 0, none⟩) (tB + 1) cap A (B ++ [v]) := by
  have lA := row_lt h.rowA
  have lB := row_lt h.rowB
  have lo := h.box.lt
  have hs := hB.size
  have hne : ∀ k, k < no + 1 → some k ≠ (Value.slice aB tB cB).ownBlock := by
    intro k hk e
    cases aB with
    | none => cases e
    | some x => cases e; have := (lB x rfl).1; omega
  have blk : ∀ k, k < no + 1 → w1.heap[k]? = wr.heap[k]? := fun k hk => (hgrow.block k (by omega) (hne k hk)).trans (hB.block k (by omega))
  have o1 := gst_boxB h hB hgrow
  have oA : w1.ownsRow (no + 1) 2 1 (.slice aA tA cA) tA (A.map (Value.int .i64)) := row_keep h.rowA fun y hy => by
    have l := lA y hy
    refine (hgrow.block y.block (by omega) (fun e => ?_)).trans (hB.block _ l.2)
    cases aB with
    | none => cases e
    | some x => exact h.apart y x hy rfl (Option.some.inj e)
  refine ⟨o1.set3, ownsRow_setCell_below oA (by show no < no + 1; omega) _, ?_, ?_, ?_⟩
  · rw [List.map_append]
    exact ownsRow_setCell_below hown (by show no < no + 1; omega) _
  · intro x y hx hy e
    cases hy
    have l := lA x hx
    rcases hat with hat | hat
    · cases aB with
      | none => cases hat
      | some z => cases hat; exact h.apart x z hx rfl e
    · have : x.block = g := e
      omega
  · have k1 : KpX (fun k => k = no) (no + 1) wr w1 := KpX.of_below ⟨hgrow.os.trans hB.os, hgrow.tape.trans hB.tape, hgrow.output.trans hB.output, Nat.le_trans hs hgrow.size, blk⟩
    exact h.kp.trans (k1.trans (KpX.set (.inl rfl)))
end

theorem Own.form {w : World} {lo hi : Nat} {a : Option Addr} {len cap : Nat} {zs : List Int} (h : Own w lo hi a len cap zs) (hn : 0 < len) : ∃ g, a = some ⟨g, 0, none⟩ ∧ lo ≤ g ∧ g < hi := by
  obtain ⟨_, _, _, h4, h5⟩ := h
  rcases h5.2 with ⟨_, h0⟩ | ⟨g, c, cur, e, h1, _⟩
  · omega
  · cases e
    exact ⟨g, rfl, h1, h4 _ rfl⟩
theorem Own.tight {w : World} {lo hi g len cap : Nat} {zs : List Int} (h : Own w lo hi (some ⟨g, 0, none⟩) len cap zs) : Own w g (g + 1) (some ⟨g, 0, none⟩) len cap zs := by
  obtain ⟨h1, h2, h3, h4, h5⟩ := h
  have hg : g < hi := h4 _ rfl
  refine ⟨h1, h2, by omega, fun x hx => by cases hx; exact Nat.lt_succ_self _, h5.1, ?_⟩
  rcases h5.2 with ⟨e, _⟩ | ⟨g', cap', cur, e, hb, rest⟩
  · cases e
  · cases e
    exact .inr ⟨g, cap, cur, rfl, Nat.le_refl _, rest⟩
/-- two rows in different blocks make a game -/
theorem game_apart {w : World} {lo hi : Nat} {a1 : Option Addr} {l1 c1 : Nat} {a2 : Option Addr} {l2 c2 : Nat} {A B : List Int} (hA : Own w lo hi a1 l1 c1 A) (hB : Own w lo hi a2 l2 c2 B) (h1 : 0 < l1) (h2 : 0 < l2)
    (hap : ∀ x y, a1 = some x → a2 = some y → x.block ≠ y.block) : Game w lo hi a1 l1 c1 a2 l2 c2 A B := by
  obtain ⟨g, rfl, g1, g2⟩ := hA.form h1
  obtain ⟨k, rfl, k1, k2⟩ := hB.form h2
  have hne : g ≠ k := hap _ _ rfl rfl
  exact ⟨g, g + 1, k, k + 1, g1, by omega, k1, by omega, by omega, hA.tight, hB.tight⟩
theorem Game.far {w : World} {lo hi : Nat} {a1 : Option Addr} {l1 c1 : Nat} {a2 : Option Addr} {l2 c2 : Nat} {A B : List Int} {n i : Nat} {u : Value} (h : Game w lo hi a1 l1 c1 a2 l2 c2 A B) (hn : n < lo ∨ hi ≤ n) : Game (w.setCell ⟨n, i, none⟩ u) lo hi a1 l1 c1 a2 l2 c2 A B := by
  obtain ⟨p, q, r, s, g1, g2, g3, g4, g5, h3, h4⟩ := h.fst
  exact ⟨p, q, r, s, g1, g2, g3, g4, g5, h3.far (by omega), h4.far (by omega)⟩
theorem gst_game {W0 wr : World} {no : Nat} {r c : Int} {aA aB : Option Addr} {tA cA tB cB : Nat} {A B : List Int} (h : GSt W0 wr no r c aA tA cA aB tB cB A B) (h1 : 0 < tA) (h2 : 0 < tB) (hA : ∀ z ∈ A, Big z) (hB : ∀ z ∈ B, Big z) :
    Game wr (no + 1) wr.heap.size aA tA cA aB tB cB A B :=
  game_apart (own_of_row h.rowA hA) (own_of_row h.rowB hB) h1 h2 h.apart
end Go.Proofs.Ytnmehenkbinfmaa
