/-
  WHAT IS PROVED: the append of words that read as a list, onto what the call owns.
-/
import Derived.Test.YtfdjeaieddcgdaaDoorWoN
import Derived.Test.YtfdjeaieddcgdaaDoorWoMore
import Derived.Laws.AppendOwnNone
namespace Go.Proofs.YtfdjeaieddcgdaaDoor
open Go.RowKit Go.Shelf
set_option linter.unusedVariables false

theorem run_append_words (w : World) (base : Nat) (v : Value) (xs : List WordM) (hown : w.ownsRow base 29 4 v xs.length (cellsW xs)) (u : Value) (l : List WordM) (hu : RowW w u l) (hb : xs.length + l.length ≤ 1000000) (hbase : base ≤ w.heap.size) :
    ∃ v' w', (Builtin.append_ #[23, 23] 23 #[v, u]).run Tryd.prog w = .ok v' w' ∧ w'.ownsRow base 29 4 v' (xs ++ l).length (cellsW (xs ++ l)) ∧ w.grownBy w' v.ownBlock := by
  obtain ⟨i0, hi, hz0, hz1, hz2⟩ := info_parts Tryd.infoW
  rcases hu with ⟨rfl, rfl⟩ | ⟨g, cap, rfl, h2, h3, h4, h5⟩
  · exact ⟨v, w, run_append_owned_none (P := Tryd.prog) w base 23 23 29 i0 4 Tryd.underlying23 hi v _ _ hown, by simpa using hown, World.grownBy.refl _ _⟩
  · obtain ⟨v', w', h1, h6, h7, _⟩ := run_append_own (P := Tryd.prog) w base 23 23 29 i0 _ 4 40 Tryd.underlying23 hi hz0 hz1 hz2 rfl (by decide) v _ _ hown ⟨g, 0, none⟩ l.length cap (cellsW l) (cellsW_length l)
      (fun j u hj => by
        rw [show (⟨g, 0, none⟩ : Addr).add j = ⟨g, j, none⟩ by unfold Addr.add; split <;> simp_all]
        exact h5 j u hj) (cellsW_one l) (by unfold maxLen; omega) (by omega) hbase
    refine ⟨v', w', h1, ?_, h7⟩
    rw [cellsW_append, List.length_append]; exact h6

theorem wpList_append_runG {P : Program} (w : World) {ops : Array Oper} {rest : List Oper} {o : Oper} {a : Act} {Q : Exit → Act → World → Prop}
    (hw : Region.wanted o (yielded ops a.tmps) = true) (s x : Operand) (t : TypeId) (hop : o.op = Op.call { callee := Callee.builtin Builtin.append, args := #[s, x], argTypes := #[t, t] })
    (v u v' : Value) (w' : World) (hs : a.eval s = v) (hx : a.eval x = u) (hrun : (Builtin.append_ #[t, t] o.type #[v, u]).run P w = .ok v' w')
    (hK : wpList P ops Q rest (a.put o.dst v') w') : wpList P ops Q (o :: rest) a w := by
  refine wpList_step fun K hK' => ?_
  rw [if_pos hw]
  have := hK' _ _ hK
  unfold Oper.wp execOp
  simp only [hop, resolve, invoke, builtin, Sem.run_bind, Sem.run_pure, Result.andThen_ok, List.map_toArray, List.map_cons, List.map_nil, hs, hx, hrun]
  exact this

theorem grown_below {w w' : World} {base : Nat} {row : Option Nat} (hg : w.grownBy w' row) (hr : ∀ k, row = some k → base ≤ k) (hb : base ≤ w.heap.size) : Below base w w' :=
  ⟨hg.os, hg.tape, hg.output, by have := hg.size; omega, fun k hk => hg.block k (by omega) (fun e => by have := hr k e.symm; omega)⟩

/-- nothing, and two lists behind it -/
theorem run_append_two (w : World) (v u : Value) (l m : List WordM) (hv : RowW w v l) (hu : RowW w u m) (hb : l.length + m.length ≤ 1000000) :
    ∃ v1 w1 v2 w2, (Builtin.append_ #[23, 23] 23 #[.slice none 0 0, v]).run Tryd.prog w = .ok v1 w1 ∧ (Builtin.append_ #[23, 23] 23 #[v1, u]).run Tryd.prog w1 = .ok v2 w2 ∧ RowW w2 v2 (l ++ m) ∧ Below w.heap.size w w2 := by
  obtain ⟨v1, w1, r1, o1, g1⟩ := run_append_words w w.heap.size (.slice none 0 0) [] (World.ownsRow_nil _ _ _ _) v l hv (by simp; omega) (Nat.le_refl _)
  rw [List.nil_append] at o1
  have b1 : Below w.heap.size w w1 := grown_below g1 (fun k hk => by simp [Value.ownBlock] at hk) (Nat.le_refl _)
  obtain ⟨v2, w2, r2, o2, g2⟩ := run_append_words w1 w.heap.size v1 l o1 u m (hu.kept b1) (by omega) b1.size
  have b2 : Below w.heap.size w1 w2 := grown_below g2 (fun k hk => (o1.lt k hk).1) b1.size
  exact ⟨v1, w1, v2, w2, r1, r2, RowW.of_own o2, b1.trans b2⟩
end Go.Proofs.YtfdjeaieddcgdaaDoor
