/-
  WHAT IS PROVED: a comparison whose answer is known, as one step of a walk (for a great literal: the answer stands written out, and nothing is left to reckon).
-/
import Derived.Test.YtfdjeaieddcgdaaDoorWoO
namespace Go.Proofs.YtfdjeaieddcgdaaDoor
open Go.RowKit Go.Shelf
set_option linter.unusedVariables false

theorem wpList_lss {P : Program} (w : World) {ops : Array Oper} {rest : List Oper} {o : Oper} {a : Act} {Q : Exit → Act → World → Prop}
    (hw : Region.wanted o (yielded ops a.tmps) = true) (x y : Operand) (t u : TypeId) (hop : o.op = Op.binOp BinOp.lss t x y u) (k : IntKind) (n m : Int) (b : Bool)
    (hx : a.eval x = .int k n) (hy : a.eval y = .int k m) (hb : decide (n < m) = b) (hrun : ∀ n m : Int, (do eqGuard BinOp.lss t x y (.int k n) (.int k m); binOp BinOp.lss t (.int k n) (.int k m) : Sem Value).run P w = .ok (.bool (decide (n < m))) w)
    (hK : wpList P ops Q rest (a.put o.dst (.bool b)) w) : wpList P ops Q (o :: rest) a w := by
  refine wpList_step fun K hK' => ?_
  rw [if_pos hw]
  have := hK' _ _ hK
  subst hb
  have hr := hrun n m
  unfold Oper.wp execOp
  simp only [hop, hx, hy, Sem.run_bind, Sem.run_pure, Result.andThen_ok] at hr ⊢
  simp only [hr, Result.andThen_ok]
  exact this
end Go.Proofs.YtfdjeaieddcgdaaDoor
