/-
  WHAT IS PROVED: what the library's number gives; a world in which the listed tables lie as their initialisers lay them.
-/
import Derived.Test.YtjjfmmimmfihgabGreatDoorCards
import Derived.Test.YtjjfmmimmfihgabGreatDoorTie
import Derived.Test.YtjjfmmimmfihgabGreatDoorRowE
import Derived.ProofKit
import Derived.OpenShut
import Derived.Deep.DeepHandedRow
import Derived.Lib.LaidTab
import Derived.LaidSub
import Derived.MakeChecks
namespace Go.Proofs.YtjjfmmimmfihgabGreatDoor
open Go.RowKit Go.Lib

theorem wm_of_shape {W : World} (h : W.ShapedOpen Tryz.prog) : Wm W :=
  ⟨cell_of_shapedOpen_int (zero := #[.int .i64 0]) (t := 3) h (of_decide_eq_true (by kernel_rfl)) (by kernel_rfl) rfl (by kernel_rfl) (by kernel_rfl) Tryz.underlying3⟩
/-- a datum's cells -/
def oneLit : DataW Unit → Value
  | .lit (.int k n) => .int k n
  | _ => .int .u8 0
def litsIn : DataW Unit → List Value
  | .agg l => l.map oneLit
  | x => [oneLit x]
def lits : DataW Unit → List Value
  | .agg l => l.flatMap litsIn
  | x => [oneLit x]
def laid (d : DataW Unit) : Obj → Obj
  | .cells _ t frozen => .cells (lits d).toArray t frozen
  | o => o
noncomputable def laidWorld (os : Os) : World :=
  { World.holding Tryz.prog os ⟨#[], #[], []⟩ with heap := ((World.holding Tryz.prog os ⟨#[], #[], []⟩).heap.modify 2 (laid Rows.laid_unicode_utf8_acceptRanges)).modify 1 (laid Rows.laid_unicode_utf8_first) }
end Go.Proofs.YtjjfmmimmfihgabGreatDoor
