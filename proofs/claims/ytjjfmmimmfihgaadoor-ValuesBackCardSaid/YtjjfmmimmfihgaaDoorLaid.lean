/-
  WHAT IS PROVED: what the listed tables give; a world in which they lie as their initialisers lay them.
-/
import Derived.Test.YtjjfmmimmfihgaaDoorCards
import Derived.Test.YtjjfmmimmfihgaaDoorTie
import Derived.Test.YtjjfmmimmfihgaaDoorValB
import Derived.ProofKit
import Derived.OpenShut
import Derived.Deep.DeepHandedRow
import Derived.Lib.LaidTab
import Derived.LaidSub
import Derived.MakeChecks
namespace Go.Proofs.YtjjfmmimmfihgaaDoor
open Go.RowKit Go.Lib

theorem gPow : Tryd.prog.globalNamed "internal/strconv.uint64pow10" = some 1 := by kernel_rfl
theorem gPowType : (Tryd.prog.globals[1]?).map (·.type) = some 97 := by kernel_rfl
theorem cellsPow : Tryd.prog.cellsOf 97 = 20 := by kernel_rfl
theorem cellsU64 : Tryd.prog.cellsOf 87 = 1 := by kernel_rfl
def isPow (x : String × DataW Unit) : Bool := x.1 == "internal/strconv.uint64pow10"
theorem max_of_shape {W : World} (h : W.ShapedOpen Tryd.prog) : ∃ m, W.cell? ⟨0, 0, none⟩ = some (.int .i64 m) :=
  cell_of_shapedOpen_int (zero := #[.int .i64 0]) (t := 3) h (of_decide_eq_true (by kernel_rfl)) (by kernel_rfl) rfl (by kernel_rfl) (by kernel_rfl) Tryd.underlying3
theorem wd_of_laid {l : List (String × DataW Unit)} {W : World} (h1 : l.filter isPow = [("internal/strconv.uint64pow10", tabData .u64 pow10Tab)]) (hL : laidMetH Tryd.prog l W) (hsh : W.ShapedOpen Tryd.prog) : Wd W := by
  have h2 := hL.filter isPow
  rw [h1, MakeChecks.laidMetH_plain _ _ _ (by kernel_rfl)] at h2
  exact ⟨tabIs_of_head (rest := []) gPow gPowType Tryd.underlying97 Tryd.underlying87 cellsU64 cellsPow h2, max_of_shape hsh⟩
/-- a datum's cells -/
def oneLit : DataW Unit → Value
  | .lit (.int k n) => .int k n
  | _ => .int .u8 0
def litsIn : DataW Unit → List Value
  | .agg l => l.map oneLit
  | x => [oneLit x]
def lits : DataW Unit → List Value
  | .agg l => l.flatMap litsIn
  | x => [oneLit x]
def laid (d : DataW Unit) : Obj → Obj
  | .cells _ t frozen => .cells (lits d).toArray t frozen
  | o => o
noncomputable def laidWorld (os : Os) : World :=
  { World.holding Tryd.prog os ⟨#[], #[], []⟩ with heap := (((((World.holding Tryd.prog os ⟨#[], #[], []⟩).heap.modify 4 (laid Rows.laid_math_bits_deBruijn32tab)).modify 5 (laid Rows.laid_math_bits_deBruijn64tab)).modify 1 (laid Rows.laid_internal_strconv_uint64pow10)).modify 3 (laid Rows.laid_unicode_utf8_acceptRanges)).modify 2 (laid Rows.laid_unicode_utf8_first) }
end Go.Proofs.YtjjfmmimmfihgaaDoor
