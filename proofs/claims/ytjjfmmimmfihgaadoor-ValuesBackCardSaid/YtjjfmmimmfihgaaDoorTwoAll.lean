/-
  WHAT IS PROVED: contracts of One and Two, whatever the operator.
-/
import Derived.Test.YtjjfmmimmfihgaaDoorTwoNo
import Derived.Test.YtjjfmmimmfihgaaDoorTwo5
import Derived.Test.YtjjfmmimmfihgaaDoorTwo6
import Derived.Test.YtjjfmmimmfihgaaDoorTwo7
import Derived.Test.YtjjfmmimmfihgaaDoorTwo8
import Derived.Test.YtjjfmmimmfihgaaDoorTwo9
import Derived.Test.YtjjfmmimmfihgaaDoorTwo10
import Derived.Test.YtjjfmmimmfihgaaDoorTwo11
import Derived.Test.YtjjfmmimmfihgaaDoorTwo12
import Derived.Test.YtjjfmmimmfihgaaDoorTwo13
import Derived.Test.YtjjfmmimmfihgaaDoorTwo14
import Derived.Test.YtjjfmmimmfihgaaDoorTwo15
import Derived.Test.YtjjfmmimmfihgaaDoorTwo16
import Derived.Test.YtjjfmmimmfihgaaDoorTwo17
import Derived.Test.YtjjfmmimmfihgaaDoorTwo18
namespace Go.Proofs.YtjjfmmimmfihgaaDoor
open Go.RowKit Go.Lib

theorem two_any (op k : Nat) (i : Int) (s : ByteArray) (l : Nat) (j : Int) (t : ByteArray) (w : World) (hop : op < 256) (hk : k < 256) (hl : l < 256) (i0 : -9223372036854775808 ≤ i) (i1 : i ≤ 9223372036854775807) (j0 : -9223372036854775808 ≤ j) (j1 : j ≤ 9223372036854775807) (hw : Wd w) :
    Calls Tryd.prog 8 #[.int .u8 (op : Int), .agg #[.int .u8 (k : Int), .int .i64 i, .string s], .agg #[.int .u8 (l : Int), .int .i64 j, .string t]] w (Gives (Val.two op ⟨k, i, s⟩ ⟨l, j, t⟩) w) := by
  by_cases h : 18 < op
  · exact two_big op h hop k i s l j t w hk hl
  · rcases (show op = 0 ∨ op = 1 ∨ op = 2 ∨ op = 3 ∨ op = 4 ∨ op = 5 ∨ op = 6 ∨ op = 7 ∨ op = 8 ∨ op = 9 ∨ op = 10 ∨ op = 11 ∨ op = 12 ∨ op = 13 ∨ op = 14 ∨ op = 15 ∨ op = 16 ∨ op = 17 ∨ op = 18 by omega) with rfl | rfl | rfl | rfl | rfl | rfl | rfl | rfl | rfl | rfl | rfl | rfl | rfl | rfl | rfl | rfl | rfl | rfl | rfl
    · exact two_op0 k i s l j t w hk hl
    · exact two_op1 k i s l j t w hk hl
    · exact two_op2 k i s l j t w hk hl
    · exact two_op3 k i s l j t w hk hl
    · exact two_op4 k i s l j t w hk hl
    · exact two_op5 k i s l j t w hk hl i0 i1 j0 j1 hw
    · exact two_op6 k i s l j t w hk hl i0 i1 j0 j1 hw
    · exact two_op7 k i s l j t w hk hl i0 i1 j0 j1 hw
    · exact two_op8 k i s l j t w hk hl i0 i1 j0 j1 hw
    · exact two_op9 k i s l j t w hk hl i0 i1 j0 j1 hw
    · exact two_op10 k i s l j t w hk hl i0 i1 j0 j1 hw
    · exact two_op11 k i s l j t w hk hl i0 i1 j0 j1 hw
    · exact two_op12 k i s l j t w hk hl i0 i1 j0 j1 hw
    · exact two_op13 k i s l j t w hk hl i0 i1 j0 j1 hw
    · exact two_op14 k i s l j t w hk hl i0 i1 j0 j1 hw
    · exact two_op15 k i s l j t w hk hl i0 i1 j0 j1 hw
    · exact two_op16 k i s l j t w hk hl i0 i1 j0 j1 hw
    · exact two_op17 k i s l j t w hk hl i0 i1 j0 j1 hw
    · exact two_op18 k i s l j t w hk hl i0 i1 j0 j1 hw
end Go.Proofs.YtjjfmmimmfihgaaDoor