/-
  WHAT IS PROVED: contracts of what is joined, Truth, NOT, and the operators of one value.
-/
import Derived.Test.YtnnimngbocabbaaValF
namespace Go.Proofs.Ytnnimngbocabbaa
open Go.RowKit Go.Lib

theorem Wd.kept3 {w w' : World} {a b c : Obj} (h : Wd w) (hb : Below (((w.alloc a).alloc b).alloc c).heap.size (((w.alloc a).alloc b).alloc c) w') : Wd w' := h.kept (below_three hb)

end Go.Proofs.Ytnnimngbocabbaa
