/-
  WHAT IS PROVED: nothing: where a program has no number's digits (the seat of ValuesOne), the library's tables ask nothing.
-/
import Derived.Test.YtnnimngbocabbaaValA
import Derived.Lib.AppendIntMem
namespace Go.Proofs.Ytnnimngbocabbaa
open Go.RowKit Go.Lib

/-- what the library's variables hold: here nothing is asked -/
structure Wd (w : World) : Prop where
  any : w = w
theorem Wd.kept {w w' : World} (_h : Wd w) (_hb : Below w.heap.size w w') : Wd w' := ⟨rfl⟩
theorem Wd.alloc {w : World} (h : Wd w) (o : Obj) : Wd (w.alloc o) := h.kept (below_alloc w o)
end Go.Proofs.Ytnnimngbocabbaa
