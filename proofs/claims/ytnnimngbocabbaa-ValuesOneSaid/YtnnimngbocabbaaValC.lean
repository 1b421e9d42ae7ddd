/-
  WHAT IS PROVED: contract of Cmp.
-/
import Derived.Test.YtnnimngbocabbaaValB
import Derived.StillTailTactics
namespace Go.Proofs.Ytnnimngbocabbaa
open Go.RowKit Go.Lib

def orI (a b c : Int) : Int := if a = 0 then (if b = 0 then c else b) else a
theorem block_two (w : World) (o o' : Obj) : ((w.alloc o).alloc o').heap[w.heap.size]? = some o ∧ ((w.alloc o).alloc o').heap[w.heap.size + 1]? = some o' := by
  refine ⟨by rw [Below.heap_alloc _ _ _ (by simp)]; exact heap_alloc_new w _, ?_⟩
  have h := heap_alloc_new (w.alloc o) o'
  rw [show (w.alloc o).heap.size = w.heap.size + 1 by simp] at h
  exact h
end Go.Proofs.Ytnnimngbocabbaa
