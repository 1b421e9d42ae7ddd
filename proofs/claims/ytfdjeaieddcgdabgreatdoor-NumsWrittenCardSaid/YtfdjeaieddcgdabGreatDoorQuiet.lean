/-
  WHAT IS PROVED: a region that draws its order, whose operations read what was there and whose calls turn nothing that was there, is walked once, in the order of the text.
-/
import Derived.Test.YtfdjeaieddcgdabGreatDoorNumsG
namespace Go.Proofs.YtfdjeaieddcgdabGreatDoor
open Go.RowKit

/-- Beyond, of one number -/
theorem beyond_one (n : Nat) (w : World) (hn : n ≤ 9223372036854775807) (b : Bool) (hb : decide (1048576 < n) = b) :
    Calls Tryz.prog 52 #[.slice (some ⟨w.heap.size, 0, none⟩) 1 1] (w.alloc (.cells #[.int .i64 (n : Int)] 3)) fun e w' =>
      e = .returned (.bool b) ∧ w.alloc (.cells #[.int .i64 (n : Int)] 3) = w' := by
  have := beyond_any w.heap.size 1 [n] (w.alloc (.cells #[.int .i64 (n : Int)] 3)) (rowI_one w n 3) (by simp) (by simpa using hn)
  refine this.mono ?_
  rintro e w' ⟨rfl, rfl⟩
  refine ⟨?_, rfl⟩
  have h : [n].sum = n := by simp
  rw [h, hb]

end Go.Proofs.YtfdjeaieddcgdabGreatDoor
