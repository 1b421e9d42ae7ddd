/-
  WHAT IS PROVED: what the statements on values have in common.
-/
import Derived.Test.YtjjfmmimmfihgaaDoorAlive4
namespace Go.Proofs.YtjjfmmimmfihgaaDoor
open Go.RowKit Go.Lib

theorem below_n1 (w : World) (a : Obj) : Below w.heap.size w (w.alloc a) := below_alloc w a
theorem below_n2 (w : World) (a b : Obj) : Below w.heap.size w ((w.alloc a).alloc b) := (below_alloc w a).alloc (by simp) b
theorem below_n3 (w : World) (a b c : Obj) : Below w.heap.size w (((w.alloc a).alloc b).alloc c) := below_three0 w a b c
theorem cells_n1 {w w' : World} {x0 x1 x2 : Value} {t : TypeId} (h : Below (w.alloc (.cells #[x0, x1, x2] t)).heap.size (w.alloc (.cells #[x0, x1, x2] t)) w') :
    w'.cell? ⟨w.heap.size, 0, none⟩ = some x0 ∧ w'.cell? ⟨w.heap.size, 1, none⟩ = some x1 ∧ w'.cell? ⟨w.heap.size, 2, none⟩ = some x2 := by
  have h1 := heap_alloc_new w (.cells #[x0, x1, x2] t)
  have h2 := (h.block _ (lt_of_block h1)).trans h1
  exact ⟨cell_of_block h2 0, cell_of_block h2 1, cell_of_block h2 2⟩
theorem cells_n2 {w w' : World} {x0 x1 x2 y0 y1 y2 : Value} {t : TypeId} (h : Below ((w.alloc (.cells #[x0, x1, x2] t)).alloc (.cells #[y0, y1, y2] t)).heap.size ((w.alloc (.cells #[x0, x1, x2] t)).alloc (.cells #[y0, y1, y2] t)) w') :
    w'.cell? ⟨w.heap.size, 0, none⟩ = some x0 ∧ w'.cell? ⟨w.heap.size, 1, none⟩ = some x1 ∧ w'.cell? ⟨w.heap.size, 2, none⟩ = some x2 ∧
    w'.cell? ⟨w.heap.size + 1, 0, none⟩ = some y0 ∧ w'.cell? ⟨w.heap.size + 1, 1, none⟩ = some y1 ∧ w'.cell? ⟨w.heap.size + 1, 2, none⟩ = some y2 := by
  obtain ⟨h1, h2⟩ := block_two w (.cells #[x0, x1, x2] t) (.cells #[y0, y1, y2] t)
  have k1 := (h.block _ (lt_of_block h1)).trans h1
  have k2 := (h.block _ (lt_of_block h2)).trans h2
  exact ⟨cell_of_block k1 0, cell_of_block k1 1, cell_of_block k1 2, cell_of_block k2 0, cell_of_block k2 1, cell_of_block k2 2⟩
theorem cells_n3 {w w' : World} {x0 x1 x2 y0 y1 y2 z0 z1 z2 : Value} {t : TypeId} (h : Below (((w.alloc (.cells #[x0, x1, x2] t)).alloc (.cells #[y0, y1, y2] t)).alloc (.cells #[z0, z1, z2] t)).heap.size (((w.alloc (.cells #[x0, x1, x2] t)).alloc (.cells #[y0, y1, y2] t)).alloc (.cells #[z0, z1, z2] t)) w') :
    w'.cell? ⟨w.heap.size, 0, none⟩ = some x0 ∧ w'.cell? ⟨w.heap.size, 1, none⟩ = some x1 ∧ w'.cell? ⟨w.heap.size, 2, none⟩ = some x2 ∧
    w'.cell? ⟨w.heap.size + 1, 0, none⟩ = some y0 ∧ w'.cell? ⟨w.heap.size + 1, 1, none⟩ = some y1 ∧ w'.cell? ⟨w.heap.size + 1, 2, none⟩ = some y2 ∧
    w'.cell? ⟨w.heap.size + 1 + 1, 0, none⟩ = some z0 ∧ w'.cell? ⟨w.heap.size + 1 + 1, 1, none⟩ = some z1 ∧ w'.cell? ⟨w.heap.size + 1 + 1, 2, none⟩ = some z2 := by
  have T := (trio w (.cells #[x0, x1, x2] t) (.cells #[y0, y1, y2] t) (.cells #[z0, z1, z2] t)).kept h
  exact ⟨cell_of_block T.a 0, cell_of_block T.a 1, cell_of_block T.a 2, cell_of_block T.b 0, cell_of_block T.b 1, cell_of_block T.b 2, cell_of_block T.c 0, cell_of_block T.c 1, cell_of_block T.c 2⟩
theorem below_end {w W w' : World} (h : Below w.heap.size w W) (hb : Below W.heap.size W w') : Below w.heap.size w w' := h.trans (hb.mono h.size)
/-- long, of what a call has just laid -/
theorem long3_new (x0 x1 y0 y1 z0 z1 : Value) (s t u : ByteArray) (hs : s.size ≤ 140737488351232) (ht : t.size ≤ 140737488351232) (hu : u.size ≤ 140737488351232) (w : World) (r : Bool) (hr : decide ((20000 : Int) < (s.size : Int) + (t.size : Int) + (u.size : Int)) = r) :
    Calls Tryd.prog 7 #[.slice (some ⟨w.heap.size, 0, none⟩) 3 3] (w.alloc (.cells #[x0, x1, .string s, y0, y1, .string t, z0, z1, .string u] 25)) fun e w' => e = .returned (.bool r) ∧ Below w.heap.size w w' := by
  subst hr
  have h := heap_alloc_new w (.cells #[x0, x1, .string s, y0, y1, .string t, z0, z1, .string u] 25)
  exact (long3 w.heap.size s t u hs ht hu _ (cell_of_block h 2) (cell_of_block h 5) (cell_of_block h 8)).mono fun _ _ ⟨he, hw⟩ => ⟨he, by subst hw; exact below_alloc _ _⟩
theorem long2_new (x0 x1 y0 y1 : Value) (s t : ByteArray) (hs : s.size ≤ 140737488351232) (ht : t.size ≤ 140737488351232) (w : World) (r : Bool) (hr : decide ((20000 : Int) < (s.size : Int) + (t.size : Int)) = r) :
    Calls Tryd.prog 7 #[.slice (some ⟨w.heap.size, 0, none⟩) 2 2] (w.alloc (.cells #[x0, x1, .string s, y0, y1, .string t] 25)) fun e w' => e = .returned (.bool r) ∧ Below w.heap.size w w' := by
  subst hr
  have h := heap_alloc_new w (.cells #[x0, x1, .string s, y0, y1, .string t] 25)
  exact (long2 w.heap.size s t hs ht _ (cell_of_block h 2) (cell_of_block h 5)).mono fun _ _ ⟨he, hw⟩ => ⟨he, by subst hw; exact below_alloc _ _⟩
theorem long1_new (x0 x1 : Value) (s : ByteArray) (hs : s.size ≤ 140737488351232) (w : World) (r : Bool) (hr : decide ((20000 : Int) < (s.size : Int)) = r) :
    Calls Tryd.prog 7 #[.slice (some ⟨w.heap.size, 0, none⟩) 1 1] (w.alloc (.cells #[x0, x1, .string s] 25)) fun e w' => e = .returned (.bool r) ∧ Below w.heap.size w w' := by
  subst hr
  have h := heap_alloc_new w (.cells #[x0, x1, .string s] 25)
  exact (long1 w.heap.size s hs _ (cell_of_block h 2)).mono fun _ _ ⟨he, hw⟩ => ⟨he, by subst hw; exact below_alloc _ _⟩
theorem fine1_new (ak : Nat) (ai : Int) (az : ByteArray) (ab : ak < 256) (w : World) (r : Bool) (hr : Val.fine ⟨ak, ai, az⟩ = r) :
    Calls Tryd.prog 13 #[.slice (some ⟨w.heap.size, 0, none⟩) 1 1] (w.alloc (.cells #[.int .u8 (ak : Int), .int .i64 ai, .string az] 25)) fun e w' => e = .returned (.bool r) ∧ Below w.heap.size w w' := by
  subst hr
  have h := heap_alloc_new w (.cells #[.int .u8 (ak : Int), .int .i64 ai, .string az] 25)
  exact (fine1 w.heap.size ak ai az ab _ (cell_of_block h 0) (cell_of_block h 1) (cell_of_block h 2)).mono fun _ _ ⟨he, hb⟩ => ⟨he, below_step (Below.refl _ _) hb⟩
theorem fine2_new (ak : Nat) (ai : Int) (az : ByteArray) (ab : ak < 256) (bk : Nat) (bi : Int) (bs : ByteArray) (bb : bk < 256) (w : World) (r : Bool) (hr : (Val.fine ⟨ak, ai, az⟩ && Val.fine ⟨bk, bi, bs⟩) = r) :
    Calls Tryd.prog 13 #[.slice (some ⟨w.heap.size, 0, none⟩) 2 2] (w.alloc (.cells #[.int .u8 (ak : Int), .int .i64 ai, .string az, .int .u8 (bk : Int), .int .i64 bi, .string bs] 25)) fun e w' => e = .returned (.bool r) ∧ Below w.heap.size w w' := by
  subst hr
  have h := heap_alloc_new w (.cells #[.int .u8 (ak : Int), .int .i64 ai, .string az, .int .u8 (bk : Int), .int .i64 bi, .string bs] 25)
  exact (fine2 w.heap.size ak ai az ab bk bi bs bb _ (cell_of_block h 0) (cell_of_block h 1) (cell_of_block h 2) (cell_of_block h 3) (cell_of_block h 4) (cell_of_block h 5)).mono fun _ _ ⟨he, hb⟩ => ⟨he, below_step (Below.refl _ _) hb⟩
end Go.Proofs.YtjjfmmimmfihgaaDoor
