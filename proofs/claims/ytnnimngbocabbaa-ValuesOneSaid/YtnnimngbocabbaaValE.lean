/-
  WHAT IS PROVED: contracts of the operators by order.
-/
import Derived.Test.YtnnimngbocabbaaValD
import Derived.Deep.RegionHeld3
namespace Go.Proofs.Ytnnimngbocabbaa
open Go.RowKit Go.Lib

theorem free_of_block {w : World} {b : Nat} {cs : Array Value} {t : TypeId} (h : w.heap[b]? = some (.cells cs t (0, 0))) (j : Nat) : w.frozen? ⟨b, j, none⟩ = false := by
  simp [World.frozen?, h]

/-- three new blocks, and what is behind them -/
structure Trio (w : World) (a b c : Obj) (w' : World) : Prop where
  below : Below w.heap.size w w'
  size : w.heap.size + 1 + 1 < w'.heap.size
  a : w'.heap[w.heap.size]? = some a
  b : w'.heap[w.heap.size + 1]? = some b
  c : w'.heap[w.heap.size + 1 + 1]? = some c
theorem trio (w : World) (a b c : Obj) : Trio w a b c (((w.alloc a).alloc b).alloc c) := by
  refine ⟨below_three0 w a b c, by simp, ?_, ?_, ?_⟩
  · rw [Below.heap_alloc _ _ _ (by simp; omega)]; exact (block_two w a b).1
  · rw [Below.heap_alloc _ _ _ (by simp)]; exact (block_two w a b).2
  · have h := heap_alloc_new ((w.alloc a).alloc b) c
    rw [show ((w.alloc a).alloc b).heap.size = w.heap.size + 1 + 1 by simp] at h
    exact h
theorem Trio.kept {w w1 w2 : World} {a b c : Obj} (h : Trio w a b c w1) (hb : Below w1.heap.size w1 w2) : Trio w a b c w2 := by
  have := h.size
  exact ⟨below_next h.below hb, Nat.lt_of_lt_of_le h.size hb.size, (hb.block _ (by omega)).trans h.a, (hb.block _ (by omega)).trans h.b, (hb.block _ (by omega)).trans h.c⟩
theorem trio_S {w w' : World} {A : Nat} {f x0 x1 x2 y0 y1 y2 : Value} {tx ty : TypeId} {c : Obj} (hA : w.cell? ⟨A, 0, none⟩ = some f) (T : Trio w (.cells #[x0, x1, x2] tx) (.cells #[y0, y1, y2] ty) c w') :
    w'.cell? ⟨A, 0, none⟩ = some f ∧ w'.cell? ⟨w.heap.size, 0, none⟩ = some x0 ∧ w'.cell? ⟨w.heap.size, 1, none⟩ = some x1 ∧ w'.cell? ⟨w.heap.size, 2, none⟩ = some x2 ∧
      w'.cell? ⟨w.heap.size + 1, 0, none⟩ = some y0 ∧ w'.cell? ⟨w.heap.size + 1, 1, none⟩ = some y1 ∧ w'.cell? ⟨w.heap.size + 1, 2, none⟩ = some y2 :=
  ⟨(T.below.cell (World.block_lt_of_cell? w _ hA)).trans hA, cell_of_block T.a 0, cell_of_block T.a 1, cell_of_block T.a 2, cell_of_block T.b 0, cell_of_block T.b 1, cell_of_block T.b 2⟩
theorem below_set3 {B : Nat} {w w' : World} {b : Nat} (h : Below B w w') (hb : B ≤ b) (u0 u1 u2 : Value) : Below B w (((w'.setCell ⟨b, 0, none⟩ u0).setCell ⟨b, 1, none⟩ u1).setCell ⟨b, 2, none⟩ u2) :=
  ((h.setCell (p := ⟨b, 0, none⟩) hb u0).setCell (p := ⟨b, 1, none⟩) hb u1).setCell (p := ⟨b, 2, none⟩) hb u2
theorem trio_S_set {w w' : World} {A : Nat} {f x0 x1 x2 y0 y1 y2 : Value} {tx ty : TypeId} {c : Obj} (hA : w.cell? ⟨A, 0, none⟩ = some f) (T : Trio w (.cells #[x0, x1, x2] tx) (.cells #[y0, y1, y2] ty) c w') (u0 u1 u2 : Value) :
    (((w'.setCell ⟨w.heap.size + 1 + 1, 0, none⟩ u0).setCell ⟨w.heap.size + 1 + 1, 1, none⟩ u1).setCell ⟨w.heap.size + 1 + 1, 2, none⟩ u2).cell? ⟨A, 0, none⟩ = some f ∧
    (((w'.setCell ⟨w.heap.size + 1 + 1, 0, none⟩ u0).setCell ⟨w.heap.size + 1 + 1, 1, none⟩ u1).setCell ⟨w.heap.size + 1 + 1, 2, none⟩ u2).cell? ⟨w.heap.size, 0, none⟩ = some x0 ∧
    (((w'.setCell ⟨w.heap.size + 1 + 1, 0, none⟩ u0).setCell ⟨w.heap.size + 1 + 1, 1, none⟩ u1).setCell ⟨w.heap.size + 1 + 1, 2, none⟩ u2).cell? ⟨w.heap.size, 1, none⟩ = some x1 ∧
    (((w'.setCell ⟨w.heap.size + 1 + 1, 0, none⟩ u0).setCell ⟨w.heap.size + 1 + 1, 1, none⟩ u1).setCell ⟨w.heap.size + 1 + 1, 2, none⟩ u2).cell? ⟨w.heap.size, 2, none⟩ = some x2 ∧
    (((w'.setCell ⟨w.heap.size + 1 + 1, 0, none⟩ u0).setCell ⟨w.heap.size + 1 + 1, 1, none⟩ u1).setCell ⟨w.heap.size + 1 + 1, 2, none⟩ u2).cell? ⟨w.heap.size + 1, 0, none⟩ = some y0 ∧
    (((w'.setCell ⟨w.heap.size + 1 + 1, 0, none⟩ u0).setCell ⟨w.heap.size + 1 + 1, 1, none⟩ u1).setCell ⟨w.heap.size + 1 + 1, 2, none⟩ u2).cell? ⟨w.heap.size + 1, 1, none⟩ = some y1 ∧
    (((w'.setCell ⟨w.heap.size + 1 + 1, 0, none⟩ u0).setCell ⟨w.heap.size + 1 + 1, 1, none⟩ u1).setCell ⟨w.heap.size + 1 + 1, 2, none⟩ u2).cell? ⟨w.heap.size + 1, 2, none⟩ = some y2 := by
  have hb : Below (w.heap.size + 1 + 1) w' (((w'.setCell ⟨w.heap.size + 1 + 1, 0, none⟩ u0).setCell ⟨w.heap.size + 1 + 1, 1, none⟩ u1).setCell ⟨w.heap.size + 1 + 1, 2, none⟩ u2) :=
    below_set3 (Below.refl _ _) (Nat.le_refl _) _ _ _
  have hAw := World.block_lt_of_cell? w _ hA
  simp only at hAw
  obtain ⟨s0, s1, s2, s3, s4, s5, s6⟩ := trio_S hA T
  exact ⟨(hb.cell (by simp only; omega)).trans s0, (hb.cell (by simp only; omega)).trans s1, (hb.cell (by simp only; omega)).trans s2, (hb.cell (by simp only; omega)).trans s3,
    (hb.cell (by simp only; omega)).trans s4, (hb.cell (by simp only; omega)).trans s5, (hb.cell (by simp only; omega)).trans s6⟩
theorem trio_R {w w' : World} {a b : Obj} {x0 x1 x2 : Value} {tx : TypeId} (T : Trio w a b (.cells #[x0, x1, x2] tx) w') :
    (w'.cell? ⟨w.heap.size + 1 + 1, 0, none⟩ = some x0 ∧ w'.cell? ⟨w.heap.size + 1 + 1, 1, none⟩ = some x1 ∧ w'.cell? ⟨w.heap.size + 1 + 1, 2, none⟩ = some x2) ∧
      w'.frozen? ⟨w.heap.size + 1 + 1, 0, none⟩ = false ∧ w'.frozen? ⟨w.heap.size + 1 + 1, 1, none⟩ = false ∧ w'.frozen? ⟨w.heap.size + 1 + 1, 2, none⟩ = false :=
  ⟨⟨cell_of_block T.c 0, cell_of_block T.c 1, cell_of_block T.c 2⟩, free_of_block T.c 0, free_of_block T.c 1, free_of_block T.c 2⟩
theorem below_drew {w w' : World} (h : Below w.drew.heap.size w.drew w') : Below w.heap.size w w' := ⟨h.os, h.tape, h.output, h.size, h.block⟩

end Go.Proofs.Ytnnimngbocabbaa