/-
  WHAT IS PROVED: a region that draws its order, whose calls make new memory alone and which lays one block of three cells: all its ways come to one frame, but for where that block lies.
-/
import Derived.Test.YtjjfmmimmfihgaaDoorLawD
namespace Go.Proofs.YtjjfmmimmfihgaaDoor
open Go.RowKit Go.Lib
set_option linter.unusedVariables false

theorem wp_merge {P : Program} {c : Code} {Q : Exit → Act → World → Prop} {a : Act} {w : World} {R : Nat → World → Prop} (F : Nat → Act)
    (h : c.wp P (fun x a' w' => x = .normal ∧ ∃ b, a' = F b ∧ R b w') a w) (hq : ∀ b w', R b w' → Q .normal (F b) w') : c.wp P Q a w :=
  Code.wp_mono (fun e a w ⟨h1, b, h2, h3⟩ => by subst h1 h2; exact hq b w h3) h
/-- a family, and one block more that is as it was laid -/
structure FamZ (w0 : World) (L : List (Nat × Obj)) (o : Obj) (b : Nat) (w : World) : Prop where
  base : Fam w0 L w
  new : w.heap[b]? = some o
  ge : w0.heap.size ≤ b
  ne : ∀ x ∈ L, x.1 ≠ b
theorem Fam.drew' {w0 w : World} {L : List (Nat × Obj)} (h : Fam w0 L w) : Fam w0 L w.drew := h.kept (Below.refl _ _).drew
theorem Fam.zero {w0 w : World} {L : List (Nat × Obj)} {o : Obj} (h : Fam w0 L w) : FamZ w0 L o w.heap.size (w.alloc o) :=
  ⟨h.kept (below_alloc _ _), heap_alloc_new _ _, h.below.size, fun x hx => Nat.ne_of_lt (lt_of_block (h.at_ x hx).2)⟩
theorem FamZ.kept {w0 w w' : World} {L : List (Nat × Obj)} {o : Obj} {b : Nat} (h : FamZ w0 L o b w) (hb : Below w.heap.size w w') : FamZ w0 L o b w' :=
  ⟨h.base.kept hb, (hb.block _ (lt_of_block h.new)).trans h.new, h.ge, h.ne⟩
theorem FamZ.drew' {w0 w : World} {L : List (Nat × Obj)} {o : Obj} {b : Nat} (h : FamZ w0 L o b w) : FamZ w0 L o b w.drew := h.kept (Below.refl _ _).drew
theorem stepF {P : Program} {f : FuncId} {args : Array Value} {w0 X : World} {L : List (Nat × Obj)} {Q : Ending → World → Prop} {v : Value} (h : Fam w0 L X)
    (hc : Below w0.heap.size w0 X → Calls P f args X fun e w' => e = .returned v ∧ Below X.heap.size X w') (hq : ∀ w', Hid (Fam w0 L w') → Hid (Fam w0 L w') → Q (.returned v) w') : Calls P f args X Q :=
  (hc h.below).mono fun e w' ⟨he, hb⟩ => by subst he; exact hq w' (Lib.hid (h.kept hb)) (Lib.hid (h.kept hb))
theorem stepZ {P : Program} {f : FuncId} {args : Array Value} {w0 X : World} {L : List (Nat × Obj)} {o : Obj} {b : Nat} {Q : Ending → World → Prop} {v : Value} (h : FamZ w0 L o b X)
    (hc : Below w0.heap.size w0 X → Calls P f args X fun e w' => e = .returned v ∧ Below X.heap.size X w') (hq : ∀ w', Hid (FamZ w0 L o b w') → Hid (Fam w0 L w') → Q (.returned v) w') : Calls P f args X Q :=
  (hc h.base.below).mono fun e w' ⟨he, hb⟩ => by subst he; exact hq w' (Lib.hid (h.kept hb)) (Lib.hid (h.base.kept hb))
theorem endF {w0 w : World} {L : List (Nat × Obj)} (o : Obj) (h : Fam w0 L w) : ∃ b, b = w.heap.size ∧ Hid (Fam w0 ((b, o) :: L) (w.alloc o)) :=
  ⟨_, rfl, Lib.hid (h.add (below_alloc _ _) (Nat.le_refl _) (heap_alloc_new _ _))⟩
theorem endZ {w0 w : World} {L : List (Nat × Obj)} {b t : Nat} {x0 x1 x2 : Value} (u0 u1 u2 : Value) (h : FamZ w0 L (.cells #[x0, x1, x2] t (0, 0)) b w) :
    ∃ b', b' = b ∧ Hid (Fam w0 ((b', .cells #[u0, u1, u2] t (0, 0)) :: L) (((w.setCell ⟨b, 0, none⟩ u0).setCell ⟨b, 1, none⟩ u1).setCell ⟨b, 2, none⟩ u2)) := by
  have h2 : Fam w0 ((b, .cells #[x0, x1, x2] t (0, 0)) :: L) w := ⟨h.base.below, fun x hx => by
    rcases List.mem_cons.1 hx with rfl | hx
    · exact ⟨h.ge, h.new⟩
    · exact h.base.at_ x hx⟩
  exact ⟨_, rfl, Lib.hid (h2.set3 (u0 := u0) (u1 := u1) (u2 := u2) h.ne)⟩
theorem FamZ.cell {w0 w : World} {L : List (Nat × Obj)} {b t : Nat} {cs : Array Value} (h : FamZ w0 L (.cells cs t (0, 0)) b w) (j : Nat) : w.cell? ⟨b, j, none⟩ = cs[j]? := cell_of_block h.new j
theorem FamZ.free {w0 w : World} {L : List (Nat × Obj)} {b t : Nat} {cs : Array Value} (h : FamZ w0 L (.cells cs t (0, 0)) b w) (j : Nat) : w.frozen? ⟨b, j, none⟩ = false := free_of_block h.new j
theorem keep_drew {w : World} {p : Addr} {v : Value} (h : w.cell? p = some v) : w.drew.cell? p = some v := h
end Go.Proofs.YtjjfmmimmfihgaaDoor
