/-
  WHAT IS PROVED: families of blocks at the beginning of a statement; Two where its answer is known.
-/
import Derived.Test.YtjjfmmimmfihgaaDoorLawB
namespace Go.Proofs.YtjjfmmimmfihgaaDoor
open Go.RowKit Go.Lib

theorem fam_n1 (w : World) (a : Obj) : Fam w [(w.heap.size, a)] (w.alloc a) := by
  refine ⟨below_alloc w a, fun x hx => ?_⟩
  simp only [List.mem_cons, List.not_mem_nil, or_false] at hx
  subst hx
  exact ⟨Nat.le_refl _, heap_alloc_new w a⟩
theorem fam_n2 (w : World) (a b : Obj) : Fam w [(w.heap.size + 1, b), (w.heap.size, a)] ((w.alloc a).alloc b) := by
  refine ⟨below_n2 w a b, fun x hx => ?_⟩
  simp only [List.mem_cons, List.not_mem_nil, or_false] at hx
  rcases hx with rfl | rfl
  · exact ⟨by simp only; omega, (block_two w a b).2⟩
  · exact ⟨Nat.le_refl _, (block_two w a b).1⟩
theorem fam_n0 (w : World) : Fam w [] w := ⟨Below.refl _ _, fun _ h => by cases h⟩
theorem two_is (op k : Nat) (i : Int) (s : ByteArray) (l : Nat) (j : Int) (t : ByteArray) (wk : Nat) (wi : Int) (ws : ByteArray) (f : Nat) (hop : op < 256) (hk : k < 256) (hl : l < 256) (i0 : -9223372036854775808 ≤ i) (i1 : i ≤ 9223372036854775807) (j0 : -9223372036854775808 ≤ j) (j1 : j ≤ 9223372036854775807)
    (h : Val.two op ⟨k, i, s⟩ ⟨l, j, t⟩ = (⟨wk, wi, ws⟩, f)) (w : World) (hw : Wd w) :
    Calls Tryd.prog 8 #[.int .u8 (op : Int), .agg #[.int .u8 (k : Int), .int .i64 i, .string s], .agg #[.int .u8 (l : Int), .int .i64 j, .string t]] w
      fun e w' => e = .returned (.tuple #[.agg #[.int .u8 (wk : Int), .int .i64 wi, .string ws], .int .i64 (f : Int)]) ∧ Below w.heap.size w w' := by
  have hc := two_any op k i s l j t w hop hk hl i0 i1 j0 j1 hw
  rw [h] at hc
  exact hc
theorem Fam.set3 {w0 w : World} {L : List (Nat × Obj)} {b t : Nat} {x0 x1 x2 u0 u1 u2 : Value} (h : Fam w0 ((b, .cells #[x0, x1, x2] t (0, 0)) :: L) w) (hne : ∀ x ∈ L, x.1 ≠ b) :
    Fam w0 ((b, .cells #[u0, u1, u2] t (0, 0)) :: L) (((w.setCell ⟨b, 0, none⟩ u0).setCell ⟨b, 1, none⟩ u1).setCell ⟨b, 2, none⟩ u2) := by
  have hb := h.at_ _ (List.mem_cons_self ..)
  simp only at hb
  have e : ((w.setCell ⟨b, 0, none⟩ u0).setCell ⟨b, 1, none⟩ u1).setCell ⟨b, 2, none⟩ u2 = w.setRow b #[u0, u1, u2] := by
    rw [setCell_eq_setRow w b 0 _ t (0, 0) u0 hb.2, setCell_eq_setRow (w.setRow b _) b 1 _ t (0, 0) u1 (setRow_heap w b _ _ t _ hb.2), setRow_setRow, setCell_eq_setRow (w.setRow b _) b 2 _ t (0, 0) u2 (setRow_heap w b _ _ t _ hb.2), setRow_setRow]
    rfl
  rw [e]
  refine ⟨below_setRow h.below hb.1 _, fun x hx => ?_⟩
  rcases List.mem_cons.1 hx with rfl | hx
  · exact ⟨hb.1, setRow_heap w b _ _ t _ hb.2⟩
  · have := h.at_ x (List.mem_cons_of_mem _ hx)
    exact ⟨this.1, (setRow_other w b x.1 _ (hne x hx)).trans this.2⟩
theorem Fam.add2 {w0 w : World} {L : List (Nat × Obj)} (h : Fam w0 L w) (o o' : Obj) : Fam w0 ((w.heap.size + 1, o') :: (w.heap.size, o) :: L) ((w.alloc o).alloc o') := by
  have h1 := h.add (below_alloc w o) (Nat.le_refl _) (heap_alloc_new w o)
  have h2 := h1.add (below_alloc (w.alloc o) o') (Nat.le_refl _) (heap_alloc_new (w.alloc o) o')
  have e : (w.alloc o).heap.size = w.heap.size + 1 := by simp
  rw [e] at h2
  exact h2
theorem turned_is (k : Nat) (i : Int) (s : ByteArray) (wk : Nat) (wi : Int) (ws : ByteArray) (hk : k < 256) (i0 : -9223372036854775808 ≤ i) (i1 : i ≤ 9223372036854775807) (h : (Val.one 2 ⟨k, i, s⟩).1 = ⟨wk, wi, ws⟩) (w : World) :
    Calls Tryd.prog 14 #[.agg #[.int .u8 (k : Int), .int .i64 i, .string s]] w fun e w' => e = .returned (.agg #[.int .u8 (wk : Int), .int .i64 wi, .string ws]) ∧ Below w.heap.size w w' := by
  have hc := turned_any k i s hk i0 i1 w
  rw [h] at hc
  exact hc
theorem truth_is (k : Nat) (i : Int) (s : ByteArray) (y kn : Bool) (f : Nat) (hk : k < 256) (h : Val.truth ⟨k, i, s⟩ = (y, kn, f)) (w : World) :
    Calls Tryd.prog 42 #[.agg #[.int .u8 (k : Int), .int .i64 i, .string s]] w fun e w' => e = .returned (.tuple #[.bool y, .bool kn, .int .i64 (f : Int)]) ∧ Below w.heap.size w w' := by
  have hc := truthOf_any k i s w hk
  rw [h] at hc
  exact hc
theorem text_at (k : Nat) (i : Int) (s : ByteArray) (x : ByteArray) (hk : k < 256) (i0 : -9223372036854775808 ≤ i) (i1 : i ≤ 9223372036854775807) (h : Val.text ⟨k, i, s⟩ = x) (w : World) (hw : Wd w) :
    Calls Tryd.prog 16 #[.agg #[.int .u8 (k : Int), .int .i64 i, .string s]] w fun e w' => e = .returned (.string x) ∧ Below w.heap.size w w' := text_is k i s x hk i0 i1 h w hw
end Go.Proofs.YtjjfmmimmfihgaaDoor
