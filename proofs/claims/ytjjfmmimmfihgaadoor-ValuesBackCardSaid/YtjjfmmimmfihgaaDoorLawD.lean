/-
  WHAT IS PROVED: ops that tell the same whichever value is first.
-/
import Derived.Test.YtjjfmmimmfihgaaDoorLawC
namespace Go.Proofs.YtjjfmmimmfihgaaDoor
open Go.RowKit Go.Lib

theorem two_r (op k : Nat) (i : Int) (s : ByteArray) (l : Nat) (j : Int) (t : ByteArray) (r : Val × Nat) (hop : op < 256) (hk : k < 256) (hl : l < 256) (i0 : -9223372036854775808 ≤ i) (i1 : i ≤ 9223372036854775807) (j0 : -9223372036854775808 ≤ j) (j1 : j ≤ 9223372036854775807)
    (h : Val.two op ⟨k, i, s⟩ ⟨l, j, t⟩ = r) (w : World) (hw : Wd w) :
    Calls Tryd.prog 8 #[.int .u8 (op : Int), .agg #[.int .u8 (k : Int), .int .i64 i, .string s], .agg #[.int .u8 (l : Int), .int .i64 j, .string t]] w
      fun e w' => e = .returned (.tuple #[.agg #[.int .u8 (r.1.k : Int), .int .i64 r.1.i, .string r.1.s], .int .i64 (r.2 : Int)]) ∧ Below w.heap.size w w' := by
  subst h
  exact two_any op k i s l j t w hop hk hl i0 i1 j0 j1 hw
theorem keep_alloc {w : World} {p : Addr} {v : Value} {o : Obj} (h : w.cell? p = some v) : (w.alloc o).cell? p = some v := ((below_alloc w o).cell (World.block_lt_of_cell? w p h)).trans h
theorem Fam.tail {w0 w : World} {x : Nat × Obj} {L : List (Nat × Obj)} (h : Fam w0 (x :: L) w) : Fam w0 L w := ⟨h.below, fun y hy => h.at_ y (List.mem_cons_of_mem _ hy)⟩
theorem cmp_serves (a b : Val) : Val.serves 11 (Val.cmp a b) = Val.serves 11 (Val.cmp b a) ∧ Val.serves 12 (Val.cmp a b) = Val.serves 12 (Val.cmp b a) ∧ Val.serves 13 (Val.cmp a b) = Val.serves 15 (Val.cmp b a) ∧ Val.serves 14 (Val.cmp a b) = Val.serves 16 (Val.cmp b a) := by
  have h := Val.cmp_flip a b
  have h2 := Val.cmp_range a b
  rw [h]
  rcases h2 with e | e | e <;> rw [e] <;> exact ⟨rfl, rfl, rfl, rfl⟩
theorem two_swap {op op' : Nat} {a b : Val} (h1 : 5 ≤ op) (h2 : op ≤ 18) (h1' : 5 ≤ op') (h2' : op' ≤ 18) (h : Val.two0 op a b = Val.two0 op' b a) : Val.two op a b = Val.two op' b a := by
  by_cases hf : a.fine = false ∨ b.fine = false
  · rw [nil_two (.inr (.inr hf)), nil_two (.inr (.inr hf.symm))]
  · rw [fine_two (fun e => by rcases e with e | e | e; omega; omega; exact hf e), fine_two (fun e => by rcases e with e | e | e; omega; omega; exact hf e.symm), h]
theorem both_swap (so : Bool) (a b : Val) : Val.both so a b = Val.both so b a := by
  have e2 : (a.k = 2 ∨ b.k = 2) = (b.k = 2 ∨ a.k = 2) := propext Or.comm
  have e0 : (a.k = 0 ∨ b.k = 0) = (b.k = 0 ∨ a.k = 0) := propext Or.comm
  unfold Val.both
  simp only [e2, e0, Bool.or_comm (Val.decides so a)]
theorem two0_order {o : Nat} {a b : Val} (h : 10 < o) (h2 : o < 17) : Val.two0 o a b = if a.k = 0 ∨ b.k = 0 then (Val.nil, 0) else (Val.yes (Val.serves o (Val.cmp a b)), 0) := by
  have e1 : ¬ (o = 17 ∨ o = 18) := by omega
  have e2 : ¬ o = 10 := by omega
  unfold Val.two0
  rw [if_neg e1]
  by_cases hn : a.k = 0 ∨ b.k = 0
  · rw [if_pos hn, if_pos hn]
  · rw [if_neg hn, if_neg hn, if_neg e2, if_pos h]
theorem order_swap {op op' : Nat} {a b : Val} (h0 : op = 11 ∧ op' = 11 ∨ op = 12 ∧ op' = 12 ∨ op = 13 ∧ op' = 15 ∨ op = 14 ∧ op' = 16) : Val.two op a b = Val.two op' b a := by
  obtain ⟨c1, c2, c3, c4⟩ := cmp_serves a b
  have key : ∀ o o' : Nat, 10 < o → o < 17 → 10 < o' → o' < 17 → Val.serves o (Val.cmp a b) = Val.serves o' (Val.cmp b a) → Val.two o a b = Val.two o' b a := by
    intro o o' k1 k2 k3 k4 k5
    refine two_swap (by omega) (by omega) (by omega) (by omega) ?_
    rw [two0_order k1 k2, two0_order k3 k4, k5]
    by_cases hn : a.k = 0 ∨ b.k = 0
    · rw [if_pos hn, if_pos hn.symm]
    · rw [if_neg hn, if_neg (fun e => hn e.symm)]
  rcases h0 with ⟨rfl, rfl⟩ | ⟨rfl, rfl⟩ | ⟨rfl, rfl⟩ | ⟨rfl, rfl⟩
  · exact key 11 11 (by omega) (by omega) (by omega) (by omega) c1
  · exact key 12 12 (by omega) (by omega) (by omega) (by omega) c2
  · exact key 13 15 (by omega) (by omega) (by omega) (by omega) c3
  · exact key 14 16 (by omega) (by omega) (by omega) (by omega) c4
theorem same_swap {op : Nat} (a b : Val) (h0 : op = 5 ∨ op = 7 ∨ op = 11 ∨ op = 12 ∨ op = 17 ∨ op = 18) : Val.two op a b = Val.two op b a := by
  rcases h0 with rfl | rfl | rfl | rfl | rfl | rfl
  · refine two_swap (by omega) (by omega) (by omega) (by omega) ?_
    have e : Val.reckon 5 a.i b.i = Val.reckon 5 b.i a.i := by rw [Val.reckon5, Val.reckon5, Int.add_comm]
    have e2 : (a.k = 2 ∨ b.k = 2) = (b.k = 2 ∨ a.k = 2) := propext Or.comm
    have e0 : (a.k = 0 ∨ b.k = 0) = (b.k = 0 ∨ a.k = 0) := propext Or.comm
    unfold Val.two0
    simp only [e, e2, e0]
    rfl
  · refine two_swap (by omega) (by omega) (by omega) (by omega) ?_
    have e : Val.reckon 7 a.i b.i = Val.reckon 7 b.i a.i := by rw [Val.reckon7, Val.reckon7, Int.mul_comm]
    have e2 : (a.k = 2 ∨ b.k = 2) = (b.k = 2 ∨ a.k = 2) := propext Or.comm
    have e0 : (a.k = 0 ∨ b.k = 0) = (b.k = 0 ∨ a.k = 0) := propext Or.comm
    unfold Val.two0
    simp only [e, e2, e0]
    rfl
  · exact order_swap (.inl ⟨rfl, rfl⟩)
  · exact order_swap (.inr (.inl ⟨rfl, rfl⟩))
  · exact two_swap (by omega) (by omega) (by omega) (by omega) (both_swap false a b)
  · exact two_swap (by omega) (by omega) (by omega) (by omega) (both_swap true a b)
end Go.Proofs.YtjjfmmimmfihgaaDoor
