/-
  WHAT IS PROVED: contracts of One and Two.
-/
import Derived.Test.YtjjfmmimmfihgaaDoorValH
import Derived.Laws.EntriesVeiled
import Derived.Laws.CopyOwn
namespace Go.Proofs.YtjjfmmimmfihgaaDoor
open Go.RowKit Go.Lib

theorem onIntegers_any (g : Nat) (w : World) :
    Calls Tryd.prog 17 #[.func (.func g) #[] #[]] w fun e w' => e = .returned (.func (.func 46) #[] #[.pointer (some ⟨w.heap.size, 0, none⟩)]) ∧ w.alloc (.cells #[.func (.func g) #[] #[]] 46) = w' := by
  have hmf : ∀ (fn : Fn) (first cap : Array Value) (w : World), (Instr.makeFunc fn first cap).run Tryd.prog w = .ok (.func fn first cap) w := fun _ _ _ _ => rfl
  go_enter Tryd.func17, Tryd.ntmps17
  go_wp2
  go_ret
  exact ⟨rfl, rfl⟩
theorem onOrder_any (g : Nat) (w : World) :
    Calls Tryd.prog 24 #[.func (.func g) #[] #[]] w fun e w' => e = .returned (.func (.func 51) #[] #[.pointer (some ⟨w.heap.size, 0, none⟩)]) ∧ w.alloc (.cells #[.func (.func g) #[] #[]] 48) = w' := by
  have hmf : ∀ (fn : Fn) (first cap : Array Value) (w : World), (Instr.makeFunc fn first cap).run Tryd.prog w = .ok (.func fn first cap) w := fun _ _ _ _ => rfl
  go_enter Tryd.func24, Tryd.ntmps24
  go_wp2
  go_ret
  exact ⟨rfl, rfl⟩
theorem decided_made (so : Bool) (w : World) :
    Calls Tryd.prog 31 #[.bool so] w fun e w' => e = .returned (.func (.func 54) #[] #[.pointer (some ⟨w.heap.size + 1, 0, none⟩), .pointer (some ⟨w.heap.size, 0, none⟩)]) ∧
      (w.alloc (.cells #[.bool so] 4)).alloc (.cells #[.func (.func 53) #[] #[.pointer (some ⟨w.heap.size, 0, none⟩)]] 51) = w' := by
  have hmf : ∀ (fn : Fn) (first cap : Array Value) (w : World), (Instr.makeFunc fn first cap).run Tryd.prog w = .ok (.func fn first cap) w := fun _ _ _ _ => rfl
  go_enter Tryd.func31, Tryd.ntmps31
  go_wp2
  go_ret
  exact ⟨rfl, rfl⟩

/-- new blocks that a call has made, each as it is -/
structure Fam (w0 : World) (L : List (Nat × Obj)) (w : World) : Prop where
  below : Below w0.heap.size w0 w
  at_ : ∀ x ∈ L, w0.heap.size ≤ x.1 ∧ w.heap[x.1]? = some x.2
theorem Fam.kept {w0 w w' : World} {L : List (Nat × Obj)} (h : Fam w0 L w) (hb : Below w.heap.size w w') : Fam w0 L w' :=
  ⟨below_next h.below hb, fun x hx => ⟨(h.at_ x hx).1, (hb.block _ (lt_of_block (h.at_ x hx).2)).trans (h.at_ x hx).2⟩⟩
theorem Fam.add {w0 w w' : World} {L : List (Nat × Obj)} (h : Fam w0 L w) (hb : Below w.heap.size w w') {b : Nat} {o : Obj} (hB : w.heap.size ≤ b) (ho : w'.heap[b]? = some o) : Fam w0 ((b, o) :: L) w' := by
  refine ⟨(h.kept hb).below, fun x hx => ?_⟩
  rcases List.mem_cons.1 hx with rfl | hx
  · exact ⟨by have := h.below.size; simp only; omega, ho⟩
  · exact (h.kept hb).at_ x hx
theorem Fam.get {w0 w : World} {L : List (Nat × Obj)} (h : Fam w0 L w) {b : Nat} {o : Obj} (hm : (b, o) ∈ L) : w.heap[b]? = some o := (h.at_ _ hm).2
def MadeI (w0 : World) (L : List (Nat × Obj)) (f g : Nat) (t : Nat) (e : Ending) (w' : World) : Prop :=
  ∃ b, e = .returned (.func (.func f) #[] #[.pointer (some ⟨b, 0, none⟩)]) ∧ Fam w0 ((b, .cells #[.func (.func g) #[] #[]] t (0, 0)) :: L) w'
theorem onIntegers_made {w0 w : World} {L : List (Nat × Obj)} (h : Fam w0 L w) (g : Nat) :
    Calls Tryd.prog 17 #[.func (.func g) #[] #[]] w (MadeI w0 L 46 g 46) :=
  (onIntegers_any g w).mono fun _ _ ⟨he, hw⟩ => ⟨_, he, by subst hw; exact h.add (below_alloc _ _) (Nat.le_refl _) (heap_alloc_new _ _)⟩
theorem onOrder_made {w0 w : World} {L : List (Nat × Obj)} (h : Fam w0 L w) (g : Nat) :
    Calls Tryd.prog 24 #[.func (.func g) #[] #[]] w (MadeI w0 L 51 g 48) :=
  (onOrder_any g w).mono fun _ _ ⟨he, hw⟩ => ⟨_, he, by subst hw; exact h.add (below_alloc _ _) (Nat.le_refl _) (heap_alloc_new _ _)⟩
def MadeD (w0 : World) (L : List (Nat × Obj)) (so : Bool) (e : Ending) (w' : World) : Prop :=
  ∃ b c, e = .returned (.func (.func 54) #[] #[.pointer (some ⟨b, 0, none⟩), .pointer (some ⟨c, 0, none⟩)]) ∧
    Fam w0 ((b, .cells #[.func (.func 53) #[] #[.pointer (some ⟨c, 0, none⟩)]] 51 (0, 0)) :: (c, .cells #[.bool so] 4 (0, 0)) :: L) w'
theorem decided_fam {w0 w : World} {L : List (Nat × Obj)} (h : Fam w0 L w) (so : Bool) :
    Calls Tryd.prog 31 #[.bool so] w (MadeD w0 L so) :=
  (decided_made so w).mono fun _ _ ⟨he, hw⟩ => ⟨_, _, he, by
    subst hw
    have h1 := h.add (below_alloc w (.cells #[.bool so] 4)) (Nat.le_refl _) (heap_alloc_new _ _)
    have h2 := heap_alloc_new (w.alloc (.cells #[.bool so] 4)) (.cells #[.func (.func 53) #[] #[.pointer (some ⟨w.heap.size, 0, none⟩)]] 51)
    rw [show (w.alloc (.cells #[.bool so] 4)).heap.size = w.heap.size + 1 by simp] at h2
    exact h1.add (below_alloc _ _) (by simp) h2⟩

/-! per op -/
theorem Fam.row {w0 w : World} {L : List (Nat × Obj)} (h : Fam w0 L w) (zs cs : Array Value) (t : Nat) : Fam w0 ((w.heap.size, .cells cs t (0, 0)) :: L) ((w.alloc (.cells zs t)).setRow w.heap.size cs) :=
  h.add (below_setRow (below_alloc w _) (Nat.le_refl _) cs) (Nat.le_refl _) (setRow_heap _ _ _ _ _ _ (heap_alloc_new w _))
theorem set3_other {w : World} {b c : Nat} (h : c ≠ b) (u0 u1 u2 : Value) (j : Nat) : (((w.setCell ⟨b, 0, none⟩ u0).setCell ⟨b, 1, none⟩ u1).setCell ⟨b, 2, none⟩ u2).cell? ⟨c, j, none⟩ = w.cell? ⟨c, j, none⟩ := by
  have e : ∀ (w : World) (o : Nat) (u : Value), (w.setCell ⟨b, o, none⟩ u).cell? ⟨c, j, none⟩ = w.cell? ⟨c, j, none⟩ := fun w o u => by
    have := Below.heap_setCell w ⟨b, o, none⟩ u c h
    unfold World.cell?
    simp only [this]
  rw [e, e, e]
theorem Fam.free {w0 w : World} {L : List (Nat × Obj)} (h : Fam w0 L w) {b : Nat} {cs : Array Value} {t : Nat} (hm : (b, .cells cs t (0, 0)) ∈ L) (j : Nat) : w.frozen? ⟨b, j, none⟩ = false := free_of_block (h.get hm) j
theorem Fam.cell {w0 w : World} {L : List (Nat × Obj)} (h : Fam w0 L w) {b : Nat} {cs : Array Value} {t : Nat} {fr : Nat × Nat} (hm : (b, .cells cs t fr) ∈ L) (j : Nat) : w.cell? ⟨b, j, none⟩ = cs[j]? := cell_of_block (h.get hm) j

/-- the two values and the result, as they lie -/
def Base3 (w : World) (k : Nat) (i : Int) (s : ByteArray) (l : Nat) (j : Int) (t : ByteArray) : List (Nat × Obj) :=
  [(w.heap.size, .cells #[.int .u8 (k : Int), .int .i64 i, .string s] 25 (0, 0)), (w.heap.size + 1, .cells #[.int .u8 (l : Int), .int .i64 j, .string t] 25 (0, 0)), (w.heap.size + 1 + 1, .cells #[.int .u8 0, .int .i64 0, .string ⟨#[]⟩] 25 (0, 0))]
theorem base3 (w : World) (k : Nat) (i : Int) (s : ByteArray) (l : Nat) (j : Int) (t : ByteArray) : Fam w (Base3 w k i s l j t)
    (((w.alloc (.cells #[.int .u8 (k : Int), .int .i64 i, .string s] 25)).alloc (.cells #[.int .u8 (l : Int), .int .i64 j, .string t] 25)).alloc (.cells #[.int .u8 0, .int .i64 0, .string ⟨#[]⟩] 25)) := by
  have T := trio w (.cells #[.int .u8 (k : Int), .int .i64 i, .string s] 25) (.cells #[.int .u8 (l : Int), .int .i64 j, .string t] 25) (.cells #[.int .u8 0, .int .i64 0, .string ⟨#[]⟩] 25)
  refine ⟨T.below, fun x hx => ?_⟩
  unfold Base3 at hx
  simp only [List.mem_cons, List.not_mem_nil, or_false] at hx
  rcases hx with rfl | rfl | rfl
  · exact ⟨Nat.le_refl _, T.a⟩
  · exact ⟨by simp only; omega, T.b⟩
  · exact ⟨by simp only; omega, T.c⟩
theorem in0 (w : World) (k : Nat) (i : Int) (s : ByteArray) (l : Nat) (j : Int) (t : ByteArray) : (w.heap.size, Obj.cells #[.int .u8 (k : Int), .int .i64 i, .string s] 25 (0, 0)) ∈ Base3 w k i s l j t := by unfold Base3; simp
theorem in1 (w : World) (k : Nat) (i : Int) (s : ByteArray) (l : Nat) (j : Int) (t : ByteArray) : (w.heap.size + 1, Obj.cells #[.int .u8 (l : Int), .int .i64 j, .string t] 25 (0, 0)) ∈ Base3 w k i s l j t := by unfold Base3; simp
theorem in2 (w : World) (k : Nat) (i : Int) (s : ByteArray) (l : Nat) (j : Int) (t : ByteArray) : (w.heap.size + 1 + 1, Obj.cells #[.int .u8 0, .int .i64 0, .string ⟨#[]⟩] 25 (0, 0)) ∈ Base3 w k i s l j t := by unfold Base3; simp
theorem Base3.r (w : World) (k : Nat) (i : Int) (s : ByteArray) (l : Nat) (j : Int) (t : ByteArray) : ∀ x ∈ Base3 w k i s l j t, x.1 ≤ w.heap.size + 1 + 1 := by
  unfold Base3
  intro x hx
  simp only [List.mem_cons, List.not_mem_nil, or_false] at hx
  rcases hx with rfl | rfl | rfl <;> simp only <;> omega
/-- what the loads want, and the result's cells -/
theorem Fam.s {w0 w : World} {L : List (Nat × Obj)} (h : Fam w0 L w) {k : Nat} {i : Int} {s : ByteArray} {l : Nat} {j : Int} {t : ByteArray} (hL : ∀ x ∈ Base3 w0 k i s l j t, x ∈ L) :
    w.cell? ⟨w0.heap.size, 0, none⟩ = some (.int .u8 (k : Int)) ∧ w.cell? ⟨w0.heap.size, 1, none⟩ = some (.int .i64 i) ∧ w.cell? ⟨w0.heap.size, 2, none⟩ = some (.string s) ∧
      w.cell? ⟨w0.heap.size + 1, 0, none⟩ = some (.int .u8 (l : Int)) ∧ w.cell? ⟨w0.heap.size + 1, 1, none⟩ = some (.int .i64 j) ∧ w.cell? ⟨w0.heap.size + 1, 2, none⟩ = some (.string t) :=
  ⟨h.cell (hL _ (in0 ..)) 0, h.cell (hL _ (in0 ..)) 1, h.cell (hL _ (in0 ..)) 2, h.cell (hL _ (in1 ..)) 0, h.cell (hL _ (in1 ..)) 1, h.cell (hL _ (in1 ..)) 2⟩
theorem Fam.r {w0 w : World} {L : List (Nat × Obj)} (h : Fam w0 L w) {k : Nat} {i : Int} {s : ByteArray} {l : Nat} {j : Int} {t : ByteArray} (hL : ∀ x ∈ Base3 w0 k i s l j t, x ∈ L) :
    (w.cell? ⟨w0.heap.size + 1 + 1, 0, none⟩ = some (.int .u8 0) ∧ w.cell? ⟨w0.heap.size + 1 + 1, 1, none⟩ = some (.int .i64 0) ∧ w.cell? ⟨w0.heap.size + 1 + 1, 2, none⟩ = some (.string ⟨#[]⟩)) ∧
      (w.frozen? ⟨w0.heap.size + 1 + 1, 0, none⟩ = false ∧ w.frozen? ⟨w0.heap.size + 1 + 1, 1, none⟩ = false ∧ w.frozen? ⟨w0.heap.size + 1 + 1, 2, none⟩ = false) ∧ w0.heap.size + 1 + 1 < w.heap.size :=
  ⟨⟨h.cell (hL _ (in2 ..)) 0, h.cell (hL _ (in2 ..)) 1, h.cell (hL _ (in2 ..)) 2⟩, ⟨h.free (hL _ (in2 ..)) 0, h.free (hL _ (in2 ..)) 1, h.free (hL _ (in2 ..)) 2⟩, lt_of_block (h.get (hL _ (in2 ..)))⟩
theorem Fam.z {w0 w : World} {k : Nat} {i : Int} {s : ByteArray} {l : Nat} {j : Int} {t : ByteArray} {x1 x2 x3 x4 x5 x6 x7 x8 x9 x10 x11 x12 x13 x14 x15 : Nat × Obj} (h : Fam w0 (x1 :: x2 :: x3 :: x4 :: x5 :: x6 :: x7 :: x8 :: x9 :: x10 :: x11 :: x12 :: x13 :: x14 :: x15 :: Base3 w0 k i s l j t) w) : w0.heap.size < w.heap.size ∧ w0.heap.size + 1 < w.heap.size ∧ w0.heap.size + 1 + 1 < w.heap.size := by
  have := (h.r (k := k) (i := i) (s := s) (l := l) (j := j) (t := t) (fun x hx => by simp only [List.mem_cons, hx, or_true])).2.2
  omega
theorem Val.fine_size {x : Val} (h : x.fine = true) : x.s.size ≤ 512 := by
  rcases Val.fine_cases h with rfl | ⟨n, rfl⟩ | ⟨s, rfl, hs⟩
  · show (0 : Nat) ≤ 512; omega
  · show (0 : Nat) ≤ 512; omega
  · exact hs
theorem nil_two {op : Nat} {a b : Val} (h : op < 5 ∨ 18 < op ∨ a.fine = false ∨ b.fine = false) : Val.two op a b = (Val.nil, 1) := if_pos h
theorem fine_two {op : Nat} {a b : Val} (h : ¬ (op < 5 ∨ 18 < op ∨ a.fine = false ∨ b.fine = false)) : Val.two op a b = Val.two0 op a b := if_neg h
theorem nil_gives {r : Val × Nat} {w w' : World} (hr : r = (Val.nil, 1)) (hb : Below w.heap.size w w') : Gives r w (.returned (.tuple #[.agg #[.int .u8 0, .int .i64 0, .string ⟨#[]⟩], .int .i64 1])) w' := by subst hr; exact ⟨rfl, hb⟩
theorem some_gives {r q : Val × Nat} {w w' : World} (hr : r = q) (hb : Below w.heap.size w w') : Gives r w (.returned (.tuple #[.agg #[.int .u8 (q.1.k : Int), .int .i64 q.1.i, .string q.1.s], .int .i64 (q.2 : Int)])) w' := by subst hr; exact ⟨rfl, hb⟩
end Go.Proofs.YtjjfmmimmfihgaaDoor
