/-
  WHAT IS PROVED: contracts of the operators by order.
-/
import Derived.Test.YtjjfmmimmfihgaaDoorValD
import Derived.Deep.RegionHeld3
namespace Go.Proofs.YtjjfmmimmfihgaaDoor
open Go.RowKit Go.Lib

theorem free_of_block {w : World} {b : Nat} {cs : Array Value} {t : TypeId} (h : w.heap[b]? = some (.cells cs t (0, 0))) (j : Nat) : w.frozen? ⟨b, j, none⟩ = false := by
  simp [World.frozen?, h]

/-- three new blocks, and what is behind them -/
structure Trio (w : World) (a b c : Obj) (w' : World) : Prop where
  below : Below w.heap.size w w'
  size : w.heap.size + 1 + 1 < w'.heap.size
  a : w'.heap[w.heap.size]? = some a
  b : w'.heap[w.heap.size + 1]? = some b
  c : w'.heap[w.heap.size + 1 + 1]? = some c
theorem trio (w : World) (a b c : Obj) : Trio w a b c (((w.alloc a).alloc b).alloc c) := by
  refine ⟨below_three0 w a b c, by simp, ?_, ?_, ?_⟩
  · rw [Below.heap_alloc _ _ _ (by simp; omega)]; exact (block_two w a b).1
  · rw [Below.heap_alloc _ _ _ (by simp)]; exact (block_two w a b).2
  · have h := heap_alloc_new ((w.alloc a).alloc b) c
    rw [show ((w.alloc a).alloc b).heap.size = w.heap.size + 1 + 1 by simp] at h
    exact h
theorem Trio.kept {w w1 w2 : World} {a b c : Obj} (h : Trio w a b c w1) (hb : Below w1.heap.size w1 w2) : Trio w a b c w2 := by
  have := h.size
  exact ⟨below_next h.below hb, Nat.lt_of_lt_of_le h.size hb.size, (hb.block _ (by omega)).trans h.a, (hb.block _ (by omega)).trans h.b, (hb.block _ (by omega)).trans h.c⟩
theorem trio_S {w w' : World} {A : Nat} {f x0 x1 x2 y0 y1 y2 : Value} {tx ty : TypeId} {c : Obj} (hA : w.cell? ⟨A, 0, none⟩ = some f) (T : Trio w (.cells #[x0, x1, x2] tx) (.cells #[y0, y1, y2] ty) c w') :
    w'.cell? ⟨A, 0, none⟩ = some f ∧ w'.cell? ⟨w.heap.size, 0, none⟩ = some x0 ∧ w'.cell? ⟨w.heap.size, 1, none⟩ = some x1 ∧ w'.cell? ⟨w.heap.size, 2, none⟩ = some x2 ∧
      w'.cell? ⟨w.heap.size + 1, 0, none⟩ = some y0 ∧ w'.cell? ⟨w.heap.size + 1, 1, none⟩ = some y1 ∧ w'.cell? ⟨w.heap.size + 1, 2, none⟩ = some y2 :=
  ⟨(T.below.cell (World.block_lt_of_cell? w _ hA)).trans hA, cell_of_block T.a 0, cell_of_block T.a 1, cell_of_block T.a 2, cell_of_block T.b 0, cell_of_block T.b 1, cell_of_block T.b 2⟩
theorem below_set3 {B : Nat} {w w' : World} {b : Nat} (h : Below B w w') (hb : B ≤ b) (u0 u1 u2 : Value) : Below B w (((w'.setCell ⟨b, 0, none⟩ u0).setCell ⟨b, 1, none⟩ u1).setCell ⟨b, 2, none⟩ u2) :=
  ((h.setCell (p := ⟨b, 0, none⟩) hb u0).setCell (p := ⟨b, 1, none⟩) hb u1).setCell (p := ⟨b, 2, none⟩) hb u2
theorem trio_S_set {w w' : World} {A : Nat} {f x0 x1 x2 y0 y1 y2 : Value} {tx ty : TypeId} {c : Obj} (hA : w.cell? ⟨A, 0, none⟩ = some f) (T : Trio w (.cells #[x0, x1, x2] tx) (.cells #[y0, y1, y2] ty) c w') (u0 u1 u2 : Value) :
    (((w'.setCell ⟨w.heap.size + 1 + 1, 0, none⟩ u0).setCell ⟨w.heap.size + 1 + 1, 1, none⟩ u1).setCell ⟨w.heap.size + 1 + 1, 2, none⟩ u2).cell? ⟨A, 0, none⟩ = some f ∧
    (((w'.setCell ⟨w.heap.size + 1 + 1, 0, none⟩ u0).setCell ⟨w.heap.size + 1 + 1, 1, none⟩ u1).setCell ⟨w.heap.size + 1 + 1, 2, none⟩ u2).cell? ⟨w.heap.size, 0, none⟩ = some x0 ∧
    (((w'.setCell ⟨w.heap.size + 1 + 1, 0, none⟩ u0).setCell ⟨w.heap.size + 1 + 1, 1, none⟩ u1).setCell ⟨w.heap.size + 1 + 1, 2, none⟩ u2).cell? ⟨w.heap.size, 1, none⟩ = some x1 ∧
    (((w'.setCell ⟨w.heap.size + 1 + 1, 0, none⟩ u0).setCell ⟨w.heap.size + 1 + 1, 1, none⟩ u1).setCell ⟨w.heap.size + 1 + 1, 2, none⟩ u2).cell? ⟨w.heap.size, 2, none⟩ = some x2 ∧
    (((w'.setCell ⟨w.heap.size + 1 + 1, 0, none⟩ u0).setCell ⟨w.heap.size + 1 + 1, 1, none⟩ u1).setCell ⟨w.heap.size + 1 + 1, 2, none⟩ u2).cell? ⟨w.heap.size + 1, 0, none⟩ = some y0 ∧
    (((w'.setCell ⟨w.heap.size + 1 + 1, 0, none⟩ u0).setCell ⟨w.heap.size + 1 + 1, 1, none⟩ u1).setCell ⟨w.heap.size + 1 + 1, 2, none⟩ u2).cell? ⟨w.heap.size + 1, 1, none⟩ = some y1 ∧
    (((w'.setCell ⟨w.heap.size + 1 + 1, 0, none⟩ u0).setCell ⟨w.heap.size + 1 + 1, 1, none⟩ u1).setCell ⟨w.heap.size + 1 + 1, 2, none⟩ u2).cell? ⟨w.heap.size + 1, 2, none⟩ = some y2 := by
  have hb : Below (w.heap.size + 1 + 1) w' (((w'.setCell ⟨w.heap.size + 1 + 1, 0, none⟩ u0).setCell ⟨w.heap.size + 1 + 1, 1, none⟩ u1).setCell ⟨w.heap.size + 1 + 1, 2, none⟩ u2) :=
    below_set3 (Below.refl _ _) (Nat.le_refl _) _ _ _
  have hAw := World.block_lt_of_cell? w _ hA
  simp only at hAw
  obtain ⟨s0, s1, s2, s3, s4, s5, s6⟩ := trio_S hA T
  exact ⟨(hb.cell (by simp only; omega)).trans s0, (hb.cell (by simp only; omega)).trans s1, (hb.cell (by simp only; omega)).trans s2, (hb.cell (by simp only; omega)).trans s3,
    (hb.cell (by simp only; omega)).trans s4, (hb.cell (by simp only; omega)).trans s5, (hb.cell (by simp only; omega)).trans s6⟩
theorem trio_R {w w' : World} {a b : Obj} {x0 x1 x2 : Value} {tx : TypeId} (T : Trio w a b (.cells #[x0, x1, x2] tx) w') :
    (w'.cell? ⟨w.heap.size + 1 + 1, 0, none⟩ = some x0 ∧ w'.cell? ⟨w.heap.size + 1 + 1, 1, none⟩ = some x1 ∧ w'.cell? ⟨w.heap.size + 1 + 1, 2, none⟩ = some x2) ∧
      w'.frozen? ⟨w.heap.size + 1 + 1, 0, none⟩ = false ∧ w'.frozen? ⟨w.heap.size + 1 + 1, 1, none⟩ = false ∧ w'.frozen? ⟨w.heap.size + 1 + 1, 2, none⟩ = false :=
  ⟨⟨cell_of_block T.c 0, cell_of_block T.c 1, cell_of_block T.c 2⟩, free_of_block T.c 0, free_of_block T.c 1, free_of_block T.c 2⟩
theorem below_drew {w w' : World} (h : Below w.drew.heap.size w.drew w') : Below w.heap.size w w' := ⟨h.os, h.tape, h.output, h.size, h.block⟩

theorem holds_1 (c : Int) (w : World) : Calls Tryd.prog 25 #[.int .i64 c] w fun e w' => e = .returned (.bool (Val.serves 11 c)) ∧ w = w' := by
  have hr : Val.serves 11 c = (decide (c = 0)) := rfl
  rw [hr]
  go_enter Tryd.func25, Tryd.ntmps25
  go_wp2
  go_ret
  exact ⟨ret_bool (by first | rfl | (rw [Bool.eq_iff_iff]; simp)), rfl⟩
theorem holds_2 (c : Int) (w : World) : Calls Tryd.prog 26 #[.int .i64 c] w fun e w' => e = .returned (.bool (Val.serves 12 c)) ∧ w = w' := by
  have hr : Val.serves 12 c = (!decide (c = 0)) := rfl
  rw [hr]
  go_enter Tryd.func26, Tryd.ntmps26
  go_wp2
  go_ret
  exact ⟨ret_bool (by first | rfl | (rw [Bool.eq_iff_iff]; simp)), rfl⟩
theorem holds_3 (c : Int) (w : World) : Calls Tryd.prog 27 #[.int .i64 c] w fun e w' => e = .returned (.bool (Val.serves 13 c)) ∧ w = w' := by
  have hr : Val.serves 13 c = (decide (c < 0)) := rfl
  rw [hr]
  go_enter Tryd.func27, Tryd.ntmps27
  go_wp2
  go_ret
  exact ⟨ret_bool (by first | rfl | (rw [Bool.eq_iff_iff]; simp)), rfl⟩
theorem holds_4 (c : Int) (w : World) : Calls Tryd.prog 28 #[.int .i64 c] w fun e w' => e = .returned (.bool (Val.serves 14 c)) ∧ w = w' := by
  have hr : Val.serves 14 c = (decide (c ≤ 0)) := rfl
  rw [hr]
  go_enter Tryd.func28, Tryd.ntmps28
  go_wp2
  go_ret
  exact ⟨ret_bool (by first | rfl | (rw [Bool.eq_iff_iff]; simp)), rfl⟩
theorem holds_5 (c : Int) (w : World) : Calls Tryd.prog 29 #[.int .i64 c] w fun e w' => e = .returned (.bool (Val.serves 15 c)) ∧ w = w' := by
  have hr : Val.serves 15 c = (decide (0 < c)) := rfl
  rw [hr]
  go_enter Tryd.func29, Tryd.ntmps29
  go_wp2
  go_ret
  exact ⟨ret_bool (by first | rfl | (rw [Bool.eq_iff_iff]; simp)), rfl⟩
theorem holds_6 (c : Int) (w : World) : Calls Tryd.prog 30 #[.int .i64 c] w fun e w' => e = .returned (.bool (Val.serves 16 c)) ∧ w = w' := by
  have hr : Val.serves 16 c = (decide (0 ≤ c)) := rfl
  rw [hr]
  go_enter Tryd.func30, Tryd.ntmps30
  go_wp2
  go_ret
  exact ⟨ret_bool (by first | rfl | (rw [Bool.eq_iff_iff]; simp)), rfl⟩
set_option maxRecDepth 100000 in
set_option maxHeartbeats 4000000 in
theorem on_order1 (A k : Nat) (i : Int) (s : ByteArray) (l : Nat) (j : Int) (t : ByteArray) (w : World) (hk : k < 256) (hl : l < 256)
    (hA : w.cell? ⟨A, 0, none⟩ = some (.func (.func 25) #[] #[])) :
    Calls Tryd.prog 51 #[.agg #[.int .u8 (k : Int), .int .i64 i, .string s], .agg #[.int .u8 (l : Int), .int .i64 j, .string t], .pointer (some ⟨A, 0, none⟩)] w (Gives (Val.two0 11 ⟨k, i, s⟩ ⟨l, j, t⟩) w) := by
  have hAw : A < w.heap.size := World.block_lt_of_cell? w _ hA
  by_cases hn : k = 0 ∨ l = 0
  · have hd : decide (k = 0 ∨ l = 0) = true := by simpa using hn
    have hr : Val.two0 11 ⟨k, i, s⟩ ⟨l, j, t⟩ = (Val.nil, 0) := if_pos hn
    rw [hr]
    clear hn hr
    go_enter Tryd.func51, Tryd.ntmps51
    go_wp2_with (go_at_call 47; refine (anyNull_any _ _ _ _ _ _ _ hk hl).mono ?_; rintro e w1 ⟨rfl, hb⟩; obtain ⟨hc, hf⟩ := bcell hb; obtain ⟨z0, z1, z2⟩ := three_size hb)
    exact bodyPost_ret (v := .tuple #[.agg #[.int .u8 0, .int .i64 0, .string ⟨#[]⟩], .int .i64 0]) (by simp [results, go_sem, hc]) rfl ⟨rfl, (((below_three hb).setCell (by simp; omega) _).setCell (by simp; omega) _).setCell (by simp; omega) _⟩
  · have hd : decide (k = 0 ∨ l = 0) = false := by simpa using hn
    have hr : Val.two0 11 ⟨k, i, s⟩ ⟨l, j, t⟩ = (Val.yes (Val.serves 11 (Val.cmp ⟨k, i, s⟩ ⟨l, j, t⟩)), 0) := if_neg hn
    rw [hr]
    clear hn hr
    generalize hcm : Val.cmp ⟨k, i, s⟩ ⟨l, j, t⟩ = c
    have HC := Lib.hid hcm
    clear hcm
    go_enter Tryd.func51, Tryd.ntmps51
    go_wp2_with (go_at_call 47; refine (anyNull_any _ _ _ _ _ _ _ hk hl).mono ?_; rintro e w1 ⟨rfl, hb⟩)
    have T1 := Lib.hid ((trio w _ _ _).kept hb)
    have S1 := trio_S hA T1.out
    obtain ⟨e0, e1, e2, e3, e4, e5, e6⟩ := S1
    clear hb
    go_wp2_with fail
    go_region_held3 (fun x => x.cell? ⟨A, 0, none⟩ = some (.func (.func 25) #[] #[]) ∧ x.cell? ⟨w.heap.size, 0, none⟩ = some (.int .u8 (k : Int)) ∧ x.cell? ⟨w.heap.size, 1, none⟩ = some (.int .i64 i) ∧ x.cell? ⟨w.heap.size, 2, none⟩ = some (.string s) ∧
        x.cell? ⟨w.heap.size + 1, 0, none⟩ = some (.int .u8 (l : Int)) ∧ x.cell? ⟨w.heap.size + 1, 1, none⟩ = some (.int .i64 j) ∧ x.cell? ⟨w.heap.size + 1, 2, none⟩ = some (.string t)) (first | exact ⟨e0, e1, e2, e3, e4, e5, e6⟩ | exact SS.out | exact trio_S_set hA T3.out _ _ _) ((first
      | (go_at_call 40; refine (cmp_any _ _ _ _ _ _ _).mono ?_; rintro e w2 ⟨rfl, hb2⟩; have T2 := Lib.hid (T1.out.kept (below_drew hb2)); have SS := Lib.hid (trio_S hA T2.out); rw [HC.out]; clear hb2)
      | (go_at_call 25; refine (holds_1 _ _).mono ?_; rintro e w' ⟨rfl, rfl⟩)
      | (go_at_call 52; refine (truth_any _ _).mono ?_; rintro e w3 ⟨rfl, hb3⟩; have T3 := Lib.hid (T2.out.kept hb3); clear SS; have SS := Lib.hid (trio_S hA T3.out); obtain ⟨⟨g0, g1, g2⟩, f0, f1, f2⟩ := trio_R T3.out; clear hb3)))
    have y2 := T3.out.size
    go_wp2
    exact bodyPost_ret (v := .tuple #[.agg #[.int .u8 1, .int .i64 (bitI (Val.serves 11 c)), .string ⟨#[]⟩], .int .i64 0]) (by simp [results, go_sem, g0, g1, g2]) rfl ⟨rfl, ((T3.out.below.setCell (by simp; omega) _).setCell (by simp; omega) _).setCell (by simp; omega) _⟩

set_option maxRecDepth 100000 in
set_option maxHeartbeats 4000000 in
theorem on_order2 (A k : Nat) (i : Int) (s : ByteArray) (l : Nat) (j : Int) (t : ByteArray) (w : World) (hk : k < 256) (hl : l < 256)
    (hA : w.cell? ⟨A, 0, none⟩ = some (.func (.func 26) #[] #[])) :
    Calls Tryd.prog 51 #[.agg #[.int .u8 (k : Int), .int .i64 i, .string s], .agg #[.int .u8 (l : Int), .int .i64 j, .string t], .pointer (some ⟨A, 0, none⟩)] w (Gives (Val.two0 12 ⟨k, i, s⟩ ⟨l, j, t⟩) w) := by
  have hAw : A < w.heap.size := World.block_lt_of_cell? w _ hA
  by_cases hn : k = 0 ∨ l = 0
  · have hd : decide (k = 0 ∨ l = 0) = true := by simpa using hn
    have hr : Val.two0 12 ⟨k, i, s⟩ ⟨l, j, t⟩ = (Val.nil, 0) := if_pos hn
    rw [hr]
    clear hn hr
    go_enter Tryd.func51, Tryd.ntmps51
    go_wp2_with (go_at_call 47; refine (anyNull_any _ _ _ _ _ _ _ hk hl).mono ?_; rintro e w1 ⟨rfl, hb⟩; obtain ⟨hc, hf⟩ := bcell hb; obtain ⟨z0, z1, z2⟩ := three_size hb)
    exact bodyPost_ret (v := .tuple #[.agg #[.int .u8 0, .int .i64 0, .string ⟨#[]⟩], .int .i64 0]) (by simp [results, go_sem, hc]) rfl ⟨rfl, (((below_three hb).setCell (by simp; omega) _).setCell (by simp; omega) _).setCell (by simp; omega) _⟩
  · have hd : decide (k = 0 ∨ l = 0) = false := by simpa using hn
    have hr : Val.two0 12 ⟨k, i, s⟩ ⟨l, j, t⟩ = (Val.yes (Val.serves 12 (Val.cmp ⟨k, i, s⟩ ⟨l, j, t⟩)), 0) := if_neg hn
    rw [hr]
    clear hn hr
    generalize hcm : Val.cmp ⟨k, i, s⟩ ⟨l, j, t⟩ = c
    have HC := Lib.hid hcm
    clear hcm
    go_enter Tryd.func51, Tryd.ntmps51
    go_wp2_with (go_at_call 47; refine (anyNull_any _ _ _ _ _ _ _ hk hl).mono ?_; rintro e w1 ⟨rfl, hb⟩)
    have T1 := Lib.hid ((trio w _ _ _).kept hb)
    have S1 := trio_S hA T1.out
    obtain ⟨e0, e1, e2, e3, e4, e5, e6⟩ := S1
    clear hb
    go_wp2_with fail
    go_region_held3 (fun x => x.cell? ⟨A, 0, none⟩ = some (.func (.func 26) #[] #[]) ∧ x.cell? ⟨w.heap.size, 0, none⟩ = some (.int .u8 (k : Int)) ∧ x.cell? ⟨w.heap.size, 1, none⟩ = some (.int .i64 i) ∧ x.cell? ⟨w.heap.size, 2, none⟩ = some (.string s) ∧
        x.cell? ⟨w.heap.size + 1, 0, none⟩ = some (.int .u8 (l : Int)) ∧ x.cell? ⟨w.heap.size + 1, 1, none⟩ = some (.int .i64 j) ∧ x.cell? ⟨w.heap.size + 1, 2, none⟩ = some (.string t)) (first | exact ⟨e0, e1, e2, e3, e4, e5, e6⟩ | exact SS.out | exact trio_S_set hA T3.out _ _ _) ((first
      | (go_at_call 40; refine (cmp_any _ _ _ _ _ _ _).mono ?_; rintro e w2 ⟨rfl, hb2⟩; have T2 := Lib.hid (T1.out.kept (below_drew hb2)); have SS := Lib.hid (trio_S hA T2.out); rw [HC.out]; clear hb2)
      | (go_at_call 26; refine (holds_2 _ _).mono ?_; rintro e w' ⟨rfl, rfl⟩)
      | (go_at_call 52; refine (truth_any _ _).mono ?_; rintro e w3 ⟨rfl, hb3⟩; have T3 := Lib.hid (T2.out.kept hb3); clear SS; have SS := Lib.hid (trio_S hA T3.out); obtain ⟨⟨g0, g1, g2⟩, f0, f1, f2⟩ := trio_R T3.out; clear hb3)))
    have y2 := T3.out.size
    go_wp2
    exact bodyPost_ret (v := .tuple #[.agg #[.int .u8 1, .int .i64 (bitI (Val.serves 12 c)), .string ⟨#[]⟩], .int .i64 0]) (by simp [results, go_sem, g0, g1, g2]) rfl ⟨rfl, ((T3.out.below.setCell (by simp; omega) _).setCell (by simp; omega) _).setCell (by simp; omega) _⟩

set_option maxRecDepth 100000 in
set_option maxHeartbeats 4000000 in
theorem on_order3 (A k : Nat) (i : Int) (s : ByteArray) (l : Nat) (j : Int) (t : ByteArray) (w : World) (hk : k < 256) (hl : l < 256)
    (hA : w.cell? ⟨A, 0, none⟩ = some (.func (.func 27) #[] #[])) :
    Calls Tryd.prog 51 #[.agg #[.int .u8 (k : Int), .int .i64 i, .string s], .agg #[.int .u8 (l : Int), .int .i64 j, .string t], .pointer (some ⟨A, 0, none⟩)] w (Gives (Val.two0 13 ⟨k, i, s⟩ ⟨l, j, t⟩) w) := by
  have hAw : A < w.heap.size := World.block_lt_of_cell? w _ hA
  by_cases hn : k = 0 ∨ l = 0
  · have hd : decide (k = 0 ∨ l = 0) = true := by simpa using hn
    have hr : Val.two0 13 ⟨k, i, s⟩ ⟨l, j, t⟩ = (Val.nil, 0) := if_pos hn
    rw [hr]
    clear hn hr
    go_enter Tryd.func51, Tryd.ntmps51
    go_wp2_with (go_at_call 47; refine (anyNull_any _ _ _ _ _ _ _ hk hl).mono ?_; rintro e w1 ⟨rfl, hb⟩; obtain ⟨hc, hf⟩ := bcell hb; obtain ⟨z0, z1, z2⟩ := three_size hb)
    exact bodyPost_ret (v := .tuple #[.agg #[.int .u8 0, .int .i64 0, .string ⟨#[]⟩], .int .i64 0]) (by simp [results, go_sem, hc]) rfl ⟨rfl, (((below_three hb).setCell (by simp; omega) _).setCell (by simp; omega) _).setCell (by simp; omega) _⟩
  · have hd : decide (k = 0 ∨ l = 0) = false := by simpa using hn
    have hr : Val.two0 13 ⟨k, i, s⟩ ⟨l, j, t⟩ = (Val.yes (Val.serves 13 (Val.cmp ⟨k, i, s⟩ ⟨l, j, t⟩)), 0) := if_neg hn
    rw [hr]
    clear hn hr
    generalize hcm : Val.cmp ⟨k, i, s⟩ ⟨l, j, t⟩ = c
    have HC := Lib.hid hcm
    clear hcm
    go_enter Tryd.func51, Tryd.ntmps51
    go_wp2_with (go_at_call 47; refine (anyNull_any _ _ _ _ _ _ _ hk hl).mono ?_; rintro e w1 ⟨rfl, hb⟩)
    have T1 := Lib.hid ((trio w _ _ _).kept hb)
    have S1 := trio_S hA T1.out
    obtain ⟨e0, e1, e2, e3, e4, e5, e6⟩ := S1
    clear hb
    go_wp2_with fail
    go_region_held3 (fun x => x.cell? ⟨A, 0, none⟩ = some (.func (.func 27) #[] #[]) ∧ x.cell? ⟨w.heap.size, 0, none⟩ = some (.int .u8 (k : Int)) ∧ x.cell? ⟨w.heap.size, 1, none⟩ = some (.int .i64 i) ∧ x.cell? ⟨w.heap.size, 2, none⟩ = some (.string s) ∧
        x.cell? ⟨w.heap.size + 1, 0, none⟩ = some (.int .u8 (l : Int)) ∧ x.cell? ⟨w.heap.size + 1, 1, none⟩ = some (.int .i64 j) ∧ x.cell? ⟨w.heap.size + 1, 2, none⟩ = some (.string t)) (first | exact ⟨e0, e1, e2, e3, e4, e5, e6⟩ | exact SS.out | exact trio_S_set hA T3.out _ _ _) ((first
      | (go_at_call 40; refine (cmp_any _ _ _ _ _ _ _).mono ?_; rintro e w2 ⟨rfl, hb2⟩; have T2 := Lib.hid (T1.out.kept (below_drew hb2)); have SS := Lib.hid (trio_S hA T2.out); rw [HC.out]; clear hb2)
      | (go_at_call 27; refine (holds_3 _ _).mono ?_; rintro e w' ⟨rfl, rfl⟩)
      | (go_at_call 52; refine (truth_any _ _).mono ?_; rintro e w3 ⟨rfl, hb3⟩; have T3 := Lib.hid (T2.out.kept hb3); clear SS; have SS := Lib.hid (trio_S hA T3.out); obtain ⟨⟨g0, g1, g2⟩, f0, f1, f2⟩ := trio_R T3.out; clear hb3)))
    have y2 := T3.out.size
    go_wp2
    exact bodyPost_ret (v := .tuple #[.agg #[.int .u8 1, .int .i64 (bitI (Val.serves 13 c)), .string ⟨#[]⟩], .int .i64 0]) (by simp [results, go_sem, g0, g1, g2]) rfl ⟨rfl, ((T3.out.below.setCell (by simp; omega) _).setCell (by simp; omega) _).setCell (by simp; omega) _⟩

set_option maxRecDepth 100000 in
set_option maxHeartbeats 4000000 in
theorem on_order4 (A k : Nat) (i : Int) (s : ByteArray) (l : Nat) (j : Int) (t : ByteArray) (w : World) (hk : k < 256) (hl : l < 256)
    (hA : w.cell? ⟨A, 0, none⟩ = some (.func (.func 28) #[] #[])) :
    Calls Tryd.prog 51 #[.agg #[.int .u8 (k : Int), .int .i64 i, .string s], .agg #[.int .u8 (l : Int), .int .i64 j, .string t], .pointer (some ⟨A, 0, none⟩)] w (Gives (Val.two0 14 ⟨k, i, s⟩ ⟨l, j, t⟩) w) := by
  have hAw : A < w.heap.size := World.block_lt_of_cell? w _ hA
  by_cases hn : k = 0 ∨ l = 0
  · have hd : decide (k = 0 ∨ l = 0) = true := by simpa using hn
    have hr : Val.two0 14 ⟨k, i, s⟩ ⟨l, j, t⟩ = (Val.nil, 0) := if_pos hn
    rw [hr]
    clear hn hr
    go_enter Tryd.func51, Tryd.ntmps51
    go_wp2_with (go_at_call 47; refine (anyNull_any _ _ _ _ _ _ _ hk hl).mono ?_; rintro e w1 ⟨rfl, hb⟩; obtain ⟨hc, hf⟩ := bcell hb; obtain ⟨z0, z1, z2⟩ := three_size hb)
    exact bodyPost_ret (v := .tuple #[.agg #[.int .u8 0, .int .i64 0, .string ⟨#[]⟩], .int .i64 0]) (by simp [results, go_sem, hc]) rfl ⟨rfl, (((below_three hb).setCell (by simp; omega) _).setCell (by simp; omega) _).setCell (by simp; omega) _⟩
  · have hd : decide (k = 0 ∨ l = 0) = false := by simpa using hn
    have hr : Val.two0 14 ⟨k, i, s⟩ ⟨l, j, t⟩ = (Val.yes (Val.serves 14 (Val.cmp ⟨k, i, s⟩ ⟨l, j, t⟩)), 0) := if_neg hn
    rw [hr]
    clear hn hr
    generalize hcm : Val.cmp ⟨k, i, s⟩ ⟨l, j, t⟩ = c
    have HC := Lib.hid hcm
    clear hcm
    go_enter Tryd.func51, Tryd.ntmps51
    go_wp2_with (go_at_call 47; refine (anyNull_any _ _ _ _ _ _ _ hk hl).mono ?_; rintro e w1 ⟨rfl, hb⟩)
    have T1 := Lib.hid ((trio w _ _ _).kept hb)
    have S1 := trio_S hA T1.out
    obtain ⟨e0, e1, e2, e3, e4, e5, e6⟩ := S1
    clear hb
    go_wp2_with fail
    go_region_held3 (fun x => x.cell? ⟨A, 0, none⟩ = some (.func (.func 28) #[] #[]) ∧ x.cell? ⟨w.heap.size, 0, none⟩ = some (.int .u8 (k : Int)) ∧ x.cell? ⟨w.heap.size, 1, none⟩ = some (.int .i64 i) ∧ x.cell? ⟨w.heap.size, 2, none⟩ = some (.string s) ∧
        x.cell? ⟨w.heap.size + 1, 0, none⟩ = some (.int .u8 (l : Int)) ∧ x.cell? ⟨w.heap.size + 1, 1, none⟩ = some (.int .i64 j) ∧ x.cell? ⟨w.heap.size + 1, 2, none⟩ = some (.string t)) (first | exact ⟨e0, e1, e2, e3, e4, e5, e6⟩ | exact SS.out | exact trio_S_set hA T3.out _ _ _) ((first
      | (go_at_call 40; refine (cmp_any _ _ _ _ _ _ _).mono ?_; rintro e w2 ⟨rfl, hb2⟩; have T2 := Lib.hid (T1.out.kept (below_drew hb2)); have SS := Lib.hid (trio_S hA T2.out); rw [HC.out]; clear hb2)
      | (go_at_call 28; refine (holds_4 _ _).mono ?_; rintro e w' ⟨rfl, rfl⟩)
      | (go_at_call 52; refine (truth_any _ _).mono ?_; rintro e w3 ⟨rfl, hb3⟩; have T3 := Lib.hid (T2.out.kept hb3); clear SS; have SS := Lib.hid (trio_S hA T3.out); obtain ⟨⟨g0, g1, g2⟩, f0, f1, f2⟩ := trio_R T3.out; clear hb3)))
    have y2 := T3.out.size
    go_wp2
    exact bodyPost_ret (v := .tuple #[.agg #[.int .u8 1, .int .i64 (bitI (Val.serves 14 c)), .string ⟨#[]⟩], .int .i64 0]) (by simp [results, go_sem, g0, g1, g2]) rfl ⟨rfl, ((T3.out.below.setCell (by simp; omega) _).setCell (by simp; omega) _).setCell (by simp; omega) _⟩

set_option maxRecDepth 100000 in
set_option maxHeartbeats 4000000 in
theorem on_order5 (A k : Nat) (i : Int) (s : ByteArray) (l : Nat) (j : Int) (t : ByteArray) (w : World) (hk : k < 256) (hl : l < 256)
    (hA : w.cell? ⟨A, 0, none⟩ = some (.func (.func 29) #[] #[])) :
    Calls Tryd.prog 51 #[.agg #[.int .u8 (k : Int), .int .i64 i, .string s], .agg #[.int .u8 (l : Int), .int .i64 j, .string t], .pointer (some ⟨A, 0, none⟩)] w (Gives (Val.two0 15 ⟨k, i, s⟩ ⟨l, j, t⟩) w) := by
  have hAw : A < w.heap.size := World.block_lt_of_cell? w _ hA
  by_cases hn : k = 0 ∨ l = 0
  · have hd : decide (k = 0 ∨ l = 0) = true := by simpa using hn
    have hr : Val.two0 15 ⟨k, i, s⟩ ⟨l, j, t⟩ = (Val.nil, 0) := if_pos hn
    rw [hr]
    clear hn hr
    go_enter Tryd.func51, Tryd.ntmps51
    go_wp2_with (go_at_call 47; refine (anyNull_any _ _ _ _ _ _ _ hk hl).mono ?_; rintro e w1 ⟨rfl, hb⟩; obtain ⟨hc, hf⟩ := bcell hb; obtain ⟨z0, z1, z2⟩ := three_size hb)
    exact bodyPost_ret (v := .tuple #[.agg #[.int .u8 0, .int .i64 0, .string ⟨#[]⟩], .int .i64 0]) (by simp [results, go_sem, hc]) rfl ⟨rfl, (((below_three hb).setCell (by simp; omega) _).setCell (by simp; omega) _).setCell (by simp; omega) _⟩
  · have hd : decide (k = 0 ∨ l = 0) = false := by simpa using hn
    have hr : Val.two0 15 ⟨k, i, s⟩ ⟨l, j, t⟩ = (Val.yes (Val.serves 15 (Val.cmp ⟨k, i, s⟩ ⟨l, j, t⟩)), 0) := if_neg hn
    rw [hr]
    clear hn hr
    generalize hcm : Val.cmp ⟨k, i, s⟩ ⟨l, j, t⟩ = c
    have HC := Lib.hid hcm
    clear hcm
    go_enter Tryd.func51, Tryd.ntmps51
    go_wp2_with (go_at_call 47; refine (anyNull_any _ _ _ _ _ _ _ hk hl).mono ?_; rintro e w1 ⟨rfl, hb⟩)
    have T1 := Lib.hid ((trio w _ _ _).kept hb)
    have S1 := trio_S hA T1.out
    obtain ⟨e0, e1, e2, e3, e4, e5, e6⟩ := S1
    clear hb
    go_wp2_with fail
    go_region_held3 (fun x => x.cell? ⟨A, 0, none⟩ = some (.func (.func 29) #[] #[]) ∧ x.cell? ⟨w.heap.size, 0, none⟩ = some (.int .u8 (k : Int)) ∧ x.cell? ⟨w.heap.size, 1, none⟩ = some (.int .i64 i) ∧ x.cell? ⟨w.heap.size, 2, none⟩ = some (.string s) ∧
        x.cell? ⟨w.heap.size + 1, 0, none⟩ = some (.int .u8 (l : Int)) ∧ x.cell? ⟨w.heap.size + 1, 1, none⟩ = some (.int .i64 j) ∧ x.cell? ⟨w.heap.size + 1, 2, none⟩ = some (.string t)) (first | exact ⟨e0, e1, e2, e3, e4, e5, e6⟩ | exact SS.out | exact trio_S_set hA T3.out _ _ _) ((first
      | (go_at_call 40; refine (cmp_any _ _ _ _ _ _ _).mono ?_; rintro e w2 ⟨rfl, hb2⟩; have T2 := Lib.hid (T1.out.kept (below_drew hb2)); have SS := Lib.hid (trio_S hA T2.out); rw [HC.out]; clear hb2)
      | (go_at_call 29; refine (holds_5 _ _).mono ?_; rintro e w' ⟨rfl, rfl⟩)
      | (go_at_call 52; refine (truth_any _ _).mono ?_; rintro e w3 ⟨rfl, hb3⟩; have T3 := Lib.hid (T2.out.kept hb3); clear SS; have SS := Lib.hid (trio_S hA T3.out); obtain ⟨⟨g0, g1, g2⟩, f0, f1, f2⟩ := trio_R T3.out; clear hb3)))
    have y2 := T3.out.size
    go_wp2
    exact bodyPost_ret (v := .tuple #[.agg #[.int .u8 1, .int .i64 (bitI (Val.serves 15 c)), .string ⟨#[]⟩], .int .i64 0]) (by simp [results, go_sem, g0, g1, g2]) rfl ⟨rfl, ((T3.out.below.setCell (by simp; omega) _).setCell (by simp; omega) _).setCell (by simp; omega) _⟩

set_option maxRecDepth 100000 in
set_option maxHeartbeats 4000000 in
theorem on_order6 (A k : Nat) (i : Int) (s : ByteArray) (l : Nat) (j : Int) (t : ByteArray) (w : World) (hk : k < 256) (hl : l < 256)
    (hA : w.cell? ⟨A, 0, none⟩ = some (.func (.func 30) #[] #[])) :
    Calls Tryd.prog 51 #[.agg #[.int .u8 (k : Int), .int .i64 i, .string s], .agg #[.int .u8 (l : Int), .int .i64 j, .string t], .pointer (some ⟨A, 0, none⟩)] w (Gives (Val.two0 16 ⟨k, i, s⟩ ⟨l, j, t⟩) w) := by
  have hAw : A < w.heap.size := World.block_lt_of_cell? w _ hA
  by_cases hn : k = 0 ∨ l = 0
  · have hd : decide (k = 0 ∨ l = 0) = true := by simpa using hn
    have hr : Val.two0 16 ⟨k, i, s⟩ ⟨l, j, t⟩ = (Val.nil, 0) := if_pos hn
    rw [hr]
    clear hn hr
    go_enter Tryd.func51, Tryd.ntmps51
    go_wp2_with (go_at_call 47; refine (anyNull_any _ _ _ _ _ _ _ hk hl).mono ?_; rintro e w1 ⟨rfl, hb⟩; obtain ⟨hc, hf⟩ := bcell hb; obtain ⟨z0, z1, z2⟩ := three_size hb)
    exact bodyPost_ret (v := .tuple #[.agg #[.int .u8 0, .int .i64 0, .string ⟨#[]⟩], .int .i64 0]) (by simp [results, go_sem, hc]) rfl ⟨rfl, (((below_three hb).setCell (by simp; omega) _).setCell (by simp; omega) _).setCell (by simp; omega) _⟩
  · have hd : decide (k = 0 ∨ l = 0) = false := by simpa using hn
    have hr : Val.two0 16 ⟨k, i, s⟩ ⟨l, j, t⟩ = (Val.yes (Val.serves 16 (Val.cmp ⟨k, i, s⟩ ⟨l, j, t⟩)), 0) := if_neg hn
    rw [hr]
    clear hn hr
    generalize hcm : Val.cmp ⟨k, i, s⟩ ⟨l, j, t⟩ = c
    have HC := Lib.hid hcm
    clear hcm
    go_enter Tryd.func51, Tryd.ntmps51
    go_wp2_with (go_at_call 47; refine (anyNull_any _ _ _ _ _ _ _ hk hl).mono ?_; rintro e w1 ⟨rfl, hb⟩)
    have T1 := Lib.hid ((trio w _ _ _).kept hb)
    have S1 := trio_S hA T1.out
    obtain ⟨e0, e1, e2, e3, e4, e5, e6⟩ := S1
    clear hb
    go_wp2_with fail
    go_region_held3 (fun x => x.cell? ⟨A, 0, none⟩ = some (.func (.func 30) #[] #[]) ∧ x.cell? ⟨w.heap.size, 0, none⟩ = some (.int .u8 (k : Int)) ∧ x.cell? ⟨w.heap.size, 1, none⟩ = some (.int .i64 i) ∧ x.cell? ⟨w.heap.size, 2, none⟩ = some (.string s) ∧
        x.cell? ⟨w.heap.size + 1, 0, none⟩ = some (.int .u8 (l : Int)) ∧ x.cell? ⟨w.heap.size + 1, 1, none⟩ = some (.int .i64 j) ∧ x.cell? ⟨w.heap.size + 1, 2, none⟩ = some (.string t)) (first | exact ⟨e0, e1, e2, e3, e4, e5, e6⟩ | exact SS.out | exact trio_S_set hA T3.out _ _ _) ((first
      | (go_at_call 40; refine (cmp_any _ _ _ _ _ _ _).mono ?_; rintro e w2 ⟨rfl, hb2⟩; have T2 := Lib.hid (T1.out.kept (below_drew hb2)); have SS := Lib.hid (trio_S hA T2.out); rw [HC.out]; clear hb2)
      | (go_at_call 30; refine (holds_6 _ _).mono ?_; rintro e w' ⟨rfl, rfl⟩)
      | (go_at_call 52; refine (truth_any _ _).mono ?_; rintro e w3 ⟨rfl, hb3⟩; have T3 := Lib.hid (T2.out.kept hb3); clear SS; have SS := Lib.hid (trio_S hA T3.out); obtain ⟨⟨g0, g1, g2⟩, f0, f1, f2⟩ := trio_R T3.out; clear hb3)))
    have y2 := T3.out.size
    go_wp2
    exact bodyPost_ret (v := .tuple #[.agg #[.int .u8 1, .int .i64 (bitI (Val.serves 16 c)), .string ⟨#[]⟩], .int .i64 0]) (by simp [results, go_sem, g0, g1, g2]) rfl ⟨rfl, ((T3.out.below.setCell (by simp; omega) _).setCell (by simp; omega) _).setCell (by simp; omega) _⟩

end Go.Proofs.YtjjfmmimmfihgaaDoor