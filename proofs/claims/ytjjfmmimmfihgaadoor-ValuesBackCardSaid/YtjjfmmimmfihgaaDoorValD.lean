/-
  WHAT IS PROVED: contracts of the operators on numbers.
-/
import Derived.Test.YtjjfmmimmfihgaaDoorValC
namespace Go.Proofs.YtjjfmmimmfihgaaDoor
open Go.RowKit Go.Lib

/-- what an operator hands back -/
def Gives (r : Val × Nat) (w : World) (e : Ending) (w' : World) : Prop :=
  e = .returned (.tuple #[.agg #[.int .u8 (r.1.k : Int), .int .i64 r.1.i, .string r.1.s], .int .i64 (r.2 : Int)]) ∧ Below w.heap.size w w'

theorem below_three {w w' : World} {a b c : Obj} (h : Below (((w.alloc a).alloc b).alloc c).heap.size (((w.alloc a).alloc b).alloc c) w') : Below w.heap.size w w' :=
  (((below_alloc w a).alloc (by simp) b).alloc (by simp; omega) c).trans (h.mono (by simp; omega))
theorem three_size {w w' : World} {a b c : Obj} (h : Below (((w.alloc a).alloc b).alloc c).heap.size (((w.alloc a).alloc b).alloc c) w') : w.heap.size < w'.heap.size ∧ w.heap.size + 1 < w'.heap.size ∧ w.heap.size + 1 + 1 < w'.heap.size := by
  have := h.size
  simp at this
  omega
theorem below_two {w w' : World} {a b : Obj} (h : Below ((w.alloc a).alloc b).heap.size ((w.alloc a).alloc b) w') : Below w.heap.size w w' :=
  ((below_alloc w a).alloc (by simp) b).trans (h.mono (by simp; omega))
theorem below_three0 (w : World) (a b c : Obj) : Below w.heap.size w (((w.alloc a).alloc b).alloc c) := ((below_alloc w a).alloc (by simp) b).alloc (by simp; omega) c

set_option maxRecDepth 100000 in
set_option maxHeartbeats 2000000 in
theorem on_sum (A k : Nat) (i : Int) (s : ByteArray) (l : Nat) (j : Int) (t : ByteArray) (w : World) (hk : k < 256) (hl : l < 256) (i0 : -9223372036854775808 ≤ i) (i1 : i ≤ 9223372036854775807) (j0 : -9223372036854775808 ≤ j) (j1 : j ≤ 9223372036854775807)
    (hA : w.cell? ⟨A, 0, none⟩ = some (.func (.func 18) #[] #[])) :
    Calls Tryd.prog 46 #[.agg #[.int .u8 (k : Int), .int .i64 i, .string s], .agg #[.int .u8 (l : Int), .int .i64 j, .string t], .pointer (some ⟨A, 0, none⟩)] w (Gives (Val.two0 5 ⟨k, i, s⟩ ⟨l, j, t⟩) w) := by
  have hAw : A < w.heap.size := World.block_lt_of_cell? w _ hA
  by_cases hn : k = 0 ∨ l = 0
  · have hd : decide (k = 0 ∨ l = 0) = true := by simpa using hn
    have hr : Val.two0 5 ⟨k, i, s⟩ ⟨l, j, t⟩ = (Val.nil, 0) := if_pos hn
    rw [hr]
    clear hn hr
    go_enter Tryd.func46, Tryd.ntmps46
    go_wp2_with (go_at_call 47; refine (anyNull_any _ _ _ _ _ _ _ hk hl).mono ?_; rintro e w1 ⟨rfl, hb⟩; obtain ⟨hc, hf⟩ := bcell hb; obtain ⟨z0, z1, z2⟩ := three_size hb; have z3 := Nat.lt_trans hAw z0; have hA1 := ((below_three hb).cell (p := ⟨A, 0, none⟩) hAw).trans hA)
    exact bodyPost_ret (v := .tuple #[.agg #[.int .u8 0, .int .i64 0, .string ⟨#[]⟩], .int .i64 0]) (by simp [results, go_sem, hc]) rfl ⟨rfl, (((below_three hb).setCell (by simp; omega) _).setCell (by simp; omega) _).setCell (by simp; omega) _⟩
  · have hd : decide (k = 0 ∨ l = 0) = false := by simpa using hn
    by_cases ht : k = 2 ∨ l = 2
    · have hd2 : decide (k = 2 ∨ l = 2) = true := by simpa using ht
      have hr : Val.two0 5 ⟨k, i, s⟩ ⟨l, j, t⟩ = (Val.nil, 11) := (if_neg hn).trans (if_pos ht)
      rw [hr]
      clear hn hr ht
      go_enter Tryd.func46, Tryd.ntmps46
      go_wp2_with (first | (go_at_call 47; refine (anyNull_any _ _ _ _ _ _ _ hk hl).mono ?_; rintro e w1 ⟨rfl, hb⟩; obtain ⟨hc, hf⟩ := bcell hb; obtain ⟨z0, z1, z2⟩ := three_size hb; have z3 := Nat.lt_trans hAw z0; have hA1 := ((below_three hb).cell (p := ⟨A, 0, none⟩) hAw).trans hA) | (go_at_call 48; refine (anyText_any _ _ _ _ _ _ _ hk hl).mono ?_; rintro e w2 ⟨rfl, hb2⟩; obtain ⟨hc2, hf2⟩ := bcell hb2; have y0 := Nat.lt_of_lt_of_le z0 hb2.size; have y1 := Nat.lt_of_lt_of_le z1 hb2.size; have y2 := Nat.lt_of_lt_of_le z2 hb2.size; have y3 := Nat.lt_of_lt_of_le z3 hb2.size))
      exact bodyPost_ret (v := .tuple #[.agg #[.int .u8 0, .int .i64 0, .string ⟨#[]⟩], .int .i64 11]) (by simp [results, go_sem, hc, z2, hc2]) rfl ⟨rfl, (((below_next (below_three hb) hb2).setCell (by simp; omega) _).setCell (by simp; omega) _).setCell (by simp; omega) _⟩
    · have hd2 : decide (k = 2 ∨ l = 2) = false := by simpa using ht
      have hr : Val.two0 5 ⟨k, i, s⟩ ⟨l, j, t⟩ = if (Val.reckon 5 i j).2 = 0 then (Val.num (Val.reckon 5 i j).1, 0) else (Val.nil, (Val.reckon 5 i j).2) := (if_neg hn).trans (if_neg ht)
      rw [hr]
      clear hn hr ht
      have hcall := fun w => sum_any i j w i0 i1 j0 j1
      generalize Val.reckon 5 i j = r at *
      obtain ⟨n, er⟩ := r
      by_cases he : er = 0
      · subst he
        rw [if_pos rfl]
        go_enter Tryd.func46, Tryd.ntmps46
        go_wp2_with (first | (go_at_call 47; refine (anyNull_any _ _ _ _ _ _ _ hk hl).mono ?_; rintro e w1 ⟨rfl, hb⟩; obtain ⟨hc, hf⟩ := bcell hb; obtain ⟨z0, z1, z2⟩ := three_size hb; have z3 := Nat.lt_trans hAw z0; have hA1 := ((below_three hb).cell (p := ⟨A, 0, none⟩) hAw).trans hA) | (go_at_call 48; refine (anyText_any _ _ _ _ _ _ _ hk hl).mono ?_; rintro e w2 ⟨rfl, hb2⟩; obtain ⟨hc2, hf2⟩ := bcell hb2; have y0 := Nat.lt_of_lt_of_le z0 hb2.size; have y1 := Nat.lt_of_lt_of_le z1 hb2.size; have y2 := Nat.lt_of_lt_of_le z2 hb2.size; have y3 := Nat.lt_of_lt_of_le z3 hb2.size) | (go_at_call 18; refine (hcall _).mono ?_; rintro e w' ⟨rfl, rfl⟩) | (go_at_call 49; refine (integer_any _ _).mono ?_; rintro e w3 ⟨rfl, hb3⟩; obtain ⟨hc3, hf3⟩ := bcell hb3; have x2 := Nat.lt_of_lt_of_le y2 hb3.size))
        exact bodyPost_ret (v := .tuple #[.agg #[.int .u8 1, .int .i64 n, .string ⟨#[]⟩], .int .i64 0]) (by simp [results, go_sem, hc, z2, hc2, y2, hc3]) rfl ⟨rfl, (((below_next (below_next (below_three hb) hb2) hb3).setCell (by simp; omega) _).setCell (by simp; omega) _).setCell (by simp; omega) _⟩
      · rw [if_neg (by exact he)]
        have he2 : ((er : Int) == 0) = false := by rw [beq_eq_false_iff_ne]; omega
        clear he
        go_enter Tryd.func46, Tryd.ntmps46
        go_wp2_with (first | (go_at_call 47; refine (anyNull_any _ _ _ _ _ _ _ hk hl).mono ?_; rintro e w1 ⟨rfl, hb⟩; obtain ⟨hc, hf⟩ := bcell hb; obtain ⟨z0, z1, z2⟩ := three_size hb; have z3 := Nat.lt_trans hAw z0; have hA1 := ((below_three hb).cell (p := ⟨A, 0, none⟩) hAw).trans hA) | (go_at_call 48; refine (anyText_any _ _ _ _ _ _ _ hk hl).mono ?_; rintro e w2 ⟨rfl, hb2⟩; obtain ⟨hc2, hf2⟩ := bcell hb2; have y0 := Nat.lt_of_lt_of_le z0 hb2.size; have y1 := Nat.lt_of_lt_of_le z1 hb2.size; have y2 := Nat.lt_of_lt_of_le z2 hb2.size; have y3 := Nat.lt_of_lt_of_le z3 hb2.size) | (go_at_call 18; refine (hcall _).mono ?_; rintro e w' ⟨rfl, rfl⟩))
        exact bodyPost_ret (v := .tuple #[.agg #[.int .u8 0, .int .i64 0, .string ⟨#[]⟩], .int .i64 er]) (by simp [results, go_sem, hc, z2, hc2]) rfl ⟨rfl, (((below_next (below_three hb) hb2).setCell (by simp; omega) _).setCell (by simp; omega) _).setCell (by simp; omega) _⟩

set_option maxRecDepth 100000 in
set_option maxHeartbeats 2000000 in
theorem on_difference (A k : Nat) (i : Int) (s : ByteArray) (l : Nat) (j : Int) (t : ByteArray) (w : World) (hk : k < 256) (hl : l < 256) (i0 : -9223372036854775808 ≤ i) (i1 : i ≤ 9223372036854775807) (j0 : -9223372036854775808 ≤ j) (j1 : j ≤ 9223372036854775807)
    (hA : w.cell? ⟨A, 0, none⟩ = some (.func (.func 19) #[] #[])) :
    Calls Tryd.prog 46 #[.agg #[.int .u8 (k : Int), .int .i64 i, .string s], .agg #[.int .u8 (l : Int), .int .i64 j, .string t], .pointer (some ⟨A, 0, none⟩)] w (Gives (Val.two0 6 ⟨k, i, s⟩ ⟨l, j, t⟩) w) := by
  have hAw : A < w.heap.size := World.block_lt_of_cell? w _ hA
  by_cases hn : k = 0 ∨ l = 0
  · have hd : decide (k = 0 ∨ l = 0) = true := by simpa using hn
    have hr : Val.two0 6 ⟨k, i, s⟩ ⟨l, j, t⟩ = (Val.nil, 0) := if_pos hn
    rw [hr]
    clear hn hr
    go_enter Tryd.func46, Tryd.ntmps46
    go_wp2_with (go_at_call 47; refine (anyNull_any _ _ _ _ _ _ _ hk hl).mono ?_; rintro e w1 ⟨rfl, hb⟩; obtain ⟨hc, hf⟩ := bcell hb; obtain ⟨z0, z1, z2⟩ := three_size hb; have z3 := Nat.lt_trans hAw z0; have hA1 := ((below_three hb).cell (p := ⟨A, 0, none⟩) hAw).trans hA)
    exact bodyPost_ret (v := .tuple #[.agg #[.int .u8 0, .int .i64 0, .string ⟨#[]⟩], .int .i64 0]) (by simp [results, go_sem, hc]) rfl ⟨rfl, (((below_three hb).setCell (by simp; omega) _).setCell (by simp; omega) _).setCell (by simp; omega) _⟩
  · have hd : decide (k = 0 ∨ l = 0) = false := by simpa using hn
    by_cases ht : k = 2 ∨ l = 2
    · have hd2 : decide (k = 2 ∨ l = 2) = true := by simpa using ht
      have hr : Val.two0 6 ⟨k, i, s⟩ ⟨l, j, t⟩ = (Val.nil, 11) := (if_neg hn).trans (if_pos ht)
      rw [hr]
      clear hn hr ht
      go_enter Tryd.func46, Tryd.ntmps46
      go_wp2_with (first | (go_at_call 47; refine (anyNull_any _ _ _ _ _ _ _ hk hl).mono ?_; rintro e w1 ⟨rfl, hb⟩; obtain ⟨hc, hf⟩ := bcell hb; obtain ⟨z0, z1, z2⟩ := three_size hb; have z3 := Nat.lt_trans hAw z0; have hA1 := ((below_three hb).cell (p := ⟨A, 0, none⟩) hAw).trans hA) | (go_at_call 48; refine (anyText_any _ _ _ _ _ _ _ hk hl).mono ?_; rintro e w2 ⟨rfl, hb2⟩; obtain ⟨hc2, hf2⟩ := bcell hb2; have y0 := Nat.lt_of_lt_of_le z0 hb2.size; have y1 := Nat.lt_of_lt_of_le z1 hb2.size; have y2 := Nat.lt_of_lt_of_le z2 hb2.size; have y3 := Nat.lt_of_lt_of_le z3 hb2.size))
      exact bodyPost_ret (v := .tuple #[.agg #[.int .u8 0, .int .i64 0, .string ⟨#[]⟩], .int .i64 11]) (by simp [results, go_sem, hc, z2, hc2]) rfl ⟨rfl, (((below_next (below_three hb) hb2).setCell (by simp; omega) _).setCell (by simp; omega) _).setCell (by simp; omega) _⟩
    · have hd2 : decide (k = 2 ∨ l = 2) = false := by simpa using ht
      have hr : Val.two0 6 ⟨k, i, s⟩ ⟨l, j, t⟩ = if (Val.reckon 6 i j).2 = 0 then (Val.num (Val.reckon 6 i j).1, 0) else (Val.nil, (Val.reckon 6 i j).2) := (if_neg hn).trans (if_neg ht)
      rw [hr]
      clear hn hr ht
      have hcall := fun w => difference_any i j w i0 i1 j0 j1
      generalize Val.reckon 6 i j = r at *
      obtain ⟨n, er⟩ := r
      by_cases he : er = 0
      · subst he
        rw [if_pos rfl]
        go_enter Tryd.func46, Tryd.ntmps46
        go_wp2_with (first | (go_at_call 47; refine (anyNull_any _ _ _ _ _ _ _ hk hl).mono ?_; rintro e w1 ⟨rfl, hb⟩; obtain ⟨hc, hf⟩ := bcell hb; obtain ⟨z0, z1, z2⟩ := three_size hb; have z3 := Nat.lt_trans hAw z0; have hA1 := ((below_three hb).cell (p := ⟨A, 0, none⟩) hAw).trans hA) | (go_at_call 48; refine (anyText_any _ _ _ _ _ _ _ hk hl).mono ?_; rintro e w2 ⟨rfl, hb2⟩; obtain ⟨hc2, hf2⟩ := bcell hb2; have y0 := Nat.lt_of_lt_of_le z0 hb2.size; have y1 := Nat.lt_of_lt_of_le z1 hb2.size; have y2 := Nat.lt_of_lt_of_le z2 hb2.size; have y3 := Nat.lt_of_lt_of_le z3 hb2.size) | (go_at_call 19; refine (hcall _).mono ?_; rintro e w' ⟨rfl, rfl⟩) | (go_at_call 49; refine (integer_any _ _).mono ?_; rintro e w3 ⟨rfl, hb3⟩; obtain ⟨hc3, hf3⟩ := bcell hb3; have x2 := Nat.lt_of_lt_of_le y2 hb3.size))
        exact bodyPost_ret (v := .tuple #[.agg #[.int .u8 1, .int .i64 n, .string ⟨#[]⟩], .int .i64 0]) (by simp [results, go_sem, hc, z2, hc2, y2, hc3]) rfl ⟨rfl, (((below_next (below_next (below_three hb) hb2) hb3).setCell (by simp; omega) _).setCell (by simp; omega) _).setCell (by simp; omega) _⟩
      · rw [if_neg (by exact he)]
        have he2 : ((er : Int) == 0) = false := by rw [beq_eq_false_iff_ne]; omega
        clear he
        go_enter Tryd.func46, Tryd.ntmps46
        go_wp2_with (first | (go_at_call 47; refine (anyNull_any _ _ _ _ _ _ _ hk hl).mono ?_; rintro e w1 ⟨rfl, hb⟩; obtain ⟨hc, hf⟩ := bcell hb; obtain ⟨z0, z1, z2⟩ := three_size hb; have z3 := Nat.lt_trans hAw z0; have hA1 := ((below_three hb).cell (p := ⟨A, 0, none⟩) hAw).trans hA) | (go_at_call 48; refine (anyText_any _ _ _ _ _ _ _ hk hl).mono ?_; rintro e w2 ⟨rfl, hb2⟩; obtain ⟨hc2, hf2⟩ := bcell hb2; have y0 := Nat.lt_of_lt_of_le z0 hb2.size; have y1 := Nat.lt_of_lt_of_le z1 hb2.size; have y2 := Nat.lt_of_lt_of_le z2 hb2.size; have y3 := Nat.lt_of_lt_of_le z3 hb2.size) | (go_at_call 19; refine (hcall _).mono ?_; rintro e w' ⟨rfl, rfl⟩))
        exact bodyPost_ret (v := .tuple #[.agg #[.int .u8 0, .int .i64 0, .string ⟨#[]⟩], .int .i64 er]) (by simp [results, go_sem, hc, z2, hc2]) rfl ⟨rfl, (((below_next (below_three hb) hb2).setCell (by simp; omega) _).setCell (by simp; omega) _).setCell (by simp; omega) _⟩

set_option maxRecDepth 100000 in
set_option maxHeartbeats 2000000 in
theorem on_product (A k : Nat) (i : Int) (s : ByteArray) (l : Nat) (j : Int) (t : ByteArray) (w : World) (hk : k < 256) (hl : l < 256) (i0 : -9223372036854775808 ≤ i) (i1 : i ≤ 9223372036854775807) (j0 : -9223372036854775808 ≤ j) (j1 : j ≤ 9223372036854775807)
    (hA : w.cell? ⟨A, 0, none⟩ = some (.func (.func 20) #[] #[])) :
    Calls Tryd.prog 46 #[.agg #[.int .u8 (k : Int), .int .i64 i, .string s], .agg #[.int .u8 (l : Int), .int .i64 j, .string t], .pointer (some ⟨A, 0, none⟩)] w (Gives (Val.two0 7 ⟨k, i, s⟩ ⟨l, j, t⟩) w) := by
  have hAw : A < w.heap.size := World.block_lt_of_cell? w _ hA
  by_cases hn : k = 0 ∨ l = 0
  · have hd : decide (k = 0 ∨ l = 0) = true := by simpa using hn
    have hr : Val.two0 7 ⟨k, i, s⟩ ⟨l, j, t⟩ = (Val.nil, 0) := if_pos hn
    rw [hr]
    clear hn hr
    go_enter Tryd.func46, Tryd.ntmps46
    go_wp2_with (go_at_call 47; refine (anyNull_any _ _ _ _ _ _ _ hk hl).mono ?_; rintro e w1 ⟨rfl, hb⟩; obtain ⟨hc, hf⟩ := bcell hb; obtain ⟨z0, z1, z2⟩ := three_size hb; have z3 := Nat.lt_trans hAw z0; have hA1 := ((below_three hb).cell (p := ⟨A, 0, none⟩) hAw).trans hA)
    exact bodyPost_ret (v := .tuple #[.agg #[.int .u8 0, .int .i64 0, .string ⟨#[]⟩], .int .i64 0]) (by simp [results, go_sem, hc]) rfl ⟨rfl, (((below_three hb).setCell (by simp; omega) _).setCell (by simp; omega) _).setCell (by simp; omega) _⟩
  · have hd : decide (k = 0 ∨ l = 0) = false := by simpa using hn
    by_cases ht : k = 2 ∨ l = 2
    · have hd2 : decide (k = 2 ∨ l = 2) = true := by simpa using ht
      have hr : Val.two0 7 ⟨k, i, s⟩ ⟨l, j, t⟩ = (Val.nil, 11) := (if_neg hn).trans (if_pos ht)
      rw [hr]
      clear hn hr ht
      go_enter Tryd.func46, Tryd.ntmps46
      go_wp2_with (first | (go_at_call 47; refine (anyNull_any _ _ _ _ _ _ _ hk hl).mono ?_; rintro e w1 ⟨rfl, hb⟩; obtain ⟨hc, hf⟩ := bcell hb; obtain ⟨z0, z1, z2⟩ := three_size hb; have z3 := Nat.lt_trans hAw z0; have hA1 := ((below_three hb).cell (p := ⟨A, 0, none⟩) hAw).trans hA) | (go_at_call 48; refine (anyText_any _ _ _ _ _ _ _ hk hl).mono ?_; rintro e w2 ⟨rfl, hb2⟩; obtain ⟨hc2, hf2⟩ := bcell hb2; have y0 := Nat.lt_of_lt_of_le z0 hb2.size; have y1 := Nat.lt_of_lt_of_le z1 hb2.size; have y2 := Nat.lt_of_lt_of_le z2 hb2.size; have y3 := Nat.lt_of_lt_of_le z3 hb2.size))
      exact bodyPost_ret (v := .tuple #[.agg #[.int .u8 0, .int .i64 0, .string ⟨#[]⟩], .int .i64 11]) (by simp [results, go_sem, hc, z2, hc2]) rfl ⟨rfl, (((below_next (below_three hb) hb2).setCell (by simp; omega) _).setCell (by simp; omega) _).setCell (by simp; omega) _⟩
    · have hd2 : decide (k = 2 ∨ l = 2) = false := by simpa using ht
      have hr : Val.two0 7 ⟨k, i, s⟩ ⟨l, j, t⟩ = if (Val.reckon 7 i j).2 = 0 then (Val.num (Val.reckon 7 i j).1, 0) else (Val.nil, (Val.reckon 7 i j).2) := (if_neg hn).trans (if_neg ht)
      rw [hr]
      clear hn hr ht
      have hcall := fun w => product_any i j w i0 i1 j0 j1
      generalize Val.reckon 7 i j = r at *
      obtain ⟨n, er⟩ := r
      by_cases he : er = 0
      · subst he
        rw [if_pos rfl]
        go_enter Tryd.func46, Tryd.ntmps46
        go_wp2_with (first | (go_at_call 47; refine (anyNull_any _ _ _ _ _ _ _ hk hl).mono ?_; rintro e w1 ⟨rfl, hb⟩; obtain ⟨hc, hf⟩ := bcell hb; obtain ⟨z0, z1, z2⟩ := three_size hb; have z3 := Nat.lt_trans hAw z0; have hA1 := ((below_three hb).cell (p := ⟨A, 0, none⟩) hAw).trans hA) | (go_at_call 48; refine (anyText_any _ _ _ _ _ _ _ hk hl).mono ?_; rintro e w2 ⟨rfl, hb2⟩; obtain ⟨hc2, hf2⟩ := bcell hb2; have y0 := Nat.lt_of_lt_of_le z0 hb2.size; have y1 := Nat.lt_of_lt_of_le z1 hb2.size; have y2 := Nat.lt_of_lt_of_le z2 hb2.size; have y3 := Nat.lt_of_lt_of_le z3 hb2.size) | (go_at_call 20; refine (hcall _).mono ?_; rintro e w' ⟨rfl, rfl⟩) | (go_at_call 49; refine (integer_any _ _).mono ?_; rintro e w3 ⟨rfl, hb3⟩; obtain ⟨hc3, hf3⟩ := bcell hb3; have x2 := Nat.lt_of_lt_of_le y2 hb3.size))
        exact bodyPost_ret (v := .tuple #[.agg #[.int .u8 1, .int .i64 n, .string ⟨#[]⟩], .int .i64 0]) (by simp [results, go_sem, hc, z2, hc2, y2, hc3]) rfl ⟨rfl, (((below_next (below_next (below_three hb) hb2) hb3).setCell (by simp; omega) _).setCell (by simp; omega) _).setCell (by simp; omega) _⟩
      · rw [if_neg (by exact he)]
        have he2 : ((er : Int) == 0) = false := by rw [beq_eq_false_iff_ne]; omega
        clear he
        go_enter Tryd.func46, Tryd.ntmps46
        go_wp2_with (first | (go_at_call 47; refine (anyNull_any _ _ _ _ _ _ _ hk hl).mono ?_; rintro e w1 ⟨rfl, hb⟩; obtain ⟨hc, hf⟩ := bcell hb; obtain ⟨z0, z1, z2⟩ := three_size hb; have z3 := Nat.lt_trans hAw z0; have hA1 := ((below_three hb).cell (p := ⟨A, 0, none⟩) hAw).trans hA) | (go_at_call 48; refine (anyText_any _ _ _ _ _ _ _ hk hl).mono ?_; rintro e w2 ⟨rfl, hb2⟩; obtain ⟨hc2, hf2⟩ := bcell hb2; have y0 := Nat.lt_of_lt_of_le z0 hb2.size; have y1 := Nat.lt_of_lt_of_le z1 hb2.size; have y2 := Nat.lt_of_lt_of_le z2 hb2.size; have y3 := Nat.lt_of_lt_of_le z3 hb2.size) | (go_at_call 20; refine (hcall _).mono ?_; rintro e w' ⟨rfl, rfl⟩))
        exact bodyPost_ret (v := .tuple #[.agg #[.int .u8 0, .int .i64 0, .string ⟨#[]⟩], .int .i64 er]) (by simp [results, go_sem, hc, z2, hc2]) rfl ⟨rfl, (((below_next (below_three hb) hb2).setCell (by simp; omega) _).setCell (by simp; omega) _).setCell (by simp; omega) _⟩

set_option maxRecDepth 100000 in
set_option maxHeartbeats 2000000 in
theorem on_quotient (A k : Nat) (i : Int) (s : ByteArray) (l : Nat) (j : Int) (t : ByteArray) (w : World) (hk : k < 256) (hl : l < 256) (i0 : -9223372036854775808 ≤ i) (i1 : i ≤ 9223372036854775807) (j0 : -9223372036854775808 ≤ j) (j1 : j ≤ 9223372036854775807)
    (hA : w.cell? ⟨A, 0, none⟩ = some (.func (.func 21) #[] #[])) :
    Calls Tryd.prog 46 #[.agg #[.int .u8 (k : Int), .int .i64 i, .string s], .agg #[.int .u8 (l : Int), .int .i64 j, .string t], .pointer (some ⟨A, 0, none⟩)] w (Gives (Val.two0 8 ⟨k, i, s⟩ ⟨l, j, t⟩) w) := by
  have hAw : A < w.heap.size := World.block_lt_of_cell? w _ hA
  by_cases hn : k = 0 ∨ l = 0
  · have hd : decide (k = 0 ∨ l = 0) = true := by simpa using hn
    have hr : Val.two0 8 ⟨k, i, s⟩ ⟨l, j, t⟩ = (Val.nil, 0) := if_pos hn
    rw [hr]
    clear hn hr
    go_enter Tryd.func46, Tryd.ntmps46
    go_wp2_with (go_at_call 47; refine (anyNull_any _ _ _ _ _ _ _ hk hl).mono ?_; rintro e w1 ⟨rfl, hb⟩; obtain ⟨hc, hf⟩ := bcell hb; obtain ⟨z0, z1, z2⟩ := three_size hb; have z3 := Nat.lt_trans hAw z0; have hA1 := ((below_three hb).cell (p := ⟨A, 0, none⟩) hAw).trans hA)
    exact bodyPost_ret (v := .tuple #[.agg #[.int .u8 0, .int .i64 0, .string ⟨#[]⟩], .int .i64 0]) (by simp [results, go_sem, hc]) rfl ⟨rfl, (((below_three hb).setCell (by simp; omega) _).setCell (by simp; omega) _).setCell (by simp; omega) _⟩
  · have hd : decide (k = 0 ∨ l = 0) = false := by simpa using hn
    by_cases ht : k = 2 ∨ l = 2
    · have hd2 : decide (k = 2 ∨ l = 2) = true := by simpa using ht
      have hr : Val.two0 8 ⟨k, i, s⟩ ⟨l, j, t⟩ = (Val.nil, 11) := (if_neg hn).trans (if_pos ht)
      rw [hr]
      clear hn hr ht
      go_enter Tryd.func46, Tryd.ntmps46
      go_wp2_with (first | (go_at_call 47; refine (anyNull_any _ _ _ _ _ _ _ hk hl).mono ?_; rintro e w1 ⟨rfl, hb⟩; obtain ⟨hc, hf⟩ := bcell hb; obtain ⟨z0, z1, z2⟩ := three_size hb; have z3 := Nat.lt_trans hAw z0; have hA1 := ((below_three hb).cell (p := ⟨A, 0, none⟩) hAw).trans hA) | (go_at_call 48; refine (anyText_any _ _ _ _ _ _ _ hk hl).mono ?_; rintro e w2 ⟨rfl, hb2⟩; obtain ⟨hc2, hf2⟩ := bcell hb2; have y0 := Nat.lt_of_lt_of_le z0 hb2.size; have y1 := Nat.lt_of_lt_of_le z1 hb2.size; have y2 := Nat.lt_of_lt_of_le z2 hb2.size; have y3 := Nat.lt_of_lt_of_le z3 hb2.size))
      exact bodyPost_ret (v := .tuple #[.agg #[.int .u8 0, .int .i64 0, .string ⟨#[]⟩], .int .i64 11]) (by simp [results, go_sem, hc, z2, hc2]) rfl ⟨rfl, (((below_next (below_three hb) hb2).setCell (by simp; omega) _).setCell (by simp; omega) _).setCell (by simp; omega) _⟩
    · have hd2 : decide (k = 2 ∨ l = 2) = false := by simpa using ht
      have hr : Val.two0 8 ⟨k, i, s⟩ ⟨l, j, t⟩ = if (Val.reckon 8 i j).2 = 0 then (Val.num (Val.reckon 8 i j).1, 0) else (Val.nil, (Val.reckon 8 i j).2) := (if_neg hn).trans (if_neg ht)
      rw [hr]
      clear hn hr ht
      have hcall := fun w => quotient_any i j w i0 i1 j0 j1
      generalize Val.reckon 8 i j = r at *
      obtain ⟨n, er⟩ := r
      by_cases he : er = 0
      · subst he
        rw [if_pos rfl]
        go_enter Tryd.func46, Tryd.ntmps46
        go_wp2_with (first | (go_at_call 47; refine (anyNull_any _ _ _ _ _ _ _ hk hl).mono ?_; rintro e w1 ⟨rfl, hb⟩; obtain ⟨hc, hf⟩ := bcell hb; obtain ⟨z0, z1, z2⟩ := three_size hb; have z3 := Nat.lt_trans hAw z0; have hA1 := ((below_three hb).cell (p := ⟨A, 0, none⟩) hAw).trans hA) | (go_at_call 48; refine (anyText_any _ _ _ _ _ _ _ hk hl).mono ?_; rintro e w2 ⟨rfl, hb2⟩; obtain ⟨hc2, hf2⟩ := bcell hb2; have y0 := Nat.lt_of_lt_of_le z0 hb2.size; have y1 := Nat.lt_of_lt_of_le z1 hb2.size; have y2 := Nat.lt_of_lt_of_le z2 hb2.size; have y3 := Nat.lt_of_lt_of_le z3 hb2.size) | (go_at_call 21; refine (hcall _).mono ?_; rintro e w' ⟨rfl, rfl⟩) | (go_at_call 49; refine (integer_any _ _).mono ?_; rintro e w3 ⟨rfl, hb3⟩; obtain ⟨hc3, hf3⟩ := bcell hb3; have x2 := Nat.lt_of_lt_of_le y2 hb3.size))
        exact bodyPost_ret (v := .tuple #[.agg #[.int .u8 1, .int .i64 n, .string ⟨#[]⟩], .int .i64 0]) (by simp [results, go_sem, hc, z2, hc2, y2, hc3]) rfl ⟨rfl, (((below_next (below_next (below_three hb) hb2) hb3).setCell (by simp; omega) _).setCell (by simp; omega) _).setCell (by simp; omega) _⟩
      · rw [if_neg (by exact he)]
        have he2 : ((er : Int) == 0) = false := by rw [beq_eq_false_iff_ne]; omega
        clear he
        go_enter Tryd.func46, Tryd.ntmps46
        go_wp2_with (first | (go_at_call 47; refine (anyNull_any _ _ _ _ _ _ _ hk hl).mono ?_; rintro e w1 ⟨rfl, hb⟩; obtain ⟨hc, hf⟩ := bcell hb; obtain ⟨z0, z1, z2⟩ := three_size hb; have z3 := Nat.lt_trans hAw z0; have hA1 := ((below_three hb).cell (p := ⟨A, 0, none⟩) hAw).trans hA) | (go_at_call 48; refine (anyText_any _ _ _ _ _ _ _ hk hl).mono ?_; rintro e w2 ⟨rfl, hb2⟩; obtain ⟨hc2, hf2⟩ := bcell hb2; have y0 := Nat.lt_of_lt_of_le z0 hb2.size; have y1 := Nat.lt_of_lt_of_le z1 hb2.size; have y2 := Nat.lt_of_lt_of_le z2 hb2.size; have y3 := Nat.lt_of_lt_of_le z3 hb2.size) | (go_at_call 21; refine (hcall _).mono ?_; rintro e w' ⟨rfl, rfl⟩))
        exact bodyPost_ret (v := .tuple #[.agg #[.int .u8 0, .int .i64 0, .string ⟨#[]⟩], .int .i64 er]) (by simp [results, go_sem, hc, z2, hc2]) rfl ⟨rfl, (((below_next (below_three hb) hb2).setCell (by simp; omega) _).setCell (by simp; omega) _).setCell (by simp; omega) _⟩

set_option maxRecDepth 100000 in
set_option maxHeartbeats 2000000 in
theorem on_remainder (A k : Nat) (i : Int) (s : ByteArray) (l : Nat) (j : Int) (t : ByteArray) (w : World) (hk : k < 256) (hl : l < 256) (i0 : -9223372036854775808 ≤ i) (i1 : i ≤ 9223372036854775807) (j0 : -9223372036854775808 ≤ j) (j1 : j ≤ 9223372036854775807)
    (hA : w.cell? ⟨A, 0, none⟩ = some (.func (.func 22) #[] #[])) :
    Calls Tryd.prog 46 #[.agg #[.int .u8 (k : Int), .int .i64 i, .string s], .agg #[.int .u8 (l : Int), .int .i64 j, .string t], .pointer (some ⟨A, 0, none⟩)] w (Gives (Val.two0 9 ⟨k, i, s⟩ ⟨l, j, t⟩) w) := by
  have hAw : A < w.heap.size := World.block_lt_of_cell? w _ hA
  by_cases hn : k = 0 ∨ l = 0
  · have hd : decide (k = 0 ∨ l = 0) = true := by simpa using hn
    have hr : Val.two0 9 ⟨k, i, s⟩ ⟨l, j, t⟩ = (Val.nil, 0) := if_pos hn
    rw [hr]
    clear hn hr
    go_enter Tryd.func46, Tryd.ntmps46
    go_wp2_with (go_at_call 47; refine (anyNull_any _ _ _ _ _ _ _ hk hl).mono ?_; rintro e w1 ⟨rfl, hb⟩; obtain ⟨hc, hf⟩ := bcell hb; obtain ⟨z0, z1, z2⟩ := three_size hb; have z3 := Nat.lt_trans hAw z0; have hA1 := ((below_three hb).cell (p := ⟨A, 0, none⟩) hAw).trans hA)
    exact bodyPost_ret (v := .tuple #[.agg #[.int .u8 0, .int .i64 0, .string ⟨#[]⟩], .int .i64 0]) (by simp [results, go_sem, hc]) rfl ⟨rfl, (((below_three hb).setCell (by simp; omega) _).setCell (by simp; omega) _).setCell (by simp; omega) _⟩
  · have hd : decide (k = 0 ∨ l = 0) = false := by simpa using hn
    by_cases ht : k = 2 ∨ l = 2
    · have hd2 : decide (k = 2 ∨ l = 2) = true := by simpa using ht
      have hr : Val.two0 9 ⟨k, i, s⟩ ⟨l, j, t⟩ = (Val.nil, 11) := (if_neg hn).trans (if_pos ht)
      rw [hr]
      clear hn hr ht
      go_enter Tryd.func46, Tryd.ntmps46
      go_wp2_with (first | (go_at_call 47; refine (anyNull_any _ _ _ _ _ _ _ hk hl).mono ?_; rintro e w1 ⟨rfl, hb⟩; obtain ⟨hc, hf⟩ := bcell hb; obtain ⟨z0, z1, z2⟩ := three_size hb; have z3 := Nat.lt_trans hAw z0; have hA1 := ((below_three hb).cell (p := ⟨A, 0, none⟩) hAw).trans hA) | (go_at_call 48; refine (anyText_any _ _ _ _ _ _ _ hk hl).mono ?_; rintro e w2 ⟨rfl, hb2⟩; obtain ⟨hc2, hf2⟩ := bcell hb2; have y0 := Nat.lt_of_lt_of_le z0 hb2.size; have y1 := Nat.lt_of_lt_of_le z1 hb2.size; have y2 := Nat.lt_of_lt_of_le z2 hb2.size; have y3 := Nat.lt_of_lt_of_le z3 hb2.size))
      exact bodyPost_ret (v := .tuple #[.agg #[.int .u8 0, .int .i64 0, .string ⟨#[]⟩], .int .i64 11]) (by simp [results, go_sem, hc, z2, hc2]) rfl ⟨rfl, (((below_next (below_three hb) hb2).setCell (by simp; omega) _).setCell (by simp; omega) _).setCell (by simp; omega) _⟩
    · have hd2 : decide (k = 2 ∨ l = 2) = false := by simpa using ht
      have hr : Val.two0 9 ⟨k, i, s⟩ ⟨l, j, t⟩ = if (Val.reckon 9 i j).2 = 0 then (Val.num (Val.reckon 9 i j).1, 0) else (Val.nil, (Val.reckon 9 i j).2) := (if_neg hn).trans (if_neg ht)
      rw [hr]
      clear hn hr ht
      have hcall := fun w => remainder_any i j w i0 i1 j0 j1
      generalize Val.reckon 9 i j = r at *
      obtain ⟨n, er⟩ := r
      by_cases he : er = 0
      · subst he
        rw [if_pos rfl]
        go_enter Tryd.func46, Tryd.ntmps46
        go_wp2_with (first | (go_at_call 47; refine (anyNull_any _ _ _ _ _ _ _ hk hl).mono ?_; rintro e w1 ⟨rfl, hb⟩; obtain ⟨hc, hf⟩ := bcell hb; obtain ⟨z0, z1, z2⟩ := three_size hb; have z3 := Nat.lt_trans hAw z0; have hA1 := ((below_three hb).cell (p := ⟨A, 0, none⟩) hAw).trans hA) | (go_at_call 48; refine (anyText_any _ _ _ _ _ _ _ hk hl).mono ?_; rintro e w2 ⟨rfl, hb2⟩; obtain ⟨hc2, hf2⟩ := bcell hb2; have y0 := Nat.lt_of_lt_of_le z0 hb2.size; have y1 := Nat.lt_of_lt_of_le z1 hb2.size; have y2 := Nat.lt_of_lt_of_le z2 hb2.size; have y3 := Nat.lt_of_lt_of_le z3 hb2.size) | (go_at_call 22; refine (hcall _).mono ?_; rintro e w' ⟨rfl, rfl⟩) | (go_at_call 49; refine (integer_any _ _).mono ?_; rintro e w3 ⟨rfl, hb3⟩; obtain ⟨hc3, hf3⟩ := bcell hb3; have x2 := Nat.lt_of_lt_of_le y2 hb3.size))
        exact bodyPost_ret (v := .tuple #[.agg #[.int .u8 1, .int .i64 n, .string ⟨#[]⟩], .int .i64 0]) (by simp [results, go_sem, hc, z2, hc2, y2, hc3]) rfl ⟨rfl, (((below_next (below_next (below_three hb) hb2) hb3).setCell (by simp; omega) _).setCell (by simp; omega) _).setCell (by simp; omega) _⟩
      · rw [if_neg (by exact he)]
        have he2 : ((er : Int) == 0) = false := by rw [beq_eq_false_iff_ne]; omega
        clear he
        go_enter Tryd.func46, Tryd.ntmps46
        go_wp2_with (first | (go_at_call 47; refine (anyNull_any _ _ _ _ _ _ _ hk hl).mono ?_; rintro e w1 ⟨rfl, hb⟩; obtain ⟨hc, hf⟩ := bcell hb; obtain ⟨z0, z1, z2⟩ := three_size hb; have z3 := Nat.lt_trans hAw z0; have hA1 := ((below_three hb).cell (p := ⟨A, 0, none⟩) hAw).trans hA) | (go_at_call 48; refine (anyText_any _ _ _ _ _ _ _ hk hl).mono ?_; rintro e w2 ⟨rfl, hb2⟩; obtain ⟨hc2, hf2⟩ := bcell hb2; have y0 := Nat.lt_of_lt_of_le z0 hb2.size; have y1 := Nat.lt_of_lt_of_le z1 hb2.size; have y2 := Nat.lt_of_lt_of_le z2 hb2.size; have y3 := Nat.lt_of_lt_of_le z3 hb2.size) | (go_at_call 22; refine (hcall _).mono ?_; rintro e w' ⟨rfl, rfl⟩))
        exact bodyPost_ret (v := .tuple #[.agg #[.int .u8 0, .int .i64 0, .string ⟨#[]⟩], .int .i64 er]) (by simp [results, go_sem, hc, z2, hc2]) rfl ⟨rfl, (((below_next (below_three hb) hb2).setCell (by simp; omega) _).setCell (by simp; omega) _).setCell (by simp; omega) _⟩

end Go.Proofs.YtjjfmmimmfihgaaDoor