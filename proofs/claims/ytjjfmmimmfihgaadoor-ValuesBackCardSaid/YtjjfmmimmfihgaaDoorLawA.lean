/-
  WHAT IS PROVED: contracts of the statements' helpers: numbers and texts as values; what an op tells.
-/
import Derived.Test.YtjjfmmimmfihgaaDoorTwoAll
import Derived.Test.YtjjfmmimmfihgaaDoorOne
import Derived.Test.YtjjfmmimmfihgaaDoorText
namespace Go.Proofs.YtjjfmmimmfihgaaDoor
open Go.RowKit Go.Lib

theorem n_any (i : Int) (w : World) :
    Calls Tryd.prog 11 #[.int .i64 i] w fun e w' => e = .returned (.agg #[.int .u8 1, .int .i64 i, .string ⟨#[]⟩]) ∧ Below w.heap.size w w' := by
  go_enter Tryd.func11, Tryd.ntmps11
  go_wp2
  exact bodyPost_ret (v := .agg #[.int .u8 1, .int .i64 i, .string ⟨#[]⟩]) (by simp [results, go_sem]) rfl ⟨rfl, below_alloc _ _⟩
theorem s_any (t : ByteArray) (w : World) :
    Calls Tryd.prog 15 #[.string t] w fun e w' => e = .returned (.agg #[.int .u8 2, .int .i64 0, .string t]) ∧ Below w.heap.size w w' := by
  go_enter Tryd.func15, Tryd.ntmps15
  go_wp2
  exact bodyPost_ret (v := .agg #[.int .u8 2, .int .i64 0, .string t]) (by simp [results, go_sem]) rfl ⟨rfl, below_alloc _ _⟩
theorem cmp_is (k : Nat) (i : Int) (s : ByteArray) (l : Nat) (j : Int) (t : ByteArray) (c : Int) (h : Val.cmp ⟨k, i, s⟩ ⟨l, j, t⟩ = c) (w : World) :
    Calls Tryd.prog 40 #[.agg #[.int .u8 (k : Int), .int .i64 i, .string s], .agg #[.int .u8 (l : Int), .int .i64 j, .string t]] w fun e w' => e = .returned (.int .i64 c) ∧ Below w.heap.size w w' := by
  rw [← h]; exact cmp_any k i s l j t w

set_option maxRecDepth 100000 in
set_option maxHeartbeats 2000000 in
theorem two_yes (op k : Nat) (i : Int) (s : ByteArray) (l : Nat) (j : Int) (t : ByteArray) (wk : Nat) (wi : Int) (ws : ByteArray) (f : Nat) (hop : op < 256) (hk : k < 256) (hl : l < 256) (i0 : -9223372036854775808 ≤ i) (i1 : i ≤ 9223372036854775807) (j0 : -9223372036854775808 ≤ j) (j1 : j ≤ 9223372036854775807)
    (h : Val.two op ⟨k, i, s⟩ ⟨l, j, t⟩ = (⟨wk, wi, ws⟩, f)) (w : World) (hw : Wd w) :
    Calls Tryd.prog 12 #[.int .u8 (op : Int), .agg #[.int .u8 (k : Int), .int .i64 i, .string s], .agg #[.int .u8 (l : Int), .int .i64 j, .string t], .agg #[.int .u8 (wk : Int), .int .i64 wi, .string ws], .int .i64 (f : Int)] w
      fun e w' => e = .returned (.bool true) ∧ Below w.heap.size w w' := by
  have hc := fun w hw => two_any op k i s l j t w hop hk hl i0 i1 j0 j1 hw
  rw [h] at hc
  have HW := Lib.hid hw
  clear hw h
  go_enter Tryd.func12, Tryd.ntmps12
  go_wp2_with (go_at_call 8; refine (hc _ (HW.out.kept (below_three0 w _ _ _))).mono ?_; rintro e w1 ⟨rfl, hb⟩; obtain ⟨hc1, hf1⟩ := bcell hb; obtain ⟨z0, z1, z2⟩ := three_size hb)
  go_ret
  exact ⟨rfl, (below_three hb).alloc (by omega) _⟩
set_option maxRecDepth 100000 in
set_option maxHeartbeats 2000000 in
theorem one_yes (op k : Nat) (i : Int) (s : ByteArray) (wk : Nat) (wi : Int) (ws : ByteArray) (f : Nat) (hop : op < 256) (hk : k < 256) (i0 : -9223372036854775808 ≤ i) (i1 : i ≤ 9223372036854775807)
    (h : Val.one op ⟨k, i, s⟩ = (⟨wk, wi, ws⟩, f)) (w : World) :
    Calls Tryd.prog 41 #[.int .u8 (op : Int), .agg #[.int .u8 (k : Int), .int .i64 i, .string s], .agg #[.int .u8 (wk : Int), .int .i64 wi, .string ws], .int .i64 (f : Int)] w
      fun e w' => e = .returned (.bool true) ∧ Below w.heap.size w w' := by
  have hc := fun w => one_any op k i s w hop hk i0 i1
  rw [h] at hc
  clear h
  go_enter Tryd.func41, Tryd.ntmps41
  go_wp2_with (go_at_call 43; refine (hc _).mono ?_; rintro e w1 ⟨rfl, hb⟩; obtain ⟨hc1, hf1⟩ := bcell hb; obtain ⟨z0, z1⟩ := below_size2 hb)
  go_ret
  exact ⟨rfl, (below_two hb).alloc (by omega) _⟩
set_option maxRecDepth 100000 in
set_option maxHeartbeats 2000000 in
theorem turned_any (k : Nat) (i : Int) (s : ByteArray) (hk : k < 256) (i0 : -9223372036854775808 ≤ i) (i1 : i ≤ 9223372036854775807) (w : World) :
    Calls Tryd.prog 14 #[.agg #[.int .u8 (k : Int), .int .i64 i, .string s]] w
      fun e w' => e = .returned (.agg #[.int .u8 ((Val.one 2 ⟨k, i, s⟩).1.k : Int), .int .i64 (Val.one 2 ⟨k, i, s⟩).1.i, .string (Val.one 2 ⟨k, i, s⟩).1.s]) ∧ Below w.heap.size w w' := by
  have hc := fun w => one_any 2 k i s w (by omega) hk i0 i1
  generalize Val.one 2 ⟨k, i, s⟩ = r at *
  go_enter Tryd.func14, Tryd.ntmps14
  go_wp2_with (go_at_call 43; refine (hc _).mono ?_; rintro e w1 ⟨rfl, hb⟩; obtain ⟨hc1, hf1⟩ := bcell hb; obtain ⟨z0, z1⟩ := below_size2 hb)
  exact bodyPost_ret (v := .agg #[.int .u8 (r.1.k : Int), .int .i64 r.1.i, .string r.1.s]) (by simp [results, go_sem, hc1, z1]) rfl ⟨rfl, (below_set3 (b := w.heap.size + 1) (below_two hb) (by omega) _ _ _).alloc (by simp; omega) _⟩

theorem long1 (B : Nat) (a : ByteArray) (ba : a.size ≤ 140737488351232) (w : World) (ha : w.cell? ⟨B, 2, none⟩ = some (.string a)) :
    Calls Tryd.prog 7 #[.slice (some ⟨B, 0, none⟩) 1 1] w fun e w' => e = .returned (.bool (decide ((20000 : Int) < (a.size : Int)))) ∧ w = w' := by
  go_enter Tryd.func7, Tryd.ntmps7
  go_wp2
  refine wp_loop_rounds 2 ?_
  rw [rounds_succ]; go_wp2
  rw [rounds_succ]; go_wp2
  go_ret
  exact ⟨rfl, rfl⟩
theorem long2 (B : Nat) (a b : ByteArray) (ba : a.size ≤ 140737488351232) (bb : b.size ≤ 140737488351232) (w : World) (ha : w.cell? ⟨B, 2, none⟩ = some (.string a)) (hb : w.cell? ⟨B, 5, none⟩ = some (.string b)) :
    Calls Tryd.prog 7 #[.slice (some ⟨B, 0, none⟩) 2 2] w fun e w' => e = .returned (.bool (decide ((20000 : Int) < (a.size : Int) + (b.size : Int)))) ∧ w = w' := by
  go_enter Tryd.func7, Tryd.ntmps7
  go_wp2
  refine wp_loop_rounds 3 ?_
  rw [rounds_succ]; go_wp2
  rw [rounds_succ]; go_wp2
  rw [rounds_succ]; go_wp2
  go_ret
  exact ⟨rfl, rfl⟩
theorem long3 (B : Nat) (a b c : ByteArray) (ba : a.size ≤ 140737488351232) (bb : b.size ≤ 140737488351232) (bc : c.size ≤ 140737488351232) (w : World) (ha : w.cell? ⟨B, 2, none⟩ = some (.string a)) (hb : w.cell? ⟨B, 5, none⟩ = some (.string b)) (hc : w.cell? ⟨B, 8, none⟩ = some (.string c)) :
    Calls Tryd.prog 7 #[.slice (some ⟨B, 0, none⟩) 3 3] w fun e w' => e = .returned (.bool (decide ((20000 : Int) < (a.size : Int) + (b.size : Int) + (c.size : Int)))) ∧ w = w' := by
  go_enter Tryd.func7, Tryd.ntmps7
  go_wp2
  refine wp_loop_rounds 4 ?_
  rw [rounds_succ]; go_wp2
  rw [rounds_succ]; go_wp2
  rw [rounds_succ]; go_wp2
  rw [rounds_succ]; go_wp2
  go_ret
  exact ⟨rfl, rfl⟩
set_option maxHeartbeats 1000000 in
theorem fine1 (B : Nat) (ak : Nat) (ai : Int) (az : ByteArray) (ab : ak < 256) (w : World) (a0 : w.cell? ⟨B, 0, none⟩ = some (.int .u8 (ak : Int))) (a1 : w.cell? ⟨B, 1, none⟩ = some (.int .i64 ai)) (a2 : w.cell? ⟨B, 2, none⟩ = some (.string az)) :
    Calls Tryd.prog 13 #[.slice (some ⟨B, 0, none⟩) 1 1] w fun e w' => e = .returned (.bool (Val.fine ⟨ak, ai, az⟩)) ∧ Below w.heap.size w w' := by
  have hB : B < w.heap.size := World.block_lt_of_cell? w _ a0
  have t0 : True := trivial
  by_cases fa : Val.fine ⟨ak, ai, az⟩ = true
  · go_enter Tryd.func13, Tryd.ntmps13
    go_wp2_with fail
    refine wp_loop_rounds 2 ?_
    rw [rounds_succ]; go_wp2_with (go_at_call 32; guard_hyp t0; refine (check_any ak ai az _ ab).mono ?_; rw [fa]; rintro e v0 ⟨rfl, hb0⟩; obtain ⟨hc0, _⟩ := bcell hb0; clear t0)
    rw [rounds_succ]; go_wp2_with fail
    go_ret
    rw [fa]
    exact ⟨rfl, hb0⟩
  · rw [Bool.not_eq_true] at fa
    go_enter Tryd.func13, Tryd.ntmps13
    go_wp2_with fail
    refine wp_loop_rounds 1 ?_
    rw [rounds_succ]; go_wp2_with (go_at_call 32; guard_hyp t0; refine (check_any ak ai az _ ab).mono ?_; rw [fa]; rintro e v0 ⟨rfl, hb0⟩; obtain ⟨hc0, _⟩ := bcell hb0; clear t0)
    go_ret
    rw [fa]
    exact ⟨rfl, hb0⟩
set_option maxHeartbeats 1000000 in
theorem fine2 (B : Nat) (ak : Nat) (ai : Int) (az : ByteArray) (ab : ak < 256) (bk : Nat) (bi : Int) (bs : ByteArray) (bb : bk < 256) (w : World) (a0 : w.cell? ⟨B, 0, none⟩ = some (.int .u8 (ak : Int))) (a1 : w.cell? ⟨B, 1, none⟩ = some (.int .i64 ai)) (a2 : w.cell? ⟨B, 2, none⟩ = some (.string az)) (b0 : w.cell? ⟨B, 3, none⟩ = some (.int .u8 (bk : Int))) (b1 : w.cell? ⟨B, 4, none⟩ = some (.int .i64 bi)) (b2 : w.cell? ⟨B, 5, none⟩ = some (.string bs)) :
    Calls Tryd.prog 13 #[.slice (some ⟨B, 0, none⟩) 2 2] w fun e w' => e = .returned (.bool (Val.fine ⟨ak, ai, az⟩ && Val.fine ⟨bk, bi, bs⟩)) ∧ Below w.heap.size w w' := by
  have hB : B < w.heap.size := World.block_lt_of_cell? w _ a0
  have t0 : True := trivial
  have t1 : True := trivial
  by_cases fa : Val.fine ⟨ak, ai, az⟩ = true
  · by_cases fb : Val.fine ⟨bk, bi, bs⟩ = true
    · go_enter Tryd.func13, Tryd.ntmps13
      go_wp2_with fail
      refine wp_loop_rounds 3 ?_
      rw [rounds_succ]; go_wp2_with (go_at_call 32; guard_hyp t0; refine (check_any ak ai az _ ab).mono ?_; rw [fa]; rintro e v0 ⟨rfl, hb0⟩; obtain ⟨hc0, _⟩ := bcell hb0; clear t0)
      rw [rounds_succ]; go_wp2_with (go_at_call 32; guard_hyp t1; refine (check_any bk bi bs _ bb).mono ?_; rw [fb]; rintro e v1 ⟨rfl, hb1⟩; obtain ⟨hc1, _⟩ := bcell hb1; clear t1)
      rw [rounds_succ]; go_wp2_with fail
      go_ret
      rw [fa, fb]
      exact ⟨rfl, below_next hb0 hb1⟩
    · rw [Bool.not_eq_true] at fb
      go_enter Tryd.func13, Tryd.ntmps13
      go_wp2_with fail
      refine wp_loop_rounds 2 ?_
      rw [rounds_succ]; go_wp2_with (go_at_call 32; guard_hyp t0; refine (check_any ak ai az _ ab).mono ?_; rw [fa]; rintro e v0 ⟨rfl, hb0⟩; obtain ⟨hc0, _⟩ := bcell hb0; clear t0)
      rw [rounds_succ]; go_wp2_with (go_at_call 32; guard_hyp t1; refine (check_any bk bi bs _ bb).mono ?_; rw [fb]; rintro e v1 ⟨rfl, hb1⟩; obtain ⟨hc1, _⟩ := bcell hb1; clear t1)
      go_ret
      rw [fa, fb]
      exact ⟨rfl, below_next hb0 hb1⟩
  · rw [Bool.not_eq_true] at fa
    go_enter Tryd.func13, Tryd.ntmps13
    go_wp2_with fail
    refine wp_loop_rounds 1 ?_
    rw [rounds_succ]; go_wp2_with (go_at_call 32; guard_hyp t0; refine (check_any ak ai az _ ab).mono ?_; rw [fa]; rintro e v0 ⟨rfl, hb0⟩; obtain ⟨hc0, _⟩ := bcell hb0; clear t0)
    go_ret
    rw [fa, Bool.false_and]
    exact ⟨rfl, hb0⟩
end Go.Proofs.YtjjfmmimmfihgaaDoor
