/-
  WHAT IS PROVED: contracts of what is joined, Truth, NOT, and the operators of one value.
-/
import Derived.Test.YtjjfmmimmfihgaaDoorValF
namespace Go.Proofs.YtjjfmmimmfihgaaDoor
open Go.RowKit Go.Lib

theorem Wd.kept3 {w w' : World} {a b c : Obj} (h : Wd w) (hb : Below (((w.alloc a).alloc b).alloc c).heap.size (((w.alloc a).alloc b).alloc c) w') : Wd w' := h.kept (below_three hb)

set_option maxRecDepth 100000 in
set_option maxHeartbeats 4000000 in
theorem joined_any (k : Nat) (i : Int) (s : ByteArray) (l : Nat) (j : Int) (t : ByteArray) (w : World) (hk : k < 256) (hl : l < 256) (i0 : -9223372036854775808 ≤ i) (i1 : i ≤ 9223372036854775807) (j0 : -9223372036854775808 ≤ j) (j1 : j ≤ 9223372036854775807)
    (hs : s.size ≤ 512) (ht : t.size ≤ 512) (hw : Wd w) :
    Calls Tryd.prog 23 #[.agg #[.int .u8 (k : Int), .int .i64 i, .string s], .agg #[.int .u8 (l : Int), .int .i64 j, .string t]] w (Gives (Val.two0 10 ⟨k, i, s⟩ ⟨l, j, t⟩) w) := by
  have HW := Lib.hid hw
  clear hw
  by_cases hn : k = 0 ∨ l = 0
  · have hd : decide (k = 0 ∨ l = 0) = true := by simpa using hn
    have hr : Val.two0 10 ⟨k, i, s⟩ ⟨l, j, t⟩ = (Val.nil, 0) := if_pos hn
    rw [hr]
    clear hn hr
    go_enter Tryd.func23, Tryd.ntmps23
    go_wp2_with (go_at_call 47; refine (anyNull_any _ _ _ _ _ _ _ hk hl).mono ?_; rintro e w1 ⟨rfl, hb⟩; obtain ⟨hc, hf⟩ := bcell hb; obtain ⟨z0, z1, z2⟩ := three_size hb)
    exact bodyPost_ret (v := .tuple #[.agg #[.int .u8 0, .int .i64 0, .string ⟨#[]⟩], .int .i64 0]) (by simp [results, go_sem, hc]) rfl ⟨rfl, below_set3 (b := w.heap.size + 1 + 1) (below_three hb) (by omega) _ _ _⟩
  · have hd : decide (k = 0 ∨ l = 0) = false := by simpa using hn
    have hr : Val.two0 10 ⟨k, i, s⟩ ⟨l, j, t⟩ = if ((Val.plain ⟨k, i, s⟩) ++ (Val.plain ⟨l, j, t⟩)).size ≤ 512 then (Val.txt ((Val.plain ⟨k, i, s⟩) ++ (Val.plain ⟨l, j, t⟩)), 0) else (Val.nil, 3) := if_neg hn
    have hp1 : (Val.plain ⟨k, i, s⟩).size ≤ 512 := by
      unfold Val.plain
      split
      · have := itoa_length_le i i0 i1
        show (itoa i).toArray.size ≤ 512
        simp; omega
      · exact hs
    have hp2 : (Val.plain ⟨l, j, t⟩).size ≤ 512 := by
      unfold Val.plain
      split
      · have := itoa_length_le j j0 j1
        show (itoa j).toArray.size ≤ 512
        simp; omega
      · exact ht
    by_cases hle : (Val.plain ⟨k, i, s⟩ ++ Val.plain ⟨l, j, t⟩).size ≤ 512
    · rw [if_pos hle] at hr
      rw [hr]
      clear hn hr
      have hroom : ¬ 9223372036854775807 < (Val.plain ⟨k, i, s⟩).size + (Val.plain ⟨l, j, t⟩).size := by omega
      have hle1 : decide ((512 : Int) < ((Val.plain ⟨k, i, s⟩).size : Int) + ((Val.plain ⟨l, j, t⟩).size : Int)) = false := by
        rw [decide_eq_false_iff_not]
        have := ByteArray.size_append (a := Val.plain ⟨k, i, s⟩) (b := Val.plain ⟨l, j, t⟩)
        omega
      clear hle hp1 hp2
      go_enter Tryd.func23, Tryd.ntmps23
      go_wp2_with (go_at_call 47; refine (anyNull_any _ _ _ _ _ _ _ hk hl).mono ?_; rintro e w1 ⟨rfl, hb⟩)
      have T1 := Lib.hid ((trio w _ _ _).kept hb)
      have HW1 := Lib.hid (HW.out.kept3 hb)
      have q0 := bwOf_cell w1 _ _ (cell_of_block T1.out.a 0)
      have q1 := bwOf_cell w1 _ _ (cell_of_block T1.out.a 1)
      have q2 := bwOf_cell w1 _ _ (cell_of_block T1.out.a 2)
      have q3 := bwOf_cell w1 _ _ (cell_of_block T1.out.b 0)
      have q4 := bwOf_cell w1 _ _ (cell_of_block T1.out.b 1)
      have q5 := bwOf_cell w1 _ _ (cell_of_block T1.out.b 2)
      clear hb
      refine wp_region_bw (w := w1) (by kernel_rfl) (by kernel_rfl) ?_
      repeat (go_big_quiet_step ((go_at_call 50; exact below_of (letters_any _ _ _ _ (by assumption) (by assumption) (by assumption) (HW1.out.kept (bwOf_below _ _))))))
      refine wpQuiet_nil ?_
      rintro w2 ⟨m2, rfl⟩
      have T2 := T1.out.kept (bwOf_below w1 m2)
      obtain ⟨⟨g0, g1, g2⟩, f0, f1, f2⟩ := trio_R T2
      have y2 := T2.size
      have T2' := Lib.hid T2
      clear T2 q0 q1 q2 q3 q4 q5
      generalize bwOf w1 m2 = w2 at *
      go_wp2
      exact bodyPost_ret (v := .tuple #[.agg #[.int .u8 2, .int .i64 0, .string (Val.plain ⟨k, i, s⟩ ++ Val.plain ⟨l, j, t⟩)], .int .i64 0]) (by simp [results, go_sem, g0, g1, g2]) rfl ⟨rfl, below_set3 (b := w.heap.size + 1 + 1) T2'.out.below (by omega) _ _ _⟩
    · rw [if_neg hle] at hr
      rw [hr]
      clear hn hr
      have hroom : ¬ 9223372036854775807 < (Val.plain ⟨k, i, s⟩).size + (Val.plain ⟨l, j, t⟩).size := by omega
      have hle1 : decide ((512 : Int) < ((Val.plain ⟨k, i, s⟩).size : Int) + ((Val.plain ⟨l, j, t⟩).size : Int)) = true := by
        rw [decide_eq_true_iff]
        have := ByteArray.size_append (a := Val.plain ⟨k, i, s⟩) (b := Val.plain ⟨l, j, t⟩)
        omega
      clear hle hp1 hp2
      go_enter Tryd.func23, Tryd.ntmps23
      go_wp2_with (go_at_call 47; refine (anyNull_any _ _ _ _ _ _ _ hk hl).mono ?_; rintro e w1 ⟨rfl, hb⟩)
      have T1 := Lib.hid ((trio w _ _ _).kept hb)
      have HW1 := Lib.hid (HW.out.kept3 hb)
      have q0 := bwOf_cell w1 _ _ (cell_of_block T1.out.a 0)
      have q1 := bwOf_cell w1 _ _ (cell_of_block T1.out.a 1)
      have q2 := bwOf_cell w1 _ _ (cell_of_block T1.out.a 2)
      have q3 := bwOf_cell w1 _ _ (cell_of_block T1.out.b 0)
      have q4 := bwOf_cell w1 _ _ (cell_of_block T1.out.b 1)
      have q5 := bwOf_cell w1 _ _ (cell_of_block T1.out.b 2)
      clear hb
      refine wp_region_bw (w := w1) (by kernel_rfl) (by kernel_rfl) ?_
      repeat (go_big_quiet_step ((go_at_call 50; exact below_of (letters_any _ _ _ _ (by assumption) (by assumption) (by assumption) (HW1.out.kept (bwOf_below _ _))))))
      refine wpQuiet_nil ?_
      rintro w2 ⟨m2, rfl⟩
      have T2 := T1.out.kept (bwOf_below w1 m2)
      obtain ⟨⟨g0, g1, g2⟩, f0, f1, f2⟩ := trio_R T2
      have y2 := T2.size
      have T2' := Lib.hid T2
      clear T2 q0 q1 q2 q3 q4 q5
      generalize bwOf w1 m2 = w2 at *
      go_wp2
      exact bodyPost_ret (v := .tuple #[.agg #[.int .u8 0, .int .i64 0, .string ⟨#[]⟩], .int .i64 3]) (by simp [results, go_sem, g0, g1, g2]) rfl ⟨rfl, below_set3 (b := w.heap.size + 1 + 1) T2'.out.below (by omega) _ _ _⟩
end Go.Proofs.YtjjfmmimmfihgaaDoor
