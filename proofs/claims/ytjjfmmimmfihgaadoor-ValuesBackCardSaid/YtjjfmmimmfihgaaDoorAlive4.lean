/-
  WHAT IS PROVED: contract of alive: it answers true.
-/
import Derived.Test.YtjjfmmimmfihgaaDoorLawA
namespace Go.Proofs.YtjjfmmimmfihgaaDoor
open Go.RowKit Go.Lib

theorem text_is (k : Nat) (i : Int) (s c : ByteArray) (hk : k < 256) (i0 : -9223372036854775808 ≤ i) (i1 : i ≤ 9223372036854775807) (h : Val.text ⟨k, i, s⟩ = c) (w : World) (hw : Wd w) :
    Calls Tryd.prog 16 #[.agg #[.int .u8 (k : Int), .int .i64 i, .string s]] w fun e w' => e = .returned (.string c) ∧ Below w.heap.size w w' := by
  rw [← h]; exact text_any k i s w hk i0 i1 hw
theorem itoa_five : itoa (-5) = [45, 53] := by
  unfold itoa
  rw [if_pos (by decide)]
  show 45 :: decDigits 5 = _
  rw [decDigits_one (by omega)]; rfl
theorem text_five : Val.text ⟨1, -5, ⟨#[]⟩⟩ = ⟨#[45, 53]⟩ := by
  have := Val.text_num (-5) (by decide)
  rw [itoa_five] at this
  exact this
theorem join_is : Val.two 10 ⟨1, -5, ⟨#[]⟩⟩ ⟨2, 0, ⟨#[97]⟩⟩ = (⟨2, 0, ⟨#[45, 53, 97]⟩⟩, 0) := by
  have h1 : Val.two 10 ⟨1, -5, ⟨#[]⟩⟩ ⟨2, 0, ⟨#[97]⟩⟩ = Val.two0 10 ⟨1, -5, ⟨#[]⟩⟩ ⟨2, 0, ⟨#[97]⟩⟩ := by kernel_rfl
  have h2 : Val.plain ⟨1, -5, ⟨#[]⟩⟩ = ⟨#[45, 53]⟩ := by
    show (⟨(itoa (-5)).toArray⟩ : ByteArray) = _
    rw [itoa_five]
  have h3 : Val.two0 10 ⟨1, -5, ⟨#[]⟩⟩ ⟨2, 0, ⟨#[97]⟩⟩ = if (Val.plain ⟨1, -5, ⟨#[]⟩⟩ ++ Val.plain ⟨2, 0, ⟨#[97]⟩⟩).size ≤ 512 then (Val.txt (Val.plain ⟨1, -5, ⟨#[]⟩⟩ ++ Val.plain ⟨2, 0, ⟨#[97]⟩⟩), 0) else (Val.nil, 3) := rfl
  rw [h1, h3, h2]
  rfl

set_option maxRecDepth 100000 in
set_option maxHeartbeats 8000000 in
theorem alive_yes (w : World) (hw : Wd w) : Calls Tryd.prog 10 #[] w fun e w' => e = .returned (.bool true) ∧ Below w.heap.size w w' := by
  have c0 := fun w => cmp_is 0 0 ⟨#[]⟩ 1 (-5) ⟨#[]⟩ (-1) (by kernel_rfl) w
  have c1 := fun w => cmp_is 1 9 ⟨#[]⟩ 2 0 ⟨#[97]⟩ (-1) (by kernel_rfl) w
  have c2 := fun w => cmp_is 2 0 ⟨#[97]⟩ 2 0 ⟨#[97, 98]⟩ (-1) (by kernel_rfl) w
  have c3 := fun w => cmp_is 1 2 ⟨#[]⟩ 1 10 ⟨#[]⟩ (-1) (by kernel_rfl) w
  have c4 := fun w => one_yes 1 1 5 ⟨#[]⟩ 1 (-5) ⟨#[]⟩ 0 (by omega) (by omega) (by omega) (by omega) (by kernel_rfl) w
  have c5 := fun w => one_yes 2 0 0 ⟨#[]⟩ 0 0 ⟨#[]⟩ 0 (by omega) (by omega) (by omega) (by omega) (by kernel_rfl) w
  have c6 := fun w => one_yes 2 2 0 ⟨#[97]⟩ 0 0 ⟨#[]⟩ 11 (by omega) (by omega) (by omega) (by omega) (by kernel_rfl) w
  have c7 := fun w => one_yes 3 0 0 ⟨#[]⟩ 1 1 ⟨#[]⟩ 0 (by omega) (by omega) (by omega) (by omega) (by kernel_rfl) w
  have c8 := fun w hw => two_yes 8 1 (-7) ⟨#[]⟩ 1 2 ⟨#[]⟩ 1 (-3) ⟨#[]⟩ 0 (by omega) (by omega) (by omega) (by omega) (by omega) (by omega) (by omega) (by kernel_rfl) w hw
  have c9 := fun w hw => two_yes 9 1 (-7) ⟨#[]⟩ 1 2 ⟨#[]⟩ 1 (-1) ⟨#[]⟩ 0 (by omega) (by omega) (by omega) (by omega) (by omega) (by omega) (by omega) (by kernel_rfl) w hw
  have c10 := fun w hw => two_yes 8 1 1 ⟨#[]⟩ 1 0 ⟨#[]⟩ 0 0 ⟨#[]⟩ 13 (by omega) (by omega) (by omega) (by omega) (by omega) (by omega) (by omega) (by kernel_rfl) w hw
  have c11 := fun w hw => two_yes 5 1 1 ⟨#[]⟩ 2 0 ⟨#[97]⟩ 0 0 ⟨#[]⟩ 11 (by omega) (by omega) (by omega) (by omega) (by omega) (by omega) (by omega) (by kernel_rfl) w hw
  have c12 := fun w hw => two_yes 5 0 0 ⟨#[]⟩ 2 0 ⟨#[97]⟩ 0 0 ⟨#[]⟩ 0 (by omega) (by omega) (by omega) (by omega) (by omega) (by omega) (by omega) (by kernel_rfl) w hw
  have c13 := fun w hw => two_yes 10 1 (-5) ⟨#[]⟩ 2 0 ⟨#[97]⟩ 2 0 ⟨#[45, 53, 97]⟩ 0 (by omega) (by omega) (by omega) (by omega) (by omega) (by omega) (by omega) join_is w hw
  have c14 := fun w hw => two_yes 13 1 5 ⟨#[]⟩ 2 0 ⟨#[97]⟩ 1 1 ⟨#[]⟩ 0 (by omega) (by omega) (by omega) (by omega) (by omega) (by omega) (by omega) (by kernel_rfl) w hw
  have c15 := fun w hw => two_yes 17 1 0 ⟨#[]⟩ 0 0 ⟨#[]⟩ 1 0 ⟨#[]⟩ 0 (by omega) (by omega) (by omega) (by omega) (by omega) (by omega) (by omega) (by kernel_rfl) w hw
  have c16 := fun w hw => two_yes 18 1 0 ⟨#[]⟩ 0 0 ⟨#[]⟩ 0 0 ⟨#[]⟩ 0 (by omega) (by omega) (by omega) (by omega) (by omega) (by omega) (by omega) (by kernel_rfl) w hw
  have c17 := fun w hw => text_is 2 0 ⟨#[105, 116, 39, 115]⟩ ⟨#[39, 105, 116, 39, 39, 115, 39]⟩ (by omega) (by omega) (by omega) (by decide +kernel) w hw
  have c18 := fun w hw => text_is 1 (-5) ⟨#[]⟩ ⟨#[45, 53]⟩ (by omega) (by omega) (by omega) text_five w hw
  obtain ⟨W, hW⟩ : ∃ W, W = w.alloc (.cells #[.int .u8 0, .int .i64 0, .string ⟨#[]⟩] 25) := ⟨_, rfl⟩
  have hB : Hid (Below w.heap.size w W) := Lib.hid (by rw [hW]; exact below_alloc _ _)
  have HW : Hid (Wd W) := Lib.hid (hw.kept hB.out)
  have hh : W.heap[w.heap.size]? = some (.cells #[.int .u8 0, .int .i64 0, .string ⟨#[]⟩] 25 (0, 0)) := by rw [hW]; exact heap_alloc_new w _
  have q0 := bwOf_cell W _ _ (cell_of_block hh 0)
  have q1 := bwOf_cell W _ _ (cell_of_block hh 1)
  have q2 := bwOf_cell W _ _ (cell_of_block hh 2)
  have HH := Lib.hid hh
  clear hw hh
  go_enter Tryd.func10, Tryd.ntmps10
  go_wp2_with fail
  rw [← hW]
  clear hW
  refine wp_region_bw (w := W) (by kernel_rfl) (by kernel_rfl) ?_
  repeat (go_big_quiet_step (fail))
  go_big_quiet_step ((go_at_call 11; exact below_of (n_any _ _)))
  repeat (go_big_quiet_step (fail))
  go_big_quiet_step ((go_at_call 40; exact below_of (c0 _)))
  repeat (go_big_quiet_step (fail))
  go_big_quiet_step ((go_at_call 11; exact below_of (n_any _ _)))
  repeat (go_big_quiet_step (fail))
  go_big_quiet_step ((go_at_call 15; exact below_of (s_any _ _)))
  repeat (go_big_quiet_step (fail))
  go_big_quiet_step ((go_at_call 40; exact below_of (c1 _)))
  repeat (go_big_quiet_step (fail))
  go_big_quiet_step ((go_at_call 15; exact below_of (s_any _ _)))
  repeat (go_big_quiet_step (fail))
  go_big_quiet_step ((go_at_call 15; exact below_of (s_any _ _)))
  repeat (go_big_quiet_step (fail))
  go_big_quiet_step ((go_at_call 40; exact below_of (c2 _)))
  repeat (go_big_quiet_step (fail))
  go_big_quiet_step ((go_at_call 11; exact below_of (n_any _ _)))
  repeat (go_big_quiet_step (fail))
  go_big_quiet_step ((go_at_call 11; exact below_of (n_any _ _)))
  repeat (go_big_quiet_step (fail))
  go_big_quiet_step ((go_at_call 40; exact below_of (c3 _)))
  repeat (go_big_quiet_step (fail))
  go_big_quiet_step ((go_at_call 11; exact below_of (n_any _ _)))
  repeat (go_big_quiet_step (fail))
  go_big_quiet_step ((go_at_call 11; exact below_of (n_any _ _)))
  repeat (go_big_quiet_step (fail))
  go_big_quiet_step ((go_at_call 41; exact below_of (c4 _)))
  repeat (go_big_quiet_step (fail))
  go_big_quiet_step ((go_at_call 41; exact below_of (c5 _)))
  repeat (go_big_quiet_step (fail))
  go_big_quiet_step ((go_at_call 15; exact below_of (s_any _ _)))
  repeat (go_big_quiet_step (fail))
  go_big_quiet_step ((go_at_call 41; exact below_of (c6 _)))
  repeat (go_big_quiet_step (fail))
  go_big_quiet_step ((go_at_call 11; exact below_of (n_any _ _)))
  repeat (go_big_quiet_step (fail))
  go_big_quiet_step ((go_at_call 41; exact below_of (c7 _)))
  repeat (go_big_quiet_step (fail))
  refine wpQuiet_nil ?_
  rintro w2 ⟨m2, rfl⟩
  have B2 := Lib.hid (bwOf_below W m2)
  clear q0 q1 q2
  generalize bwOf W m2 = w2 at *
  have z0 := (B2.out.cell (World.block_lt_of_cell? W _ (cell_of_block HH.out 0))).trans (cell_of_block HH.out 0)
  have z1 := (B2.out.cell (World.block_lt_of_cell? W _ (cell_of_block HH.out 1))).trans (cell_of_block HH.out 1)
  have z2 := (B2.out.cell (World.block_lt_of_cell? W _ (cell_of_block HH.out 2))).trans (cell_of_block HH.out 2)
  simp at z0 z1 z2
  go_wp2_with fail
  refine (n_any _ _).mono ?_
  rintro e w3 ⟨rfl, hb⟩
  have B3 := Lib.hid (below_next B2.out hb)
  clear hb
  go_wp2_with fail
  refine (truthOf_any 1 7 ⟨#[]⟩ _ (by omega)).mono ?_
  rintro e w4 ⟨he, hb⟩
  obtain rfl : e = .returned (.tuple #[.bool true, .bool true, .int .i64 0]) := he
  have B4 := Lib.hid (below_next B3.out hb)
  clear hb z0 z1 z2
  have z0 := (B4.out.cell (World.block_lt_of_cell? W _ (cell_of_block HH.out 0))).trans (cell_of_block HH.out 0)
  have z1 := (B4.out.cell (World.block_lt_of_cell? W _ (cell_of_block HH.out 1))).trans (cell_of_block HH.out 1)
  have z2 := (B4.out.cell (World.block_lt_of_cell? W _ (cell_of_block HH.out 2))).trans (cell_of_block HH.out 2)
  simp at z0 z1 z2
  go_wp2_with fail
  refine (truthOf_any 0 0 ⟨#[]⟩ _ (by omega)).mono ?_
  rintro e w5 ⟨he, hb⟩
  obtain rfl : e = .returned (.tuple #[.bool false, .bool false, .int .i64 0]) := he
  have B5 := Lib.hid (below_next B4.out hb)
  clear hb z0 z1 z2
  have HW5 := Lib.hid (HW.out.kept B5.out)
  have q0 := bwOf_cell w5 _ _ ((B5.out.cell (World.block_lt_of_cell? W _ (cell_of_block HH.out 0))).trans (cell_of_block HH.out 0))
  have q1 := bwOf_cell w5 _ _ ((B5.out.cell (World.block_lt_of_cell? W _ (cell_of_block HH.out 1))).trans (cell_of_block HH.out 1))
  have q2 := bwOf_cell w5 _ _ ((B5.out.cell (World.block_lt_of_cell? W _ (cell_of_block HH.out 2))).trans (cell_of_block HH.out 2))
  go_wp2_with fail
  refine wp_region_bw (w := w5) (by kernel_rfl) (by kernel_rfl) ?_
  simp only [List.append]
  repeat (go_big_quiet_step (fail))
  go_big_quiet_step ((go_at_call 11; exact below_of (n_any _ _)))
  repeat (go_big_quiet_step (fail))
  go_big_quiet_step ((go_at_call 11; exact below_of (n_any _ _)))
  repeat (go_big_quiet_step (fail))
  go_big_quiet_step ((go_at_call 11; exact below_of (n_any _ _)))
  repeat (go_big_quiet_step (fail))
  go_big_quiet_step ((go_at_call 12; exact below_of (c8 _ (HW5.out.kept (bwOf_below _ _)))))
  repeat (go_big_quiet_step (fail))
  go_big_quiet_step ((go_at_call 11; exact below_of (n_any _ _)))
  repeat (go_big_quiet_step (fail))
  go_big_quiet_step ((go_at_call 11; exact below_of (n_any _ _)))
  repeat (go_big_quiet_step (fail))
  go_big_quiet_step ((go_at_call 11; exact below_of (n_any _ _)))
  repeat (go_big_quiet_step (fail))
  go_big_quiet_step ((go_at_call 12; exact below_of (c9 _ (HW5.out.kept (bwOf_below _ _)))))
  repeat (go_big_quiet_step (fail))
  go_big_quiet_step ((go_at_call 11; exact below_of (n_any _ _)))
  repeat (go_big_quiet_step (fail))
  go_big_quiet_step ((go_at_call 11; exact below_of (n_any _ _)))
  repeat (go_big_quiet_step (fail))
  go_big_quiet_step ((go_at_call 12; exact below_of (c10 _ (HW5.out.kept (bwOf_below _ _)))))
  repeat (go_big_quiet_step (fail))
  go_big_quiet_step ((go_at_call 11; exact below_of (n_any _ _)))
  repeat (go_big_quiet_step (fail))
  go_big_quiet_step ((go_at_call 15; exact below_of (s_any _ _)))
  repeat (go_big_quiet_step (fail))
  go_big_quiet_step ((go_at_call 12; exact below_of (c11 _ (HW5.out.kept (bwOf_below _ _)))))
  repeat (go_big_quiet_step (fail))
  go_big_quiet_step ((go_at_call 15; exact below_of (s_any _ _)))
  repeat (go_big_quiet_step (fail))
  go_big_quiet_step ((go_at_call 12; exact below_of (c12 _ (HW5.out.kept (bwOf_below _ _)))))
  repeat (go_big_quiet_step (fail))
  go_big_quiet_step ((go_at_call 11; exact below_of (n_any _ _)))
  repeat (go_big_quiet_step (fail))
  go_big_quiet_step ((go_at_call 15; exact below_of (s_any _ _)))
  repeat (go_big_quiet_step (fail))
  go_big_quiet_step ((go_at_call 15; exact below_of (s_any _ _)))
  repeat (go_big_quiet_step (fail))
  go_big_quiet_step ((go_at_call 12; exact below_of (c13 _ (HW5.out.kept (bwOf_below _ _)))))
  repeat (go_big_quiet_step (fail))
  go_big_quiet_step ((go_at_call 11; exact below_of (n_any _ _)))
  repeat (go_big_quiet_step (fail))
  go_big_quiet_step ((go_at_call 15; exact below_of (s_any _ _)))
  repeat (go_big_quiet_step (fail))
  go_big_quiet_step ((go_at_call 11; exact below_of (n_any _ _)))
  repeat (go_big_quiet_step (fail))
  go_big_quiet_step ((go_at_call 12; exact below_of (c14 _ (HW5.out.kept (bwOf_below _ _)))))
  repeat (go_big_quiet_step (fail))
  go_big_quiet_step ((go_at_call 11; exact below_of (n_any _ _)))
  repeat (go_big_quiet_step (fail))
  go_big_quiet_step ((go_at_call 11; exact below_of (n_any _ _)))
  repeat (go_big_quiet_step (fail))
  go_big_quiet_step ((go_at_call 12; exact below_of (c15 _ (HW5.out.kept (bwOf_below _ _)))))
  repeat (go_big_quiet_step (fail))
  go_big_quiet_step ((go_at_call 11; exact below_of (n_any _ _)))
  repeat (go_big_quiet_step (fail))
  go_big_quiet_step ((go_at_call 12; exact below_of (c16 _ (HW5.out.kept (bwOf_below _ _)))))
  repeat (go_big_quiet_step (fail))
  go_big_quiet_step ((go_at_call 15; exact below_of (s_any _ _)))
  repeat (go_big_quiet_step (fail))
  go_big_quiet_step ((go_at_call 16; exact below_of (c17 _ (HW5.out.kept (bwOf_below _ _)))))
  repeat (go_big_quiet_step (fail))
  go_big_quiet_step ((go_at_call 11; exact below_of (n_any _ _)))
  repeat (go_big_quiet_step (fail))
  go_big_quiet_step ((go_at_call 16; exact below_of (c18 _ (HW5.out.kept (bwOf_below _ _)))))
  repeat (go_big_quiet_step (fail))
  refine wpQuiet_nil ?_
  rintro w6 ⟨m6, rfl⟩
  go_wp2
  go_ret
  exact ⟨rfl, (hB.out.trans (B5.out.mono hB.out.size)).trans ((bwOf_below w5 m6).mono (by have := B5.out.size; have := hB.out.size; omega))⟩
end Go.Proofs.YtjjfmmimmfihgaaDoor
