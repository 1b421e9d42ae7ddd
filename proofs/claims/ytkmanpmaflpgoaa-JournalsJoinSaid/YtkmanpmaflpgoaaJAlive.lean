/-
  WHAT IS PROVED: the chapter's answers, as the statements ask them (alive).
-/
import Derived.Test.YtkmanpmaflpgoaaJDisk
namespace Go.Proofs.Ytkmanpmaflpgoaa
open Go.RowKit Go.Lib

set_option maxRecDepth 100000 in
set_option maxHeartbeats 8000000 in
theorem alive_yes (w : World) : Calls Try.prog 13 #[] w fun e w' => e = .returned (.bool true) ∧ Below w.heap.size w w' := by
  have hm200 : ∀ W : World, (Instr.makeSlice 22 (.int .i64 200) (.int .i64 200)).run Try.prog W = .ok (.slice (some ⟨W.heap.size, 0, none⟩) 200 200) (W.alloc (.cells (zeros8 200) 5)) := run_make8 200 (by omega)
  have hm6 : ∀ W : World, (Instr.makeSlice 22 (.int .i64 65537) (.int .i64 65537)).run Try.prog W = .ok (.slice (some ⟨W.heap.size, 0, none⟩) 65537 65537) (W.alloc (.cells (zeros8 65537) 5)) := run_make8 65537 (by omega)
  have kc := fun (w : World) (C : Array Value) (n c : Nat) => Lib.run_convert_bytes_const (P := Try.prog) w 22 5 C n c Try.underlying22 Try.underlying5
  have p1 := Lib.hid (jM_add 10000 [] 0 [] (by simp) (by show (allB 0 [[]]).length ≤ _; rw [al_1]; omega) (by show (allB 0 [[]]).length ≤ _; rw [al_1]; omega))
  have p2 := Lib.hid (jM_add 10000 [[]] 0 [97] (by simp) (by show (allB 0 alA).length ≤ _; rw [al_2]; omega) (by show (allB 0 alA).length ≤ _; rw [al_2]; omega))
  have p3 := Lib.hid (jM_add 10000 alA 0 alZ (by rw [alZ_len]; omega) (by show (allB 0 alB).length ≤ _; rw [al_3]; omega) (by show (allB 0 alB).length ≤ _; rw [al_3]; omega))
  go_enter Try.func13, Try.ntmps13
  go_wp2_with fail
  refine (opened_x w w (Below.refl _ _) 10000 (by omega) (by omega)).mono ?_
  rintro e w1 ⟨d, j, rfl, h1⟩
  have H1 := Lib.hid h1
  clear h1
  go_wp2_with fail
  refine (add_x H1.out (by decide) none 0 0 [] (row_nil _) (k := 0) (by rw [show (jM 10000 [] 0).addE nJ 0 [] = 0 from p1.out.1]; rfl) (M' := jM 10000 (allB 0 [[]]) 0) p1.out.2.1 (stop' := (allB 0 [[]]).length) p1.out.2.2).mono ?_
  rintro e w2 ⟨rfl, h2⟩
  have H2 := Lib.hid h2
  clear h2
  go_wp2_with fail
  refine (add_x (H2.out.alloc _) (by decide) _ 1 1 [97] (row_new _ [97] 1 _ _ rfl rfl (by decide) (by omega)) (k := 0) (by rw [p2.out.1]; rfl) (M' := jM 10000 (allB 0 alA) 0) p2.out.2.1 (stop' := (allB 0 alA).length) p2.out.2.2).mono ?_
  rintro e w3 ⟨rfl, h3⟩
  have H3 := Lib.hid h3
  clear h3
  go_wp2_with fail
  refine (bytes_x H3.out nJ (by decide) (jM_all 10000 (allB 0 alA) 0)).mono ?_
  rintro e w4 ⟨ao4, c4, rfl, _, b4, _⟩
  rw [al_2]
  have H4 := Lib.hid (H3.out.kept b4)
  clear b4
  go_wp2_with fail
  refine (tells_x ((H4.out.alloc _).alloc _) nJ (by decide) (jM_miss _ _ _) (rs := alA) (by rw [jM_all]; exact (read_all alA).1) (some ⟨w4.heap.size + 1, 0, none⟩) 2 2 (by exact rowR_two _ [97] _ 1 _ _ (by simp) (row_new _ [97] 1 _ _ rfl rfl (by decide) (by omega)))).mono ?_
  rintro e w5 ⟨rfl, b5⟩
  have H5 := Lib.hid (((H4.out.alloc _).alloc _).kept b5)
  clear b5
  go_wp2_with fail
  refine (add_x (H5.out.alloc _) (by decide) _ 200 200 alZ (row_zeros _ 200 _ _ rfl (by omega)) (k := 0) (by rw [p3.out.1]; rfl) (M' := jM 10000 (allB 0 alB) 0) p3.out.2.1 (stop' := (allB 0 alB).length) p3.out.2.2).mono ?_
  rintro e w6 ⟨rfl, h6⟩
  have H6 := Lib.hid h6
  clear h6
  go_wp2_with fail
  refine (bytes_x H6.out nJ (by decide) (jM_all 10000 (allB 0 alB) 0)).mono ?_
  rintro e w7 ⟨ao7, c7, rfl, _, b7, _⟩
  rw [al_3]
  have H7 := Lib.hid (H6.out.kept b7)
  clear b7
  go_wp2_with fail
  refine (jsync_x H7.out (by decide) (k := 0) (by rw [jM_miss]; rfl) (M' := jM 10000 (allB 0 alB) (allB 0 alB).length) (jM_sync _ _ _)).mono ?_
  rintro e w8 ⟨rfl, h8⟩
  have H8 := Lib.hid h8
  clear h8
  go_wp2_with fail
  have p4 := jM_large 10000 (allB 0 alB) (allB 0 alB).length (allB 0 alB).length (List.replicate 65537 0) (by rw [List.length_replicate]; omega)
  refine (add_x (H8.out.alloc _) (by decide) _ 65537 65537 (List.replicate 65537 0) (row_zeros _ 65537 _ _ rfl (by omega)) (k := 3) (by rw [p4.1]; rfl) (M' := jM 10000 (allB 0 alB) (allB 0 alB).length) p4.2.1 (stop' := (allB 0 alB).length) p4.2.2).mono ?_
  clear p4
  rintro e w9 ⟨rfl, h9⟩
  have H9 := Lib.hid h9
  clear h9
  go_wp2_with fail
  have p5 := jM_append 10000 (allB 0 alB) [0] (allB 0 alB).length (by rw [al_3]; decide) (by rw [al_3]; decide)
  refine (append_x (H9.out.alloc _) nJ (by decide) _ 1 1 [0] (row_new _ [0] 1 _ _ rfl rfl (by decide) (by omega)) (k := 0) (by rw [show (jM 10000 (allB 0 alB) (allB 0 alB).length).appendE nJ 1 = 0 from p5.1]; rfl) p5.2).mono ?_
  clear p5
  rintro e w10 ⟨rfl, h10⟩
  have H10 := Lib.hid h10
  clear h10
  go_wp2_with fail
  have p6 := jM_stale 10000 (allB 0 alB ++ [0]) (allB 0 alB).length (allB 0 alB).length [98] (by decide) (by rw [List.length_append]; simp)
  have P6 := Lib.hid p6
  refine (add_x (H10.out.alloc _) (by decide) _ 1 1 [98] (row_new _ [98] 1 _ _ rfl rfl (by decide) (by omega)) (k := 9) (by rw [p6.1]; rfl) p6.2.1 p6.2.2).mono ?_
  clear p6
  rintro e w11 ⟨rfl, h11⟩
  have H11 := Lib.hid h11
  clear h11
  go_wp2_with fail
  have hrt := read_tail alB [0] (by unfold alB; simp) (by rw [List.length_append, al_3]; decide)
  refine (open_x H11.out nJ (by decide) (jM_miss _ _ _) (rs := alB) (stop := (allB 0 alB).length) (by rw [jM_all]; exact hrt.1) (by rw [jM_all]; exact hrt.2)).mono ?_
  clear hrt
  rintro e w12 ⟨⟨k, ao12, c12, rfl, h12, _, _⟩, _⟩
  rw [show alB.length = 3 from rfl]
  have H12 := Lib.hid h12
  clear h12
  go_wp2_with fail
  refine (add_x (H12.out.alloc _) (by decide) _ 1 1 [98] (row_new _ [98] 1 _ _ rfl rfl (by decide) (by omega)) (k := 9) (by rw [P6.out.1]; rfl) P6.out.2.1 P6.out.2.2).mono ?_
  rintro e w13 ⟨rfl, h13⟩
  have H13 := Lib.hid h13
  clear h13
  go_wp2
  go_ret
  exact ⟨rfl, H13.out.below⟩
end Go.Proofs.Ytkmanpmaflpgoaa
