/-
  WHAT IS PROVED: contract of Two at the operator 9.
-/
import Derived.Test.YtjjfmmimmfihgaaDoorValI
namespace Go.Proofs.YtjjfmmimmfihgaaDoor
open Go.RowKit Go.Lib
set_option linter.unusedVariables false

set_option maxRecDepth 100000 in
set_option maxHeartbeats 8000000 in
theorem two_op9 (k : Nat) (i : Int) (s : ByteArray) (l : Nat) (j : Int) (t : ByteArray) (w : World) (hk : k < 256) (hl : l < 256) (i0 : -9223372036854775808 ≤ i) (i1 : i ≤ 9223372036854775807) (j0 : -9223372036854775808 ≤ j) (j1 : j ≤ 9223372036854775807) (hw : Wd w) :
    Calls Tryd.prog 8 #[.int .u8 9, .agg #[.int .u8 (k : Int), .int .i64 i, .string s], .agg #[.int .u8 (l : Int), .int .i64 j, .string t]] w (Gives (Val.two 9 ⟨k, i, s⟩ ⟨l, j, t⟩) w) := by
  have H0 := Lib.hid (base3 w k i s l j t)
  have HW := Lib.hid hw
  clear hw
  have tok1 : True := trivial
  have hinfo : (Tryd.prog.info? 50).map (·.size) = some 19 := by kernel_rfl
  have hnil : ∀ (fn : Fn) (first cap : Array Value) (w : World), (binOp .eql 44 (.func fn first cap) .nilFunc).run Tryd.prog w = .ok (.bool false) w := fun _ _ _ _ => rfl
  by_cases hfa : Val.fine ⟨k, i, s⟩ = true
  · by_cases hfb : Val.fine ⟨l, j, t⟩ = true
    · have hr : Val.two 9 ⟨k, i, s⟩ ⟨l, j, t⟩ = Val.two0 9 ⟨k, i, s⟩ ⟨l, j, t⟩ := fine_two (by rw [hfa, hfb]; simp)
      go_enter Tryd.func8, Tryd.ntmps8
      go_wp2_with fail
      refine (onIntegers_made H0.out _).mono ?_
      rintro e w1 ⟨b1, rfl, h⟩
      have H1 := Lib.hid h
      clear h H0
      go_wp2_with fail
      refine (onIntegers_made H1.out _).mono ?_
      rintro e w2 ⟨b2, rfl, h⟩
      have H2 := Lib.hid h
      clear h H1
      go_wp2_with fail
      refine (onIntegers_made H2.out _).mono ?_
      rintro e w3 ⟨b3, rfl, h⟩
      have H3 := Lib.hid h
      clear h H2
      go_wp2_with fail
      refine (onIntegers_made H3.out _).mono ?_
      rintro e w4 ⟨b4, rfl, h⟩
      have H4 := Lib.hid h
      clear h H3
      go_wp2_with fail
      refine (onIntegers_made H4.out _).mono ?_
      rintro e w5 ⟨b5, rfl, h⟩
      have H5 := Lib.hid h
      clear h H4
      go_wp2_with fail
      refine (onOrder_made H5.out _).mono ?_
      rintro e w6 ⟨b6, rfl, h⟩
      have H6 := Lib.hid h
      clear h H5
      go_wp2_with fail
      refine (onOrder_made H6.out _).mono ?_
      rintro e w7 ⟨b7, rfl, h⟩
      have H7 := Lib.hid h
      clear h H6
      go_wp2_with fail
      refine (onOrder_made H7.out _).mono ?_
      rintro e w8 ⟨b8, rfl, h⟩
      have H8 := Lib.hid h
      clear h H7
      go_wp2_with fail
      refine (onOrder_made H8.out _).mono ?_
      rintro e w9 ⟨b9, rfl, h⟩
      have H9 := Lib.hid h
      clear h H8
      go_wp2_with fail
      refine (onOrder_made H9.out _).mono ?_
      rintro e w10 ⟨b10, rfl, h⟩
      have H10 := Lib.hid h
      clear h H9
      go_wp2_with fail
      refine (onOrder_made H10.out _).mono ?_
      rintro e w11 ⟨b11, rfl, h⟩
      have H11 := Lib.hid h
      clear h H10
      go_wp2_with fail
      refine (decided_fam H11.out _).mono ?_
      rintro e w12 ⟨b12, c12, rfl, h⟩
      have H12 := Lib.hid h
      clear h H11
      go_wp2_with fail
      refine (decided_fam H12.out _).mono ?_
      rintro e w13 ⟨b13, c13, rfl, h⟩
      have H13 := Lib.hid h
      clear h H12
      iterate 8 (first | go_values | go_skip | go_guarded | go_step | go_upon | go_back | go_simp)
      refine wpList_store_row rfl 50 (.tmp 8) (.tmp 22) rfl w13.heap.size _ rfl rfl _ _ (heap_alloc_new _ _) ?_ ?_ ?_ ?_
      exact hinfo
      rfl
      simp [Value.oneCell']
      obtain ⟨W, hW⟩ : ∃ W, W = (w13.alloc (.cells #[.nilFunc, .nilFunc, .nilFunc, .nilFunc, .nilFunc, .nilFunc, .nilFunc, .nilFunc, .nilFunc, .nilFunc, .nilFunc, .nilFunc, .nilFunc, .nilFunc, .nilFunc, .nilFunc, .nilFunc, .nilFunc, .nilFunc] 50)).setRow w13.heap.size #[.nilFunc, .nilFunc, .nilFunc, .nilFunc, .nilFunc, .func (.func 46) #[] #[.pointer (some ⟨b1, 0, none⟩)], .func (.func 46) #[] #[.pointer (some ⟨b2, 0, none⟩)], .func (.func 46) #[] #[.pointer (some ⟨b3, 0, none⟩)], .func (.func 46) #[] #[.pointer (some ⟨b4, 0, none⟩)], .func (.func 46) #[] #[.pointer (some ⟨b5, 0, none⟩)], .func (.func 23) #[] #[], .func (.func 51) #[] #[.pointer (some ⟨b6, 0, none⟩)], .func (.func 51) #[] #[.pointer (some ⟨b7, 0, none⟩)], .func (.func 51) #[] #[.pointer (some ⟨b8, 0, none⟩)], .func (.func 51) #[] #[.pointer (some ⟨b9, 0, none⟩)], .func (.func 51) #[] #[.pointer (some ⟨b10, 0, none⟩)], .func (.func 51) #[] #[.pointer (some ⟨b11, 0, none⟩)], .func (.func 54) #[] #[.pointer (some ⟨b12, 0, none⟩), .pointer (some ⟨c12, 0, none⟩)], .func (.func 54) #[] #[.pointer (some ⟨b13, 0, none⟩), .pointer (some ⟨c13, 0, none⟩)]] := ⟨_, rfl⟩
      rw [← hW]
      have HF := Lib.hid (H13.out.row #[.nilFunc, .nilFunc, .nilFunc, .nilFunc, .nilFunc, .nilFunc, .nilFunc, .nilFunc, .nilFunc, .nilFunc, .nilFunc, .nilFunc, .nilFunc, .nilFunc, .nilFunc, .nilFunc, .nilFunc, .nilFunc, .nilFunc] #[.nilFunc, .nilFunc, .nilFunc, .nilFunc, .nilFunc, .func (.func 46) #[] #[.pointer (some ⟨b1, 0, none⟩)], .func (.func 46) #[] #[.pointer (some ⟨b2, 0, none⟩)], .func (.func 46) #[] #[.pointer (some ⟨b3, 0, none⟩)], .func (.func 46) #[] #[.pointer (some ⟨b4, 0, none⟩)], .func (.func 46) #[] #[.pointer (some ⟨b5, 0, none⟩)], .func (.func 23) #[] #[], .func (.func 51) #[] #[.pointer (some ⟨b6, 0, none⟩)], .func (.func 51) #[] #[.pointer (some ⟨b7, 0, none⟩)], .func (.func 51) #[] #[.pointer (some ⟨b8, 0, none⟩)], .func (.func 51) #[] #[.pointer (some ⟨b9, 0, none⟩)], .func (.func 51) #[] #[.pointer (some ⟨b10, 0, none⟩)], .func (.func 51) #[] #[.pointer (some ⟨b11, 0, none⟩)], .func (.func 54) #[] #[.pointer (some ⟨b12, 0, none⟩), .pointer (some ⟨c12, 0, none⟩)], .func (.func 54) #[] #[.pointer (some ⟨b13, 0, none⟩), .pointer (some ⟨c13, 0, none⟩)]] 50)
      rw [← hW] at HF
      obtain ⟨y0, y1, y3⟩ := H13.out.z
      clear H13 hW
      have sb : W.cell? ⟨w13.heap.size, 9, none⟩ = some (.func (.func 46) #[] #[.pointer (some ⟨b5, 0, none⟩)]) := HF.out.cell (b := w13.heap.size) (cs := #[.nilFunc, .nilFunc, .nilFunc, .nilFunc, .nilFunc, .func (.func 46) #[] #[.pointer (some ⟨b1, 0, none⟩)], .func (.func 46) #[] #[.pointer (some ⟨b2, 0, none⟩)], .func (.func 46) #[] #[.pointer (some ⟨b3, 0, none⟩)], .func (.func 46) #[] #[.pointer (some ⟨b4, 0, none⟩)], .func (.func 46) #[] #[.pointer (some ⟨b5, 0, none⟩)], .func (.func 23) #[] #[], .func (.func 51) #[] #[.pointer (some ⟨b6, 0, none⟩)], .func (.func 51) #[] #[.pointer (some ⟨b7, 0, none⟩)], .func (.func 51) #[] #[.pointer (some ⟨b8, 0, none⟩)], .func (.func 51) #[] #[.pointer (some ⟨b9, 0, none⟩)], .func (.func 51) #[] #[.pointer (some ⟨b10, 0, none⟩)], .func (.func 51) #[] #[.pointer (some ⟨b11, 0, none⟩)], .func (.func 54) #[] #[.pointer (some ⟨b12, 0, none⟩), .pointer (some ⟨c12, 0, none⟩)], .func (.func 54) #[] #[.pointer (some ⟨b13, 0, none⟩), .pointer (some ⟨c13, 0, none⟩)]]) (t := 50) (fr := (0, 0)) (List.mem_cons_self ..) 9
      obtain ⟨s0, s1, s2, s3, s4, s5⟩ := HF.out.s (k := k) (i := i) (s := s) (l := l) (j := j) (t := t) (fun x hx => by simp only [List.mem_cons, hx, or_true])
      obtain ⟨⟨r0, r1, r2⟩, ⟨f0, f1, f2⟩, y2⟩ := HF.out.r (k := k) (i := i) (s := s) (l := l) (j := j) (t := t) (fun x hx => by simp only [List.mem_cons, hx, or_true])
      go_wp2_with (first | (go_at_call 32; guard_hyp tok1; refine (check_any k i s _ hk).mono ?_; rw [hfa]; rintro e v1 ⟨rfl, hb⟩; have HF1 := Lib.hid (HF.out.kept hb); clear tok1 hb HF; clear s0 s1 s2 s3 s4 s5 r0 r1 r2 f0 f1 f2 y2;have sb : v1.cell? ⟨w13.heap.size, 9, none⟩ = some (.func (.func 46) #[] #[.pointer (some ⟨b5, 0, none⟩)]) := HF1.out.cell (b := w13.heap.size) (cs := #[.nilFunc, .nilFunc, .nilFunc, .nilFunc, .nilFunc, .func (.func 46) #[] #[.pointer (some ⟨b1, 0, none⟩)], .func (.func 46) #[] #[.pointer (some ⟨b2, 0, none⟩)], .func (.func 46) #[] #[.pointer (some ⟨b3, 0, none⟩)], .func (.func 46) #[] #[.pointer (some ⟨b4, 0, none⟩)], .func (.func 46) #[] #[.pointer (some ⟨b5, 0, none⟩)], .func (.func 23) #[] #[], .func (.func 51) #[] #[.pointer (some ⟨b6, 0, none⟩)], .func (.func 51) #[] #[.pointer (some ⟨b7, 0, none⟩)], .func (.func 51) #[] #[.pointer (some ⟨b8, 0, none⟩)], .func (.func 51) #[] #[.pointer (some ⟨b9, 0, none⟩)], .func (.func 51) #[] #[.pointer (some ⟨b10, 0, none⟩)], .func (.func 51) #[] #[.pointer (some ⟨b11, 0, none⟩)], .func (.func 54) #[] #[.pointer (some ⟨b12, 0, none⟩), .pointer (some ⟨c12, 0, none⟩)], .func (.func 54) #[] #[.pointer (some ⟨b13, 0, none⟩), .pointer (some ⟨c13, 0, none⟩)]]) (t := 50) (fr := (0, 0)) (List.mem_cons_self ..) 9;obtain ⟨s0, s1, s2, s3, s4, s5⟩ := HF1.out.s (k := k) (i := i) (s := s) (l := l) (j := j) (t := t) (fun x hx => by simp only [List.mem_cons, hx, or_true]);obtain ⟨⟨r0, r1, r2⟩, ⟨f0, f1, f2⟩, y2⟩ := HF1.out.r (k := k) (i := i) (s := s) (l := l) (j := j) (t := t) (fun x hx => by simp only [List.mem_cons, hx, or_true])) | (go_at_call 32; refine (check_any l j t _ hl).mono ?_; rw [hfb]; rintro e v2 ⟨rfl, hb⟩; have HF2 := Lib.hid (HF1.out.kept hb); clear sb hb; clear s0 s1 s2 s3 s4 s5 r0 r1 r2 f0 f1 f2 y2;have sb : v2.cell? ⟨w13.heap.size, 9, none⟩ = some (.func (.func 46) #[] #[.pointer (some ⟨b5, 0, none⟩)]) := HF2.out.cell (b := w13.heap.size) (cs := #[.nilFunc, .nilFunc, .nilFunc, .nilFunc, .nilFunc, .func (.func 46) #[] #[.pointer (some ⟨b1, 0, none⟩)], .func (.func 46) #[] #[.pointer (some ⟨b2, 0, none⟩)], .func (.func 46) #[] #[.pointer (some ⟨b3, 0, none⟩)], .func (.func 46) #[] #[.pointer (some ⟨b4, 0, none⟩)], .func (.func 46) #[] #[.pointer (some ⟨b5, 0, none⟩)], .func (.func 23) #[] #[], .func (.func 51) #[] #[.pointer (some ⟨b6, 0, none⟩)], .func (.func 51) #[] #[.pointer (some ⟨b7, 0, none⟩)], .func (.func 51) #[] #[.pointer (some ⟨b8, 0, none⟩)], .func (.func 51) #[] #[.pointer (some ⟨b9, 0, none⟩)], .func (.func 51) #[] #[.pointer (some ⟨b10, 0, none⟩)], .func (.func 51) #[] #[.pointer (some ⟨b11, 0, none⟩)], .func (.func 54) #[] #[.pointer (some ⟨b12, 0, none⟩), .pointer (some ⟨c12, 0, none⟩)], .func (.func 54) #[] #[.pointer (some ⟨b13, 0, none⟩), .pointer (some ⟨c13, 0, none⟩)]]) (t := 50) (fr := (0, 0)) (List.mem_cons_self ..) 9;obtain ⟨s0, s1, s2, s3, s4, s5⟩ := HF2.out.s (k := k) (i := i) (s := s) (l := l) (j := j) (t := t) (fun x hx => by simp only [List.mem_cons, hx, or_true]);obtain ⟨⟨r0, r1, r2⟩, ⟨f0, f1, f2⟩, y2⟩ := HF2.out.r (k := k) (i := i) (s := s) (l := l) (j := j) (t := t) (fun x hx => by simp only [List.mem_cons, hx, or_true])))
      clear r0 r1 r2 f0 f1 f2 y2
      go_region_held3 (fun x => x.cell? ⟨w13.heap.size, 9, none⟩ = some (.func (.func 46) #[] #[.pointer (some ⟨b5, 0, none⟩)]) ∧ x.cell? ⟨w.heap.size, 0, none⟩ = some (.int .u8 (k : Int)) ∧ x.cell? ⟨w.heap.size, 1, none⟩ = some (.int .i64 i) ∧ x.cell? ⟨w.heap.size, 2, none⟩ = some (.string s) ∧
          x.cell? ⟨w.heap.size + 1, 0, none⟩ = some (.int .u8 (l : Int)) ∧ x.cell? ⟨w.heap.size + 1, 1, none⟩ = some (.int .i64 j) ∧ x.cell? ⟨w.heap.size + 1, 2, none⟩ = some (.string t))
        (first | exact ⟨sb, s0, s1, s2, s3, s4, s5⟩ | exact SS.out | exact ⟨(set3_other (by omega) _ _ _ _).trans SS.out.1, (set3_other (by omega) _ _ _ _).trans SS.out.2.1, (set3_other (by omega) _ _ _ _).trans SS.out.2.2.1, (set3_other (by omega) _ _ _ _).trans SS.out.2.2.2.1, (set3_other (by omega) _ _ _ _).trans SS.out.2.2.2.2.1, (set3_other (by omega) _ _ _ _).trans SS.out.2.2.2.2.2.1, (set3_other (by omega) _ _ _ _).trans SS.out.2.2.2.2.2.2⟩) ((first
        | (go_at_call 46; refine (on_remainder b5 k i s l j t _ hk hl i0 i1 j0 j1 ((HF2.out.kept (Below.refl _ _).drew).cell (b := b5) (cs := #[.func (.func 22) #[] #[]]) (t := 46) (fr := (0, 0)) (List.mem_cons_of_mem _ (List.mem_cons_of_mem _ (List.mem_cons_of_mem _ (List.mem_cons_of_mem _ (List.mem_cons_of_mem _ (List.mem_cons_of_mem _ (List.mem_cons_of_mem _ (List.mem_cons_of_mem _ (List.mem_cons_of_mem _ (List.mem_cons_of_mem _ (List.mem_cons_of_mem _ (List.mem_cons_self ..)))))))))))) 0)).mono ?_; rintro e v3 ⟨rfl, hb⟩; have HF3 := Lib.hid (HF2.out.kept (below_drew hb)); have SS := Lib.hid (And.intro (show v3.cell? ⟨w13.heap.size, 9, none⟩ = some (.func (.func 46) #[] #[.pointer (some ⟨b5, 0, none⟩)]) from HF3.out.cell (b := w13.heap.size) (cs := #[.nilFunc, .nilFunc, .nilFunc, .nilFunc, .nilFunc, .func (.func 46) #[] #[.pointer (some ⟨b1, 0, none⟩)], .func (.func 46) #[] #[.pointer (some ⟨b2, 0, none⟩)], .func (.func 46) #[] #[.pointer (some ⟨b3, 0, none⟩)], .func (.func 46) #[] #[.pointer (some ⟨b4, 0, none⟩)], .func (.func 46) #[] #[.pointer (some ⟨b5, 0, none⟩)], .func (.func 23) #[] #[], .func (.func 51) #[] #[.pointer (some ⟨b6, 0, none⟩)], .func (.func 51) #[] #[.pointer (some ⟨b7, 0, none⟩)], .func (.func 51) #[] #[.pointer (some ⟨b8, 0, none⟩)], .func (.func 51) #[] #[.pointer (some ⟨b9, 0, none⟩)], .func (.func 51) #[] #[.pointer (some ⟨b10, 0, none⟩)], .func (.func 51) #[] #[.pointer (some ⟨b11, 0, none⟩)], .func (.func 54) #[] #[.pointer (some ⟨b12, 0, none⟩), .pointer (some ⟨c12, 0, none⟩)], .func (.func 54) #[] #[.pointer (some ⟨b13, 0, none⟩), .pointer (some ⟨c13, 0, none⟩)]]) (t := 50) (fr := (0, 0)) (List.mem_cons_self ..) 9) (HF3.out.s (k := k) (i := i) (s := s) (l := l) (j := j) (t := t) (fun x hx => by simp only [List.mem_cons, hx, or_true]))); clear hb; obtain ⟨⟨r0, r1, r2⟩, ⟨f0, f1, f2⟩, y2⟩ := HF3.out.r (k := k) (i := i) (s := s) (l := l) (j := j) (t := t) (fun x hx => by simp only [List.mem_cons, hx, or_true]))))
      go_wp2
      exact bodyPost_ret (v := .tuple #[.agg #[.int .u8 ((Val.two0 9 ⟨k, i, s⟩ ⟨l, j, t⟩).1.k : Int), .int .i64 (Val.two0 9 ⟨k, i, s⟩ ⟨l, j, t⟩).1.i, .string (Val.two0 9 ⟨k, i, s⟩ ⟨l, j, t⟩).1.s], .int .i64 ((Val.two0 9 ⟨k, i, s⟩ ⟨l, j, t⟩).2 : Int)]) (by simp [results, go_sem, r0, r1, r2]) rfl (some_gives hr (below_set3 (b := w.heap.size + 1 + 1) HF3.out.below (by omega) _ _ _))
    · rw [Bool.not_eq_true] at hfb
      have hr : Val.two 9 ⟨k, i, s⟩ ⟨l, j, t⟩ = (Val.nil, 1) := nil_two (by rw [hfb]; simp)
      go_enter Tryd.func8, Tryd.ntmps8
      go_wp2_with fail
      refine (onIntegers_made H0.out _).mono ?_
      rintro e w1 ⟨b1, rfl, h⟩
      have H1 := Lib.hid h
      clear h H0
      go_wp2_with fail
      refine (onIntegers_made H1.out _).mono ?_
      rintro e w2 ⟨b2, rfl, h⟩
      have H2 := Lib.hid h
      clear h H1
      go_wp2_with fail
      refine (onIntegers_made H2.out _).mono ?_
      rintro e w3 ⟨b3, rfl, h⟩
      have H3 := Lib.hid h
      clear h H2
      go_wp2_with fail
      refine (onIntegers_made H3.out _).mono ?_
      rintro e w4 ⟨b4, rfl, h⟩
      have H4 := Lib.hid h
      clear h H3
      go_wp2_with fail
      refine (onIntegers_made H4.out _).mono ?_
      rintro e w5 ⟨b5, rfl, h⟩
      have H5 := Lib.hid h
      clear h H4
      go_wp2_with fail
      refine (onOrder_made H5.out _).mono ?_
      rintro e w6 ⟨b6, rfl, h⟩
      have H6 := Lib.hid h
      clear h H5
      go_wp2_with fail
      refine (onOrder_made H6.out _).mono ?_
      rintro e w7 ⟨b7, rfl, h⟩
      have H7 := Lib.hid h
      clear h H6
      go_wp2_with fail
      refine (onOrder_made H7.out _).mono ?_
      rintro e w8 ⟨b8, rfl, h⟩
      have H8 := Lib.hid h
      clear h H7
      go_wp2_with fail
      refine (onOrder_made H8.out _).mono ?_
      rintro e w9 ⟨b9, rfl, h⟩
      have H9 := Lib.hid h
      clear h H8
      go_wp2_with fail
      refine (onOrder_made H9.out _).mono ?_
      rintro e w10 ⟨b10, rfl, h⟩
      have H10 := Lib.hid h
      clear h H9
      go_wp2_with fail
      refine (onOrder_made H10.out _).mono ?_
      rintro e w11 ⟨b11, rfl, h⟩
      have H11 := Lib.hid h
      clear h H10
      go_wp2_with fail
      refine (decided_fam H11.out _).mono ?_
      rintro e w12 ⟨b12, c12, rfl, h⟩
      have H12 := Lib.hid h
      clear h H11
      go_wp2_with fail
      refine (decided_fam H12.out _).mono ?_
      rintro e w13 ⟨b13, c13, rfl, h⟩
      have H13 := Lib.hid h
      clear h H12
      iterate 8 (first | go_values | go_skip | go_guarded | go_step | go_upon | go_back | go_simp)
      refine wpList_store_row rfl 50 (.tmp 8) (.tmp 22) rfl w13.heap.size _ rfl rfl _ _ (heap_alloc_new _ _) ?_ ?_ ?_ ?_
      exact hinfo
      rfl
      simp [Value.oneCell']
      obtain ⟨W, hW⟩ : ∃ W, W = (w13.alloc (.cells #[.nilFunc, .nilFunc, .nilFunc, .nilFunc, .nilFunc, .nilFunc, .nilFunc, .nilFunc, .nilFunc, .nilFunc, .nilFunc, .nilFunc, .nilFunc, .nilFunc, .nilFunc, .nilFunc, .nilFunc, .nilFunc, .nilFunc] 50)).setRow w13.heap.size #[.nilFunc, .nilFunc, .nilFunc, .nilFunc, .nilFunc, .func (.func 46) #[] #[.pointer (some ⟨b1, 0, none⟩)], .func (.func 46) #[] #[.pointer (some ⟨b2, 0, none⟩)], .func (.func 46) #[] #[.pointer (some ⟨b3, 0, none⟩)], .func (.func 46) #[] #[.pointer (some ⟨b4, 0, none⟩)], .func (.func 46) #[] #[.pointer (some ⟨b5, 0, none⟩)], .func (.func 23) #[] #[], .func (.func 51) #[] #[.pointer (some ⟨b6, 0, none⟩)], .func (.func 51) #[] #[.pointer (some ⟨b7, 0, none⟩)], .func (.func 51) #[] #[.pointer (some ⟨b8, 0, none⟩)], .func (.func 51) #[] #[.pointer (some ⟨b9, 0, none⟩)], .func (.func 51) #[] #[.pointer (some ⟨b10, 0, none⟩)], .func (.func 51) #[] #[.pointer (some ⟨b11, 0, none⟩)], .func (.func 54) #[] #[.pointer (some ⟨b12, 0, none⟩), .pointer (some ⟨c12, 0, none⟩)], .func (.func 54) #[] #[.pointer (some ⟨b13, 0, none⟩), .pointer (some ⟨c13, 0, none⟩)]] := ⟨_, rfl⟩
      rw [← hW]
      have HF := Lib.hid (H13.out.row #[.nilFunc, .nilFunc, .nilFunc, .nilFunc, .nilFunc, .nilFunc, .nilFunc, .nilFunc, .nilFunc, .nilFunc, .nilFunc, .nilFunc, .nilFunc, .nilFunc, .nilFunc, .nilFunc, .nilFunc, .nilFunc, .nilFunc] #[.nilFunc, .nilFunc, .nilFunc, .nilFunc, .nilFunc, .func (.func 46) #[] #[.pointer (some ⟨b1, 0, none⟩)], .func (.func 46) #[] #[.pointer (some ⟨b2, 0, none⟩)], .func (.func 46) #[] #[.pointer (some ⟨b3, 0, none⟩)], .func (.func 46) #[] #[.pointer (some ⟨b4, 0, none⟩)], .func (.func 46) #[] #[.pointer (some ⟨b5, 0, none⟩)], .func (.func 23) #[] #[], .func (.func 51) #[] #[.pointer (some ⟨b6, 0, none⟩)], .func (.func 51) #[] #[.pointer (some ⟨b7, 0, none⟩)], .func (.func 51) #[] #[.pointer (some ⟨b8, 0, none⟩)], .func (.func 51) #[] #[.pointer (some ⟨b9, 0, none⟩)], .func (.func 51) #[] #[.pointer (some ⟨b10, 0, none⟩)], .func (.func 51) #[] #[.pointer (some ⟨b11, 0, none⟩)], .func (.func 54) #[] #[.pointer (some ⟨b12, 0, none⟩), .pointer (some ⟨c12, 0, none⟩)], .func (.func 54) #[] #[.pointer (some ⟨b13, 0, none⟩), .pointer (some ⟨c13, 0, none⟩)]] 50)
      rw [← hW] at HF
      obtain ⟨y0, y1, y3⟩ := H13.out.z
      clear H13 hW
      have sb : W.cell? ⟨w13.heap.size, 9, none⟩ = some (.func (.func 46) #[] #[.pointer (some ⟨b5, 0, none⟩)]) := HF.out.cell (b := w13.heap.size) (cs := #[.nilFunc, .nilFunc, .nilFunc, .nilFunc, .nilFunc, .func (.func 46) #[] #[.pointer (some ⟨b1, 0, none⟩)], .func (.func 46) #[] #[.pointer (some ⟨b2, 0, none⟩)], .func (.func 46) #[] #[.pointer (some ⟨b3, 0, none⟩)], .func (.func 46) #[] #[.pointer (some ⟨b4, 0, none⟩)], .func (.func 46) #[] #[.pointer (some ⟨b5, 0, none⟩)], .func (.func 23) #[] #[], .func (.func 51) #[] #[.pointer (some ⟨b6, 0, none⟩)], .func (.func 51) #[] #[.pointer (some ⟨b7, 0, none⟩)], .func (.func 51) #[] #[.pointer (some ⟨b8, 0, none⟩)], .func (.func 51) #[] #[.pointer (some ⟨b9, 0, none⟩)], .func (.func 51) #[] #[.pointer (some ⟨b10, 0, none⟩)], .func (.func 51) #[] #[.pointer (some ⟨b11, 0, none⟩)], .func (.func 54) #[] #[.pointer (some ⟨b12, 0, none⟩), .pointer (some ⟨c12, 0, none⟩)], .func (.func 54) #[] #[.pointer (some ⟨b13, 0, none⟩), .pointer (some ⟨c13, 0, none⟩)]]) (t := 50) (fr := (0, 0)) (List.mem_cons_self ..) 9
      obtain ⟨s0, s1, s2, s3, s4, s5⟩ := HF.out.s (k := k) (i := i) (s := s) (l := l) (j := j) (t := t) (fun x hx => by simp only [List.mem_cons, hx, or_true])
      obtain ⟨⟨r0, r1, r2⟩, ⟨f0, f1, f2⟩, y2⟩ := HF.out.r (k := k) (i := i) (s := s) (l := l) (j := j) (t := t) (fun x hx => by simp only [List.mem_cons, hx, or_true])
      go_wp2_with (first | (go_at_call 32; guard_hyp tok1; refine (check_any k i s _ hk).mono ?_; rw [hfa]; rintro e v1 ⟨rfl, hb⟩; have HF1 := Lib.hid (HF.out.kept hb); clear tok1 hb HF; clear s0 s1 s2 s3 s4 s5 r0 r1 r2 f0 f1 f2 y2;have sb : v1.cell? ⟨w13.heap.size, 9, none⟩ = some (.func (.func 46) #[] #[.pointer (some ⟨b5, 0, none⟩)]) := HF1.out.cell (b := w13.heap.size) (cs := #[.nilFunc, .nilFunc, .nilFunc, .nilFunc, .nilFunc, .func (.func 46) #[] #[.pointer (some ⟨b1, 0, none⟩)], .func (.func 46) #[] #[.pointer (some ⟨b2, 0, none⟩)], .func (.func 46) #[] #[.pointer (some ⟨b3, 0, none⟩)], .func (.func 46) #[] #[.pointer (some ⟨b4, 0, none⟩)], .func (.func 46) #[] #[.pointer (some ⟨b5, 0, none⟩)], .func (.func 23) #[] #[], .func (.func 51) #[] #[.pointer (some ⟨b6, 0, none⟩)], .func (.func 51) #[] #[.pointer (some ⟨b7, 0, none⟩)], .func (.func 51) #[] #[.pointer (some ⟨b8, 0, none⟩)], .func (.func 51) #[] #[.pointer (some ⟨b9, 0, none⟩)], .func (.func 51) #[] #[.pointer (some ⟨b10, 0, none⟩)], .func (.func 51) #[] #[.pointer (some ⟨b11, 0, none⟩)], .func (.func 54) #[] #[.pointer (some ⟨b12, 0, none⟩), .pointer (some ⟨c12, 0, none⟩)], .func (.func 54) #[] #[.pointer (some ⟨b13, 0, none⟩), .pointer (some ⟨c13, 0, none⟩)]]) (t := 50) (fr := (0, 0)) (List.mem_cons_self ..) 9;obtain ⟨s0, s1, s2, s3, s4, s5⟩ := HF1.out.s (k := k) (i := i) (s := s) (l := l) (j := j) (t := t) (fun x hx => by simp only [List.mem_cons, hx, or_true]);obtain ⟨⟨r0, r1, r2⟩, ⟨f0, f1, f2⟩, y2⟩ := HF1.out.r (k := k) (i := i) (s := s) (l := l) (j := j) (t := t) (fun x hx => by simp only [List.mem_cons, hx, or_true])) | (go_at_call 32; refine (check_any l j t _ hl).mono ?_; rw [hfb]; rintro e v2 ⟨rfl, hb⟩; have HF2 := Lib.hid (HF1.out.kept hb); clear sb hb; clear s0 s1 s2 s3 s4 s5 r0 r1 r2 f0 f1 f2 y2;have sb : v2.cell? ⟨w13.heap.size, 9, none⟩ = some (.func (.func 46) #[] #[.pointer (some ⟨b5, 0, none⟩)]) := HF2.out.cell (b := w13.heap.size) (cs := #[.nilFunc, .nilFunc, .nilFunc, .nilFunc, .nilFunc, .func (.func 46) #[] #[.pointer (some ⟨b1, 0, none⟩)], .func (.func 46) #[] #[.pointer (some ⟨b2, 0, none⟩)], .func (.func 46) #[] #[.pointer (some ⟨b3, 0, none⟩)], .func (.func 46) #[] #[.pointer (some ⟨b4, 0, none⟩)], .func (.func 46) #[] #[.pointer (some ⟨b5, 0, none⟩)], .func (.func 23) #[] #[], .func (.func 51) #[] #[.pointer (some ⟨b6, 0, none⟩)], .func (.func 51) #[] #[.pointer (some ⟨b7, 0, none⟩)], .func (.func 51) #[] #[.pointer (some ⟨b8, 0, none⟩)], .func (.func 51) #[] #[.pointer (some ⟨b9, 0, none⟩)], .func (.func 51) #[] #[.pointer (some ⟨b10, 0, none⟩)], .func (.func 51) #[] #[.pointer (some ⟨b11, 0, none⟩)], .func (.func 54) #[] #[.pointer (some ⟨b12, 0, none⟩), .pointer (some ⟨c12, 0, none⟩)], .func (.func 54) #[] #[.pointer (some ⟨b13, 0, none⟩), .pointer (some ⟨c13, 0, none⟩)]]) (t := 50) (fr := (0, 0)) (List.mem_cons_self ..) 9;obtain ⟨s0, s1, s2, s3, s4, s5⟩ := HF2.out.s (k := k) (i := i) (s := s) (l := l) (j := j) (t := t) (fun x hx => by simp only [List.mem_cons, hx, or_true]);obtain ⟨⟨r0, r1, r2⟩, ⟨f0, f1, f2⟩, y2⟩ := HF2.out.r (k := k) (i := i) (s := s) (l := l) (j := j) (t := t) (fun x hx => by simp only [List.mem_cons, hx, or_true])))
      exact bodyPost_ret (v := .tuple #[.agg #[.int .u8 0, .int .i64 0, .string ⟨#[]⟩], .int .i64 1]) (by simp [results, go_sem, r0, r1, r2]) rfl (nil_gives hr (below_set3 (b := w.heap.size + 1 + 1) HF2.out.below (by omega) _ _ _))
  · rw [Bool.not_eq_true] at hfa
    have hr : Val.two 9 ⟨k, i, s⟩ ⟨l, j, t⟩ = (Val.nil, 1) := nil_two (by rw [hfa]; simp)
    go_enter Tryd.func8, Tryd.ntmps8
    go_wp2_with fail
    refine (onIntegers_made H0.out _).mono ?_
    rintro e w1 ⟨b1, rfl, h⟩
    have H1 := Lib.hid h
    clear h H0
    go_wp2_with fail
    refine (onIntegers_made H1.out _).mono ?_
    rintro e w2 ⟨b2, rfl, h⟩
    have H2 := Lib.hid h
    clear h H1
    go_wp2_with fail
    refine (onIntegers_made H2.out _).mono ?_
    rintro e w3 ⟨b3, rfl, h⟩
    have H3 := Lib.hid h
    clear h H2
    go_wp2_with fail
    refine (onIntegers_made H3.out _).mono ?_
    rintro e w4 ⟨b4, rfl, h⟩
    have H4 := Lib.hid h
    clear h H3
    go_wp2_with fail
    refine (onIntegers_made H4.out _).mono ?_
    rintro e w5 ⟨b5, rfl, h⟩
    have H5 := Lib.hid h
    clear h H4
    go_wp2_with fail
    refine (onOrder_made H5.out _).mono ?_
    rintro e w6 ⟨b6, rfl, h⟩
    have H6 := Lib.hid h
    clear h H5
    go_wp2_with fail
    refine (onOrder_made H6.out _).mono ?_
    rintro e w7 ⟨b7, rfl, h⟩
    have H7 := Lib.hid h
    clear h H6
    go_wp2_with fail
    refine (onOrder_made H7.out _).mono ?_
    rintro e w8 ⟨b8, rfl, h⟩
    have H8 := Lib.hid h
    clear h H7
    go_wp2_with fail
    refine (onOrder_made H8.out _).mono ?_
    rintro e w9 ⟨b9, rfl, h⟩
    have H9 := Lib.hid h
    clear h H8
    go_wp2_with fail
    refine (onOrder_made H9.out _).mono ?_
    rintro e w10 ⟨b10, rfl, h⟩
    have H10 := Lib.hid h
    clear h H9
    go_wp2_with fail
    refine (onOrder_made H10.out _).mono ?_
    rintro e w11 ⟨b11, rfl, h⟩
    have H11 := Lib.hid h
    clear h H10
    go_wp2_with fail
    refine (decided_fam H11.out _).mono ?_
    rintro e w12 ⟨b12, c12, rfl, h⟩
    have H12 := Lib.hid h
    clear h H11
    go_wp2_with fail
    refine (decided_fam H12.out _).mono ?_
    rintro e w13 ⟨b13, c13, rfl, h⟩
    have H13 := Lib.hid h
    clear h H12
    iterate 8 (first | go_values | go_skip | go_guarded | go_step | go_upon | go_back | go_simp)
    refine wpList_store_row rfl 50 (.tmp 8) (.tmp 22) rfl w13.heap.size _ rfl rfl _ _ (heap_alloc_new _ _) ?_ ?_ ?_ ?_
    exact hinfo
    rfl
    simp [Value.oneCell']
    obtain ⟨W, hW⟩ : ∃ W, W = (w13.alloc (.cells #[.nilFunc, .nilFunc, .nilFunc, .nilFunc, .nilFunc, .nilFunc, .nilFunc, .nilFunc, .nilFunc, .nilFunc, .nilFunc, .nilFunc, .nilFunc, .nilFunc, .nilFunc, .nilFunc, .nilFunc, .nilFunc, .nilFunc] 50)).setRow w13.heap.size #[.nilFunc, .nilFunc, .nilFunc, .nilFunc, .nilFunc, .func (.func 46) #[] #[.pointer (some ⟨b1, 0, none⟩)], .func (.func 46) #[] #[.pointer (some ⟨b2, 0, none⟩)], .func (.func 46) #[] #[.pointer (some ⟨b3, 0, none⟩)], .func (.func 46) #[] #[.pointer (some ⟨b4, 0, none⟩)], .func (.func 46) #[] #[.pointer (some ⟨b5, 0, none⟩)], .func (.func 23) #[] #[], .func (.func 51) #[] #[.pointer (some ⟨b6, 0, none⟩)], .func (.func 51) #[] #[.pointer (some ⟨b7, 0, none⟩)], .func (.func 51) #[] #[.pointer (some ⟨b8, 0, none⟩)], .func (.func 51) #[] #[.pointer (some ⟨b9, 0, none⟩)], .func (.func 51) #[] #[.pointer (some ⟨b10, 0, none⟩)], .func (.func 51) #[] #[.pointer (some ⟨b11, 0, none⟩)], .func (.func 54) #[] #[.pointer (some ⟨b12, 0, none⟩), .pointer (some ⟨c12, 0, none⟩)], .func (.func 54) #[] #[.pointer (some ⟨b13, 0, none⟩), .pointer (some ⟨c13, 0, none⟩)]] := ⟨_, rfl⟩
    rw [← hW]
    have HF := Lib.hid (H13.out.row #[.nilFunc, .nilFunc, .nilFunc, .nilFunc, .nilFunc, .nilFunc, .nilFunc, .nilFunc, .nilFunc, .nilFunc, .nilFunc, .nilFunc, .nilFunc, .nilFunc, .nilFunc, .nilFunc, .nilFunc, .nilFunc, .nilFunc] #[.nilFunc, .nilFunc, .nilFunc, .nilFunc, .nilFunc, .func (.func 46) #[] #[.pointer (some ⟨b1, 0, none⟩)], .func (.func 46) #[] #[.pointer (some ⟨b2, 0, none⟩)], .func (.func 46) #[] #[.pointer (some ⟨b3, 0, none⟩)], .func (.func 46) #[] #[.pointer (some ⟨b4, 0, none⟩)], .func (.func 46) #[] #[.pointer (some ⟨b5, 0, none⟩)], .func (.func 23) #[] #[], .func (.func 51) #[] #[.pointer (some ⟨b6, 0, none⟩)], .func (.func 51) #[] #[.pointer (some ⟨b7, 0, none⟩)], .func (.func 51) #[] #[.pointer (some ⟨b8, 0, none⟩)], .func (.func 51) #[] #[.pointer (some ⟨b9, 0, none⟩)], .func (.func 51) #[] #[.pointer (some ⟨b10, 0, none⟩)], .func (.func 51) #[] #[.pointer (some ⟨b11, 0, none⟩)], .func (.func 54) #[] #[.pointer (some ⟨b12, 0, none⟩), .pointer (some ⟨c12, 0, none⟩)], .func (.func 54) #[] #[.pointer (some ⟨b13, 0, none⟩), .pointer (some ⟨c13, 0, none⟩)]] 50)
    rw [← hW] at HF
    obtain ⟨y0, y1, y3⟩ := H13.out.z
    clear H13 hW
    have sb : W.cell? ⟨w13.heap.size, 9, none⟩ = some (.func (.func 46) #[] #[.pointer (some ⟨b5, 0, none⟩)]) := HF.out.cell (b := w13.heap.size) (cs := #[.nilFunc, .nilFunc, .nilFunc, .nilFunc, .nilFunc, .func (.func 46) #[] #[.pointer (some ⟨b1, 0, none⟩)], .func (.func 46) #[] #[.pointer (some ⟨b2, 0, none⟩)], .func (.func 46) #[] #[.pointer (some ⟨b3, 0, none⟩)], .func (.func 46) #[] #[.pointer (some ⟨b4, 0, none⟩)], .func (.func 46) #[] #[.pointer (some ⟨b5, 0, none⟩)], .func (.func 23) #[] #[], .func (.func 51) #[] #[.pointer (some ⟨b6, 0, none⟩)], .func (.func 51) #[] #[.pointer (some ⟨b7, 0, none⟩)], .func (.func 51) #[] #[.pointer (some ⟨b8, 0, none⟩)], .func (.func 51) #[] #[.pointer (some ⟨b9, 0, none⟩)], .func (.func 51) #[] #[.pointer (some ⟨b10, 0, none⟩)], .func (.func 51) #[] #[.pointer (some ⟨b11, 0, none⟩)], .func (.func 54) #[] #[.pointer (some ⟨b12, 0, none⟩), .pointer (some ⟨c12, 0, none⟩)], .func (.func 54) #[] #[.pointer (some ⟨b13, 0, none⟩), .pointer (some ⟨c13, 0, none⟩)]]) (t := 50) (fr := (0, 0)) (List.mem_cons_self ..) 9
    obtain ⟨s0, s1, s2, s3, s4, s5⟩ := HF.out.s (k := k) (i := i) (s := s) (l := l) (j := j) (t := t) (fun x hx => by simp only [List.mem_cons, hx, or_true])
    obtain ⟨⟨r0, r1, r2⟩, ⟨f0, f1, f2⟩, y2⟩ := HF.out.r (k := k) (i := i) (s := s) (l := l) (j := j) (t := t) (fun x hx => by simp only [List.mem_cons, hx, or_true])
    go_wp2_with (go_at_call 32; guard_hyp tok1; refine (check_any k i s _ hk).mono ?_; rw [hfa]; rintro e v1 ⟨rfl, hb⟩; have HF1 := Lib.hid (HF.out.kept hb); clear tok1 hb HF; clear s0 s1 s2 s3 s4 s5 r0 r1 r2 f0 f1 f2 y2;have sb : v1.cell? ⟨w13.heap.size, 9, none⟩ = some (.func (.func 46) #[] #[.pointer (some ⟨b5, 0, none⟩)]) := HF1.out.cell (b := w13.heap.size) (cs := #[.nilFunc, .nilFunc, .nilFunc, .nilFunc, .nilFunc, .func (.func 46) #[] #[.pointer (some ⟨b1, 0, none⟩)], .func (.func 46) #[] #[.pointer (some ⟨b2, 0, none⟩)], .func (.func 46) #[] #[.pointer (some ⟨b3, 0, none⟩)], .func (.func 46) #[] #[.pointer (some ⟨b4, 0, none⟩)], .func (.func 46) #[] #[.pointer (some ⟨b5, 0, none⟩)], .func (.func 23) #[] #[], .func (.func 51) #[] #[.pointer (some ⟨b6, 0, none⟩)], .func (.func 51) #[] #[.pointer (some ⟨b7, 0, none⟩)], .func (.func 51) #[] #[.pointer (some ⟨b8, 0, none⟩)], .func (.func 51) #[] #[.pointer (some ⟨b9, 0, none⟩)], .func (.func 51) #[] #[.pointer (some ⟨b10, 0, none⟩)], .func (.func 51) #[] #[.pointer (some ⟨b11, 0, none⟩)], .func (.func 54) #[] #[.pointer (some ⟨b12, 0, none⟩), .pointer (some ⟨c12, 0, none⟩)], .func (.func 54) #[] #[.pointer (some ⟨b13, 0, none⟩), .pointer (some ⟨c13, 0, none⟩)]]) (t := 50) (fr := (0, 0)) (List.mem_cons_self ..) 9;obtain ⟨s0, s1, s2, s3, s4, s5⟩ := HF1.out.s (k := k) (i := i) (s := s) (l := l) (j := j) (t := t) (fun x hx => by simp only [List.mem_cons, hx, or_true]);obtain ⟨⟨r0, r1, r2⟩, ⟨f0, f1, f2⟩, y2⟩ := HF1.out.r (k := k) (i := i) (s := s) (l := l) (j := j) (t := t) (fun x hx => by simp only [List.mem_cons, hx, or_true]))
    exact bodyPost_ret (v := .tuple #[.agg #[.int .u8 0, .int .i64 0, .string ⟨#[]⟩], .int .i64 1]) (by simp [results, go_sem, r0, r1, r2]) rfl (nil_gives hr (below_set3 (b := w.heap.size + 1 + 1) HF1.out.below (by omega) _ _ _))
end Go.Proofs.YtjjfmmimmfihgaaDoor
