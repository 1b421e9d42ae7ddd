/-
  WHAT IS PROVED: contract of One.
-/
import Derived.Test.YtjjfmmimmfihgaaDoorValI
namespace Go.Proofs.YtjjfmmimmfihgaaDoor
open Go.RowKit Go.Lib

theorem neg_eq {v : Val} (h : v.fine = true) (h1 : -9223372036854775808 ≤ v.i) (h2 : v.i ≤ 9223372036854775807) : Val.two0 6 ⟨1, 0, ⟨#[]⟩⟩ v = Val.one 1 v := by
  rcases Val.fine_cases h with rfl | ⟨n, rfl⟩ | ⟨s, rfl, hs⟩
  · rfl
  · have e1 : Val.two0 6 ⟨1, 0, ⟨#[]⟩⟩ (Val.num n) = if (Val.reckon 6 0 n).2 = 0 then (Val.num (Val.reckon 6 0 n).1, 0) else (Val.nil, (Val.reckon 6 0 n).2) := rfl
    have e2 : Val.one 1 (Val.num n) = if n = -9223372036854775808 then (Val.nil, 12) else (Val.num (-n), 0) := rfl
    rw [e1, e2, Val.reckon6]
    have a1 : -9223372036854775808 ≤ n := h1
    have a2 : n ≤ 9223372036854775807 := h2
    by_cases hn : n = -9223372036854775808
    · subst hn; rfl
    · rw [if_neg hn, if_pos (Val.fits_of (by omega) (by omega)), if_pos rfl, Int.zero_sub]
  · have : Val.one 1 (Val.txt s) = (Val.nil, 11) := by unfold Val.one; rw [h]; rfl
    rw [this]; rfl

theorem duo_cells {w w' : World} {a b : Obj} {x0 x1 x2 y0 y1 y2 : Value} {tx ty : TypeId} (hb : Below ((w.alloc a).alloc b).heap.size ((w.alloc a).alloc b) w') (ha : a = .cells #[x0, x1, x2] tx) (hb' : b = .cells #[y0, y1, y2] ty) :
    (w'.cell? ⟨w.heap.size, 0, none⟩ = some x0 ∧ w'.cell? ⟨w.heap.size, 1, none⟩ = some x1 ∧ w'.cell? ⟨w.heap.size, 2, none⟩ = some x2) ∧
    (w'.cell? ⟨w.heap.size + 1, 0, none⟩ = some y0 ∧ w'.cell? ⟨w.heap.size + 1, 1, none⟩ = some y1 ∧ w'.cell? ⟨w.heap.size + 1, 2, none⟩ = some y2) ∧
    (w'.frozen? ⟨w.heap.size + 1, 0, none⟩ = false ∧ w'.frozen? ⟨w.heap.size + 1, 1, none⟩ = false ∧ w'.frozen? ⟨w.heap.size + 1, 2, none⟩ = false) ∧ w.heap.size + 1 < w'.heap.size := by
  subst ha hb'
  have h1 := (block_two w (.cells #[x0, x1, x2] tx) (.cells #[y0, y1, y2] ty)).1
  have h2 := (block_two w (.cells #[x0, x1, x2] tx) (.cells #[y0, y1, y2] ty)).2
  have h1' := (hb.block _ (lt_of_block h1)).trans h1
  have h2' := (hb.block _ (lt_of_block h2)).trans h2
  exact ⟨⟨cell_of_block h1' 0, cell_of_block h1' 1, cell_of_block h1' 2⟩, ⟨cell_of_block h2' 0, cell_of_block h2' 1, cell_of_block h2' 2⟩, ⟨free_of_block h2' 0, free_of_block h2' 1, free_of_block h2' 2⟩, lt_of_block h2'⟩

set_option maxRecDepth 100000 in
set_option maxHeartbeats 4000000 in
theorem neg_any (k : Nat) (i : Int) (s : ByteArray) (w : World) (hk : k < 256) (i0 : -9223372036854775808 ≤ i) (i1 : i ≤ 9223372036854775807) (hf : Val.fine ⟨k, i, s⟩ = true) :
    Calls Tryd.prog 60 #[.agg #[.int .u8 (k : Int), .int .i64 i, .string s]] w (Gives (Val.one 1 ⟨k, i, s⟩) w) := by
  have hr := neg_eq hf i0 i1
  rw [← hr]
  clear hr hf
  obtain ⟨W, hW⟩ : ∃ W, W = (w.alloc (.cells #[.int .u8 (k : Int), .int .i64 i, .string s] 25)).alloc (.cells #[.int .u8 0, .int .i64 0, .string ⟨#[]⟩] 25) := ⟨_, rfl⟩
  have hD : ∀ w', Below W.heap.size W w' → _ := fun w' h => duo_cells (w := w) (w' := w') (by rw [hW] at h; exact h) rfl rfl
  have HD := Lib.hid hD
  have HB : Hid (∀ w', Below W.heap.size W w' → Below w.heap.size w w') := Lib.hid (fun w' h => below_two (by rw [hW] at h; exact h))
  obtain ⟨⟨s0, s1, s2⟩, ⟨r0, r1, r2⟩, ⟨f0, f1, f2⟩, y2⟩ := hD W (Below.refl _ _)
  clear hD
  go_enter Tryd.func60, Tryd.ntmps60
  go_wp2_with fail
  rw [← hW]
  clear hW
  go_region_held3 (fun x => x.cell? ⟨w.heap.size, 0, none⟩ = some (.int .u8 (k : Int)) ∧ x.cell? ⟨w.heap.size, 1, none⟩ = some (.int .i64 i) ∧ x.cell? ⟨w.heap.size, 2, none⟩ = some (.string s))
    (first | exact ⟨s0, s1, s2⟩ | exact SS.out | exact ⟨(set3_other (by omega) _ _ _ _).trans SS.out.1, (set3_other (by omega) _ _ _ _).trans SS.out.2.1, (set3_other (by omega) _ _ _ _).trans SS.out.2.2⟩) ((first
    | (go_at_call 17; refine (onIntegers_made (w0 := W) (L := []) ⟨(Below.refl _ _).drew, fun x hx => by cases hx⟩ _).mono ?_; rintro e w1 ⟨b1, rfl, h⟩; have H1 := Lib.hid h; clear h r0 r1 r2 f0 f1 f2 y2; obtain ⟨q1, _, _, _⟩ := HD.out _ H1.out.below; have SS := Lib.hid q1; clear q1)
    | (go_at_call 49; refine (integer_any _ _).mono ?_; rintro e w2 ⟨rfl, hb⟩; have H2 := Lib.hid (H1.out.kept hb); clear hb SS; obtain ⟨q1, _, _, _⟩ := HD.out _ H2.out.below; have SS := Lib.hid q1; clear q1)
    | (go_at_call 46; refine (on_difference b1 1 0 ⟨#[]⟩ k i s _ (by omega) hk (by omega) (by omega) i0 i1 (H2.out.cell (b := b1) (List.mem_cons_self ..) 0)).mono ?_; rintro e w3 ⟨rfl, hb⟩; have H3 := Lib.hid (H2.out.kept hb); clear hb SS; obtain ⟨q1, ⟨r0, r1, r2⟩, ⟨f0, f1, f2⟩, y2⟩ := HD.out _ H3.out.below; have SS := Lib.hid q1; clear q1)))
  go_wp2
  exact bodyPost_ret (v := .tuple #[.agg #[.int .u8 ((Val.two0 6 ⟨1, 0, ⟨#[]⟩⟩ ⟨k, i, s⟩).1.k : Int), .int .i64 (Val.two0 6 ⟨1, 0, ⟨#[]⟩⟩ ⟨k, i, s⟩).1.i, .string (Val.two0 6 ⟨1, 0, ⟨#[]⟩⟩ ⟨k, i, s⟩).1.s], .int .i64 ((Val.two0 6 ⟨1, 0, ⟨#[]⟩⟩ ⟨k, i, s⟩).2 : Int)])
    (by simp [results, go_sem, r0, r1, r2]) rfl (some_gives rfl (below_set3 (b := w.heap.size + 1) (HB.out _ H3.out.below) (by omega) _ _ _))

theorem trio_one {w w' : World} {c : Obj} {x0 x1 x2 y0 y1 y2 : Value} {tx ty : TypeId} (T : Trio w (.cells #[x0, x1, x2] tx) (.cells #[y0, y1, y2] ty) c w') :
    (w'.cell? ⟨w.heap.size, 0, none⟩ = some x0 ∧ w'.cell? ⟨w.heap.size, 1, none⟩ = some x1 ∧ w'.cell? ⟨w.heap.size, 2, none⟩ = some x2) ∧
    (w'.cell? ⟨w.heap.size + 1, 0, none⟩ = some y0 ∧ w'.cell? ⟨w.heap.size + 1, 1, none⟩ = some y1 ∧ w'.cell? ⟨w.heap.size + 1, 2, none⟩ = some y2) ∧
    (w'.frozen? ⟨w.heap.size + 1, 0, none⟩ = false ∧ w'.frozen? ⟨w.heap.size + 1, 1, none⟩ = false ∧ w'.frozen? ⟨w.heap.size + 1, 2, none⟩ = false) ∧ w.heap.size + 1 + 1 < w'.heap.size :=
  ⟨⟨cell_of_block T.a 0, cell_of_block T.a 1, cell_of_block T.a 2⟩, ⟨cell_of_block T.b 0, cell_of_block T.b 1, cell_of_block T.b 2⟩, ⟨free_of_block T.b 0, free_of_block T.b 1, free_of_block T.b 2⟩, T.size⟩
theorem nil_one {op : Nat} {a : Val} (h : op < 1 ∨ 4 < op ∨ a.fine = false) : Val.one op a = (Val.nil, 1) := if_pos h

set_option maxRecDepth 100000 in
set_option maxHeartbeats 4000000 in
theorem one_op0 (k : Nat) (i : Int) (s : ByteArray) (w : World) (_hk : k < 256) :
    Calls Tryd.prog 43 #[.int .u8 0, .agg #[.int .u8 (k : Int), .int .i64 i, .string s]] w (Gives (Val.one 0 ⟨k, i, s⟩) w) := by
  have hr : Val.one 0 ⟨k, i, s⟩ = (Val.nil, 1) := nil_one (by omega)
  have hnil : ∀ (w : World), (binOp .eql 67 .nilFunc .nilFunc).run Tryd.prog w = .ok (.bool true) w := fun _ => rfl
  go_enter Tryd.func43, Tryd.ntmps43
  go_wp2_with fail
  exact bodyPost_ret (v := .tuple #[.agg #[.int .u8 0, .int .i64 0, .string ⟨#[]⟩], .int .i64 1]) (by simp [results, go_sem]) rfl (nil_gives hr (below_three0 w _ _ _))
set_option maxRecDepth 100000 in
set_option maxHeartbeats 4000000 in
theorem one_big (op : Nat) (hop : 4 < op) (_hop2 : op < 256) (k : Nat) (i : Int) (s : ByteArray) (w : World) (_hk : k < 256) :
    Calls Tryd.prog 43 #[.int .u8 (op : Int), .agg #[.int .u8 (k : Int), .int .i64 i, .string s]] w (Gives (Val.one op ⟨k, i, s⟩) w) := by
  have hr : Val.one op ⟨k, i, s⟩ = (Val.nil, 1) := nil_one (by omega)
  have h5 : decide (5 ≤ (op : Int)) = true := by rw [decide_eq_true_iff]; omega
  go_enter Tryd.func43, Tryd.ntmps43
  go_wp2_with fail
  exact bodyPost_ret (v := .tuple #[.agg #[.int .u8 0, .int .i64 0, .string ⟨#[]⟩], .int .i64 1]) (by simp [results, go_sem]) rfl (nil_gives hr (below_three0 w _ _ _))
set_option maxRecDepth 100000 in
set_option maxHeartbeats 4000000 in
theorem one_op1 (k : Nat) (i : Int) (s : ByteArray) (w : World) (hk : k < 256) (i0 : -9223372036854775808 ≤ i) (i1 : i ≤ 9223372036854775807) :
    Calls Tryd.prog 43 #[.int .u8 1, .agg #[.int .u8 (k : Int), .int .i64 i, .string s]] w (Gives (Val.one 1 ⟨k, i, s⟩) w) := by
  have hnil : ∀ (fn : Fn) (first cap : Array Value) (w : World), (binOp .eql 67 (.func fn first cap) .nilFunc).run Tryd.prog w = .ok (.bool false) w := fun _ _ _ _ => rfl
  have T0 := Lib.hid (trio w (.cells #[.int .u8 (k : Int), .int .i64 i, .string s] 25) (.cells #[.int .u8 0, .int .i64 0, .string ⟨#[]⟩] 25) (.cells #[.nilFunc, .func (.func 60) #[] #[], .func (.func 61) #[] #[], .func (.func 62) #[] #[], .func (.func 63) #[] #[]] 68))
  by_cases hfa : Val.fine ⟨k, i, s⟩ = true
  · go_enter Tryd.func43, Tryd.ntmps43
    go_wp2_with (go_at_call 32; refine (check_any k i s _ hk).mono ?_; rw [hfa]; rintro e v1 ⟨rfl, hb⟩; have T1 := Lib.hid (T0.out.kept hb); clear hb T0; obtain ⟨⟨s0, s1, s2⟩, ⟨r0, r1, r2⟩, ⟨f0, f1, f2⟩, y2⟩ := trio_one T1.out; have sb : v1.cell? ⟨w.heap.size + 1 + 1, 1, none⟩ = some (.func (.func 60) #[] #[]) := cell_of_block T1.out.c 1)
    clear r0 r1 r2 f0 f1 f2 y2
    go_region_held3 (fun x => x.cell? ⟨w.heap.size + 1 + 1, 1, none⟩ = some (.func (.func 60) #[] #[]) ∧ x.cell? ⟨w.heap.size, 0, none⟩ = some (.int .u8 (k : Int)) ∧ x.cell? ⟨w.heap.size, 1, none⟩ = some (.int .i64 i) ∧ x.cell? ⟨w.heap.size, 2, none⟩ = some (.string s))
      (first | exact ⟨sb, s0, s1, s2⟩ | exact SS.out | exact ⟨(set3_other (by omega) _ _ _ _).trans SS.out.1, (set3_other (by omega) _ _ _ _).trans SS.out.2.1, (set3_other (by omega) _ _ _ _).trans SS.out.2.2.1, (set3_other (by omega) _ _ _ _).trans SS.out.2.2.2⟩) ((first
      | (go_at_call 60; refine (neg_any k i s _ hk i0 i1 hfa).mono ?_; rintro e v2 ⟨rfl, hb⟩; have T2 := Lib.hid (T1.out.kept (below_drew hb)); clear hb sb s0 s1 s2; obtain ⟨q1, ⟨r0, r1, r2⟩, ⟨f0, f1, f2⟩, y2⟩ := trio_one T2.out; have SS := Lib.hid (And.intro (show v2.cell? ⟨w.heap.size + 1 + 1, 1, none⟩ = some (.func (.func 60) #[] #[]) from cell_of_block T2.out.c 1) q1); clear q1)))
    go_wp2
    exact bodyPost_ret (v := .tuple #[.agg #[.int .u8 ((Val.one 1 ⟨k, i, s⟩).1.k : Int), .int .i64 (Val.one 1 ⟨k, i, s⟩).1.i, .string (Val.one 1 ⟨k, i, s⟩).1.s], .int .i64 ((Val.one 1 ⟨k, i, s⟩).2 : Int)]) (by simp [results, go_sem, r0, r1, r2]) rfl (some_gives rfl (below_set3 (b := w.heap.size + 1) T2.out.below (by omega) _ _ _))
  · rw [Bool.not_eq_true] at hfa
    have hr : Val.one 1 ⟨k, i, s⟩ = (Val.nil, 1) := nil_one (by rw [hfa]; simp)
    go_enter Tryd.func43, Tryd.ntmps43
    go_wp2_with (go_at_call 32; refine (check_any k i s _ hk).mono ?_; rw [hfa]; rintro e v1 ⟨rfl, hb⟩; have T1 := Lib.hid (T0.out.kept hb); clear hb T0; obtain ⟨⟨s0, s1, s2⟩, ⟨r0, r1, r2⟩, ⟨f0, f1, f2⟩, y2⟩ := trio_one T1.out; have sb : v1.cell? ⟨w.heap.size + 1 + 1, 1, none⟩ = some (.func (.func 60) #[] #[]) := cell_of_block T1.out.c 1)
    exact bodyPost_ret (v := .tuple #[.agg #[.int .u8 0, .int .i64 0, .string ⟨#[]⟩], .int .i64 1]) (by simp [results, go_sem, r0, r1, r2]) rfl (nil_gives hr (below_set3 (b := w.heap.size + 1) T1.out.below (by omega) _ _ _))
set_option maxRecDepth 100000 in
set_option maxHeartbeats 4000000 in
theorem one_op2 (k : Nat) (i : Int) (s : ByteArray) (w : World) (hk : k < 256) (_i0 : -9223372036854775808 ≤ i) (_i1 : i ≤ 9223372036854775807) :
    Calls Tryd.prog 43 #[.int .u8 2, .agg #[.int .u8 (k : Int), .int .i64 i, .string s]] w (Gives (Val.one 2 ⟨k, i, s⟩) w) := by
  have hnil : ∀ (fn : Fn) (first cap : Array Value) (w : World), (binOp .eql 67 (.func fn first cap) .nilFunc).run Tryd.prog w = .ok (.bool false) w := fun _ _ _ _ => rfl
  have T0 := Lib.hid (trio w (.cells #[.int .u8 (k : Int), .int .i64 i, .string s] 25) (.cells #[.int .u8 0, .int .i64 0, .string ⟨#[]⟩] 25) (.cells #[.nilFunc, .func (.func 60) #[] #[], .func (.func 61) #[] #[], .func (.func 62) #[] #[], .func (.func 63) #[] #[]] 68))
  by_cases hfa : Val.fine ⟨k, i, s⟩ = true
  · go_enter Tryd.func43, Tryd.ntmps43
    go_wp2_with (go_at_call 32; refine (check_any k i s _ hk).mono ?_; rw [hfa]; rintro e v1 ⟨rfl, hb⟩; have T1 := Lib.hid (T0.out.kept hb); clear hb T0; obtain ⟨⟨s0, s1, s2⟩, ⟨r0, r1, r2⟩, ⟨f0, f1, f2⟩, y2⟩ := trio_one T1.out; have sb : v1.cell? ⟨w.heap.size + 1 + 1, 2, none⟩ = some (.func (.func 61) #[] #[]) := cell_of_block T1.out.c 2)
    clear r0 r1 r2 f0 f1 f2 y2
    go_region_held3 (fun x => x.cell? ⟨w.heap.size + 1 + 1, 2, none⟩ = some (.func (.func 61) #[] #[]) ∧ x.cell? ⟨w.heap.size, 0, none⟩ = some (.int .u8 (k : Int)) ∧ x.cell? ⟨w.heap.size, 1, none⟩ = some (.int .i64 i) ∧ x.cell? ⟨w.heap.size, 2, none⟩ = some (.string s))
      (first | exact ⟨sb, s0, s1, s2⟩ | exact SS.out | exact ⟨(set3_other (by omega) _ _ _ _).trans SS.out.1, (set3_other (by omega) _ _ _ _).trans SS.out.2.1, (set3_other (by omega) _ _ _ _).trans SS.out.2.2.1, (set3_other (by omega) _ _ _ _).trans SS.out.2.2.2⟩) ((first
      | (go_at_call 61; refine (not_any k i s _ hk hfa).mono ?_; rintro e v2 ⟨rfl, hb⟩; have T2 := Lib.hid (T1.out.kept (below_drew hb)); clear hb sb s0 s1 s2; obtain ⟨q1, ⟨r0, r1, r2⟩, ⟨f0, f1, f2⟩, y2⟩ := trio_one T2.out; have SS := Lib.hid (And.intro (show v2.cell? ⟨w.heap.size + 1 + 1, 2, none⟩ = some (.func (.func 61) #[] #[]) from cell_of_block T2.out.c 2) q1); clear q1)))
    go_wp2
    exact bodyPost_ret (v := .tuple #[.agg #[.int .u8 ((Val.one 2 ⟨k, i, s⟩).1.k : Int), .int .i64 (Val.one 2 ⟨k, i, s⟩).1.i, .string (Val.one 2 ⟨k, i, s⟩).1.s], .int .i64 ((Val.one 2 ⟨k, i, s⟩).2 : Int)]) (by simp [results, go_sem, r0, r1, r2]) rfl (some_gives rfl (below_set3 (b := w.heap.size + 1) T2.out.below (by omega) _ _ _))
  · rw [Bool.not_eq_true] at hfa
    have hr : Val.one 2 ⟨k, i, s⟩ = (Val.nil, 1) := nil_one (by rw [hfa]; simp)
    go_enter Tryd.func43, Tryd.ntmps43
    go_wp2_with (go_at_call 32; refine (check_any k i s _ hk).mono ?_; rw [hfa]; rintro e v1 ⟨rfl, hb⟩; have T1 := Lib.hid (T0.out.kept hb); clear hb T0; obtain ⟨⟨s0, s1, s2⟩, ⟨r0, r1, r2⟩, ⟨f0, f1, f2⟩, y2⟩ := trio_one T1.out; have sb : v1.cell? ⟨w.heap.size + 1 + 1, 2, none⟩ = some (.func (.func 61) #[] #[]) := cell_of_block T1.out.c 2)
    exact bodyPost_ret (v := .tuple #[.agg #[.int .u8 0, .int .i64 0, .string ⟨#[]⟩], .int .i64 1]) (by simp [results, go_sem, r0, r1, r2]) rfl (nil_gives hr (below_set3 (b := w.heap.size + 1) T1.out.below (by omega) _ _ _))
set_option maxRecDepth 100000 in
set_option maxHeartbeats 4000000 in
theorem one_op3 (k : Nat) (i : Int) (s : ByteArray) (w : World) (hk : k < 256) (_i0 : -9223372036854775808 ≤ i) (_i1 : i ≤ 9223372036854775807) :
    Calls Tryd.prog 43 #[.int .u8 3, .agg #[.int .u8 (k : Int), .int .i64 i, .string s]] w (Gives (Val.one 3 ⟨k, i, s⟩) w) := by
  have hnil : ∀ (fn : Fn) (first cap : Array Value) (w : World), (binOp .eql 67 (.func fn first cap) .nilFunc).run Tryd.prog w = .ok (.bool false) w := fun _ _ _ _ => rfl
  have T0 := Lib.hid (trio w (.cells #[.int .u8 (k : Int), .int .i64 i, .string s] 25) (.cells #[.int .u8 0, .int .i64 0, .string ⟨#[]⟩] 25) (.cells #[.nilFunc, .func (.func 60) #[] #[], .func (.func 61) #[] #[], .func (.func 62) #[] #[], .func (.func 63) #[] #[]] 68))
  by_cases hfa : Val.fine ⟨k, i, s⟩ = true
  · go_enter Tryd.func43, Tryd.ntmps43
    go_wp2_with (go_at_call 32; refine (check_any k i s _ hk).mono ?_; rw [hfa]; rintro e v1 ⟨rfl, hb⟩; have T1 := Lib.hid (T0.out.kept hb); clear hb T0; obtain ⟨⟨s0, s1, s2⟩, ⟨r0, r1, r2⟩, ⟨f0, f1, f2⟩, y2⟩ := trio_one T1.out; have sb : v1.cell? ⟨w.heap.size + 1 + 1, 3, none⟩ = some (.func (.func 62) #[] #[]) := cell_of_block T1.out.c 3)
    clear r0 r1 r2 f0 f1 f2 y2
    go_region_held3 (fun x => x.cell? ⟨w.heap.size + 1 + 1, 3, none⟩ = some (.func (.func 62) #[] #[]) ∧ x.cell? ⟨w.heap.size, 0, none⟩ = some (.int .u8 (k : Int)) ∧ x.cell? ⟨w.heap.size, 1, none⟩ = some (.int .i64 i) ∧ x.cell? ⟨w.heap.size, 2, none⟩ = some (.string s))
      (first | exact ⟨sb, s0, s1, s2⟩ | exact SS.out | exact ⟨(set3_other (by omega) _ _ _ _).trans SS.out.1, (set3_other (by omega) _ _ _ _).trans SS.out.2.1, (set3_other (by omega) _ _ _ _).trans SS.out.2.2.1, (set3_other (by omega) _ _ _ _).trans SS.out.2.2.2⟩) ((first
      | (go_at_call 62; refine (isNull_any k i s _ hk hfa).mono ?_; rintro e v2 ⟨rfl, hb⟩; have T2 := Lib.hid (T1.out.kept (below_drew hb)); clear hb sb s0 s1 s2; obtain ⟨q1, ⟨r0, r1, r2⟩, ⟨f0, f1, f2⟩, y2⟩ := trio_one T2.out; have SS := Lib.hid (And.intro (show v2.cell? ⟨w.heap.size + 1 + 1, 3, none⟩ = some (.func (.func 62) #[] #[]) from cell_of_block T2.out.c 3) q1); clear q1)))
    go_wp2
    exact bodyPost_ret (v := .tuple #[.agg #[.int .u8 ((Val.one 3 ⟨k, i, s⟩).1.k : Int), .int .i64 (Val.one 3 ⟨k, i, s⟩).1.i, .string (Val.one 3 ⟨k, i, s⟩).1.s], .int .i64 ((Val.one 3 ⟨k, i, s⟩).2 : Int)]) (by simp [results, go_sem, r0, r1, r2]) rfl (some_gives rfl (below_set3 (b := w.heap.size + 1) T2.out.below (by omega) _ _ _))
  · rw [Bool.not_eq_true] at hfa
    have hr : Val.one 3 ⟨k, i, s⟩ = (Val.nil, 1) := nil_one (by rw [hfa]; simp)
    go_enter Tryd.func43, Tryd.ntmps43
    go_wp2_with (go_at_call 32; refine (check_any k i s _ hk).mono ?_; rw [hfa]; rintro e v1 ⟨rfl, hb⟩; have T1 := Lib.hid (T0.out.kept hb); clear hb T0; obtain ⟨⟨s0, s1, s2⟩, ⟨r0, r1, r2⟩, ⟨f0, f1, f2⟩, y2⟩ := trio_one T1.out; have sb : v1.cell? ⟨w.heap.size + 1 + 1, 3, none⟩ = some (.func (.func 62) #[] #[]) := cell_of_block T1.out.c 3)
    exact bodyPost_ret (v := .tuple #[.agg #[.int .u8 0, .int .i64 0, .string ⟨#[]⟩], .int .i64 1]) (by simp [results, go_sem, r0, r1, r2]) rfl (nil_gives hr (below_set3 (b := w.heap.size + 1) T1.out.below (by omega) _ _ _))
set_option maxRecDepth 100000 in
set_option maxHeartbeats 4000000 in
theorem one_op4 (k : Nat) (i : Int) (s : ByteArray) (w : World) (hk : k < 256) (_i0 : -9223372036854775808 ≤ i) (_i1 : i ≤ 9223372036854775807) :
    Calls Tryd.prog 43 #[.int .u8 4, .agg #[.int .u8 (k : Int), .int .i64 i, .string s]] w (Gives (Val.one 4 ⟨k, i, s⟩) w) := by
  have hnil : ∀ (fn : Fn) (first cap : Array Value) (w : World), (binOp .eql 67 (.func fn first cap) .nilFunc).run Tryd.prog w = .ok (.bool false) w := fun _ _ _ _ => rfl
  have T0 := Lib.hid (trio w (.cells #[.int .u8 (k : Int), .int .i64 i, .string s] 25) (.cells #[.int .u8 0, .int .i64 0, .string ⟨#[]⟩] 25) (.cells #[.nilFunc, .func (.func 60) #[] #[], .func (.func 61) #[] #[], .func (.func 62) #[] #[], .func (.func 63) #[] #[]] 68))
  by_cases hfa : Val.fine ⟨k, i, s⟩ = true
  · go_enter Tryd.func43, Tryd.ntmps43
    go_wp2_with (go_at_call 32; refine (check_any k i s _ hk).mono ?_; rw [hfa]; rintro e v1 ⟨rfl, hb⟩; have T1 := Lib.hid (T0.out.kept hb); clear hb T0; obtain ⟨⟨s0, s1, s2⟩, ⟨r0, r1, r2⟩, ⟨f0, f1, f2⟩, y2⟩ := trio_one T1.out; have sb : v1.cell? ⟨w.heap.size + 1 + 1, 4, none⟩ = some (.func (.func 63) #[] #[]) := cell_of_block T1.out.c 4)
    clear r0 r1 r2 f0 f1 f2 y2
    go_region_held3 (fun x => x.cell? ⟨w.heap.size + 1 + 1, 4, none⟩ = some (.func (.func 63) #[] #[]) ∧ x.cell? ⟨w.heap.size, 0, none⟩ = some (.int .u8 (k : Int)) ∧ x.cell? ⟨w.heap.size, 1, none⟩ = some (.int .i64 i) ∧ x.cell? ⟨w.heap.size, 2, none⟩ = some (.string s))
      (first | exact ⟨sb, s0, s1, s2⟩ | exact SS.out | exact ⟨(set3_other (by omega) _ _ _ _).trans SS.out.1, (set3_other (by omega) _ _ _ _).trans SS.out.2.1, (set3_other (by omega) _ _ _ _).trans SS.out.2.2.1, (set3_other (by omega) _ _ _ _).trans SS.out.2.2.2⟩) ((first
      | (go_at_call 63; refine (notNull_any k i s _ hk hfa).mono ?_; rintro e v2 ⟨rfl, hb⟩; have T2 := Lib.hid (T1.out.kept (below_drew hb)); clear hb sb s0 s1 s2; obtain ⟨q1, ⟨r0, r1, r2⟩, ⟨f0, f1, f2⟩, y2⟩ := trio_one T2.out; have SS := Lib.hid (And.intro (show v2.cell? ⟨w.heap.size + 1 + 1, 4, none⟩ = some (.func (.func 63) #[] #[]) from cell_of_block T2.out.c 4) q1); clear q1)))
    go_wp2
    exact bodyPost_ret (v := .tuple #[.agg #[.int .u8 ((Val.one 4 ⟨k, i, s⟩).1.k : Int), .int .i64 (Val.one 4 ⟨k, i, s⟩).1.i, .string (Val.one 4 ⟨k, i, s⟩).1.s], .int .i64 ((Val.one 4 ⟨k, i, s⟩).2 : Int)]) (by simp [results, go_sem, r0, r1, r2]) rfl (some_gives rfl (below_set3 (b := w.heap.size + 1) T2.out.below (by omega) _ _ _))
  · rw [Bool.not_eq_true] at hfa
    have hr : Val.one 4 ⟨k, i, s⟩ = (Val.nil, 1) := nil_one (by rw [hfa]; simp)
    go_enter Tryd.func43, Tryd.ntmps43
    go_wp2_with (go_at_call 32; refine (check_any k i s _ hk).mono ?_; rw [hfa]; rintro e v1 ⟨rfl, hb⟩; have T1 := Lib.hid (T0.out.kept hb); clear hb T0; obtain ⟨⟨s0, s1, s2⟩, ⟨r0, r1, r2⟩, ⟨f0, f1, f2⟩, y2⟩ := trio_one T1.out; have sb : v1.cell? ⟨w.heap.size + 1 + 1, 4, none⟩ = some (.func (.func 63) #[] #[]) := cell_of_block T1.out.c 4)
    exact bodyPost_ret (v := .tuple #[.agg #[.int .u8 0, .int .i64 0, .string ⟨#[]⟩], .int .i64 1]) (by simp [results, go_sem, r0, r1, r2]) rfl (nil_gives hr (below_set3 (b := w.heap.size + 1) T1.out.below (by omega) _ _ _))
theorem one_any (op k : Nat) (i : Int) (s : ByteArray) (w : World) (hop : op < 256) (hk : k < 256) (i0 : -9223372036854775808 ≤ i) (i1 : i ≤ 9223372036854775807) :
    Calls Tryd.prog 43 #[.int .u8 (op : Int), .agg #[.int .u8 (k : Int), .int .i64 i, .string s]] w (Gives (Val.one op ⟨k, i, s⟩) w) := by
  by_cases h : 4 < op
  · exact one_big op h hop k i s w hk
  · rcases (show op = 0 ∨ op = 1 ∨ op = 2 ∨ op = 3 ∨ op = 4 by omega) with rfl | rfl | rfl | rfl | rfl
    · exact one_op0 k i s w hk
    · exact one_op1 k i s w hk i0 i1
    · exact one_op2 k i s w hk i0 i1
    · exact one_op3 k i s w hk i0 i1
    · exact one_op4 k i s w hk i0 i1
end Go.Proofs.YtjjfmmimmfihgaaDoor