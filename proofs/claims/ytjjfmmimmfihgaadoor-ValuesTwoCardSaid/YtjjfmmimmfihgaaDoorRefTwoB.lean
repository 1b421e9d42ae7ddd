/-
  WHAT IS PROVED: the document's own Two: the operator 10. the document's own Two: the operators 11 to 13. the document's own Two: the operators 14 to 16. the document's own Two: numbers. the document's own Two, whatever the operator and the values.
-/
import Derived.Test.YtjjfmmimmfihgaaDoorRefTwoA
namespace Go.Proofs.YtjjfmmimmfihgaaDoor
section
open Go.RowKit Go.Lib
set_option linter.unusedVariables false

set_option maxRecDepth 100000 in
set_option maxHeartbeats 4000000 in
theorem rtwo10_t (k : Nat) (i : Int) (s : ByteArray) (l : Nat) (j : Int) (t : ByteArray) (hk : k < 256) (hl : l < 256) (w : World) (A0 : (((k : Nat) : Int) == 0) = false) (A1 : (((k : Nat) : Int) == 1) = false) (A2 : (((k : Nat) : Int) == 2) = true) (B0 : (((l : Nat) : Int) == 0) = false) (x y : ByteArray) (i0 : -9223372036854775808 ≤ i) (i1 : i ≤ 9223372036854775807) (j0 : -9223372036854775808 ≤ j) (j1 : j ≤ 9223372036854775807) (hx : Val.plain ⟨k, i, s⟩ = x) (hy : Val.plain ⟨l, j, t⟩ = y) (hroom : ¬ 9223372036854775807 < x.size + y.size) (hle : decide ((512 : Int) < (x.size : Int) + (y.size : Int)) = false) (hfa : Val.fine ⟨k, i, s⟩ = true) (hfb : Val.fine ⟨l, j, t⟩ = true) (hr : Val.two 10 ⟨k, i, s⟩ ⟨l, j, t⟩ = (⟨2, 0, (x ++ y)⟩, 0)) :
    Calls Tryd.prog 9 #[.int .u8 10, .agg #[.int .u8 (k : Int), .int .i64 i, .string s], .agg #[.int .u8 (l : Int), .int .i64 j, .string t]] w (Gives (Val.two 10 ⟨k, i, s⟩ ⟨l, j, t⟩) w) := by
  rw [hr]
  clear hr
  have H0 := Lib.hid (base3 w k i s l j t)
  go_enter Tryd.func9, Tryd.ntmps9
  go_wp2_with fail
  have HX := Lib.hid hx
  have HY := Lib.hid hy
  clear hx hy
  generalize hW : World.alloc (World.alloc (World.alloc w _) _) _ = v0 at H0 ⊢
  clear hW
  refine (rcheck_any k i s _ hk).mono ?_
  rw [hfa]
  rintro e v1 ⟨rfl, hb⟩
  have H1 := Lib.hid (H0.out.kept hb)
  clear hb H0
  obtain ⟨s0, s1, s2, s3, s4, s5⟩ := H1.out.s (fun _ hx => hx)
  obtain ⟨⟨r0, r1, r2⟩, ⟨f0, f1, f2⟩, y2⟩ := H1.out.r (fun _ hx => hx)
  go_wp2_with fail
  refine (rcheck_any l j t _ hl).mono ?_
  rw [hfb]
  rintro e v2 ⟨rfl, hb⟩
  have H2 := Lib.hid (H1.out.kept hb)
  clear hb H1
  clear s0 s1 s2 s3 s4 s5 r0 r1 r2 f0 f1 f2 y2
  obtain ⟨s0, s1, s2, s3, s4, s5⟩ := H2.out.s (fun _ hx => hx)
  obtain ⟨⟨r0, r1, r2⟩, ⟨f0, f1, f2⟩, y2⟩ := H2.out.r (fun _ hx => hx)
  go_wp2_with fail
  have q0 := bwOf_cell v2 _ _ s0
  have q1 := bwOf_cell v2 _ _ s1
  have q2 := bwOf_cell v2 _ _ s2
  have q3 := bwOf_cell v2 _ _ s3
  have q4 := bwOf_cell v2 _ _ s4
  have q5 := bwOf_cell v2 _ _ s5
  have p0 := bwOf_cell v2 _ _ r0
  have p1 := bwOf_cell v2 _ _ r1
  have p2 := bwOf_cell v2 _ _ r2
  refine wp_region_bw (w := v2) (by kernel_rfl) (by kernel_rfl) ?_
  repeat (go_big_quiet_step (fail))
  go_big_quiet_step ((go_at_call 36; exact below_of (rplain_any k i s x i0 i1 _ HX.out)))
  repeat (go_big_quiet_step (fail))
  go_big_quiet_step ((go_at_call 36; exact below_of (rplain_any l j t y j0 j1 _ HY.out)))
  repeat (go_big_quiet_step (fail))
  refine wpQuiet_nil ?_
  rintro v3 ⟨m, rfl⟩
  have H3 := Lib.hid (H2.out.kept (bwOf_below v2 m))
  clear q0 q1 q2 q3 q4 q5 p0 p1 p2 H2 s0 s1 s2 s3 s4 s5 r0 r1 r2 f0 f1 f2 y2
  generalize bwOf v2 m = v3 at *
  obtain ⟨s0, s1, s2, s3, s4, s5⟩ := H3.out.s (fun _ hx => hx)
  obtain ⟨⟨r0, r1, r2⟩, ⟨f0, f1, f2⟩, y2⟩ := H3.out.r (fun _ hx => hx)
  go_wp2_with fail
  refine (rstring_any _ _).mono ?_
  rintro e v4 ⟨rfl, hb⟩
  have H4 := Lib.hid (H3.out.kept hb)
  clear hb H3
  clear s0 s1 s2 s3 s4 s5 r0 r1 r2 f0 f1 f2 y2
  obtain ⟨s0, s1, s2, s3, s4, s5⟩ := H4.out.s (fun _ hx => hx)
  obtain ⟨⟨r0, r1, r2⟩, ⟨f0, f1, f2⟩, y2⟩ := H4.out.r (fun _ hx => hx)
  go_wp2_with fail
  exact bodyPost_ret (v := .tuple #[.agg #[.int .u8 2, .int .i64 0, .string (x ++ y)], .int .i64 0]) (by simp [results, go_sem, r0, r1, r2]) rfl (gives_of rfl (below_set3 (b := w.heap.size + 1 + 1) H4.out.below (by omega) _ _ _))
set_option maxRecDepth 100000 in
set_option maxHeartbeats 4000000 in
theorem rtwo10_t_l (k : Nat) (i : Int) (s : ByteArray) (l : Nat) (j : Int) (t : ByteArray) (hk : k < 256) (hl : l < 256) (w : World) (A0 : (((k : Nat) : Int) == 0) = false) (A1 : (((k : Nat) : Int) == 1) = false) (A2 : (((k : Nat) : Int) == 2) = true) (B0 : (((l : Nat) : Int) == 0) = false) (x y : ByteArray) (i0 : -9223372036854775808 ≤ i) (i1 : i ≤ 9223372036854775807) (j0 : -9223372036854775808 ≤ j) (j1 : j ≤ 9223372036854775807) (hx : Val.plain ⟨k, i, s⟩ = x) (hy : Val.plain ⟨l, j, t⟩ = y) (hroom : ¬ 9223372036854775807 < x.size + y.size) (hle : decide ((512 : Int) < (x.size : Int) + (y.size : Int)) = true) (hfa : Val.fine ⟨k, i, s⟩ = true) (hfb : Val.fine ⟨l, j, t⟩ = true) (hr : Val.two 10 ⟨k, i, s⟩ ⟨l, j, t⟩ = (⟨0, 0, ⟨#[]⟩⟩, 3)) :
    Calls Tryd.prog 9 #[.int .u8 10, .agg #[.int .u8 (k : Int), .int .i64 i, .string s], .agg #[.int .u8 (l : Int), .int .i64 j, .string t]] w (Gives (Val.two 10 ⟨k, i, s⟩ ⟨l, j, t⟩) w) := by
  rw [hr]
  clear hr
  have H0 := Lib.hid (base3 w k i s l j t)
  go_enter Tryd.func9, Tryd.ntmps9
  go_wp2_with fail
  have HX := Lib.hid hx
  have HY := Lib.hid hy
  clear hx hy
  generalize hW : World.alloc (World.alloc (World.alloc w _) _) _ = v0 at H0 ⊢
  clear hW
  refine (rcheck_any k i s _ hk).mono ?_
  rw [hfa]
  rintro e v1 ⟨rfl, hb⟩
  have H1 := Lib.hid (H0.out.kept hb)
  clear hb H0
  obtain ⟨s0, s1, s2, s3, s4, s5⟩ := H1.out.s (fun _ hx => hx)
  obtain ⟨⟨r0, r1, r2⟩, ⟨f0, f1, f2⟩, y2⟩ := H1.out.r (fun _ hx => hx)
  go_wp2_with fail
  refine (rcheck_any l j t _ hl).mono ?_
  rw [hfb]
  rintro e v2 ⟨rfl, hb⟩
  have H2 := Lib.hid (H1.out.kept hb)
  clear hb H1
  clear s0 s1 s2 s3 s4 s5 r0 r1 r2 f0 f1 f2 y2
  obtain ⟨s0, s1, s2, s3, s4, s5⟩ := H2.out.s (fun _ hx => hx)
  obtain ⟨⟨r0, r1, r2⟩, ⟨f0, f1, f2⟩, y2⟩ := H2.out.r (fun _ hx => hx)
  go_wp2_with fail
  have q0 := bwOf_cell v2 _ _ s0
  have q1 := bwOf_cell v2 _ _ s1
  have q2 := bwOf_cell v2 _ _ s2
  have q3 := bwOf_cell v2 _ _ s3
  have q4 := bwOf_cell v2 _ _ s4
  have q5 := bwOf_cell v2 _ _ s5
  have p0 := bwOf_cell v2 _ _ r0
  have p1 := bwOf_cell v2 _ _ r1
  have p2 := bwOf_cell v2 _ _ r2
  refine wp_region_bw (w := v2) (by kernel_rfl) (by kernel_rfl) ?_
  repeat (go_big_quiet_step (fail))
  go_big_quiet_step ((go_at_call 36; exact below_of (rplain_any k i s x i0 i1 _ HX.out)))
  repeat (go_big_quiet_step (fail))
  go_big_quiet_step ((go_at_call 36; exact below_of (rplain_any l j t y j0 j1 _ HY.out)))
  repeat (go_big_quiet_step (fail))
  refine wpQuiet_nil ?_
  rintro v3 ⟨m, rfl⟩
  have H3 := Lib.hid (H2.out.kept (bwOf_below v2 m))
  clear q0 q1 q2 q3 q4 q5 p0 p1 p2 H2 s0 s1 s2 s3 s4 s5 r0 r1 r2 f0 f1 f2 y2
  generalize bwOf v2 m = v3 at *
  obtain ⟨s0, s1, s2, s3, s4, s5⟩ := H3.out.s (fun _ hx => hx)
  obtain ⟨⟨r0, r1, r2⟩, ⟨f0, f1, f2⟩, y2⟩ := H3.out.r (fun _ hx => hx)
  go_wp2_with fail
  exact bodyPost_ret (v := .tuple #[.agg #[.int .u8 0, .int .i64 0, .string ⟨#[]⟩], .int .i64 3]) (by simp [results, go_sem, r0, r1, r2]) rfl (gives_of rfl (below_set3 (b := w.heap.size + 1 + 1) H3.out.below (by omega) _ _ _))
set_option maxRecDepth 100000 in
set_option maxHeartbeats 4000000 in
theorem rtwo10_nt (k : Nat) (i : Int) (s : ByteArray) (l : Nat) (j : Int) (t : ByteArray) (hk : k < 256) (hl : l < 256) (w : World) (A0 : (((k : Nat) : Int) == 0) = false) (A1 : (((k : Nat) : Int) == 1) = true) (A2 : (((k : Nat) : Int) == 2) = false) (B0 : (((l : Nat) : Int) == 0) = false) (B1 : (((l : Nat) : Int) == 1) = false) (B2 : (((l : Nat) : Int) == 2) = true) (x y : ByteArray) (i0 : -9223372036854775808 ≤ i) (i1 : i ≤ 9223372036854775807) (j0 : -9223372036854775808 ≤ j) (j1 : j ≤ 9223372036854775807) (hx : Val.plain ⟨k, i, s⟩ = x) (hy : Val.plain ⟨l, j, t⟩ = y) (hroom : ¬ 9223372036854775807 < x.size + y.size) (hle : decide ((512 : Int) < (x.size : Int) + (y.size : Int)) = false) (hfa : Val.fine ⟨k, i, s⟩ = true) (hfb : Val.fine ⟨l, j, t⟩ = true) (hr : Val.two 10 ⟨k, i, s⟩ ⟨l, j, t⟩ = (⟨2, 0, (x ++ y)⟩, 0)) :
    Calls Tryd.prog 9 #[.int .u8 10, .agg #[.int .u8 (k : Int), .int .i64 i, .string s], .agg #[.int .u8 (l : Int), .int .i64 j, .string t]] w (Gives (Val.two 10 ⟨k, i, s⟩ ⟨l, j, t⟩) w) := by
  rw [hr]
  clear hr
  have H0 := Lib.hid (base3 w k i s l j t)
  go_enter Tryd.func9, Tryd.ntmps9
  go_wp2_with fail
  have HX := Lib.hid hx
  have HY := Lib.hid hy
  clear hx hy
  generalize hW : World.alloc (World.alloc (World.alloc w _) _) _ = v0 at H0 ⊢
  clear hW
  refine (rcheck_any k i s _ hk).mono ?_
  rw [hfa]
  rintro e v1 ⟨rfl, hb⟩
  have H1 := Lib.hid (H0.out.kept hb)
  clear hb H0
  obtain ⟨s0, s1, s2, s3, s4, s5⟩ := H1.out.s (fun _ hx => hx)
  obtain ⟨⟨r0, r1, r2⟩, ⟨f0, f1, f2⟩, y2⟩ := H1.out.r (fun _ hx => hx)
  go_wp2_with fail
  refine (rcheck_any l j t _ hl).mono ?_
  rw [hfb]
  rintro e v2 ⟨rfl, hb⟩
  have H2 := Lib.hid (H1.out.kept hb)
  clear hb H1
  clear s0 s1 s2 s3 s4 s5 r0 r1 r2 f0 f1 f2 y2
  obtain ⟨s0, s1, s2, s3, s4, s5⟩ := H2.out.s (fun _ hx => hx)
  obtain ⟨⟨r0, r1, r2⟩, ⟨f0, f1, f2⟩, y2⟩ := H2.out.r (fun _ hx => hx)
  go_wp2_with fail
  have q0 := bwOf_cell v2 _ _ s0
  have q1 := bwOf_cell v2 _ _ s1
  have q2 := bwOf_cell v2 _ _ s2
  have q3 := bwOf_cell v2 _ _ s3
  have q4 := bwOf_cell v2 _ _ s4
  have q5 := bwOf_cell v2 _ _ s5
  have p0 := bwOf_cell v2 _ _ r0
  have p1 := bwOf_cell v2 _ _ r1
  have p2 := bwOf_cell v2 _ _ r2
  refine wp_region_bw (w := v2) (by kernel_rfl) (by kernel_rfl) ?_
  repeat (go_big_quiet_step (fail))
  go_big_quiet_step ((go_at_call 36; exact below_of (rplain_any k i s x i0 i1 _ HX.out)))
  repeat (go_big_quiet_step (fail))
  go_big_quiet_step ((go_at_call 36; exact below_of (rplain_any l j t y j0 j1 _ HY.out)))
  repeat (go_big_quiet_step (fail))
  refine wpQuiet_nil ?_
  rintro v3 ⟨m, rfl⟩
  have H3 := Lib.hid (H2.out.kept (bwOf_below v2 m))
  clear q0 q1 q2 q3 q4 q5 p0 p1 p2 H2 s0 s1 s2 s3 s4 s5 r0 r1 r2 f0 f1 f2 y2
  generalize bwOf v2 m = v3 at *
  obtain ⟨s0, s1, s2, s3, s4, s5⟩ := H3.out.s (fun _ hx => hx)
  obtain ⟨⟨r0, r1, r2⟩, ⟨f0, f1, f2⟩, y2⟩ := H3.out.r (fun _ hx => hx)
  go_wp2_with fail
  refine (rstring_any _ _).mono ?_
  rintro e v4 ⟨rfl, hb⟩
  have H4 := Lib.hid (H3.out.kept hb)
  clear hb H3
  clear s0 s1 s2 s3 s4 s5 r0 r1 r2 f0 f1 f2 y2
  obtain ⟨s0, s1, s2, s3, s4, s5⟩ := H4.out.s (fun _ hx => hx)
  obtain ⟨⟨r0, r1, r2⟩, ⟨f0, f1, f2⟩, y2⟩ := H4.out.r (fun _ hx => hx)
  go_wp2_with fail
  exact bodyPost_ret (v := .tuple #[.agg #[.int .u8 2, .int .i64 0, .string (x ++ y)], .int .i64 0]) (by simp [results, go_sem, r0, r1, r2]) rfl (gives_of rfl (below_set3 (b := w.heap.size + 1 + 1) H4.out.below (by omega) _ _ _))
set_option maxRecDepth 100000 in
set_option maxHeartbeats 4000000 in
theorem rtwo10_nt_l (k : Nat) (i : Int) (s : ByteArray) (l : Nat) (j : Int) (t : ByteArray) (hk : k < 256) (hl : l < 256) (w : World) (A0 : (((k : Nat) : Int) == 0) = false) (A1 : (((k : Nat) : Int) == 1) = true) (A2 : (((k : Nat) : Int) == 2) = false) (B0 : (((l : Nat) : Int) == 0) = false) (B1 : (((l : Nat) : Int) == 1) = false) (B2 : (((l : Nat) : Int) == 2) = true) (x y : ByteArray) (i0 : -9223372036854775808 ≤ i) (i1 : i ≤ 9223372036854775807) (j0 : -9223372036854775808 ≤ j) (j1 : j ≤ 9223372036854775807) (hx : Val.plain ⟨k, i, s⟩ = x) (hy : Val.plain ⟨l, j, t⟩ = y) (hroom : ¬ 9223372036854775807 < x.size + y.size) (hle : decide ((512 : Int) < (x.size : Int) + (y.size : Int)) = true) (hfa : Val.fine ⟨k, i, s⟩ = true) (hfb : Val.fine ⟨l, j, t⟩ = true) (hr : Val.two 10 ⟨k, i, s⟩ ⟨l, j, t⟩ = (⟨0, 0, ⟨#[]⟩⟩, 3)) :
    Calls Tryd.prog 9 #[.int .u8 10, .agg #[.int .u8 (k : Int), .int .i64 i, .string s], .agg #[.int .u8 (l : Int), .int .i64 j, .string t]] w (Gives (Val.two 10 ⟨k, i, s⟩ ⟨l, j, t⟩) w) := by
  rw [hr]
  clear hr
  have H0 := Lib.hid (base3 w k i s l j t)
  go_enter Tryd.func9, Tryd.ntmps9
  go_wp2_with fail
  have HX := Lib.hid hx
  have HY := Lib.hid hy
  clear hx hy
  generalize hW : World.alloc (World.alloc (World.alloc w _) _) _ = v0 at H0 ⊢
  clear hW
  refine (rcheck_any k i s _ hk).mono ?_
  rw [hfa]
  rintro e v1 ⟨rfl, hb⟩
  have H1 := Lib.hid (H0.out.kept hb)
  clear hb H0
  obtain ⟨s0, s1, s2, s3, s4, s5⟩ := H1.out.s (fun _ hx => hx)
  obtain ⟨⟨r0, r1, r2⟩, ⟨f0, f1, f2⟩, y2⟩ := H1.out.r (fun _ hx => hx)
  go_wp2_with fail
  refine (rcheck_any l j t _ hl).mono ?_
  rw [hfb]
  rintro e v2 ⟨rfl, hb⟩
  have H2 := Lib.hid (H1.out.kept hb)
  clear hb H1
  clear s0 s1 s2 s3 s4 s5 r0 r1 r2 f0 f1 f2 y2
  obtain ⟨s0, s1, s2, s3, s4, s5⟩ := H2.out.s (fun _ hx => hx)
  obtain ⟨⟨r0, r1, r2⟩, ⟨f0, f1, f2⟩, y2⟩ := H2.out.r (fun _ hx => hx)
  go_wp2_with fail
  have q0 := bwOf_cell v2 _ _ s0
  have q1 := bwOf_cell v2 _ _ s1
  have q2 := bwOf_cell v2 _ _ s2
  have q3 := bwOf_cell v2 _ _ s3
  have q4 := bwOf_cell v2 _ _ s4
  have q5 := bwOf_cell v2 _ _ s5
  have p0 := bwOf_cell v2 _ _ r0
  have p1 := bwOf_cell v2 _ _ r1
  have p2 := bwOf_cell v2 _ _ r2
  refine wp_region_bw (w := v2) (by kernel_rfl) (by kernel_rfl) ?_
  repeat (go_big_quiet_step (fail))
  go_big_quiet_step ((go_at_call 36; exact below_of (rplain_any k i s x i0 i1 _ HX.out)))
  repeat (go_big_quiet_step (fail))
  go_big_quiet_step ((go_at_call 36; exact below_of (rplain_any l j t y j0 j1 _ HY.out)))
  repeat (go_big_quiet_step (fail))
  refine wpQuiet_nil ?_
  rintro v3 ⟨m, rfl⟩
  have H3 := Lib.hid (H2.out.kept (bwOf_below v2 m))
  clear q0 q1 q2 q3 q4 q5 p0 p1 p2 H2 s0 s1 s2 s3 s4 s5 r0 r1 r2 f0 f1 f2 y2
  generalize bwOf v2 m = v3 at *
  obtain ⟨s0, s1, s2, s3, s4, s5⟩ := H3.out.s (fun _ hx => hx)
  obtain ⟨⟨r0, r1, r2⟩, ⟨f0, f1, f2⟩, y2⟩ := H3.out.r (fun _ hx => hx)
  go_wp2_with fail
  exact bodyPost_ret (v := .tuple #[.agg #[.int .u8 0, .int .i64 0, .string ⟨#[]⟩], .int .i64 3]) (by simp [results, go_sem, r0, r1, r2]) rfl (gives_of rfl (below_set3 (b := w.heap.size + 1 + 1) H3.out.below (by omega) _ _ _))
set_option maxRecDepth 100000 in
set_option maxHeartbeats 4000000 in
theorem rtwo10_nn (k : Nat) (i : Int) (s : ByteArray) (l : Nat) (j : Int) (t : ByteArray) (hk : k < 256) (hl : l < 256) (w : World) (A0 : (((k : Nat) : Int) == 0) = false) (A1 : (((k : Nat) : Int) == 1) = true) (A2 : (((k : Nat) : Int) == 2) = false) (B0 : (((l : Nat) : Int) == 0) = false) (B1 : (((l : Nat) : Int) == 1) = true) (B2 : (((l : Nat) : Int) == 2) = false) (x y : ByteArray) (i0 : -9223372036854775808 ≤ i) (i1 : i ≤ 9223372036854775807) (j0 : -9223372036854775808 ≤ j) (j1 : j ≤ 9223372036854775807) (hx : Val.plain ⟨k, i, s⟩ = x) (hy : Val.plain ⟨l, j, t⟩ = y) (hroom : ¬ 9223372036854775807 < x.size + y.size) (hle : decide ((512 : Int) < (x.size : Int) + (y.size : Int)) = false) (hfa : Val.fine ⟨k, i, s⟩ = true) (hfb : Val.fine ⟨l, j, t⟩ = true) (hr : Val.two 10 ⟨k, i, s⟩ ⟨l, j, t⟩ = (⟨2, 0, (x ++ y)⟩, 0)) :
    Calls Tryd.prog 9 #[.int .u8 10, .agg #[.int .u8 (k : Int), .int .i64 i, .string s], .agg #[.int .u8 (l : Int), .int .i64 j, .string t]] w (Gives (Val.two 10 ⟨k, i, s⟩ ⟨l, j, t⟩) w) := by
  rw [hr]
  clear hr
  have H0 := Lib.hid (base3 w k i s l j t)
  go_enter Tryd.func9, Tryd.ntmps9
  go_wp2_with fail
  have HX := Lib.hid hx
  have HY := Lib.hid hy
  clear hx hy
  generalize hW : World.alloc (World.alloc (World.alloc w _) _) _ = v0 at H0 ⊢
  clear hW
  refine (rcheck_any k i s _ hk).mono ?_
  rw [hfa]
  rintro e v1 ⟨rfl, hb⟩
  have H1 := Lib.hid (H0.out.kept hb)
  clear hb H0
  obtain ⟨s0, s1, s2, s3, s4, s5⟩ := H1.out.s (fun _ hx => hx)
  obtain ⟨⟨r0, r1, r2⟩, ⟨f0, f1, f2⟩, y2⟩ := H1.out.r (fun _ hx => hx)
  go_wp2_with fail
  refine (rcheck_any l j t _ hl).mono ?_
  rw [hfb]
  rintro e v2 ⟨rfl, hb⟩
  have H2 := Lib.hid (H1.out.kept hb)
  clear hb H1
  clear s0 s1 s2 s3 s4 s5 r0 r1 r2 f0 f1 f2 y2
  obtain ⟨s0, s1, s2, s3, s4, s5⟩ := H2.out.s (fun _ hx => hx)
  obtain ⟨⟨r0, r1, r2⟩, ⟨f0, f1, f2⟩, y2⟩ := H2.out.r (fun _ hx => hx)
  go_wp2_with fail
  have q0 := bwOf_cell v2 _ _ s0
  have q1 := bwOf_cell v2 _ _ s1
  have q2 := bwOf_cell v2 _ _ s2
  have q3 := bwOf_cell v2 _ _ s3
  have q4 := bwOf_cell v2 _ _ s4
  have q5 := bwOf_cell v2 _ _ s5
  have p0 := bwOf_cell v2 _ _ r0
  have p1 := bwOf_cell v2 _ _ r1
  have p2 := bwOf_cell v2 _ _ r2
  refine wp_region_bw (w := v2) (by kernel_rfl) (by kernel_rfl) ?_
  repeat (go_big_quiet_step (fail))
  go_big_quiet_step ((go_at_call 36; exact below_of (rplain_any k i s x i0 i1 _ HX.out)))
  repeat (go_big_quiet_step (fail))
  go_big_quiet_step ((go_at_call 36; exact below_of (rplain_any l j t y j0 j1 _ HY.out)))
  repeat (go_big_quiet_step (fail))
  refine wpQuiet_nil ?_
  rintro v3 ⟨m, rfl⟩
  have H3 := Lib.hid (H2.out.kept (bwOf_below v2 m))
  clear q0 q1 q2 q3 q4 q5 p0 p1 p2 H2 s0 s1 s2 s3 s4 s5 r0 r1 r2 f0 f1 f2 y2
  generalize bwOf v2 m = v3 at *
  obtain ⟨s0, s1, s2, s3, s4, s5⟩ := H3.out.s (fun _ hx => hx)
  obtain ⟨⟨r0, r1, r2⟩, ⟨f0, f1, f2⟩, y2⟩ := H3.out.r (fun _ hx => hx)
  go_wp2_with fail
  refine (rstring_any _ _).mono ?_
  rintro e v4 ⟨rfl, hb⟩
  have H4 := Lib.hid (H3.out.kept hb)
  clear hb H3
  clear s0 s1 s2 s3 s4 s5 r0 r1 r2 f0 f1 f2 y2
  obtain ⟨s0, s1, s2, s3, s4, s5⟩ := H4.out.s (fun _ hx => hx)
  obtain ⟨⟨r0, r1, r2⟩, ⟨f0, f1, f2⟩, y2⟩ := H4.out.r (fun _ hx => hx)
  go_wp2_with fail
  exact bodyPost_ret (v := .tuple #[.agg #[.int .u8 2, .int .i64 0, .string (x ++ y)], .int .i64 0]) (by simp [results, go_sem, r0, r1, r2]) rfl (gives_of rfl (below_set3 (b := w.heap.size + 1 + 1) H4.out.below (by omega) _ _ _))
set_option maxRecDepth 100000 in
set_option maxHeartbeats 4000000 in
theorem rtwo10_nn_l (k : Nat) (i : Int) (s : ByteArray) (l : Nat) (j : Int) (t : ByteArray) (hk : k < 256) (hl : l < 256) (w : World) (A0 : (((k : Nat) : Int) == 0) = false) (A1 : (((k : Nat) : Int) == 1) = true) (A2 : (((k : Nat) : Int) == 2) = false) (B0 : (((l : Nat) : Int) == 0) = false) (B1 : (((l : Nat) : Int) == 1) = true) (B2 : (((l : Nat) : Int) == 2) = false) (x y : ByteArray) (i0 : -9223372036854775808 ≤ i) (i1 : i ≤ 9223372036854775807) (j0 : -9223372036854775808 ≤ j) (j1 : j ≤ 9223372036854775807) (hx : Val.plain ⟨k, i, s⟩ = x) (hy : Val.plain ⟨l, j, t⟩ = y) (hroom : ¬ 9223372036854775807 < x.size + y.size) (hle : decide ((512 : Int) < (x.size : Int) + (y.size : Int)) = true) (hfa : Val.fine ⟨k, i, s⟩ = true) (hfb : Val.fine ⟨l, j, t⟩ = true) (hr : Val.two 10 ⟨k, i, s⟩ ⟨l, j, t⟩ = (⟨0, 0, ⟨#[]⟩⟩, 3)) :
    Calls Tryd.prog 9 #[.int .u8 10, .agg #[.int .u8 (k : Int), .int .i64 i, .string s], .agg #[.int .u8 (l : Int), .int .i64 j, .string t]] w (Gives (Val.two 10 ⟨k, i, s⟩ ⟨l, j, t⟩) w) := by
  rw [hr]
  clear hr
  have H0 := Lib.hid (base3 w k i s l j t)
  go_enter Tryd.func9, Tryd.ntmps9
  go_wp2_with fail
  have HX := Lib.hid hx
  have HY := Lib.hid hy
  clear hx hy
  generalize hW : World.alloc (World.alloc (World.alloc w _) _) _ = v0 at H0 ⊢
  clear hW
  refine (rcheck_any k i s _ hk).mono ?_
  rw [hfa]
  rintro e v1 ⟨rfl, hb⟩
  have H1 := Lib.hid (H0.out.kept hb)
  clear hb H0
  obtain ⟨s0, s1, s2, s3, s4, s5⟩ := H1.out.s (fun _ hx => hx)
  obtain ⟨⟨r0, r1, r2⟩, ⟨f0, f1, f2⟩, y2⟩ := H1.out.r (fun _ hx => hx)
  go_wp2_with fail
  refine (rcheck_any l j t _ hl).mono ?_
  rw [hfb]
  rintro e v2 ⟨rfl, hb⟩
  have H2 := Lib.hid (H1.out.kept hb)
  clear hb H1
  clear s0 s1 s2 s3 s4 s5 r0 r1 r2 f0 f1 f2 y2
  obtain ⟨s0, s1, s2, s3, s4, s5⟩ := H2.out.s (fun _ hx => hx)
  obtain ⟨⟨r0, r1, r2⟩, ⟨f0, f1, f2⟩, y2⟩ := H2.out.r (fun _ hx => hx)
  go_wp2_with fail
  have q0 := bwOf_cell v2 _ _ s0
  have q1 := bwOf_cell v2 _ _ s1
  have q2 := bwOf_cell v2 _ _ s2
  have q3 := bwOf_cell v2 _ _ s3
  have q4 := bwOf_cell v2 _ _ s4
  have q5 := bwOf_cell v2 _ _ s5
  have p0 := bwOf_cell v2 _ _ r0
  have p1 := bwOf_cell v2 _ _ r1
  have p2 := bwOf_cell v2 _ _ r2
  refine wp_region_bw (w := v2) (by kernel_rfl) (by kernel_rfl) ?_
  repeat (go_big_quiet_step (fail))
  go_big_quiet_step ((go_at_call 36; exact below_of (rplain_any k i s x i0 i1 _ HX.out)))
  repeat (go_big_quiet_step (fail))
  go_big_quiet_step ((go_at_call 36; exact below_of (rplain_any l j t y j0 j1 _ HY.out)))
  repeat (go_big_quiet_step (fail))
  refine wpQuiet_nil ?_
  rintro v3 ⟨m, rfl⟩
  have H3 := Lib.hid (H2.out.kept (bwOf_below v2 m))
  clear q0 q1 q2 q3 q4 q5 p0 p1 p2 H2 s0 s1 s2 s3 s4 s5 r0 r1 r2 f0 f1 f2 y2
  generalize bwOf v2 m = v3 at *
  obtain ⟨s0, s1, s2, s3, s4, s5⟩ := H3.out.s (fun _ hx => hx)
  obtain ⟨⟨r0, r1, r2⟩, ⟨f0, f1, f2⟩, y2⟩ := H3.out.r (fun _ hx => hx)
  go_wp2_with fail
  exact bodyPost_ret (v := .tuple #[.agg #[.int .u8 0, .int .i64 0, .string ⟨#[]⟩], .int .i64 3]) (by simp [results, go_sem, r0, r1, r2]) rfl (gives_of rfl (below_set3 (b := w.heap.size + 1 + 1) H3.out.below (by omega) _ _ _))
end
section
open Go.RowKit Go.Lib
set_option linter.unusedVariables false

theorem rcmp_at (k : Nat) (i : Int) (s : ByteArray) (l : Nat) (j : Int) (t : ByteArray) (c : Int) (h : Val.cmp ⟨k, i, s⟩ ⟨l, j, t⟩ = c) (w : World) :
    Calls Tryd.prog 38 #[.agg #[.int .u8 (k : Int), .int .i64 i, .string s], .agg #[.int .u8 (l : Int), .int .i64 j, .string t]] w fun e w' => e = .returned (.int .i64 c) ∧ Below w.heap.size w w' := by
  rw [← h]; exact rcmp_any k i s l j t w
set_option maxRecDepth 100000 in
set_option maxHeartbeats 4000000 in
theorem rtwo11_t (k : Nat) (i : Int) (s : ByteArray) (l : Nat) (j : Int) (t : ByteArray) (hk : k < 256) (hl : l < 256) (w : World) (A0 : (((k : Nat) : Int) == 0) = false) (A1 : (((k : Nat) : Int) == 1) = false) (A2 : (((k : Nat) : Int) == 2) = true) (B0 : (((l : Nat) : Int) == 0) = false) (c : Int) (hc : Val.cmp ⟨k, i, s⟩ ⟨l, j, t⟩ = c) (b : Bool) (hb0 : (c == 0) = b) (hfa : Val.fine ⟨k, i, s⟩ = true) (hfb : Val.fine ⟨l, j, t⟩ = true) (hr : Val.two 11 ⟨k, i, s⟩ ⟨l, j, t⟩ = (⟨1, (bitI b), ⟨#[]⟩⟩, 0)) :
    Calls Tryd.prog 9 #[.int .u8 11, .agg #[.int .u8 (k : Int), .int .i64 i, .string s], .agg #[.int .u8 (l : Int), .int .i64 j, .string t]] w (Gives (Val.two 11 ⟨k, i, s⟩ ⟨l, j, t⟩) w) := by
  rw [hr]
  clear hr
  have H0 := Lib.hid (base3 w k i s l j t)
  go_enter Tryd.func9, Tryd.ntmps9
  go_wp2_with fail
  have HC := Lib.hid hc
  clear hc
  generalize hW : World.alloc (World.alloc (World.alloc w _) _) _ = v0 at H0 ⊢
  clear hW
  refine (rcheck_any k i s _ hk).mono ?_
  rw [hfa]
  rintro e v1 ⟨rfl, hb⟩
  have H1 := Lib.hid (H0.out.kept hb)
  clear hb H0
  obtain ⟨s0, s1, s2, s3, s4, s5⟩ := H1.out.s (fun _ hx => hx)
  obtain ⟨⟨r0, r1, r2⟩, ⟨f0, f1, f2⟩, y2⟩ := H1.out.r (fun _ hx => hx)
  go_wp2_with fail
  refine (rcheck_any l j t _ hl).mono ?_
  rw [hfb]
  rintro e v2 ⟨rfl, hb⟩
  have H2 := Lib.hid (H1.out.kept hb)
  clear hb H1
  clear s0 s1 s2 s3 s4 s5 r0 r1 r2 f0 f1 f2 y2
  obtain ⟨s0, s1, s2, s3, s4, s5⟩ := H2.out.s (fun _ hx => hx)
  obtain ⟨⟨r0, r1, r2⟩, ⟨f0, f1, f2⟩, y2⟩ := H2.out.r (fun _ hx => hx)
  go_wp2_with fail
  refine (rcmp_at k i s l j t c HC.out _).mono ?_
  rintro e v3 ⟨rfl, hb⟩
  have H3 := Lib.hid (H2.out.kept hb)
  clear hb H2
  clear s0 s1 s2 s3 s4 s5 r0 r1 r2 f0 f1 f2 y2
  obtain ⟨s0, s1, s2, s3, s4, s5⟩ := H3.out.s (fun _ hx => hx)
  obtain ⟨⟨r0, r1, r2⟩, ⟨f0, f1, f2⟩, y2⟩ := H3.out.r (fun _ hx => hx)
  go_wp2_with fail
  first | rw [hb0] | skip
  refine (ryes_any _ _).mono ?_
  rintro e v4 ⟨rfl, hb⟩
  have H4 := Lib.hid (H3.out.kept hb)
  clear hb H3
  clear s0 s1 s2 s3 s4 s5 r0 r1 r2 f0 f1 f2 y2
  obtain ⟨s0, s1, s2, s3, s4, s5⟩ := H4.out.s (fun _ hx => hx)
  obtain ⟨⟨r0, r1, r2⟩, ⟨f0, f1, f2⟩, y2⟩ := H4.out.r (fun _ hx => hx)
  go_wp2_with fail
  exact bodyPost_ret (v := .tuple #[.agg #[.int .u8 1, .int .i64 (bitI b), .string ⟨#[]⟩], .int .i64 0]) (by simp [results, go_sem, r0, r1, r2]) rfl (gives_of rfl (below_set3 (b := w.heap.size + 1 + 1) H4.out.below (by omega) _ _ _))
set_option maxRecDepth 100000 in
set_option maxHeartbeats 4000000 in
theorem rtwo11_nt (k : Nat) (i : Int) (s : ByteArray) (l : Nat) (j : Int) (t : ByteArray) (hk : k < 256) (hl : l < 256) (w : World) (A0 : (((k : Nat) : Int) == 0) = false) (A1 : (((k : Nat) : Int) == 1) = true) (A2 : (((k : Nat) : Int) == 2) = false) (B0 : (((l : Nat) : Int) == 0) = false) (B1 : (((l : Nat) : Int) == 1) = false) (B2 : (((l : Nat) : Int) == 2) = true) (c : Int) (hc : Val.cmp ⟨k, i, s⟩ ⟨l, j, t⟩ = c) (b : Bool) (hb0 : (c == 0) = b) (hfa : Val.fine ⟨k, i, s⟩ = true) (hfb : Val.fine ⟨l, j, t⟩ = true) (hr : Val.two 11 ⟨k, i, s⟩ ⟨l, j, t⟩ = (⟨1, (bitI b), ⟨#[]⟩⟩, 0)) :
    Calls Tryd.prog 9 #[.int .u8 11, .agg #[.int .u8 (k : Int), .int .i64 i, .string s], .agg #[.int .u8 (l : Int), .int .i64 j, .string t]] w (Gives (Val.two 11 ⟨k, i, s⟩ ⟨l, j, t⟩) w) := by
  rw [hr]
  clear hr
  have H0 := Lib.hid (base3 w k i s l j t)
  go_enter Tryd.func9, Tryd.ntmps9
  go_wp2_with fail
  have HC := Lib.hid hc
  clear hc
  generalize hW : World.alloc (World.alloc (World.alloc w _) _) _ = v0 at H0 ⊢
  clear hW
  refine (rcheck_any k i s _ hk).mono ?_
  rw [hfa]
  rintro e v1 ⟨rfl, hb⟩
  have H1 := Lib.hid (H0.out.kept hb)
  clear hb H0
  obtain ⟨s0, s1, s2, s3, s4, s5⟩ := H1.out.s (fun _ hx => hx)
  obtain ⟨⟨r0, r1, r2⟩, ⟨f0, f1, f2⟩, y2⟩ := H1.out.r (fun _ hx => hx)
  go_wp2_with fail
  refine (rcheck_any l j t _ hl).mono ?_
  rw [hfb]
  rintro e v2 ⟨rfl, hb⟩
  have H2 := Lib.hid (H1.out.kept hb)
  clear hb H1
  clear s0 s1 s2 s3 s4 s5 r0 r1 r2 f0 f1 f2 y2
  obtain ⟨s0, s1, s2, s3, s4, s5⟩ := H2.out.s (fun _ hx => hx)
  obtain ⟨⟨r0, r1, r2⟩, ⟨f0, f1, f2⟩, y2⟩ := H2.out.r (fun _ hx => hx)
  go_wp2_with fail
  refine (rcmp_at k i s l j t c HC.out _).mono ?_
  rintro e v3 ⟨rfl, hb⟩
  have H3 := Lib.hid (H2.out.kept hb)
  clear hb H2
  clear s0 s1 s2 s3 s4 s5 r0 r1 r2 f0 f1 f2 y2
  obtain ⟨s0, s1, s2, s3, s4, s5⟩ := H3.out.s (fun _ hx => hx)
  obtain ⟨⟨r0, r1, r2⟩, ⟨f0, f1, f2⟩, y2⟩ := H3.out.r (fun _ hx => hx)
  go_wp2_with fail
  first | rw [hb0] | skip
  refine (ryes_any _ _).mono ?_
  rintro e v4 ⟨rfl, hb⟩
  have H4 := Lib.hid (H3.out.kept hb)
  clear hb H3
  clear s0 s1 s2 s3 s4 s5 r0 r1 r2 f0 f1 f2 y2
  obtain ⟨s0, s1, s2, s3, s4, s5⟩ := H4.out.s (fun _ hx => hx)
  obtain ⟨⟨r0, r1, r2⟩, ⟨f0, f1, f2⟩, y2⟩ := H4.out.r (fun _ hx => hx)
  go_wp2_with fail
  exact bodyPost_ret (v := .tuple #[.agg #[.int .u8 1, .int .i64 (bitI b), .string ⟨#[]⟩], .int .i64 0]) (by simp [results, go_sem, r0, r1, r2]) rfl (gives_of rfl (below_set3 (b := w.heap.size + 1 + 1) H4.out.below (by omega) _ _ _))
set_option maxRecDepth 100000 in
set_option maxHeartbeats 4000000 in
theorem rtwo11_nn (k : Nat) (i : Int) (s : ByteArray) (l : Nat) (j : Int) (t : ByteArray) (hk : k < 256) (hl : l < 256) (w : World) (A0 : (((k : Nat) : Int) == 0) = false) (A1 : (((k : Nat) : Int) == 1) = true) (A2 : (((k : Nat) : Int) == 2) = false) (B0 : (((l : Nat) : Int) == 0) = false) (B1 : (((l : Nat) : Int) == 1) = true) (B2 : (((l : Nat) : Int) == 2) = false) (c : Int) (hc : Val.cmp ⟨k, i, s⟩ ⟨l, j, t⟩ = c) (b : Bool) (hb0 : (c == 0) = b) (hfa : Val.fine ⟨k, i, s⟩ = true) (hfb : Val.fine ⟨l, j, t⟩ = true) (hr : Val.two 11 ⟨k, i, s⟩ ⟨l, j, t⟩ = (⟨1, (bitI b), ⟨#[]⟩⟩, 0)) :
    Calls Tryd.prog 9 #[.int .u8 11, .agg #[.int .u8 (k : Int), .int .i64 i, .string s], .agg #[.int .u8 (l : Int), .int .i64 j, .string t]] w (Gives (Val.two 11 ⟨k, i, s⟩ ⟨l, j, t⟩) w) := by
  rw [hr]
  clear hr
  have H0 := Lib.hid (base3 w k i s l j t)
  go_enter Tryd.func9, Tryd.ntmps9
  go_wp2_with fail
  have HC := Lib.hid hc
  clear hc
  generalize hW : World.alloc (World.alloc (World.alloc w _) _) _ = v0 at H0 ⊢
  clear hW
  refine (rcheck_any k i s _ hk).mono ?_
  rw [hfa]
  rintro e v1 ⟨rfl, hb⟩
  have H1 := Lib.hid (H0.out.kept hb)
  clear hb H0
  obtain ⟨s0, s1, s2, s3, s4, s5⟩ := H1.out.s (fun _ hx => hx)
  obtain ⟨⟨r0, r1, r2⟩, ⟨f0, f1, f2⟩, y2⟩ := H1.out.r (fun _ hx => hx)
  go_wp2_with fail
  refine (rcheck_any l j t _ hl).mono ?_
  rw [hfb]
  rintro e v2 ⟨rfl, hb⟩
  have H2 := Lib.hid (H1.out.kept hb)
  clear hb H1
  clear s0 s1 s2 s3 s4 s5 r0 r1 r2 f0 f1 f2 y2
  obtain ⟨s0, s1, s2, s3, s4, s5⟩ := H2.out.s (fun _ hx => hx)
  obtain ⟨⟨r0, r1, r2⟩, ⟨f0, f1, f2⟩, y2⟩ := H2.out.r (fun _ hx => hx)
  go_wp2_with fail
  refine (rcmp_at k i s l j t c HC.out _).mono ?_
  rintro e v3 ⟨rfl, hb⟩
  have H3 := Lib.hid (H2.out.kept hb)
  clear hb H2
  clear s0 s1 s2 s3 s4 s5 r0 r1 r2 f0 f1 f2 y2
  obtain ⟨s0, s1, s2, s3, s4, s5⟩ := H3.out.s (fun _ hx => hx)
  obtain ⟨⟨r0, r1, r2⟩, ⟨f0, f1, f2⟩, y2⟩ := H3.out.r (fun _ hx => hx)
  go_wp2_with fail
  first | rw [hb0] | skip
  refine (ryes_any _ _).mono ?_
  rintro e v4 ⟨rfl, hb⟩
  have H4 := Lib.hid (H3.out.kept hb)
  clear hb H3
  clear s0 s1 s2 s3 s4 s5 r0 r1 r2 f0 f1 f2 y2
  obtain ⟨s0, s1, s2, s3, s4, s5⟩ := H4.out.s (fun _ hx => hx)
  obtain ⟨⟨r0, r1, r2⟩, ⟨f0, f1, f2⟩, y2⟩ := H4.out.r (fun _ hx => hx)
  go_wp2_with fail
  exact bodyPost_ret (v := .tuple #[.agg #[.int .u8 1, .int .i64 (bitI b), .string ⟨#[]⟩], .int .i64 0]) (by simp [results, go_sem, r0, r1, r2]) rfl (gives_of rfl (below_set3 (b := w.heap.size + 1 + 1) H4.out.below (by omega) _ _ _))
set_option maxRecDepth 100000 in
set_option maxHeartbeats 4000000 in
theorem rtwo12_t (k : Nat) (i : Int) (s : ByteArray) (l : Nat) (j : Int) (t : ByteArray) (hk : k < 256) (hl : l < 256) (w : World) (A0 : (((k : Nat) : Int) == 0) = false) (A1 : (((k : Nat) : Int) == 1) = false) (A2 : (((k : Nat) : Int) == 2) = true) (B0 : (((l : Nat) : Int) == 0) = false) (c : Int) (hc : Val.cmp ⟨k, i, s⟩ ⟨l, j, t⟩ = c) (b : Bool) (hb0 : (c != 0) = b) (hfa : Val.fine ⟨k, i, s⟩ = true) (hfb : Val.fine ⟨l, j, t⟩ = true) (hr : Val.two 12 ⟨k, i, s⟩ ⟨l, j, t⟩ = (⟨1, (bitI b), ⟨#[]⟩⟩, 0)) :
    Calls Tryd.prog 9 #[.int .u8 12, .agg #[.int .u8 (k : Int), .int .i64 i, .string s], .agg #[.int .u8 (l : Int), .int .i64 j, .string t]] w (Gives (Val.two 12 ⟨k, i, s⟩ ⟨l, j, t⟩) w) := by
  rw [hr]
  clear hr
  have H0 := Lib.hid (base3 w k i s l j t)
  go_enter Tryd.func9, Tryd.ntmps9
  go_wp2_with fail
  have HC := Lib.hid hc
  clear hc
  generalize hW : World.alloc (World.alloc (World.alloc w _) _) _ = v0 at H0 ⊢
  clear hW
  refine (rcheck_any k i s _ hk).mono ?_
  rw [hfa]
  rintro e v1 ⟨rfl, hb⟩
  have H1 := Lib.hid (H0.out.kept hb)
  clear hb H0
  obtain ⟨s0, s1, s2, s3, s4, s5⟩ := H1.out.s (fun _ hx => hx)
  obtain ⟨⟨r0, r1, r2⟩, ⟨f0, f1, f2⟩, y2⟩ := H1.out.r (fun _ hx => hx)
  go_wp2_with fail
  refine (rcheck_any l j t _ hl).mono ?_
  rw [hfb]
  rintro e v2 ⟨rfl, hb⟩
  have H2 := Lib.hid (H1.out.kept hb)
  clear hb H1
  clear s0 s1 s2 s3 s4 s5 r0 r1 r2 f0 f1 f2 y2
  obtain ⟨s0, s1, s2, s3, s4, s5⟩ := H2.out.s (fun _ hx => hx)
  obtain ⟨⟨r0, r1, r2⟩, ⟨f0, f1, f2⟩, y2⟩ := H2.out.r (fun _ hx => hx)
  go_wp2_with fail
  refine (rcmp_at k i s l j t c HC.out _).mono ?_
  rintro e v3 ⟨rfl, hb⟩
  have H3 := Lib.hid (H2.out.kept hb)
  clear hb H2
  clear s0 s1 s2 s3 s4 s5 r0 r1 r2 f0 f1 f2 y2
  obtain ⟨s0, s1, s2, s3, s4, s5⟩ := H3.out.s (fun _ hx => hx)
  obtain ⟨⟨r0, r1, r2⟩, ⟨f0, f1, f2⟩, y2⟩ := H3.out.r (fun _ hx => hx)
  go_wp2_with fail
  first | rw [hb0] | skip
  refine (ryes_any _ _).mono ?_
  rintro e v4 ⟨rfl, hb⟩
  have H4 := Lib.hid (H3.out.kept hb)
  clear hb H3
  clear s0 s1 s2 s3 s4 s5 r0 r1 r2 f0 f1 f2 y2
  obtain ⟨s0, s1, s2, s3, s4, s5⟩ := H4.out.s (fun _ hx => hx)
  obtain ⟨⟨r0, r1, r2⟩, ⟨f0, f1, f2⟩, y2⟩ := H4.out.r (fun _ hx => hx)
  go_wp2_with fail
  exact bodyPost_ret (v := .tuple #[.agg #[.int .u8 1, .int .i64 (bitI b), .string ⟨#[]⟩], .int .i64 0]) (by simp [results, go_sem, r0, r1, r2]) rfl (gives_of rfl (below_set3 (b := w.heap.size + 1 + 1) H4.out.below (by omega) _ _ _))
set_option maxRecDepth 100000 in
set_option maxHeartbeats 4000000 in
theorem rtwo12_nt (k : Nat) (i : Int) (s : ByteArray) (l : Nat) (j : Int) (t : ByteArray) (hk : k < 256) (hl : l < 256) (w : World) (A0 : (((k : Nat) : Int) == 0) = false) (A1 : (((k : Nat) : Int) == 1) = true) (A2 : (((k : Nat) : Int) == 2) = false) (B0 : (((l : Nat) : Int) == 0) = false) (B1 : (((l : Nat) : Int) == 1) = false) (B2 : (((l : Nat) : Int) == 2) = true) (c : Int) (hc : Val.cmp ⟨k, i, s⟩ ⟨l, j, t⟩ = c) (b : Bool) (hb0 : (c != 0) = b) (hfa : Val.fine ⟨k, i, s⟩ = true) (hfb : Val.fine ⟨l, j, t⟩ = true) (hr : Val.two 12 ⟨k, i, s⟩ ⟨l, j, t⟩ = (⟨1, (bitI b), ⟨#[]⟩⟩, 0)) :
    Calls Tryd.prog 9 #[.int .u8 12, .agg #[.int .u8 (k : Int), .int .i64 i, .string s], .agg #[.int .u8 (l : Int), .int .i64 j, .string t]] w (Gives (Val.two 12 ⟨k, i, s⟩ ⟨l, j, t⟩) w) := by
  rw [hr]
  clear hr
  have H0 := Lib.hid (base3 w k i s l j t)
  go_enter Tryd.func9, Tryd.ntmps9
  go_wp2_with fail
  have HC := Lib.hid hc
  clear hc
  generalize hW : World.alloc (World.alloc (World.alloc w _) _) _ = v0 at H0 ⊢
  clear hW
  refine (rcheck_any k i s _ hk).mono ?_
  rw [hfa]
  rintro e v1 ⟨rfl, hb⟩
  have H1 := Lib.hid (H0.out.kept hb)
  clear hb H0
  obtain ⟨s0, s1, s2, s3, s4, s5⟩ := H1.out.s (fun _ hx => hx)
  obtain ⟨⟨r0, r1, r2⟩, ⟨f0, f1, f2⟩, y2⟩ := H1.out.r (fun _ hx => hx)
  go_wp2_with fail
  refine (rcheck_any l j t _ hl).mono ?_
  rw [hfb]
  rintro e v2 ⟨rfl, hb⟩
  have H2 := Lib.hid (H1.out.kept hb)
  clear hb H1
  clear s0 s1 s2 s3 s4 s5 r0 r1 r2 f0 f1 f2 y2
  obtain ⟨s0, s1, s2, s3, s4, s5⟩ := H2.out.s (fun _ hx => hx)
  obtain ⟨⟨r0, r1, r2⟩, ⟨f0, f1, f2⟩, y2⟩ := H2.out.r (fun _ hx => hx)
  go_wp2_with fail
  refine (rcmp_at k i s l j t c HC.out _).mono ?_
  rintro e v3 ⟨rfl, hb⟩
  have H3 := Lib.hid (H2.out.kept hb)
  clear hb H2
  clear s0 s1 s2 s3 s4 s5 r0 r1 r2 f0 f1 f2 y2
  obtain ⟨s0, s1, s2, s3, s4, s5⟩ := H3.out.s (fun _ hx => hx)
  obtain ⟨⟨r0, r1, r2⟩, ⟨f0, f1, f2⟩, y2⟩ := H3.out.r (fun _ hx => hx)
  go_wp2_with fail
  first | rw [hb0] | skip
  refine (ryes_any _ _).mono ?_
  rintro e v4 ⟨rfl, hb⟩
  have H4 := Lib.hid (H3.out.kept hb)
  clear hb H3
  clear s0 s1 s2 s3 s4 s5 r0 r1 r2 f0 f1 f2 y2
  obtain ⟨s0, s1, s2, s3, s4, s5⟩ := H4.out.s (fun _ hx => hx)
  obtain ⟨⟨r0, r1, r2⟩, ⟨f0, f1, f2⟩, y2⟩ := H4.out.r (fun _ hx => hx)
  go_wp2_with fail
  exact bodyPost_ret (v := .tuple #[.agg #[.int .u8 1, .int .i64 (bitI b), .string ⟨#[]⟩], .int .i64 0]) (by simp [results, go_sem, r0, r1, r2]) rfl (gives_of rfl (below_set3 (b := w.heap.size + 1 + 1) H4.out.below (by omega) _ _ _))
set_option maxRecDepth 100000 in
set_option maxHeartbeats 4000000 in
theorem rtwo12_nn (k : Nat) (i : Int) (s : ByteArray) (l : Nat) (j : Int) (t : ByteArray) (hk : k < 256) (hl : l < 256) (w : World) (A0 : (((k : Nat) : Int) == 0) = false) (A1 : (((k : Nat) : Int) == 1) = true) (A2 : (((k : Nat) : Int) == 2) = false) (B0 : (((l : Nat) : Int) == 0) = false) (B1 : (((l : Nat) : Int) == 1) = true) (B2 : (((l : Nat) : Int) == 2) = false) (c : Int) (hc : Val.cmp ⟨k, i, s⟩ ⟨l, j, t⟩ = c) (b : Bool) (hb0 : (c != 0) = b) (hfa : Val.fine ⟨k, i, s⟩ = true) (hfb : Val.fine ⟨l, j, t⟩ = true) (hr : Val.two 12 ⟨k, i, s⟩ ⟨l, j, t⟩ = (⟨1, (bitI b), ⟨#[]⟩⟩, 0)) :
    Calls Tryd.prog 9 #[.int .u8 12, .agg #[.int .u8 (k : Int), .int .i64 i, .string s], .agg #[.int .u8 (l : Int), .int .i64 j, .string t]] w (Gives (Val.two 12 ⟨k, i, s⟩ ⟨l, j, t⟩) w) := by
  rw [hr]
  clear hr
  have H0 := Lib.hid (base3 w k i s l j t)
  go_enter Tryd.func9, Tryd.ntmps9
  go_wp2_with fail
  have HC := Lib.hid hc
  clear hc
  generalize hW : World.alloc (World.alloc (World.alloc w _) _) _ = v0 at H0 ⊢
  clear hW
  refine (rcheck_any k i s _ hk).mono ?_
  rw [hfa]
  rintro e v1 ⟨rfl, hb⟩
  have H1 := Lib.hid (H0.out.kept hb)
  clear hb H0
  obtain ⟨s0, s1, s2, s3, s4, s5⟩ := H1.out.s (fun _ hx => hx)
  obtain ⟨⟨r0, r1, r2⟩, ⟨f0, f1, f2⟩, y2⟩ := H1.out.r (fun _ hx => hx)
  go_wp2_with fail
  refine (rcheck_any l j t _ hl).mono ?_
  rw [hfb]
  rintro e v2 ⟨rfl, hb⟩
  have H2 := Lib.hid (H1.out.kept hb)
  clear hb H1
  clear s0 s1 s2 s3 s4 s5 r0 r1 r2 f0 f1 f2 y2
  obtain ⟨s0, s1, s2, s3, s4, s5⟩ := H2.out.s (fun _ hx => hx)
  obtain ⟨⟨r0, r1, r2⟩, ⟨f0, f1, f2⟩, y2⟩ := H2.out.r (fun _ hx => hx)
  go_wp2_with fail
  refine (rcmp_at k i s l j t c HC.out _).mono ?_
  rintro e v3 ⟨rfl, hb⟩
  have H3 := Lib.hid (H2.out.kept hb)
  clear hb H2
  clear s0 s1 s2 s3 s4 s5 r0 r1 r2 f0 f1 f2 y2
  obtain ⟨s0, s1, s2, s3, s4, s5⟩ := H3.out.s (fun _ hx => hx)
  obtain ⟨⟨r0, r1, r2⟩, ⟨f0, f1, f2⟩, y2⟩ := H3.out.r (fun _ hx => hx)
  go_wp2_with fail
  first | rw [hb0] | skip
  refine (ryes_any _ _).mono ?_
  rintro e v4 ⟨rfl, hb⟩
  have H4 := Lib.hid (H3.out.kept hb)
  clear hb H3
  clear s0 s1 s2 s3 s4 s5 r0 r1 r2 f0 f1 f2 y2
  obtain ⟨s0, s1, s2, s3, s4, s5⟩ := H4.out.s (fun _ hx => hx)
  obtain ⟨⟨r0, r1, r2⟩, ⟨f0, f1, f2⟩, y2⟩ := H4.out.r (fun _ hx => hx)
  go_wp2_with fail
  exact bodyPost_ret (v := .tuple #[.agg #[.int .u8 1, .int .i64 (bitI b), .string ⟨#[]⟩], .int .i64 0]) (by simp [results, go_sem, r0, r1, r2]) rfl (gives_of rfl (below_set3 (b := w.heap.size + 1 + 1) H4.out.below (by omega) _ _ _))
set_option maxRecDepth 100000 in
set_option maxHeartbeats 4000000 in
theorem rtwo13_t (k : Nat) (i : Int) (s : ByteArray) (l : Nat) (j : Int) (t : ByteArray) (hk : k < 256) (hl : l < 256) (w : World) (A0 : (((k : Nat) : Int) == 0) = false) (A1 : (((k : Nat) : Int) == 1) = false) (A2 : (((k : Nat) : Int) == 2) = true) (B0 : (((l : Nat) : Int) == 0) = false) (c : Int) (hc : Val.cmp ⟨k, i, s⟩ ⟨l, j, t⟩ = c) (b : Bool) (hb0 : (decide (c < 0)) = b) (hfa : Val.fine ⟨k, i, s⟩ = true) (hfb : Val.fine ⟨l, j, t⟩ = true) (hr : Val.two 13 ⟨k, i, s⟩ ⟨l, j, t⟩ = (⟨1, (bitI b), ⟨#[]⟩⟩, 0)) :
    Calls Tryd.prog 9 #[.int .u8 13, .agg #[.int .u8 (k : Int), .int .i64 i, .string s], .agg #[.int .u8 (l : Int), .int .i64 j, .string t]] w (Gives (Val.two 13 ⟨k, i, s⟩ ⟨l, j, t⟩) w) := by
  rw [hr]
  clear hr
  have H0 := Lib.hid (base3 w k i s l j t)
  go_enter Tryd.func9, Tryd.ntmps9
  go_wp2_with fail
  have HC := Lib.hid hc
  clear hc
  generalize hW : World.alloc (World.alloc (World.alloc w _) _) _ = v0 at H0 ⊢
  clear hW
  refine (rcheck_any k i s _ hk).mono ?_
  rw [hfa]
  rintro e v1 ⟨rfl, hb⟩
  have H1 := Lib.hid (H0.out.kept hb)
  clear hb H0
  obtain ⟨s0, s1, s2, s3, s4, s5⟩ := H1.out.s (fun _ hx => hx)
  obtain ⟨⟨r0, r1, r2⟩, ⟨f0, f1, f2⟩, y2⟩ := H1.out.r (fun _ hx => hx)
  go_wp2_with fail
  refine (rcheck_any l j t _ hl).mono ?_
  rw [hfb]
  rintro e v2 ⟨rfl, hb⟩
  have H2 := Lib.hid (H1.out.kept hb)
  clear hb H1
  clear s0 s1 s2 s3 s4 s5 r0 r1 r2 f0 f1 f2 y2
  obtain ⟨s0, s1, s2, s3, s4, s5⟩ := H2.out.s (fun _ hx => hx)
  obtain ⟨⟨r0, r1, r2⟩, ⟨f0, f1, f2⟩, y2⟩ := H2.out.r (fun _ hx => hx)
  go_wp2_with fail
  refine (rcmp_at k i s l j t c HC.out _).mono ?_
  rintro e v3 ⟨rfl, hb⟩
  have H3 := Lib.hid (H2.out.kept hb)
  clear hb H2
  clear s0 s1 s2 s3 s4 s5 r0 r1 r2 f0 f1 f2 y2
  obtain ⟨s0, s1, s2, s3, s4, s5⟩ := H3.out.s (fun _ hx => hx)
  obtain ⟨⟨r0, r1, r2⟩, ⟨f0, f1, f2⟩, y2⟩ := H3.out.r (fun _ hx => hx)
  go_wp2_with fail
  first | rw [hb0] | skip
  refine (ryes_any _ _).mono ?_
  rintro e v4 ⟨rfl, hb⟩
  have H4 := Lib.hid (H3.out.kept hb)
  clear hb H3
  clear s0 s1 s2 s3 s4 s5 r0 r1 r2 f0 f1 f2 y2
  obtain ⟨s0, s1, s2, s3, s4, s5⟩ := H4.out.s (fun _ hx => hx)
  obtain ⟨⟨r0, r1, r2⟩, ⟨f0, f1, f2⟩, y2⟩ := H4.out.r (fun _ hx => hx)
  go_wp2_with fail
  exact bodyPost_ret (v := .tuple #[.agg #[.int .u8 1, .int .i64 (bitI b), .string ⟨#[]⟩], .int .i64 0]) (by simp [results, go_sem, r0, r1, r2]) rfl (gives_of rfl (below_set3 (b := w.heap.size + 1 + 1) H4.out.below (by omega) _ _ _))
set_option maxRecDepth 100000 in
set_option maxHeartbeats 4000000 in
theorem rtwo13_nt (k : Nat) (i : Int) (s : ByteArray) (l : Nat) (j : Int) (t : ByteArray) (hk : k < 256) (hl : l < 256) (w : World) (A0 : (((k : Nat) : Int) == 0) = false) (A1 : (((k : Nat) : Int) == 1) = true) (A2 : (((k : Nat) : Int) == 2) = false) (B0 : (((l : Nat) : Int) == 0) = false) (B1 : (((l : Nat) : Int) == 1) = false) (B2 : (((l : Nat) : Int) == 2) = true) (c : Int) (hc : Val.cmp ⟨k, i, s⟩ ⟨l, j, t⟩ = c) (b : Bool) (hb0 : (decide (c < 0)) = b) (hfa : Val.fine ⟨k, i, s⟩ = true) (hfb : Val.fine ⟨l, j, t⟩ = true) (hr : Val.two 13 ⟨k, i, s⟩ ⟨l, j, t⟩ = (⟨1, (bitI b), ⟨#[]⟩⟩, 0)) :
    Calls Tryd.prog 9 #[.int .u8 13, .agg #[.int .u8 (k : Int), .int .i64 i, .string s], .agg #[.int .u8 (l : Int), .int .i64 j, .string t]] w (Gives (Val.two 13 ⟨k, i, s⟩ ⟨l, j, t⟩) w) := by
  rw [hr]
  clear hr
  have H0 := Lib.hid (base3 w k i s l j t)
  go_enter Tryd.func9, Tryd.ntmps9
  go_wp2_with fail
  have HC := Lib.hid hc
  clear hc
  generalize hW : World.alloc (World.alloc (World.alloc w _) _) _ = v0 at H0 ⊢
  clear hW
  refine (rcheck_any k i s _ hk).mono ?_
  rw [hfa]
  rintro e v1 ⟨rfl, hb⟩
  have H1 := Lib.hid (H0.out.kept hb)
  clear hb H0
  obtain ⟨s0, s1, s2, s3, s4, s5⟩ := H1.out.s (fun _ hx => hx)
  obtain ⟨⟨r0, r1, r2⟩, ⟨f0, f1, f2⟩, y2⟩ := H1.out.r (fun _ hx => hx)
  go_wp2_with fail
  refine (rcheck_any l j t _ hl).mono ?_
  rw [hfb]
  rintro e v2 ⟨rfl, hb⟩
  have H2 := Lib.hid (H1.out.kept hb)
  clear hb H1
  clear s0 s1 s2 s3 s4 s5 r0 r1 r2 f0 f1 f2 y2
  obtain ⟨s0, s1, s2, s3, s4, s5⟩ := H2.out.s (fun _ hx => hx)
  obtain ⟨⟨r0, r1, r2⟩, ⟨f0, f1, f2⟩, y2⟩ := H2.out.r (fun _ hx => hx)
  go_wp2_with fail
  refine (rcmp_at k i s l j t c HC.out _).mono ?_
  rintro e v3 ⟨rfl, hb⟩
  have H3 := Lib.hid (H2.out.kept hb)
  clear hb H2
  clear s0 s1 s2 s3 s4 s5 r0 r1 r2 f0 f1 f2 y2
  obtain ⟨s0, s1, s2, s3, s4, s5⟩ := H3.out.s (fun _ hx => hx)
  obtain ⟨⟨r0, r1, r2⟩, ⟨f0, f1, f2⟩, y2⟩ := H3.out.r (fun _ hx => hx)
  go_wp2_with fail
  first | rw [hb0] | skip
  refine (ryes_any _ _).mono ?_
  rintro e v4 ⟨rfl, hb⟩
  have H4 := Lib.hid (H3.out.kept hb)
  clear hb H3
  clear s0 s1 s2 s3 s4 s5 r0 r1 r2 f0 f1 f2 y2
  obtain ⟨s0, s1, s2, s3, s4, s5⟩ := H4.out.s (fun _ hx => hx)
  obtain ⟨⟨r0, r1, r2⟩, ⟨f0, f1, f2⟩, y2⟩ := H4.out.r (fun _ hx => hx)
  go_wp2_with fail
  exact bodyPost_ret (v := .tuple #[.agg #[.int .u8 1, .int .i64 (bitI b), .string ⟨#[]⟩], .int .i64 0]) (by simp [results, go_sem, r0, r1, r2]) rfl (gives_of rfl (below_set3 (b := w.heap.size + 1 + 1) H4.out.below (by omega) _ _ _))
set_option maxRecDepth 100000 in
set_option maxHeartbeats 4000000 in
theorem rtwo13_nn (k : Nat) (i : Int) (s : ByteArray) (l : Nat) (j : Int) (t : ByteArray) (hk : k < 256) (hl : l < 256) (w : World) (A0 : (((k : Nat) : Int) == 0) = false) (A1 : (((k : Nat) : Int) == 1) = true) (A2 : (((k : Nat) : Int) == 2) = false) (B0 : (((l : Nat) : Int) == 0) = false) (B1 : (((l : Nat) : Int) == 1) = true) (B2 : (((l : Nat) : Int) == 2) = false) (c : Int) (hc : Val.cmp ⟨k, i, s⟩ ⟨l, j, t⟩ = c) (b : Bool) (hb0 : (decide (c < 0)) = b) (hfa : Val.fine ⟨k, i, s⟩ = true) (hfb : Val.fine ⟨l, j, t⟩ = true) (hr : Val.two 13 ⟨k, i, s⟩ ⟨l, j, t⟩ = (⟨1, (bitI b), ⟨#[]⟩⟩, 0)) :
    Calls Tryd.prog 9 #[.int .u8 13, .agg #[.int .u8 (k : Int), .int .i64 i, .string s], .agg #[.int .u8 (l : Int), .int .i64 j, .string t]] w (Gives (Val.two 13 ⟨k, i, s⟩ ⟨l, j, t⟩) w) := by
  rw [hr]
  clear hr
  have H0 := Lib.hid (base3 w k i s l j t)
  go_enter Tryd.func9, Tryd.ntmps9
  go_wp2_with fail
  have HC := Lib.hid hc
  clear hc
  generalize hW : World.alloc (World.alloc (World.alloc w _) _) _ = v0 at H0 ⊢
  clear hW
  refine (rcheck_any k i s _ hk).mono ?_
  rw [hfa]
  rintro e v1 ⟨rfl, hb⟩
  have H1 := Lib.hid (H0.out.kept hb)
  clear hb H0
  obtain ⟨s0, s1, s2, s3, s4, s5⟩ := H1.out.s (fun _ hx => hx)
  obtain ⟨⟨r0, r1, r2⟩, ⟨f0, f1, f2⟩, y2⟩ := H1.out.r (fun _ hx => hx)
  go_wp2_with fail
  refine (rcheck_any l j t _ hl).mono ?_
  rw [hfb]
  rintro e v2 ⟨rfl, hb⟩
  have H2 := Lib.hid (H1.out.kept hb)
  clear hb H1
  clear s0 s1 s2 s3 s4 s5 r0 r1 r2 f0 f1 f2 y2
  obtain ⟨s0, s1, s2, s3, s4, s5⟩ := H2.out.s (fun _ hx => hx)
  obtain ⟨⟨r0, r1, r2⟩, ⟨f0, f1, f2⟩, y2⟩ := H2.out.r (fun _ hx => hx)
  go_wp2_with fail
  refine (rcmp_at k i s l j t c HC.out _).mono ?_
  rintro e v3 ⟨rfl, hb⟩
  have H3 := Lib.hid (H2.out.kept hb)
  clear hb H2
  clear s0 s1 s2 s3 s4 s5 r0 r1 r2 f0 f1 f2 y2
  obtain ⟨s0, s1, s2, s3, s4, s5⟩ := H3.out.s (fun _ hx => hx)
  obtain ⟨⟨r0, r1, r2⟩, ⟨f0, f1, f2⟩, y2⟩ := H3.out.r (fun _ hx => hx)
  go_wp2_with fail
  first | rw [hb0] | skip
  refine (ryes_any _ _).mono ?_
  rintro e v4 ⟨rfl, hb⟩
  have H4 := Lib.hid (H3.out.kept hb)
  clear hb H3
  clear s0 s1 s2 s3 s4 s5 r0 r1 r2 f0 f1 f2 y2
  obtain ⟨s0, s1, s2, s3, s4, s5⟩ := H4.out.s (fun _ hx => hx)
  obtain ⟨⟨r0, r1, r2⟩, ⟨f0, f1, f2⟩, y2⟩ := H4.out.r (fun _ hx => hx)
  go_wp2_with fail
  exact bodyPost_ret (v := .tuple #[.agg #[.int .u8 1, .int .i64 (bitI b), .string ⟨#[]⟩], .int .i64 0]) (by simp [results, go_sem, r0, r1, r2]) rfl (gives_of rfl (below_set3 (b := w.heap.size + 1 + 1) H4.out.below (by omega) _ _ _))
end
section
open Go.RowKit Go.Lib
set_option linter.unusedVariables false

set_option maxRecDepth 100000 in
set_option maxHeartbeats 4000000 in
theorem rtwo14_t (k : Nat) (i : Int) (s : ByteArray) (l : Nat) (j : Int) (t : ByteArray) (hk : k < 256) (hl : l < 256) (w : World) (A0 : (((k : Nat) : Int) == 0) = false) (A1 : (((k : Nat) : Int) == 1) = false) (A2 : (((k : Nat) : Int) == 2) = true) (B0 : (((l : Nat) : Int) == 0) = false) (c : Int) (hc : Val.cmp ⟨k, i, s⟩ ⟨l, j, t⟩ = c) (b : Bool) (hb0 : (decide (c ≤ 0)) = b) (hfa : Val.fine ⟨k, i, s⟩ = true) (hfb : Val.fine ⟨l, j, t⟩ = true) (hr : Val.two 14 ⟨k, i, s⟩ ⟨l, j, t⟩ = (⟨1, (bitI b), ⟨#[]⟩⟩, 0)) :
    Calls Tryd.prog 9 #[.int .u8 14, .agg #[.int .u8 (k : Int), .int .i64 i, .string s], .agg #[.int .u8 (l : Int), .int .i64 j, .string t]] w (Gives (Val.two 14 ⟨k, i, s⟩ ⟨l, j, t⟩) w) := by
  rw [hr]
  clear hr
  have H0 := Lib.hid (base3 w k i s l j t)
  go_enter Tryd.func9, Tryd.ntmps9
  go_wp2_with fail
  have HC := Lib.hid hc
  clear hc
  generalize hW : World.alloc (World.alloc (World.alloc w _) _) _ = v0 at H0 ⊢
  clear hW
  refine (rcheck_any k i s _ hk).mono ?_
  rw [hfa]
  rintro e v1 ⟨rfl, hb⟩
  have H1 := Lib.hid (H0.out.kept hb)
  clear hb H0
  obtain ⟨s0, s1, s2, s3, s4, s5⟩ := H1.out.s (fun _ hx => hx)
  obtain ⟨⟨r0, r1, r2⟩, ⟨f0, f1, f2⟩, y2⟩ := H1.out.r (fun _ hx => hx)
  go_wp2_with fail
  refine (rcheck_any l j t _ hl).mono ?_
  rw [hfb]
  rintro e v2 ⟨rfl, hb⟩
  have H2 := Lib.hid (H1.out.kept hb)
  clear hb H1
  clear s0 s1 s2 s3 s4 s5 r0 r1 r2 f0 f1 f2 y2
  obtain ⟨s0, s1, s2, s3, s4, s5⟩ := H2.out.s (fun _ hx => hx)
  obtain ⟨⟨r0, r1, r2⟩, ⟨f0, f1, f2⟩, y2⟩ := H2.out.r (fun _ hx => hx)
  go_wp2_with fail
  refine (rcmp_at k i s l j t c HC.out _).mono ?_
  rintro e v3 ⟨rfl, hb⟩
  have H3 := Lib.hid (H2.out.kept hb)
  clear hb H2
  clear s0 s1 s2 s3 s4 s5 r0 r1 r2 f0 f1 f2 y2
  obtain ⟨s0, s1, s2, s3, s4, s5⟩ := H3.out.s (fun _ hx => hx)
  obtain ⟨⟨r0, r1, r2⟩, ⟨f0, f1, f2⟩, y2⟩ := H3.out.r (fun _ hx => hx)
  go_wp2_with fail
  first | rw [hb0] | skip
  refine (ryes_any _ _).mono ?_
  rintro e v4 ⟨rfl, hb⟩
  have H4 := Lib.hid (H3.out.kept hb)
  clear hb H3
  clear s0 s1 s2 s3 s4 s5 r0 r1 r2 f0 f1 f2 y2
  obtain ⟨s0, s1, s2, s3, s4, s5⟩ := H4.out.s (fun _ hx => hx)
  obtain ⟨⟨r0, r1, r2⟩, ⟨f0, f1, f2⟩, y2⟩ := H4.out.r (fun _ hx => hx)
  go_wp2_with fail
  exact bodyPost_ret (v := .tuple #[.agg #[.int .u8 1, .int .i64 (bitI b), .string ⟨#[]⟩], .int .i64 0]) (by simp [results, go_sem, r0, r1, r2]) rfl (gives_of rfl (below_set3 (b := w.heap.size + 1 + 1) H4.out.below (by omega) _ _ _))
set_option maxRecDepth 100000 in
set_option maxHeartbeats 4000000 in
theorem rtwo14_nt (k : Nat) (i : Int) (s : ByteArray) (l : Nat) (j : Int) (t : ByteArray) (hk : k < 256) (hl : l < 256) (w : World) (A0 : (((k : Nat) : Int) == 0) = false) (A1 : (((k : Nat) : Int) == 1) = true) (A2 : (((k : Nat) : Int) == 2) = false) (B0 : (((l : Nat) : Int) == 0) = false) (B1 : (((l : Nat) : Int) == 1) = false) (B2 : (((l : Nat) : Int) == 2) = true) (c : Int) (hc : Val.cmp ⟨k, i, s⟩ ⟨l, j, t⟩ = c) (b : Bool) (hb0 : (decide (c ≤ 0)) = b) (hfa : Val.fine ⟨k, i, s⟩ = true) (hfb : Val.fine ⟨l, j, t⟩ = true) (hr : Val.two 14 ⟨k, i, s⟩ ⟨l, j, t⟩ = (⟨1, (bitI b), ⟨#[]⟩⟩, 0)) :
    Calls Tryd.prog 9 #[.int .u8 14, .agg #[.int .u8 (k : Int), .int .i64 i, .string s], .agg #[.int .u8 (l : Int), .int .i64 j, .string t]] w (Gives (Val.two 14 ⟨k, i, s⟩ ⟨l, j, t⟩) w) := by
  rw [hr]
  clear hr
  have H0 := Lib.hid (base3 w k i s l j t)
  go_enter Tryd.func9, Tryd.ntmps9
  go_wp2_with fail
  have HC := Lib.hid hc
  clear hc
  generalize hW : World.alloc (World.alloc (World.alloc w _) _) _ = v0 at H0 ⊢
  clear hW
  refine (rcheck_any k i s _ hk).mono ?_
  rw [hfa]
  rintro e v1 ⟨rfl, hb⟩
  have H1 := Lib.hid (H0.out.kept hb)
  clear hb H0
  obtain ⟨s0, s1, s2, s3, s4, s5⟩ := H1.out.s (fun _ hx => hx)
  obtain ⟨⟨r0, r1, r2⟩, ⟨f0, f1, f2⟩, y2⟩ := H1.out.r (fun _ hx => hx)
  go_wp2_with fail
  refine (rcheck_any l j t _ hl).mono ?_
  rw [hfb]
  rintro e v2 ⟨rfl, hb⟩
  have H2 := Lib.hid (H1.out.kept hb)
  clear hb H1
  clear s0 s1 s2 s3 s4 s5 r0 r1 r2 f0 f1 f2 y2
  obtain ⟨s0, s1, s2, s3, s4, s5⟩ := H2.out.s (fun _ hx => hx)
  obtain ⟨⟨r0, r1, r2⟩, ⟨f0, f1, f2⟩, y2⟩ := H2.out.r (fun _ hx => hx)
  go_wp2_with fail
  refine (rcmp_at k i s l j t c HC.out _).mono ?_
  rintro e v3 ⟨rfl, hb⟩
  have H3 := Lib.hid (H2.out.kept hb)
  clear hb H2
  clear s0 s1 s2 s3 s4 s5 r0 r1 r2 f0 f1 f2 y2
  obtain ⟨s0, s1, s2, s3, s4, s5⟩ := H3.out.s (fun _ hx => hx)
  obtain ⟨⟨r0, r1, r2⟩, ⟨f0, f1, f2⟩, y2⟩ := H3.out.r (fun _ hx => hx)
  go_wp2_with fail
  first | rw [hb0] | skip
  refine (ryes_any _ _).mono ?_
  rintro e v4 ⟨rfl, hb⟩
  have H4 := Lib.hid (H3.out.kept hb)
  clear hb H3
  clear s0 s1 s2 s3 s4 s5 r0 r1 r2 f0 f1 f2 y2
  obtain ⟨s0, s1, s2, s3, s4, s5⟩ := H4.out.s (fun _ hx => hx)
  obtain ⟨⟨r0, r1, r2⟩, ⟨f0, f1, f2⟩, y2⟩ := H4.out.r (fun _ hx => hx)
  go_wp2_with fail
  exact bodyPost_ret (v := .tuple #[.agg #[.int .u8 1, .int .i64 (bitI b), .string ⟨#[]⟩], .int .i64 0]) (by simp [results, go_sem, r0, r1, r2]) rfl (gives_of rfl (below_set3 (b := w.heap.size + 1 + 1) H4.out.below (by omega) _ _ _))
set_option maxRecDepth 100000 in
set_option maxHeartbeats 4000000 in
theorem rtwo14_nn (k : Nat) (i : Int) (s : ByteArray) (l : Nat) (j : Int) (t : ByteArray) (hk : k < 256) (hl : l < 256) (w : World) (A0 : (((k : Nat) : Int) == 0) = false) (A1 : (((k : Nat) : Int) == 1) = true) (A2 : (((k : Nat) : Int) == 2) = false) (B0 : (((l : Nat) : Int) == 0) = false) (B1 : (((l : Nat) : Int) == 1) = true) (B2 : (((l : Nat) : Int) == 2) = false) (c : Int) (hc : Val.cmp ⟨k, i, s⟩ ⟨l, j, t⟩ = c) (b : Bool) (hb0 : (decide (c ≤ 0)) = b) (hfa : Val.fine ⟨k, i, s⟩ = true) (hfb : Val.fine ⟨l, j, t⟩ = true) (hr : Val.two 14 ⟨k, i, s⟩ ⟨l, j, t⟩ = (⟨1, (bitI b), ⟨#[]⟩⟩, 0)) :
    Calls Tryd.prog 9 #[.int .u8 14, .agg #[.int .u8 (k : Int), .int .i64 i, .string s], .agg #[.int .u8 (l : Int), .int .i64 j, .string t]] w (Gives (Val.two 14 ⟨k, i, s⟩ ⟨l, j, t⟩) w) := by
  rw [hr]
  clear hr
  have H0 := Lib.hid (base3 w k i s l j t)
  go_enter Tryd.func9, Tryd.ntmps9
  go_wp2_with fail
  have HC := Lib.hid hc
  clear hc
  generalize hW : World.alloc (World.alloc (World.alloc w _) _) _ = v0 at H0 ⊢
  clear hW
  refine (rcheck_any k i s _ hk).mono ?_
  rw [hfa]
  rintro e v1 ⟨rfl, hb⟩
  have H1 := Lib.hid (H0.out.kept hb)
  clear hb H0
  obtain ⟨s0, s1, s2, s3, s4, s5⟩ := H1.out.s (fun _ hx => hx)
  obtain ⟨⟨r0, r1, r2⟩, ⟨f0, f1, f2⟩, y2⟩ := H1.out.r (fun _ hx => hx)
  go_wp2_with fail
  refine (rcheck_any l j t _ hl).mono ?_
  rw [hfb]
  rintro e v2 ⟨rfl, hb⟩
  have H2 := Lib.hid (H1.out.kept hb)
  clear hb H1
  clear s0 s1 s2 s3 s4 s5 r0 r1 r2 f0 f1 f2 y2
  obtain ⟨s0, s1, s2, s3, s4, s5⟩ := H2.out.s (fun _ hx => hx)
  obtain ⟨⟨r0, r1, r2⟩, ⟨f0, f1, f2⟩, y2⟩ := H2.out.r (fun _ hx => hx)
  go_wp2_with fail
  refine (rcmp_at k i s l j t c HC.out _).mono ?_
  rintro e v3 ⟨rfl, hb⟩
  have H3 := Lib.hid (H2.out.kept hb)
  clear hb H2
  clear s0 s1 s2 s3 s4 s5 r0 r1 r2 f0 f1 f2 y2
  obtain ⟨s0, s1, s2, s3, s4, s5⟩ := H3.out.s (fun _ hx => hx)
  obtain ⟨⟨r0, r1, r2⟩, ⟨f0, f1, f2⟩, y2⟩ := H3.out.r (fun _ hx => hx)
  go_wp2_with fail
  first | rw [hb0] | skip
  refine (ryes_any _ _).mono ?_
  rintro e v4 ⟨rfl, hb⟩
  have H4 := Lib.hid (H3.out.kept hb)
  clear hb H3
  clear s0 s1 s2 s3 s4 s5 r0 r1 r2 f0 f1 f2 y2
  obtain ⟨s0, s1, s2, s3, s4, s5⟩ := H4.out.s (fun _ hx => hx)
  obtain ⟨⟨r0, r1, r2⟩, ⟨f0, f1, f2⟩, y2⟩ := H4.out.r (fun _ hx => hx)
  go_wp2_with fail
  exact bodyPost_ret (v := .tuple #[.agg #[.int .u8 1, .int .i64 (bitI b), .string ⟨#[]⟩], .int .i64 0]) (by simp [results, go_sem, r0, r1, r2]) rfl (gives_of rfl (below_set3 (b := w.heap.size + 1 + 1) H4.out.below (by omega) _ _ _))
set_option maxRecDepth 100000 in
set_option maxHeartbeats 4000000 in
theorem rtwo15_t (k : Nat) (i : Int) (s : ByteArray) (l : Nat) (j : Int) (t : ByteArray) (hk : k < 256) (hl : l < 256) (w : World) (A0 : (((k : Nat) : Int) == 0) = false) (A1 : (((k : Nat) : Int) == 1) = false) (A2 : (((k : Nat) : Int) == 2) = true) (B0 : (((l : Nat) : Int) == 0) = false) (c : Int) (hc : Val.cmp ⟨k, i, s⟩ ⟨l, j, t⟩ = c) (b : Bool) (hb0 : (decide (0 < c)) = b) (hfa : Val.fine ⟨k, i, s⟩ = true) (hfb : Val.fine ⟨l, j, t⟩ = true) (hr : Val.two 15 ⟨k, i, s⟩ ⟨l, j, t⟩ = (⟨1, (bitI b), ⟨#[]⟩⟩, 0)) :
    Calls Tryd.prog 9 #[.int .u8 15, .agg #[.int .u8 (k : Int), .int .i64 i, .string s], .agg #[.int .u8 (l : Int), .int .i64 j, .string t]] w (Gives (Val.two 15 ⟨k, i, s⟩ ⟨l, j, t⟩) w) := by
  rw [hr]
  clear hr
  have H0 := Lib.hid (base3 w k i s l j t)
  go_enter Tryd.func9, Tryd.ntmps9
  go_wp2_with fail
  have HC := Lib.hid hc
  clear hc
  generalize hW : World.alloc (World.alloc (World.alloc w _) _) _ = v0 at H0 ⊢
  clear hW
  refine (rcheck_any k i s _ hk).mono ?_
  rw [hfa]
  rintro e v1 ⟨rfl, hb⟩
  have H1 := Lib.hid (H0.out.kept hb)
  clear hb H0
  obtain ⟨s0, s1, s2, s3, s4, s5⟩ := H1.out.s (fun _ hx => hx)
  obtain ⟨⟨r0, r1, r2⟩, ⟨f0, f1, f2⟩, y2⟩ := H1.out.r (fun _ hx => hx)
  go_wp2_with fail
  refine (rcheck_any l j t _ hl).mono ?_
  rw [hfb]
  rintro e v2 ⟨rfl, hb⟩
  have H2 := Lib.hid (H1.out.kept hb)
  clear hb H1
  clear s0 s1 s2 s3 s4 s5 r0 r1 r2 f0 f1 f2 y2
  obtain ⟨s0, s1, s2, s3, s4, s5⟩ := H2.out.s (fun _ hx => hx)
  obtain ⟨⟨r0, r1, r2⟩, ⟨f0, f1, f2⟩, y2⟩ := H2.out.r (fun _ hx => hx)
  go_wp2_with fail
  refine (rcmp_at k i s l j t c HC.out _).mono ?_
  rintro e v3 ⟨rfl, hb⟩
  have H3 := Lib.hid (H2.out.kept hb)
  clear hb H2
  clear s0 s1 s2 s3 s4 s5 r0 r1 r2 f0 f1 f2 y2
  obtain ⟨s0, s1, s2, s3, s4, s5⟩ := H3.out.s (fun _ hx => hx)
  obtain ⟨⟨r0, r1, r2⟩, ⟨f0, f1, f2⟩, y2⟩ := H3.out.r (fun _ hx => hx)
  go_wp2_with fail
  first | rw [hb0] | skip
  refine (ryes_any _ _).mono ?_
  rintro e v4 ⟨rfl, hb⟩
  have H4 := Lib.hid (H3.out.kept hb)
  clear hb H3
  clear s0 s1 s2 s3 s4 s5 r0 r1 r2 f0 f1 f2 y2
  obtain ⟨s0, s1, s2, s3, s4, s5⟩ := H4.out.s (fun _ hx => hx)
  obtain ⟨⟨r0, r1, r2⟩, ⟨f0, f1, f2⟩, y2⟩ := H4.out.r (fun _ hx => hx)
  go_wp2_with fail
  exact bodyPost_ret (v := .tuple #[.agg #[.int .u8 1, .int .i64 (bitI b), .string ⟨#[]⟩], .int .i64 0]) (by simp [results, go_sem, r0, r1, r2]) rfl (gives_of rfl (below_set3 (b := w.heap.size + 1 + 1) H4.out.below (by omega) _ _ _))
set_option maxRecDepth 100000 in
set_option maxHeartbeats 4000000 in
theorem rtwo15_nt (k : Nat) (i : Int) (s : ByteArray) (l : Nat) (j : Int) (t : ByteArray) (hk : k < 256) (hl : l < 256) (w : World) (A0 : (((k : Nat) : Int) == 0) = false) (A1 : (((k : Nat) : Int) == 1) = true) (A2 : (((k : Nat) : Int) == 2) = false) (B0 : (((l : Nat) : Int) == 0) = false) (B1 : (((l : Nat) : Int) == 1) = false) (B2 : (((l : Nat) : Int) == 2) = true) (c : Int) (hc : Val.cmp ⟨k, i, s⟩ ⟨l, j, t⟩ = c) (b : Bool) (hb0 : (decide (0 < c)) = b) (hfa : Val.fine ⟨k, i, s⟩ = true) (hfb : Val.fine ⟨l, j, t⟩ = true) (hr : Val.two 15 ⟨k, i, s⟩ ⟨l, j, t⟩ = (⟨1, (bitI b), ⟨#[]⟩⟩, 0)) :
    Calls Tryd.prog 9 #[.int .u8 15, .agg #[.int .u8 (k : Int), .int .i64 i, .string s], .agg #[.int .u8 (l : Int), .int .i64 j, .string t]] w (Gives (Val.two 15 ⟨k, i, s⟩ ⟨l, j, t⟩) w) := by
  rw [hr]
  clear hr
  have H0 := Lib.hid (base3 w k i s l j t)
  go_enter Tryd.func9, Tryd.ntmps9
  go_wp2_with fail
  have HC := Lib.hid hc
  clear hc
  generalize hW : World.alloc (World.alloc (World.alloc w _) _) _ = v0 at H0 ⊢
  clear hW
  refine (rcheck_any k i s _ hk).mono ?_
  rw [hfa]
  rintro e v1 ⟨rfl, hb⟩
  have H1 := Lib.hid (H0.out.kept hb)
  clear hb H0
  obtain ⟨s0, s1, s2, s3, s4, s5⟩ := H1.out.s (fun _ hx => hx)
  obtain ⟨⟨r0, r1, r2⟩, ⟨f0, f1, f2⟩, y2⟩ := H1.out.r (fun _ hx => hx)
  go_wp2_with fail
  refine (rcheck_any l j t _ hl).mono ?_
  rw [hfb]
  rintro e v2 ⟨rfl, hb⟩
  have H2 := Lib.hid (H1.out.kept hb)
  clear hb H1
  clear s0 s1 s2 s3 s4 s5 r0 r1 r2 f0 f1 f2 y2
  obtain ⟨s0, s1, s2, s3, s4, s5⟩ := H2.out.s (fun _ hx => hx)
  obtain ⟨⟨r0, r1, r2⟩, ⟨f0, f1, f2⟩, y2⟩ := H2.out.r (fun _ hx => hx)
  go_wp2_with fail
  refine (rcmp_at k i s l j t c HC.out _).mono ?_
  rintro e v3 ⟨rfl, hb⟩
  have H3 := Lib.hid (H2.out.kept hb)
  clear hb H2
  clear s0 s1 s2 s3 s4 s5 r0 r1 r2 f0 f1 f2 y2
  obtain ⟨s0, s1, s2, s3, s4, s5⟩ := H3.out.s (fun _ hx => hx)
  obtain ⟨⟨r0, r1, r2⟩, ⟨f0, f1, f2⟩, y2⟩ := H3.out.r (fun _ hx => hx)
  go_wp2_with fail
  first | rw [hb0] | skip
  refine (ryes_any _ _).mono ?_
  rintro e v4 ⟨rfl, hb⟩
  have H4 := Lib.hid (H3.out.kept hb)
  clear hb H3
  clear s0 s1 s2 s3 s4 s5 r0 r1 r2 f0 f1 f2 y2
  obtain ⟨s0, s1, s2, s3, s4, s5⟩ := H4.out.s (fun _ hx => hx)
  obtain ⟨⟨r0, r1, r2⟩, ⟨f0, f1, f2⟩, y2⟩ := H4.out.r (fun _ hx => hx)
  go_wp2_with fail
  exact bodyPost_ret (v := .tuple #[.agg #[.int .u8 1, .int .i64 (bitI b), .string ⟨#[]⟩], .int .i64 0]) (by simp [results, go_sem, r0, r1, r2]) rfl (gives_of rfl (below_set3 (b := w.heap.size + 1 + 1) H4.out.below (by omega) _ _ _))
set_option maxRecDepth 100000 in
set_option maxHeartbeats 4000000 in
theorem rtwo15_nn (k : Nat) (i : Int) (s : ByteArray) (l : Nat) (j : Int) (t : ByteArray) (hk : k < 256) (hl : l < 256) (w : World) (A0 : (((k : Nat) : Int) == 0) = false) (A1 : (((k : Nat) : Int) == 1) = true) (A2 : (((k : Nat) : Int) == 2) = false) (B0 : (((l : Nat) : Int) == 0) = false) (B1 : (((l : Nat) : Int) == 1) = true) (B2 : (((l : Nat) : Int) == 2) = false) (c : Int) (hc : Val.cmp ⟨k, i, s⟩ ⟨l, j, t⟩ = c) (b : Bool) (hb0 : (decide (0 < c)) = b) (hfa : Val.fine ⟨k, i, s⟩ = true) (hfb : Val.fine ⟨l, j, t⟩ = true) (hr : Val.two 15 ⟨k, i, s⟩ ⟨l, j, t⟩ = (⟨1, (bitI b), ⟨#[]⟩⟩, 0)) :
    Calls Tryd.prog 9 #[.int .u8 15, .agg #[.int .u8 (k : Int), .int .i64 i, .string s], .agg #[.int .u8 (l : Int), .int .i64 j, .string t]] w (Gives (Val.two 15 ⟨k, i, s⟩ ⟨l, j, t⟩) w) := by
  rw [hr]
  clear hr
  have H0 := Lib.hid (base3 w k i s l j t)
  go_enter Tryd.func9, Tryd.ntmps9
  go_wp2_with fail
  have HC := Lib.hid hc
  clear hc
  generalize hW : World.alloc (World.alloc (World.alloc w _) _) _ = v0 at H0 ⊢
  clear hW
  refine (rcheck_any k i s _ hk).mono ?_
  rw [hfa]
  rintro e v1 ⟨rfl, hb⟩
  have H1 := Lib.hid (H0.out.kept hb)
  clear hb H0
  obtain ⟨s0, s1, s2, s3, s4, s5⟩ := H1.out.s (fun _ hx => hx)
  obtain ⟨⟨r0, r1, r2⟩, ⟨f0, f1, f2⟩, y2⟩ := H1.out.r (fun _ hx => hx)
  go_wp2_with fail
  refine (rcheck_any l j t _ hl).mono ?_
  rw [hfb]
  rintro e v2 ⟨rfl, hb⟩
  have H2 := Lib.hid (H1.out.kept hb)
  clear hb H1
  clear s0 s1 s2 s3 s4 s5 r0 r1 r2 f0 f1 f2 y2
  obtain ⟨s0, s1, s2, s3, s4, s5⟩ := H2.out.s (fun _ hx => hx)
  obtain ⟨⟨r0, r1, r2⟩, ⟨f0, f1, f2⟩, y2⟩ := H2.out.r (fun _ hx => hx)
  go_wp2_with fail
  refine (rcmp_at k i s l j t c HC.out _).mono ?_
  rintro e v3 ⟨rfl, hb⟩
  have H3 := Lib.hid (H2.out.kept hb)
  clear hb H2
  clear s0 s1 s2 s3 s4 s5 r0 r1 r2 f0 f1 f2 y2
  obtain ⟨s0, s1, s2, s3, s4, s5⟩ := H3.out.s (fun _ hx => hx)
  obtain ⟨⟨r0, r1, r2⟩, ⟨f0, f1, f2⟩, y2⟩ := H3.out.r (fun _ hx => hx)
  go_wp2_with fail
  first | rw [hb0] | skip
  refine (ryes_any _ _).mono ?_
  rintro e v4 ⟨rfl, hb⟩
  have H4 := Lib.hid (H3.out.kept hb)
  clear hb H3
  clear s0 s1 s2 s3 s4 s5 r0 r1 r2 f0 f1 f2 y2
  obtain ⟨s0, s1, s2, s3, s4, s5⟩ := H4.out.s (fun _ hx => hx)
  obtain ⟨⟨r0, r1, r2⟩, ⟨f0, f1, f2⟩, y2⟩ := H4.out.r (fun _ hx => hx)
  go_wp2_with fail
  exact bodyPost_ret (v := .tuple #[.agg #[.int .u8 1, .int .i64 (bitI b), .string ⟨#[]⟩], .int .i64 0]) (by simp [results, go_sem, r0, r1, r2]) rfl (gives_of rfl (below_set3 (b := w.heap.size + 1 + 1) H4.out.below (by omega) _ _ _))
set_option maxRecDepth 100000 in
set_option maxHeartbeats 4000000 in
theorem rtwo16_t (k : Nat) (i : Int) (s : ByteArray) (l : Nat) (j : Int) (t : ByteArray) (hk : k < 256) (hl : l < 256) (w : World) (A0 : (((k : Nat) : Int) == 0) = false) (A1 : (((k : Nat) : Int) == 1) = false) (A2 : (((k : Nat) : Int) == 2) = true) (B0 : (((l : Nat) : Int) == 0) = false) (c : Int) (hc : Val.cmp ⟨k, i, s⟩ ⟨l, j, t⟩ = c) (b : Bool) (hb0 : (decide (0 ≤ c)) = b) (hfa : Val.fine ⟨k, i, s⟩ = true) (hfb : Val.fine ⟨l, j, t⟩ = true) (hr : Val.two 16 ⟨k, i, s⟩ ⟨l, j, t⟩ = (⟨1, (bitI b), ⟨#[]⟩⟩, 0)) :
    Calls Tryd.prog 9 #[.int .u8 16, .agg #[.int .u8 (k : Int), .int .i64 i, .string s], .agg #[.int .u8 (l : Int), .int .i64 j, .string t]] w (Gives (Val.two 16 ⟨k, i, s⟩ ⟨l, j, t⟩) w) := by
  rw [hr]
  clear hr
  have H0 := Lib.hid (base3 w k i s l j t)
  go_enter Tryd.func9, Tryd.ntmps9
  go_wp2_with fail
  have HC := Lib.hid hc
  clear hc
  generalize hW : World.alloc (World.alloc (World.alloc w _) _) _ = v0 at H0 ⊢
  clear hW
  refine (rcheck_any k i s _ hk).mono ?_
  rw [hfa]
  rintro e v1 ⟨rfl, hb⟩
  have H1 := Lib.hid (H0.out.kept hb)
  clear hb H0
  obtain ⟨s0, s1, s2, s3, s4, s5⟩ := H1.out.s (fun _ hx => hx)
  obtain ⟨⟨r0, r1, r2⟩, ⟨f0, f1, f2⟩, y2⟩ := H1.out.r (fun _ hx => hx)
  go_wp2_with fail
  refine (rcheck_any l j t _ hl).mono ?_
  rw [hfb]
  rintro e v2 ⟨rfl, hb⟩
  have H2 := Lib.hid (H1.out.kept hb)
  clear hb H1
  clear s0 s1 s2 s3 s4 s5 r0 r1 r2 f0 f1 f2 y2
  obtain ⟨s0, s1, s2, s3, s4, s5⟩ := H2.out.s (fun _ hx => hx)
  obtain ⟨⟨r0, r1, r2⟩, ⟨f0, f1, f2⟩, y2⟩ := H2.out.r (fun _ hx => hx)
  go_wp2_with fail
  refine (rcmp_at k i s l j t c HC.out _).mono ?_
  rintro e v3 ⟨rfl, hb⟩
  have H3 := Lib.hid (H2.out.kept hb)
  clear hb H2
  clear s0 s1 s2 s3 s4 s5 r0 r1 r2 f0 f1 f2 y2
  obtain ⟨s0, s1, s2, s3, s4, s5⟩ := H3.out.s (fun _ hx => hx)
  obtain ⟨⟨r0, r1, r2⟩, ⟨f0, f1, f2⟩, y2⟩ := H3.out.r (fun _ hx => hx)
  go_wp2_with fail
  first | rw [hb0] | skip
  refine (ryes_any _ _).mono ?_
  rintro e v4 ⟨rfl, hb⟩
  have H4 := Lib.hid (H3.out.kept hb)
  clear hb H3
  clear s0 s1 s2 s3 s4 s5 r0 r1 r2 f0 f1 f2 y2
  obtain ⟨s0, s1, s2, s3, s4, s5⟩ := H4.out.s (fun _ hx => hx)
  obtain ⟨⟨r0, r1, r2⟩, ⟨f0, f1, f2⟩, y2⟩ := H4.out.r (fun _ hx => hx)
  go_wp2_with fail
  exact bodyPost_ret (v := .tuple #[.agg #[.int .u8 1, .int .i64 (bitI b), .string ⟨#[]⟩], .int .i64 0]) (by simp [results, go_sem, r0, r1, r2]) rfl (gives_of rfl (below_set3 (b := w.heap.size + 1 + 1) H4.out.below (by omega) _ _ _))
set_option maxRecDepth 100000 in
set_option maxHeartbeats 4000000 in
theorem rtwo16_nt (k : Nat) (i : Int) (s : ByteArray) (l : Nat) (j : Int) (t : ByteArray) (hk : k < 256) (hl : l < 256) (w : World) (A0 : (((k : Nat) : Int) == 0) = false) (A1 : (((k : Nat) : Int) == 1) = true) (A2 : (((k : Nat) : Int) == 2) = false) (B0 : (((l : Nat) : Int) == 0) = false) (B1 : (((l : Nat) : Int) == 1) = false) (B2 : (((l : Nat) : Int) == 2) = true) (c : Int) (hc : Val.cmp ⟨k, i, s⟩ ⟨l, j, t⟩ = c) (b : Bool) (hb0 : (decide (0 ≤ c)) = b) (hfa : Val.fine ⟨k, i, s⟩ = true) (hfb : Val.fine ⟨l, j, t⟩ = true) (hr : Val.two 16 ⟨k, i, s⟩ ⟨l, j, t⟩ = (⟨1, (bitI b), ⟨#[]⟩⟩, 0)) :
    Calls Tryd.prog 9 #[.int .u8 16, .agg #[.int .u8 (k : Int), .int .i64 i, .string s], .agg #[.int .u8 (l : Int), .int .i64 j, .string t]] w (Gives (Val.two 16 ⟨k, i, s⟩ ⟨l, j, t⟩) w) := by
  rw [hr]
  clear hr
  have H0 := Lib.hid (base3 w k i s l j t)
  go_enter Tryd.func9, Tryd.ntmps9
  go_wp2_with fail
  have HC := Lib.hid hc
  clear hc
  generalize hW : World.alloc (World.alloc (World.alloc w _) _) _ = v0 at H0 ⊢
  clear hW
  refine (rcheck_any k i s _ hk).mono ?_
  rw [hfa]
  rintro e v1 ⟨rfl, hb⟩
  have H1 := Lib.hid (H0.out.kept hb)
  clear hb H0
  obtain ⟨s0, s1, s2, s3, s4, s5⟩ := H1.out.s (fun _ hx => hx)
  obtain ⟨⟨r0, r1, r2⟩, ⟨f0, f1, f2⟩, y2⟩ := H1.out.r (fun _ hx => hx)
  go_wp2_with fail
  refine (rcheck_any l j t _ hl).mono ?_
  rw [hfb]
  rintro e v2 ⟨rfl, hb⟩
  have H2 := Lib.hid (H1.out.kept hb)
  clear hb H1
  clear s0 s1 s2 s3 s4 s5 r0 r1 r2 f0 f1 f2 y2
  obtain ⟨s0, s1, s2, s3, s4, s5⟩ := H2.out.s (fun _ hx => hx)
  obtain ⟨⟨r0, r1, r2⟩, ⟨f0, f1, f2⟩, y2⟩ := H2.out.r (fun _ hx => hx)
  go_wp2_with fail
  refine (rcmp_at k i s l j t c HC.out _).mono ?_
  rintro e v3 ⟨rfl, hb⟩
  have H3 := Lib.hid (H2.out.kept hb)
  clear hb H2
  clear s0 s1 s2 s3 s4 s5 r0 r1 r2 f0 f1 f2 y2
  obtain ⟨s0, s1, s2, s3, s4, s5⟩ := H3.out.s (fun _ hx => hx)
  obtain ⟨⟨r0, r1, r2⟩, ⟨f0, f1, f2⟩, y2⟩ := H3.out.r (fun _ hx => hx)
  go_wp2_with fail
  first | rw [hb0] | skip
  refine (ryes_any _ _).mono ?_
  rintro e v4 ⟨rfl, hb⟩
  have H4 := Lib.hid (H3.out.kept hb)
  clear hb H3
  clear s0 s1 s2 s3 s4 s5 r0 r1 r2 f0 f1 f2 y2
  obtain ⟨s0, s1, s2, s3, s4, s5⟩ := H4.out.s (fun _ hx => hx)
  obtain ⟨⟨r0, r1, r2⟩, ⟨f0, f1, f2⟩, y2⟩ := H4.out.r (fun _ hx => hx)
  go_wp2_with fail
  exact bodyPost_ret (v := .tuple #[.agg #[.int .u8 1, .int .i64 (bitI b), .string ⟨#[]⟩], .int .i64 0]) (by simp [results, go_sem, r0, r1, r2]) rfl (gives_of rfl (below_set3 (b := w.heap.size + 1 + 1) H4.out.below (by omega) _ _ _))
set_option maxRecDepth 100000 in
set_option maxHeartbeats 4000000 in
theorem rtwo16_nn (k : Nat) (i : Int) (s : ByteArray) (l : Nat) (j : Int) (t : ByteArray) (hk : k < 256) (hl : l < 256) (w : World) (A0 : (((k : Nat) : Int) == 0) = false) (A1 : (((k : Nat) : Int) == 1) = true) (A2 : (((k : Nat) : Int) == 2) = false) (B0 : (((l : Nat) : Int) == 0) = false) (B1 : (((l : Nat) : Int) == 1) = true) (B2 : (((l : Nat) : Int) == 2) = false) (c : Int) (hc : Val.cmp ⟨k, i, s⟩ ⟨l, j, t⟩ = c) (b : Bool) (hb0 : (decide (0 ≤ c)) = b) (hfa : Val.fine ⟨k, i, s⟩ = true) (hfb : Val.fine ⟨l, j, t⟩ = true) (hr : Val.two 16 ⟨k, i, s⟩ ⟨l, j, t⟩ = (⟨1, (bitI b), ⟨#[]⟩⟩, 0)) :
    Calls Tryd.prog 9 #[.int .u8 16, .agg #[.int .u8 (k : Int), .int .i64 i, .string s], .agg #[.int .u8 (l : Int), .int .i64 j, .string t]] w (Gives (Val.two 16 ⟨k, i, s⟩ ⟨l, j, t⟩) w) := by
  rw [hr]
  clear hr
  have H0 := Lib.hid (base3 w k i s l j t)
  go_enter Tryd.func9, Tryd.ntmps9
  go_wp2_with fail
  have HC := Lib.hid hc
  clear hc
  generalize hW : World.alloc (World.alloc (World.alloc w _) _) _ = v0 at H0 ⊢
  clear hW
  refine (rcheck_any k i s _ hk).mono ?_
  rw [hfa]
  rintro e v1 ⟨rfl, hb⟩
  have H1 := Lib.hid (H0.out.kept hb)
  clear hb H0
  obtain ⟨s0, s1, s2, s3, s4, s5⟩ := H1.out.s (fun _ hx => hx)
  obtain ⟨⟨r0, r1, r2⟩, ⟨f0, f1, f2⟩, y2⟩ := H1.out.r (fun _ hx => hx)
  go_wp2_with fail
  refine (rcheck_any l j t _ hl).mono ?_
  rw [hfb]
  rintro e v2 ⟨rfl, hb⟩
  have H2 := Lib.hid (H1.out.kept hb)
  clear hb H1
  clear s0 s1 s2 s3 s4 s5 r0 r1 r2 f0 f1 f2 y2
  obtain ⟨s0, s1, s2, s3, s4, s5⟩ := H2.out.s (fun _ hx => hx)
  obtain ⟨⟨r0, r1, r2⟩, ⟨f0, f1, f2⟩, y2⟩ := H2.out.r (fun _ hx => hx)
  go_wp2_with fail
  refine (rcmp_at k i s l j t c HC.out _).mono ?_
  rintro e v3 ⟨rfl, hb⟩
  have H3 := Lib.hid (H2.out.kept hb)
  clear hb H2
  clear s0 s1 s2 s3 s4 s5 r0 r1 r2 f0 f1 f2 y2
  obtain ⟨s0, s1, s2, s3, s4, s5⟩ := H3.out.s (fun _ hx => hx)
  obtain ⟨⟨r0, r1, r2⟩, ⟨f0, f1, f2⟩, y2⟩ := H3.out.r (fun _ hx => hx)
  go_wp2_with fail
  first | rw [hb0] | skip
  refine (ryes_any _ _).mono ?_
  rintro e v4 ⟨rfl, hb⟩
  have H4 := Lib.hid (H3.out.kept hb)
  clear hb H3
  clear s0 s1 s2 s3 s4 s5 r0 r1 r2 f0 f1 f2 y2
  obtain ⟨s0, s1, s2, s3, s4, s5⟩ := H4.out.s (fun _ hx => hx)
  obtain ⟨⟨r0, r1, r2⟩, ⟨f0, f1, f2⟩, y2⟩ := H4.out.r (fun _ hx => hx)
  go_wp2_with fail
  exact bodyPost_ret (v := .tuple #[.agg #[.int .u8 1, .int .i64 (bitI b), .string ⟨#[]⟩], .int .i64 0]) (by simp [results, go_sem, r0, r1, r2]) rfl (gives_of rfl (below_set3 (b := w.heap.size + 1 + 1) H4.out.below (by omega) _ _ _))
end
section
open Go.RowKit Go.Lib
set_option linter.unusedVariables false

theorem rreckon_at (op : Nat) (h5 : 5 ≤ op) (h9 : op ≤ 9) (a b : Int) (n : Int) (f : Nat) (w : World) (a0 : -9223372036854775808 ≤ a) (a1 : a ≤ 9223372036854775807) (b0 : -9223372036854775808 ≤ b) (b1 : b ≤ 9223372036854775807) (h : Val.reckon op a b = (n, f)) :
    Calls Tryd.prog 39 #[.int .u8 (op : Int), .int .i64 a, .int .i64 b] w fun e w' => e = .returned (.tuple #[.int .i64 n, .int .i64 (f : Int)]) ∧ w' = w := by
  have hc : Calls Tryd.prog 39 #[.int .u8 (op : Int), .int .i64 a, .int .i64 b] w (Reckons (Val.reckon op a b) w) := by
    rcases (show op = 5 ∨ op = 6 ∨ op = 7 ∨ op = 8 ∨ op = 9 by omega) with rfl | rfl | rfl | rfl | rfl
    · exact rreckon5 a b w a0 a1 b0 b1
    · exact rreckon6 a b w a0 a1 b0 b1
    · exact rreckon7 a b w a0 a1 b0 b1
    · exact rreckon8 a b w a0 a1 b0 b1
    · exact rreckon9 a b w a0 a1 b0 b1
  rw [h] at hc
  exact hc
set_option maxRecDepth 100000 in
set_option maxHeartbeats 4000000 in
theorem rtwo5_t (k : Nat) (i : Int) (s : ByteArray) (l : Nat) (j : Int) (t : ByteArray) (hk : k < 256) (hl : l < 256) (w : World) (A0 : (((k : Nat) : Int) == 0) = false) (A1 : (((k : Nat) : Int) == 1) = false) (A2 : (((k : Nat) : Int) == 2) = true) (B0 : (((l : Nat) : Int) == 0) = false)  (hfa : Val.fine ⟨k, i, s⟩ = true) (hfb : Val.fine ⟨l, j, t⟩ = true) (hr : Val.two 5 ⟨k, i, s⟩ ⟨l, j, t⟩ = (⟨0, 0, ⟨#[]⟩⟩, 11)) :
    Calls Tryd.prog 9 #[.int .u8 5, .agg #[.int .u8 (k : Int), .int .i64 i, .string s], .agg #[.int .u8 (l : Int), .int .i64 j, .string t]] w (Gives (Val.two 5 ⟨k, i, s⟩ ⟨l, j, t⟩) w) := by
  rw [hr]
  clear hr
  have H0 := Lib.hid (base3 w k i s l j t)
  go_enter Tryd.func9, Tryd.ntmps9
  go_wp2_with fail
  generalize hW : World.alloc (World.alloc (World.alloc w _) _) _ = v0 at H0 ⊢
  clear hW
  refine (rcheck_any k i s _ hk).mono ?_
  rw [hfa]
  rintro e v1 ⟨rfl, hb⟩
  have H1 := Lib.hid (H0.out.kept hb)
  clear hb H0
  obtain ⟨s0, s1, s2, s3, s4, s5⟩ := H1.out.s (fun _ hx => hx)
  obtain ⟨⟨r0, r1, r2⟩, ⟨f0, f1, f2⟩, y2⟩ := H1.out.r (fun _ hx => hx)
  go_wp2_with fail
  refine (rcheck_any l j t _ hl).mono ?_
  rw [hfb]
  rintro e v2 ⟨rfl, hb⟩
  have H2 := Lib.hid (H1.out.kept hb)
  clear hb H1
  clear s0 s1 s2 s3 s4 s5 r0 r1 r2 f0 f1 f2 y2
  obtain ⟨s0, s1, s2, s3, s4, s5⟩ := H2.out.s (fun _ hx => hx)
  obtain ⟨⟨r0, r1, r2⟩, ⟨f0, f1, f2⟩, y2⟩ := H2.out.r (fun _ hx => hx)
  go_wp2_with fail
  exact bodyPost_ret (v := .tuple #[.agg #[.int .u8 0, .int .i64 0, .string ⟨#[]⟩], .int .i64 11]) (by simp [results, go_sem, r0, r1, r2]) rfl (gives_of rfl (below_set3 (b := w.heap.size + 1 + 1) H2.out.below (by omega) _ _ _))
set_option maxRecDepth 100000 in
set_option maxHeartbeats 4000000 in
theorem rtwo5_nt (k : Nat) (i : Int) (s : ByteArray) (l : Nat) (j : Int) (t : ByteArray) (hk : k < 256) (hl : l < 256) (w : World) (A0 : (((k : Nat) : Int) == 0) = false) (A1 : (((k : Nat) : Int) == 1) = true) (A2 : (((k : Nat) : Int) == 2) = false) (B0 : (((l : Nat) : Int) == 0) = false) (B1 : (((l : Nat) : Int) == 1) = false) (B2 : (((l : Nat) : Int) == 2) = true)  (hfa : Val.fine ⟨k, i, s⟩ = true) (hfb : Val.fine ⟨l, j, t⟩ = true) (hr : Val.two 5 ⟨k, i, s⟩ ⟨l, j, t⟩ = (⟨0, 0, ⟨#[]⟩⟩, 11)) :
    Calls Tryd.prog 9 #[.int .u8 5, .agg #[.int .u8 (k : Int), .int .i64 i, .string s], .agg #[.int .u8 (l : Int), .int .i64 j, .string t]] w (Gives (Val.two 5 ⟨k, i, s⟩ ⟨l, j, t⟩) w) := by
  rw [hr]
  clear hr
  have H0 := Lib.hid (base3 w k i s l j t)
  go_enter Tryd.func9, Tryd.ntmps9
  go_wp2_with fail
  generalize hW : World.alloc (World.alloc (World.alloc w _) _) _ = v0 at H0 ⊢
  clear hW
  refine (rcheck_any k i s _ hk).mono ?_
  rw [hfa]
  rintro e v1 ⟨rfl, hb⟩
  have H1 := Lib.hid (H0.out.kept hb)
  clear hb H0
  obtain ⟨s0, s1, s2, s3, s4, s5⟩ := H1.out.s (fun _ hx => hx)
  obtain ⟨⟨r0, r1, r2⟩, ⟨f0, f1, f2⟩, y2⟩ := H1.out.r (fun _ hx => hx)
  go_wp2_with fail
  refine (rcheck_any l j t _ hl).mono ?_
  rw [hfb]
  rintro e v2 ⟨rfl, hb⟩
  have H2 := Lib.hid (H1.out.kept hb)
  clear hb H1
  clear s0 s1 s2 s3 s4 s5 r0 r1 r2 f0 f1 f2 y2
  obtain ⟨s0, s1, s2, s3, s4, s5⟩ := H2.out.s (fun _ hx => hx)
  obtain ⟨⟨r0, r1, r2⟩, ⟨f0, f1, f2⟩, y2⟩ := H2.out.r (fun _ hx => hx)
  go_wp2_with fail
  exact bodyPost_ret (v := .tuple #[.agg #[.int .u8 0, .int .i64 0, .string ⟨#[]⟩], .int .i64 11]) (by simp [results, go_sem, r0, r1, r2]) rfl (gives_of rfl (below_set3 (b := w.heap.size + 1 + 1) H2.out.below (by omega) _ _ _))
set_option maxRecDepth 100000 in
set_option maxHeartbeats 4000000 in
theorem rtwo5_ok (k : Nat) (i : Int) (s : ByteArray) (l : Nat) (j : Int) (t : ByteArray) (hk : k < 256) (hl : l < 256) (w : World) (A0 : (((k : Nat) : Int) == 0) = false) (A1 : (((k : Nat) : Int) == 1) = true) (A2 : (((k : Nat) : Int) == 2) = false) (B0 : (((l : Nat) : Int) == 0) = false) (B1 : (((l : Nat) : Int) == 1) = true) (B2 : (((l : Nat) : Int) == 2) = false) (n : Int) (f : Nat) (i0 : -9223372036854775808 ≤ i) (i1 : i ≤ 9223372036854775807) (j0 : -9223372036854775808 ≤ j) (j1 : j ≤ 9223372036854775807) (hn : Val.reckon 5 i j = (n, f)) (F0 : (((f : Nat) : Int) != 0) = false) (hfa : Val.fine ⟨k, i, s⟩ = true) (hfb : Val.fine ⟨l, j, t⟩ = true) (hr : Val.two 5 ⟨k, i, s⟩ ⟨l, j, t⟩ = (⟨1, n, ⟨#[]⟩⟩, 0)) :
    Calls Tryd.prog 9 #[.int .u8 5, .agg #[.int .u8 (k : Int), .int .i64 i, .string s], .agg #[.int .u8 (l : Int), .int .i64 j, .string t]] w (Gives (Val.two 5 ⟨k, i, s⟩ ⟨l, j, t⟩) w) := by
  rw [hr]
  clear hr
  have H0 := Lib.hid (base3 w k i s l j t)
  go_enter Tryd.func9, Tryd.ntmps9
  go_wp2_with fail
  have HN := Lib.hid hn
  clear hn
  generalize hW : World.alloc (World.alloc (World.alloc w _) _) _ = v0 at H0 ⊢
  clear hW
  refine (rcheck_any k i s _ hk).mono ?_
  rw [hfa]
  rintro e v1 ⟨rfl, hb⟩
  have H1 := Lib.hid (H0.out.kept hb)
  clear hb H0
  obtain ⟨s0, s1, s2, s3, s4, s5⟩ := H1.out.s (fun _ hx => hx)
  obtain ⟨⟨r0, r1, r2⟩, ⟨f0, f1, f2⟩, y2⟩ := H1.out.r (fun _ hx => hx)
  go_wp2_with fail
  refine (rcheck_any l j t _ hl).mono ?_
  rw [hfb]
  rintro e v2 ⟨rfl, hb⟩
  have H2 := Lib.hid (H1.out.kept hb)
  clear hb H1
  clear s0 s1 s2 s3 s4 s5 r0 r1 r2 f0 f1 f2 y2
  obtain ⟨s0, s1, s2, s3, s4, s5⟩ := H2.out.s (fun _ hx => hx)
  obtain ⟨⟨r0, r1, r2⟩, ⟨f0, f1, f2⟩, y2⟩ := H2.out.r (fun _ hx => hx)
  go_wp2_with fail
  refine (rreckon_at 5 (by omega) (by omega) i j n f _ i0 i1 j0 j1 HN.out).mono ?_
  rintro e v3 ⟨rfl, hw⟩
  have H3 := Lib.hid (show Fam w _ v3 by rw [hw]; exact H2.out)
  clear hw H2 s0 s1 s2 s3 s4 s5 r0 r1 r2 f0 f1 f2 y2
  obtain ⟨s0, s1, s2, s3, s4, s5⟩ := H3.out.s (fun _ hx => hx)
  obtain ⟨⟨r0, r1, r2⟩, ⟨f0, f1, f2⟩, y2⟩ := H3.out.r (fun _ hx => hx)
  go_wp2_with fail
  refine (rint_any _ _).mono ?_
  rintro e v4 ⟨rfl, hb⟩
  have H4 := Lib.hid (H3.out.kept hb)
  clear hb H3
  clear s0 s1 s2 s3 s4 s5 r0 r1 r2 f0 f1 f2 y2
  obtain ⟨s0, s1, s2, s3, s4, s5⟩ := H4.out.s (fun _ hx => hx)
  obtain ⟨⟨r0, r1, r2⟩, ⟨f0, f1, f2⟩, y2⟩ := H4.out.r (fun _ hx => hx)
  go_wp2_with fail
  exact bodyPost_ret (v := .tuple #[.agg #[.int .u8 1, .int .i64 n, .string ⟨#[]⟩], .int .i64 0]) (by simp [results, go_sem, r0, r1, r2]) rfl (gives_of rfl (below_set3 (b := w.heap.size + 1 + 1) H4.out.below (by omega) _ _ _))
set_option maxRecDepth 100000 in
set_option maxHeartbeats 4000000 in
theorem rtwo5_no (k : Nat) (i : Int) (s : ByteArray) (l : Nat) (j : Int) (t : ByteArray) (hk : k < 256) (hl : l < 256) (w : World) (A0 : (((k : Nat) : Int) == 0) = false) (A1 : (((k : Nat) : Int) == 1) = true) (A2 : (((k : Nat) : Int) == 2) = false) (B0 : (((l : Nat) : Int) == 0) = false) (B1 : (((l : Nat) : Int) == 1) = true) (B2 : (((l : Nat) : Int) == 2) = false) (n : Int) (f : Nat) (i0 : -9223372036854775808 ≤ i) (i1 : i ≤ 9223372036854775807) (j0 : -9223372036854775808 ≤ j) (j1 : j ≤ 9223372036854775807) (hn : Val.reckon 5 i j = (n, f)) (F0 : (((f : Nat) : Int) != 0) = true) (hfa : Val.fine ⟨k, i, s⟩ = true) (hfb : Val.fine ⟨l, j, t⟩ = true) (hr : Val.two 5 ⟨k, i, s⟩ ⟨l, j, t⟩ = (⟨0, 0, ⟨#[]⟩⟩, f)) :
    Calls Tryd.prog 9 #[.int .u8 5, .agg #[.int .u8 (k : Int), .int .i64 i, .string s], .agg #[.int .u8 (l : Int), .int .i64 j, .string t]] w (Gives (Val.two 5 ⟨k, i, s⟩ ⟨l, j, t⟩) w) := by
  rw [hr]
  clear hr
  have H0 := Lib.hid (base3 w k i s l j t)
  go_enter Tryd.func9, Tryd.ntmps9
  go_wp2_with fail
  have HN := Lib.hid hn
  clear hn
  generalize hW : World.alloc (World.alloc (World.alloc w _) _) _ = v0 at H0 ⊢
  clear hW
  refine (rcheck_any k i s _ hk).mono ?_
  rw [hfa]
  rintro e v1 ⟨rfl, hb⟩
  have H1 := Lib.hid (H0.out.kept hb)
  clear hb H0
  obtain ⟨s0, s1, s2, s3, s4, s5⟩ := H1.out.s (fun _ hx => hx)
  obtain ⟨⟨r0, r1, r2⟩, ⟨f0, f1, f2⟩, y2⟩ := H1.out.r (fun _ hx => hx)
  go_wp2_with fail
  refine (rcheck_any l j t _ hl).mono ?_
  rw [hfb]
  rintro e v2 ⟨rfl, hb⟩
  have H2 := Lib.hid (H1.out.kept hb)
  clear hb H1
  clear s0 s1 s2 s3 s4 s5 r0 r1 r2 f0 f1 f2 y2
  obtain ⟨s0, s1, s2, s3, s4, s5⟩ := H2.out.s (fun _ hx => hx)
  obtain ⟨⟨r0, r1, r2⟩, ⟨f0, f1, f2⟩, y2⟩ := H2.out.r (fun _ hx => hx)
  go_wp2_with fail
  refine (rreckon_at 5 (by omega) (by omega) i j n f _ i0 i1 j0 j1 HN.out).mono ?_
  rintro e v3 ⟨rfl, hw⟩
  have H3 := Lib.hid (show Fam w _ v3 by rw [hw]; exact H2.out)
  clear hw H2 s0 s1 s2 s3 s4 s5 r0 r1 r2 f0 f1 f2 y2
  obtain ⟨s0, s1, s2, s3, s4, s5⟩ := H3.out.s (fun _ hx => hx)
  obtain ⟨⟨r0, r1, r2⟩, ⟨f0, f1, f2⟩, y2⟩ := H3.out.r (fun _ hx => hx)
  go_wp2_with fail
  exact bodyPost_ret (v := .tuple #[.agg #[.int .u8 0, .int .i64 0, .string ⟨#[]⟩], .int .i64 (f : Int)]) (by simp [results, go_sem, r0, r1, r2]) rfl (gives_of rfl (below_set3 (b := w.heap.size + 1 + 1) H3.out.below (by omega) _ _ _))
set_option maxRecDepth 100000 in
set_option maxHeartbeats 4000000 in
theorem rtwo6_t (k : Nat) (i : Int) (s : ByteArray) (l : Nat) (j : Int) (t : ByteArray) (hk : k < 256) (hl : l < 256) (w : World) (A0 : (((k : Nat) : Int) == 0) = false) (A1 : (((k : Nat) : Int) == 1) = false) (A2 : (((k : Nat) : Int) == 2) = true) (B0 : (((l : Nat) : Int) == 0) = false)  (hfa : Val.fine ⟨k, i, s⟩ = true) (hfb : Val.fine ⟨l, j, t⟩ = true) (hr : Val.two 6 ⟨k, i, s⟩ ⟨l, j, t⟩ = (⟨0, 0, ⟨#[]⟩⟩, 11)) :
    Calls Tryd.prog 9 #[.int .u8 6, .agg #[.int .u8 (k : Int), .int .i64 i, .string s], .agg #[.int .u8 (l : Int), .int .i64 j, .string t]] w (Gives (Val.two 6 ⟨k, i, s⟩ ⟨l, j, t⟩) w) := by
  rw [hr]
  clear hr
  have H0 := Lib.hid (base3 w k i s l j t)
  go_enter Tryd.func9, Tryd.ntmps9
  go_wp2_with fail
  generalize hW : World.alloc (World.alloc (World.alloc w _) _) _ = v0 at H0 ⊢
  clear hW
  refine (rcheck_any k i s _ hk).mono ?_
  rw [hfa]
  rintro e v1 ⟨rfl, hb⟩
  have H1 := Lib.hid (H0.out.kept hb)
  clear hb H0
  obtain ⟨s0, s1, s2, s3, s4, s5⟩ := H1.out.s (fun _ hx => hx)
  obtain ⟨⟨r0, r1, r2⟩, ⟨f0, f1, f2⟩, y2⟩ := H1.out.r (fun _ hx => hx)
  go_wp2_with fail
  refine (rcheck_any l j t _ hl).mono ?_
  rw [hfb]
  rintro e v2 ⟨rfl, hb⟩
  have H2 := Lib.hid (H1.out.kept hb)
  clear hb H1
  clear s0 s1 s2 s3 s4 s5 r0 r1 r2 f0 f1 f2 y2
  obtain ⟨s0, s1, s2, s3, s4, s5⟩ := H2.out.s (fun _ hx => hx)
  obtain ⟨⟨r0, r1, r2⟩, ⟨f0, f1, f2⟩, y2⟩ := H2.out.r (fun _ hx => hx)
  go_wp2_with fail
  exact bodyPost_ret (v := .tuple #[.agg #[.int .u8 0, .int .i64 0, .string ⟨#[]⟩], .int .i64 11]) (by simp [results, go_sem, r0, r1, r2]) rfl (gives_of rfl (below_set3 (b := w.heap.size + 1 + 1) H2.out.below (by omega) _ _ _))
set_option maxRecDepth 100000 in
set_option maxHeartbeats 4000000 in
theorem rtwo6_nt (k : Nat) (i : Int) (s : ByteArray) (l : Nat) (j : Int) (t : ByteArray) (hk : k < 256) (hl : l < 256) (w : World) (A0 : (((k : Nat) : Int) == 0) = false) (A1 : (((k : Nat) : Int) == 1) = true) (A2 : (((k : Nat) : Int) == 2) = false) (B0 : (((l : Nat) : Int) == 0) = false) (B1 : (((l : Nat) : Int) == 1) = false) (B2 : (((l : Nat) : Int) == 2) = true)  (hfa : Val.fine ⟨k, i, s⟩ = true) (hfb : Val.fine ⟨l, j, t⟩ = true) (hr : Val.two 6 ⟨k, i, s⟩ ⟨l, j, t⟩ = (⟨0, 0, ⟨#[]⟩⟩, 11)) :
    Calls Tryd.prog 9 #[.int .u8 6, .agg #[.int .u8 (k : Int), .int .i64 i, .string s], .agg #[.int .u8 (l : Int), .int .i64 j, .string t]] w (Gives (Val.two 6 ⟨k, i, s⟩ ⟨l, j, t⟩) w) := by
  rw [hr]
  clear hr
  have H0 := Lib.hid (base3 w k i s l j t)
  go_enter Tryd.func9, Tryd.ntmps9
  go_wp2_with fail
  generalize hW : World.alloc (World.alloc (World.alloc w _) _) _ = v0 at H0 ⊢
  clear hW
  refine (rcheck_any k i s _ hk).mono ?_
  rw [hfa]
  rintro e v1 ⟨rfl, hb⟩
  have H1 := Lib.hid (H0.out.kept hb)
  clear hb H0
  obtain ⟨s0, s1, s2, s3, s4, s5⟩ := H1.out.s (fun _ hx => hx)
  obtain ⟨⟨r0, r1, r2⟩, ⟨f0, f1, f2⟩, y2⟩ := H1.out.r (fun _ hx => hx)
  go_wp2_with fail
  refine (rcheck_any l j t _ hl).mono ?_
  rw [hfb]
  rintro e v2 ⟨rfl, hb⟩
  have H2 := Lib.hid (H1.out.kept hb)
  clear hb H1
  clear s0 s1 s2 s3 s4 s5 r0 r1 r2 f0 f1 f2 y2
  obtain ⟨s0, s1, s2, s3, s4, s5⟩ := H2.out.s (fun _ hx => hx)
  obtain ⟨⟨r0, r1, r2⟩, ⟨f0, f1, f2⟩, y2⟩ := H2.out.r (fun _ hx => hx)
  go_wp2_with fail
  exact bodyPost_ret (v := .tuple #[.agg #[.int .u8 0, .int .i64 0, .string ⟨#[]⟩], .int .i64 11]) (by simp [results, go_sem, r0, r1, r2]) rfl (gives_of rfl (below_set3 (b := w.heap.size + 1 + 1) H2.out.below (by omega) _ _ _))
set_option maxRecDepth 100000 in
set_option maxHeartbeats 4000000 in
theorem rtwo6_ok (k : Nat) (i : Int) (s : ByteArray) (l : Nat) (j : Int) (t : ByteArray) (hk : k < 256) (hl : l < 256) (w : World) (A0 : (((k : Nat) : Int) == 0) = false) (A1 : (((k : Nat) : Int) == 1) = true) (A2 : (((k : Nat) : Int) == 2) = false) (B0 : (((l : Nat) : Int) == 0) = false) (B1 : (((l : Nat) : Int) == 1) = true) (B2 : (((l : Nat) : Int) == 2) = false) (n : Int) (f : Nat) (i0 : -9223372036854775808 ≤ i) (i1 : i ≤ 9223372036854775807) (j0 : -9223372036854775808 ≤ j) (j1 : j ≤ 9223372036854775807) (hn : Val.reckon 6 i j = (n, f)) (F0 : (((f : Nat) : Int) != 0) = false) (hfa : Val.fine ⟨k, i, s⟩ = true) (hfb : Val.fine ⟨l, j, t⟩ = true) (hr : Val.two 6 ⟨k, i, s⟩ ⟨l, j, t⟩ = (⟨1, n, ⟨#[]⟩⟩, 0)) :
    Calls Tryd.prog 9 #[.int .u8 6, .agg #[.int .u8 (k : Int), .int .i64 i, .string s], .agg #[.int .u8 (l : Int), .int .i64 j, .string t]] w (Gives (Val.two 6 ⟨k, i, s⟩ ⟨l, j, t⟩) w) := by
  rw [hr]
  clear hr
  have H0 := Lib.hid (base3 w k i s l j t)
  go_enter Tryd.func9, Tryd.ntmps9
  go_wp2_with fail
  have HN := Lib.hid hn
  clear hn
  generalize hW : World.alloc (World.alloc (World.alloc w _) _) _ = v0 at H0 ⊢
  clear hW
  refine (rcheck_any k i s _ hk).mono ?_
  rw [hfa]
  rintro e v1 ⟨rfl, hb⟩
  have H1 := Lib.hid (H0.out.kept hb)
  clear hb H0
  obtain ⟨s0, s1, s2, s3, s4, s5⟩ := H1.out.s (fun _ hx => hx)
  obtain ⟨⟨r0, r1, r2⟩, ⟨f0, f1, f2⟩, y2⟩ := H1.out.r (fun _ hx => hx)
  go_wp2_with fail
  refine (rcheck_any l j t _ hl).mono ?_
  rw [hfb]
  rintro e v2 ⟨rfl, hb⟩
  have H2 := Lib.hid (H1.out.kept hb)
  clear hb H1
  clear s0 s1 s2 s3 s4 s5 r0 r1 r2 f0 f1 f2 y2
  obtain ⟨s0, s1, s2, s3, s4, s5⟩ := H2.out.s (fun _ hx => hx)
  obtain ⟨⟨r0, r1, r2⟩, ⟨f0, f1, f2⟩, y2⟩ := H2.out.r (fun _ hx => hx)
  go_wp2_with fail
  refine (rreckon_at 6 (by omega) (by omega) i j n f _ i0 i1 j0 j1 HN.out).mono ?_
  rintro e v3 ⟨rfl, hw⟩
  have H3 := Lib.hid (show Fam w _ v3 by rw [hw]; exact H2.out)
  clear hw H2 s0 s1 s2 s3 s4 s5 r0 r1 r2 f0 f1 f2 y2
  obtain ⟨s0, s1, s2, s3, s4, s5⟩ := H3.out.s (fun _ hx => hx)
  obtain ⟨⟨r0, r1, r2⟩, ⟨f0, f1, f2⟩, y2⟩ := H3.out.r (fun _ hx => hx)
  go_wp2_with fail
  refine (rint_any _ _).mono ?_
  rintro e v4 ⟨rfl, hb⟩
  have H4 := Lib.hid (H3.out.kept hb)
  clear hb H3
  clear s0 s1 s2 s3 s4 s5 r0 r1 r2 f0 f1 f2 y2
  obtain ⟨s0, s1, s2, s3, s4, s5⟩ := H4.out.s (fun _ hx => hx)
  obtain ⟨⟨r0, r1, r2⟩, ⟨f0, f1, f2⟩, y2⟩ := H4.out.r (fun _ hx => hx)
  go_wp2_with fail
  exact bodyPost_ret (v := .tuple #[.agg #[.int .u8 1, .int .i64 n, .string ⟨#[]⟩], .int .i64 0]) (by simp [results, go_sem, r0, r1, r2]) rfl (gives_of rfl (below_set3 (b := w.heap.size + 1 + 1) H4.out.below (by omega) _ _ _))
set_option maxRecDepth 100000 in
set_option maxHeartbeats 4000000 in
theorem rtwo6_no (k : Nat) (i : Int) (s : ByteArray) (l : Nat) (j : Int) (t : ByteArray) (hk : k < 256) (hl : l < 256) (w : World) (A0 : (((k : Nat) : Int) == 0) = false) (A1 : (((k : Nat) : Int) == 1) = true) (A2 : (((k : Nat) : Int) == 2) = false) (B0 : (((l : Nat) : Int) == 0) = false) (B1 : (((l : Nat) : Int) == 1) = true) (B2 : (((l : Nat) : Int) == 2) = false) (n : Int) (f : Nat) (i0 : -9223372036854775808 ≤ i) (i1 : i ≤ 9223372036854775807) (j0 : -9223372036854775808 ≤ j) (j1 : j ≤ 9223372036854775807) (hn : Val.reckon 6 i j = (n, f)) (F0 : (((f : Nat) : Int) != 0) = true) (hfa : Val.fine ⟨k, i, s⟩ = true) (hfb : Val.fine ⟨l, j, t⟩ = true) (hr : Val.two 6 ⟨k, i, s⟩ ⟨l, j, t⟩ = (⟨0, 0, ⟨#[]⟩⟩, f)) :
    Calls Tryd.prog 9 #[.int .u8 6, .agg #[.int .u8 (k : Int), .int .i64 i, .string s], .agg #[.int .u8 (l : Int), .int .i64 j, .string t]] w (Gives (Val.two 6 ⟨k, i, s⟩ ⟨l, j, t⟩) w) := by
  rw [hr]
  clear hr
  have H0 := Lib.hid (base3 w k i s l j t)
  go_enter Tryd.func9, Tryd.ntmps9
  go_wp2_with fail
  have HN := Lib.hid hn
  clear hn
  generalize hW : World.alloc (World.alloc (World.alloc w _) _) _ = v0 at H0 ⊢
  clear hW
  refine (rcheck_any k i s _ hk).mono ?_
  rw [hfa]
  rintro e v1 ⟨rfl, hb⟩
  have H1 := Lib.hid (H0.out.kept hb)
  clear hb H0
  obtain ⟨s0, s1, s2, s3, s4, s5⟩ := H1.out.s (fun _ hx => hx)
  obtain ⟨⟨r0, r1, r2⟩, ⟨f0, f1, f2⟩, y2⟩ := H1.out.r (fun _ hx => hx)
  go_wp2_with fail
  refine (rcheck_any l j t _ hl).mono ?_
  rw [hfb]
  rintro e v2 ⟨rfl, hb⟩
  have H2 := Lib.hid (H1.out.kept hb)
  clear hb H1
  clear s0 s1 s2 s3 s4 s5 r0 r1 r2 f0 f1 f2 y2
  obtain ⟨s0, s1, s2, s3, s4, s5⟩ := H2.out.s (fun _ hx => hx)
  obtain ⟨⟨r0, r1, r2⟩, ⟨f0, f1, f2⟩, y2⟩ := H2.out.r (fun _ hx => hx)
  go_wp2_with fail
  refine (rreckon_at 6 (by omega) (by omega) i j n f _ i0 i1 j0 j1 HN.out).mono ?_
  rintro e v3 ⟨rfl, hw⟩
  have H3 := Lib.hid (show Fam w _ v3 by rw [hw]; exact H2.out)
  clear hw H2 s0 s1 s2 s3 s4 s5 r0 r1 r2 f0 f1 f2 y2
  obtain ⟨s0, s1, s2, s3, s4, s5⟩ := H3.out.s (fun _ hx => hx)
  obtain ⟨⟨r0, r1, r2⟩, ⟨f0, f1, f2⟩, y2⟩ := H3.out.r (fun _ hx => hx)
  go_wp2_with fail
  exact bodyPost_ret (v := .tuple #[.agg #[.int .u8 0, .int .i64 0, .string ⟨#[]⟩], .int .i64 (f : Int)]) (by simp [results, go_sem, r0, r1, r2]) rfl (gives_of rfl (below_set3 (b := w.heap.size + 1 + 1) H3.out.below (by omega) _ _ _))
set_option maxRecDepth 100000 in
set_option maxHeartbeats 4000000 in
theorem rtwo7_t (k : Nat) (i : Int) (s : ByteArray) (l : Nat) (j : Int) (t : ByteArray) (hk : k < 256) (hl : l < 256) (w : World) (A0 : (((k : Nat) : Int) == 0) = false) (A1 : (((k : Nat) : Int) == 1) = false) (A2 : (((k : Nat) : Int) == 2) = true) (B0 : (((l : Nat) : Int) == 0) = false)  (hfa : Val.fine ⟨k, i, s⟩ = true) (hfb : Val.fine ⟨l, j, t⟩ = true) (hr : Val.two 7 ⟨k, i, s⟩ ⟨l, j, t⟩ = (⟨0, 0, ⟨#[]⟩⟩, 11)) :
    Calls Tryd.prog 9 #[.int .u8 7, .agg #[.int .u8 (k : Int), .int .i64 i, .string s], .agg #[.int .u8 (l : Int), .int .i64 j, .string t]] w (Gives (Val.two 7 ⟨k, i, s⟩ ⟨l, j, t⟩) w) := by
  rw [hr]
  clear hr
  have H0 := Lib.hid (base3 w k i s l j t)
  go_enter Tryd.func9, Tryd.ntmps9
  go_wp2_with fail
  generalize hW : World.alloc (World.alloc (World.alloc w _) _) _ = v0 at H0 ⊢
  clear hW
  refine (rcheck_any k i s _ hk).mono ?_
  rw [hfa]
  rintro e v1 ⟨rfl, hb⟩
  have H1 := Lib.hid (H0.out.kept hb)
  clear hb H0
  obtain ⟨s0, s1, s2, s3, s4, s5⟩ := H1.out.s (fun _ hx => hx)
  obtain ⟨⟨r0, r1, r2⟩, ⟨f0, f1, f2⟩, y2⟩ := H1.out.r (fun _ hx => hx)
  go_wp2_with fail
  refine (rcheck_any l j t _ hl).mono ?_
  rw [hfb]
  rintro e v2 ⟨rfl, hb⟩
  have H2 := Lib.hid (H1.out.kept hb)
  clear hb H1
  clear s0 s1 s2 s3 s4 s5 r0 r1 r2 f0 f1 f2 y2
  obtain ⟨s0, s1, s2, s3, s4, s5⟩ := H2.out.s (fun _ hx => hx)
  obtain ⟨⟨r0, r1, r2⟩, ⟨f0, f1, f2⟩, y2⟩ := H2.out.r (fun _ hx => hx)
  go_wp2_with fail
  exact bodyPost_ret (v := .tuple #[.agg #[.int .u8 0, .int .i64 0, .string ⟨#[]⟩], .int .i64 11]) (by simp [results, go_sem, r0, r1, r2]) rfl (gives_of rfl (below_set3 (b := w.heap.size + 1 + 1) H2.out.below (by omega) _ _ _))
set_option maxRecDepth 100000 in
set_option maxHeartbeats 4000000 in
theorem rtwo7_nt (k : Nat) (i : Int) (s : ByteArray) (l : Nat) (j : Int) (t : ByteArray) (hk : k < 256) (hl : l < 256) (w : World) (A0 : (((k : Nat) : Int) == 0) = false) (A1 : (((k : Nat) : Int) == 1) = true) (A2 : (((k : Nat) : Int) == 2) = false) (B0 : (((l : Nat) : Int) == 0) = false) (B1 : (((l : Nat) : Int) == 1) = false) (B2 : (((l : Nat) : Int) == 2) = true)  (hfa : Val.fine ⟨k, i, s⟩ = true) (hfb : Val.fine ⟨l, j, t⟩ = true) (hr : Val.two 7 ⟨k, i, s⟩ ⟨l, j, t⟩ = (⟨0, 0, ⟨#[]⟩⟩, 11)) :
    Calls Tryd.prog 9 #[.int .u8 7, .agg #[.int .u8 (k : Int), .int .i64 i, .string s], .agg #[.int .u8 (l : Int), .int .i64 j, .string t]] w (Gives (Val.two 7 ⟨k, i, s⟩ ⟨l, j, t⟩) w) := by
  rw [hr]
  clear hr
  have H0 := Lib.hid (base3 w k i s l j t)
  go_enter Tryd.func9, Tryd.ntmps9
  go_wp2_with fail
  generalize hW : World.alloc (World.alloc (World.alloc w _) _) _ = v0 at H0 ⊢
  clear hW
  refine (rcheck_any k i s _ hk).mono ?_
  rw [hfa]
  rintro e v1 ⟨rfl, hb⟩
  have H1 := Lib.hid (H0.out.kept hb)
  clear hb H0
  obtain ⟨s0, s1, s2, s3, s4, s5⟩ := H1.out.s (fun _ hx => hx)
  obtain ⟨⟨r0, r1, r2⟩, ⟨f0, f1, f2⟩, y2⟩ := H1.out.r (fun _ hx => hx)
  go_wp2_with fail
  refine (rcheck_any l j t _ hl).mono ?_
  rw [hfb]
  rintro e v2 ⟨rfl, hb⟩
  have H2 := Lib.hid (H1.out.kept hb)
  clear hb H1
  clear s0 s1 s2 s3 s4 s5 r0 r1 r2 f0 f1 f2 y2
  obtain ⟨s0, s1, s2, s3, s4, s5⟩ := H2.out.s (fun _ hx => hx)
  obtain ⟨⟨r0, r1, r2⟩, ⟨f0, f1, f2⟩, y2⟩ := H2.out.r (fun _ hx => hx)
  go_wp2_with fail
  exact bodyPost_ret (v := .tuple #[.agg #[.int .u8 0, .int .i64 0, .string ⟨#[]⟩], .int .i64 11]) (by simp [results, go_sem, r0, r1, r2]) rfl (gives_of rfl (below_set3 (b := w.heap.size + 1 + 1) H2.out.below (by omega) _ _ _))
set_option maxRecDepth 100000 in
set_option maxHeartbeats 4000000 in
theorem rtwo7_ok (k : Nat) (i : Int) (s : ByteArray) (l : Nat) (j : Int) (t : ByteArray) (hk : k < 256) (hl : l < 256) (w : World) (A0 : (((k : Nat) : Int) == 0) = false) (A1 : (((k : Nat) : Int) == 1) = true) (A2 : (((k : Nat) : Int) == 2) = false) (B0 : (((l : Nat) : Int) == 0) = false) (B1 : (((l : Nat) : Int) == 1) = true) (B2 : (((l : Nat) : Int) == 2) = false) (n : Int) (f : Nat) (i0 : -9223372036854775808 ≤ i) (i1 : i ≤ 9223372036854775807) (j0 : -9223372036854775808 ≤ j) (j1 : j ≤ 9223372036854775807) (hn : Val.reckon 7 i j = (n, f)) (F0 : (((f : Nat) : Int) != 0) = false) (hfa : Val.fine ⟨k, i, s⟩ = true) (hfb : Val.fine ⟨l, j, t⟩ = true) (hr : Val.two 7 ⟨k, i, s⟩ ⟨l, j, t⟩ = (⟨1, n, ⟨#[]⟩⟩, 0)) :
    Calls Tryd.prog 9 #[.int .u8 7, .agg #[.int .u8 (k : Int), .int .i64 i, .string s], .agg #[.int .u8 (l : Int), .int .i64 j, .string t]] w (Gives (Val.two 7 ⟨k, i, s⟩ ⟨l, j, t⟩) w) := by
  rw [hr]
  clear hr
  have H0 := Lib.hid (base3 w k i s l j t)
  go_enter Tryd.func9, Tryd.ntmps9
  go_wp2_with fail
  have HN := Lib.hid hn
  clear hn
  generalize hW : World.alloc (World.alloc (World.alloc w _) _) _ = v0 at H0 ⊢
  clear hW
  refine (rcheck_any k i s _ hk).mono ?_
  rw [hfa]
  rintro e v1 ⟨rfl, hb⟩
  have H1 := Lib.hid (H0.out.kept hb)
  clear hb H0
  obtain ⟨s0, s1, s2, s3, s4, s5⟩ := H1.out.s (fun _ hx => hx)
  obtain ⟨⟨r0, r1, r2⟩, ⟨f0, f1, f2⟩, y2⟩ := H1.out.r (fun _ hx => hx)
  go_wp2_with fail
  refine (rcheck_any l j t _ hl).mono ?_
  rw [hfb]
  rintro e v2 ⟨rfl, hb⟩
  have H2 := Lib.hid (H1.out.kept hb)
  clear hb H1
  clear s0 s1 s2 s3 s4 s5 r0 r1 r2 f0 f1 f2 y2
  obtain ⟨s0, s1, s2, s3, s4, s5⟩ := H2.out.s (fun _ hx => hx)
  obtain ⟨⟨r0, r1, r2⟩, ⟨f0, f1, f2⟩, y2⟩ := H2.out.r (fun _ hx => hx)
  go_wp2_with fail
  refine (rreckon_at 7 (by omega) (by omega) i j n f _ i0 i1 j0 j1 HN.out).mono ?_
  rintro e v3 ⟨rfl, hw⟩
  have H3 := Lib.hid (show Fam w _ v3 by rw [hw]; exact H2.out)
  clear hw H2 s0 s1 s2 s3 s4 s5 r0 r1 r2 f0 f1 f2 y2
  obtain ⟨s0, s1, s2, s3, s4, s5⟩ := H3.out.s (fun _ hx => hx)
  obtain ⟨⟨r0, r1, r2⟩, ⟨f0, f1, f2⟩, y2⟩ := H3.out.r (fun _ hx => hx)
  go_wp2_with fail
  refine (rint_any _ _).mono ?_
  rintro e v4 ⟨rfl, hb⟩
  have H4 := Lib.hid (H3.out.kept hb)
  clear hb H3
  clear s0 s1 s2 s3 s4 s5 r0 r1 r2 f0 f1 f2 y2
  obtain ⟨s0, s1, s2, s3, s4, s5⟩ := H4.out.s (fun _ hx => hx)
  obtain ⟨⟨r0, r1, r2⟩, ⟨f0, f1, f2⟩, y2⟩ := H4.out.r (fun _ hx => hx)
  go_wp2_with fail
  exact bodyPost_ret (v := .tuple #[.agg #[.int .u8 1, .int .i64 n, .string ⟨#[]⟩], .int .i64 0]) (by simp [results, go_sem, r0, r1, r2]) rfl (gives_of rfl (below_set3 (b := w.heap.size + 1 + 1) H4.out.below (by omega) _ _ _))
set_option maxRecDepth 100000 in
set_option maxHeartbeats 4000000 in
theorem rtwo7_no (k : Nat) (i : Int) (s : ByteArray) (l : Nat) (j : Int) (t : ByteArray) (hk : k < 256) (hl : l < 256) (w : World) (A0 : (((k : Nat) : Int) == 0) = false) (A1 : (((k : Nat) : Int) == 1) = true) (A2 : (((k : Nat) : Int) == 2) = false) (B0 : (((l : Nat) : Int) == 0) = false) (B1 : (((l : Nat) : Int) == 1) = true) (B2 : (((l : Nat) : Int) == 2) = false) (n : Int) (f : Nat) (i0 : -9223372036854775808 ≤ i) (i1 : i ≤ 9223372036854775807) (j0 : -9223372036854775808 ≤ j) (j1 : j ≤ 9223372036854775807) (hn : Val.reckon 7 i j = (n, f)) (F0 : (((f : Nat) : Int) != 0) = true) (hfa : Val.fine ⟨k, i, s⟩ = true) (hfb : Val.fine ⟨l, j, t⟩ = true) (hr : Val.two 7 ⟨k, i, s⟩ ⟨l, j, t⟩ = (⟨0, 0, ⟨#[]⟩⟩, f)) :
    Calls Tryd.prog 9 #[.int .u8 7, .agg #[.int .u8 (k : Int), .int .i64 i, .string s], .agg #[.int .u8 (l : Int), .int .i64 j, .string t]] w (Gives (Val.two 7 ⟨k, i, s⟩ ⟨l, j, t⟩) w) := by
  rw [hr]
  clear hr
  have H0 := Lib.hid (base3 w k i s l j t)
  go_enter Tryd.func9, Tryd.ntmps9
  go_wp2_with fail
  have HN := Lib.hid hn
  clear hn
  generalize hW : World.alloc (World.alloc (World.alloc w _) _) _ = v0 at H0 ⊢
  clear hW
  refine (rcheck_any k i s _ hk).mono ?_
  rw [hfa]
  rintro e v1 ⟨rfl, hb⟩
  have H1 := Lib.hid (H0.out.kept hb)
  clear hb H0
  obtain ⟨s0, s1, s2, s3, s4, s5⟩ := H1.out.s (fun _ hx => hx)
  obtain ⟨⟨r0, r1, r2⟩, ⟨f0, f1, f2⟩, y2⟩ := H1.out.r (fun _ hx => hx)
  go_wp2_with fail
  refine (rcheck_any l j t _ hl).mono ?_
  rw [hfb]
  rintro e v2 ⟨rfl, hb⟩
  have H2 := Lib.hid (H1.out.kept hb)
  clear hb H1
  clear s0 s1 s2 s3 s4 s5 r0 r1 r2 f0 f1 f2 y2
  obtain ⟨s0, s1, s2, s3, s4, s5⟩ := H2.out.s (fun _ hx => hx)
  obtain ⟨⟨r0, r1, r2⟩, ⟨f0, f1, f2⟩, y2⟩ := H2.out.r (fun _ hx => hx)
  go_wp2_with fail
  refine (rreckon_at 7 (by omega) (by omega) i j n f _ i0 i1 j0 j1 HN.out).mono ?_
  rintro e v3 ⟨rfl, hw⟩
  have H3 := Lib.hid (show Fam w _ v3 by rw [hw]; exact H2.out)
  clear hw H2 s0 s1 s2 s3 s4 s5 r0 r1 r2 f0 f1 f2 y2
  obtain ⟨s0, s1, s2, s3, s4, s5⟩ := H3.out.s (fun _ hx => hx)
  obtain ⟨⟨r0, r1, r2⟩, ⟨f0, f1, f2⟩, y2⟩ := H3.out.r (fun _ hx => hx)
  go_wp2_with fail
  exact bodyPost_ret (v := .tuple #[.agg #[.int .u8 0, .int .i64 0, .string ⟨#[]⟩], .int .i64 (f : Int)]) (by simp [results, go_sem, r0, r1, r2]) rfl (gives_of rfl (below_set3 (b := w.heap.size + 1 + 1) H3.out.below (by omega) _ _ _))
set_option maxRecDepth 100000 in
set_option maxHeartbeats 4000000 in
theorem rtwo8_t (k : Nat) (i : Int) (s : ByteArray) (l : Nat) (j : Int) (t : ByteArray) (hk : k < 256) (hl : l < 256) (w : World) (A0 : (((k : Nat) : Int) == 0) = false) (A1 : (((k : Nat) : Int) == 1) = false) (A2 : (((k : Nat) : Int) == 2) = true) (B0 : (((l : Nat) : Int) == 0) = false)  (hfa : Val.fine ⟨k, i, s⟩ = true) (hfb : Val.fine ⟨l, j, t⟩ = true) (hr : Val.two 8 ⟨k, i, s⟩ ⟨l, j, t⟩ = (⟨0, 0, ⟨#[]⟩⟩, 11)) :
    Calls Tryd.prog 9 #[.int .u8 8, .agg #[.int .u8 (k : Int), .int .i64 i, .string s], .agg #[.int .u8 (l : Int), .int .i64 j, .string t]] w (Gives (Val.two 8 ⟨k, i, s⟩ ⟨l, j, t⟩) w) := by
  rw [hr]
  clear hr
  have H0 := Lib.hid (base3 w k i s l j t)
  go_enter Tryd.func9, Tryd.ntmps9
  go_wp2_with fail
  generalize hW : World.alloc (World.alloc (World.alloc w _) _) _ = v0 at H0 ⊢
  clear hW
  refine (rcheck_any k i s _ hk).mono ?_
  rw [hfa]
  rintro e v1 ⟨rfl, hb⟩
  have H1 := Lib.hid (H0.out.kept hb)
  clear hb H0
  obtain ⟨s0, s1, s2, s3, s4, s5⟩ := H1.out.s (fun _ hx => hx)
  obtain ⟨⟨r0, r1, r2⟩, ⟨f0, f1, f2⟩, y2⟩ := H1.out.r (fun _ hx => hx)
  go_wp2_with fail
  refine (rcheck_any l j t _ hl).mono ?_
  rw [hfb]
  rintro e v2 ⟨rfl, hb⟩
  have H2 := Lib.hid (H1.out.kept hb)
  clear hb H1
  clear s0 s1 s2 s3 s4 s5 r0 r1 r2 f0 f1 f2 y2
  obtain ⟨s0, s1, s2, s3, s4, s5⟩ := H2.out.s (fun _ hx => hx)
  obtain ⟨⟨r0, r1, r2⟩, ⟨f0, f1, f2⟩, y2⟩ := H2.out.r (fun _ hx => hx)
  go_wp2_with fail
  exact bodyPost_ret (v := .tuple #[.agg #[.int .u8 0, .int .i64 0, .string ⟨#[]⟩], .int .i64 11]) (by simp [results, go_sem, r0, r1, r2]) rfl (gives_of rfl (below_set3 (b := w.heap.size + 1 + 1) H2.out.below (by omega) _ _ _))
set_option maxRecDepth 100000 in
set_option maxHeartbeats 4000000 in
theorem rtwo8_nt (k : Nat) (i : Int) (s : ByteArray) (l : Nat) (j : Int) (t : ByteArray) (hk : k < 256) (hl : l < 256) (w : World) (A0 : (((k : Nat) : Int) == 0) = false) (A1 : (((k : Nat) : Int) == 1) = true) (A2 : (((k : Nat) : Int) == 2) = false) (B0 : (((l : Nat) : Int) == 0) = false) (B1 : (((l : Nat) : Int) == 1) = false) (B2 : (((l : Nat) : Int) == 2) = true)  (hfa : Val.fine ⟨k, i, s⟩ = true) (hfb : Val.fine ⟨l, j, t⟩ = true) (hr : Val.two 8 ⟨k, i, s⟩ ⟨l, j, t⟩ = (⟨0, 0, ⟨#[]⟩⟩, 11)) :
    Calls Tryd.prog 9 #[.int .u8 8, .agg #[.int .u8 (k : Int), .int .i64 i, .string s], .agg #[.int .u8 (l : Int), .int .i64 j, .string t]] w (Gives (Val.two 8 ⟨k, i, s⟩ ⟨l, j, t⟩) w) := by
  rw [hr]
  clear hr
  have H0 := Lib.hid (base3 w k i s l j t)
  go_enter Tryd.func9, Tryd.ntmps9
  go_wp2_with fail
  generalize hW : World.alloc (World.alloc (World.alloc w _) _) _ = v0 at H0 ⊢
  clear hW
  refine (rcheck_any k i s _ hk).mono ?_
  rw [hfa]
  rintro e v1 ⟨rfl, hb⟩
  have H1 := Lib.hid (H0.out.kept hb)
  clear hb H0
  obtain ⟨s0, s1, s2, s3, s4, s5⟩ := H1.out.s (fun _ hx => hx)
  obtain ⟨⟨r0, r1, r2⟩, ⟨f0, f1, f2⟩, y2⟩ := H1.out.r (fun _ hx => hx)
  go_wp2_with fail
  refine (rcheck_any l j t _ hl).mono ?_
  rw [hfb]
  rintro e v2 ⟨rfl, hb⟩
  have H2 := Lib.hid (H1.out.kept hb)
  clear hb H1
  clear s0 s1 s2 s3 s4 s5 r0 r1 r2 f0 f1 f2 y2
  obtain ⟨s0, s1, s2, s3, s4, s5⟩ := H2.out.s (fun _ hx => hx)
  obtain ⟨⟨r0, r1, r2⟩, ⟨f0, f1, f2⟩, y2⟩ := H2.out.r (fun _ hx => hx)
  go_wp2_with fail
  exact bodyPost_ret (v := .tuple #[.agg #[.int .u8 0, .int .i64 0, .string ⟨#[]⟩], .int .i64 11]) (by simp [results, go_sem, r0, r1, r2]) rfl (gives_of rfl (below_set3 (b := w.heap.size + 1 + 1) H2.out.below (by omega) _ _ _))
set_option maxRecDepth 100000 in
set_option maxHeartbeats 4000000 in
theorem rtwo8_ok (k : Nat) (i : Int) (s : ByteArray) (l : Nat) (j : Int) (t : ByteArray) (hk : k < 256) (hl : l < 256) (w : World) (A0 : (((k : Nat) : Int) == 0) = false) (A1 : (((k : Nat) : Int) == 1) = true) (A2 : (((k : Nat) : Int) == 2) = false) (B0 : (((l : Nat) : Int) == 0) = false) (B1 : (((l : Nat) : Int) == 1) = true) (B2 : (((l : Nat) : Int) == 2) = false) (n : Int) (f : Nat) (i0 : -9223372036854775808 ≤ i) (i1 : i ≤ 9223372036854775807) (j0 : -9223372036854775808 ≤ j) (j1 : j ≤ 9223372036854775807) (hn : Val.reckon 8 i j = (n, f)) (F0 : (((f : Nat) : Int) != 0) = false) (hfa : Val.fine ⟨k, i, s⟩ = true) (hfb : Val.fine ⟨l, j, t⟩ = true) (hr : Val.two 8 ⟨k, i, s⟩ ⟨l, j, t⟩ = (⟨1, n, ⟨#[]⟩⟩, 0)) :
    Calls Tryd.prog 9 #[.int .u8 8, .agg #[.int .u8 (k : Int), .int .i64 i, .string s], .agg #[.int .u8 (l : Int), .int .i64 j, .string t]] w (Gives (Val.two 8 ⟨k, i, s⟩ ⟨l, j, t⟩) w) := by
  rw [hr]
  clear hr
  have H0 := Lib.hid (base3 w k i s l j t)
  go_enter Tryd.func9, Tryd.ntmps9
  go_wp2_with fail
  have HN := Lib.hid hn
  clear hn
  generalize hW : World.alloc (World.alloc (World.alloc w _) _) _ = v0 at H0 ⊢
  clear hW
  refine (rcheck_any k i s _ hk).mono ?_
  rw [hfa]
  rintro e v1 ⟨rfl, hb⟩
  have H1 := Lib.hid (H0.out.kept hb)
  clear hb H0
  obtain ⟨s0, s1, s2, s3, s4, s5⟩ := H1.out.s (fun _ hx => hx)
  obtain ⟨⟨r0, r1, r2⟩, ⟨f0, f1, f2⟩, y2⟩ := H1.out.r (fun _ hx => hx)
  go_wp2_with fail
  refine (rcheck_any l j t _ hl).mono ?_
  rw [hfb]
  rintro e v2 ⟨rfl, hb⟩
  have H2 := Lib.hid (H1.out.kept hb)
  clear hb H1
  clear s0 s1 s2 s3 s4 s5 r0 r1 r2 f0 f1 f2 y2
  obtain ⟨s0, s1, s2, s3, s4, s5⟩ := H2.out.s (fun _ hx => hx)
  obtain ⟨⟨r0, r1, r2⟩, ⟨f0, f1, f2⟩, y2⟩ := H2.out.r (fun _ hx => hx)
  go_wp2_with fail
  refine (rreckon_at 8 (by omega) (by omega) i j n f _ i0 i1 j0 j1 HN.out).mono ?_
  rintro e v3 ⟨rfl, hw⟩
  have H3 := Lib.hid (show Fam w _ v3 by rw [hw]; exact H2.out)
  clear hw H2 s0 s1 s2 s3 s4 s5 r0 r1 r2 f0 f1 f2 y2
  obtain ⟨s0, s1, s2, s3, s4, s5⟩ := H3.out.s (fun _ hx => hx)
  obtain ⟨⟨r0, r1, r2⟩, ⟨f0, f1, f2⟩, y2⟩ := H3.out.r (fun _ hx => hx)
  go_wp2_with fail
  refine (rint_any _ _).mono ?_
  rintro e v4 ⟨rfl, hb⟩
  have H4 := Lib.hid (H3.out.kept hb)
  clear hb H3
  clear s0 s1 s2 s3 s4 s5 r0 r1 r2 f0 f1 f2 y2
  obtain ⟨s0, s1, s2, s3, s4, s5⟩ := H4.out.s (fun _ hx => hx)
  obtain ⟨⟨r0, r1, r2⟩, ⟨f0, f1, f2⟩, y2⟩ := H4.out.r (fun _ hx => hx)
  go_wp2_with fail
  exact bodyPost_ret (v := .tuple #[.agg #[.int .u8 1, .int .i64 n, .string ⟨#[]⟩], .int .i64 0]) (by simp [results, go_sem, r0, r1, r2]) rfl (gives_of rfl (below_set3 (b := w.heap.size + 1 + 1) H4.out.below (by omega) _ _ _))
set_option maxRecDepth 100000 in
set_option maxHeartbeats 4000000 in
theorem rtwo8_no (k : Nat) (i : Int) (s : ByteArray) (l : Nat) (j : Int) (t : ByteArray) (hk : k < 256) (hl : l < 256) (w : World) (A0 : (((k : Nat) : Int) == 0) = false) (A1 : (((k : Nat) : Int) == 1) = true) (A2 : (((k : Nat) : Int) == 2) = false) (B0 : (((l : Nat) : Int) == 0) = false) (B1 : (((l : Nat) : Int) == 1) = true) (B2 : (((l : Nat) : Int) == 2) = false) (n : Int) (f : Nat) (i0 : -9223372036854775808 ≤ i) (i1 : i ≤ 9223372036854775807) (j0 : -9223372036854775808 ≤ j) (j1 : j ≤ 9223372036854775807) (hn : Val.reckon 8 i j = (n, f)) (F0 : (((f : Nat) : Int) != 0) = true) (hfa : Val.fine ⟨k, i, s⟩ = true) (hfb : Val.fine ⟨l, j, t⟩ = true) (hr : Val.two 8 ⟨k, i, s⟩ ⟨l, j, t⟩ = (⟨0, 0, ⟨#[]⟩⟩, f)) :
    Calls Tryd.prog 9 #[.int .u8 8, .agg #[.int .u8 (k : Int), .int .i64 i, .string s], .agg #[.int .u8 (l : Int), .int .i64 j, .string t]] w (Gives (Val.two 8 ⟨k, i, s⟩ ⟨l, j, t⟩) w) := by
  rw [hr]
  clear hr
  have H0 := Lib.hid (base3 w k i s l j t)
  go_enter Tryd.func9, Tryd.ntmps9
  go_wp2_with fail
  have HN := Lib.hid hn
  clear hn
  generalize hW : World.alloc (World.alloc (World.alloc w _) _) _ = v0 at H0 ⊢
  clear hW
  refine (rcheck_any k i s _ hk).mono ?_
  rw [hfa]
  rintro e v1 ⟨rfl, hb⟩
  have H1 := Lib.hid (H0.out.kept hb)
  clear hb H0
  obtain ⟨s0, s1, s2, s3, s4, s5⟩ := H1.out.s (fun _ hx => hx)
  obtain ⟨⟨r0, r1, r2⟩, ⟨f0, f1, f2⟩, y2⟩ := H1.out.r (fun _ hx => hx)
  go_wp2_with fail
  refine (rcheck_any l j t _ hl).mono ?_
  rw [hfb]
  rintro e v2 ⟨rfl, hb⟩
  have H2 := Lib.hid (H1.out.kept hb)
  clear hb H1
  clear s0 s1 s2 s3 s4 s5 r0 r1 r2 f0 f1 f2 y2
  obtain ⟨s0, s1, s2, s3, s4, s5⟩ := H2.out.s (fun _ hx => hx)
  obtain ⟨⟨r0, r1, r2⟩, ⟨f0, f1, f2⟩, y2⟩ := H2.out.r (fun _ hx => hx)
  go_wp2_with fail
  refine (rreckon_at 8 (by omega) (by omega) i j n f _ i0 i1 j0 j1 HN.out).mono ?_
  rintro e v3 ⟨rfl, hw⟩
  have H3 := Lib.hid (show Fam w _ v3 by rw [hw]; exact H2.out)
  clear hw H2 s0 s1 s2 s3 s4 s5 r0 r1 r2 f0 f1 f2 y2
  obtain ⟨s0, s1, s2, s3, s4, s5⟩ := H3.out.s (fun _ hx => hx)
  obtain ⟨⟨r0, r1, r2⟩, ⟨f0, f1, f2⟩, y2⟩ := H3.out.r (fun _ hx => hx)
  go_wp2_with fail
  exact bodyPost_ret (v := .tuple #[.agg #[.int .u8 0, .int .i64 0, .string ⟨#[]⟩], .int .i64 (f : Int)]) (by simp [results, go_sem, r0, r1, r2]) rfl (gives_of rfl (below_set3 (b := w.heap.size + 1 + 1) H3.out.below (by omega) _ _ _))
set_option maxRecDepth 100000 in
set_option maxHeartbeats 4000000 in
theorem rtwo9_t (k : Nat) (i : Int) (s : ByteArray) (l : Nat) (j : Int) (t : ByteArray) (hk : k < 256) (hl : l < 256) (w : World) (A0 : (((k : Nat) : Int) == 0) = false) (A1 : (((k : Nat) : Int) == 1) = false) (A2 : (((k : Nat) : Int) == 2) = true) (B0 : (((l : Nat) : Int) == 0) = false)  (hfa : Val.fine ⟨k, i, s⟩ = true) (hfb : Val.fine ⟨l, j, t⟩ = true) (hr : Val.two 9 ⟨k, i, s⟩ ⟨l, j, t⟩ = (⟨0, 0, ⟨#[]⟩⟩, 11)) :
    Calls Tryd.prog 9 #[.int .u8 9, .agg #[.int .u8 (k : Int), .int .i64 i, .string s], .agg #[.int .u8 (l : Int), .int .i64 j, .string t]] w (Gives (Val.two 9 ⟨k, i, s⟩ ⟨l, j, t⟩) w) := by
  rw [hr]
  clear hr
  have H0 := Lib.hid (base3 w k i s l j t)
  go_enter Tryd.func9, Tryd.ntmps9
  go_wp2_with fail
  generalize hW : World.alloc (World.alloc (World.alloc w _) _) _ = v0 at H0 ⊢
  clear hW
  refine (rcheck_any k i s _ hk).mono ?_
  rw [hfa]
  rintro e v1 ⟨rfl, hb⟩
  have H1 := Lib.hid (H0.out.kept hb)
  clear hb H0
  obtain ⟨s0, s1, s2, s3, s4, s5⟩ := H1.out.s (fun _ hx => hx)
  obtain ⟨⟨r0, r1, r2⟩, ⟨f0, f1, f2⟩, y2⟩ := H1.out.r (fun _ hx => hx)
  go_wp2_with fail
  refine (rcheck_any l j t _ hl).mono ?_
  rw [hfb]
  rintro e v2 ⟨rfl, hb⟩
  have H2 := Lib.hid (H1.out.kept hb)
  clear hb H1
  clear s0 s1 s2 s3 s4 s5 r0 r1 r2 f0 f1 f2 y2
  obtain ⟨s0, s1, s2, s3, s4, s5⟩ := H2.out.s (fun _ hx => hx)
  obtain ⟨⟨r0, r1, r2⟩, ⟨f0, f1, f2⟩, y2⟩ := H2.out.r (fun _ hx => hx)
  go_wp2_with fail
  exact bodyPost_ret (v := .tuple #[.agg #[.int .u8 0, .int .i64 0, .string ⟨#[]⟩], .int .i64 11]) (by simp [results, go_sem, r0, r1, r2]) rfl (gives_of rfl (below_set3 (b := w.heap.size + 1 + 1) H2.out.below (by omega) _ _ _))
set_option maxRecDepth 100000 in
set_option maxHeartbeats 4000000 in
theorem rtwo9_nt (k : Nat) (i : Int) (s : ByteArray) (l : Nat) (j : Int) (t : ByteArray) (hk : k < 256) (hl : l < 256) (w : World) (A0 : (((k : Nat) : Int) == 0) = false) (A1 : (((k : Nat) : Int) == 1) = true) (A2 : (((k : Nat) : Int) == 2) = false) (B0 : (((l : Nat) : Int) == 0) = false) (B1 : (((l : Nat) : Int) == 1) = false) (B2 : (((l : Nat) : Int) == 2) = true)  (hfa : Val.fine ⟨k, i, s⟩ = true) (hfb : Val.fine ⟨l, j, t⟩ = true) (hr : Val.two 9 ⟨k, i, s⟩ ⟨l, j, t⟩ = (⟨0, 0, ⟨#[]⟩⟩, 11)) :
    Calls Tryd.prog 9 #[.int .u8 9, .agg #[.int .u8 (k : Int), .int .i64 i, .string s], .agg #[.int .u8 (l : Int), .int .i64 j, .string t]] w (Gives (Val.two 9 ⟨k, i, s⟩ ⟨l, j, t⟩) w) := by
  rw [hr]
  clear hr
  have H0 := Lib.hid (base3 w k i s l j t)
  go_enter Tryd.func9, Tryd.ntmps9
  go_wp2_with fail
  generalize hW : World.alloc (World.alloc (World.alloc w _) _) _ = v0 at H0 ⊢
  clear hW
  refine (rcheck_any k i s _ hk).mono ?_
  rw [hfa]
  rintro e v1 ⟨rfl, hb⟩
  have H1 := Lib.hid (H0.out.kept hb)
  clear hb H0
  obtain ⟨s0, s1, s2, s3, s4, s5⟩ := H1.out.s (fun _ hx => hx)
  obtain ⟨⟨r0, r1, r2⟩, ⟨f0, f1, f2⟩, y2⟩ := H1.out.r (fun _ hx => hx)
  go_wp2_with fail
  refine (rcheck_any l j t _ hl).mono ?_
  rw [hfb]
  rintro e v2 ⟨rfl, hb⟩
  have H2 := Lib.hid (H1.out.kept hb)
  clear hb H1
  clear s0 s1 s2 s3 s4 s5 r0 r1 r2 f0 f1 f2 y2
  obtain ⟨s0, s1, s2, s3, s4, s5⟩ := H2.out.s (fun _ hx => hx)
  obtain ⟨⟨r0, r1, r2⟩, ⟨f0, f1, f2⟩, y2⟩ := H2.out.r (fun _ hx => hx)
  go_wp2_with fail
  exact bodyPost_ret (v := .tuple #[.agg #[.int .u8 0, .int .i64 0, .string ⟨#[]⟩], .int .i64 11]) (by simp [results, go_sem, r0, r1, r2]) rfl (gives_of rfl (below_set3 (b := w.heap.size + 1 + 1) H2.out.below (by omega) _ _ _))
set_option maxRecDepth 100000 in
set_option maxHeartbeats 4000000 in
theorem rtwo9_ok (k : Nat) (i : Int) (s : ByteArray) (l : Nat) (j : Int) (t : ByteArray) (hk : k < 256) (hl : l < 256) (w : World) (A0 : (((k : Nat) : Int) == 0) = false) (A1 : (((k : Nat) : Int) == 1) = true) (A2 : (((k : Nat) : Int) == 2) = false) (B0 : (((l : Nat) : Int) == 0) = false) (B1 : (((l : Nat) : Int) == 1) = true) (B2 : (((l : Nat) : Int) == 2) = false) (n : Int) (f : Nat) (i0 : -9223372036854775808 ≤ i) (i1 : i ≤ 9223372036854775807) (j0 : -9223372036854775808 ≤ j) (j1 : j ≤ 9223372036854775807) (hn : Val.reckon 9 i j = (n, f)) (F0 : (((f : Nat) : Int) != 0) = false) (hfa : Val.fine ⟨k, i, s⟩ = true) (hfb : Val.fine ⟨l, j, t⟩ = true) (hr : Val.two 9 ⟨k, i, s⟩ ⟨l, j, t⟩ = (⟨1, n, ⟨#[]⟩⟩, 0)) :
    Calls Tryd.prog 9 #[.int .u8 9, .agg #[.int .u8 (k : Int), .int .i64 i, .string s], .agg #[.int .u8 (l : Int), .int .i64 j, .string t]] w (Gives (Val.two 9 ⟨k, i, s⟩ ⟨l, j, t⟩) w) := by
  rw [hr]
  clear hr
  have H0 := Lib.hid (base3 w k i s l j t)
  go_enter Tryd.func9, Tryd.ntmps9
  go_wp2_with fail
  have HN := Lib.hid hn
  clear hn
  generalize hW : World.alloc (World.alloc (World.alloc w _) _) _ = v0 at H0 ⊢
  clear hW
  refine (rcheck_any k i s _ hk).mono ?_
  rw [hfa]
  rintro e v1 ⟨rfl, hb⟩
  have H1 := Lib.hid (H0.out.kept hb)
  clear hb H0
  obtain ⟨s0, s1, s2, s3, s4, s5⟩ := H1.out.s (fun _ hx => hx)
  obtain ⟨⟨r0, r1, r2⟩, ⟨f0, f1, f2⟩, y2⟩ := H1.out.r (fun _ hx => hx)
  go_wp2_with fail
  refine (rcheck_any l j t _ hl).mono ?_
  rw [hfb]
  rintro e v2 ⟨rfl, hb⟩
  have H2 := Lib.hid (H1.out.kept hb)
  clear hb H1
  clear s0 s1 s2 s3 s4 s5 r0 r1 r2 f0 f1 f2 y2
  obtain ⟨s0, s1, s2, s3, s4, s5⟩ := H2.out.s (fun _ hx => hx)
  obtain ⟨⟨r0, r1, r2⟩, ⟨f0, f1, f2⟩, y2⟩ := H2.out.r (fun _ hx => hx)
  go_wp2_with fail
  refine (rreckon_at 9 (by omega) (by omega) i j n f _ i0 i1 j0 j1 HN.out).mono ?_
  rintro e v3 ⟨rfl, hw⟩
  have H3 := Lib.hid (show Fam w _ v3 by rw [hw]; exact H2.out)
  clear hw H2 s0 s1 s2 s3 s4 s5 r0 r1 r2 f0 f1 f2 y2
  obtain ⟨s0, s1, s2, s3, s4, s5⟩ := H3.out.s (fun _ hx => hx)
  obtain ⟨⟨r0, r1, r2⟩, ⟨f0, f1, f2⟩, y2⟩ := H3.out.r (fun _ hx => hx)
  go_wp2_with fail
  refine (rint_any _ _).mono ?_
  rintro e v4 ⟨rfl, hb⟩
  have H4 := Lib.hid (H3.out.kept hb)
  clear hb H3
  clear s0 s1 s2 s3 s4 s5 r0 r1 r2 f0 f1 f2 y2
  obtain ⟨s0, s1, s2, s3, s4, s5⟩ := H4.out.s (fun _ hx => hx)
  obtain ⟨⟨r0, r1, r2⟩, ⟨f0, f1, f2⟩, y2⟩ := H4.out.r (fun _ hx => hx)
  go_wp2_with fail
  exact bodyPost_ret (v := .tuple #[.agg #[.int .u8 1, .int .i64 n, .string ⟨#[]⟩], .int .i64 0]) (by simp [results, go_sem, r0, r1, r2]) rfl (gives_of rfl (below_set3 (b := w.heap.size + 1 + 1) H4.out.below (by omega) _ _ _))
set_option maxRecDepth 100000 in
set_option maxHeartbeats 4000000 in
theorem rtwo9_no (k : Nat) (i : Int) (s : ByteArray) (l : Nat) (j : Int) (t : ByteArray) (hk : k < 256) (hl : l < 256) (w : World) (A0 : (((k : Nat) : Int) == 0) = false) (A1 : (((k : Nat) : Int) == 1) = true) (A2 : (((k : Nat) : Int) == 2) = false) (B0 : (((l : Nat) : Int) == 0) = false) (B1 : (((l : Nat) : Int) == 1) = true) (B2 : (((l : Nat) : Int) == 2) = false) (n : Int) (f : Nat) (i0 : -9223372036854775808 ≤ i) (i1 : i ≤ 9223372036854775807) (j0 : -9223372036854775808 ≤ j) (j1 : j ≤ 9223372036854775807) (hn : Val.reckon 9 i j = (n, f)) (F0 : (((f : Nat) : Int) != 0) = true) (hfa : Val.fine ⟨k, i, s⟩ = true) (hfb : Val.fine ⟨l, j, t⟩ = true) (hr : Val.two 9 ⟨k, i, s⟩ ⟨l, j, t⟩ = (⟨0, 0, ⟨#[]⟩⟩, f)) :
    Calls Tryd.prog 9 #[.int .u8 9, .agg #[.int .u8 (k : Int), .int .i64 i, .string s], .agg #[.int .u8 (l : Int), .int .i64 j, .string t]] w (Gives (Val.two 9 ⟨k, i, s⟩ ⟨l, j, t⟩) w) := by
  rw [hr]
  clear hr
  have H0 := Lib.hid (base3 w k i s l j t)
  go_enter Tryd.func9, Tryd.ntmps9
  go_wp2_with fail
  have HN := Lib.hid hn
  clear hn
  generalize hW : World.alloc (World.alloc (World.alloc w _) _) _ = v0 at H0 ⊢
  clear hW
  refine (rcheck_any k i s _ hk).mono ?_
  rw [hfa]
  rintro e v1 ⟨rfl, hb⟩
  have H1 := Lib.hid (H0.out.kept hb)
  clear hb H0
  obtain ⟨s0, s1, s2, s3, s4, s5⟩ := H1.out.s (fun _ hx => hx)
  obtain ⟨⟨r0, r1, r2⟩, ⟨f0, f1, f2⟩, y2⟩ := H1.out.r (fun _ hx => hx)
  go_wp2_with fail
  refine (rcheck_any l j t _ hl).mono ?_
  rw [hfb]
  rintro e v2 ⟨rfl, hb⟩
  have H2 := Lib.hid (H1.out.kept hb)
  clear hb H1
  clear s0 s1 s2 s3 s4 s5 r0 r1 r2 f0 f1 f2 y2
  obtain ⟨s0, s1, s2, s3, s4, s5⟩ := H2.out.s (fun _ hx => hx)
  obtain ⟨⟨r0, r1, r2⟩, ⟨f0, f1, f2⟩, y2⟩ := H2.out.r (fun _ hx => hx)
  go_wp2_with fail
  refine (rreckon_at 9 (by omega) (by omega) i j n f _ i0 i1 j0 j1 HN.out).mono ?_
  rintro e v3 ⟨rfl, hw⟩
  have H3 := Lib.hid (show Fam w _ v3 by rw [hw]; exact H2.out)
  clear hw H2 s0 s1 s2 s3 s4 s5 r0 r1 r2 f0 f1 f2 y2
  obtain ⟨s0, s1, s2, s3, s4, s5⟩ := H3.out.s (fun _ hx => hx)
  obtain ⟨⟨r0, r1, r2⟩, ⟨f0, f1, f2⟩, y2⟩ := H3.out.r (fun _ hx => hx)
  go_wp2_with fail
  exact bodyPost_ret (v := .tuple #[.agg #[.int .u8 0, .int .i64 0, .string ⟨#[]⟩], .int .i64 (f : Int)]) (by simp [results, go_sem, r0, r1, r2]) rfl (gives_of rfl (below_set3 (b := w.heap.size + 1 + 1) H3.out.below (by omega) _ _ _))
end
section
open Go.RowKit Go.Lib
set_option linter.unusedVariables false

theorem Val.two_nil {op : Nat} {a b : Val} (h5 : 5 ≤ op) (h16 : op ≤ 16) (fa : a.fine = true) (fb : b.fine = true) (hn : a.k = 0 ∨ b.k = 0) : Val.two op a b = (Val.nil, 0) := by
  rw [fine_two (by rw [fa, fb]; simp; omega)]
  unfold Val.two0
  rw [if_neg (by omega), if_pos hn]
theorem Val.two_both {op : Nat} {a b : Val} (h : op = 17 ∨ op = 18) (fa : a.fine = true) (fb : b.fine = true) : Val.two op a b = Val.both (op == 18) a b := by
  rw [fine_two (by rw [fa, fb]; simp; omega)]
  unfold Val.two0
  rw [if_pos h]
theorem Val.two_join {a b : Val} (fa : a.fine = true) (fb : b.fine = true) (hn : ¬ (a.k = 0 ∨ b.k = 0)) : Val.two 10 a b = if (a.plain ++ b.plain).size ≤ 512 then (txt (a.plain ++ b.plain), 0) else (nil, 3) := by
  rw [fine_two (by rw [fa, fb]; simp)]
  unfold Val.two0
  rw [if_neg (by omega), if_neg hn, if_pos rfl]
theorem Val.two_order {op : Nat} {a b : Val} (h5 : 11 ≤ op) (h16 : op ≤ 16) (fa : a.fine = true) (fb : b.fine = true) (hn : ¬ (a.k = 0 ∨ b.k = 0)) : Val.two op a b = (yes (serves op (cmp a b)), 0) := by
  rw [fine_two (by rw [fa, fb]; simp; omega)]
  unfold Val.two0
  rw [if_neg (by omega), if_neg hn, if_neg (by omega), if_pos (by omega)]
theorem Val.two_text {op : Nat} {a b : Val} (h5 : 5 ≤ op) (h9 : op ≤ 9) (fa : a.fine = true) (fb : b.fine = true) (hn : ¬ (a.k = 0 ∨ b.k = 0)) (ht : a.k = 2 ∨ b.k = 2) : Val.two op a b = (nil, 11) := by
  rw [fine_two (by rw [fa, fb]; simp; omega)]
  unfold Val.two0
  rw [if_neg (by omega), if_neg hn, if_neg (by omega), if_neg (by omega), if_pos ht]
theorem Val.two_num {op : Nat} {a b : Val} (h5 : 5 ≤ op) (h9 : op ≤ 9) (fa : a.fine = true) (fb : b.fine = true) (hn : ¬ (a.k = 0 ∨ b.k = 0)) (ht : ¬ (a.k = 2 ∨ b.k = 2)) :
    Val.two op a b = if (reckon op a.i b.i).2 = 0 then (num (reckon op a.i b.i).1, 0) else (nil, (reckon op a.i b.i).2) := by
  rw [fine_two (by rw [fa, fb]; simp; omega)]
  unfold Val.two0
  rw [if_neg (by omega), if_neg hn, if_neg (by omega), if_neg (by omega), if_neg ht]
theorem kfact (k q : Nat) : (((k : Nat) : Int) == (q : Int)) = (k == q) := by rw [Bool.eq_iff_iff]; simp; omega
theorem rtwo_nil (op : Nat) (h5 : 5 ≤ op) (h16 : op ≤ 16) (k : Nat) (i : Int) (s : ByteArray) (l : Nat) (j : Int) (t : ByteArray) (hk : k < 256) (hl : l < 256) (w : World) (i0 : -9223372036854775808 ≤ i) (i1 : i ≤ 9223372036854775807) (j0 : -9223372036854775808 ≤ j) (j1 : j ≤ 9223372036854775807) (hfa : Val.fine ⟨k, i, s⟩ = true) (hfb : Val.fine ⟨l, j, t⟩ = true) (hn : k = 0 ∨ l = 0) :
    Calls Tryd.prog 9 #[.int .u8 (op : Int), .agg #[.int .u8 (k : Int), .int .i64 i, .string s], .agg #[.int .u8 (l : Int), .int .i64 j, .string t]] w (Gives (Val.two op ⟨k, i, s⟩ ⟨l, j, t⟩) w) := by
  have hka : k = 0 ∨ k = 1 ∨ k = 2 := by rcases Val.fine_cases hfa with h | ⟨n, h⟩ | ⟨n, h, _⟩ <;> (have := (Val.mk.inj h).1; omega)
  have hlb : l = 0 ∨ l = 1 ∨ l = 2 := by rcases Val.fine_cases hfb with h | ⟨n, h⟩ | ⟨n, h, _⟩ <;> (have := (Val.mk.inj h).1; omega)
  have hr : Val.two op ⟨k, i, s⟩ ⟨l, j, t⟩ = (⟨0, 0, ⟨#[]⟩⟩, 0) := Val.two_nil h5 h16 hfa hfb hn
  have o5 : decide ((op : Int) < 5) = false := by rw [decide_eq_false_iff_not]; omega
  have o18 : decide ((18 : Int) < (op : Int)) = false := by rw [decide_eq_false_iff_not]; omega
  have o17 : ((op : Int) == 17) = false := by rw [beq_eq_false_iff_ne]; omega
  have o18b : ((op : Int) == 18) = false := by rw [beq_eq_false_iff_ne]; omega
  rcases hka with rfl | rfl | rfl
  · exact rtwo_nil_a op _ i s l j t hk hl w o5 o18 o17 o18b rfl rfl rfl hfa hfb hr
  · obtain rfl : l = 0 := by omega
    exact rtwo_nil_b1 op _ i s _ j t hk hl w o5 o18 o17 o18b rfl rfl rfl rfl rfl rfl hfa hfb hr
  · obtain rfl : l = 0 := by omega
    exact rtwo_nil_b2 op _ i s _ j t hk hl w o5 o18 o17 o18b rfl rfl rfl rfl rfl rfl hfa hfb hr
theorem rtwo_at17 (k : Nat) (i : Int) (s : ByteArray) (l : Nat) (j : Int) (t : ByteArray) (hk : k < 256) (hl : l < 256) (w : World) (i0 : -9223372036854775808 ≤ i) (i1 : i ≤ 9223372036854775807) (j0 : -9223372036854775808 ≤ j) (j1 : j ≤ 9223372036854775807) (hfa : Val.fine ⟨k, i, s⟩ = true) (hfb : Val.fine ⟨l, j, t⟩ = true) : Calls Tryd.prog 9 #[.int .u8 17, .agg #[.int .u8 (k : Int), .int .i64 i, .string s], .agg #[.int .u8 (l : Int), .int .i64 j, .string t]] w (Gives (Val.two 17 ⟨k, i, s⟩ ⟨l, j, t⟩) w) := by
  have hka : k = 0 ∨ k = 1 ∨ k = 2 := by rcases Val.fine_cases hfa with h | ⟨n, h⟩ | ⟨n, h, _⟩ <;> (have := (Val.mk.inj h).1; omega)
  have hlb : l = 0 ∨ l = 1 ∨ l = 2 := by rcases Val.fine_cases hfb with h | ⟨n, h⟩ | ⟨n, h, _⟩ <;> (have := (Val.mk.inj h).1; omega)
  have hr0 : Val.two 17 ⟨k, i, s⟩ ⟨l, j, t⟩ = Val.both false ⟨k, i, s⟩ ⟨l, j, t⟩ := Val.two_both (by omega) hfa hfb
  rcases hka with rfl | rfl | rfl
  · rcases hlb with rfl | rfl | rfl
    · exact rtwo17_nn _ i s _ j t hk hl w rfl rfl rfl  rfl rfl rfl  hfa hfb (by rw [hr0]; unfold Val.both; simp [Val.decides, Val.yes, Val.num, Val.nil, bitI, noS])
    · by_cases hy : j = 0
      · exact rtwo17_nz _ i s _ j t hk hl w rfl rfl rfl  rfl rfl rfl (by simpa using hy) (by simpa using hy) hfa hfb (by rw [hr0]; unfold Val.both; simp [Val.decides, Val.yes, Val.num, Val.nil, bitI, noS, hy])
      · exact rtwo17_no _ i s _ j t hk hl w rfl rfl rfl  rfl rfl rfl (by simpa using hy) (by simpa using hy) hfa hfb (by rw [hr0]; unfold Val.both; simp [Val.decides, Val.yes, Val.num, Val.nil, bitI, noS, hy])
    · exact rtwo17_nt _ i s _ j t hk hl w rfl rfl rfl rfl rfl rfl hfa hfb (by rw [hr0]; unfold Val.both; rw [if_pos (by simp)]; rfl)
  · rcases hlb with rfl | rfl | rfl
    · by_cases hz : i = 0
      · exact rtwo17_zn _ i s _ j t hk hl w rfl rfl rfl (by simpa using hz) (by simpa using hz) rfl rfl rfl  hfa hfb (by rw [hr0]; unfold Val.both; simp [Val.decides, Val.yes, Val.num, Val.nil, bitI, noS, hz])
      · exact rtwo17_on _ i s _ j t hk hl w rfl rfl rfl (by simpa using hz) (by simpa using hz) rfl rfl rfl  hfa hfb (by rw [hr0]; unfold Val.both; simp [Val.decides, Val.yes, Val.num, Val.nil, bitI, noS, hz])
    · by_cases hz : i = 0
      · by_cases hy : j = 0
        · exact rtwo17_zz _ i s _ j t hk hl w rfl rfl rfl (by simpa using hz) (by simpa using hz) rfl rfl rfl (by simpa using hy) (by simpa using hy) hfa hfb (by rw [hr0]; unfold Val.both; simp [Val.decides, Val.yes, Val.num, Val.nil, bitI, noS, hz, hy])
        · exact rtwo17_zo _ i s _ j t hk hl w rfl rfl rfl (by simpa using hz) (by simpa using hz) rfl rfl rfl (by simpa using hy) (by simpa using hy) hfa hfb (by rw [hr0]; unfold Val.both; simp [Val.decides, Val.yes, Val.num, Val.nil, bitI, noS, hz, hy])
      · by_cases hy : j = 0
        · exact rtwo17_oz _ i s _ j t hk hl w rfl rfl rfl (by simpa using hz) (by simpa using hz) rfl rfl rfl (by simpa using hy) (by simpa using hy) hfa hfb (by rw [hr0]; unfold Val.both; simp [Val.decides, Val.yes, Val.num, Val.nil, bitI, noS, hz, hy])
        · exact rtwo17_oo _ i s _ j t hk hl w rfl rfl rfl (by simpa using hz) (by simpa using hz) rfl rfl rfl (by simpa using hy) (by simpa using hy) hfa hfb (by rw [hr0]; unfold Val.both; simp [Val.decides, Val.yes, Val.num, Val.nil, bitI, noS, hz, hy])
    · exact rtwo17_mt _ i s _ j t hk hl w rfl rfl rfl rfl rfl rfl hfa hfb (by rw [hr0]; unfold Val.both; rw [if_pos (by simp)]; rfl)
  · exact rtwo17_t _ i s l j t hk hl w rfl rfl rfl hfa hfb (by rw [hr0]; unfold Val.both; rw [if_pos (by simp)]; rfl)
theorem rtwo_at18 (k : Nat) (i : Int) (s : ByteArray) (l : Nat) (j : Int) (t : ByteArray) (hk : k < 256) (hl : l < 256) (w : World) (i0 : -9223372036854775808 ≤ i) (i1 : i ≤ 9223372036854775807) (j0 : -9223372036854775808 ≤ j) (j1 : j ≤ 9223372036854775807) (hfa : Val.fine ⟨k, i, s⟩ = true) (hfb : Val.fine ⟨l, j, t⟩ = true) : Calls Tryd.prog 9 #[.int .u8 18, .agg #[.int .u8 (k : Int), .int .i64 i, .string s], .agg #[.int .u8 (l : Int), .int .i64 j, .string t]] w (Gives (Val.two 18 ⟨k, i, s⟩ ⟨l, j, t⟩) w) := by
  have hka : k = 0 ∨ k = 1 ∨ k = 2 := by rcases Val.fine_cases hfa with h | ⟨n, h⟩ | ⟨n, h, _⟩ <;> (have := (Val.mk.inj h).1; omega)
  have hlb : l = 0 ∨ l = 1 ∨ l = 2 := by rcases Val.fine_cases hfb with h | ⟨n, h⟩ | ⟨n, h, _⟩ <;> (have := (Val.mk.inj h).1; omega)
  have hr0 : Val.two 18 ⟨k, i, s⟩ ⟨l, j, t⟩ = Val.both true ⟨k, i, s⟩ ⟨l, j, t⟩ := Val.two_both (by omega) hfa hfb
  rcases hka with rfl | rfl | rfl
  · rcases hlb with rfl | rfl | rfl
    · exact rtwo18_nn _ i s _ j t hk hl w rfl rfl rfl  rfl rfl rfl  hfa hfb (by rw [hr0]; unfold Val.both; simp [Val.decides, Val.yes, Val.num, Val.nil, bitI, noS])
    · by_cases hy : j = 0
      · exact rtwo18_nz _ i s _ j t hk hl w rfl rfl rfl  rfl rfl rfl (by simpa using hy) (by simpa using hy) hfa hfb (by rw [hr0]; unfold Val.both; simp [Val.decides, Val.yes, Val.num, Val.nil, bitI, noS, hy])
      · exact rtwo18_no _ i s _ j t hk hl w rfl rfl rfl  rfl rfl rfl (by simpa using hy) (by simpa using hy) hfa hfb (by rw [hr0]; unfold Val.both; simp [Val.decides, Val.yes, Val.num, Val.nil, bitI, noS, hy])
    · exact rtwo18_nt _ i s _ j t hk hl w rfl rfl rfl rfl rfl rfl hfa hfb (by rw [hr0]; unfold Val.both; rw [if_pos (by simp)]; rfl)
  · rcases hlb with rfl | rfl | rfl
    · by_cases hz : i = 0
      · exact rtwo18_zn _ i s _ j t hk hl w rfl rfl rfl (by simpa using hz) (by simpa using hz) rfl rfl rfl  hfa hfb (by rw [hr0]; unfold Val.both; simp [Val.decides, Val.yes, Val.num, Val.nil, bitI, noS, hz])
      · exact rtwo18_on _ i s _ j t hk hl w rfl rfl rfl (by simpa using hz) (by simpa using hz) rfl rfl rfl  hfa hfb (by rw [hr0]; unfold Val.both; simp [Val.decides, Val.yes, Val.num, Val.nil, bitI, noS, hz])
    · by_cases hz : i = 0
      · by_cases hy : j = 0
        · exact rtwo18_zz _ i s _ j t hk hl w rfl rfl rfl (by simpa using hz) (by simpa using hz) rfl rfl rfl (by simpa using hy) (by simpa using hy) hfa hfb (by rw [hr0]; unfold Val.both; simp [Val.decides, Val.yes, Val.num, Val.nil, bitI, noS, hz, hy])
        · exact rtwo18_zo _ i s _ j t hk hl w rfl rfl rfl (by simpa using hz) (by simpa using hz) rfl rfl rfl (by simpa using hy) (by simpa using hy) hfa hfb (by rw [hr0]; unfold Val.both; simp [Val.decides, Val.yes, Val.num, Val.nil, bitI, noS, hz, hy])
      · by_cases hy : j = 0
        · exact rtwo18_oz _ i s _ j t hk hl w rfl rfl rfl (by simpa using hz) (by simpa using hz) rfl rfl rfl (by simpa using hy) (by simpa using hy) hfa hfb (by rw [hr0]; unfold Val.both; simp [Val.decides, Val.yes, Val.num, Val.nil, bitI, noS, hz, hy])
        · exact rtwo18_oo _ i s _ j t hk hl w rfl rfl rfl (by simpa using hz) (by simpa using hz) rfl rfl rfl (by simpa using hy) (by simpa using hy) hfa hfb (by rw [hr0]; unfold Val.both; simp [Val.decides, Val.yes, Val.num, Val.nil, bitI, noS, hz, hy])
    · exact rtwo18_mt _ i s _ j t hk hl w rfl rfl rfl rfl rfl rfl hfa hfb (by rw [hr0]; unfold Val.both; rw [if_pos (by simp)]; rfl)
  · exact rtwo18_t _ i s l j t hk hl w rfl rfl rfl hfa hfb (by rw [hr0]; unfold Val.both; rw [if_pos (by simp)]; rfl)
theorem rtwo_at10 (k : Nat) (i : Int) (s : ByteArray) (l : Nat) (j : Int) (t : ByteArray) (hk : k < 256) (hl : l < 256) (w : World) (i0 : -9223372036854775808 ≤ i) (i1 : i ≤ 9223372036854775807) (j0 : -9223372036854775808 ≤ j) (j1 : j ≤ 9223372036854775807) (hfa : Val.fine ⟨k, i, s⟩ = true) (hfb : Val.fine ⟨l, j, t⟩ = true) (hn : ¬ (k = 0 ∨ l = 0)) : Calls Tryd.prog 9 #[.int .u8 10, .agg #[.int .u8 (k : Int), .int .i64 i, .string s], .agg #[.int .u8 (l : Int), .int .i64 j, .string t]] w (Gives (Val.two 10 ⟨k, i, s⟩ ⟨l, j, t⟩) w) := by
  have hka : k = 0 ∨ k = 1 ∨ k = 2 := by rcases Val.fine_cases hfa with h | ⟨n, h⟩ | ⟨n, h, _⟩ <;> (have := (Val.mk.inj h).1; omega)
  have hlb : l = 0 ∨ l = 1 ∨ l = 2 := by rcases Val.fine_cases hfb with h | ⟨n, h⟩ | ⟨n, h, _⟩ <;> (have := (Val.mk.inj h).1; omega)
  have hr0 : Val.two 10 ⟨k, i, s⟩ ⟨l, j, t⟩ = if (Val.plain ⟨k, i, s⟩ ++ Val.plain ⟨l, j, t⟩).size ≤ 512 then (Val.txt (Val.plain ⟨k, i, s⟩ ++ Val.plain ⟨l, j, t⟩), 0) else (Val.nil, 3) := Val.two_join hfa hfb hn
  have hs := Val.fine_size hfa
  have ht := Val.fine_size hfb
  have hp1 : (Val.plain ⟨k, i, s⟩).size ≤ 512 := by
    unfold Val.plain
    split
    · have := itoa_length_le i i0 i1
      show (itoa i).toArray.size ≤ 512
      simp; omega
    · exact hs
  have hp2 : (Val.plain ⟨l, j, t⟩).size ≤ 512 := by
    unfold Val.plain
    split
    · have := itoa_length_le j j0 j1
      show (itoa j).toArray.size ≤ 512
      simp; omega
    · exact ht
  have hz := ByteArray.size_append (a := Val.plain ⟨k, i, s⟩) (b := Val.plain ⟨l, j, t⟩)
  by_cases hle : (Val.plain ⟨k, i, s⟩ ++ Val.plain ⟨l, j, t⟩).size ≤ 512
  · rw [if_pos hle] at hr0
    have hd : decide ((512 : Int) < ((Val.plain ⟨k, i, s⟩).size : Int) + ((Val.plain ⟨l, j, t⟩).size : Int)) = false := by rw [decide_eq_false_iff_not]; omega
    rcases hka with rfl | rfl | rfl
    · exact absurd (Or.inl rfl) hn
    · rcases hlb with rfl | rfl | rfl
      · exact absurd (Or.inr rfl) hn
      · exact rtwo10_nn _ i s _ j t hk hl w rfl rfl rfl rfl rfl rfl _ _ i0 i1 j0 j1 rfl rfl (by omega) hd hfa hfb hr0
      · exact rtwo10_nt _ i s _ j t hk hl w rfl rfl rfl rfl rfl rfl _ _ i0 i1 j0 j1 rfl rfl (by omega) hd hfa hfb hr0
    · exact rtwo10_t _ i s l j t hk hl w rfl rfl rfl (by rw [beq_eq_false_iff_ne]; omega) _ _ i0 i1 j0 j1 rfl rfl (by omega) hd hfa hfb hr0
  · rw [if_neg hle] at hr0
    have hd : decide ((512 : Int) < ((Val.plain ⟨k, i, s⟩).size : Int) + ((Val.plain ⟨l, j, t⟩).size : Int)) = true := by rw [decide_eq_true_iff]; omega
    rcases hka with rfl | rfl | rfl
    · exact absurd (Or.inl rfl) hn
    · rcases hlb with rfl | rfl | rfl
      · exact absurd (Or.inr rfl) hn
      · exact rtwo10_nn_l _ i s _ j t hk hl w rfl rfl rfl rfl rfl rfl _ _ i0 i1 j0 j1 rfl rfl (by omega) hd hfa hfb hr0
      · exact rtwo10_nt_l _ i s _ j t hk hl w rfl rfl rfl rfl rfl rfl _ _ i0 i1 j0 j1 rfl rfl (by omega) hd hfa hfb hr0
    · exact rtwo10_t_l _ i s l j t hk hl w rfl rfl rfl (by rw [beq_eq_false_iff_ne]; omega) _ _ i0 i1 j0 j1 rfl rfl (by omega) hd hfa hfb hr0
theorem rtwo_at11 (k : Nat) (i : Int) (s : ByteArray) (l : Nat) (j : Int) (t : ByteArray) (hk : k < 256) (hl : l < 256) (w : World) (i0 : -9223372036854775808 ≤ i) (i1 : i ≤ 9223372036854775807) (j0 : -9223372036854775808 ≤ j) (j1 : j ≤ 9223372036854775807) (hfa : Val.fine ⟨k, i, s⟩ = true) (hfb : Val.fine ⟨l, j, t⟩ = true) (hn : ¬ (k = 0 ∨ l = 0)) : Calls Tryd.prog 9 #[.int .u8 11, .agg #[.int .u8 (k : Int), .int .i64 i, .string s], .agg #[.int .u8 (l : Int), .int .i64 j, .string t]] w (Gives (Val.two 11 ⟨k, i, s⟩ ⟨l, j, t⟩) w) := by
  have hka : k = 0 ∨ k = 1 ∨ k = 2 := by rcases Val.fine_cases hfa with h | ⟨n, h⟩ | ⟨n, h, _⟩ <;> (have := (Val.mk.inj h).1; omega)
  have hlb : l = 0 ∨ l = 1 ∨ l = 2 := by rcases Val.fine_cases hfb with h | ⟨n, h⟩ | ⟨n, h, _⟩ <;> (have := (Val.mk.inj h).1; omega)
  have hr0 : Val.two 11 ⟨k, i, s⟩ ⟨l, j, t⟩ = (Val.yes (Val.serves 11 (Val.cmp ⟨k, i, s⟩ ⟨l, j, t⟩)), 0) := Val.two_order (by omega) (by omega) hfa hfb hn
  have hb0 : (Val.cmp ⟨k, i, s⟩ ⟨l, j, t⟩ == 0) = Val.serves 11 (Val.cmp ⟨k, i, s⟩ ⟨l, j, t⟩) := by rw [Bool.eq_iff_iff]; simp [Val.serves]
  rcases hka with rfl | rfl | rfl
  · exact absurd (Or.inl rfl) hn
  · rcases hlb with rfl | rfl | rfl
    · exact absurd (Or.inr rfl) hn
    · exact rtwo11_nn _ i s _ j t hk hl w rfl rfl rfl rfl rfl rfl _ rfl _ hb0 hfa hfb hr0
    · exact rtwo11_nt _ i s _ j t hk hl w rfl rfl rfl rfl rfl rfl _ rfl _ hb0 hfa hfb hr0
  · exact rtwo11_t _ i s l j t hk hl w rfl rfl rfl (by rw [beq_eq_false_iff_ne]; omega) _ rfl _ hb0 hfa hfb hr0
theorem rtwo_at12 (k : Nat) (i : Int) (s : ByteArray) (l : Nat) (j : Int) (t : ByteArray) (hk : k < 256) (hl : l < 256) (w : World) (i0 : -9223372036854775808 ≤ i) (i1 : i ≤ 9223372036854775807) (j0 : -9223372036854775808 ≤ j) (j1 : j ≤ 9223372036854775807) (hfa : Val.fine ⟨k, i, s⟩ = true) (hfb : Val.fine ⟨l, j, t⟩ = true) (hn : ¬ (k = 0 ∨ l = 0)) : Calls Tryd.prog 9 #[.int .u8 12, .agg #[.int .u8 (k : Int), .int .i64 i, .string s], .agg #[.int .u8 (l : Int), .int .i64 j, .string t]] w (Gives (Val.two 12 ⟨k, i, s⟩ ⟨l, j, t⟩) w) := by
  have hka : k = 0 ∨ k = 1 ∨ k = 2 := by rcases Val.fine_cases hfa with h | ⟨n, h⟩ | ⟨n, h, _⟩ <;> (have := (Val.mk.inj h).1; omega)
  have hlb : l = 0 ∨ l = 1 ∨ l = 2 := by rcases Val.fine_cases hfb with h | ⟨n, h⟩ | ⟨n, h, _⟩ <;> (have := (Val.mk.inj h).1; omega)
  have hr0 : Val.two 12 ⟨k, i, s⟩ ⟨l, j, t⟩ = (Val.yes (Val.serves 12 (Val.cmp ⟨k, i, s⟩ ⟨l, j, t⟩)), 0) := Val.two_order (by omega) (by omega) hfa hfb hn
  have hb0 : (Val.cmp ⟨k, i, s⟩ ⟨l, j, t⟩ != 0) = Val.serves 12 (Val.cmp ⟨k, i, s⟩ ⟨l, j, t⟩) := by rw [Bool.eq_iff_iff]; simp [Val.serves]
  rcases hka with rfl | rfl | rfl
  · exact absurd (Or.inl rfl) hn
  · rcases hlb with rfl | rfl | rfl
    · exact absurd (Or.inr rfl) hn
    · exact rtwo12_nn _ i s _ j t hk hl w rfl rfl rfl rfl rfl rfl _ rfl _ hb0 hfa hfb hr0
    · exact rtwo12_nt _ i s _ j t hk hl w rfl rfl rfl rfl rfl rfl _ rfl _ hb0 hfa hfb hr0
  · exact rtwo12_t _ i s l j t hk hl w rfl rfl rfl (by rw [beq_eq_false_iff_ne]; omega) _ rfl _ hb0 hfa hfb hr0
theorem rtwo_at13 (k : Nat) (i : Int) (s : ByteArray) (l : Nat) (j : Int) (t : ByteArray) (hk : k < 256) (hl : l < 256) (w : World) (i0 : -9223372036854775808 ≤ i) (i1 : i ≤ 9223372036854775807) (j0 : -9223372036854775808 ≤ j) (j1 : j ≤ 9223372036854775807) (hfa : Val.fine ⟨k, i, s⟩ = true) (hfb : Val.fine ⟨l, j, t⟩ = true) (hn : ¬ (k = 0 ∨ l = 0)) : Calls Tryd.prog 9 #[.int .u8 13, .agg #[.int .u8 (k : Int), .int .i64 i, .string s], .agg #[.int .u8 (l : Int), .int .i64 j, .string t]] w (Gives (Val.two 13 ⟨k, i, s⟩ ⟨l, j, t⟩) w) := by
  have hka : k = 0 ∨ k = 1 ∨ k = 2 := by rcases Val.fine_cases hfa with h | ⟨n, h⟩ | ⟨n, h, _⟩ <;> (have := (Val.mk.inj h).1; omega)
  have hlb : l = 0 ∨ l = 1 ∨ l = 2 := by rcases Val.fine_cases hfb with h | ⟨n, h⟩ | ⟨n, h, _⟩ <;> (have := (Val.mk.inj h).1; omega)
  have hr0 : Val.two 13 ⟨k, i, s⟩ ⟨l, j, t⟩ = (Val.yes (Val.serves 13 (Val.cmp ⟨k, i, s⟩ ⟨l, j, t⟩)), 0) := Val.two_order (by omega) (by omega) hfa hfb hn
  have hb0 : decide (Val.cmp ⟨k, i, s⟩ ⟨l, j, t⟩ < 0) = Val.serves 13 (Val.cmp ⟨k, i, s⟩ ⟨l, j, t⟩) := rfl
  rcases hka with rfl | rfl | rfl
  · exact absurd (Or.inl rfl) hn
  · rcases hlb with rfl | rfl | rfl
    · exact absurd (Or.inr rfl) hn
    · exact rtwo13_nn _ i s _ j t hk hl w rfl rfl rfl rfl rfl rfl _ rfl _ hb0 hfa hfb hr0
    · exact rtwo13_nt _ i s _ j t hk hl w rfl rfl rfl rfl rfl rfl _ rfl _ hb0 hfa hfb hr0
  · exact rtwo13_t _ i s l j t hk hl w rfl rfl rfl (by rw [beq_eq_false_iff_ne]; omega) _ rfl _ hb0 hfa hfb hr0
theorem rtwo_at14 (k : Nat) (i : Int) (s : ByteArray) (l : Nat) (j : Int) (t : ByteArray) (hk : k < 256) (hl : l < 256) (w : World) (i0 : -9223372036854775808 ≤ i) (i1 : i ≤ 9223372036854775807) (j0 : -9223372036854775808 ≤ j) (j1 : j ≤ 9223372036854775807) (hfa : Val.fine ⟨k, i, s⟩ = true) (hfb : Val.fine ⟨l, j, t⟩ = true) (hn : ¬ (k = 0 ∨ l = 0)) : Calls Tryd.prog 9 #[.int .u8 14, .agg #[.int .u8 (k : Int), .int .i64 i, .string s], .agg #[.int .u8 (l : Int), .int .i64 j, .string t]] w (Gives (Val.two 14 ⟨k, i, s⟩ ⟨l, j, t⟩) w) := by
  have hka : k = 0 ∨ k = 1 ∨ k = 2 := by rcases Val.fine_cases hfa with h | ⟨n, h⟩ | ⟨n, h, _⟩ <;> (have := (Val.mk.inj h).1; omega)
  have hlb : l = 0 ∨ l = 1 ∨ l = 2 := by rcases Val.fine_cases hfb with h | ⟨n, h⟩ | ⟨n, h, _⟩ <;> (have := (Val.mk.inj h).1; omega)
  have hr0 : Val.two 14 ⟨k, i, s⟩ ⟨l, j, t⟩ = (Val.yes (Val.serves 14 (Val.cmp ⟨k, i, s⟩ ⟨l, j, t⟩)), 0) := Val.two_order (by omega) (by omega) hfa hfb hn
  have hb0 : decide (Val.cmp ⟨k, i, s⟩ ⟨l, j, t⟩ ≤ 0) = Val.serves 14 (Val.cmp ⟨k, i, s⟩ ⟨l, j, t⟩) := rfl
  rcases hka with rfl | rfl | rfl
  · exact absurd (Or.inl rfl) hn
  · rcases hlb with rfl | rfl | rfl
    · exact absurd (Or.inr rfl) hn
    · exact rtwo14_nn _ i s _ j t hk hl w rfl rfl rfl rfl rfl rfl _ rfl _ hb0 hfa hfb hr0
    · exact rtwo14_nt _ i s _ j t hk hl w rfl rfl rfl rfl rfl rfl _ rfl _ hb0 hfa hfb hr0
  · exact rtwo14_t _ i s l j t hk hl w rfl rfl rfl (by rw [beq_eq_false_iff_ne]; omega) _ rfl _ hb0 hfa hfb hr0
theorem rtwo_at15 (k : Nat) (i : Int) (s : ByteArray) (l : Nat) (j : Int) (t : ByteArray) (hk : k < 256) (hl : l < 256) (w : World) (i0 : -9223372036854775808 ≤ i) (i1 : i ≤ 9223372036854775807) (j0 : -9223372036854775808 ≤ j) (j1 : j ≤ 9223372036854775807) (hfa : Val.fine ⟨k, i, s⟩ = true) (hfb : Val.fine ⟨l, j, t⟩ = true) (hn : ¬ (k = 0 ∨ l = 0)) : Calls Tryd.prog 9 #[.int .u8 15, .agg #[.int .u8 (k : Int), .int .i64 i, .string s], .agg #[.int .u8 (l : Int), .int .i64 j, .string t]] w (Gives (Val.two 15 ⟨k, i, s⟩ ⟨l, j, t⟩) w) := by
  have hka : k = 0 ∨ k = 1 ∨ k = 2 := by rcases Val.fine_cases hfa with h | ⟨n, h⟩ | ⟨n, h, _⟩ <;> (have := (Val.mk.inj h).1; omega)
  have hlb : l = 0 ∨ l = 1 ∨ l = 2 := by rcases Val.fine_cases hfb with h | ⟨n, h⟩ | ⟨n, h, _⟩ <;> (have := (Val.mk.inj h).1; omega)
  have hr0 : Val.two 15 ⟨k, i, s⟩ ⟨l, j, t⟩ = (Val.yes (Val.serves 15 (Val.cmp ⟨k, i, s⟩ ⟨l, j, t⟩)), 0) := Val.two_order (by omega) (by omega) hfa hfb hn
  have hb0 : decide (0 < Val.cmp ⟨k, i, s⟩ ⟨l, j, t⟩) = Val.serves 15 (Val.cmp ⟨k, i, s⟩ ⟨l, j, t⟩) := rfl
  rcases hka with rfl | rfl | rfl
  · exact absurd (Or.inl rfl) hn
  · rcases hlb with rfl | rfl | rfl
    · exact absurd (Or.inr rfl) hn
    · exact rtwo15_nn _ i s _ j t hk hl w rfl rfl rfl rfl rfl rfl _ rfl _ hb0 hfa hfb hr0
    · exact rtwo15_nt _ i s _ j t hk hl w rfl rfl rfl rfl rfl rfl _ rfl _ hb0 hfa hfb hr0
  · exact rtwo15_t _ i s l j t hk hl w rfl rfl rfl (by rw [beq_eq_false_iff_ne]; omega) _ rfl _ hb0 hfa hfb hr0
theorem rtwo_at16 (k : Nat) (i : Int) (s : ByteArray) (l : Nat) (j : Int) (t : ByteArray) (hk : k < 256) (hl : l < 256) (w : World) (i0 : -9223372036854775808 ≤ i) (i1 : i ≤ 9223372036854775807) (j0 : -9223372036854775808 ≤ j) (j1 : j ≤ 9223372036854775807) (hfa : Val.fine ⟨k, i, s⟩ = true) (hfb : Val.fine ⟨l, j, t⟩ = true) (hn : ¬ (k = 0 ∨ l = 0)) : Calls Tryd.prog 9 #[.int .u8 16, .agg #[.int .u8 (k : Int), .int .i64 i, .string s], .agg #[.int .u8 (l : Int), .int .i64 j, .string t]] w (Gives (Val.two 16 ⟨k, i, s⟩ ⟨l, j, t⟩) w) := by
  have hka : k = 0 ∨ k = 1 ∨ k = 2 := by rcases Val.fine_cases hfa with h | ⟨n, h⟩ | ⟨n, h, _⟩ <;> (have := (Val.mk.inj h).1; omega)
  have hlb : l = 0 ∨ l = 1 ∨ l = 2 := by rcases Val.fine_cases hfb with h | ⟨n, h⟩ | ⟨n, h, _⟩ <;> (have := (Val.mk.inj h).1; omega)
  have hr0 : Val.two 16 ⟨k, i, s⟩ ⟨l, j, t⟩ = (Val.yes (Val.serves 16 (Val.cmp ⟨k, i, s⟩ ⟨l, j, t⟩)), 0) := Val.two_order (by omega) (by omega) hfa hfb hn
  have hb0 : decide (0 ≤ Val.cmp ⟨k, i, s⟩ ⟨l, j, t⟩) = Val.serves 16 (Val.cmp ⟨k, i, s⟩ ⟨l, j, t⟩) := rfl
  rcases hka with rfl | rfl | rfl
  · exact absurd (Or.inl rfl) hn
  · rcases hlb with rfl | rfl | rfl
    · exact absurd (Or.inr rfl) hn
    · exact rtwo16_nn _ i s _ j t hk hl w rfl rfl rfl rfl rfl rfl _ rfl _ hb0 hfa hfb hr0
    · exact rtwo16_nt _ i s _ j t hk hl w rfl rfl rfl rfl rfl rfl _ rfl _ hb0 hfa hfb hr0
  · exact rtwo16_t _ i s l j t hk hl w rfl rfl rfl (by rw [beq_eq_false_iff_ne]; omega) _ rfl _ hb0 hfa hfb hr0
theorem rtwo_at5 (k : Nat) (i : Int) (s : ByteArray) (l : Nat) (j : Int) (t : ByteArray) (hk : k < 256) (hl : l < 256) (w : World) (i0 : -9223372036854775808 ≤ i) (i1 : i ≤ 9223372036854775807) (j0 : -9223372036854775808 ≤ j) (j1 : j ≤ 9223372036854775807) (hfa : Val.fine ⟨k, i, s⟩ = true) (hfb : Val.fine ⟨l, j, t⟩ = true) (hn : ¬ (k = 0 ∨ l = 0)) : Calls Tryd.prog 9 #[.int .u8 5, .agg #[.int .u8 (k : Int), .int .i64 i, .string s], .agg #[.int .u8 (l : Int), .int .i64 j, .string t]] w (Gives (Val.two 5 ⟨k, i, s⟩ ⟨l, j, t⟩) w) := by
  have hka : k = 0 ∨ k = 1 ∨ k = 2 := by rcases Val.fine_cases hfa with h | ⟨n, h⟩ | ⟨n, h, _⟩ <;> (have := (Val.mk.inj h).1; omega)
  have hlb : l = 0 ∨ l = 1 ∨ l = 2 := by rcases Val.fine_cases hfb with h | ⟨n, h⟩ | ⟨n, h, _⟩ <;> (have := (Val.mk.inj h).1; omega)
  by_cases ht : k = 2 ∨ l = 2
  · have hr0 : Val.two 5 ⟨k, i, s⟩ ⟨l, j, t⟩ = (Val.nil, 11) := Val.two_text (by omega) (by omega) hfa hfb hn ht
    rcases hka with rfl | rfl | rfl
    · exact absurd (Or.inl rfl) hn
    · obtain rfl : l = 2 := by omega
      exact rtwo5_nt _ i s _ j t hk hl w rfl rfl rfl rfl rfl rfl hfa hfb hr0
    · exact rtwo5_t _ i s l j t hk hl w rfl rfl rfl (by rw [beq_eq_false_iff_ne]; omega) hfa hfb hr0
  · have hr0 : Val.two 5 ⟨k, i, s⟩ ⟨l, j, t⟩ = if (Val.reckon 5 i j).2 = 0 then (Val.num (Val.reckon 5 i j).1, 0) else (Val.nil, (Val.reckon 5 i j).2) := Val.two_num (by omega) (by omega) hfa hfb hn ht
    obtain rfl : k = 1 := by omega
    obtain rfl : l = 1 := by omega
    obtain ⟨n, f, hnf⟩ : ∃ n f, Val.reckon 5 i j = (n, f) := ⟨_, _, rfl⟩
    rw [hnf] at hr0
    by_cases hz : f = 0
    · subst hz
      exact rtwo5_ok _ i s _ j t hk hl w rfl rfl rfl rfl rfl rfl n 0 i0 i1 j0 j1 hnf rfl hfa hfb hr0
    · rw [if_neg hz] at hr0
      exact rtwo5_no _ i s _ j t hk hl w rfl rfl rfl rfl rfl rfl n f i0 i1 j0 j1 hnf (by simpa using hz) hfa hfb hr0
theorem rtwo_at6 (k : Nat) (i : Int) (s : ByteArray) (l : Nat) (j : Int) (t : ByteArray) (hk : k < 256) (hl : l < 256) (w : World) (i0 : -9223372036854775808 ≤ i) (i1 : i ≤ 9223372036854775807) (j0 : -9223372036854775808 ≤ j) (j1 : j ≤ 9223372036854775807) (hfa : Val.fine ⟨k, i, s⟩ = true) (hfb : Val.fine ⟨l, j, t⟩ = true) (hn : ¬ (k = 0 ∨ l = 0)) : Calls Tryd.prog 9 #[.int .u8 6, .agg #[.int .u8 (k : Int), .int .i64 i, .string s], .agg #[.int .u8 (l : Int), .int .i64 j, .string t]] w (Gives (Val.two 6 ⟨k, i, s⟩ ⟨l, j, t⟩) w) := by
  have hka : k = 0 ∨ k = 1 ∨ k = 2 := by rcases Val.fine_cases hfa with h | ⟨n, h⟩ | ⟨n, h, _⟩ <;> (have := (Val.mk.inj h).1; omega)
  have hlb : l = 0 ∨ l = 1 ∨ l = 2 := by rcases Val.fine_cases hfb with h | ⟨n, h⟩ | ⟨n, h, _⟩ <;> (have := (Val.mk.inj h).1; omega)
  by_cases ht : k = 2 ∨ l = 2
  · have hr0 : Val.two 6 ⟨k, i, s⟩ ⟨l, j, t⟩ = (Val.nil, 11) := Val.two_text (by omega) (by omega) hfa hfb hn ht
    rcases hka with rfl | rfl | rfl
    · exact absurd (Or.inl rfl) hn
    · obtain rfl : l = 2 := by omega
      exact rtwo6_nt _ i s _ j t hk hl w rfl rfl rfl rfl rfl rfl hfa hfb hr0
    · exact rtwo6_t _ i s l j t hk hl w rfl rfl rfl (by rw [beq_eq_false_iff_ne]; omega) hfa hfb hr0
  · have hr0 : Val.two 6 ⟨k, i, s⟩ ⟨l, j, t⟩ = if (Val.reckon 6 i j).2 = 0 then (Val.num (Val.reckon 6 i j).1, 0) else (Val.nil, (Val.reckon 6 i j).2) := Val.two_num (by omega) (by omega) hfa hfb hn ht
    obtain rfl : k = 1 := by omega
    obtain rfl : l = 1 := by omega
    obtain ⟨n, f, hnf⟩ : ∃ n f, Val.reckon 6 i j = (n, f) := ⟨_, _, rfl⟩
    rw [hnf] at hr0
    by_cases hz : f = 0
    · subst hz
      exact rtwo6_ok _ i s _ j t hk hl w rfl rfl rfl rfl rfl rfl n 0 i0 i1 j0 j1 hnf rfl hfa hfb hr0
    · rw [if_neg hz] at hr0
      exact rtwo6_no _ i s _ j t hk hl w rfl rfl rfl rfl rfl rfl n f i0 i1 j0 j1 hnf (by simpa using hz) hfa hfb hr0
theorem rtwo_at7 (k : Nat) (i : Int) (s : ByteArray) (l : Nat) (j : Int) (t : ByteArray) (hk : k < 256) (hl : l < 256) (w : World) (i0 : -9223372036854775808 ≤ i) (i1 : i ≤ 9223372036854775807) (j0 : -9223372036854775808 ≤ j) (j1 : j ≤ 9223372036854775807) (hfa : Val.fine ⟨k, i, s⟩ = true) (hfb : Val.fine ⟨l, j, t⟩ = true) (hn : ¬ (k = 0 ∨ l = 0)) : Calls Tryd.prog 9 #[.int .u8 7, .agg #[.int .u8 (k : Int), .int .i64 i, .string s], .agg #[.int .u8 (l : Int), .int .i64 j, .string t]] w (Gives (Val.two 7 ⟨k, i, s⟩ ⟨l, j, t⟩) w) := by
  have hka : k = 0 ∨ k = 1 ∨ k = 2 := by rcases Val.fine_cases hfa with h | ⟨n, h⟩ | ⟨n, h, _⟩ <;> (have := (Val.mk.inj h).1; omega)
  have hlb : l = 0 ∨ l = 1 ∨ l = 2 := by rcases Val.fine_cases hfb with h | ⟨n, h⟩ | ⟨n, h, _⟩ <;> (have := (Val.mk.inj h).1; omega)
  by_cases ht : k = 2 ∨ l = 2
  · have hr0 : Val.two 7 ⟨k, i, s⟩ ⟨l, j, t⟩ = (Val.nil, 11) := Val.two_text (by omega) (by omega) hfa hfb hn ht
    rcases hka with rfl | rfl | rfl
    · exact absurd (Or.inl rfl) hn
    · obtain rfl : l = 2 := by omega
      exact rtwo7_nt _ i s _ j t hk hl w rfl rfl rfl rfl rfl rfl hfa hfb hr0
    · exact rtwo7_t _ i s l j t hk hl w rfl rfl rfl (by rw [beq_eq_false_iff_ne]; omega) hfa hfb hr0
  · have hr0 : Val.two 7 ⟨k, i, s⟩ ⟨l, j, t⟩ = if (Val.reckon 7 i j).2 = 0 then (Val.num (Val.reckon 7 i j).1, 0) else (Val.nil, (Val.reckon 7 i j).2) := Val.two_num (by omega) (by omega) hfa hfb hn ht
    obtain rfl : k = 1 := by omega
    obtain rfl : l = 1 := by omega
    obtain ⟨n, f, hnf⟩ : ∃ n f, Val.reckon 7 i j = (n, f) := ⟨_, _, rfl⟩
    rw [hnf] at hr0
    by_cases hz : f = 0
    · subst hz
      exact rtwo7_ok _ i s _ j t hk hl w rfl rfl rfl rfl rfl rfl n 0 i0 i1 j0 j1 hnf rfl hfa hfb hr0
    · rw [if_neg hz] at hr0
      exact rtwo7_no _ i s _ j t hk hl w rfl rfl rfl rfl rfl rfl n f i0 i1 j0 j1 hnf (by simpa using hz) hfa hfb hr0
theorem rtwo_at8 (k : Nat) (i : Int) (s : ByteArray) (l : Nat) (j : Int) (t : ByteArray) (hk : k < 256) (hl : l < 256) (w : World) (i0 : -9223372036854775808 ≤ i) (i1 : i ≤ 9223372036854775807) (j0 : -9223372036854775808 ≤ j) (j1 : j ≤ 9223372036854775807) (hfa : Val.fine ⟨k, i, s⟩ = true) (hfb : Val.fine ⟨l, j, t⟩ = true) (hn : ¬ (k = 0 ∨ l = 0)) : Calls Tryd.prog 9 #[.int .u8 8, .agg #[.int .u8 (k : Int), .int .i64 i, .string s], .agg #[.int .u8 (l : Int), .int .i64 j, .string t]] w (Gives (Val.two 8 ⟨k, i, s⟩ ⟨l, j, t⟩) w) := by
  have hka : k = 0 ∨ k = 1 ∨ k = 2 := by rcases Val.fine_cases hfa with h | ⟨n, h⟩ | ⟨n, h, _⟩ <;> (have := (Val.mk.inj h).1; omega)
  have hlb : l = 0 ∨ l = 1 ∨ l = 2 := by rcases Val.fine_cases hfb with h | ⟨n, h⟩ | ⟨n, h, _⟩ <;> (have := (Val.mk.inj h).1; omega)
  by_cases ht : k = 2 ∨ l = 2
  · have hr0 : Val.two 8 ⟨k, i, s⟩ ⟨l, j, t⟩ = (Val.nil, 11) := Val.two_text (by omega) (by omega) hfa hfb hn ht
    rcases hka with rfl | rfl | rfl
    · exact absurd (Or.inl rfl) hn
    · obtain rfl : l = 2 := by omega
      exact rtwo8_nt _ i s _ j t hk hl w rfl rfl rfl rfl rfl rfl hfa hfb hr0
    · exact rtwo8_t _ i s l j t hk hl w rfl rfl rfl (by rw [beq_eq_false_iff_ne]; omega) hfa hfb hr0
  · have hr0 : Val.two 8 ⟨k, i, s⟩ ⟨l, j, t⟩ = if (Val.reckon 8 i j).2 = 0 then (Val.num (Val.reckon 8 i j).1, 0) else (Val.nil, (Val.reckon 8 i j).2) := Val.two_num (by omega) (by omega) hfa hfb hn ht
    obtain rfl : k = 1 := by omega
    obtain rfl : l = 1 := by omega
    obtain ⟨n, f, hnf⟩ : ∃ n f, Val.reckon 8 i j = (n, f) := ⟨_, _, rfl⟩
    rw [hnf] at hr0
    by_cases hz : f = 0
    · subst hz
      exact rtwo8_ok _ i s _ j t hk hl w rfl rfl rfl rfl rfl rfl n 0 i0 i1 j0 j1 hnf rfl hfa hfb hr0
    · rw [if_neg hz] at hr0
      exact rtwo8_no _ i s _ j t hk hl w rfl rfl rfl rfl rfl rfl n f i0 i1 j0 j1 hnf (by simpa using hz) hfa hfb hr0
theorem rtwo_at9 (k : Nat) (i : Int) (s : ByteArray) (l : Nat) (j : Int) (t : ByteArray) (hk : k < 256) (hl : l < 256) (w : World) (i0 : -9223372036854775808 ≤ i) (i1 : i ≤ 9223372036854775807) (j0 : -9223372036854775808 ≤ j) (j1 : j ≤ 9223372036854775807) (hfa : Val.fine ⟨k, i, s⟩ = true) (hfb : Val.fine ⟨l, j, t⟩ = true) (hn : ¬ (k = 0 ∨ l = 0)) : Calls Tryd.prog 9 #[.int .u8 9, .agg #[.int .u8 (k : Int), .int .i64 i, .string s], .agg #[.int .u8 (l : Int), .int .i64 j, .string t]] w (Gives (Val.two 9 ⟨k, i, s⟩ ⟨l, j, t⟩) w) := by
  have hka : k = 0 ∨ k = 1 ∨ k = 2 := by rcases Val.fine_cases hfa with h | ⟨n, h⟩ | ⟨n, h, _⟩ <;> (have := (Val.mk.inj h).1; omega)
  have hlb : l = 0 ∨ l = 1 ∨ l = 2 := by rcases Val.fine_cases hfb with h | ⟨n, h⟩ | ⟨n, h, _⟩ <;> (have := (Val.mk.inj h).1; omega)
  by_cases ht : k = 2 ∨ l = 2
  · have hr0 : Val.two 9 ⟨k, i, s⟩ ⟨l, j, t⟩ = (Val.nil, 11) := Val.two_text (by omega) (by omega) hfa hfb hn ht
    rcases hka with rfl | rfl | rfl
    · exact absurd (Or.inl rfl) hn
    · obtain rfl : l = 2 := by omega
      exact rtwo9_nt _ i s _ j t hk hl w rfl rfl rfl rfl rfl rfl hfa hfb hr0
    · exact rtwo9_t _ i s l j t hk hl w rfl rfl rfl (by rw [beq_eq_false_iff_ne]; omega) hfa hfb hr0
  · have hr0 : Val.two 9 ⟨k, i, s⟩ ⟨l, j, t⟩ = if (Val.reckon 9 i j).2 = 0 then (Val.num (Val.reckon 9 i j).1, 0) else (Val.nil, (Val.reckon 9 i j).2) := Val.two_num (by omega) (by omega) hfa hfb hn ht
    obtain rfl : k = 1 := by omega
    obtain rfl : l = 1 := by omega
    obtain ⟨n, f, hnf⟩ : ∃ n f, Val.reckon 9 i j = (n, f) := ⟨_, _, rfl⟩
    rw [hnf] at hr0
    by_cases hz : f = 0
    · subst hz
      exact rtwo9_ok _ i s _ j t hk hl w rfl rfl rfl rfl rfl rfl n 0 i0 i1 j0 j1 hnf rfl hfa hfb hr0
    · rw [if_neg hz] at hr0
      exact rtwo9_no _ i s _ j t hk hl w rfl rfl rfl rfl rfl rfl n f i0 i1 j0 j1 hnf (by simpa using hz) hfa hfb hr0
theorem rtwo_any (op k : Nat) (i : Int) (s : ByteArray) (l : Nat) (j : Int) (t : ByteArray) (w : World) (hk : k < 256) (hl : l < 256) (i0 : -9223372036854775808 ≤ i) (i1 : i ≤ 9223372036854775807) (j0 : -9223372036854775808 ≤ j) (j1 : j ≤ 9223372036854775807) :
    Calls Tryd.prog 9 #[.int .u8 (op : Int), .agg #[.int .u8 (k : Int), .int .i64 i, .string s], .agg #[.int .u8 (l : Int), .int .i64 j, .string t]] w (Gives (Val.two op ⟨k, i, s⟩ ⟨l, j, t⟩) w) := by
  by_cases h5 : op < 5
  · exact rtwo_small op k i s l j t hk hl w (by rw [decide_eq_true_iff]; omega) (nil_two (by omega))
  have o5 : decide ((op : Int) < 5) = false := by rw [decide_eq_false_iff_not]; omega
  by_cases h18 : 18 < op
  · exact rtwo_big op k i s l j t hk hl w o5 (by rw [decide_eq_true_iff]; omega) (nil_two (by omega))
  have o18 : decide ((18 : Int) < (op : Int)) = false := by rw [decide_eq_false_iff_not]; omega
  cases hfa : Val.fine ⟨k, i, s⟩ with
  | false => exact rtwo_nota op k i s l j t hk hl w o5 o18 hfa (nil_two (by rw [hfa]; simp))
  | true =>
    cases hfb : Val.fine ⟨l, j, t⟩ with
    | false => exact rtwo_notb op k i s l j t hk hl w o5 o18 hfa hfb (nil_two (by rw [hfb]; simp))
    | true =>
      by_cases h16 : op ≤ 16
      · by_cases hn : k = 0 ∨ l = 0
        · exact rtwo_nil op (by omega) h16 k i s l j t hk hl w i0 i1 j0 j1 hfa hfb hn
        · rcases (show op = 5 ∨ op = 6 ∨ op = 7 ∨ op = 8 ∨ op = 9 ∨ op = 10 ∨ op = 11 ∨ op = 12 ∨ op = 13 ∨ op = 14 ∨ op = 15 ∨ op = 16 by omega) with rfl | rfl | rfl | rfl | rfl | rfl | rfl | rfl | rfl | rfl | rfl | rfl
          · exact rtwo_at5 k i s l j t hk hl w i0 i1 j0 j1 hfa hfb hn
          · exact rtwo_at6 k i s l j t hk hl w i0 i1 j0 j1 hfa hfb hn
          · exact rtwo_at7 k i s l j t hk hl w i0 i1 j0 j1 hfa hfb hn
          · exact rtwo_at8 k i s l j t hk hl w i0 i1 j0 j1 hfa hfb hn
          · exact rtwo_at9 k i s l j t hk hl w i0 i1 j0 j1 hfa hfb hn
          · exact rtwo_at10 k i s l j t hk hl w i0 i1 j0 j1 hfa hfb hn
          · exact rtwo_at11 k i s l j t hk hl w i0 i1 j0 j1 hfa hfb hn
          · exact rtwo_at12 k i s l j t hk hl w i0 i1 j0 j1 hfa hfb hn
          · exact rtwo_at13 k i s l j t hk hl w i0 i1 j0 j1 hfa hfb hn
          · exact rtwo_at14 k i s l j t hk hl w i0 i1 j0 j1 hfa hfb hn
          · exact rtwo_at15 k i s l j t hk hl w i0 i1 j0 j1 hfa hfb hn
          · exact rtwo_at16 k i s l j t hk hl w i0 i1 j0 j1 hfa hfb hn
      · rcases (show op = 17 ∨ op = 18 by omega) with rfl | rfl
        · exact rtwo_at17 k i s l j t hk hl w i0 i1 j0 j1 hfa hfb
        · exact rtwo_at18 k i s l j t hk hl w i0 i1 j0 j1 hfa hfb
theorem rtwo_r (op k : Nat) (i : Int) (s : ByteArray) (l : Nat) (j : Int) (t : ByteArray) (r : Val × Nat) (hk : k < 256) (hl : l < 256) (i0 : -9223372036854775808 ≤ i) (i1 : i ≤ 9223372036854775807) (j0 : -9223372036854775808 ≤ j) (j1 : j ≤ 9223372036854775807)
    (h : Val.two op ⟨k, i, s⟩ ⟨l, j, t⟩ = r) (w : World) :
    Calls Tryd.prog 9 #[.int .u8 (op : Int), .agg #[.int .u8 (k : Int), .int .i64 i, .string s], .agg #[.int .u8 (l : Int), .int .i64 j, .string t]] w
      fun e w' => e = .returned (.tuple #[.agg #[.int .u8 (r.1.k : Int), .int .i64 r.1.i, .string r.1.s], .int .i64 (r.2 : Int)]) ∧ Below w.heap.size w w' := by
  subst h
  exact rtwo_any op k i s l j t w hk hl i0 i1 j0 j1
end
end Go.Proofs.YtjjfmmimmfihgaaDoor
