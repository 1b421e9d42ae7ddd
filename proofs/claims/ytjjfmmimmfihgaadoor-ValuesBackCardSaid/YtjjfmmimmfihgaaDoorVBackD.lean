/-
  WHAT IS PROVED: the walk of ValuesBack, case by case.
-/
import Derived.Test.YtjjfmmimmfihgaaDoorMerge
namespace Go.Proofs.YtjjfmmimmfihgaaDoor
open Go.RowKit Go.Lib
set_option linter.unusedVariables false

set_option maxRecDepth 100000 in
set_option maxHeartbeats 16000000 in
theorem back_sDpR (a : Int) (a0 : -9223372036854775808 ≤ a) (a1 : a ≤ 9223372036854775807) (b : Int) (b0 : -9223372036854775808 ≤ b) (b1 : b ≤ 9223372036854775807) (sg : Bool) (sa : decide (a < 0) = sg)
    (hs : Val.two 5 ⟨1, a, ⟨#[]⟩⟩ ⟨1, b, ⟨#[]⟩⟩ = (⟨0, 0, ⟨#[]⟩⟩, 12))
    (sb : decide (b < 0) = sg)
    (d : Int) (d0 : -9223372036854775808 ≤ d) (d1 : d ≤ 9223372036854775807)
    (hd : Val.two 6 ⟨1, a, ⟨#[]⟩⟩ ⟨1, b, ⟨#[]⟩⟩ = (⟨1, d, ⟨#[]⟩⟩, 0))
    (hd1 : Val.two 5 ⟨1, d, ⟨#[]⟩⟩ ⟨1, b, ⟨#[]⟩⟩ = (⟨1, a, ⟨#[]⟩⟩, 0))
    (hp : Val.two 7 ⟨1, a, ⟨#[]⟩⟩ ⟨1, b, ⟨#[]⟩⟩ = (⟨0, 0, ⟨#[]⟩⟩, 12))
    (bz : (b == 0) = false)
    (q : Int) (q0 : -9223372036854775808 ≤ q) (q1 : q ≤ 9223372036854775807)
    (hq : Val.two 8 ⟨1, a, ⟨#[]⟩⟩ ⟨1, b, ⟨#[]⟩⟩ = (⟨1, q, ⟨#[]⟩⟩, 0))
    (r : Int) (r0 : -9223372036854775808 ≤ r) (r1 : r ≤ 9223372036854775807)
    (hr : Val.two 9 ⟨1, a, ⟨#[]⟩⟩ ⟨1, b, ⟨#[]⟩⟩ = (⟨1, r, ⟨#[]⟩⟩, 0))
    (rz : (r != 0) = false)
    (n : Int) (n0 : -9223372036854775808 ≤ n) (n1 : n ≤ 9223372036854775807)
    (hn : Val.two 7 ⟨1, q, ⟨#[]⟩⟩ ⟨1, b, ⟨#[]⟩⟩ = (⟨1, n, ⟨#[]⟩⟩, 0))
    (hf : Val.two 5 ⟨1, n, ⟨#[]⟩⟩ ⟨1, r, ⟨#[]⟩⟩ = (⟨1, a, ⟨#[]⟩⟩, 0)) (w : World) (hw : Wd w) :
    Calls Tryd.prog 4 #[.int .i64 a, .int .i64 b] w fun e w' => e = .returned (.bool true) ∧ Below w.heap.size w w' := by
  have Khs := Lib.hid hs
  have Khd := Lib.hid hd
  have Khd1 := Lib.hid hd1
  have Khp := Lib.hid hp
  have Khq := Lib.hid hq
  have Khr := Lib.hid hr
  have Khn := Lib.hid hn
  have Khf := Lib.hid hf
  clear hs hd hd1 hp hq hr hn hf
  have HW : Hid (∀ x, Below w.heap.size w x → Wd x) := Lib.hid (fun _ h => hw.kept h)
  clear hw
  have H0 : Hid (Fam w [] w) := Lib.hid (fam_n0 w)
  go_enter Tryd.func4, Tryd.ntmps4
  go_wp2_with fail
  refine stepF H0.out (fun hB => alive_yes _ (HW.out _ hB)) ?_
  intro x1 HX1 _
  go_wp2_with fail
  refine stepF HX1.out (fun hB => n_any _ _) ?_
  intro x2 HX2 _
  go_wp2_with fail
  refine stepF HX2.out (fun hB => n_any _ _) ?_
  intro x3 HX3 _
  go_wp2_with fail
  refine stepF HX3.out (fun hB => two_is 5 1 a _ 1 b _ 0 0 _ 12 (by omega) (by omega) (by omega) a0 a1 b0 b1 Khs.out _ (HW.out _ hB)) ?_
  intro x4 HX4 _
  go_wp2_with fail
  have HY5 := Lib.hid (HX4.out.add (below_alloc x4 (.cells #[.int .u8 0, .int .i64 0, .string ⟨#[]⟩] 25)) (Nat.le_refl _) (heap_alloc_new _ _))
  obtain ⟨b5, hb5⟩ : ∃ x, x = x4.heap.size := ⟨_, rfl⟩
  obtain ⟨y5, hy5⟩ : ∃ x, x = x4.alloc (.cells #[.int .u8 0, .int .i64 0, .string ⟨#[]⟩] 25) := ⟨_, rfl⟩
  rw [← hb5, ← hy5] at HY5
  rw [← hb5, ← hy5]
  clear hb5 hy5
  refine wp_region_bw (w := y5) (by kernel_rfl) (by kernel_rfl) ?_
  repeat (go_big_quiet_step (fail))
  refine wpQuiet_nil ?_
  rintro z6 ⟨m9, rfl⟩
  have HZ6 := Lib.hid (HY5.out.kept (bwOf_below y5 m9))
  generalize bwOf y5 m9 = z6 at *
  go_wp2_with fail
  refine stepF HZ6.out (fun hB => n_any _ _) ?_
  intro x7 HX7 _
  go_wp2_with fail
  refine stepF HX7.out (fun hB => n_any _ _) ?_
  intro x8 HX8 _
  go_wp2_with fail
  refine stepF HX8.out (fun hB => two_is 6 1 a _ 1 b _ 1 d _ 0 (by omega) (by omega) (by omega) a0 a1 b0 b1 Khd.out _ (HW.out _ hB)) ?_
  intro x9 HX9 _
  go_wp2_with fail
  have HY10 := Lib.hid (HX9.out.add (below_alloc x9 (.cells #[.int .u8 1, .int .i64 d, .string ⟨#[]⟩] 25)) (Nat.le_refl _) (heap_alloc_new _ _))
  obtain ⟨b10, hb10⟩ : ∃ x, x = x9.heap.size := ⟨_, rfl⟩
  obtain ⟨y10, hy10⟩ : ∃ x, x = x9.alloc (.cells #[.int .u8 1, .int .i64 d, .string ⟨#[]⟩] 25) := ⟨_, rfl⟩
  rw [← hb10, ← hy10] at HY10
  rw [← hb10, ← hy10]
  clear hb10 hy10
  have p0 : y10.cell? ⟨b10, 0, none⟩ = some (.int .u8 1) := HY10.out.cell (b := b10) (cs := #[.int .u8 1, .int .i64 d, .string ⟨#[]⟩]) (t := 25) (fr := (0, 0)) (List.mem_cons_self ..) (0)
  have p1 : y10.cell? ⟨b10, 1, none⟩ = some (.int .i64 d) := HY10.out.cell (b := b10) (cs := #[.int .u8 1, .int .i64 d, .string ⟨#[]⟩]) (t := 25) (fr := (0, 0)) (List.mem_cons_self ..) (1)
  have p2 : y10.cell? ⟨b10, 2, none⟩ = some (.string ⟨#[]⟩) := HY10.out.cell (b := b10) (cs := #[.int .u8 1, .int .i64 d, .string ⟨#[]⟩]) (t := 25) (fr := (0, 0)) (List.mem_cons_self ..) (2)
  have q0 := bwOf_cell y10 _ _ p0
  have q1 := bwOf_cell y10 _ _ p1
  have q2 := bwOf_cell y10 _ _ p2
  clear p0 p1 p2
  refine wp_region_bw (w := y10) (by kernel_rfl) (by kernel_rfl) ?_
  repeat (go_big_quiet_step (fail))
  go_big_quiet_step ((go_at_call 11; exact below_of (n_any _ _)))
  repeat (go_big_quiet_step (fail))
  go_big_quiet_step ((go_at_call 11; exact below_of (n_any _ _)))
  repeat (go_big_quiet_step (fail))
  go_big_quiet_step ((go_at_call 12; exact below_of (two_yes 5 1 d _ 1 b _ 1 a _ 0 (by omega) (by omega) (by omega) d0 d1 b0 b1 Khd1.out _ (HW.out _ (below_end HY10.out.below (bwOf_below _ _))))))
  repeat (go_big_quiet_step (fail))
  refine wpQuiet_nil ?_
  rintro z11 ⟨m9, rfl⟩
  have HZ11 := Lib.hid (HY10.out.kept (bwOf_below y10 m9))
  clear q0 q1 q2
  generalize bwOf y10 m9 = z11 at *
  go_wp2_with fail
  refine stepF HZ11.out (fun hB => n_any _ _) ?_
  intro x12 HX12 _
  go_wp2_with fail
  refine stepF HX12.out (fun hB => n_any _ _) ?_
  intro x13 HX13 _
  go_wp2_with fail
  refine stepF HX13.out (fun hB => two_is 7 1 a _ 1 b _ 0 0 _ 12 (by omega) (by omega) (by omega) a0 a1 b0 b1 Khp.out _ (HW.out _ hB)) ?_
  intro x14 HX14 _
  go_wp2_with fail
  have HY15 := Lib.hid (HX14.out.add (below_alloc x14 (.cells #[.int .u8 0, .int .i64 0, .string ⟨#[]⟩] 25)) (Nat.le_refl _) (heap_alloc_new _ _))
  obtain ⟨b15, hb15⟩ : ∃ x, x = x14.heap.size := ⟨_, rfl⟩
  obtain ⟨y15, hy15⟩ : ∃ x, x = x14.alloc (.cells #[.int .u8 0, .int .i64 0, .string ⟨#[]⟩] 25) := ⟨_, rfl⟩
  rw [← hb15, ← hy15] at HY15
  rw [← hb15, ← hy15]
  clear hb15 hy15
  refine wp_region_bw (w := y15) (by kernel_rfl) (by kernel_rfl) ?_
  repeat (go_big_quiet_step (fail))
  refine wpQuiet_nil ?_
  rintro z16 ⟨m9, rfl⟩
  have HZ16 := Lib.hid (HY15.out.kept (bwOf_below y15 m9))
  generalize bwOf y15 m9 = z16 at *
  go_wp2_with fail
  refine stepF HZ16.out (fun hB => n_any _ _) ?_
  intro x17 HX17 _
  go_wp2_with fail
  refine stepF HX17.out (fun hB => n_any _ _) ?_
  intro x18 HX18 _
  go_wp2_with fail
  refine stepF HX18.out (fun hB => two_is 8 1 a _ 1 b _ 1 q _ 0 (by omega) (by omega) (by omega) a0 a1 b0 b1 Khq.out _ (HW.out _ hB)) ?_
  intro x19 HX19 _
  go_wp2_with fail
  have HY20 := Lib.hid (HX19.out.add (below_alloc x19 (.cells #[.int .u8 1, .int .i64 q, .string ⟨#[]⟩] 25)) (Nat.le_refl _) (heap_alloc_new _ _))
  obtain ⟨b20, hb20⟩ : ∃ x, x = x19.heap.size := ⟨_, rfl⟩
  obtain ⟨y20, hy20⟩ : ∃ x, x = x19.alloc (.cells #[.int .u8 1, .int .i64 q, .string ⟨#[]⟩] 25) := ⟨_, rfl⟩
  rw [← hb20, ← hy20] at HY20
  rw [← hb20, ← hy20]
  clear hb20 hy20
  refine stepF HY20.out (fun hB => n_any _ _) ?_
  intro x21 HX21 _
  go_wp2_with fail
  refine stepF HX21.out (fun hB => n_any _ _) ?_
  intro x22 HX22 _
  go_wp2_with fail
  refine stepF HX22.out (fun hB => two_is 9 1 a _ 1 b _ 1 r _ 0 (by omega) (by omega) (by omega) a0 a1 b0 b1 Khr.out _ (HW.out _ hB)) ?_
  intro x23 HX23 _
  go_wp2_with fail
  have HY24 := Lib.hid (HX23.out.add (below_alloc x23 (.cells #[.int .u8 1, .int .i64 r, .string ⟨#[]⟩] 25)) (Nat.le_refl _) (heap_alloc_new _ _))
  obtain ⟨b24, hb24⟩ : ∃ x, x = x23.heap.size := ⟨_, rfl⟩
  obtain ⟨y24, hy24⟩ : ∃ x, x = x23.alloc (.cells #[.int .u8 1, .int .i64 r, .string ⟨#[]⟩] 25) := ⟨_, rfl⟩
  rw [← hb24, ← hy24] at HY24
  rw [← hb24, ← hy24]
  clear hb24 hy24
  have s0 : y24.cell? ⟨b24, 0, none⟩ = some (.int .u8 1) := HY24.out.cell (b := b24) (cs := #[.int .u8 1, .int .i64 r, .string ⟨#[]⟩]) (t := 25) (fr := (0, 0)) (List.mem_cons_self ..) (0)
  have s1 : y24.cell? ⟨b24, 1, none⟩ = some (.int .i64 r) := HY24.out.cell (b := b24) (cs := #[.int .u8 1, .int .i64 r, .string ⟨#[]⟩]) (t := 25) (fr := (0, 0)) (List.mem_cons_self ..) (1)
  have s2 : y24.cell? ⟨b24, 2, none⟩ = some (.string ⟨#[]⟩) := HY24.out.cell (b := b24) (cs := #[.int .u8 1, .int .i64 r, .string ⟨#[]⟩]) (t := 25) (fr := (0, 0)) (List.mem_cons_self ..) (2)
  go_wp2_with fail
  clear s0 s1 s2
  have s0 : y24.cell? ⟨b20, 0, none⟩ = some (.int .u8 1) := HY24.out.cell (b := b20) (cs := #[.int .u8 1, .int .i64 q, .string ⟨#[]⟩]) (t := 25) (fr := (0, 0)) (List.mem_cons_of_mem _ (List.mem_cons_self ..)) (0)
  have s1 : y24.cell? ⟨b20, 1, none⟩ = some (.int .i64 q) := HY24.out.cell (b := b20) (cs := #[.int .u8 1, .int .i64 q, .string ⟨#[]⟩]) (t := 25) (fr := (0, 0)) (List.mem_cons_of_mem _ (List.mem_cons_self ..)) (1)
  have s2 : y24.cell? ⟨b20, 2, none⟩ = some (.string ⟨#[]⟩) := HY24.out.cell (b := b20) (cs := #[.int .u8 1, .int .i64 q, .string ⟨#[]⟩]) (t := 25) (fr := (0, 0)) (List.mem_cons_of_mem _ (List.mem_cons_self ..)) (2)
  have z0 : b24 < y24.heap.size := lt_of_block (HY24.out.get (b := b24) (o := .cells #[.int .u8 1, .int .i64 r, .string ⟨#[]⟩] 25 (0, 0)) (List.mem_cons_self ..))
  have z1 : b20 < y24.heap.size := lt_of_block (HY24.out.get (b := b20) (o := .cells #[.int .u8 1, .int .i64 q, .string ⟨#[]⟩] 25 (0, 0)) (List.mem_cons_of_mem _ (List.mem_cons_self ..)))
  have z2 : b15 < y24.heap.size := lt_of_block (HY24.out.get (b := b15) (o := .cells #[.int .u8 0, .int .i64 0, .string ⟨#[]⟩] 25 (0, 0)) (List.mem_cons_of_mem _ (List.mem_cons_of_mem _ (List.mem_cons_self ..))))
  have z3 : b10 < y24.heap.size := lt_of_block (HY24.out.get (b := b10) (o := .cells #[.int .u8 1, .int .i64 d, .string ⟨#[]⟩] 25 (0, 0)) (List.mem_cons_of_mem _ (List.mem_cons_of_mem _ (List.mem_cons_of_mem _ (List.mem_cons_self ..)))))
  have z4 : b5 < y24.heap.size := lt_of_block (HY24.out.get (b := b5) (o := .cells #[.int .u8 0, .int .i64 0, .string ⟨#[]⟩] 25 (0, 0)) (List.mem_cons_of_mem _ (List.mem_cons_of_mem _ (List.mem_cons_of_mem _ (List.mem_cons_of_mem _ (List.mem_cons_self ..))))))
  have HM := HY24
  have HL := HY24
  apply wp_merge (R := fun b x => Hid (Fam w ((b, .cells #[.int .u8 1, .int .i64 n, .string ⟨#[]⟩] 25 (0, 0)) :: [(b24, .cells #[.int .u8 1, .int .i64 r, .string ⟨#[]⟩] 25 (0, 0)), (b20, .cells #[.int .u8 1, .int .i64 q, .string ⟨#[]⟩] 25 (0, 0)), (b15, .cells #[.int .u8 0, .int .i64 0, .string ⟨#[]⟩] 25 (0, 0)), (b10, .cells #[.int .u8 1, .int .i64 d, .string ⟨#[]⟩] 25 (0, 0)), (b5, .cells #[.int .u8 0, .int .i64 0, .string ⟨#[]⟩] 25 (0, 0))]) x))
  case h =>
    go_region_held3 (fun x => x.cell? ⟨b20, 0, none⟩ = some (.int .u8 1) ∧ x.cell? ⟨b20, 1, none⟩ = some (.int .i64 q) ∧ x.cell? ⟨b20, 2, none⟩ = some (.string ⟨#[]⟩)) (first | with_reducible exact ⟨s0, s1, s2⟩ | with_reducible exact ⟨keep_drew s0, keep_drew s1, keep_drew s2⟩ | with_reducible exact ⟨keep_drew (keep_alloc s0), keep_drew (keep_alloc s1), keep_drew (keep_alloc s2)⟩ | with_reducible exact ⟨keep_alloc (keep_drew s0), keep_alloc (keep_drew s1), keep_alloc (keep_drew s2)⟩ | with_reducible exact SS.out | with_reducible exact ⟨keep_alloc SS.out.1, keep_alloc SS.out.2.1, keep_alloc SS.out.2.2⟩ | with_reducible exact ⟨(set3_other (by omega) _ _ _ _).trans SS.out.1, (set3_other (by omega) _ _ _ _).trans SS.out.2.1, (set3_other (by omega) _ _ _ _).trans SS.out.2.2⟩) ((first | (go_at_call 11; (first | ((first | refine stepF HM.out (fun hB => n_any _ _) ?_ | refine stepF HM.out.drew' (fun hB => n_any _ _) ?_); intro u1 HM HL; have t0 : u1.cell? ⟨b20, 0, none⟩ = some (.int .u8 1) := HL.out.cell (b := b20) (cs := #[.int .u8 1, .int .i64 q, .string ⟨#[]⟩]) (t := 25) (fr := (0, 0)) (List.mem_cons_of_mem _ (List.mem_cons_self ..)) (0); have t1 : u1.cell? ⟨b20, 1, none⟩ = some (.int .i64 q) := HL.out.cell (b := b20) (cs := #[.int .u8 1, .int .i64 q, .string ⟨#[]⟩]) (t := 25) (fr := (0, 0)) (List.mem_cons_of_mem _ (List.mem_cons_self ..)) (1); have t2 : u1.cell? ⟨b20, 2, none⟩ = some (.string ⟨#[]⟩) := HL.out.cell (b := b20) (cs := #[.int .u8 1, .int .i64 q, .string ⟨#[]⟩]) (t := 25) (fr := (0, 0)) (List.mem_cons_of_mem _ (List.mem_cons_self ..)) (2); have SS := Lib.hid (show _ from (And.intro t0 (And.intro t1 t2))); clear t0 t1 t2; have z0 : b24 < u1.heap.size := lt_of_block (HL.out.get (b := b24) (o := .cells #[.int .u8 1, .int .i64 r, .string ⟨#[]⟩] 25 (0, 0)) (List.mem_cons_self ..)); have z1 : b20 < u1.heap.size := lt_of_block (HL.out.get (b := b20) (o := .cells #[.int .u8 1, .int .i64 q, .string ⟨#[]⟩] 25 (0, 0)) (List.mem_cons_of_mem _ (List.mem_cons_self ..))); have z2 : b15 < u1.heap.size := lt_of_block (HL.out.get (b := b15) (o := .cells #[.int .u8 0, .int .i64 0, .string ⟨#[]⟩] 25 (0, 0)) (List.mem_cons_of_mem _ (List.mem_cons_of_mem _ (List.mem_cons_self ..)))); have z3 : b10 < u1.heap.size := lt_of_block (HL.out.get (b := b10) (o := .cells #[.int .u8 1, .int .i64 d, .string ⟨#[]⟩] 25 (0, 0)) (List.mem_cons_of_mem _ (List.mem_cons_of_mem _ (List.mem_cons_of_mem _ (List.mem_cons_self ..))))); have z4 : b5 < u1.heap.size := lt_of_block (HL.out.get (b := b5) (o := .cells #[.int .u8 0, .int .i64 0, .string ⟨#[]⟩] 25 (0, 0)) (List.mem_cons_of_mem _ (List.mem_cons_of_mem _ (List.mem_cons_of_mem _ (List.mem_cons_of_mem _ (List.mem_cons_self ..))))))) | ((first | refine stepZ HM.out (fun hB => n_any _ _) ?_ | refine stepZ HM.out.zero (fun hB => n_any _ _) ?_ | refine stepZ HM.out.zero.drew' (fun hB => n_any _ _) ?_ | refine stepZ HM.out.drew'.zero (fun hB => n_any _ _) ?_ | refine stepZ HM.out.drew' (fun hB => n_any _ _) ?_); intro u1 HM HL; have t0 : u1.cell? ⟨b20, 0, none⟩ = some (.int .u8 1) := HL.out.cell (b := b20) (cs := #[.int .u8 1, .int .i64 q, .string ⟨#[]⟩]) (t := 25) (fr := (0, 0)) (List.mem_cons_of_mem _ (List.mem_cons_self ..)) (0); have t1 : u1.cell? ⟨b20, 1, none⟩ = some (.int .i64 q) := HL.out.cell (b := b20) (cs := #[.int .u8 1, .int .i64 q, .string ⟨#[]⟩]) (t := 25) (fr := (0, 0)) (List.mem_cons_of_mem _ (List.mem_cons_self ..)) (1); have t2 : u1.cell? ⟨b20, 2, none⟩ = some (.string ⟨#[]⟩) := HL.out.cell (b := b20) (cs := #[.int .u8 1, .int .i64 q, .string ⟨#[]⟩]) (t := 25) (fr := (0, 0)) (List.mem_cons_of_mem _ (List.mem_cons_self ..)) (2); have SS := Lib.hid (show _ from (And.intro t0 (And.intro t1 t2))); clear t0 t1 t2; have z0 : b24 < u1.heap.size := lt_of_block (HL.out.get (b := b24) (o := .cells #[.int .u8 1, .int .i64 r, .string ⟨#[]⟩] 25 (0, 0)) (List.mem_cons_self ..)); have z1 : b20 < u1.heap.size := lt_of_block (HL.out.get (b := b20) (o := .cells #[.int .u8 1, .int .i64 q, .string ⟨#[]⟩] 25 (0, 0)) (List.mem_cons_of_mem _ (List.mem_cons_self ..))); have z2 : b15 < u1.heap.size := lt_of_block (HL.out.get (b := b15) (o := .cells #[.int .u8 0, .int .i64 0, .string ⟨#[]⟩] 25 (0, 0)) (List.mem_cons_of_mem _ (List.mem_cons_of_mem _ (List.mem_cons_self ..)))); have z3 : b10 < u1.heap.size := lt_of_block (HL.out.get (b := b10) (o := .cells #[.int .u8 1, .int .i64 d, .string ⟨#[]⟩] 25 (0, 0)) (List.mem_cons_of_mem _ (List.mem_cons_of_mem _ (List.mem_cons_of_mem _ (List.mem_cons_self ..))))); have z4 : b5 < u1.heap.size := lt_of_block (HL.out.get (b := b5) (o := .cells #[.int .u8 0, .int .i64 0, .string ⟨#[]⟩] 25 (0, 0)) (List.mem_cons_of_mem _ (List.mem_cons_of_mem _ (List.mem_cons_of_mem _ (List.mem_cons_of_mem _ (List.mem_cons_self ..)))))); have r0 : u1.cell? ⟨_, 0, none⟩ = some (.int .u8 0) := HM.out.cell 0; have r1 : u1.cell? ⟨_, 1, none⟩ = some (.int .i64 0) := HM.out.cell 1; have r2 : u1.cell? ⟨_, 2, none⟩ = some (.string ⟨#[]⟩) := HM.out.cell 2; have f0 : u1.frozen? ⟨_, 0, none⟩ = false := HM.out.free 0; have f1 : u1.frozen? ⟨_, 1, none⟩ = false := HM.out.free 1; have f2 : u1.frozen? ⟨_, 2, none⟩ = false := HM.out.free 2; have z9 : _ < u1.heap.size := lt_of_block HM.out.new))) | (go_at_call 8; (first | ((first | refine stepF HM.out (fun hB => two_is 7 1 q _ 1 b _ 1 n _ 0 (by omega) (by omega) (by omega) q0 q1 b0 b1 Khn.out _ (HW.out _ hB)) ?_ | refine stepF HM.out.drew' (fun hB => two_is 7 1 q _ 1 b _ 1 n _ 0 (by omega) (by omega) (by omega) q0 q1 b0 b1 Khn.out _ (HW.out _ hB)) ?_); intro u2 HM HL; have t0 : u2.cell? ⟨b20, 0, none⟩ = some (.int .u8 1) := HL.out.cell (b := b20) (cs := #[.int .u8 1, .int .i64 q, .string ⟨#[]⟩]) (t := 25) (fr := (0, 0)) (List.mem_cons_of_mem _ (List.mem_cons_self ..)) (0); have t1 : u2.cell? ⟨b20, 1, none⟩ = some (.int .i64 q) := HL.out.cell (b := b20) (cs := #[.int .u8 1, .int .i64 q, .string ⟨#[]⟩]) (t := 25) (fr := (0, 0)) (List.mem_cons_of_mem _ (List.mem_cons_self ..)) (1); have t2 : u2.cell? ⟨b20, 2, none⟩ = some (.string ⟨#[]⟩) := HL.out.cell (b := b20) (cs := #[.int .u8 1, .int .i64 q, .string ⟨#[]⟩]) (t := 25) (fr := (0, 0)) (List.mem_cons_of_mem _ (List.mem_cons_self ..)) (2); have SS := Lib.hid (show _ from (And.intro t0 (And.intro t1 t2))); clear t0 t1 t2; have z0 : b24 < u2.heap.size := lt_of_block (HL.out.get (b := b24) (o := .cells #[.int .u8 1, .int .i64 r, .string ⟨#[]⟩] 25 (0, 0)) (List.mem_cons_self ..)); have z1 : b20 < u2.heap.size := lt_of_block (HL.out.get (b := b20) (o := .cells #[.int .u8 1, .int .i64 q, .string ⟨#[]⟩] 25 (0, 0)) (List.mem_cons_of_mem _ (List.mem_cons_self ..))); have z2 : b15 < u2.heap.size := lt_of_block (HL.out.get (b := b15) (o := .cells #[.int .u8 0, .int .i64 0, .string ⟨#[]⟩] 25 (0, 0)) (List.mem_cons_of_mem _ (List.mem_cons_of_mem _ (List.mem_cons_self ..)))); have z3 : b10 < u2.heap.size := lt_of_block (HL.out.get (b := b10) (o := .cells #[.int .u8 1, .int .i64 d, .string ⟨#[]⟩] 25 (0, 0)) (List.mem_cons_of_mem _ (List.mem_cons_of_mem _ (List.mem_cons_of_mem _ (List.mem_cons_self ..))))); have z4 : b5 < u2.heap.size := lt_of_block (HL.out.get (b := b5) (o := .cells #[.int .u8 0, .int .i64 0, .string ⟨#[]⟩] 25 (0, 0)) (List.mem_cons_of_mem _ (List.mem_cons_of_mem _ (List.mem_cons_of_mem _ (List.mem_cons_of_mem _ (List.mem_cons_self ..))))))) | ((first | refine stepZ HM.out (fun hB => two_is 7 1 q _ 1 b _ 1 n _ 0 (by omega) (by omega) (by omega) q0 q1 b0 b1 Khn.out _ (HW.out _ hB)) ?_ | refine stepZ HM.out.zero (fun hB => two_is 7 1 q _ 1 b _ 1 n _ 0 (by omega) (by omega) (by omega) q0 q1 b0 b1 Khn.out _ (HW.out _ hB)) ?_ | refine stepZ HM.out.zero.drew' (fun hB => two_is 7 1 q _ 1 b _ 1 n _ 0 (by omega) (by omega) (by omega) q0 q1 b0 b1 Khn.out _ (HW.out _ hB)) ?_ | refine stepZ HM.out.drew'.zero (fun hB => two_is 7 1 q _ 1 b _ 1 n _ 0 (by omega) (by omega) (by omega) q0 q1 b0 b1 Khn.out _ (HW.out _ hB)) ?_ | refine stepZ HM.out.drew' (fun hB => two_is 7 1 q _ 1 b _ 1 n _ 0 (by omega) (by omega) (by omega) q0 q1 b0 b1 Khn.out _ (HW.out _ hB)) ?_); intro u2 HM HL; have t0 : u2.cell? ⟨b20, 0, none⟩ = some (.int .u8 1) := HL.out.cell (b := b20) (cs := #[.int .u8 1, .int .i64 q, .string ⟨#[]⟩]) (t := 25) (fr := (0, 0)) (List.mem_cons_of_mem _ (List.mem_cons_self ..)) (0); have t1 : u2.cell? ⟨b20, 1, none⟩ = some (.int .i64 q) := HL.out.cell (b := b20) (cs := #[.int .u8 1, .int .i64 q, .string ⟨#[]⟩]) (t := 25) (fr := (0, 0)) (List.mem_cons_of_mem _ (List.mem_cons_self ..)) (1); have t2 : u2.cell? ⟨b20, 2, none⟩ = some (.string ⟨#[]⟩) := HL.out.cell (b := b20) (cs := #[.int .u8 1, .int .i64 q, .string ⟨#[]⟩]) (t := 25) (fr := (0, 0)) (List.mem_cons_of_mem _ (List.mem_cons_self ..)) (2); have SS := Lib.hid (show _ from (And.intro t0 (And.intro t1 t2))); clear t0 t1 t2; have z0 : b24 < u2.heap.size := lt_of_block (HL.out.get (b := b24) (o := .cells #[.int .u8 1, .int .i64 r, .string ⟨#[]⟩] 25 (0, 0)) (List.mem_cons_self ..)); have z1 : b20 < u2.heap.size := lt_of_block (HL.out.get (b := b20) (o := .cells #[.int .u8 1, .int .i64 q, .string ⟨#[]⟩] 25 (0, 0)) (List.mem_cons_of_mem _ (List.mem_cons_self ..))); have z2 : b15 < u2.heap.size := lt_of_block (HL.out.get (b := b15) (o := .cells #[.int .u8 0, .int .i64 0, .string ⟨#[]⟩] 25 (0, 0)) (List.mem_cons_of_mem _ (List.mem_cons_of_mem _ (List.mem_cons_self ..)))); have z3 : b10 < u2.heap.size := lt_of_block (HL.out.get (b := b10) (o := .cells #[.int .u8 1, .int .i64 d, .string ⟨#[]⟩] 25 (0, 0)) (List.mem_cons_of_mem _ (List.mem_cons_of_mem _ (List.mem_cons_of_mem _ (List.mem_cons_self ..))))); have z4 : b5 < u2.heap.size := lt_of_block (HL.out.get (b := b5) (o := .cells #[.int .u8 0, .int .i64 0, .string ⟨#[]⟩] 25 (0, 0)) (List.mem_cons_of_mem _ (List.mem_cons_of_mem _ (List.mem_cons_of_mem _ (List.mem_cons_of_mem _ (List.mem_cons_self ..)))))); have r0 : u2.cell? ⟨_, 0, none⟩ = some (.int .u8 0) := HM.out.cell 0; have r1 : u2.cell? ⟨_, 1, none⟩ = some (.int .i64 0) := HM.out.cell 1; have r2 : u2.cell? ⟨_, 2, none⟩ = some (.string ⟨#[]⟩) := HM.out.cell 2; have f0 : u2.frozen? ⟨_, 0, none⟩ = false := HM.out.free 0; have f1 : u2.frozen? ⟨_, 1, none⟩ = false := HM.out.free 1; have f2 : u2.frozen? ⟨_, 2, none⟩ = false := HM.out.free 2; have z9 : _ < u2.heap.size := lt_of_block HM.out.new)))))
    all_goals (first | (obtain ⟨bx, hx, HO⟩ := endF (.cells #[.int .u8 1, .int .i64 n, .string ⟨#[]⟩] 25 (0, 0)) HM.out; refine ⟨rfl, ?_⟩; (try rw [← hx] at HO); rw [← hx]; exact ⟨bx, rfl, HO⟩) | (obtain ⟨bx, hx, HO⟩ := endZ (.int .u8 1) (.int .i64 n) (.string ⟨#[]⟩) HM.out; refine ⟨rfl, ?_⟩; (try rw [← hx] at HO); rw [← hx]; exact ⟨bx, rfl, HO⟩))
  intro bn9 v9 H9
  clear HM HL s0 s1 s2 z0 z1 z2 z3 z4
  clear HY24
  go_wp2_with fail
  have p0 : v9.cell? ⟨bn9, 0, none⟩ = some (.int .u8 1) := H9.out.cell (b := bn9) (cs := #[.int .u8 1, .int .i64 n, .string ⟨#[]⟩]) (t := 25) (fr := (0, 0)) (List.mem_cons_self ..) (0)
  have p1 : v9.cell? ⟨bn9, 1, none⟩ = some (.int .i64 n) := H9.out.cell (b := bn9) (cs := #[.int .u8 1, .int .i64 n, .string ⟨#[]⟩]) (t := 25) (fr := (0, 0)) (List.mem_cons_self ..) (1)
  have p2 : v9.cell? ⟨bn9, 2, none⟩ = some (.string ⟨#[]⟩) := H9.out.cell (b := bn9) (cs := #[.int .u8 1, .int .i64 n, .string ⟨#[]⟩]) (t := 25) (fr := (0, 0)) (List.mem_cons_self ..) (2)
  have p3 : v9.cell? ⟨b24, 0, none⟩ = some (.int .u8 1) := H9.out.cell (b := b24) (cs := #[.int .u8 1, .int .i64 r, .string ⟨#[]⟩]) (t := 25) (fr := (0, 0)) (List.mem_cons_of_mem _ (List.mem_cons_self ..)) (0)
  have p4 : v9.cell? ⟨b24, 1, none⟩ = some (.int .i64 r) := H9.out.cell (b := b24) (cs := #[.int .u8 1, .int .i64 r, .string ⟨#[]⟩]) (t := 25) (fr := (0, 0)) (List.mem_cons_of_mem _ (List.mem_cons_self ..)) (1)
  have p5 : v9.cell? ⟨b24, 2, none⟩ = some (.string ⟨#[]⟩) := H9.out.cell (b := b24) (cs := #[.int .u8 1, .int .i64 r, .string ⟨#[]⟩]) (t := 25) (fr := (0, 0)) (List.mem_cons_of_mem _ (List.mem_cons_self ..)) (2)
  have q0 := bwOf_cell v9 _ _ p0
  have q1 := bwOf_cell v9 _ _ p1
  have q2 := bwOf_cell v9 _ _ p2
  have q3 := bwOf_cell v9 _ _ p3
  have q4 := bwOf_cell v9 _ _ p4
  have q5 := bwOf_cell v9 _ _ p5
  clear p0 p1 p2 p3 p4 p5
  refine wp_region_bw (w := v9) (by kernel_rfl) (by kernel_rfl) ?_
  repeat (go_big_quiet_step (fail))
  go_big_quiet_step ((go_at_call 11; exact below_of (n_any _ _)))
  repeat (go_big_quiet_step (fail))
  go_big_quiet_step ((go_at_call 12; exact below_of (two_yes 5 1 n _ 1 r _ 1 a _ 0 (by omega) (by omega) (by omega) n0 n1 r0 r1 Khf.out _ (HW.out _ (below_end H9.out.below (bwOf_below _ _))))))
  repeat (go_big_quiet_step (fail))
  refine wpQuiet_nil ?_
  rintro z25 ⟨m9, rfl⟩
  have HZ25 := Lib.hid (H9.out.kept (bwOf_below v9 m9))
  clear q0 q1 q2 q3 q4 q5
  generalize bwOf v9 m9 = z25 at *
  go_wp2_with fail
  go_ret
  exact ⟨rfl, HZ25.out.below⟩
set_option maxRecDepth 100000 in
set_option maxHeartbeats 16000000 in
theorem back_sDpr (a : Int) (a0 : -9223372036854775808 ≤ a) (a1 : a ≤ 9223372036854775807) (b : Int) (b0 : -9223372036854775808 ≤ b) (b1 : b ≤ 9223372036854775807) (sg : Bool) (sa : decide (a < 0) = sg)
    (hs : Val.two 5 ⟨1, a, ⟨#[]⟩⟩ ⟨1, b, ⟨#[]⟩⟩ = (⟨0, 0, ⟨#[]⟩⟩, 12))
    (sb : decide (b < 0) = sg)
    (d : Int) (d0 : -9223372036854775808 ≤ d) (d1 : d ≤ 9223372036854775807)
    (hd : Val.two 6 ⟨1, a, ⟨#[]⟩⟩ ⟨1, b, ⟨#[]⟩⟩ = (⟨1, d, ⟨#[]⟩⟩, 0))
    (hd1 : Val.two 5 ⟨1, d, ⟨#[]⟩⟩ ⟨1, b, ⟨#[]⟩⟩ = (⟨1, a, ⟨#[]⟩⟩, 0))
    (hp : Val.two 7 ⟨1, a, ⟨#[]⟩⟩ ⟨1, b, ⟨#[]⟩⟩ = (⟨0, 0, ⟨#[]⟩⟩, 12))
    (bz : (b == 0) = false)
    (q : Int) (q0 : -9223372036854775808 ≤ q) (q1 : q ≤ 9223372036854775807)
    (hq : Val.two 8 ⟨1, a, ⟨#[]⟩⟩ ⟨1, b, ⟨#[]⟩⟩ = (⟨1, q, ⟨#[]⟩⟩, 0))
    (r : Int) (r0 : -9223372036854775808 ≤ r) (r1 : r ≤ 9223372036854775807)
    (hr : Val.two 9 ⟨1, a, ⟨#[]⟩⟩ ⟨1, b, ⟨#[]⟩⟩ = (⟨1, r, ⟨#[]⟩⟩, 0))
    (rz : (r != 0) = true)
    (sr : decide (r < 0) = sg)
    (n : Int) (n0 : -9223372036854775808 ≤ n) (n1 : n ≤ 9223372036854775807)
    (hn : Val.two 7 ⟨1, q, ⟨#[]⟩⟩ ⟨1, b, ⟨#[]⟩⟩ = (⟨1, n, ⟨#[]⟩⟩, 0))
    (hf : Val.two 5 ⟨1, n, ⟨#[]⟩⟩ ⟨1, r, ⟨#[]⟩⟩ = (⟨1, a, ⟨#[]⟩⟩, 0)) (w : World) (hw : Wd w) :
    Calls Tryd.prog 4 #[.int .i64 a, .int .i64 b] w fun e w' => e = .returned (.bool true) ∧ Below w.heap.size w w' := by
  have Khs := Lib.hid hs
  have Khd := Lib.hid hd
  have Khd1 := Lib.hid hd1
  have Khp := Lib.hid hp
  have Khq := Lib.hid hq
  have Khr := Lib.hid hr
  have Khn := Lib.hid hn
  have Khf := Lib.hid hf
  clear hs hd hd1 hp hq hr hn hf
  have HW : Hid (∀ x, Below w.heap.size w x → Wd x) := Lib.hid (fun _ h => hw.kept h)
  clear hw
  have H0 : Hid (Fam w [] w) := Lib.hid (fam_n0 w)
  go_enter Tryd.func4, Tryd.ntmps4
  go_wp2_with fail
  refine stepF H0.out (fun hB => alive_yes _ (HW.out _ hB)) ?_
  intro x1 HX1 _
  go_wp2_with fail
  refine stepF HX1.out (fun hB => n_any _ _) ?_
  intro x2 HX2 _
  go_wp2_with fail
  refine stepF HX2.out (fun hB => n_any _ _) ?_
  intro x3 HX3 _
  go_wp2_with fail
  refine stepF HX3.out (fun hB => two_is 5 1 a _ 1 b _ 0 0 _ 12 (by omega) (by omega) (by omega) a0 a1 b0 b1 Khs.out _ (HW.out _ hB)) ?_
  intro x4 HX4 _
  go_wp2_with fail
  have HY5 := Lib.hid (HX4.out.add (below_alloc x4 (.cells #[.int .u8 0, .int .i64 0, .string ⟨#[]⟩] 25)) (Nat.le_refl _) (heap_alloc_new _ _))
  obtain ⟨b5, hb5⟩ : ∃ x, x = x4.heap.size := ⟨_, rfl⟩
  obtain ⟨y5, hy5⟩ : ∃ x, x = x4.alloc (.cells #[.int .u8 0, .int .i64 0, .string ⟨#[]⟩] 25) := ⟨_, rfl⟩
  rw [← hb5, ← hy5] at HY5
  rw [← hb5, ← hy5]
  clear hb5 hy5
  refine wp_region_bw (w := y5) (by kernel_rfl) (by kernel_rfl) ?_
  repeat (go_big_quiet_step (fail))
  refine wpQuiet_nil ?_
  rintro z6 ⟨m9, rfl⟩
  have HZ6 := Lib.hid (HY5.out.kept (bwOf_below y5 m9))
  generalize bwOf y5 m9 = z6 at *
  go_wp2_with fail
  refine stepF HZ6.out (fun hB => n_any _ _) ?_
  intro x7 HX7 _
  go_wp2_with fail
  refine stepF HX7.out (fun hB => n_any _ _) ?_
  intro x8 HX8 _
  go_wp2_with fail
  refine stepF HX8.out (fun hB => two_is 6 1 a _ 1 b _ 1 d _ 0 (by omega) (by omega) (by omega) a0 a1 b0 b1 Khd.out _ (HW.out _ hB)) ?_
  intro x9 HX9 _
  go_wp2_with fail
  have HY10 := Lib.hid (HX9.out.add (below_alloc x9 (.cells #[.int .u8 1, .int .i64 d, .string ⟨#[]⟩] 25)) (Nat.le_refl _) (heap_alloc_new _ _))
  obtain ⟨b10, hb10⟩ : ∃ x, x = x9.heap.size := ⟨_, rfl⟩
  obtain ⟨y10, hy10⟩ : ∃ x, x = x9.alloc (.cells #[.int .u8 1, .int .i64 d, .string ⟨#[]⟩] 25) := ⟨_, rfl⟩
  rw [← hb10, ← hy10] at HY10
  rw [← hb10, ← hy10]
  clear hb10 hy10
  have p0 : y10.cell? ⟨b10, 0, none⟩ = some (.int .u8 1) := HY10.out.cell (b := b10) (cs := #[.int .u8 1, .int .i64 d, .string ⟨#[]⟩]) (t := 25) (fr := (0, 0)) (List.mem_cons_self ..) (0)
  have p1 : y10.cell? ⟨b10, 1, none⟩ = some (.int .i64 d) := HY10.out.cell (b := b10) (cs := #[.int .u8 1, .int .i64 d, .string ⟨#[]⟩]) (t := 25) (fr := (0, 0)) (List.mem_cons_self ..) (1)
  have p2 : y10.cell? ⟨b10, 2, none⟩ = some (.string ⟨#[]⟩) := HY10.out.cell (b := b10) (cs := #[.int .u8 1, .int .i64 d, .string ⟨#[]⟩]) (t := 25) (fr := (0, 0)) (List.mem_cons_self ..) (2)
  have q0 := bwOf_cell y10 _ _ p0
  have q1 := bwOf_cell y10 _ _ p1
  have q2 := bwOf_cell y10 _ _ p2
  clear p0 p1 p2
  refine wp_region_bw (w := y10) (by kernel_rfl) (by kernel_rfl) ?_
  repeat (go_big_quiet_step (fail))
  go_big_quiet_step ((go_at_call 11; exact below_of (n_any _ _)))
  repeat (go_big_quiet_step (fail))
  go_big_quiet_step ((go_at_call 11; exact below_of (n_any _ _)))
  repeat (go_big_quiet_step (fail))
  go_big_quiet_step ((go_at_call 12; exact below_of (two_yes 5 1 d _ 1 b _ 1 a _ 0 (by omega) (by omega) (by omega) d0 d1 b0 b1 Khd1.out _ (HW.out _ (below_end HY10.out.below (bwOf_below _ _))))))
  repeat (go_big_quiet_step (fail))
  refine wpQuiet_nil ?_
  rintro z11 ⟨m9, rfl⟩
  have HZ11 := Lib.hid (HY10.out.kept (bwOf_below y10 m9))
  clear q0 q1 q2
  generalize bwOf y10 m9 = z11 at *
  go_wp2_with fail
  refine stepF HZ11.out (fun hB => n_any _ _) ?_
  intro x12 HX12 _
  go_wp2_with fail
  refine stepF HX12.out (fun hB => n_any _ _) ?_
  intro x13 HX13 _
  go_wp2_with fail
  refine stepF HX13.out (fun hB => two_is 7 1 a _ 1 b _ 0 0 _ 12 (by omega) (by omega) (by omega) a0 a1 b0 b1 Khp.out _ (HW.out _ hB)) ?_
  intro x14 HX14 _
  go_wp2_with fail
  have HY15 := Lib.hid (HX14.out.add (below_alloc x14 (.cells #[.int .u8 0, .int .i64 0, .string ⟨#[]⟩] 25)) (Nat.le_refl _) (heap_alloc_new _ _))
  obtain ⟨b15, hb15⟩ : ∃ x, x = x14.heap.size := ⟨_, rfl⟩
  obtain ⟨y15, hy15⟩ : ∃ x, x = x14.alloc (.cells #[.int .u8 0, .int .i64 0, .string ⟨#[]⟩] 25) := ⟨_, rfl⟩
  rw [← hb15, ← hy15] at HY15
  rw [← hb15, ← hy15]
  clear hb15 hy15
  refine wp_region_bw (w := y15) (by kernel_rfl) (by kernel_rfl) ?_
  repeat (go_big_quiet_step (fail))
  refine wpQuiet_nil ?_
  rintro z16 ⟨m9, rfl⟩
  have HZ16 := Lib.hid (HY15.out.kept (bwOf_below y15 m9))
  generalize bwOf y15 m9 = z16 at *
  go_wp2_with fail
  refine stepF HZ16.out (fun hB => n_any _ _) ?_
  intro x17 HX17 _
  go_wp2_with fail
  refine stepF HX17.out (fun hB => n_any _ _) ?_
  intro x18 HX18 _
  go_wp2_with fail
  refine stepF HX18.out (fun hB => two_is 8 1 a _ 1 b _ 1 q _ 0 (by omega) (by omega) (by omega) a0 a1 b0 b1 Khq.out _ (HW.out _ hB)) ?_
  intro x19 HX19 _
  go_wp2_with fail
  have HY20 := Lib.hid (HX19.out.add (below_alloc x19 (.cells #[.int .u8 1, .int .i64 q, .string ⟨#[]⟩] 25)) (Nat.le_refl _) (heap_alloc_new _ _))
  obtain ⟨b20, hb20⟩ : ∃ x, x = x19.heap.size := ⟨_, rfl⟩
  obtain ⟨y20, hy20⟩ : ∃ x, x = x19.alloc (.cells #[.int .u8 1, .int .i64 q, .string ⟨#[]⟩] 25) := ⟨_, rfl⟩
  rw [← hb20, ← hy20] at HY20
  rw [← hb20, ← hy20]
  clear hb20 hy20
  refine stepF HY20.out (fun hB => n_any _ _) ?_
  intro x21 HX21 _
  go_wp2_with fail
  refine stepF HX21.out (fun hB => n_any _ _) ?_
  intro x22 HX22 _
  go_wp2_with fail
  refine stepF HX22.out (fun hB => two_is 9 1 a _ 1 b _ 1 r _ 0 (by omega) (by omega) (by omega) a0 a1 b0 b1 Khr.out _ (HW.out _ hB)) ?_
  intro x23 HX23 _
  go_wp2_with fail
  have HY24 := Lib.hid (HX23.out.add (below_alloc x23 (.cells #[.int .u8 1, .int .i64 r, .string ⟨#[]⟩] 25)) (Nat.le_refl _) (heap_alloc_new _ _))
  obtain ⟨b24, hb24⟩ : ∃ x, x = x23.heap.size := ⟨_, rfl⟩
  obtain ⟨y24, hy24⟩ : ∃ x, x = x23.alloc (.cells #[.int .u8 1, .int .i64 r, .string ⟨#[]⟩] 25) := ⟨_, rfl⟩
  rw [← hb24, ← hy24] at HY24
  rw [← hb24, ← hy24]
  clear hb24 hy24
  have s0 : y24.cell? ⟨b24, 0, none⟩ = some (.int .u8 1) := HY24.out.cell (b := b24) (cs := #[.int .u8 1, .int .i64 r, .string ⟨#[]⟩]) (t := 25) (fr := (0, 0)) (List.mem_cons_self ..) (0)
  have s1 : y24.cell? ⟨b24, 1, none⟩ = some (.int .i64 r) := HY24.out.cell (b := b24) (cs := #[.int .u8 1, .int .i64 r, .string ⟨#[]⟩]) (t := 25) (fr := (0, 0)) (List.mem_cons_self ..) (1)
  have s2 : y24.cell? ⟨b24, 2, none⟩ = some (.string ⟨#[]⟩) := HY24.out.cell (b := b24) (cs := #[.int .u8 1, .int .i64 r, .string ⟨#[]⟩]) (t := 25) (fr := (0, 0)) (List.mem_cons_self ..) (2)
  go_wp2_with fail
  clear s0 s1 s2
  have s0 : y24.cell? ⟨b20, 0, none⟩ = some (.int .u8 1) := HY24.out.cell (b := b20) (cs := #[.int .u8 1, .int .i64 q, .string ⟨#[]⟩]) (t := 25) (fr := (0, 0)) (List.mem_cons_of_mem _ (List.mem_cons_self ..)) (0)
  have s1 : y24.cell? ⟨b20, 1, none⟩ = some (.int .i64 q) := HY24.out.cell (b := b20) (cs := #[.int .u8 1, .int .i64 q, .string ⟨#[]⟩]) (t := 25) (fr := (0, 0)) (List.mem_cons_of_mem _ (List.mem_cons_self ..)) (1)
  have s2 : y24.cell? ⟨b20, 2, none⟩ = some (.string ⟨#[]⟩) := HY24.out.cell (b := b20) (cs := #[.int .u8 1, .int .i64 q, .string ⟨#[]⟩]) (t := 25) (fr := (0, 0)) (List.mem_cons_of_mem _ (List.mem_cons_self ..)) (2)
  have z0 : b24 < y24.heap.size := lt_of_block (HY24.out.get (b := b24) (o := .cells #[.int .u8 1, .int .i64 r, .string ⟨#[]⟩] 25 (0, 0)) (List.mem_cons_self ..))
  have z1 : b20 < y24.heap.size := lt_of_block (HY24.out.get (b := b20) (o := .cells #[.int .u8 1, .int .i64 q, .string ⟨#[]⟩] 25 (0, 0)) (List.mem_cons_of_mem _ (List.mem_cons_self ..)))
  have z2 : b15 < y24.heap.size := lt_of_block (HY24.out.get (b := b15) (o := .cells #[.int .u8 0, .int .i64 0, .string ⟨#[]⟩] 25 (0, 0)) (List.mem_cons_of_mem _ (List.mem_cons_of_mem _ (List.mem_cons_self ..))))
  have z3 : b10 < y24.heap.size := lt_of_block (HY24.out.get (b := b10) (o := .cells #[.int .u8 1, .int .i64 d, .string ⟨#[]⟩] 25 (0, 0)) (List.mem_cons_of_mem _ (List.mem_cons_of_mem _ (List.mem_cons_of_mem _ (List.mem_cons_self ..)))))
  have z4 : b5 < y24.heap.size := lt_of_block (HY24.out.get (b := b5) (o := .cells #[.int .u8 0, .int .i64 0, .string ⟨#[]⟩] 25 (0, 0)) (List.mem_cons_of_mem _ (List.mem_cons_of_mem _ (List.mem_cons_of_mem _ (List.mem_cons_of_mem _ (List.mem_cons_self ..))))))
  have HM := HY24
  have HL := HY24
  apply wp_merge (R := fun b x => Hid (Fam w ((b, .cells #[.int .u8 1, .int .i64 n, .string ⟨#[]⟩] 25 (0, 0)) :: [(b24, .cells #[.int .u8 1, .int .i64 r, .string ⟨#[]⟩] 25 (0, 0)), (b20, .cells #[.int .u8 1, .int .i64 q, .string ⟨#[]⟩] 25 (0, 0)), (b15, .cells #[.int .u8 0, .int .i64 0, .string ⟨#[]⟩] 25 (0, 0)), (b10, .cells #[.int .u8 1, .int .i64 d, .string ⟨#[]⟩] 25 (0, 0)), (b5, .cells #[.int .u8 0, .int .i64 0, .string ⟨#[]⟩] 25 (0, 0))]) x))
  case h =>
    go_region_held3 (fun x => x.cell? ⟨b20, 0, none⟩ = some (.int .u8 1) ∧ x.cell? ⟨b20, 1, none⟩ = some (.int .i64 q) ∧ x.cell? ⟨b20, 2, none⟩ = some (.string ⟨#[]⟩)) (first | with_reducible exact ⟨s0, s1, s2⟩ | with_reducible exact ⟨keep_drew s0, keep_drew s1, keep_drew s2⟩ | with_reducible exact ⟨keep_drew (keep_alloc s0), keep_drew (keep_alloc s1), keep_drew (keep_alloc s2)⟩ | with_reducible exact ⟨keep_alloc (keep_drew s0), keep_alloc (keep_drew s1), keep_alloc (keep_drew s2)⟩ | with_reducible exact SS.out | with_reducible exact ⟨keep_alloc SS.out.1, keep_alloc SS.out.2.1, keep_alloc SS.out.2.2⟩ | with_reducible exact ⟨(set3_other (by omega) _ _ _ _).trans SS.out.1, (set3_other (by omega) _ _ _ _).trans SS.out.2.1, (set3_other (by omega) _ _ _ _).trans SS.out.2.2⟩) ((first | (go_at_call 11; (first | ((first | refine stepF HM.out (fun hB => n_any _ _) ?_ | refine stepF HM.out.drew' (fun hB => n_any _ _) ?_); intro u1 HM HL; have t0 : u1.cell? ⟨b20, 0, none⟩ = some (.int .u8 1) := HL.out.cell (b := b20) (cs := #[.int .u8 1, .int .i64 q, .string ⟨#[]⟩]) (t := 25) (fr := (0, 0)) (List.mem_cons_of_mem _ (List.mem_cons_self ..)) (0); have t1 : u1.cell? ⟨b20, 1, none⟩ = some (.int .i64 q) := HL.out.cell (b := b20) (cs := #[.int .u8 1, .int .i64 q, .string ⟨#[]⟩]) (t := 25) (fr := (0, 0)) (List.mem_cons_of_mem _ (List.mem_cons_self ..)) (1); have t2 : u1.cell? ⟨b20, 2, none⟩ = some (.string ⟨#[]⟩) := HL.out.cell (b := b20) (cs := #[.int .u8 1, .int .i64 q, .string ⟨#[]⟩]) (t := 25) (fr := (0, 0)) (List.mem_cons_of_mem _ (List.mem_cons_self ..)) (2); have SS := Lib.hid (show _ from (And.intro t0 (And.intro t1 t2))); clear t0 t1 t2; have z0 : b24 < u1.heap.size := lt_of_block (HL.out.get (b := b24) (o := .cells #[.int .u8 1, .int .i64 r, .string ⟨#[]⟩] 25 (0, 0)) (List.mem_cons_self ..)); have z1 : b20 < u1.heap.size := lt_of_block (HL.out.get (b := b20) (o := .cells #[.int .u8 1, .int .i64 q, .string ⟨#[]⟩] 25 (0, 0)) (List.mem_cons_of_mem _ (List.mem_cons_self ..))); have z2 : b15 < u1.heap.size := lt_of_block (HL.out.get (b := b15) (o := .cells #[.int .u8 0, .int .i64 0, .string ⟨#[]⟩] 25 (0, 0)) (List.mem_cons_of_mem _ (List.mem_cons_of_mem _ (List.mem_cons_self ..)))); have z3 : b10 < u1.heap.size := lt_of_block (HL.out.get (b := b10) (o := .cells #[.int .u8 1, .int .i64 d, .string ⟨#[]⟩] 25 (0, 0)) (List.mem_cons_of_mem _ (List.mem_cons_of_mem _ (List.mem_cons_of_mem _ (List.mem_cons_self ..))))); have z4 : b5 < u1.heap.size := lt_of_block (HL.out.get (b := b5) (o := .cells #[.int .u8 0, .int .i64 0, .string ⟨#[]⟩] 25 (0, 0)) (List.mem_cons_of_mem _ (List.mem_cons_of_mem _ (List.mem_cons_of_mem _ (List.mem_cons_of_mem _ (List.mem_cons_self ..))))))) | ((first | refine stepZ HM.out (fun hB => n_any _ _) ?_ | refine stepZ HM.out.zero (fun hB => n_any _ _) ?_ | refine stepZ HM.out.zero.drew' (fun hB => n_any _ _) ?_ | refine stepZ HM.out.drew'.zero (fun hB => n_any _ _) ?_ | refine stepZ HM.out.drew' (fun hB => n_any _ _) ?_); intro u1 HM HL; have t0 : u1.cell? ⟨b20, 0, none⟩ = some (.int .u8 1) := HL.out.cell (b := b20) (cs := #[.int .u8 1, .int .i64 q, .string ⟨#[]⟩]) (t := 25) (fr := (0, 0)) (List.mem_cons_of_mem _ (List.mem_cons_self ..)) (0); have t1 : u1.cell? ⟨b20, 1, none⟩ = some (.int .i64 q) := HL.out.cell (b := b20) (cs := #[.int .u8 1, .int .i64 q, .string ⟨#[]⟩]) (t := 25) (fr := (0, 0)) (List.mem_cons_of_mem _ (List.mem_cons_self ..)) (1); have t2 : u1.cell? ⟨b20, 2, none⟩ = some (.string ⟨#[]⟩) := HL.out.cell (b := b20) (cs := #[.int .u8 1, .int .i64 q, .string ⟨#[]⟩]) (t := 25) (fr := (0, 0)) (List.mem_cons_of_mem _ (List.mem_cons_self ..)) (2); have SS := Lib.hid (show _ from (And.intro t0 (And.intro t1 t2))); clear t0 t1 t2; have z0 : b24 < u1.heap.size := lt_of_block (HL.out.get (b := b24) (o := .cells #[.int .u8 1, .int .i64 r, .string ⟨#[]⟩] 25 (0, 0)) (List.mem_cons_self ..)); have z1 : b20 < u1.heap.size := lt_of_block (HL.out.get (b := b20) (o := .cells #[.int .u8 1, .int .i64 q, .string ⟨#[]⟩] 25 (0, 0)) (List.mem_cons_of_mem _ (List.mem_cons_self ..))); have z2 : b15 < u1.heap.size := lt_of_block (HL.out.get (b := b15) (o := .cells #[.int .u8 0, .int .i64 0, .string ⟨#[]⟩] 25 (0, 0)) (List.mem_cons_of_mem _ (List.mem_cons_of_mem _ (List.mem_cons_self ..)))); have z3 : b10 < u1.heap.size := lt_of_block (HL.out.get (b := b10) (o := .cells #[.int .u8 1, .int .i64 d, .string ⟨#[]⟩] 25 (0, 0)) (List.mem_cons_of_mem _ (List.mem_cons_of_mem _ (List.mem_cons_of_mem _ (List.mem_cons_self ..))))); have z4 : b5 < u1.heap.size := lt_of_block (HL.out.get (b := b5) (o := .cells #[.int .u8 0, .int .i64 0, .string ⟨#[]⟩] 25 (0, 0)) (List.mem_cons_of_mem _ (List.mem_cons_of_mem _ (List.mem_cons_of_mem _ (List.mem_cons_of_mem _ (List.mem_cons_self ..)))))); have r0 : u1.cell? ⟨_, 0, none⟩ = some (.int .u8 0) := HM.out.cell 0; have r1 : u1.cell? ⟨_, 1, none⟩ = some (.int .i64 0) := HM.out.cell 1; have r2 : u1.cell? ⟨_, 2, none⟩ = some (.string ⟨#[]⟩) := HM.out.cell 2; have f0 : u1.frozen? ⟨_, 0, none⟩ = false := HM.out.free 0; have f1 : u1.frozen? ⟨_, 1, none⟩ = false := HM.out.free 1; have f2 : u1.frozen? ⟨_, 2, none⟩ = false := HM.out.free 2; have z9 : _ < u1.heap.size := lt_of_block HM.out.new))) | (go_at_call 8; (first | ((first | refine stepF HM.out (fun hB => two_is 7 1 q _ 1 b _ 1 n _ 0 (by omega) (by omega) (by omega) q0 q1 b0 b1 Khn.out _ (HW.out _ hB)) ?_ | refine stepF HM.out.drew' (fun hB => two_is 7 1 q _ 1 b _ 1 n _ 0 (by omega) (by omega) (by omega) q0 q1 b0 b1 Khn.out _ (HW.out _ hB)) ?_); intro u2 HM HL; have t0 : u2.cell? ⟨b20, 0, none⟩ = some (.int .u8 1) := HL.out.cell (b := b20) (cs := #[.int .u8 1, .int .i64 q, .string ⟨#[]⟩]) (t := 25) (fr := (0, 0)) (List.mem_cons_of_mem _ (List.mem_cons_self ..)) (0); have t1 : u2.cell? ⟨b20, 1, none⟩ = some (.int .i64 q) := HL.out.cell (b := b20) (cs := #[.int .u8 1, .int .i64 q, .string ⟨#[]⟩]) (t := 25) (fr := (0, 0)) (List.mem_cons_of_mem _ (List.mem_cons_self ..)) (1); have t2 : u2.cell? ⟨b20, 2, none⟩ = some (.string ⟨#[]⟩) := HL.out.cell (b := b20) (cs := #[.int .u8 1, .int .i64 q, .string ⟨#[]⟩]) (t := 25) (fr := (0, 0)) (List.mem_cons_of_mem _ (List.mem_cons_self ..)) (2); have SS := Lib.hid (show _ from (And.intro t0 (And.intro t1 t2))); clear t0 t1 t2; have z0 : b24 < u2.heap.size := lt_of_block (HL.out.get (b := b24) (o := .cells #[.int .u8 1, .int .i64 r, .string ⟨#[]⟩] 25 (0, 0)) (List.mem_cons_self ..)); have z1 : b20 < u2.heap.size := lt_of_block (HL.out.get (b := b20) (o := .cells #[.int .u8 1, .int .i64 q, .string ⟨#[]⟩] 25 (0, 0)) (List.mem_cons_of_mem _ (List.mem_cons_self ..))); have z2 : b15 < u2.heap.size := lt_of_block (HL.out.get (b := b15) (o := .cells #[.int .u8 0, .int .i64 0, .string ⟨#[]⟩] 25 (0, 0)) (List.mem_cons_of_mem _ (List.mem_cons_of_mem _ (List.mem_cons_self ..)))); have z3 : b10 < u2.heap.size := lt_of_block (HL.out.get (b := b10) (o := .cells #[.int .u8 1, .int .i64 d, .string ⟨#[]⟩] 25 (0, 0)) (List.mem_cons_of_mem _ (List.mem_cons_of_mem _ (List.mem_cons_of_mem _ (List.mem_cons_self ..))))); have z4 : b5 < u2.heap.size := lt_of_block (HL.out.get (b := b5) (o := .cells #[.int .u8 0, .int .i64 0, .string ⟨#[]⟩] 25 (0, 0)) (List.mem_cons_of_mem _ (List.mem_cons_of_mem _ (List.mem_cons_of_mem _ (List.mem_cons_of_mem _ (List.mem_cons_self ..))))))) | ((first | refine stepZ HM.out (fun hB => two_is 7 1 q _ 1 b _ 1 n _ 0 (by omega) (by omega) (by omega) q0 q1 b0 b1 Khn.out _ (HW.out _ hB)) ?_ | refine stepZ HM.out.zero (fun hB => two_is 7 1 q _ 1 b _ 1 n _ 0 (by omega) (by omega) (by omega) q0 q1 b0 b1 Khn.out _ (HW.out _ hB)) ?_ | refine stepZ HM.out.zero.drew' (fun hB => two_is 7 1 q _ 1 b _ 1 n _ 0 (by omega) (by omega) (by omega) q0 q1 b0 b1 Khn.out _ (HW.out _ hB)) ?_ | refine stepZ HM.out.drew'.zero (fun hB => two_is 7 1 q _ 1 b _ 1 n _ 0 (by omega) (by omega) (by omega) q0 q1 b0 b1 Khn.out _ (HW.out _ hB)) ?_ | refine stepZ HM.out.drew' (fun hB => two_is 7 1 q _ 1 b _ 1 n _ 0 (by omega) (by omega) (by omega) q0 q1 b0 b1 Khn.out _ (HW.out _ hB)) ?_); intro u2 HM HL; have t0 : u2.cell? ⟨b20, 0, none⟩ = some (.int .u8 1) := HL.out.cell (b := b20) (cs := #[.int .u8 1, .int .i64 q, .string ⟨#[]⟩]) (t := 25) (fr := (0, 0)) (List.mem_cons_of_mem _ (List.mem_cons_self ..)) (0); have t1 : u2.cell? ⟨b20, 1, none⟩ = some (.int .i64 q) := HL.out.cell (b := b20) (cs := #[.int .u8 1, .int .i64 q, .string ⟨#[]⟩]) (t := 25) (fr := (0, 0)) (List.mem_cons_of_mem _ (List.mem_cons_self ..)) (1); have t2 : u2.cell? ⟨b20, 2, none⟩ = some (.string ⟨#[]⟩) := HL.out.cell (b := b20) (cs := #[.int .u8 1, .int .i64 q, .string ⟨#[]⟩]) (t := 25) (fr := (0, 0)) (List.mem_cons_of_mem _ (List.mem_cons_self ..)) (2); have SS := Lib.hid (show _ from (And.intro t0 (And.intro t1 t2))); clear t0 t1 t2; have z0 : b24 < u2.heap.size := lt_of_block (HL.out.get (b := b24) (o := .cells #[.int .u8 1, .int .i64 r, .string ⟨#[]⟩] 25 (0, 0)) (List.mem_cons_self ..)); have z1 : b20 < u2.heap.size := lt_of_block (HL.out.get (b := b20) (o := .cells #[.int .u8 1, .int .i64 q, .string ⟨#[]⟩] 25 (0, 0)) (List.mem_cons_of_mem _ (List.mem_cons_self ..))); have z2 : b15 < u2.heap.size := lt_of_block (HL.out.get (b := b15) (o := .cells #[.int .u8 0, .int .i64 0, .string ⟨#[]⟩] 25 (0, 0)) (List.mem_cons_of_mem _ (List.mem_cons_of_mem _ (List.mem_cons_self ..)))); have z3 : b10 < u2.heap.size := lt_of_block (HL.out.get (b := b10) (o := .cells #[.int .u8 1, .int .i64 d, .string ⟨#[]⟩] 25 (0, 0)) (List.mem_cons_of_mem _ (List.mem_cons_of_mem _ (List.mem_cons_of_mem _ (List.mem_cons_self ..))))); have z4 : b5 < u2.heap.size := lt_of_block (HL.out.get (b := b5) (o := .cells #[.int .u8 0, .int .i64 0, .string ⟨#[]⟩] 25 (0, 0)) (List.mem_cons_of_mem _ (List.mem_cons_of_mem _ (List.mem_cons_of_mem _ (List.mem_cons_of_mem _ (List.mem_cons_self ..)))))); have r0 : u2.cell? ⟨_, 0, none⟩ = some (.int .u8 0) := HM.out.cell 0; have r1 : u2.cell? ⟨_, 1, none⟩ = some (.int .i64 0) := HM.out.cell 1; have r2 : u2.cell? ⟨_, 2, none⟩ = some (.string ⟨#[]⟩) := HM.out.cell 2; have f0 : u2.frozen? ⟨_, 0, none⟩ = false := HM.out.free 0; have f1 : u2.frozen? ⟨_, 1, none⟩ = false := HM.out.free 1; have f2 : u2.frozen? ⟨_, 2, none⟩ = false := HM.out.free 2; have z9 : _ < u2.heap.size := lt_of_block HM.out.new)))))
    all_goals (first | (obtain ⟨bx, hx, HO⟩ := endF (.cells #[.int .u8 1, .int .i64 n, .string ⟨#[]⟩] 25 (0, 0)) HM.out; refine ⟨rfl, ?_⟩; (try rw [← hx] at HO); rw [← hx]; exact ⟨bx, rfl, HO⟩) | (obtain ⟨bx, hx, HO⟩ := endZ (.int .u8 1) (.int .i64 n) (.string ⟨#[]⟩) HM.out; refine ⟨rfl, ?_⟩; (try rw [← hx] at HO); rw [← hx]; exact ⟨bx, rfl, HO⟩))
  intro bn9 v9 H9
  clear HM HL s0 s1 s2 z0 z1 z2 z3 z4
  clear HY24
  go_wp2_with fail
  have p0 : v9.cell? ⟨bn9, 0, none⟩ = some (.int .u8 1) := H9.out.cell (b := bn9) (cs := #[.int .u8 1, .int .i64 n, .string ⟨#[]⟩]) (t := 25) (fr := (0, 0)) (List.mem_cons_self ..) (0)
  have p1 : v9.cell? ⟨bn9, 1, none⟩ = some (.int .i64 n) := H9.out.cell (b := bn9) (cs := #[.int .u8 1, .int .i64 n, .string ⟨#[]⟩]) (t := 25) (fr := (0, 0)) (List.mem_cons_self ..) (1)
  have p2 : v9.cell? ⟨bn9, 2, none⟩ = some (.string ⟨#[]⟩) := H9.out.cell (b := bn9) (cs := #[.int .u8 1, .int .i64 n, .string ⟨#[]⟩]) (t := 25) (fr := (0, 0)) (List.mem_cons_self ..) (2)
  have p3 : v9.cell? ⟨b24, 0, none⟩ = some (.int .u8 1) := H9.out.cell (b := b24) (cs := #[.int .u8 1, .int .i64 r, .string ⟨#[]⟩]) (t := 25) (fr := (0, 0)) (List.mem_cons_of_mem _ (List.mem_cons_self ..)) (0)
  have p4 : v9.cell? ⟨b24, 1, none⟩ = some (.int .i64 r) := H9.out.cell (b := b24) (cs := #[.int .u8 1, .int .i64 r, .string ⟨#[]⟩]) (t := 25) (fr := (0, 0)) (List.mem_cons_of_mem _ (List.mem_cons_self ..)) (1)
  have p5 : v9.cell? ⟨b24, 2, none⟩ = some (.string ⟨#[]⟩) := H9.out.cell (b := b24) (cs := #[.int .u8 1, .int .i64 r, .string ⟨#[]⟩]) (t := 25) (fr := (0, 0)) (List.mem_cons_of_mem _ (List.mem_cons_self ..)) (2)
  have q0 := bwOf_cell v9 _ _ p0
  have q1 := bwOf_cell v9 _ _ p1
  have q2 := bwOf_cell v9 _ _ p2
  have q3 := bwOf_cell v9 _ _ p3
  have q4 := bwOf_cell v9 _ _ p4
  have q5 := bwOf_cell v9 _ _ p5
  clear p0 p1 p2 p3 p4 p5
  refine wp_region_bw (w := v9) (by kernel_rfl) (by kernel_rfl) ?_
  repeat (go_big_quiet_step (fail))
  go_big_quiet_step ((go_at_call 11; exact below_of (n_any _ _)))
  repeat (go_big_quiet_step (fail))
  go_big_quiet_step ((go_at_call 12; exact below_of (two_yes 5 1 n _ 1 r _ 1 a _ 0 (by omega) (by omega) (by omega) n0 n1 r0 r1 Khf.out _ (HW.out _ (below_end H9.out.below (bwOf_below _ _))))))
  repeat (go_big_quiet_step (fail))
  refine wpQuiet_nil ?_
  rintro z25 ⟨m9, rfl⟩
  have HZ25 := Lib.hid (H9.out.kept (bwOf_below v9 m9))
  clear q0 q1 q2 q3 q4 q5
  generalize bwOf v9 m9 = z25 at *
  go_wp2_with fail
  go_ret
  exact ⟨rfl, HZ25.out.below⟩
set_option maxRecDepth 100000 in
set_option maxHeartbeats 16000000 in
theorem back_sdPR (a : Int) (a0 : -9223372036854775808 ≤ a) (a1 : a ≤ 9223372036854775807) (b : Int) (b0 : -9223372036854775808 ≤ b) (b1 : b ≤ 9223372036854775807) (sg : Bool) (sa : decide (a < 0) = sg)
    (hs : Val.two 5 ⟨1, a, ⟨#[]⟩⟩ ⟨1, b, ⟨#[]⟩⟩ = (⟨0, 0, ⟨#[]⟩⟩, 12))
    (sb : decide (b < 0) = sg)
    (hd : Val.two 6 ⟨1, a, ⟨#[]⟩⟩ ⟨1, b, ⟨#[]⟩⟩ = (⟨0, 0, ⟨#[]⟩⟩, 12))
    (m : Int) (m0 : -9223372036854775808 ≤ m) (m1 : m ≤ 9223372036854775807)
    (hp : Val.two 7 ⟨1, a, ⟨#[]⟩⟩ ⟨1, b, ⟨#[]⟩⟩ = (⟨1, m, ⟨#[]⟩⟩, 0))
    (bn : (b != 0) = true)
    (az : (a == 0) = false)
    (hp1 : Val.two 8 ⟨1, m, ⟨#[]⟩⟩ ⟨1, b, ⟨#[]⟩⟩ = (⟨1, a, ⟨#[]⟩⟩, 0))
    (bz : (b == 0) = false)
    (q : Int) (q0 : -9223372036854775808 ≤ q) (q1 : q ≤ 9223372036854775807)
    (hq : Val.two 8 ⟨1, a, ⟨#[]⟩⟩ ⟨1, b, ⟨#[]⟩⟩ = (⟨1, q, ⟨#[]⟩⟩, 0))
    (r : Int) (r0 : -9223372036854775808 ≤ r) (r1 : r ≤ 9223372036854775807)
    (hr : Val.two 9 ⟨1, a, ⟨#[]⟩⟩ ⟨1, b, ⟨#[]⟩⟩ = (⟨1, r, ⟨#[]⟩⟩, 0))
    (rz : (r != 0) = false)
    (n : Int) (n0 : -9223372036854775808 ≤ n) (n1 : n ≤ 9223372036854775807)
    (hn : Val.two 7 ⟨1, q, ⟨#[]⟩⟩ ⟨1, b, ⟨#[]⟩⟩ = (⟨1, n, ⟨#[]⟩⟩, 0))
    (hf : Val.two 5 ⟨1, n, ⟨#[]⟩⟩ ⟨1, r, ⟨#[]⟩⟩ = (⟨1, a, ⟨#[]⟩⟩, 0)) (w : World) (hw : Wd w) :
    Calls Tryd.prog 4 #[.int .i64 a, .int .i64 b] w fun e w' => e = .returned (.bool true) ∧ Below w.heap.size w w' := by
  have Khs := Lib.hid hs
  have Khd := Lib.hid hd
  have Khp := Lib.hid hp
  have Khp1 := Lib.hid hp1
  have Khq := Lib.hid hq
  have Khr := Lib.hid hr
  have Khn := Lib.hid hn
  have Khf := Lib.hid hf
  clear hs hd hp hp1 hq hr hn hf
  have HW : Hid (∀ x, Below w.heap.size w x → Wd x) := Lib.hid (fun _ h => hw.kept h)
  clear hw
  have H0 : Hid (Fam w [] w) := Lib.hid (fam_n0 w)
  go_enter Tryd.func4, Tryd.ntmps4
  go_wp2_with fail
  refine stepF H0.out (fun hB => alive_yes _ (HW.out _ hB)) ?_
  intro x1 HX1 _
  go_wp2_with fail
  refine stepF HX1.out (fun hB => n_any _ _) ?_
  intro x2 HX2 _
  go_wp2_with fail
  refine stepF HX2.out (fun hB => n_any _ _) ?_
  intro x3 HX3 _
  go_wp2_with fail
  refine stepF HX3.out (fun hB => two_is 5 1 a _ 1 b _ 0 0 _ 12 (by omega) (by omega) (by omega) a0 a1 b0 b1 Khs.out _ (HW.out _ hB)) ?_
  intro x4 HX4 _
  go_wp2_with fail
  have HY5 := Lib.hid (HX4.out.add (below_alloc x4 (.cells #[.int .u8 0, .int .i64 0, .string ⟨#[]⟩] 25)) (Nat.le_refl _) (heap_alloc_new _ _))
  obtain ⟨b5, hb5⟩ : ∃ x, x = x4.heap.size := ⟨_, rfl⟩
  obtain ⟨y5, hy5⟩ : ∃ x, x = x4.alloc (.cells #[.int .u8 0, .int .i64 0, .string ⟨#[]⟩] 25) := ⟨_, rfl⟩
  rw [← hb5, ← hy5] at HY5
  rw [← hb5, ← hy5]
  clear hb5 hy5
  refine wp_region_bw (w := y5) (by kernel_rfl) (by kernel_rfl) ?_
  repeat (go_big_quiet_step (fail))
  refine wpQuiet_nil ?_
  rintro z6 ⟨m9, rfl⟩
  have HZ6 := Lib.hid (HY5.out.kept (bwOf_below y5 m9))
  generalize bwOf y5 m9 = z6 at *
  go_wp2_with fail
  refine stepF HZ6.out (fun hB => n_any _ _) ?_
  intro x7 HX7 _
  go_wp2_with fail
  refine stepF HX7.out (fun hB => n_any _ _) ?_
  intro x8 HX8 _
  go_wp2_with fail
  refine stepF HX8.out (fun hB => two_is 6 1 a _ 1 b _ 0 0 _ 12 (by omega) (by omega) (by omega) a0 a1 b0 b1 Khd.out _ (HW.out _ hB)) ?_
  intro x9 HX9 _
  go_wp2_with fail
  have HY10 := Lib.hid (HX9.out.add (below_alloc x9 (.cells #[.int .u8 0, .int .i64 0, .string ⟨#[]⟩] 25)) (Nat.le_refl _) (heap_alloc_new _ _))
  obtain ⟨b10, hb10⟩ : ∃ x, x = x9.heap.size := ⟨_, rfl⟩
  obtain ⟨y10, hy10⟩ : ∃ x, x = x9.alloc (.cells #[.int .u8 0, .int .i64 0, .string ⟨#[]⟩] 25) := ⟨_, rfl⟩
  rw [← hb10, ← hy10] at HY10
  rw [← hb10, ← hy10]
  clear hb10 hy10
  refine wp_region_bw (w := y10) (by kernel_rfl) (by kernel_rfl) ?_
  repeat (go_big_quiet_step (fail))
  refine wpQuiet_nil ?_
  rintro z11 ⟨m9, rfl⟩
  have HZ11 := Lib.hid (HY10.out.kept (bwOf_below y10 m9))
  generalize bwOf y10 m9 = z11 at *
  go_wp2_with fail
  refine stepF HZ11.out (fun hB => n_any _ _) ?_
  intro x12 HX12 _
  go_wp2_with fail
  refine stepF HX12.out (fun hB => n_any _ _) ?_
  intro x13 HX13 _
  go_wp2_with fail
  refine stepF HX13.out (fun hB => two_is 7 1 a _ 1 b _ 1 m _ 0 (by omega) (by omega) (by omega) a0 a1 b0 b1 Khp.out _ (HW.out _ hB)) ?_
  intro x14 HX14 _
  go_wp2_with fail
  have HY15 := Lib.hid (HX14.out.add (below_alloc x14 (.cells #[.int .u8 1, .int .i64 m, .string ⟨#[]⟩] 25)) (Nat.le_refl _) (heap_alloc_new _ _))
  obtain ⟨b15, hb15⟩ : ∃ x, x = x14.heap.size := ⟨_, rfl⟩
  obtain ⟨y15, hy15⟩ : ∃ x, x = x14.alloc (.cells #[.int .u8 1, .int .i64 m, .string ⟨#[]⟩] 25) := ⟨_, rfl⟩
  rw [← hb15, ← hy15] at HY15
  rw [← hb15, ← hy15]
  clear hb15 hy15
  have p0 : y15.cell? ⟨b15, 0, none⟩ = some (.int .u8 1) := HY15.out.cell (b := b15) (cs := #[.int .u8 1, .int .i64 m, .string ⟨#[]⟩]) (t := 25) (fr := (0, 0)) (List.mem_cons_self ..) (0)
  have p1 : y15.cell? ⟨b15, 1, none⟩ = some (.int .i64 m) := HY15.out.cell (b := b15) (cs := #[.int .u8 1, .int .i64 m, .string ⟨#[]⟩]) (t := 25) (fr := (0, 0)) (List.mem_cons_self ..) (1)
  have p2 : y15.cell? ⟨b15, 2, none⟩ = some (.string ⟨#[]⟩) := HY15.out.cell (b := b15) (cs := #[.int .u8 1, .int .i64 m, .string ⟨#[]⟩]) (t := 25) (fr := (0, 0)) (List.mem_cons_self ..) (2)
  have q0 := bwOf_cell y15 _ _ p0
  have q1 := bwOf_cell y15 _ _ p1
  have q2 := bwOf_cell y15 _ _ p2
  clear p0 p1 p2
  refine wp_region_bw (w := y15) (by kernel_rfl) (by kernel_rfl) ?_
  repeat (go_big_quiet_step (fail))
  go_big_quiet_step ((go_at_call 11; exact below_of (n_any _ _)))
  repeat (go_big_quiet_step (fail))
  go_big_quiet_step ((go_at_call 11; exact below_of (n_any _ _)))
  repeat (go_big_quiet_step (fail))
  go_big_quiet_step ((go_at_call 12; exact below_of (two_yes 8 1 m _ 1 b _ 1 a _ 0 (by omega) (by omega) (by omega) m0 m1 b0 b1 Khp1.out _ (HW.out _ (below_end HY15.out.below (bwOf_below _ _))))))
  repeat (go_big_quiet_step (fail))
  refine wpQuiet_nil ?_
  rintro z16 ⟨m9, rfl⟩
  have HZ16 := Lib.hid (HY15.out.kept (bwOf_below y15 m9))
  clear q0 q1 q2
  generalize bwOf y15 m9 = z16 at *
  go_wp2_with fail
  refine stepF HZ16.out (fun hB => n_any _ _) ?_
  intro x17 HX17 _
  go_wp2_with fail
  refine stepF HX17.out (fun hB => n_any _ _) ?_
  intro x18 HX18 _
  go_wp2_with fail
  refine stepF HX18.out (fun hB => two_is 8 1 a _ 1 b _ 1 q _ 0 (by omega) (by omega) (by omega) a0 a1 b0 b1 Khq.out _ (HW.out _ hB)) ?_
  intro x19 HX19 _
  go_wp2_with fail
  have HY20 := Lib.hid (HX19.out.add (below_alloc x19 (.cells #[.int .u8 1, .int .i64 q, .string ⟨#[]⟩] 25)) (Nat.le_refl _) (heap_alloc_new _ _))
  obtain ⟨b20, hb20⟩ : ∃ x, x = x19.heap.size := ⟨_, rfl⟩
  obtain ⟨y20, hy20⟩ : ∃ x, x = x19.alloc (.cells #[.int .u8 1, .int .i64 q, .string ⟨#[]⟩] 25) := ⟨_, rfl⟩
  rw [← hb20, ← hy20] at HY20
  rw [← hb20, ← hy20]
  clear hb20 hy20
  refine stepF HY20.out (fun hB => n_any _ _) ?_
  intro x21 HX21 _
  go_wp2_with fail
  refine stepF HX21.out (fun hB => n_any _ _) ?_
  intro x22 HX22 _
  go_wp2_with fail
  refine stepF HX22.out (fun hB => two_is 9 1 a _ 1 b _ 1 r _ 0 (by omega) (by omega) (by omega) a0 a1 b0 b1 Khr.out _ (HW.out _ hB)) ?_
  intro x23 HX23 _
  go_wp2_with fail
  have HY24 := Lib.hid (HX23.out.add (below_alloc x23 (.cells #[.int .u8 1, .int .i64 r, .string ⟨#[]⟩] 25)) (Nat.le_refl _) (heap_alloc_new _ _))
  obtain ⟨b24, hb24⟩ : ∃ x, x = x23.heap.size := ⟨_, rfl⟩
  obtain ⟨y24, hy24⟩ : ∃ x, x = x23.alloc (.cells #[.int .u8 1, .int .i64 r, .string ⟨#[]⟩] 25) := ⟨_, rfl⟩
  rw [← hb24, ← hy24] at HY24
  rw [← hb24, ← hy24]
  clear hb24 hy24
  have s0 : y24.cell? ⟨b24, 0, none⟩ = some (.int .u8 1) := HY24.out.cell (b := b24) (cs := #[.int .u8 1, .int .i64 r, .string ⟨#[]⟩]) (t := 25) (fr := (0, 0)) (List.mem_cons_self ..) (0)
  have s1 : y24.cell? ⟨b24, 1, none⟩ = some (.int .i64 r) := HY24.out.cell (b := b24) (cs := #[.int .u8 1, .int .i64 r, .string ⟨#[]⟩]) (t := 25) (fr := (0, 0)) (List.mem_cons_self ..) (1)
  have s2 : y24.cell? ⟨b24, 2, none⟩ = some (.string ⟨#[]⟩) := HY24.out.cell (b := b24) (cs := #[.int .u8 1, .int .i64 r, .string ⟨#[]⟩]) (t := 25) (fr := (0, 0)) (List.mem_cons_self ..) (2)
  go_wp2_with fail
  clear s0 s1 s2
  have s0 : y24.cell? ⟨b20, 0, none⟩ = some (.int .u8 1) := HY24.out.cell (b := b20) (cs := #[.int .u8 1, .int .i64 q, .string ⟨#[]⟩]) (t := 25) (fr := (0, 0)) (List.mem_cons_of_mem _ (List.mem_cons_self ..)) (0)
  have s1 : y24.cell? ⟨b20, 1, none⟩ = some (.int .i64 q) := HY24.out.cell (b := b20) (cs := #[.int .u8 1, .int .i64 q, .string ⟨#[]⟩]) (t := 25) (fr := (0, 0)) (List.mem_cons_of_mem _ (List.mem_cons_self ..)) (1)
  have s2 : y24.cell? ⟨b20, 2, none⟩ = some (.string ⟨#[]⟩) := HY24.out.cell (b := b20) (cs := #[.int .u8 1, .int .i64 q, .string ⟨#[]⟩]) (t := 25) (fr := (0, 0)) (List.mem_cons_of_mem _ (List.mem_cons_self ..)) (2)
  have z0 : b24 < y24.heap.size := lt_of_block (HY24.out.get (b := b24) (o := .cells #[.int .u8 1, .int .i64 r, .string ⟨#[]⟩] 25 (0, 0)) (List.mem_cons_self ..))
  have z1 : b20 < y24.heap.size := lt_of_block (HY24.out.get (b := b20) (o := .cells #[.int .u8 1, .int .i64 q, .string ⟨#[]⟩] 25 (0, 0)) (List.mem_cons_of_mem _ (List.mem_cons_self ..)))
  have z2 : b15 < y24.heap.size := lt_of_block (HY24.out.get (b := b15) (o := .cells #[.int .u8 1, .int .i64 m, .string ⟨#[]⟩] 25 (0, 0)) (List.mem_cons_of_mem _ (List.mem_cons_of_mem _ (List.mem_cons_self ..))))
  have z3 : b10 < y24.heap.size := lt_of_block (HY24.out.get (b := b10) (o := .cells #[.int .u8 0, .int .i64 0, .string ⟨#[]⟩] 25 (0, 0)) (List.mem_cons_of_mem _ (List.mem_cons_of_mem _ (List.mem_cons_of_mem _ (List.mem_cons_self ..)))))
  have z4 : b5 < y24.heap.size := lt_of_block (HY24.out.get (b := b5) (o := .cells #[.int .u8 0, .int .i64 0, .string ⟨#[]⟩] 25 (0, 0)) (List.mem_cons_of_mem _ (List.mem_cons_of_mem _ (List.mem_cons_of_mem _ (List.mem_cons_of_mem _ (List.mem_cons_self ..))))))
  have HM := HY24
  have HL := HY24
  apply wp_merge (R := fun b x => Hid (Fam w ((b, .cells #[.int .u8 1, .int .i64 n, .string ⟨#[]⟩] 25 (0, 0)) :: [(b24, .cells #[.int .u8 1, .int .i64 r, .string ⟨#[]⟩] 25 (0, 0)), (b20, .cells #[.int .u8 1, .int .i64 q, .string ⟨#[]⟩] 25 (0, 0)), (b15, .cells #[.int .u8 1, .int .i64 m, .string ⟨#[]⟩] 25 (0, 0)), (b10, .cells #[.int .u8 0, .int .i64 0, .string ⟨#[]⟩] 25 (0, 0)), (b5, .cells #[.int .u8 0, .int .i64 0, .string ⟨#[]⟩] 25 (0, 0))]) x))
  case h =>
    go_region_held3 (fun x => x.cell? ⟨b20, 0, none⟩ = some (.int .u8 1) ∧ x.cell? ⟨b20, 1, none⟩ = some (.int .i64 q) ∧ x.cell? ⟨b20, 2, none⟩ = some (.string ⟨#[]⟩)) (first | with_reducible exact ⟨s0, s1, s2⟩ | with_reducible exact ⟨keep_drew s0, keep_drew s1, keep_drew s2⟩ | with_reducible exact ⟨keep_drew (keep_alloc s0), keep_drew (keep_alloc s1), keep_drew (keep_alloc s2)⟩ | with_reducible exact ⟨keep_alloc (keep_drew s0), keep_alloc (keep_drew s1), keep_alloc (keep_drew s2)⟩ | with_reducible exact SS.out | with_reducible exact ⟨keep_alloc SS.out.1, keep_alloc SS.out.2.1, keep_alloc SS.out.2.2⟩ | with_reducible exact ⟨(set3_other (by omega) _ _ _ _).trans SS.out.1, (set3_other (by omega) _ _ _ _).trans SS.out.2.1, (set3_other (by omega) _ _ _ _).trans SS.out.2.2⟩) ((first | (go_at_call 11; (first | ((first | refine stepF HM.out (fun hB => n_any _ _) ?_ | refine stepF HM.out.drew' (fun hB => n_any _ _) ?_); intro u1 HM HL; have t0 : u1.cell? ⟨b20, 0, none⟩ = some (.int .u8 1) := HL.out.cell (b := b20) (cs := #[.int .u8 1, .int .i64 q, .string ⟨#[]⟩]) (t := 25) (fr := (0, 0)) (List.mem_cons_of_mem _ (List.mem_cons_self ..)) (0); have t1 : u1.cell? ⟨b20, 1, none⟩ = some (.int .i64 q) := HL.out.cell (b := b20) (cs := #[.int .u8 1, .int .i64 q, .string ⟨#[]⟩]) (t := 25) (fr := (0, 0)) (List.mem_cons_of_mem _ (List.mem_cons_self ..)) (1); have t2 : u1.cell? ⟨b20, 2, none⟩ = some (.string ⟨#[]⟩) := HL.out.cell (b := b20) (cs := #[.int .u8 1, .int .i64 q, .string ⟨#[]⟩]) (t := 25) (fr := (0, 0)) (List.mem_cons_of_mem _ (List.mem_cons_self ..)) (2); have SS := Lib.hid (show _ from (And.intro t0 (And.intro t1 t2))); clear t0 t1 t2; have z0 : b24 < u1.heap.size := lt_of_block (HL.out.get (b := b24) (o := .cells #[.int .u8 1, .int .i64 r, .string ⟨#[]⟩] 25 (0, 0)) (List.mem_cons_self ..)); have z1 : b20 < u1.heap.size := lt_of_block (HL.out.get (b := b20) (o := .cells #[.int .u8 1, .int .i64 q, .string ⟨#[]⟩] 25 (0, 0)) (List.mem_cons_of_mem _ (List.mem_cons_self ..))); have z2 : b15 < u1.heap.size := lt_of_block (HL.out.get (b := b15) (o := .cells #[.int .u8 1, .int .i64 m, .string ⟨#[]⟩] 25 (0, 0)) (List.mem_cons_of_mem _ (List.mem_cons_of_mem _ (List.mem_cons_self ..)))); have z3 : b10 < u1.heap.size := lt_of_block (HL.out.get (b := b10) (o := .cells #[.int .u8 0, .int .i64 0, .string ⟨#[]⟩] 25 (0, 0)) (List.mem_cons_of_mem _ (List.mem_cons_of_mem _ (List.mem_cons_of_mem _ (List.mem_cons_self ..))))); have z4 : b5 < u1.heap.size := lt_of_block (HL.out.get (b := b5) (o := .cells #[.int .u8 0, .int .i64 0, .string ⟨#[]⟩] 25 (0, 0)) (List.mem_cons_of_mem _ (List.mem_cons_of_mem _ (List.mem_cons_of_mem _ (List.mem_cons_of_mem _ (List.mem_cons_self ..))))))) | ((first | refine stepZ HM.out (fun hB => n_any _ _) ?_ | refine stepZ HM.out.zero (fun hB => n_any _ _) ?_ | refine stepZ HM.out.zero.drew' (fun hB => n_any _ _) ?_ | refine stepZ HM.out.drew'.zero (fun hB => n_any _ _) ?_ | refine stepZ HM.out.drew' (fun hB => n_any _ _) ?_); intro u1 HM HL; have t0 : u1.cell? ⟨b20, 0, none⟩ = some (.int .u8 1) := HL.out.cell (b := b20) (cs := #[.int .u8 1, .int .i64 q, .string ⟨#[]⟩]) (t := 25) (fr := (0, 0)) (List.mem_cons_of_mem _ (List.mem_cons_self ..)) (0); have t1 : u1.cell? ⟨b20, 1, none⟩ = some (.int .i64 q) := HL.out.cell (b := b20) (cs := #[.int .u8 1, .int .i64 q, .string ⟨#[]⟩]) (t := 25) (fr := (0, 0)) (List.mem_cons_of_mem _ (List.mem_cons_self ..)) (1); have t2 : u1.cell? ⟨b20, 2, none⟩ = some (.string ⟨#[]⟩) := HL.out.cell (b := b20) (cs := #[.int .u8 1, .int .i64 q, .string ⟨#[]⟩]) (t := 25) (fr := (0, 0)) (List.mem_cons_of_mem _ (List.mem_cons_self ..)) (2); have SS := Lib.hid (show _ from (And.intro t0 (And.intro t1 t2))); clear t0 t1 t2; have z0 : b24 < u1.heap.size := lt_of_block (HL.out.get (b := b24) (o := .cells #[.int .u8 1, .int .i64 r, .string ⟨#[]⟩] 25 (0, 0)) (List.mem_cons_self ..)); have z1 : b20 < u1.heap.size := lt_of_block (HL.out.get (b := b20) (o := .cells #[.int .u8 1, .int .i64 q, .string ⟨#[]⟩] 25 (0, 0)) (List.mem_cons_of_mem _ (List.mem_cons_self ..))); have z2 : b15 < u1.heap.size := lt_of_block (HL.out.get (b := b15) (o := .cells #[.int .u8 1, .int .i64 m, .string ⟨#[]⟩] 25 (0, 0)) (List.mem_cons_of_mem _ (List.mem_cons_of_mem _ (List.mem_cons_self ..)))); have z3 : b10 < u1.heap.size := lt_of_block (HL.out.get (b := b10) (o := .cells #[.int .u8 0, .int .i64 0, .string ⟨#[]⟩] 25 (0, 0)) (List.mem_cons_of_mem _ (List.mem_cons_of_mem _ (List.mem_cons_of_mem _ (List.mem_cons_self ..))))); have z4 : b5 < u1.heap.size := lt_of_block (HL.out.get (b := b5) (o := .cells #[.int .u8 0, .int .i64 0, .string ⟨#[]⟩] 25 (0, 0)) (List.mem_cons_of_mem _ (List.mem_cons_of_mem _ (List.mem_cons_of_mem _ (List.mem_cons_of_mem _ (List.mem_cons_self ..)))))); have r0 : u1.cell? ⟨_, 0, none⟩ = some (.int .u8 0) := HM.out.cell 0; have r1 : u1.cell? ⟨_, 1, none⟩ = some (.int .i64 0) := HM.out.cell 1; have r2 : u1.cell? ⟨_, 2, none⟩ = some (.string ⟨#[]⟩) := HM.out.cell 2; have f0 : u1.frozen? ⟨_, 0, none⟩ = false := HM.out.free 0; have f1 : u1.frozen? ⟨_, 1, none⟩ = false := HM.out.free 1; have f2 : u1.frozen? ⟨_, 2, none⟩ = false := HM.out.free 2; have z9 : _ < u1.heap.size := lt_of_block HM.out.new))) | (go_at_call 8; (first | ((first | refine stepF HM.out (fun hB => two_is 7 1 q _ 1 b _ 1 n _ 0 (by omega) (by omega) (by omega) q0 q1 b0 b1 Khn.out _ (HW.out _ hB)) ?_ | refine stepF HM.out.drew' (fun hB => two_is 7 1 q _ 1 b _ 1 n _ 0 (by omega) (by omega) (by omega) q0 q1 b0 b1 Khn.out _ (HW.out _ hB)) ?_); intro u2 HM HL; have t0 : u2.cell? ⟨b20, 0, none⟩ = some (.int .u8 1) := HL.out.cell (b := b20) (cs := #[.int .u8 1, .int .i64 q, .string ⟨#[]⟩]) (t := 25) (fr := (0, 0)) (List.mem_cons_of_mem _ (List.mem_cons_self ..)) (0); have t1 : u2.cell? ⟨b20, 1, none⟩ = some (.int .i64 q) := HL.out.cell (b := b20) (cs := #[.int .u8 1, .int .i64 q, .string ⟨#[]⟩]) (t := 25) (fr := (0, 0)) (List.mem_cons_of_mem _ (List.mem_cons_self ..)) (1); have t2 : u2.cell? ⟨b20, 2, none⟩ = some (.string ⟨#[]⟩) := HL.out.cell (b := b20) (cs := #[.int .u8 1, .int .i64 q, .string ⟨#[]⟩]) (t := 25) (fr := (0, 0)) (List.mem_cons_of_mem _ (List.mem_cons_self ..)) (2); have SS := Lib.hid (show _ from (And.intro t0 (And.intro t1 t2))); clear t0 t1 t2; have z0 : b24 < u2.heap.size := lt_of_block (HL.out.get (b := b24) (o := .cells #[.int .u8 1, .int .i64 r, .string ⟨#[]⟩] 25 (0, 0)) (List.mem_cons_self ..)); have z1 : b20 < u2.heap.size := lt_of_block (HL.out.get (b := b20) (o := .cells #[.int .u8 1, .int .i64 q, .string ⟨#[]⟩] 25 (0, 0)) (List.mem_cons_of_mem _ (List.mem_cons_self ..))); have z2 : b15 < u2.heap.size := lt_of_block (HL.out.get (b := b15) (o := .cells #[.int .u8 1, .int .i64 m, .string ⟨#[]⟩] 25 (0, 0)) (List.mem_cons_of_mem _ (List.mem_cons_of_mem _ (List.mem_cons_self ..)))); have z3 : b10 < u2.heap.size := lt_of_block (HL.out.get (b := b10) (o := .cells #[.int .u8 0, .int .i64 0, .string ⟨#[]⟩] 25 (0, 0)) (List.mem_cons_of_mem _ (List.mem_cons_of_mem _ (List.mem_cons_of_mem _ (List.mem_cons_self ..))))); have z4 : b5 < u2.heap.size := lt_of_block (HL.out.get (b := b5) (o := .cells #[.int .u8 0, .int .i64 0, .string ⟨#[]⟩] 25 (0, 0)) (List.mem_cons_of_mem _ (List.mem_cons_of_mem _ (List.mem_cons_of_mem _ (List.mem_cons_of_mem _ (List.mem_cons_self ..))))))) | ((first | refine stepZ HM.out (fun hB => two_is 7 1 q _ 1 b _ 1 n _ 0 (by omega) (by omega) (by omega) q0 q1 b0 b1 Khn.out _ (HW.out _ hB)) ?_ | refine stepZ HM.out.zero (fun hB => two_is 7 1 q _ 1 b _ 1 n _ 0 (by omega) (by omega) (by omega) q0 q1 b0 b1 Khn.out _ (HW.out _ hB)) ?_ | refine stepZ HM.out.zero.drew' (fun hB => two_is 7 1 q _ 1 b _ 1 n _ 0 (by omega) (by omega) (by omega) q0 q1 b0 b1 Khn.out _ (HW.out _ hB)) ?_ | refine stepZ HM.out.drew'.zero (fun hB => two_is 7 1 q _ 1 b _ 1 n _ 0 (by omega) (by omega) (by omega) q0 q1 b0 b1 Khn.out _ (HW.out _ hB)) ?_ | refine stepZ HM.out.drew' (fun hB => two_is 7 1 q _ 1 b _ 1 n _ 0 (by omega) (by omega) (by omega) q0 q1 b0 b1 Khn.out _ (HW.out _ hB)) ?_); intro u2 HM HL; have t0 : u2.cell? ⟨b20, 0, none⟩ = some (.int .u8 1) := HL.out.cell (b := b20) (cs := #[.int .u8 1, .int .i64 q, .string ⟨#[]⟩]) (t := 25) (fr := (0, 0)) (List.mem_cons_of_mem _ (List.mem_cons_self ..)) (0); have t1 : u2.cell? ⟨b20, 1, none⟩ = some (.int .i64 q) := HL.out.cell (b := b20) (cs := #[.int .u8 1, .int .i64 q, .string ⟨#[]⟩]) (t := 25) (fr := (0, 0)) (List.mem_cons_of_mem _ (List.mem_cons_self ..)) (1); have t2 : u2.cell? ⟨b20, 2, none⟩ = some (.string ⟨#[]⟩) := HL.out.cell (b := b20) (cs := #[.int .u8 1, .int .i64 q, .string ⟨#[]⟩]) (t := 25) (fr := (0, 0)) (List.mem_cons_of_mem _ (List.mem_cons_self ..)) (2); have SS := Lib.hid (show _ from (And.intro t0 (And.intro t1 t2))); clear t0 t1 t2; have z0 : b24 < u2.heap.size := lt_of_block (HL.out.get (b := b24) (o := .cells #[.int .u8 1, .int .i64 r, .string ⟨#[]⟩] 25 (0, 0)) (List.mem_cons_self ..)); have z1 : b20 < u2.heap.size := lt_of_block (HL.out.get (b := b20) (o := .cells #[.int .u8 1, .int .i64 q, .string ⟨#[]⟩] 25 (0, 0)) (List.mem_cons_of_mem _ (List.mem_cons_self ..))); have z2 : b15 < u2.heap.size := lt_of_block (HL.out.get (b := b15) (o := .cells #[.int .u8 1, .int .i64 m, .string ⟨#[]⟩] 25 (0, 0)) (List.mem_cons_of_mem _ (List.mem_cons_of_mem _ (List.mem_cons_self ..)))); have z3 : b10 < u2.heap.size := lt_of_block (HL.out.get (b := b10) (o := .cells #[.int .u8 0, .int .i64 0, .string ⟨#[]⟩] 25 (0, 0)) (List.mem_cons_of_mem _ (List.mem_cons_of_mem _ (List.mem_cons_of_mem _ (List.mem_cons_self ..))))); have z4 : b5 < u2.heap.size := lt_of_block (HL.out.get (b := b5) (o := .cells #[.int .u8 0, .int .i64 0, .string ⟨#[]⟩] 25 (0, 0)) (List.mem_cons_of_mem _ (List.mem_cons_of_mem _ (List.mem_cons_of_mem _ (List.mem_cons_of_mem _ (List.mem_cons_self ..)))))); have r0 : u2.cell? ⟨_, 0, none⟩ = some (.int .u8 0) := HM.out.cell 0; have r1 : u2.cell? ⟨_, 1, none⟩ = some (.int .i64 0) := HM.out.cell 1; have r2 : u2.cell? ⟨_, 2, none⟩ = some (.string ⟨#[]⟩) := HM.out.cell 2; have f0 : u2.frozen? ⟨_, 0, none⟩ = false := HM.out.free 0; have f1 : u2.frozen? ⟨_, 1, none⟩ = false := HM.out.free 1; have f2 : u2.frozen? ⟨_, 2, none⟩ = false := HM.out.free 2; have z9 : _ < u2.heap.size := lt_of_block HM.out.new)))))
    all_goals (first | (obtain ⟨bx, hx, HO⟩ := endF (.cells #[.int .u8 1, .int .i64 n, .string ⟨#[]⟩] 25 (0, 0)) HM.out; refine ⟨rfl, ?_⟩; (try rw [← hx] at HO); rw [← hx]; exact ⟨bx, rfl, HO⟩) | (obtain ⟨bx, hx, HO⟩ := endZ (.int .u8 1) (.int .i64 n) (.string ⟨#[]⟩) HM.out; refine ⟨rfl, ?_⟩; (try rw [← hx] at HO); rw [← hx]; exact ⟨bx, rfl, HO⟩))
  intro bn9 v9 H9
  clear HM HL s0 s1 s2 z0 z1 z2 z3 z4
  clear HY24
  go_wp2_with fail
  have p0 : v9.cell? ⟨bn9, 0, none⟩ = some (.int .u8 1) := H9.out.cell (b := bn9) (cs := #[.int .u8 1, .int .i64 n, .string ⟨#[]⟩]) (t := 25) (fr := (0, 0)) (List.mem_cons_self ..) (0)
  have p1 : v9.cell? ⟨bn9, 1, none⟩ = some (.int .i64 n) := H9.out.cell (b := bn9) (cs := #[.int .u8 1, .int .i64 n, .string ⟨#[]⟩]) (t := 25) (fr := (0, 0)) (List.mem_cons_self ..) (1)
  have p2 : v9.cell? ⟨bn9, 2, none⟩ = some (.string ⟨#[]⟩) := H9.out.cell (b := bn9) (cs := #[.int .u8 1, .int .i64 n, .string ⟨#[]⟩]) (t := 25) (fr := (0, 0)) (List.mem_cons_self ..) (2)
  have p3 : v9.cell? ⟨b24, 0, none⟩ = some (.int .u8 1) := H9.out.cell (b := b24) (cs := #[.int .u8 1, .int .i64 r, .string ⟨#[]⟩]) (t := 25) (fr := (0, 0)) (List.mem_cons_of_mem _ (List.mem_cons_self ..)) (0)
  have p4 : v9.cell? ⟨b24, 1, none⟩ = some (.int .i64 r) := H9.out.cell (b := b24) (cs := #[.int .u8 1, .int .i64 r, .string ⟨#[]⟩]) (t := 25) (fr := (0, 0)) (List.mem_cons_of_mem _ (List.mem_cons_self ..)) (1)
  have p5 : v9.cell? ⟨b24, 2, none⟩ = some (.string ⟨#[]⟩) := H9.out.cell (b := b24) (cs := #[.int .u8 1, .int .i64 r, .string ⟨#[]⟩]) (t := 25) (fr := (0, 0)) (List.mem_cons_of_mem _ (List.mem_cons_self ..)) (2)
  have q0 := bwOf_cell v9 _ _ p0
  have q1 := bwOf_cell v9 _ _ p1
  have q2 := bwOf_cell v9 _ _ p2
  have q3 := bwOf_cell v9 _ _ p3
  have q4 := bwOf_cell v9 _ _ p4
  have q5 := bwOf_cell v9 _ _ p5
  clear p0 p1 p2 p3 p4 p5
  refine wp_region_bw (w := v9) (by kernel_rfl) (by kernel_rfl) ?_
  repeat (go_big_quiet_step (fail))
  go_big_quiet_step ((go_at_call 11; exact below_of (n_any _ _)))
  repeat (go_big_quiet_step (fail))
  go_big_quiet_step ((go_at_call 12; exact below_of (two_yes 5 1 n _ 1 r _ 1 a _ 0 (by omega) (by omega) (by omega) n0 n1 r0 r1 Khf.out _ (HW.out _ (below_end H9.out.below (bwOf_below _ _))))))
  repeat (go_big_quiet_step (fail))
  refine wpQuiet_nil ?_
  rintro z25 ⟨m9, rfl⟩
  have HZ25 := Lib.hid (H9.out.kept (bwOf_below v9 m9))
  clear q0 q1 q2 q3 q4 q5
  generalize bwOf v9 m9 = z25 at *
  go_wp2_with fail
  go_ret
  exact ⟨rfl, HZ25.out.below⟩
set_option maxRecDepth 100000 in
set_option maxHeartbeats 16000000 in
theorem back_sdPr (a : Int) (a0 : -9223372036854775808 ≤ a) (a1 : a ≤ 9223372036854775807) (b : Int) (b0 : -9223372036854775808 ≤ b) (b1 : b ≤ 9223372036854775807) (sg : Bool) (sa : decide (a < 0) = sg)
    (hs : Val.two 5 ⟨1, a, ⟨#[]⟩⟩ ⟨1, b, ⟨#[]⟩⟩ = (⟨0, 0, ⟨#[]⟩⟩, 12))
    (sb : decide (b < 0) = sg)
    (hd : Val.two 6 ⟨1, a, ⟨#[]⟩⟩ ⟨1, b, ⟨#[]⟩⟩ = (⟨0, 0, ⟨#[]⟩⟩, 12))
    (m : Int) (m0 : -9223372036854775808 ≤ m) (m1 : m ≤ 9223372036854775807)
    (hp : Val.two 7 ⟨1, a, ⟨#[]⟩⟩ ⟨1, b, ⟨#[]⟩⟩ = (⟨1, m, ⟨#[]⟩⟩, 0))
    (bn : (b != 0) = true)
    (az : (a == 0) = false)
    (hp1 : Val.two 8 ⟨1, m, ⟨#[]⟩⟩ ⟨1, b, ⟨#[]⟩⟩ = (⟨1, a, ⟨#[]⟩⟩, 0))
    (bz : (b == 0) = false)
    (q : Int) (q0 : -9223372036854775808 ≤ q) (q1 : q ≤ 9223372036854775807)
    (hq : Val.two 8 ⟨1, a, ⟨#[]⟩⟩ ⟨1, b, ⟨#[]⟩⟩ = (⟨1, q, ⟨#[]⟩⟩, 0))
    (r : Int) (r0 : -9223372036854775808 ≤ r) (r1 : r ≤ 9223372036854775807)
    (hr : Val.two 9 ⟨1, a, ⟨#[]⟩⟩ ⟨1, b, ⟨#[]⟩⟩ = (⟨1, r, ⟨#[]⟩⟩, 0))
    (rz : (r != 0) = true)
    (sr : decide (r < 0) = sg)
    (n : Int) (n0 : -9223372036854775808 ≤ n) (n1 : n ≤ 9223372036854775807)
    (hn : Val.two 7 ⟨1, q, ⟨#[]⟩⟩ ⟨1, b, ⟨#[]⟩⟩ = (⟨1, n, ⟨#[]⟩⟩, 0))
    (hf : Val.two 5 ⟨1, n, ⟨#[]⟩⟩ ⟨1, r, ⟨#[]⟩⟩ = (⟨1, a, ⟨#[]⟩⟩, 0)) (w : World) (hw : Wd w) :
    Calls Tryd.prog 4 #[.int .i64 a, .int .i64 b] w fun e w' => e = .returned (.bool true) ∧ Below w.heap.size w w' := by
  have Khs := Lib.hid hs
  have Khd := Lib.hid hd
  have Khp := Lib.hid hp
  have Khp1 := Lib.hid hp1
  have Khq := Lib.hid hq
  have Khr := Lib.hid hr
  have Khn := Lib.hid hn
  have Khf := Lib.hid hf
  clear hs hd hp hp1 hq hr hn hf
  have HW : Hid (∀ x, Below w.heap.size w x → Wd x) := Lib.hid (fun _ h => hw.kept h)
  clear hw
  have H0 : Hid (Fam w [] w) := Lib.hid (fam_n0 w)
  go_enter Tryd.func4, Tryd.ntmps4
  go_wp2_with fail
  refine stepF H0.out (fun hB => alive_yes _ (HW.out _ hB)) ?_
  intro x1 HX1 _
  go_wp2_with fail
  refine stepF HX1.out (fun hB => n_any _ _) ?_
  intro x2 HX2 _
  go_wp2_with fail
  refine stepF HX2.out (fun hB => n_any _ _) ?_
  intro x3 HX3 _
  go_wp2_with fail
  refine stepF HX3.out (fun hB => two_is 5 1 a _ 1 b _ 0 0 _ 12 (by omega) (by omega) (by omega) a0 a1 b0 b1 Khs.out _ (HW.out _ hB)) ?_
  intro x4 HX4 _
  go_wp2_with fail
  have HY5 := Lib.hid (HX4.out.add (below_alloc x4 (.cells #[.int .u8 0, .int .i64 0, .string ⟨#[]⟩] 25)) (Nat.le_refl _) (heap_alloc_new _ _))
  obtain ⟨b5, hb5⟩ : ∃ x, x = x4.heap.size := ⟨_, rfl⟩
  obtain ⟨y5, hy5⟩ : ∃ x, x = x4.alloc (.cells #[.int .u8 0, .int .i64 0, .string ⟨#[]⟩] 25) := ⟨_, rfl⟩
  rw [← hb5, ← hy5] at HY5
  rw [← hb5, ← hy5]
  clear hb5 hy5
  refine wp_region_bw (w := y5) (by kernel_rfl) (by kernel_rfl) ?_
  repeat (go_big_quiet_step (fail))
  refine wpQuiet_nil ?_
  rintro z6 ⟨m9, rfl⟩
  have HZ6 := Lib.hid (HY5.out.kept (bwOf_below y5 m9))
  generalize bwOf y5 m9 = z6 at *
  go_wp2_with fail
  refine stepF HZ6.out (fun hB => n_any _ _) ?_
  intro x7 HX7 _
  go_wp2_with fail
  refine stepF HX7.out (fun hB => n_any _ _) ?_
  intro x8 HX8 _
  go_wp2_with fail
  refine stepF HX8.out (fun hB => two_is 6 1 a _ 1 b _ 0 0 _ 12 (by omega) (by omega) (by omega) a0 a1 b0 b1 Khd.out _ (HW.out _ hB)) ?_
  intro x9 HX9 _
  go_wp2_with fail
  have HY10 := Lib.hid (HX9.out.add (below_alloc x9 (.cells #[.int .u8 0, .int .i64 0, .string ⟨#[]⟩] 25)) (Nat.le_refl _) (heap_alloc_new _ _))
  obtain ⟨b10, hb10⟩ : ∃ x, x = x9.heap.size := ⟨_, rfl⟩
  obtain ⟨y10, hy10⟩ : ∃ x, x = x9.alloc (.cells #[.int .u8 0, .int .i64 0, .string ⟨#[]⟩] 25) := ⟨_, rfl⟩
  rw [← hb10, ← hy10] at HY10
  rw [← hb10, ← hy10]
  clear hb10 hy10
  refine wp_region_bw (w := y10) (by kernel_rfl) (by kernel_rfl) ?_
  repeat (go_big_quiet_step (fail))
  refine wpQuiet_nil ?_
  rintro z11 ⟨m9, rfl⟩
  have HZ11 := Lib.hid (HY10.out.kept (bwOf_below y10 m9))
  generalize bwOf y10 m9 = z11 at *
  go_wp2_with fail
  refine stepF HZ11.out (fun hB => n_any _ _) ?_
  intro x12 HX12 _
  go_wp2_with fail
  refine stepF HX12.out (fun hB => n_any _ _) ?_
  intro x13 HX13 _
  go_wp2_with fail
  refine stepF HX13.out (fun hB => two_is 7 1 a _ 1 b _ 1 m _ 0 (by omega) (by omega) (by omega) a0 a1 b0 b1 Khp.out _ (HW.out _ hB)) ?_
  intro x14 HX14 _
  go_wp2_with fail
  have HY15 := Lib.hid (HX14.out.add (below_alloc x14 (.cells #[.int .u8 1, .int .i64 m, .string ⟨#[]⟩] 25)) (Nat.le_refl _) (heap_alloc_new _ _))
  obtain ⟨b15, hb15⟩ : ∃ x, x = x14.heap.size := ⟨_, rfl⟩
  obtain ⟨y15, hy15⟩ : ∃ x, x = x14.alloc (.cells #[.int .u8 1, .int .i64 m, .string ⟨#[]⟩] 25) := ⟨_, rfl⟩
  rw [← hb15, ← hy15] at HY15
  rw [← hb15, ← hy15]
  clear hb15 hy15
  have p0 : y15.cell? ⟨b15, 0, none⟩ = some (.int .u8 1) := HY15.out.cell (b := b15) (cs := #[.int .u8 1, .int .i64 m, .string ⟨#[]⟩]) (t := 25) (fr := (0, 0)) (List.mem_cons_self ..) (0)
  have p1 : y15.cell? ⟨b15, 1, none⟩ = some (.int .i64 m) := HY15.out.cell (b := b15) (cs := #[.int .u8 1, .int .i64 m, .string ⟨#[]⟩]) (t := 25) (fr := (0, 0)) (List.mem_cons_self ..) (1)
  have p2 : y15.cell? ⟨b15, 2, none⟩ = some (.string ⟨#[]⟩) := HY15.out.cell (b := b15) (cs := #[.int .u8 1, .int .i64 m, .string ⟨#[]⟩]) (t := 25) (fr := (0, 0)) (List.mem_cons_self ..) (2)
  have q0 := bwOf_cell y15 _ _ p0
  have q1 := bwOf_cell y15 _ _ p1
  have q2 := bwOf_cell y15 _ _ p2
  clear p0 p1 p2
  refine wp_region_bw (w := y15) (by kernel_rfl) (by kernel_rfl) ?_
  repeat (go_big_quiet_step (fail))
  go_big_quiet_step ((go_at_call 11; exact below_of (n_any _ _)))
  repeat (go_big_quiet_step (fail))
  go_big_quiet_step ((go_at_call 11; exact below_of (n_any _ _)))
  repeat (go_big_quiet_step (fail))
  go_big_quiet_step ((go_at_call 12; exact below_of (two_yes 8 1 m _ 1 b _ 1 a _ 0 (by omega) (by omega) (by omega) m0 m1 b0 b1 Khp1.out _ (HW.out _ (below_end HY15.out.below (bwOf_below _ _))))))
  repeat (go_big_quiet_step (fail))
  refine wpQuiet_nil ?_
  rintro z16 ⟨m9, rfl⟩
  have HZ16 := Lib.hid (HY15.out.kept (bwOf_below y15 m9))
  clear q0 q1 q2
  generalize bwOf y15 m9 = z16 at *
  go_wp2_with fail
  refine stepF HZ16.out (fun hB => n_any _ _) ?_
  intro x17 HX17 _
  go_wp2_with fail
  refine stepF HX17.out (fun hB => n_any _ _) ?_
  intro x18 HX18 _
  go_wp2_with fail
  refine stepF HX18.out (fun hB => two_is 8 1 a _ 1 b _ 1 q _ 0 (by omega) (by omega) (by omega) a0 a1 b0 b1 Khq.out _ (HW.out _ hB)) ?_
  intro x19 HX19 _
  go_wp2_with fail
  have HY20 := Lib.hid (HX19.out.add (below_alloc x19 (.cells #[.int .u8 1, .int .i64 q, .string ⟨#[]⟩] 25)) (Nat.le_refl _) (heap_alloc_new _ _))
  obtain ⟨b20, hb20⟩ : ∃ x, x = x19.heap.size := ⟨_, rfl⟩
  obtain ⟨y20, hy20⟩ : ∃ x, x = x19.alloc (.cells #[.int .u8 1, .int .i64 q, .string ⟨#[]⟩] 25) := ⟨_, rfl⟩
  rw [← hb20, ← hy20] at HY20
  rw [← hb20, ← hy20]
  clear hb20 hy20
  refine stepF HY20.out (fun hB => n_any _ _) ?_
  intro x21 HX21 _
  go_wp2_with fail
  refine stepF HX21.out (fun hB => n_any _ _) ?_
  intro x22 HX22 _
  go_wp2_with fail
  refine stepF HX22.out (fun hB => two_is 9 1 a _ 1 b _ 1 r _ 0 (by omega) (by omega) (by omega) a0 a1 b0 b1 Khr.out _ (HW.out _ hB)) ?_
  intro x23 HX23 _
  go_wp2_with fail
  have HY24 := Lib.hid (HX23.out.add (below_alloc x23 (.cells #[.int .u8 1, .int .i64 r, .string ⟨#[]⟩] 25)) (Nat.le_refl _) (heap_alloc_new _ _))
  obtain ⟨b24, hb24⟩ : ∃ x, x = x23.heap.size := ⟨_, rfl⟩
  obtain ⟨y24, hy24⟩ : ∃ x, x = x23.alloc (.cells #[.int .u8 1, .int .i64 r, .string ⟨#[]⟩] 25) := ⟨_, rfl⟩
  rw [← hb24, ← hy24] at HY24
  rw [← hb24, ← hy24]
  clear hb24 hy24
  have s0 : y24.cell? ⟨b24, 0, none⟩ = some (.int .u8 1) := HY24.out.cell (b := b24) (cs := #[.int .u8 1, .int .i64 r, .string ⟨#[]⟩]) (t := 25) (fr := (0, 0)) (List.mem_cons_self ..) (0)
  have s1 : y24.cell? ⟨b24, 1, none⟩ = some (.int .i64 r) := HY24.out.cell (b := b24) (cs := #[.int .u8 1, .int .i64 r, .string ⟨#[]⟩]) (t := 25) (fr := (0, 0)) (List.mem_cons_self ..) (1)
  have s2 : y24.cell? ⟨b24, 2, none⟩ = some (.string ⟨#[]⟩) := HY24.out.cell (b := b24) (cs := #[.int .u8 1, .int .i64 r, .string ⟨#[]⟩]) (t := 25) (fr := (0, 0)) (List.mem_cons_self ..) (2)
  go_wp2_with fail
  clear s0 s1 s2
  have s0 : y24.cell? ⟨b20, 0, none⟩ = some (.int .u8 1) := HY24.out.cell (b := b20) (cs := #[.int .u8 1, .int .i64 q, .string ⟨#[]⟩]) (t := 25) (fr := (0, 0)) (List.mem_cons_of_mem _ (List.mem_cons_self ..)) (0)
  have s1 : y24.cell? ⟨b20, 1, none⟩ = some (.int .i64 q) := HY24.out.cell (b := b20) (cs := #[.int .u8 1, .int .i64 q, .string ⟨#[]⟩]) (t := 25) (fr := (0, 0)) (List.mem_cons_of_mem _ (List.mem_cons_self ..)) (1)
  have s2 : y24.cell? ⟨b20, 2, none⟩ = some (.string ⟨#[]⟩) := HY24.out.cell (b := b20) (cs := #[.int .u8 1, .int .i64 q, .string ⟨#[]⟩]) (t := 25) (fr := (0, 0)) (List.mem_cons_of_mem _ (List.mem_cons_self ..)) (2)
  have z0 : b24 < y24.heap.size := lt_of_block (HY24.out.get (b := b24) (o := .cells #[.int .u8 1, .int .i64 r, .string ⟨#[]⟩] 25 (0, 0)) (List.mem_cons_self ..))
  have z1 : b20 < y24.heap.size := lt_of_block (HY24.out.get (b := b20) (o := .cells #[.int .u8 1, .int .i64 q, .string ⟨#[]⟩] 25 (0, 0)) (List.mem_cons_of_mem _ (List.mem_cons_self ..)))
  have z2 : b15 < y24.heap.size := lt_of_block (HY24.out.get (b := b15) (o := .cells #[.int .u8 1, .int .i64 m, .string ⟨#[]⟩] 25 (0, 0)) (List.mem_cons_of_mem _ (List.mem_cons_of_mem _ (List.mem_cons_self ..))))
  have z3 : b10 < y24.heap.size := lt_of_block (HY24.out.get (b := b10) (o := .cells #[.int .u8 0, .int .i64 0, .string ⟨#[]⟩] 25 (0, 0)) (List.mem_cons_of_mem _ (List.mem_cons_of_mem _ (List.mem_cons_of_mem _ (List.mem_cons_self ..)))))
  have z4 : b5 < y24.heap.size := lt_of_block (HY24.out.get (b := b5) (o := .cells #[.int .u8 0, .int .i64 0, .string ⟨#[]⟩] 25 (0, 0)) (List.mem_cons_of_mem _ (List.mem_cons_of_mem _ (List.mem_cons_of_mem _ (List.mem_cons_of_mem _ (List.mem_cons_self ..))))))
  have HM := HY24
  have HL := HY24
  apply wp_merge (R := fun b x => Hid (Fam w ((b, .cells #[.int .u8 1, .int .i64 n, .string ⟨#[]⟩] 25 (0, 0)) :: [(b24, .cells #[.int .u8 1, .int .i64 r, .string ⟨#[]⟩] 25 (0, 0)), (b20, .cells #[.int .u8 1, .int .i64 q, .string ⟨#[]⟩] 25 (0, 0)), (b15, .cells #[.int .u8 1, .int .i64 m, .string ⟨#[]⟩] 25 (0, 0)), (b10, .cells #[.int .u8 0, .int .i64 0, .string ⟨#[]⟩] 25 (0, 0)), (b5, .cells #[.int .u8 0, .int .i64 0, .string ⟨#[]⟩] 25 (0, 0))]) x))
  case h =>
    go_region_held3 (fun x => x.cell? ⟨b20, 0, none⟩ = some (.int .u8 1) ∧ x.cell? ⟨b20, 1, none⟩ = some (.int .i64 q) ∧ x.cell? ⟨b20, 2, none⟩ = some (.string ⟨#[]⟩)) (first | with_reducible exact ⟨s0, s1, s2⟩ | with_reducible exact ⟨keep_drew s0, keep_drew s1, keep_drew s2⟩ | with_reducible exact ⟨keep_drew (keep_alloc s0), keep_drew (keep_alloc s1), keep_drew (keep_alloc s2)⟩ | with_reducible exact ⟨keep_alloc (keep_drew s0), keep_alloc (keep_drew s1), keep_alloc (keep_drew s2)⟩ | with_reducible exact SS.out | with_reducible exact ⟨keep_alloc SS.out.1, keep_alloc SS.out.2.1, keep_alloc SS.out.2.2⟩ | with_reducible exact ⟨(set3_other (by omega) _ _ _ _).trans SS.out.1, (set3_other (by omega) _ _ _ _).trans SS.out.2.1, (set3_other (by omega) _ _ _ _).trans SS.out.2.2⟩) ((first | (go_at_call 11; (first | ((first | refine stepF HM.out (fun hB => n_any _ _) ?_ | refine stepF HM.out.drew' (fun hB => n_any _ _) ?_); intro u1 HM HL; have t0 : u1.cell? ⟨b20, 0, none⟩ = some (.int .u8 1) := HL.out.cell (b := b20) (cs := #[.int .u8 1, .int .i64 q, .string ⟨#[]⟩]) (t := 25) (fr := (0, 0)) (List.mem_cons_of_mem _ (List.mem_cons_self ..)) (0); have t1 : u1.cell? ⟨b20, 1, none⟩ = some (.int .i64 q) := HL.out.cell (b := b20) (cs := #[.int .u8 1, .int .i64 q, .string ⟨#[]⟩]) (t := 25) (fr := (0, 0)) (List.mem_cons_of_mem _ (List.mem_cons_self ..)) (1); have t2 : u1.cell? ⟨b20, 2, none⟩ = some (.string ⟨#[]⟩) := HL.out.cell (b := b20) (cs := #[.int .u8 1, .int .i64 q, .string ⟨#[]⟩]) (t := 25) (fr := (0, 0)) (List.mem_cons_of_mem _ (List.mem_cons_self ..)) (2); have SS := Lib.hid (show _ from (And.intro t0 (And.intro t1 t2))); clear t0 t1 t2; have z0 : b24 < u1.heap.size := lt_of_block (HL.out.get (b := b24) (o := .cells #[.int .u8 1, .int .i64 r, .string ⟨#[]⟩] 25 (0, 0)) (List.mem_cons_self ..)); have z1 : b20 < u1.heap.size := lt_of_block (HL.out.get (b := b20) (o := .cells #[.int .u8 1, .int .i64 q, .string ⟨#[]⟩] 25 (0, 0)) (List.mem_cons_of_mem _ (List.mem_cons_self ..))); have z2 : b15 < u1.heap.size := lt_of_block (HL.out.get (b := b15) (o := .cells #[.int .u8 1, .int .i64 m, .string ⟨#[]⟩] 25 (0, 0)) (List.mem_cons_of_mem _ (List.mem_cons_of_mem _ (List.mem_cons_self ..)))); have z3 : b10 < u1.heap.size := lt_of_block (HL.out.get (b := b10) (o := .cells #[.int .u8 0, .int .i64 0, .string ⟨#[]⟩] 25 (0, 0)) (List.mem_cons_of_mem _ (List.mem_cons_of_mem _ (List.mem_cons_of_mem _ (List.mem_cons_self ..))))); have z4 : b5 < u1.heap.size := lt_of_block (HL.out.get (b := b5) (o := .cells #[.int .u8 0, .int .i64 0, .string ⟨#[]⟩] 25 (0, 0)) (List.mem_cons_of_mem _ (List.mem_cons_of_mem _ (List.mem_cons_of_mem _ (List.mem_cons_of_mem _ (List.mem_cons_self ..))))))) | ((first | refine stepZ HM.out (fun hB => n_any _ _) ?_ | refine stepZ HM.out.zero (fun hB => n_any _ _) ?_ | refine stepZ HM.out.zero.drew' (fun hB => n_any _ _) ?_ | refine stepZ HM.out.drew'.zero (fun hB => n_any _ _) ?_ | refine stepZ HM.out.drew' (fun hB => n_any _ _) ?_); intro u1 HM HL; have t0 : u1.cell? ⟨b20, 0, none⟩ = some (.int .u8 1) := HL.out.cell (b := b20) (cs := #[.int .u8 1, .int .i64 q, .string ⟨#[]⟩]) (t := 25) (fr := (0, 0)) (List.mem_cons_of_mem _ (List.mem_cons_self ..)) (0); have t1 : u1.cell? ⟨b20, 1, none⟩ = some (.int .i64 q) := HL.out.cell (b := b20) (cs := #[.int .u8 1, .int .i64 q, .string ⟨#[]⟩]) (t := 25) (fr := (0, 0)) (List.mem_cons_of_mem _ (List.mem_cons_self ..)) (1); have t2 : u1.cell? ⟨b20, 2, none⟩ = some (.string ⟨#[]⟩) := HL.out.cell (b := b20) (cs := #[.int .u8 1, .int .i64 q, .string ⟨#[]⟩]) (t := 25) (fr := (0, 0)) (List.mem_cons_of_mem _ (List.mem_cons_self ..)) (2); have SS := Lib.hid (show _ from (And.intro t0 (And.intro t1 t2))); clear t0 t1 t2; have z0 : b24 < u1.heap.size := lt_of_block (HL.out.get (b := b24) (o := .cells #[.int .u8 1, .int .i64 r, .string ⟨#[]⟩] 25 (0, 0)) (List.mem_cons_self ..)); have z1 : b20 < u1.heap.size := lt_of_block (HL.out.get (b := b20) (o := .cells #[.int .u8 1, .int .i64 q, .string ⟨#[]⟩] 25 (0, 0)) (List.mem_cons_of_mem _ (List.mem_cons_self ..))); have z2 : b15 < u1.heap.size := lt_of_block (HL.out.get (b := b15) (o := .cells #[.int .u8 1, .int .i64 m, .string ⟨#[]⟩] 25 (0, 0)) (List.mem_cons_of_mem _ (List.mem_cons_of_mem _ (List.mem_cons_self ..)))); have z3 : b10 < u1.heap.size := lt_of_block (HL.out.get (b := b10) (o := .cells #[.int .u8 0, .int .i64 0, .string ⟨#[]⟩] 25 (0, 0)) (List.mem_cons_of_mem _ (List.mem_cons_of_mem _ (List.mem_cons_of_mem _ (List.mem_cons_self ..))))); have z4 : b5 < u1.heap.size := lt_of_block (HL.out.get (b := b5) (o := .cells #[.int .u8 0, .int .i64 0, .string ⟨#[]⟩] 25 (0, 0)) (List.mem_cons_of_mem _ (List.mem_cons_of_mem _ (List.mem_cons_of_mem _ (List.mem_cons_of_mem _ (List.mem_cons_self ..)))))); have r0 : u1.cell? ⟨_, 0, none⟩ = some (.int .u8 0) := HM.out.cell 0; have r1 : u1.cell? ⟨_, 1, none⟩ = some (.int .i64 0) := HM.out.cell 1; have r2 : u1.cell? ⟨_, 2, none⟩ = some (.string ⟨#[]⟩) := HM.out.cell 2; have f0 : u1.frozen? ⟨_, 0, none⟩ = false := HM.out.free 0; have f1 : u1.frozen? ⟨_, 1, none⟩ = false := HM.out.free 1; have f2 : u1.frozen? ⟨_, 2, none⟩ = false := HM.out.free 2; have z9 : _ < u1.heap.size := lt_of_block HM.out.new))) | (go_at_call 8; (first | ((first | refine stepF HM.out (fun hB => two_is 7 1 q _ 1 b _ 1 n _ 0 (by omega) (by omega) (by omega) q0 q1 b0 b1 Khn.out _ (HW.out _ hB)) ?_ | refine stepF HM.out.drew' (fun hB => two_is 7 1 q _ 1 b _ 1 n _ 0 (by omega) (by omega) (by omega) q0 q1 b0 b1 Khn.out _ (HW.out _ hB)) ?_); intro u2 HM HL; have t0 : u2.cell? ⟨b20, 0, none⟩ = some (.int .u8 1) := HL.out.cell (b := b20) (cs := #[.int .u8 1, .int .i64 q, .string ⟨#[]⟩]) (t := 25) (fr := (0, 0)) (List.mem_cons_of_mem _ (List.mem_cons_self ..)) (0); have t1 : u2.cell? ⟨b20, 1, none⟩ = some (.int .i64 q) := HL.out.cell (b := b20) (cs := #[.int .u8 1, .int .i64 q, .string ⟨#[]⟩]) (t := 25) (fr := (0, 0)) (List.mem_cons_of_mem _ (List.mem_cons_self ..)) (1); have t2 : u2.cell? ⟨b20, 2, none⟩ = some (.string ⟨#[]⟩) := HL.out.cell (b := b20) (cs := #[.int .u8 1, .int .i64 q, .string ⟨#[]⟩]) (t := 25) (fr := (0, 0)) (List.mem_cons_of_mem _ (List.mem_cons_self ..)) (2); have SS := Lib.hid (show _ from (And.intro t0 (And.intro t1 t2))); clear t0 t1 t2; have z0 : b24 < u2.heap.size := lt_of_block (HL.out.get (b := b24) (o := .cells #[.int .u8 1, .int .i64 r, .string ⟨#[]⟩] 25 (0, 0)) (List.mem_cons_self ..)); have z1 : b20 < u2.heap.size := lt_of_block (HL.out.get (b := b20) (o := .cells #[.int .u8 1, .int .i64 q, .string ⟨#[]⟩] 25 (0, 0)) (List.mem_cons_of_mem _ (List.mem_cons_self ..))); have z2 : b15 < u2.heap.size := lt_of_block (HL.out.get (b := b15) (o := .cells #[.int .u8 1, .int .i64 m, .string ⟨#[]⟩] 25 (0, 0)) (List.mem_cons_of_mem _ (List.mem_cons_of_mem _ (List.mem_cons_self ..)))); have z3 : b10 < u2.heap.size := lt_of_block (HL.out.get (b := b10) (o := .cells #[.int .u8 0, .int .i64 0, .string ⟨#[]⟩] 25 (0, 0)) (List.mem_cons_of_mem _ (List.mem_cons_of_mem _ (List.mem_cons_of_mem _ (List.mem_cons_self ..))))); have z4 : b5 < u2.heap.size := lt_of_block (HL.out.get (b := b5) (o := .cells #[.int .u8 0, .int .i64 0, .string ⟨#[]⟩] 25 (0, 0)) (List.mem_cons_of_mem _ (List.mem_cons_of_mem _ (List.mem_cons_of_mem _ (List.mem_cons_of_mem _ (List.mem_cons_self ..))))))) | ((first | refine stepZ HM.out (fun hB => two_is 7 1 q _ 1 b _ 1 n _ 0 (by omega) (by omega) (by omega) q0 q1 b0 b1 Khn.out _ (HW.out _ hB)) ?_ | refine stepZ HM.out.zero (fun hB => two_is 7 1 q _ 1 b _ 1 n _ 0 (by omega) (by omega) (by omega) q0 q1 b0 b1 Khn.out _ (HW.out _ hB)) ?_ | refine stepZ HM.out.zero.drew' (fun hB => two_is 7 1 q _ 1 b _ 1 n _ 0 (by omega) (by omega) (by omega) q0 q1 b0 b1 Khn.out _ (HW.out _ hB)) ?_ | refine stepZ HM.out.drew'.zero (fun hB => two_is 7 1 q _ 1 b _ 1 n _ 0 (by omega) (by omega) (by omega) q0 q1 b0 b1 Khn.out _ (HW.out _ hB)) ?_ | refine stepZ HM.out.drew' (fun hB => two_is 7 1 q _ 1 b _ 1 n _ 0 (by omega) (by omega) (by omega) q0 q1 b0 b1 Khn.out _ (HW.out _ hB)) ?_); intro u2 HM HL; have t0 : u2.cell? ⟨b20, 0, none⟩ = some (.int .u8 1) := HL.out.cell (b := b20) (cs := #[.int .u8 1, .int .i64 q, .string ⟨#[]⟩]) (t := 25) (fr := (0, 0)) (List.mem_cons_of_mem _ (List.mem_cons_self ..)) (0); have t1 : u2.cell? ⟨b20, 1, none⟩ = some (.int .i64 q) := HL.out.cell (b := b20) (cs := #[.int .u8 1, .int .i64 q, .string ⟨#[]⟩]) (t := 25) (fr := (0, 0)) (List.mem_cons_of_mem _ (List.mem_cons_self ..)) (1); have t2 : u2.cell? ⟨b20, 2, none⟩ = some (.string ⟨#[]⟩) := HL.out.cell (b := b20) (cs := #[.int .u8 1, .int .i64 q, .string ⟨#[]⟩]) (t := 25) (fr := (0, 0)) (List.mem_cons_of_mem _ (List.mem_cons_self ..)) (2); have SS := Lib.hid (show _ from (And.intro t0 (And.intro t1 t2))); clear t0 t1 t2; have z0 : b24 < u2.heap.size := lt_of_block (HL.out.get (b := b24) (o := .cells #[.int .u8 1, .int .i64 r, .string ⟨#[]⟩] 25 (0, 0)) (List.mem_cons_self ..)); have z1 : b20 < u2.heap.size := lt_of_block (HL.out.get (b := b20) (o := .cells #[.int .u8 1, .int .i64 q, .string ⟨#[]⟩] 25 (0, 0)) (List.mem_cons_of_mem _ (List.mem_cons_self ..))); have z2 : b15 < u2.heap.size := lt_of_block (HL.out.get (b := b15) (o := .cells #[.int .u8 1, .int .i64 m, .string ⟨#[]⟩] 25 (0, 0)) (List.mem_cons_of_mem _ (List.mem_cons_of_mem _ (List.mem_cons_self ..)))); have z3 : b10 < u2.heap.size := lt_of_block (HL.out.get (b := b10) (o := .cells #[.int .u8 0, .int .i64 0, .string ⟨#[]⟩] 25 (0, 0)) (List.mem_cons_of_mem _ (List.mem_cons_of_mem _ (List.mem_cons_of_mem _ (List.mem_cons_self ..))))); have z4 : b5 < u2.heap.size := lt_of_block (HL.out.get (b := b5) (o := .cells #[.int .u8 0, .int .i64 0, .string ⟨#[]⟩] 25 (0, 0)) (List.mem_cons_of_mem _ (List.mem_cons_of_mem _ (List.mem_cons_of_mem _ (List.mem_cons_of_mem _ (List.mem_cons_self ..)))))); have r0 : u2.cell? ⟨_, 0, none⟩ = some (.int .u8 0) := HM.out.cell 0; have r1 : u2.cell? ⟨_, 1, none⟩ = some (.int .i64 0) := HM.out.cell 1; have r2 : u2.cell? ⟨_, 2, none⟩ = some (.string ⟨#[]⟩) := HM.out.cell 2; have f0 : u2.frozen? ⟨_, 0, none⟩ = false := HM.out.free 0; have f1 : u2.frozen? ⟨_, 1, none⟩ = false := HM.out.free 1; have f2 : u2.frozen? ⟨_, 2, none⟩ = false := HM.out.free 2; have z9 : _ < u2.heap.size := lt_of_block HM.out.new)))))
    all_goals (first | (obtain ⟨bx, hx, HO⟩ := endF (.cells #[.int .u8 1, .int .i64 n, .string ⟨#[]⟩] 25 (0, 0)) HM.out; refine ⟨rfl, ?_⟩; (try rw [← hx] at HO); rw [← hx]; exact ⟨bx, rfl, HO⟩) | (obtain ⟨bx, hx, HO⟩ := endZ (.int .u8 1) (.int .i64 n) (.string ⟨#[]⟩) HM.out; refine ⟨rfl, ?_⟩; (try rw [← hx] at HO); rw [← hx]; exact ⟨bx, rfl, HO⟩))
  intro bn9 v9 H9
  clear HM HL s0 s1 s2 z0 z1 z2 z3 z4
  clear HY24
  go_wp2_with fail
  have p0 : v9.cell? ⟨bn9, 0, none⟩ = some (.int .u8 1) := H9.out.cell (b := bn9) (cs := #[.int .u8 1, .int .i64 n, .string ⟨#[]⟩]) (t := 25) (fr := (0, 0)) (List.mem_cons_self ..) (0)
  have p1 : v9.cell? ⟨bn9, 1, none⟩ = some (.int .i64 n) := H9.out.cell (b := bn9) (cs := #[.int .u8 1, .int .i64 n, .string ⟨#[]⟩]) (t := 25) (fr := (0, 0)) (List.mem_cons_self ..) (1)
  have p2 : v9.cell? ⟨bn9, 2, none⟩ = some (.string ⟨#[]⟩) := H9.out.cell (b := bn9) (cs := #[.int .u8 1, .int .i64 n, .string ⟨#[]⟩]) (t := 25) (fr := (0, 0)) (List.mem_cons_self ..) (2)
  have p3 : v9.cell? ⟨b24, 0, none⟩ = some (.int .u8 1) := H9.out.cell (b := b24) (cs := #[.int .u8 1, .int .i64 r, .string ⟨#[]⟩]) (t := 25) (fr := (0, 0)) (List.mem_cons_of_mem _ (List.mem_cons_self ..)) (0)
  have p4 : v9.cell? ⟨b24, 1, none⟩ = some (.int .i64 r) := H9.out.cell (b := b24) (cs := #[.int .u8 1, .int .i64 r, .string ⟨#[]⟩]) (t := 25) (fr := (0, 0)) (List.mem_cons_of_mem _ (List.mem_cons_self ..)) (1)
  have p5 : v9.cell? ⟨b24, 2, none⟩ = some (.string ⟨#[]⟩) := H9.out.cell (b := b24) (cs := #[.int .u8 1, .int .i64 r, .string ⟨#[]⟩]) (t := 25) (fr := (0, 0)) (List.mem_cons_of_mem _ (List.mem_cons_self ..)) (2)
  have q0 := bwOf_cell v9 _ _ p0
  have q1 := bwOf_cell v9 _ _ p1
  have q2 := bwOf_cell v9 _ _ p2
  have q3 := bwOf_cell v9 _ _ p3
  have q4 := bwOf_cell v9 _ _ p4
  have q5 := bwOf_cell v9 _ _ p5
  clear p0 p1 p2 p3 p4 p5
  refine wp_region_bw (w := v9) (by kernel_rfl) (by kernel_rfl) ?_
  repeat (go_big_quiet_step (fail))
  go_big_quiet_step ((go_at_call 11; exact below_of (n_any _ _)))
  repeat (go_big_quiet_step (fail))
  go_big_quiet_step ((go_at_call 12; exact below_of (two_yes 5 1 n _ 1 r _ 1 a _ 0 (by omega) (by omega) (by omega) n0 n1 r0 r1 Khf.out _ (HW.out _ (below_end H9.out.below (bwOf_below _ _))))))
  repeat (go_big_quiet_step (fail))
  refine wpQuiet_nil ?_
  rintro z25 ⟨m9, rfl⟩
  have HZ25 := Lib.hid (H9.out.kept (bwOf_below v9 m9))
  clear q0 q1 q2 q3 q4 q5
  generalize bwOf v9 m9 = z25 at *
  go_wp2_with fail
  go_ret
  exact ⟨rfl, HZ25.out.below⟩
set_option maxRecDepth 100000 in
set_option maxHeartbeats 16000000 in
theorem back_sdpR (a : Int) (a0 : -9223372036854775808 ≤ a) (a1 : a ≤ 9223372036854775807) (b : Int) (b0 : -9223372036854775808 ≤ b) (b1 : b ≤ 9223372036854775807) (sg : Bool) (sa : decide (a < 0) = sg)
    (hs : Val.two 5 ⟨1, a, ⟨#[]⟩⟩ ⟨1, b, ⟨#[]⟩⟩ = (⟨0, 0, ⟨#[]⟩⟩, 12))
    (sb : decide (b < 0) = sg)
    (hd : Val.two 6 ⟨1, a, ⟨#[]⟩⟩ ⟨1, b, ⟨#[]⟩⟩ = (⟨0, 0, ⟨#[]⟩⟩, 12))
    (hp : Val.two 7 ⟨1, a, ⟨#[]⟩⟩ ⟨1, b, ⟨#[]⟩⟩ = (⟨0, 0, ⟨#[]⟩⟩, 12))
    (bz : (b == 0) = false)
    (q : Int) (q0 : -9223372036854775808 ≤ q) (q1 : q ≤ 9223372036854775807)
    (hq : Val.two 8 ⟨1, a, ⟨#[]⟩⟩ ⟨1, b, ⟨#[]⟩⟩ = (⟨1, q, ⟨#[]⟩⟩, 0))
    (r : Int) (r0 : -9223372036854775808 ≤ r) (r1 : r ≤ 9223372036854775807)
    (hr : Val.two 9 ⟨1, a, ⟨#[]⟩⟩ ⟨1, b, ⟨#[]⟩⟩ = (⟨1, r, ⟨#[]⟩⟩, 0))
    (rz : (r != 0) = false)
    (n : Int) (n0 : -9223372036854775808 ≤ n) (n1 : n ≤ 9223372036854775807)
    (hn : Val.two 7 ⟨1, q, ⟨#[]⟩⟩ ⟨1, b, ⟨#[]⟩⟩ = (⟨1, n, ⟨#[]⟩⟩, 0))
    (hf : Val.two 5 ⟨1, n, ⟨#[]⟩⟩ ⟨1, r, ⟨#[]⟩⟩ = (⟨1, a, ⟨#[]⟩⟩, 0)) (w : World) (hw : Wd w) :
    Calls Tryd.prog 4 #[.int .i64 a, .int .i64 b] w fun e w' => e = .returned (.bool true) ∧ Below w.heap.size w w' := by
  have Khs := Lib.hid hs
  have Khd := Lib.hid hd
  have Khp := Lib.hid hp
  have Khq := Lib.hid hq
  have Khr := Lib.hid hr
  have Khn := Lib.hid hn
  have Khf := Lib.hid hf
  clear hs hd hp hq hr hn hf
  have HW : Hid (∀ x, Below w.heap.size w x → Wd x) := Lib.hid (fun _ h => hw.kept h)
  clear hw
  have H0 : Hid (Fam w [] w) := Lib.hid (fam_n0 w)
  go_enter Tryd.func4, Tryd.ntmps4
  go_wp2_with fail
  refine stepF H0.out (fun hB => alive_yes _ (HW.out _ hB)) ?_
  intro x1 HX1 _
  go_wp2_with fail
  refine stepF HX1.out (fun hB => n_any _ _) ?_
  intro x2 HX2 _
  go_wp2_with fail
  refine stepF HX2.out (fun hB => n_any _ _) ?_
  intro x3 HX3 _
  go_wp2_with fail
  refine stepF HX3.out (fun hB => two_is 5 1 a _ 1 b _ 0 0 _ 12 (by omega) (by omega) (by omega) a0 a1 b0 b1 Khs.out _ (HW.out _ hB)) ?_
  intro x4 HX4 _
  go_wp2_with fail
  have HY5 := Lib.hid (HX4.out.add (below_alloc x4 (.cells #[.int .u8 0, .int .i64 0, .string ⟨#[]⟩] 25)) (Nat.le_refl _) (heap_alloc_new _ _))
  obtain ⟨b5, hb5⟩ : ∃ x, x = x4.heap.size := ⟨_, rfl⟩
  obtain ⟨y5, hy5⟩ : ∃ x, x = x4.alloc (.cells #[.int .u8 0, .int .i64 0, .string ⟨#[]⟩] 25) := ⟨_, rfl⟩
  rw [← hb5, ← hy5] at HY5
  rw [← hb5, ← hy5]
  clear hb5 hy5
  refine wp_region_bw (w := y5) (by kernel_rfl) (by kernel_rfl) ?_
  repeat (go_big_quiet_step (fail))
  refine wpQuiet_nil ?_
  rintro z6 ⟨m9, rfl⟩
  have HZ6 := Lib.hid (HY5.out.kept (bwOf_below y5 m9))
  generalize bwOf y5 m9 = z6 at *
  go_wp2_with fail
  refine stepF HZ6.out (fun hB => n_any _ _) ?_
  intro x7 HX7 _
  go_wp2_with fail
  refine stepF HX7.out (fun hB => n_any _ _) ?_
  intro x8 HX8 _
  go_wp2_with fail
  refine stepF HX8.out (fun hB => two_is 6 1 a _ 1 b _ 0 0 _ 12 (by omega) (by omega) (by omega) a0 a1 b0 b1 Khd.out _ (HW.out _ hB)) ?_
  intro x9 HX9 _
  go_wp2_with fail
  have HY10 := Lib.hid (HX9.out.add (below_alloc x9 (.cells #[.int .u8 0, .int .i64 0, .string ⟨#[]⟩] 25)) (Nat.le_refl _) (heap_alloc_new _ _))
  obtain ⟨b10, hb10⟩ : ∃ x, x = x9.heap.size := ⟨_, rfl⟩
  obtain ⟨y10, hy10⟩ : ∃ x, x = x9.alloc (.cells #[.int .u8 0, .int .i64 0, .string ⟨#[]⟩] 25) := ⟨_, rfl⟩
  rw [← hb10, ← hy10] at HY10
  rw [← hb10, ← hy10]
  clear hb10 hy10
  refine wp_region_bw (w := y10) (by kernel_rfl) (by kernel_rfl) ?_
  repeat (go_big_quiet_step (fail))
  refine wpQuiet_nil ?_
  rintro z11 ⟨m9, rfl⟩
  have HZ11 := Lib.hid (HY10.out.kept (bwOf_below y10 m9))
  generalize bwOf y10 m9 = z11 at *
  go_wp2_with fail
  refine stepF HZ11.out (fun hB => n_any _ _) ?_
  intro x12 HX12 _
  go_wp2_with fail
  refine stepF HX12.out (fun hB => n_any _ _) ?_
  intro x13 HX13 _
  go_wp2_with fail
  refine stepF HX13.out (fun hB => two_is 7 1 a _ 1 b _ 0 0 _ 12 (by omega) (by omega) (by omega) a0 a1 b0 b1 Khp.out _ (HW.out _ hB)) ?_
  intro x14 HX14 _
  go_wp2_with fail
  have HY15 := Lib.hid (HX14.out.add (below_alloc x14 (.cells #[.int .u8 0, .int .i64 0, .string ⟨#[]⟩] 25)) (Nat.le_refl _) (heap_alloc_new _ _))
  obtain ⟨b15, hb15⟩ : ∃ x, x = x14.heap.size := ⟨_, rfl⟩
  obtain ⟨y15, hy15⟩ : ∃ x, x = x14.alloc (.cells #[.int .u8 0, .int .i64 0, .string ⟨#[]⟩] 25) := ⟨_, rfl⟩
  rw [← hb15, ← hy15] at HY15
  rw [← hb15, ← hy15]
  clear hb15 hy15
  refine wp_region_bw (w := y15) (by kernel_rfl) (by kernel_rfl) ?_
  repeat (go_big_quiet_step (fail))
  refine wpQuiet_nil ?_
  rintro z16 ⟨m9, rfl⟩
  have HZ16 := Lib.hid (HY15.out.kept (bwOf_below y15 m9))
  generalize bwOf y15 m9 = z16 at *
  go_wp2_with fail
  refine stepF HZ16.out (fun hB => n_any _ _) ?_
  intro x17 HX17 _
  go_wp2_with fail
  refine stepF HX17.out (fun hB => n_any _ _) ?_
  intro x18 HX18 _
  go_wp2_with fail
  refine stepF HX18.out (fun hB => two_is 8 1 a _ 1 b _ 1 q _ 0 (by omega) (by omega) (by omega) a0 a1 b0 b1 Khq.out _ (HW.out _ hB)) ?_
  intro x19 HX19 _
  go_wp2_with fail
  have HY20 := Lib.hid (HX19.out.add (below_alloc x19 (.cells #[.int .u8 1, .int .i64 q, .string ⟨#[]⟩] 25)) (Nat.le_refl _) (heap_alloc_new _ _))
  obtain ⟨b20, hb20⟩ : ∃ x, x = x19.heap.size := ⟨_, rfl⟩
  obtain ⟨y20, hy20⟩ : ∃ x, x = x19.alloc (.cells #[.int .u8 1, .int .i64 q, .string ⟨#[]⟩] 25) := ⟨_, rfl⟩
  rw [← hb20, ← hy20] at HY20
  rw [← hb20, ← hy20]
  clear hb20 hy20
  refine stepF HY20.out (fun hB => n_any _ _) ?_
  intro x21 HX21 _
  go_wp2_with fail
  refine stepF HX21.out (fun hB => n_any _ _) ?_
  intro x22 HX22 _
  go_wp2_with fail
  refine stepF HX22.out (fun hB => two_is 9 1 a _ 1 b _ 1 r _ 0 (by omega) (by omega) (by omega) a0 a1 b0 b1 Khr.out _ (HW.out _ hB)) ?_
  intro x23 HX23 _
  go_wp2_with fail
  have HY24 := Lib.hid (HX23.out.add (below_alloc x23 (.cells #[.int .u8 1, .int .i64 r, .string ⟨#[]⟩] 25)) (Nat.le_refl _) (heap_alloc_new _ _))
  obtain ⟨b24, hb24⟩ : ∃ x, x = x23.heap.size := ⟨_, rfl⟩
  obtain ⟨y24, hy24⟩ : ∃ x, x = x23.alloc (.cells #[.int .u8 1, .int .i64 r, .string ⟨#[]⟩] 25) := ⟨_, rfl⟩
  rw [← hb24, ← hy24] at HY24
  rw [← hb24, ← hy24]
  clear hb24 hy24
  have s0 : y24.cell? ⟨b24, 0, none⟩ = some (.int .u8 1) := HY24.out.cell (b := b24) (cs := #[.int .u8 1, .int .i64 r, .string ⟨#[]⟩]) (t := 25) (fr := (0, 0)) (List.mem_cons_self ..) (0)
  have s1 : y24.cell? ⟨b24, 1, none⟩ = some (.int .i64 r) := HY24.out.cell (b := b24) (cs := #[.int .u8 1, .int .i64 r, .string ⟨#[]⟩]) (t := 25) (fr := (0, 0)) (List.mem_cons_self ..) (1)
  have s2 : y24.cell? ⟨b24, 2, none⟩ = some (.string ⟨#[]⟩) := HY24.out.cell (b := b24) (cs := #[.int .u8 1, .int .i64 r, .string ⟨#[]⟩]) (t := 25) (fr := (0, 0)) (List.mem_cons_self ..) (2)
  go_wp2_with fail
  clear s0 s1 s2
  have s0 : y24.cell? ⟨b20, 0, none⟩ = some (.int .u8 1) := HY24.out.cell (b := b20) (cs := #[.int .u8 1, .int .i64 q, .string ⟨#[]⟩]) (t := 25) (fr := (0, 0)) (List.mem_cons_of_mem _ (List.mem_cons_self ..)) (0)
  have s1 : y24.cell? ⟨b20, 1, none⟩ = some (.int .i64 q) := HY24.out.cell (b := b20) (cs := #[.int .u8 1, .int .i64 q, .string ⟨#[]⟩]) (t := 25) (fr := (0, 0)) (List.mem_cons_of_mem _ (List.mem_cons_self ..)) (1)
  have s2 : y24.cell? ⟨b20, 2, none⟩ = some (.string ⟨#[]⟩) := HY24.out.cell (b := b20) (cs := #[.int .u8 1, .int .i64 q, .string ⟨#[]⟩]) (t := 25) (fr := (0, 0)) (List.mem_cons_of_mem _ (List.mem_cons_self ..)) (2)
  have z0 : b24 < y24.heap.size := lt_of_block (HY24.out.get (b := b24) (o := .cells #[.int .u8 1, .int .i64 r, .string ⟨#[]⟩] 25 (0, 0)) (List.mem_cons_self ..))
  have z1 : b20 < y24.heap.size := lt_of_block (HY24.out.get (b := b20) (o := .cells #[.int .u8 1, .int .i64 q, .string ⟨#[]⟩] 25 (0, 0)) (List.mem_cons_of_mem _ (List.mem_cons_self ..)))
  have z2 : b15 < y24.heap.size := lt_of_block (HY24.out.get (b := b15) (o := .cells #[.int .u8 0, .int .i64 0, .string ⟨#[]⟩] 25 (0, 0)) (List.mem_cons_of_mem _ (List.mem_cons_of_mem _ (List.mem_cons_self ..))))
  have z3 : b10 < y24.heap.size := lt_of_block (HY24.out.get (b := b10) (o := .cells #[.int .u8 0, .int .i64 0, .string ⟨#[]⟩] 25 (0, 0)) (List.mem_cons_of_mem _ (List.mem_cons_of_mem _ (List.mem_cons_of_mem _ (List.mem_cons_self ..)))))
  have z4 : b5 < y24.heap.size := lt_of_block (HY24.out.get (b := b5) (o := .cells #[.int .u8 0, .int .i64 0, .string ⟨#[]⟩] 25 (0, 0)) (List.mem_cons_of_mem _ (List.mem_cons_of_mem _ (List.mem_cons_of_mem _ (List.mem_cons_of_mem _ (List.mem_cons_self ..))))))
  have HM := HY24
  have HL := HY24
  apply wp_merge (R := fun b x => Hid (Fam w ((b, .cells #[.int .u8 1, .int .i64 n, .string ⟨#[]⟩] 25 (0, 0)) :: [(b24, .cells #[.int .u8 1, .int .i64 r, .string ⟨#[]⟩] 25 (0, 0)), (b20, .cells #[.int .u8 1, .int .i64 q, .string ⟨#[]⟩] 25 (0, 0)), (b15, .cells #[.int .u8 0, .int .i64 0, .string ⟨#[]⟩] 25 (0, 0)), (b10, .cells #[.int .u8 0, .int .i64 0, .string ⟨#[]⟩] 25 (0, 0)), (b5, .cells #[.int .u8 0, .int .i64 0, .string ⟨#[]⟩] 25 (0, 0))]) x))
  case h =>
    go_region_held3 (fun x => x.cell? ⟨b20, 0, none⟩ = some (.int .u8 1) ∧ x.cell? ⟨b20, 1, none⟩ = some (.int .i64 q) ∧ x.cell? ⟨b20, 2, none⟩ = some (.string ⟨#[]⟩)) (first | with_reducible exact ⟨s0, s1, s2⟩ | with_reducible exact ⟨keep_drew s0, keep_drew s1, keep_drew s2⟩ | with_reducible exact ⟨keep_drew (keep_alloc s0), keep_drew (keep_alloc s1), keep_drew (keep_alloc s2)⟩ | with_reducible exact ⟨keep_alloc (keep_drew s0), keep_alloc (keep_drew s1), keep_alloc (keep_drew s2)⟩ | with_reducible exact SS.out | with_reducible exact ⟨keep_alloc SS.out.1, keep_alloc SS.out.2.1, keep_alloc SS.out.2.2⟩ | with_reducible exact ⟨(set3_other (by omega) _ _ _ _).trans SS.out.1, (set3_other (by omega) _ _ _ _).trans SS.out.2.1, (set3_other (by omega) _ _ _ _).trans SS.out.2.2⟩) ((first | (go_at_call 11; (first | ((first | refine stepF HM.out (fun hB => n_any _ _) ?_ | refine stepF HM.out.drew' (fun hB => n_any _ _) ?_); intro u1 HM HL; have t0 : u1.cell? ⟨b20, 0, none⟩ = some (.int .u8 1) := HL.out.cell (b := b20) (cs := #[.int .u8 1, .int .i64 q, .string ⟨#[]⟩]) (t := 25) (fr := (0, 0)) (List.mem_cons_of_mem _ (List.mem_cons_self ..)) (0); have t1 : u1.cell? ⟨b20, 1, none⟩ = some (.int .i64 q) := HL.out.cell (b := b20) (cs := #[.int .u8 1, .int .i64 q, .string ⟨#[]⟩]) (t := 25) (fr := (0, 0)) (List.mem_cons_of_mem _ (List.mem_cons_self ..)) (1); have t2 : u1.cell? ⟨b20, 2, none⟩ = some (.string ⟨#[]⟩) := HL.out.cell (b := b20) (cs := #[.int .u8 1, .int .i64 q, .string ⟨#[]⟩]) (t := 25) (fr := (0, 0)) (List.mem_cons_of_mem _ (List.mem_cons_self ..)) (2); have SS := Lib.hid (show _ from (And.intro t0 (And.intro t1 t2))); clear t0 t1 t2; have z0 : b24 < u1.heap.size := lt_of_block (HL.out.get (b := b24) (o := .cells #[.int .u8 1, .int .i64 r, .string ⟨#[]⟩] 25 (0, 0)) (List.mem_cons_self ..)); have z1 : b20 < u1.heap.size := lt_of_block (HL.out.get (b := b20) (o := .cells #[.int .u8 1, .int .i64 q, .string ⟨#[]⟩] 25 (0, 0)) (List.mem_cons_of_mem _ (List.mem_cons_self ..))); have z2 : b15 < u1.heap.size := lt_of_block (HL.out.get (b := b15) (o := .cells #[.int .u8 0, .int .i64 0, .string ⟨#[]⟩] 25 (0, 0)) (List.mem_cons_of_mem _ (List.mem_cons_of_mem _ (List.mem_cons_self ..)))); have z3 : b10 < u1.heap.size := lt_of_block (HL.out.get (b := b10) (o := .cells #[.int .u8 0, .int .i64 0, .string ⟨#[]⟩] 25 (0, 0)) (List.mem_cons_of_mem _ (List.mem_cons_of_mem _ (List.mem_cons_of_mem _ (List.mem_cons_self ..))))); have z4 : b5 < u1.heap.size := lt_of_block (HL.out.get (b := b5) (o := .cells #[.int .u8 0, .int .i64 0, .string ⟨#[]⟩] 25 (0, 0)) (List.mem_cons_of_mem _ (List.mem_cons_of_mem _ (List.mem_cons_of_mem _ (List.mem_cons_of_mem _ (List.mem_cons_self ..))))))) | ((first | refine stepZ HM.out (fun hB => n_any _ _) ?_ | refine stepZ HM.out.zero (fun hB => n_any _ _) ?_ | refine stepZ HM.out.zero.drew' (fun hB => n_any _ _) ?_ | refine stepZ HM.out.drew'.zero (fun hB => n_any _ _) ?_ | refine stepZ HM.out.drew' (fun hB => n_any _ _) ?_); intro u1 HM HL; have t0 : u1.cell? ⟨b20, 0, none⟩ = some (.int .u8 1) := HL.out.cell (b := b20) (cs := #[.int .u8 1, .int .i64 q, .string ⟨#[]⟩]) (t := 25) (fr := (0, 0)) (List.mem_cons_of_mem _ (List.mem_cons_self ..)) (0); have t1 : u1.cell? ⟨b20, 1, none⟩ = some (.int .i64 q) := HL.out.cell (b := b20) (cs := #[.int .u8 1, .int .i64 q, .string ⟨#[]⟩]) (t := 25) (fr := (0, 0)) (List.mem_cons_of_mem _ (List.mem_cons_self ..)) (1); have t2 : u1.cell? ⟨b20, 2, none⟩ = some (.string ⟨#[]⟩) := HL.out.cell (b := b20) (cs := #[.int .u8 1, .int .i64 q, .string ⟨#[]⟩]) (t := 25) (fr := (0, 0)) (List.mem_cons_of_mem _ (List.mem_cons_self ..)) (2); have SS := Lib.hid (show _ from (And.intro t0 (And.intro t1 t2))); clear t0 t1 t2; have z0 : b24 < u1.heap.size := lt_of_block (HL.out.get (b := b24) (o := .cells #[.int .u8 1, .int .i64 r, .string ⟨#[]⟩] 25 (0, 0)) (List.mem_cons_self ..)); have z1 : b20 < u1.heap.size := lt_of_block (HL.out.get (b := b20) (o := .cells #[.int .u8 1, .int .i64 q, .string ⟨#[]⟩] 25 (0, 0)) (List.mem_cons_of_mem _ (List.mem_cons_self ..))); have z2 : b15 < u1.heap.size := lt_of_block (HL.out.get (b := b15) (o := .cells #[.int .u8 0, .int .i64 0, .string ⟨#[]⟩] 25 (0, 0)) (List.mem_cons_of_mem _ (List.mem_cons_of_mem _ (List.mem_cons_self ..)))); have z3 : b10 < u1.heap.size := lt_of_block (HL.out.get (b := b10) (o := .cells #[.int .u8 0, .int .i64 0, .string ⟨#[]⟩] 25 (0, 0)) (List.mem_cons_of_mem _ (List.mem_cons_of_mem _ (List.mem_cons_of_mem _ (List.mem_cons_self ..))))); have z4 : b5 < u1.heap.size := lt_of_block (HL.out.get (b := b5) (o := .cells #[.int .u8 0, .int .i64 0, .string ⟨#[]⟩] 25 (0, 0)) (List.mem_cons_of_mem _ (List.mem_cons_of_mem _ (List.mem_cons_of_mem _ (List.mem_cons_of_mem _ (List.mem_cons_self ..)))))); have r0 : u1.cell? ⟨_, 0, none⟩ = some (.int .u8 0) := HM.out.cell 0; have r1 : u1.cell? ⟨_, 1, none⟩ = some (.int .i64 0) := HM.out.cell 1; have r2 : u1.cell? ⟨_, 2, none⟩ = some (.string ⟨#[]⟩) := HM.out.cell 2; have f0 : u1.frozen? ⟨_, 0, none⟩ = false := HM.out.free 0; have f1 : u1.frozen? ⟨_, 1, none⟩ = false := HM.out.free 1; have f2 : u1.frozen? ⟨_, 2, none⟩ = false := HM.out.free 2; have z9 : _ < u1.heap.size := lt_of_block HM.out.new))) | (go_at_call 8; (first | ((first | refine stepF HM.out (fun hB => two_is 7 1 q _ 1 b _ 1 n _ 0 (by omega) (by omega) (by omega) q0 q1 b0 b1 Khn.out _ (HW.out _ hB)) ?_ | refine stepF HM.out.drew' (fun hB => two_is 7 1 q _ 1 b _ 1 n _ 0 (by omega) (by omega) (by omega) q0 q1 b0 b1 Khn.out _ (HW.out _ hB)) ?_); intro u2 HM HL; have t0 : u2.cell? ⟨b20, 0, none⟩ = some (.int .u8 1) := HL.out.cell (b := b20) (cs := #[.int .u8 1, .int .i64 q, .string ⟨#[]⟩]) (t := 25) (fr := (0, 0)) (List.mem_cons_of_mem _ (List.mem_cons_self ..)) (0); have t1 : u2.cell? ⟨b20, 1, none⟩ = some (.int .i64 q) := HL.out.cell (b := b20) (cs := #[.int .u8 1, .int .i64 q, .string ⟨#[]⟩]) (t := 25) (fr := (0, 0)) (List.mem_cons_of_mem _ (List.mem_cons_self ..)) (1); have t2 : u2.cell? ⟨b20, 2, none⟩ = some (.string ⟨#[]⟩) := HL.out.cell (b := b20) (cs := #[.int .u8 1, .int .i64 q, .string ⟨#[]⟩]) (t := 25) (fr := (0, 0)) (List.mem_cons_of_mem _ (List.mem_cons_self ..)) (2); have SS := Lib.hid (show _ from (And.intro t0 (And.intro t1 t2))); clear t0 t1 t2; have z0 : b24 < u2.heap.size := lt_of_block (HL.out.get (b := b24) (o := .cells #[.int .u8 1, .int .i64 r, .string ⟨#[]⟩] 25 (0, 0)) (List.mem_cons_self ..)); have z1 : b20 < u2.heap.size := lt_of_block (HL.out.get (b := b20) (o := .cells #[.int .u8 1, .int .i64 q, .string ⟨#[]⟩] 25 (0, 0)) (List.mem_cons_of_mem _ (List.mem_cons_self ..))); have z2 : b15 < u2.heap.size := lt_of_block (HL.out.get (b := b15) (o := .cells #[.int .u8 0, .int .i64 0, .string ⟨#[]⟩] 25 (0, 0)) (List.mem_cons_of_mem _ (List.mem_cons_of_mem _ (List.mem_cons_self ..)))); have z3 : b10 < u2.heap.size := lt_of_block (HL.out.get (b := b10) (o := .cells #[.int .u8 0, .int .i64 0, .string ⟨#[]⟩] 25 (0, 0)) (List.mem_cons_of_mem _ (List.mem_cons_of_mem _ (List.mem_cons_of_mem _ (List.mem_cons_self ..))))); have z4 : b5 < u2.heap.size := lt_of_block (HL.out.get (b := b5) (o := .cells #[.int .u8 0, .int .i64 0, .string ⟨#[]⟩] 25 (0, 0)) (List.mem_cons_of_mem _ (List.mem_cons_of_mem _ (List.mem_cons_of_mem _ (List.mem_cons_of_mem _ (List.mem_cons_self ..))))))) | ((first | refine stepZ HM.out (fun hB => two_is 7 1 q _ 1 b _ 1 n _ 0 (by omega) (by omega) (by omega) q0 q1 b0 b1 Khn.out _ (HW.out _ hB)) ?_ | refine stepZ HM.out.zero (fun hB => two_is 7 1 q _ 1 b _ 1 n _ 0 (by omega) (by omega) (by omega) q0 q1 b0 b1 Khn.out _ (HW.out _ hB)) ?_ | refine stepZ HM.out.zero.drew' (fun hB => two_is 7 1 q _ 1 b _ 1 n _ 0 (by omega) (by omega) (by omega) q0 q1 b0 b1 Khn.out _ (HW.out _ hB)) ?_ | refine stepZ HM.out.drew'.zero (fun hB => two_is 7 1 q _ 1 b _ 1 n _ 0 (by omega) (by omega) (by omega) q0 q1 b0 b1 Khn.out _ (HW.out _ hB)) ?_ | refine stepZ HM.out.drew' (fun hB => two_is 7 1 q _ 1 b _ 1 n _ 0 (by omega) (by omega) (by omega) q0 q1 b0 b1 Khn.out _ (HW.out _ hB)) ?_); intro u2 HM HL; have t0 : u2.cell? ⟨b20, 0, none⟩ = some (.int .u8 1) := HL.out.cell (b := b20) (cs := #[.int .u8 1, .int .i64 q, .string ⟨#[]⟩]) (t := 25) (fr := (0, 0)) (List.mem_cons_of_mem _ (List.mem_cons_self ..)) (0); have t1 : u2.cell? ⟨b20, 1, none⟩ = some (.int .i64 q) := HL.out.cell (b := b20) (cs := #[.int .u8 1, .int .i64 q, .string ⟨#[]⟩]) (t := 25) (fr := (0, 0)) (List.mem_cons_of_mem _ (List.mem_cons_self ..)) (1); have t2 : u2.cell? ⟨b20, 2, none⟩ = some (.string ⟨#[]⟩) := HL.out.cell (b := b20) (cs := #[.int .u8 1, .int .i64 q, .string ⟨#[]⟩]) (t := 25) (fr := (0, 0)) (List.mem_cons_of_mem _ (List.mem_cons_self ..)) (2); have SS := Lib.hid (show _ from (And.intro t0 (And.intro t1 t2))); clear t0 t1 t2; have z0 : b24 < u2.heap.size := lt_of_block (HL.out.get (b := b24) (o := .cells #[.int .u8 1, .int .i64 r, .string ⟨#[]⟩] 25 (0, 0)) (List.mem_cons_self ..)); have z1 : b20 < u2.heap.size := lt_of_block (HL.out.get (b := b20) (o := .cells #[.int .u8 1, .int .i64 q, .string ⟨#[]⟩] 25 (0, 0)) (List.mem_cons_of_mem _ (List.mem_cons_self ..))); have z2 : b15 < u2.heap.size := lt_of_block (HL.out.get (b := b15) (o := .cells #[.int .u8 0, .int .i64 0, .string ⟨#[]⟩] 25 (0, 0)) (List.mem_cons_of_mem _ (List.mem_cons_of_mem _ (List.mem_cons_self ..)))); have z3 : b10 < u2.heap.size := lt_of_block (HL.out.get (b := b10) (o := .cells #[.int .u8 0, .int .i64 0, .string ⟨#[]⟩] 25 (0, 0)) (List.mem_cons_of_mem _ (List.mem_cons_of_mem _ (List.mem_cons_of_mem _ (List.mem_cons_self ..))))); have z4 : b5 < u2.heap.size := lt_of_block (HL.out.get (b := b5) (o := .cells #[.int .u8 0, .int .i64 0, .string ⟨#[]⟩] 25 (0, 0)) (List.mem_cons_of_mem _ (List.mem_cons_of_mem _ (List.mem_cons_of_mem _ (List.mem_cons_of_mem _ (List.mem_cons_self ..)))))); have r0 : u2.cell? ⟨_, 0, none⟩ = some (.int .u8 0) := HM.out.cell 0; have r1 : u2.cell? ⟨_, 1, none⟩ = some (.int .i64 0) := HM.out.cell 1; have r2 : u2.cell? ⟨_, 2, none⟩ = some (.string ⟨#[]⟩) := HM.out.cell 2; have f0 : u2.frozen? ⟨_, 0, none⟩ = false := HM.out.free 0; have f1 : u2.frozen? ⟨_, 1, none⟩ = false := HM.out.free 1; have f2 : u2.frozen? ⟨_, 2, none⟩ = false := HM.out.free 2; have z9 : _ < u2.heap.size := lt_of_block HM.out.new)))))
    all_goals (first | (obtain ⟨bx, hx, HO⟩ := endF (.cells #[.int .u8 1, .int .i64 n, .string ⟨#[]⟩] 25 (0, 0)) HM.out; refine ⟨rfl, ?_⟩; (try rw [← hx] at HO); rw [← hx]; exact ⟨bx, rfl, HO⟩) | (obtain ⟨bx, hx, HO⟩ := endZ (.int .u8 1) (.int .i64 n) (.string ⟨#[]⟩) HM.out; refine ⟨rfl, ?_⟩; (try rw [← hx] at HO); rw [← hx]; exact ⟨bx, rfl, HO⟩))
  intro bn9 v9 H9
  clear HM HL s0 s1 s2 z0 z1 z2 z3 z4
  clear HY24
  go_wp2_with fail
  have p0 : v9.cell? ⟨bn9, 0, none⟩ = some (.int .u8 1) := H9.out.cell (b := bn9) (cs := #[.int .u8 1, .int .i64 n, .string ⟨#[]⟩]) (t := 25) (fr := (0, 0)) (List.mem_cons_self ..) (0)
  have p1 : v9.cell? ⟨bn9, 1, none⟩ = some (.int .i64 n) := H9.out.cell (b := bn9) (cs := #[.int .u8 1, .int .i64 n, .string ⟨#[]⟩]) (t := 25) (fr := (0, 0)) (List.mem_cons_self ..) (1)
  have p2 : v9.cell? ⟨bn9, 2, none⟩ = some (.string ⟨#[]⟩) := H9.out.cell (b := bn9) (cs := #[.int .u8 1, .int .i64 n, .string ⟨#[]⟩]) (t := 25) (fr := (0, 0)) (List.mem_cons_self ..) (2)
  have p3 : v9.cell? ⟨b24, 0, none⟩ = some (.int .u8 1) := H9.out.cell (b := b24) (cs := #[.int .u8 1, .int .i64 r, .string ⟨#[]⟩]) (t := 25) (fr := (0, 0)) (List.mem_cons_of_mem _ (List.mem_cons_self ..)) (0)
  have p4 : v9.cell? ⟨b24, 1, none⟩ = some (.int .i64 r) := H9.out.cell (b := b24) (cs := #[.int .u8 1, .int .i64 r, .string ⟨#[]⟩]) (t := 25) (fr := (0, 0)) (List.mem_cons_of_mem _ (List.mem_cons_self ..)) (1)
  have p5 : v9.cell? ⟨b24, 2, none⟩ = some (.string ⟨#[]⟩) := H9.out.cell (b := b24) (cs := #[.int .u8 1, .int .i64 r, .string ⟨#[]⟩]) (t := 25) (fr := (0, 0)) (List.mem_cons_of_mem _ (List.mem_cons_self ..)) (2)
  have q0 := bwOf_cell v9 _ _ p0
  have q1 := bwOf_cell v9 _ _ p1
  have q2 := bwOf_cell v9 _ _ p2
  have q3 := bwOf_cell v9 _ _ p3
  have q4 := bwOf_cell v9 _ _ p4
  have q5 := bwOf_cell v9 _ _ p5
  clear p0 p1 p2 p3 p4 p5
  refine wp_region_bw (w := v9) (by kernel_rfl) (by kernel_rfl) ?_
  repeat (go_big_quiet_step (fail))
  go_big_quiet_step ((go_at_call 11; exact below_of (n_any _ _)))
  repeat (go_big_quiet_step (fail))
  go_big_quiet_step ((go_at_call 12; exact below_of (two_yes 5 1 n _ 1 r _ 1 a _ 0 (by omega) (by omega) (by omega) n0 n1 r0 r1 Khf.out _ (HW.out _ (below_end H9.out.below (bwOf_below _ _))))))
  repeat (go_big_quiet_step (fail))
  refine wpQuiet_nil ?_
  rintro z25 ⟨m9, rfl⟩
  have HZ25 := Lib.hid (H9.out.kept (bwOf_below v9 m9))
  clear q0 q1 q2 q3 q4 q5
  generalize bwOf v9 m9 = z25 at *
  go_wp2_with fail
  go_ret
  exact ⟨rfl, HZ25.out.below⟩
set_option maxRecDepth 100000 in
set_option maxHeartbeats 16000000 in
theorem back_sdpr (a : Int) (a0 : -9223372036854775808 ≤ a) (a1 : a ≤ 9223372036854775807) (b : Int) (b0 : -9223372036854775808 ≤ b) (b1 : b ≤ 9223372036854775807) (sg : Bool) (sa : decide (a < 0) = sg)
    (hs : Val.two 5 ⟨1, a, ⟨#[]⟩⟩ ⟨1, b, ⟨#[]⟩⟩ = (⟨0, 0, ⟨#[]⟩⟩, 12))
    (sb : decide (b < 0) = sg)
    (hd : Val.two 6 ⟨1, a, ⟨#[]⟩⟩ ⟨1, b, ⟨#[]⟩⟩ = (⟨0, 0, ⟨#[]⟩⟩, 12))
    (hp : Val.two 7 ⟨1, a, ⟨#[]⟩⟩ ⟨1, b, ⟨#[]⟩⟩ = (⟨0, 0, ⟨#[]⟩⟩, 12))
    (bz : (b == 0) = false)
    (q : Int) (q0 : -9223372036854775808 ≤ q) (q1 : q ≤ 9223372036854775807)
    (hq : Val.two 8 ⟨1, a, ⟨#[]⟩⟩ ⟨1, b, ⟨#[]⟩⟩ = (⟨1, q, ⟨#[]⟩⟩, 0))
    (r : Int) (r0 : -9223372036854775808 ≤ r) (r1 : r ≤ 9223372036854775807)
    (hr : Val.two 9 ⟨1, a, ⟨#[]⟩⟩ ⟨1, b, ⟨#[]⟩⟩ = (⟨1, r, ⟨#[]⟩⟩, 0))
    (rz : (r != 0) = true)
    (sr : decide (r < 0) = sg)
    (n : Int) (n0 : -9223372036854775808 ≤ n) (n1 : n ≤ 9223372036854775807)
    (hn : Val.two 7 ⟨1, q, ⟨#[]⟩⟩ ⟨1, b, ⟨#[]⟩⟩ = (⟨1, n, ⟨#[]⟩⟩, 0))
    (hf : Val.two 5 ⟨1, n, ⟨#[]⟩⟩ ⟨1, r, ⟨#[]⟩⟩ = (⟨1, a, ⟨#[]⟩⟩, 0)) (w : World) (hw : Wd w) :
    Calls Tryd.prog 4 #[.int .i64 a, .int .i64 b] w fun e w' => e = .returned (.bool true) ∧ Below w.heap.size w w' := by
  have Khs := Lib.hid hs
  have Khd := Lib.hid hd
  have Khp := Lib.hid hp
  have Khq := Lib.hid hq
  have Khr := Lib.hid hr
  have Khn := Lib.hid hn
  have Khf := Lib.hid hf
  clear hs hd hp hq hr hn hf
  have HW : Hid (∀ x, Below w.heap.size w x → Wd x) := Lib.hid (fun _ h => hw.kept h)
  clear hw
  have H0 : Hid (Fam w [] w) := Lib.hid (fam_n0 w)
  go_enter Tryd.func4, Tryd.ntmps4
  go_wp2_with fail
  refine stepF H0.out (fun hB => alive_yes _ (HW.out _ hB)) ?_
  intro x1 HX1 _
  go_wp2_with fail
  refine stepF HX1.out (fun hB => n_any _ _) ?_
  intro x2 HX2 _
  go_wp2_with fail
  refine stepF HX2.out (fun hB => n_any _ _) ?_
  intro x3 HX3 _
  go_wp2_with fail
  refine stepF HX3.out (fun hB => two_is 5 1 a _ 1 b _ 0 0 _ 12 (by omega) (by omega) (by omega) a0 a1 b0 b1 Khs.out _ (HW.out _ hB)) ?_
  intro x4 HX4 _
  go_wp2_with fail
  have HY5 := Lib.hid (HX4.out.add (below_alloc x4 (.cells #[.int .u8 0, .int .i64 0, .string ⟨#[]⟩] 25)) (Nat.le_refl _) (heap_alloc_new _ _))
  obtain ⟨b5, hb5⟩ : ∃ x, x = x4.heap.size := ⟨_, rfl⟩
  obtain ⟨y5, hy5⟩ : ∃ x, x = x4.alloc (.cells #[.int .u8 0, .int .i64 0, .string ⟨#[]⟩] 25) := ⟨_, rfl⟩
  rw [← hb5, ← hy5] at HY5
  rw [← hb5, ← hy5]
  clear hb5 hy5
  refine wp_region_bw (w := y5) (by kernel_rfl) (by kernel_rfl) ?_
  repeat (go_big_quiet_step (fail))
  refine wpQuiet_nil ?_
  rintro z6 ⟨m9, rfl⟩
  have HZ6 := Lib.hid (HY5.out.kept (bwOf_below y5 m9))
  generalize bwOf y5 m9 = z6 at *
  go_wp2_with fail
  refine stepF HZ6.out (fun hB => n_any _ _) ?_
  intro x7 HX7 _
  go_wp2_with fail
  refine stepF HX7.out (fun hB => n_any _ _) ?_
  intro x8 HX8 _
  go_wp2_with fail
  refine stepF HX8.out (fun hB => two_is 6 1 a _ 1 b _ 0 0 _ 12 (by omega) (by omega) (by omega) a0 a1 b0 b1 Khd.out _ (HW.out _ hB)) ?_
  intro x9 HX9 _
  go_wp2_with fail
  have HY10 := Lib.hid (HX9.out.add (below_alloc x9 (.cells #[.int .u8 0, .int .i64 0, .string ⟨#[]⟩] 25)) (Nat.le_refl _) (heap_alloc_new _ _))
  obtain ⟨b10, hb10⟩ : ∃ x, x = x9.heap.size := ⟨_, rfl⟩
  obtain ⟨y10, hy10⟩ : ∃ x, x = x9.alloc (.cells #[.int .u8 0, .int .i64 0, .string ⟨#[]⟩] 25) := ⟨_, rfl⟩
  rw [← hb10, ← hy10] at HY10
  rw [← hb10, ← hy10]
  clear hb10 hy10
  refine wp_region_bw (w := y10) (by kernel_rfl) (by kernel_rfl) ?_
  repeat (go_big_quiet_step (fail))
  refine wpQuiet_nil ?_
  rintro z11 ⟨m9, rfl⟩
  have HZ11 := Lib.hid (HY10.out.kept (bwOf_below y10 m9))
  generalize bwOf y10 m9 = z11 at *
  go_wp2_with fail
  refine stepF HZ11.out (fun hB => n_any _ _) ?_
  intro x12 HX12 _
  go_wp2_with fail
  refine stepF HX12.out (fun hB => n_any _ _) ?_
  intro x13 HX13 _
  go_wp2_with fail
  refine stepF HX13.out (fun hB => two_is 7 1 a _ 1 b _ 0 0 _ 12 (by omega) (by omega) (by omega) a0 a1 b0 b1 Khp.out _ (HW.out _ hB)) ?_
  intro x14 HX14 _
  go_wp2_with fail
  have HY15 := Lib.hid (HX14.out.add (below_alloc x14 (.cells #[.int .u8 0, .int .i64 0, .string ⟨#[]⟩] 25)) (Nat.le_refl _) (heap_alloc_new _ _))
  obtain ⟨b15, hb15⟩ : ∃ x, x = x14.heap.size := ⟨_, rfl⟩
  obtain ⟨y15, hy15⟩ : ∃ x, x = x14.alloc (.cells #[.int .u8 0, .int .i64 0, .string ⟨#[]⟩] 25) := ⟨_, rfl⟩
  rw [← hb15, ← hy15] at HY15
  rw [← hb15, ← hy15]
  clear hb15 hy15
  refine wp_region_bw (w := y15) (by kernel_rfl) (by kernel_rfl) ?_
  repeat (go_big_quiet_step (fail))
  refine wpQuiet_nil ?_
  rintro z16 ⟨m9, rfl⟩
  have HZ16 := Lib.hid (HY15.out.kept (bwOf_below y15 m9))
  generalize bwOf y15 m9 = z16 at *
  go_wp2_with fail
  refine stepF HZ16.out (fun hB => n_any _ _) ?_
  intro x17 HX17 _
  go_wp2_with fail
  refine stepF HX17.out (fun hB => n_any _ _) ?_
  intro x18 HX18 _
  go_wp2_with fail
  refine stepF HX18.out (fun hB => two_is 8 1 a _ 1 b _ 1 q _ 0 (by omega) (by omega) (by omega) a0 a1 b0 b1 Khq.out _ (HW.out _ hB)) ?_
  intro x19 HX19 _
  go_wp2_with fail
  have HY20 := Lib.hid (HX19.out.add (below_alloc x19 (.cells #[.int .u8 1, .int .i64 q, .string ⟨#[]⟩] 25)) (Nat.le_refl _) (heap_alloc_new _ _))
  obtain ⟨b20, hb20⟩ : ∃ x, x = x19.heap.size := ⟨_, rfl⟩
  obtain ⟨y20, hy20⟩ : ∃ x, x = x19.alloc (.cells #[.int .u8 1, .int .i64 q, .string ⟨#[]⟩] 25) := ⟨_, rfl⟩
  rw [← hb20, ← hy20] at HY20
  rw [← hb20, ← hy20]
  clear hb20 hy20
  refine stepF HY20.out (fun hB => n_any _ _) ?_
  intro x21 HX21 _
  go_wp2_with fail
  refine stepF HX21.out (fun hB => n_any _ _) ?_
  intro x22 HX22 _
  go_wp2_with fail
  refine stepF HX22.out (fun hB => two_is 9 1 a _ 1 b _ 1 r _ 0 (by omega) (by omega) (by omega) a0 a1 b0 b1 Khr.out _ (HW.out _ hB)) ?_
  intro x23 HX23 _
  go_wp2_with fail
  have HY24 := Lib.hid (HX23.out.add (below_alloc x23 (.cells #[.int .u8 1, .int .i64 r, .string ⟨#[]⟩] 25)) (Nat.le_refl _) (heap_alloc_new _ _))
  obtain ⟨b24, hb24⟩ : ∃ x, x = x23.heap.size := ⟨_, rfl⟩
  obtain ⟨y24, hy24⟩ : ∃ x, x = x23.alloc (.cells #[.int .u8 1, .int .i64 r, .string ⟨#[]⟩] 25) := ⟨_, rfl⟩
  rw [← hb24, ← hy24] at HY24
  rw [← hb24, ← hy24]
  clear hb24 hy24
  have s0 : y24.cell? ⟨b24, 0, none⟩ = some (.int .u8 1) := HY24.out.cell (b := b24) (cs := #[.int .u8 1, .int .i64 r, .string ⟨#[]⟩]) (t := 25) (fr := (0, 0)) (List.mem_cons_self ..) (0)
  have s1 : y24.cell? ⟨b24, 1, none⟩ = some (.int .i64 r) := HY24.out.cell (b := b24) (cs := #[.int .u8 1, .int .i64 r, .string ⟨#[]⟩]) (t := 25) (fr := (0, 0)) (List.mem_cons_self ..) (1)
  have s2 : y24.cell? ⟨b24, 2, none⟩ = some (.string ⟨#[]⟩) := HY24.out.cell (b := b24) (cs := #[.int .u8 1, .int .i64 r, .string ⟨#[]⟩]) (t := 25) (fr := (0, 0)) (List.mem_cons_self ..) (2)
  go_wp2_with fail
  clear s0 s1 s2
  have s0 : y24.cell? ⟨b20, 0, none⟩ = some (.int .u8 1) := HY24.out.cell (b := b20) (cs := #[.int .u8 1, .int .i64 q, .string ⟨#[]⟩]) (t := 25) (fr := (0, 0)) (List.mem_cons_of_mem _ (List.mem_cons_self ..)) (0)
  have s1 : y24.cell? ⟨b20, 1, none⟩ = some (.int .i64 q) := HY24.out.cell (b := b20) (cs := #[.int .u8 1, .int .i64 q, .string ⟨#[]⟩]) (t := 25) (fr := (0, 0)) (List.mem_cons_of_mem _ (List.mem_cons_self ..)) (1)
  have s2 : y24.cell? ⟨b20, 2, none⟩ = some (.string ⟨#[]⟩) := HY24.out.cell (b := b20) (cs := #[.int .u8 1, .int .i64 q, .string ⟨#[]⟩]) (t := 25) (fr := (0, 0)) (List.mem_cons_of_mem _ (List.mem_cons_self ..)) (2)
  have z0 : b24 < y24.heap.size := lt_of_block (HY24.out.get (b := b24) (o := .cells #[.int .u8 1, .int .i64 r, .string ⟨#[]⟩] 25 (0, 0)) (List.mem_cons_self ..))
  have z1 : b20 < y24.heap.size := lt_of_block (HY24.out.get (b := b20) (o := .cells #[.int .u8 1, .int .i64 q, .string ⟨#[]⟩] 25 (0, 0)) (List.mem_cons_of_mem _ (List.mem_cons_self ..)))
  have z2 : b15 < y24.heap.size := lt_of_block (HY24.out.get (b := b15) (o := .cells #[.int .u8 0, .int .i64 0, .string ⟨#[]⟩] 25 (0, 0)) (List.mem_cons_of_mem _ (List.mem_cons_of_mem _ (List.mem_cons_self ..))))
  have z3 : b10 < y24.heap.size := lt_of_block (HY24.out.get (b := b10) (o := .cells #[.int .u8 0, .int .i64 0, .string ⟨#[]⟩] 25 (0, 0)) (List.mem_cons_of_mem _ (List.mem_cons_of_mem _ (List.mem_cons_of_mem _ (List.mem_cons_self ..)))))
  have z4 : b5 < y24.heap.size := lt_of_block (HY24.out.get (b := b5) (o := .cells #[.int .u8 0, .int .i64 0, .string ⟨#[]⟩] 25 (0, 0)) (List.mem_cons_of_mem _ (List.mem_cons_of_mem _ (List.mem_cons_of_mem _ (List.mem_cons_of_mem _ (List.mem_cons_self ..))))))
  have HM := HY24
  have HL := HY24
  apply wp_merge (R := fun b x => Hid (Fam w ((b, .cells #[.int .u8 1, .int .i64 n, .string ⟨#[]⟩] 25 (0, 0)) :: [(b24, .cells #[.int .u8 1, .int .i64 r, .string ⟨#[]⟩] 25 (0, 0)), (b20, .cells #[.int .u8 1, .int .i64 q, .string ⟨#[]⟩] 25 (0, 0)), (b15, .cells #[.int .u8 0, .int .i64 0, .string ⟨#[]⟩] 25 (0, 0)), (b10, .cells #[.int .u8 0, .int .i64 0, .string ⟨#[]⟩] 25 (0, 0)), (b5, .cells #[.int .u8 0, .int .i64 0, .string ⟨#[]⟩] 25 (0, 0))]) x))
  case h =>
    go_region_held3 (fun x => x.cell? ⟨b20, 0, none⟩ = some (.int .u8 1) ∧ x.cell? ⟨b20, 1, none⟩ = some (.int .i64 q) ∧ x.cell? ⟨b20, 2, none⟩ = some (.string ⟨#[]⟩)) (first | with_reducible exact ⟨s0, s1, s2⟩ | with_reducible exact ⟨keep_drew s0, keep_drew s1, keep_drew s2⟩ | with_reducible exact ⟨keep_drew (keep_alloc s0), keep_drew (keep_alloc s1), keep_drew (keep_alloc s2)⟩ | with_reducible exact ⟨keep_alloc (keep_drew s0), keep_alloc (keep_drew s1), keep_alloc (keep_drew s2)⟩ | with_reducible exact SS.out | with_reducible exact ⟨keep_alloc SS.out.1, keep_alloc SS.out.2.1, keep_alloc SS.out.2.2⟩ | with_reducible exact ⟨(set3_other (by omega) _ _ _ _).trans SS.out.1, (set3_other (by omega) _ _ _ _).trans SS.out.2.1, (set3_other (by omega) _ _ _ _).trans SS.out.2.2⟩) ((first | (go_at_call 11; (first | ((first | refine stepF HM.out (fun hB => n_any _ _) ?_ | refine stepF HM.out.drew' (fun hB => n_any _ _) ?_); intro u1 HM HL; have t0 : u1.cell? ⟨b20, 0, none⟩ = some (.int .u8 1) := HL.out.cell (b := b20) (cs := #[.int .u8 1, .int .i64 q, .string ⟨#[]⟩]) (t := 25) (fr := (0, 0)) (List.mem_cons_of_mem _ (List.mem_cons_self ..)) (0); have t1 : u1.cell? ⟨b20, 1, none⟩ = some (.int .i64 q) := HL.out.cell (b := b20) (cs := #[.int .u8 1, .int .i64 q, .string ⟨#[]⟩]) (t := 25) (fr := (0, 0)) (List.mem_cons_of_mem _ (List.mem_cons_self ..)) (1); have t2 : u1.cell? ⟨b20, 2, none⟩ = some (.string ⟨#[]⟩) := HL.out.cell (b := b20) (cs := #[.int .u8 1, .int .i64 q, .string ⟨#[]⟩]) (t := 25) (fr := (0, 0)) (List.mem_cons_of_mem _ (List.mem_cons_self ..)) (2); have SS := Lib.hid (show _ from (And.intro t0 (And.intro t1 t2))); clear t0 t1 t2; have z0 : b24 < u1.heap.size := lt_of_block (HL.out.get (b := b24) (o := .cells #[.int .u8 1, .int .i64 r, .string ⟨#[]⟩] 25 (0, 0)) (List.mem_cons_self ..)); have z1 : b20 < u1.heap.size := lt_of_block (HL.out.get (b := b20) (o := .cells #[.int .u8 1, .int .i64 q, .string ⟨#[]⟩] 25 (0, 0)) (List.mem_cons_of_mem _ (List.mem_cons_self ..))); have z2 : b15 < u1.heap.size := lt_of_block (HL.out.get (b := b15) (o := .cells #[.int .u8 0, .int .i64 0, .string ⟨#[]⟩] 25 (0, 0)) (List.mem_cons_of_mem _ (List.mem_cons_of_mem _ (List.mem_cons_self ..)))); have z3 : b10 < u1.heap.size := lt_of_block (HL.out.get (b := b10) (o := .cells #[.int .u8 0, .int .i64 0, .string ⟨#[]⟩] 25 (0, 0)) (List.mem_cons_of_mem _ (List.mem_cons_of_mem _ (List.mem_cons_of_mem _ (List.mem_cons_self ..))))); have z4 : b5 < u1.heap.size := lt_of_block (HL.out.get (b := b5) (o := .cells #[.int .u8 0, .int .i64 0, .string ⟨#[]⟩] 25 (0, 0)) (List.mem_cons_of_mem _ (List.mem_cons_of_mem _ (List.mem_cons_of_mem _ (List.mem_cons_of_mem _ (List.mem_cons_self ..))))))) | ((first | refine stepZ HM.out (fun hB => n_any _ _) ?_ | refine stepZ HM.out.zero (fun hB => n_any _ _) ?_ | refine stepZ HM.out.zero.drew' (fun hB => n_any _ _) ?_ | refine stepZ HM.out.drew'.zero (fun hB => n_any _ _) ?_ | refine stepZ HM.out.drew' (fun hB => n_any _ _) ?_); intro u1 HM HL; have t0 : u1.cell? ⟨b20, 0, none⟩ = some (.int .u8 1) := HL.out.cell (b := b20) (cs := #[.int .u8 1, .int .i64 q, .string ⟨#[]⟩]) (t := 25) (fr := (0, 0)) (List.mem_cons_of_mem _ (List.mem_cons_self ..)) (0); have t1 : u1.cell? ⟨b20, 1, none⟩ = some (.int .i64 q) := HL.out.cell (b := b20) (cs := #[.int .u8 1, .int .i64 q, .string ⟨#[]⟩]) (t := 25) (fr := (0, 0)) (List.mem_cons_of_mem _ (List.mem_cons_self ..)) (1); have t2 : u1.cell? ⟨b20, 2, none⟩ = some (.string ⟨#[]⟩) := HL.out.cell (b := b20) (cs := #[.int .u8 1, .int .i64 q, .string ⟨#[]⟩]) (t := 25) (fr := (0, 0)) (List.mem_cons_of_mem _ (List.mem_cons_self ..)) (2); have SS := Lib.hid (show _ from (And.intro t0 (And.intro t1 t2))); clear t0 t1 t2; have z0 : b24 < u1.heap.size := lt_of_block (HL.out.get (b := b24) (o := .cells #[.int .u8 1, .int .i64 r, .string ⟨#[]⟩] 25 (0, 0)) (List.mem_cons_self ..)); have z1 : b20 < u1.heap.size := lt_of_block (HL.out.get (b := b20) (o := .cells #[.int .u8 1, .int .i64 q, .string ⟨#[]⟩] 25 (0, 0)) (List.mem_cons_of_mem _ (List.mem_cons_self ..))); have z2 : b15 < u1.heap.size := lt_of_block (HL.out.get (b := b15) (o := .cells #[.int .u8 0, .int .i64 0, .string ⟨#[]⟩] 25 (0, 0)) (List.mem_cons_of_mem _ (List.mem_cons_of_mem _ (List.mem_cons_self ..)))); have z3 : b10 < u1.heap.size := lt_of_block (HL.out.get (b := b10) (o := .cells #[.int .u8 0, .int .i64 0, .string ⟨#[]⟩] 25 (0, 0)) (List.mem_cons_of_mem _ (List.mem_cons_of_mem _ (List.mem_cons_of_mem _ (List.mem_cons_self ..))))); have z4 : b5 < u1.heap.size := lt_of_block (HL.out.get (b := b5) (o := .cells #[.int .u8 0, .int .i64 0, .string ⟨#[]⟩] 25 (0, 0)) (List.mem_cons_of_mem _ (List.mem_cons_of_mem _ (List.mem_cons_of_mem _ (List.mem_cons_of_mem _ (List.mem_cons_self ..)))))); have r0 : u1.cell? ⟨_, 0, none⟩ = some (.int .u8 0) := HM.out.cell 0; have r1 : u1.cell? ⟨_, 1, none⟩ = some (.int .i64 0) := HM.out.cell 1; have r2 : u1.cell? ⟨_, 2, none⟩ = some (.string ⟨#[]⟩) := HM.out.cell 2; have f0 : u1.frozen? ⟨_, 0, none⟩ = false := HM.out.free 0; have f1 : u1.frozen? ⟨_, 1, none⟩ = false := HM.out.free 1; have f2 : u1.frozen? ⟨_, 2, none⟩ = false := HM.out.free 2; have z9 : _ < u1.heap.size := lt_of_block HM.out.new))) | (go_at_call 8; (first | ((first | refine stepF HM.out (fun hB => two_is 7 1 q _ 1 b _ 1 n _ 0 (by omega) (by omega) (by omega) q0 q1 b0 b1 Khn.out _ (HW.out _ hB)) ?_ | refine stepF HM.out.drew' (fun hB => two_is 7 1 q _ 1 b _ 1 n _ 0 (by omega) (by omega) (by omega) q0 q1 b0 b1 Khn.out _ (HW.out _ hB)) ?_); intro u2 HM HL; have t0 : u2.cell? ⟨b20, 0, none⟩ = some (.int .u8 1) := HL.out.cell (b := b20) (cs := #[.int .u8 1, .int .i64 q, .string ⟨#[]⟩]) (t := 25) (fr := (0, 0)) (List.mem_cons_of_mem _ (List.mem_cons_self ..)) (0); have t1 : u2.cell? ⟨b20, 1, none⟩ = some (.int .i64 q) := HL.out.cell (b := b20) (cs := #[.int .u8 1, .int .i64 q, .string ⟨#[]⟩]) (t := 25) (fr := (0, 0)) (List.mem_cons_of_mem _ (List.mem_cons_self ..)) (1); have t2 : u2.cell? ⟨b20, 2, none⟩ = some (.string ⟨#[]⟩) := HL.out.cell (b := b20) (cs := #[.int .u8 1, .int .i64 q, .string ⟨#[]⟩]) (t := 25) (fr := (0, 0)) (List.mem_cons_of_mem _ (List.mem_cons_self ..)) (2); have SS := Lib.hid (show _ from (And.intro t0 (And.intro t1 t2))); clear t0 t1 t2; have z0 : b24 < u2.heap.size := lt_of_block (HL.out.get (b := b24) (o := .cells #[.int .u8 1, .int .i64 r, .string ⟨#[]⟩] 25 (0, 0)) (List.mem_cons_self ..)); have z1 : b20 < u2.heap.size := lt_of_block (HL.out.get (b := b20) (o := .cells #[.int .u8 1, .int .i64 q, .string ⟨#[]⟩] 25 (0, 0)) (List.mem_cons_of_mem _ (List.mem_cons_self ..))); have z2 : b15 < u2.heap.size := lt_of_block (HL.out.get (b := b15) (o := .cells #[.int .u8 0, .int .i64 0, .string ⟨#[]⟩] 25 (0, 0)) (List.mem_cons_of_mem _ (List.mem_cons_of_mem _ (List.mem_cons_self ..)))); have z3 : b10 < u2.heap.size := lt_of_block (HL.out.get (b := b10) (o := .cells #[.int .u8 0, .int .i64 0, .string ⟨#[]⟩] 25 (0, 0)) (List.mem_cons_of_mem _ (List.mem_cons_of_mem _ (List.mem_cons_of_mem _ (List.mem_cons_self ..))))); have z4 : b5 < u2.heap.size := lt_of_block (HL.out.get (b := b5) (o := .cells #[.int .u8 0, .int .i64 0, .string ⟨#[]⟩] 25 (0, 0)) (List.mem_cons_of_mem _ (List.mem_cons_of_mem _ (List.mem_cons_of_mem _ (List.mem_cons_of_mem _ (List.mem_cons_self ..))))))) | ((first | refine stepZ HM.out (fun hB => two_is 7 1 q _ 1 b _ 1 n _ 0 (by omega) (by omega) (by omega) q0 q1 b0 b1 Khn.out _ (HW.out _ hB)) ?_ | refine stepZ HM.out.zero (fun hB => two_is 7 1 q _ 1 b _ 1 n _ 0 (by omega) (by omega) (by omega) q0 q1 b0 b1 Khn.out _ (HW.out _ hB)) ?_ | refine stepZ HM.out.zero.drew' (fun hB => two_is 7 1 q _ 1 b _ 1 n _ 0 (by omega) (by omega) (by omega) q0 q1 b0 b1 Khn.out _ (HW.out _ hB)) ?_ | refine stepZ HM.out.drew'.zero (fun hB => two_is 7 1 q _ 1 b _ 1 n _ 0 (by omega) (by omega) (by omega) q0 q1 b0 b1 Khn.out _ (HW.out _ hB)) ?_ | refine stepZ HM.out.drew' (fun hB => two_is 7 1 q _ 1 b _ 1 n _ 0 (by omega) (by omega) (by omega) q0 q1 b0 b1 Khn.out _ (HW.out _ hB)) ?_); intro u2 HM HL; have t0 : u2.cell? ⟨b20, 0, none⟩ = some (.int .u8 1) := HL.out.cell (b := b20) (cs := #[.int .u8 1, .int .i64 q, .string ⟨#[]⟩]) (t := 25) (fr := (0, 0)) (List.mem_cons_of_mem _ (List.mem_cons_self ..)) (0); have t1 : u2.cell? ⟨b20, 1, none⟩ = some (.int .i64 q) := HL.out.cell (b := b20) (cs := #[.int .u8 1, .int .i64 q, .string ⟨#[]⟩]) (t := 25) (fr := (0, 0)) (List.mem_cons_of_mem _ (List.mem_cons_self ..)) (1); have t2 : u2.cell? ⟨b20, 2, none⟩ = some (.string ⟨#[]⟩) := HL.out.cell (b := b20) (cs := #[.int .u8 1, .int .i64 q, .string ⟨#[]⟩]) (t := 25) (fr := (0, 0)) (List.mem_cons_of_mem _ (List.mem_cons_self ..)) (2); have SS := Lib.hid (show _ from (And.intro t0 (And.intro t1 t2))); clear t0 t1 t2; have z0 : b24 < u2.heap.size := lt_of_block (HL.out.get (b := b24) (o := .cells #[.int .u8 1, .int .i64 r, .string ⟨#[]⟩] 25 (0, 0)) (List.mem_cons_self ..)); have z1 : b20 < u2.heap.size := lt_of_block (HL.out.get (b := b20) (o := .cells #[.int .u8 1, .int .i64 q, .string ⟨#[]⟩] 25 (0, 0)) (List.mem_cons_of_mem _ (List.mem_cons_self ..))); have z2 : b15 < u2.heap.size := lt_of_block (HL.out.get (b := b15) (o := .cells #[.int .u8 0, .int .i64 0, .string ⟨#[]⟩] 25 (0, 0)) (List.mem_cons_of_mem _ (List.mem_cons_of_mem _ (List.mem_cons_self ..)))); have z3 : b10 < u2.heap.size := lt_of_block (HL.out.get (b := b10) (o := .cells #[.int .u8 0, .int .i64 0, .string ⟨#[]⟩] 25 (0, 0)) (List.mem_cons_of_mem _ (List.mem_cons_of_mem _ (List.mem_cons_of_mem _ (List.mem_cons_self ..))))); have z4 : b5 < u2.heap.size := lt_of_block (HL.out.get (b := b5) (o := .cells #[.int .u8 0, .int .i64 0, .string ⟨#[]⟩] 25 (0, 0)) (List.mem_cons_of_mem _ (List.mem_cons_of_mem _ (List.mem_cons_of_mem _ (List.mem_cons_of_mem _ (List.mem_cons_self ..)))))); have r0 : u2.cell? ⟨_, 0, none⟩ = some (.int .u8 0) := HM.out.cell 0; have r1 : u2.cell? ⟨_, 1, none⟩ = some (.int .i64 0) := HM.out.cell 1; have r2 : u2.cell? ⟨_, 2, none⟩ = some (.string ⟨#[]⟩) := HM.out.cell 2; have f0 : u2.frozen? ⟨_, 0, none⟩ = false := HM.out.free 0; have f1 : u2.frozen? ⟨_, 1, none⟩ = false := HM.out.free 1; have f2 : u2.frozen? ⟨_, 2, none⟩ = false := HM.out.free 2; have z9 : _ < u2.heap.size := lt_of_block HM.out.new)))))
    all_goals (first | (obtain ⟨bx, hx, HO⟩ := endF (.cells #[.int .u8 1, .int .i64 n, .string ⟨#[]⟩] 25 (0, 0)) HM.out; refine ⟨rfl, ?_⟩; (try rw [← hx] at HO); rw [← hx]; exact ⟨bx, rfl, HO⟩) | (obtain ⟨bx, hx, HO⟩ := endZ (.int .u8 1) (.int .i64 n) (.string ⟨#[]⟩) HM.out; refine ⟨rfl, ?_⟩; (try rw [← hx] at HO); rw [← hx]; exact ⟨bx, rfl, HO⟩))
  intro bn9 v9 H9
  clear HM HL s0 s1 s2 z0 z1 z2 z3 z4
  clear HY24
  go_wp2_with fail
  have p0 : v9.cell? ⟨bn9, 0, none⟩ = some (.int .u8 1) := H9.out.cell (b := bn9) (cs := #[.int .u8 1, .int .i64 n, .string ⟨#[]⟩]) (t := 25) (fr := (0, 0)) (List.mem_cons_self ..) (0)
  have p1 : v9.cell? ⟨bn9, 1, none⟩ = some (.int .i64 n) := H9.out.cell (b := bn9) (cs := #[.int .u8 1, .int .i64 n, .string ⟨#[]⟩]) (t := 25) (fr := (0, 0)) (List.mem_cons_self ..) (1)
  have p2 : v9.cell? ⟨bn9, 2, none⟩ = some (.string ⟨#[]⟩) := H9.out.cell (b := bn9) (cs := #[.int .u8 1, .int .i64 n, .string ⟨#[]⟩]) (t := 25) (fr := (0, 0)) (List.mem_cons_self ..) (2)
  have p3 : v9.cell? ⟨b24, 0, none⟩ = some (.int .u8 1) := H9.out.cell (b := b24) (cs := #[.int .u8 1, .int .i64 r, .string ⟨#[]⟩]) (t := 25) (fr := (0, 0)) (List.mem_cons_of_mem _ (List.mem_cons_self ..)) (0)
  have p4 : v9.cell? ⟨b24, 1, none⟩ = some (.int .i64 r) := H9.out.cell (b := b24) (cs := #[.int .u8 1, .int .i64 r, .string ⟨#[]⟩]) (t := 25) (fr := (0, 0)) (List.mem_cons_of_mem _ (List.mem_cons_self ..)) (1)
  have p5 : v9.cell? ⟨b24, 2, none⟩ = some (.string ⟨#[]⟩) := H9.out.cell (b := b24) (cs := #[.int .u8 1, .int .i64 r, .string ⟨#[]⟩]) (t := 25) (fr := (0, 0)) (List.mem_cons_of_mem _ (List.mem_cons_self ..)) (2)
  have q0 := bwOf_cell v9 _ _ p0
  have q1 := bwOf_cell v9 _ _ p1
  have q2 := bwOf_cell v9 _ _ p2
  have q3 := bwOf_cell v9 _ _ p3
  have q4 := bwOf_cell v9 _ _ p4
  have q5 := bwOf_cell v9 _ _ p5
  clear p0 p1 p2 p3 p4 p5
  refine wp_region_bw (w := v9) (by kernel_rfl) (by kernel_rfl) ?_
  repeat (go_big_quiet_step (fail))
  go_big_quiet_step ((go_at_call 11; exact below_of (n_any _ _)))
  repeat (go_big_quiet_step (fail))
  go_big_quiet_step ((go_at_call 12; exact below_of (two_yes 5 1 n _ 1 r _ 1 a _ 0 (by omega) (by omega) (by omega) n0 n1 r0 r1 Khf.out _ (HW.out _ (below_end H9.out.below (bwOf_below _ _))))))
  repeat (go_big_quiet_step (fail))
  refine wpQuiet_nil ?_
  rintro z25 ⟨m9, rfl⟩
  have HZ25 := Lib.hid (H9.out.kept (bwOf_below v9 m9))
  clear q0 q1 q2 q3 q4 q5
  generalize bwOf v9 m9 = z25 at *
  go_wp2_with fail
  go_ret
  exact ⟨rfl, HZ25.out.below⟩
end Go.Proofs.YtjjfmmimmfihgaaDoor
