/-
  WHAT IS PROVED: which statements may be.
-/
import Derived.Test.YtenmnpbjnbdeaaaGreatDoorNa
import Derived.Test.YtenmnpbjnbdeaaaGreatDoorMz
namespace Go.Proofs.YtenmnpbjnbdeaaaGreatDoor
section
open Go.RowKit Go.Shelf
set_option linter.unusedVariables false

theorem rowsE_may (W : World) (cs : List Value) (x : List Ex) (h : rowE.is (fun _ => True) W cs x) (hx : ∀ y ∈ x, y.all Sh) :
    Calls Tryz.prog 68 #[cs.headD undef] W fun e w' => e = .returned (.bool (rowB x)) ∧ Below W.heap.size W w' := row_may W cs x h hx
set_option maxRecDepth 100000 in
set_option maxHeartbeats 8000000 in
theorem own_7 (x : StM) (a1 : Option Addr) (n1 c1 : Nat) (a2 : Option Addr) (n2 c2 : Nat) (a3 : Option Addr) (n3 c3 : Nat) (a4 : Option Addr) (n4 c4 : Nat) (a5 : Option Addr) (n5 c5 : Nat) (a6 : Option Addr) (n6 c6 : Nat) (a7 : Option Addr) (n7 c7 : Nat) (a8 : Option Addr) (n8 c8 : Nat) (a9 : Option Addr) (n9 c9 : Nat) (W : World) (h : StHeld (fun _ => True) W x (.slice a1 n1 c1) (.slice a2 n2 c2) (.slice a3 n3 c3) (.slice a4 n4 c4) (.slice a5 n5 c5) (.slice a6 n6 c6) (.slice a7 n7 c7) (.slice a8 n8 c8) (.slice a9 n9 c9)) (hl : Lens x n1 n2 n3 n4 n5 n6 n7 n8 n9) (hx : x.all Sh) (hk : x.kind = 7) :
    Calls Tryz.prog 31 #[.agg (xA x a1 n1 c1 a2 n2 c2 a3 n3 c3 a4 n4 c4 a5 n5 c5 a6 n6 c6 a7 n7 c7 a8 n8 c8 a9 n9 c9)] W fun e w' => e = .returned (.bool (selectB x)) ∧ Below W.heap.size W w' := by
  have k1 : ((x.kind : Int) == 1) = false := by rw [beq_eq_false_iff_ne]; omega
  have k2 : ((x.kind : Int) == 2) = false := by rw [beq_eq_false_iff_ne]; omega
  have k3 : ((x.kind : Int) == 3) = false := by rw [beq_eq_false_iff_ne]; omega
  have k4 : ((x.kind : Int) == 4) = false := by rw [beq_eq_false_iff_ne]; omega
  have k5 : ((x.kind : Int) == 5) = false := by rw [beq_eq_false_iff_ne]; omega
  have k6 : ((x.kind : Int) == 6) = false := by rw [beq_eq_false_iff_ne]; omega
  have k7 : ((x.kind : Int) == 7) = true := by rw [hk]; rfl
  have HH := Lib.hid h
  have HBK0 : Hid ((W.alloc (.cells (xA x a1 n1 c1 a2 n2 c2 a3 n3 c3 a4 n4 c4 a5 n5 c5 a6 n6 c6 a7 n7 c7 a8 n8 c8 a9 n9 c9) 39)).heap[W.heap.size]? = some (.cells (xA x a1 n1 c1 a2 n2 c2 a3 n3 c3 a4 n4 c4 a5 n5 c5 a6 n6 c6 a7 n7 c7 a8 n8 c8 a9 n9 c9) 39 (0, 0))) := Lib.hid (heap_alloc_new W _)
  have HB0 : Hid (Below W.heap.size W (W.alloc (.cells (xA x a1 n1 c1 a2 n2 c2 a3 n3 c3 a4 n4 c4 a5 n5 c5 a6 n6 c6 a7 n7 c7 a8 n8 c8 a9 n9 c9) 39))) := Lib.hid (below_alloc W _)
  have hC := select_may x a1 n1 c1 a2 n2 c2 a3 n3 c3 a4 n4 c4 a5 n5 c5 a6 n6 c6 a7 n7 c7 a8 n8 c8 a9 n9 c9 (W.alloc (.cells (xA x a1 n1 c1 a2 n2 c2 a3 n3 c3 a4 n4 c4 a5 n5 c5 a6 n6 c6 a7 n7 c7 a8 n8 c8 a9 n9 c9) 39)) (HH.out.kept HB0.out.size (fun k _ hk => HB0.out.block k hk)) hl hx
  clear h hl hx hk
  go_enter Tryz.func31, Tryz.ntmps31
  go_wp2_with (refine wpList_load_row rfl 39 _ rfl W.heap.size rfl _ (xA x a1 n1 c1 a2 n2 c2 a3 n3 c3 a4 n4 c4 a5 n5 c5 a6 n6 c6 a7 n7 c7 a8 n8 c8 a9 n9 c9) (0, 0) _ HBK0.out Tryz.underlying39 rfl (by kernel_rfl) ?_)
  refine hC.mono ?_
  rintro e w1 ⟨rfl, hb⟩
  have HB1 := Lib.hid (HB0.out.trans (hb.mono HB0.out.size))
  clear hb hC
  go_wp2_with fail
  go_ret
  exact ⟨rfl, HB1.out⟩
set_option maxRecDepth 100000 in
set_option maxHeartbeats 8000000 in
theorem own_no (x : StM) (a1 : Option Addr) (n1 c1 : Nat) (a2 : Option Addr) (n2 c2 : Nat) (a3 : Option Addr) (n3 c3 : Nat) (a4 : Option Addr) (n4 c4 : Nat) (a5 : Option Addr) (n5 c5 : Nat) (a6 : Option Addr) (n6 c6 : Nat) (a7 : Option Addr) (n7 c7 : Nat) (a8 : Option Addr) (n8 c8 : Nat) (a9 : Option Addr) (n9 c9 : Nat) (W : World) (h : StHeld (fun _ => True) W x (.slice a1 n1 c1) (.slice a2 n2 c2) (.slice a3 n3 c3) (.slice a4 n4 c4) (.slice a5 n5 c5) (.slice a6 n6 c6) (.slice a7 n7 c7) (.slice a8 n8 c8) (.slice a9 n9 c9)) (hl : Lens x n1 n2 n3 n4 n5 n6 n7 n8 n9) (hx : x.all Sh) (hk : x.kind ≠ 7) (hnm : nameB x.table = false) :
    Calls Tryz.prog 31 #[.agg (xA x a1 n1 c1 a2 n2 c2 a3 n3 c3 a4 n4 c4 a5 n5 c5 a6 n6 c6 a7 n7 c7 a8 n8 c8 a9 n9 c9)] W fun e w' => e = .returned (.bool false) ∧ Below W.heap.size W w' := by
  have k7 : ((x.kind : Int) == 7) = false := by rw [beq_eq_false_iff_ne]; omega
  have HH := Lib.hid h
  have HBK0 : Hid ((W.alloc (.cells (xA x a1 n1 c1 a2 n2 c2 a3 n3 c3 a4 n4 c4 a5 n5 c5 a6 n6 c6 a7 n7 c7 a8 n8 c8 a9 n9 c9) 39)).heap[W.heap.size]? = some (.cells (xA x a1 n1 c1 a2 n2 c2 a3 n3 c3 a4 n4 c4 a5 n5 c5 a6 n6 c6 a7 n7 c7 a8 n8 c8 a9 n9 c9) 39 (0, 0))) := Lib.hid (heap_alloc_new W _)
  have HB0 : Hid (Below W.heap.size W (W.alloc (.cells (xA x a1 n1 c1 a2 n2 c2 a3 n3 c3 a4 n4 c4 a5 n5 c5 a6 n6 c6 a7 n7 c7 a8 n8 c8 a9 n9 c9) 39))) := Lib.hid (below_alloc W _)
  have hC := name_may x.table (W.alloc (.cells (xA x a1 n1 c1 a2 n2 c2 a3 n3 c3 a4 n4 c4 a5 n5 c5 a6 n6 c6 a7 n7 c7 a8 n8 c8 a9 n9 c9) 39)) hx.table
  rw [hnm] at hC
  clear h hl hnm
  go_enter Tryz.func31, Tryz.ntmps31
  go_wp2_with fail
  refine hC.mono ?_
  rintro e w1 ⟨rfl, hb⟩
  have HB1 := Lib.hid (HB0.out.trans (hb.mono HB0.out.size))
  have HBK1 : Hid (w1.heap[W.heap.size]? = some (.cells (xA x a1 n1 c1 a2 n2 c2 a3 n3 c3 a4 n4 c4 a5 n5 c5 a6 n6 c6 a7 n7 c7 a8 n8 c8 a9 n9 c9) 39 (0, 0))) := Lib.hid ((hb.block W.heap.size (bk_lt HBK0.out)).trans HBK0.out)
  have q0 := bk_cell HBK1.out 0
  clear hb hC
  go_wp2_with fail
  go_ret
  exact ⟨rfl, HB1.out⟩
set_option maxRecDepth 100000 in
set_option maxHeartbeats 8000000 in
theorem own_1 (x : StM) (a1 : Option Addr) (n1 c1 : Nat) (a2 : Option Addr) (n2 c2 : Nat) (a3 : Option Addr) (n3 c3 : Nat) (a4 : Option Addr) (n4 c4 : Nat) (a5 : Option Addr) (n5 c5 : Nat) (a6 : Option Addr) (n6 c6 : Nat) (a7 : Option Addr) (n7 c7 : Nat) (a8 : Option Addr) (n8 c8 : Nat) (a9 : Option Addr) (n9 c9 : Nat) (W : World) (h : StHeld (fun _ => True) W x (.slice a1 n1 c1) (.slice a2 n2 c2) (.slice a3 n3 c3) (.slice a4 n4 c4) (.slice a5 n5 c5) (.slice a6 n6 c6) (.slice a7 n7 c7) (.slice a8 n8 c8) (.slice a9 n9 c9)) (hl : Lens x n1 n2 n3 n4 n5 n6 n7 n8 n9) (hx : x.all Sh) (hk : x.kind = 1) (hnm : nameB x.table = true) :
    Calls Tryz.prog 31 #[.agg (xA x a1 n1 c1 a2 n2 c2 a3 n3 c3 a4 n4 c4 a5 n5 c5 a6 n6 c6 a7 n7 c7 a8 n8 c8 a9 n9 c9)] W fun e w' => e = .returned (.bool (allB 16 columnB x.columns)) ∧ Below W.heap.size W w' := by
  have k1 : ((x.kind : Int) == 1) = true := by rw [hk]; rfl
  have k2 : ((x.kind : Int) == 2) = false := by rw [beq_eq_false_iff_ne]; omega
  have k3 : ((x.kind : Int) == 3) = false := by rw [beq_eq_false_iff_ne]; omega
  have k4 : ((x.kind : Int) == 4) = false := by rw [beq_eq_false_iff_ne]; omega
  have k5 : ((x.kind : Int) == 5) = false := by rw [beq_eq_false_iff_ne]; omega
  have k6 : ((x.kind : Int) == 6) = false := by rw [beq_eq_false_iff_ne]; omega
  have k7 : ((x.kind : Int) == 7) = false := by rw [beq_eq_false_iff_ne]; omega
  have HH := Lib.hid h
  have HBK0 : Hid ((W.alloc (.cells (xA x a1 n1 c1 a2 n2 c2 a3 n3 c3 a4 n4 c4 a5 n5 c5 a6 n6 c6 a7 n7 c7 a8 n8 c8 a9 n9 c9) 39)).heap[W.heap.size]? = some (.cells (xA x a1 n1 c1 a2 n2 c2 a3 n3 c3 a4 n4 c4 a5 n5 c5 a6 n6 c6 a7 n7 c7 a8 n8 c8 a9 n9 c9) 39 (0, 0))) := Lib.hid (heap_alloc_new W _)
  have HB0 : Hid (Below W.heap.size W (W.alloc (.cells (xA x a1 n1 c1 a2 n2 c2 a3 n3 c3 a4 n4 c4 a5 n5 c5 a6 n6 c6 a7 n7 c7 a8 n8 c8 a9 n9 c9) 39))) := Lib.hid (below_alloc W _)
  clear hk
  have hC := name_may x.table (W.alloc (.cells (xA x a1 n1 c1 a2 n2 c2 a3 n3 c3 a4 n4 c4 a5 n5 c5 a6 n6 c6 a7 n7 c7 a8 n8 c8 a9 n9 c9) 39)) hx.table
  rw [hnm] at hC
  clear h hl hnm
  go_enter Tryz.func31, Tryz.ntmps31
  go_wp2_with fail
  refine hC.mono ?_
  rintro e w1 ⟨rfl, hb⟩
  have HB1 := Lib.hid (HB0.out.trans (hb.mono HB0.out.size))
  have HBK1 : Hid (w1.heap[W.heap.size]? = some (.cells (xA x a1 n1 c1 a2 n2 c2 a3 n3 c3 a4 n4 c4 a5 n5 c5 a6 n6 c6 a7 n7 c7 a8 n8 c8 a9 n9 c9) 39 (0, 0))) := Lib.hid ((hb.block W.heap.size (bk_lt HBK0.out)).trans HBK0.out)
  have q0 := bk_cell HBK1.out 0
  clear hb hC
  have p1_3 := bk_cell HBK1.out 3
  have hC := allCol_may 64 16 (by decide) (fun _ _ => rfl) columnB (fun c => Sh c.name) column_may _ x.columns w1 ((HH.out.kept HB1.out.size (fun k _ hk => HB1.out.block k hk)).hc.from0) hx.columns
  go_wp2_with fail
  refine hC.mono ?_
  rintro e w2 ⟨rfl, hb⟩
  have HB2 := Lib.hid (HB1.out.trans (hb.mono HB1.out.size))
  have HBK2 : Hid (w2.heap[W.heap.size]? = some (.cells (xA x a1 n1 c1 a2 n2 c2 a3 n3 c3 a4 n4 c4 a5 n5 c5 a6 n6 c6 a7 n7 c7 a8 n8 c8 a9 n9 c9) 39 (0, 0))) := Lib.hid ((hb.block W.heap.size (bk_lt HBK1.out)).trans HBK1.out)
  clear hb hC
  go_wp2_with fail
  go_ret
  exact ⟨rfl, HB2.out⟩
set_option maxRecDepth 100000 in
set_option maxHeartbeats 8000000 in
theorem own_2 (x : StM) (a1 : Option Addr) (n1 c1 : Nat) (a2 : Option Addr) (n2 c2 : Nat) (a3 : Option Addr) (n3 c3 : Nat) (a4 : Option Addr) (n4 c4 : Nat) (a5 : Option Addr) (n5 c5 : Nat) (a6 : Option Addr) (n6 c6 : Nat) (a7 : Option Addr) (n7 c7 : Nat) (a8 : Option Addr) (n8 c8 : Nat) (a9 : Option Addr) (n9 c9 : Nat) (W : World) (h : StHeld (fun _ => True) W x (.slice a1 n1 c1) (.slice a2 n2 c2) (.slice a3 n3 c3) (.slice a4 n4 c4) (.slice a5 n5 c5) (.slice a6 n6 c6) (.slice a7 n7 c7) (.slice a8 n8 c8) (.slice a9 n9 c9)) (hl : Lens x n1 n2 n3 n4 n5 n6 n7 n8 n9) (hx : x.all Sh) (hk : x.kind = 2) (hnm : nameB x.table = true) :
    Calls Tryz.prog 31 #[.agg (xA x a1 n1 c1 a2 n2 c2 a3 n3 c3 a4 n4 c4 a5 n5 c5 a6 n6 c6 a7 n7 c7 a8 n8 c8 a9 n9 c9)] W fun e w' => e = .returned (.bool true) ∧ Below W.heap.size W w' := by
  have k1 : ((x.kind : Int) == 1) = false := by rw [beq_eq_false_iff_ne]; omega
  have k2 : ((x.kind : Int) == 2) = true := by rw [hk]; rfl
  have k3 : ((x.kind : Int) == 3) = false := by rw [beq_eq_false_iff_ne]; omega
  have k4 : ((x.kind : Int) == 4) = false := by rw [beq_eq_false_iff_ne]; omega
  have k5 : ((x.kind : Int) == 5) = false := by rw [beq_eq_false_iff_ne]; omega
  have k6 : ((x.kind : Int) == 6) = false := by rw [beq_eq_false_iff_ne]; omega
  have k7 : ((x.kind : Int) == 7) = false := by rw [beq_eq_false_iff_ne]; omega
  have HH := Lib.hid h
  have HBK0 : Hid ((W.alloc (.cells (xA x a1 n1 c1 a2 n2 c2 a3 n3 c3 a4 n4 c4 a5 n5 c5 a6 n6 c6 a7 n7 c7 a8 n8 c8 a9 n9 c9) 39)).heap[W.heap.size]? = some (.cells (xA x a1 n1 c1 a2 n2 c2 a3 n3 c3 a4 n4 c4 a5 n5 c5 a6 n6 c6 a7 n7 c7 a8 n8 c8 a9 n9 c9) 39 (0, 0))) := Lib.hid (heap_alloc_new W _)
  have HB0 : Hid (Below W.heap.size W (W.alloc (.cells (xA x a1 n1 c1 a2 n2 c2 a3 n3 c3 a4 n4 c4 a5 n5 c5 a6 n6 c6 a7 n7 c7 a8 n8 c8 a9 n9 c9) 39))) := Lib.hid (below_alloc W _)
  clear hk
  have hC := name_may x.table (W.alloc (.cells (xA x a1 n1 c1 a2 n2 c2 a3 n3 c3 a4 n4 c4 a5 n5 c5 a6 n6 c6 a7 n7 c7 a8 n8 c8 a9 n9 c9) 39)) hx.table
  rw [hnm] at hC
  clear h hl hnm
  go_enter Tryz.func31, Tryz.ntmps31
  go_wp2_with fail
  refine hC.mono ?_
  rintro e w1 ⟨rfl, hb⟩
  have HB1 := Lib.hid (HB0.out.trans (hb.mono HB0.out.size))
  have HBK1 : Hid (w1.heap[W.heap.size]? = some (.cells (xA x a1 n1 c1 a2 n2 c2 a3 n3 c3 a4 n4 c4 a5 n5 c5 a6 n6 c6 a7 n7 c7 a8 n8 c8 a9 n9 c9) 39 (0, 0))) := Lib.hid ((hb.block W.heap.size (bk_lt HBK0.out)).trans HBK0.out)
  have q0 := bk_cell HBK1.out 0
  clear hb hC
  go_wp2_with fail
  go_ret
  exact ⟨rfl, HB1.out⟩
set_option maxRecDepth 100000 in
set_option maxHeartbeats 8000000 in
theorem own_3f (x : StM) (a1 : Option Addr) (n1 c1 : Nat) (a2 : Option Addr) (n2 c2 : Nat) (a3 : Option Addr) (n3 c3 : Nat) (a4 : Option Addr) (n4 c4 : Nat) (a5 : Option Addr) (n5 c5 : Nat) (a6 : Option Addr) (n6 c6 : Nat) (a7 : Option Addr) (n7 c7 : Nat) (a8 : Option Addr) (n8 c8 : Nat) (a9 : Option Addr) (n9 c9 : Nat) (W : World) (h : StHeld (fun _ => True) W x (.slice a1 n1 c1) (.slice a2 n2 c2) (.slice a3 n3 c3) (.slice a4 n4 c4) (.slice a5 n5 c5) (.slice a6 n6 c6) (.slice a7 n7 c7) (.slice a8 n8 c8) (.slice a9 n9 c9)) (hl : Lens x n1 n2 n3 n4 n5 n6 n7 n8 n9) (hx : x.all Sh) (hk : x.kind = 3) (hnm : nameB x.table = true) (hb1 : nameB x.name = false) :
    Calls Tryz.prog 31 #[.agg (xA x a1 n1 c1 a2 n2 c2 a3 n3 c3 a4 n4 c4 a5 n5 c5 a6 n6 c6 a7 n7 c7 a8 n8 c8 a9 n9 c9)] W fun e w' => e = .returned (.bool false) ∧ Below W.heap.size W w' := by
  have k1 : ((x.kind : Int) == 1) = false := by rw [beq_eq_false_iff_ne]; omega
  have k2 : ((x.kind : Int) == 2) = false := by rw [beq_eq_false_iff_ne]; omega
  have k3 : ((x.kind : Int) == 3) = true := by rw [hk]; rfl
  have k4 : ((x.kind : Int) == 4) = false := by rw [beq_eq_false_iff_ne]; omega
  have k5 : ((x.kind : Int) == 5) = false := by rw [beq_eq_false_iff_ne]; omega
  have k6 : ((x.kind : Int) == 6) = false := by rw [beq_eq_false_iff_ne]; omega
  have k7 : ((x.kind : Int) == 7) = false := by rw [beq_eq_false_iff_ne]; omega
  have HH := Lib.hid h
  have HBK0 : Hid ((W.alloc (.cells (xA x a1 n1 c1 a2 n2 c2 a3 n3 c3 a4 n4 c4 a5 n5 c5 a6 n6 c6 a7 n7 c7 a8 n8 c8 a9 n9 c9) 39)).heap[W.heap.size]? = some (.cells (xA x a1 n1 c1 a2 n2 c2 a3 n3 c3 a4 n4 c4 a5 n5 c5 a6 n6 c6 a7 n7 c7 a8 n8 c8 a9 n9 c9) 39 (0, 0))) := Lib.hid (heap_alloc_new W _)
  have HB0 : Hid (Below W.heap.size W (W.alloc (.cells (xA x a1 n1 c1 a2 n2 c2 a3 n3 c3 a4 n4 c4 a5 n5 c5 a6 n6 c6 a7 n7 c7 a8 n8 c8 a9 n9 c9) 39))) := Lib.hid (below_alloc W _)
  clear hk
  have hC := name_may x.table (W.alloc (.cells (xA x a1 n1 c1 a2 n2 c2 a3 n3 c3 a4 n4 c4 a5 n5 c5 a6 n6 c6 a7 n7 c7 a8 n8 c8 a9 n9 c9) 39)) hx.table
  rw [hnm] at hC
  clear h hl hnm
  go_enter Tryz.func31, Tryz.ntmps31
  go_wp2_with fail
  refine hC.mono ?_
  rintro e w1 ⟨rfl, hb⟩
  have HB1 := Lib.hid (HB0.out.trans (hb.mono HB0.out.size))
  have HBK1 : Hid (w1.heap[W.heap.size]? = some (.cells (xA x a1 n1 c1 a2 n2 c2 a3 n3 c3 a4 n4 c4 a5 n5 c5 a6 n6 c6 a7 n7 c7 a8 n8 c8 a9 n9 c9) 39 (0, 0))) := Lib.hid ((hb.block W.heap.size (bk_lt HBK0.out)).trans HBK0.out)
  have q0 := bk_cell HBK1.out 0
  clear hb hC
  have p1_1 := bk_cell HBK1.out 1
  have hC := name_may x.name w1 hx.name
  rw [hb1] at hC
  clear hb1
  go_wp2_with fail
  refine hC.mono ?_
  rintro e w2 ⟨rfl, hb⟩
  have HB2 := Lib.hid (HB1.out.trans (hb.mono HB1.out.size))
  have HBK2 : Hid (w2.heap[W.heap.size]? = some (.cells (xA x a1 n1 c1 a2 n2 c2 a3 n3 c3 a4 n4 c4 a5 n5 c5 a6 n6 c6 a7 n7 c7 a8 n8 c8 a9 n9 c9) 39 (0, 0))) := Lib.hid ((hb.block W.heap.size (bk_lt HBK1.out)).trans HBK1.out)
  clear hb hC
  go_wp2_with fail
  go_ret
  exact ⟨rfl, HB2.out⟩
set_option maxRecDepth 100000 in
set_option maxHeartbeats 8000000 in
theorem own_3t (x : StM) (a1 : Option Addr) (n1 c1 : Nat) (a2 : Option Addr) (n2 c2 : Nat) (a3 : Option Addr) (n3 c3 : Nat) (a4 : Option Addr) (n4 c4 : Nat) (a5 : Option Addr) (n5 c5 : Nat) (a6 : Option Addr) (n6 c6 : Nat) (a7 : Option Addr) (n7 c7 : Nat) (a8 : Option Addr) (n8 c8 : Nat) (a9 : Option Addr) (n9 c9 : Nat) (W : World) (h : StHeld (fun _ => True) W x (.slice a1 n1 c1) (.slice a2 n2 c2) (.slice a3 n3 c3) (.slice a4 n4 c4) (.slice a5 n5 c5) (.slice a6 n6 c6) (.slice a7 n7 c7) (.slice a8 n8 c8) (.slice a9 n9 c9)) (hl : Lens x n1 n2 n3 n4 n5 n6 n7 n8 n9) (hx : x.all Sh) (hk : x.kind = 3) (hnm : nameB x.table = true) (hb1 : nameB x.name = true) :
    Calls Tryz.prog 31 #[.agg (xA x a1 n1 c1 a2 n2 c2 a3 n3 c3 a4 n4 c4 a5 n5 c5 a6 n6 c6 a7 n7 c7 a8 n8 c8 a9 n9 c9)] W fun e w' => e = .returned (.bool (allB 1 nameB x.names)) ∧ Below W.heap.size W w' := by
  have k1 : ((x.kind : Int) == 1) = false := by rw [beq_eq_false_iff_ne]; omega
  have k2 : ((x.kind : Int) == 2) = false := by rw [beq_eq_false_iff_ne]; omega
  have k3 : ((x.kind : Int) == 3) = true := by rw [hk]; rfl
  have k4 : ((x.kind : Int) == 4) = false := by rw [beq_eq_false_iff_ne]; omega
  have k5 : ((x.kind : Int) == 5) = false := by rw [beq_eq_false_iff_ne]; omega
  have k6 : ((x.kind : Int) == 6) = false := by rw [beq_eq_false_iff_ne]; omega
  have k7 : ((x.kind : Int) == 7) = false := by rw [beq_eq_false_iff_ne]; omega
  have HH := Lib.hid h
  have HBK0 : Hid ((W.alloc (.cells (xA x a1 n1 c1 a2 n2 c2 a3 n3 c3 a4 n4 c4 a5 n5 c5 a6 n6 c6 a7 n7 c7 a8 n8 c8 a9 n9 c9) 39)).heap[W.heap.size]? = some (.cells (xA x a1 n1 c1 a2 n2 c2 a3 n3 c3 a4 n4 c4 a5 n5 c5 a6 n6 c6 a7 n7 c7 a8 n8 c8 a9 n9 c9) 39 (0, 0))) := Lib.hid (heap_alloc_new W _)
  have HB0 : Hid (Below W.heap.size W (W.alloc (.cells (xA x a1 n1 c1 a2 n2 c2 a3 n3 c3 a4 n4 c4 a5 n5 c5 a6 n6 c6 a7 n7 c7 a8 n8 c8 a9 n9 c9) 39))) := Lib.hid (below_alloc W _)
  clear hk
  have hC := name_may x.table (W.alloc (.cells (xA x a1 n1 c1 a2 n2 c2 a3 n3 c3 a4 n4 c4 a5 n5 c5 a6 n6 c6 a7 n7 c7 a8 n8 c8 a9 n9 c9) 39)) hx.table
  rw [hnm] at hC
  clear h hl hnm
  go_enter Tryz.func31, Tryz.ntmps31
  go_wp2_with fail
  refine hC.mono ?_
  rintro e w1 ⟨rfl, hb⟩
  have HB1 := Lib.hid (HB0.out.trans (hb.mono HB0.out.size))
  have HBK1 : Hid (w1.heap[W.heap.size]? = some (.cells (xA x a1 n1 c1 a2 n2 c2 a3 n3 c3 a4 n4 c4 a5 n5 c5 a6 n6 c6 a7 n7 c7 a8 n8 c8 a9 n9 c9) 39 (0, 0))) := Lib.hid ((hb.block W.heap.size (bk_lt HBK0.out)).trans HBK0.out)
  have q0 := bk_cell HBK1.out 0
  clear hb hC
  have p1_1 := bk_cell HBK1.out 1
  have hC := name_may x.name w1 hx.name
  rw [hb1] at hC
  clear hb1
  go_wp2_with fail
  refine hC.mono ?_
  rintro e w2 ⟨rfl, hb⟩
  have HB2 := Lib.hid (HB1.out.trans (hb.mono HB1.out.size))
  have HBK2 : Hid (w2.heap[W.heap.size]? = some (.cells (xA x a1 n1 c1 a2 n2 c2 a3 n3 c3 a4 n4 c4 a5 n5 c5 a6 n6 c6 a7 n7 c7 a8 n8 c8 a9 n9 c9) 39 (0, 0))) := Lib.hid ((hb.block W.heap.size (bk_lt HBK1.out)).trans HBK1.out)
  clear hb hC
  have p2_4 := bk_cell HBK2.out 4
  have hC := allStr_may 22 1 (by decide) (fun _ _ => rfl) nameB Sh nameE_may _ x.names w2 ((HH.out.kept HB2.out.size (fun k _ hk => HB2.out.block k hk)).hn.from0) hx.names
  go_wp2_with fail
  refine hC.mono ?_
  rintro e w3 ⟨rfl, hb⟩
  have HB3 := Lib.hid (HB2.out.trans (hb.mono HB2.out.size))
  have HBK3 : Hid (w3.heap[W.heap.size]? = some (.cells (xA x a1 n1 c1 a2 n2 c2 a3 n3 c3 a4 n4 c4 a5 n5 c5 a6 n6 c6 a7 n7 c7 a8 n8 c8 a9 n9 c9) 39 (0, 0))) := Lib.hid ((hb.block W.heap.size (bk_lt HBK2.out)).trans HBK2.out)
  clear hb hC
  go_wp2_with fail
  go_ret
  exact ⟨rfl, HB3.out⟩
set_option maxRecDepth 100000 in
set_option maxHeartbeats 8000000 in
theorem own_4f (x : StM) (a1 : Option Addr) (n1 c1 : Nat) (a2 : Option Addr) (n2 c2 : Nat) (a3 : Option Addr) (n3 c3 : Nat) (a4 : Option Addr) (n4 c4 : Nat) (a5 : Option Addr) (n5 c5 : Nat) (a6 : Option Addr) (n6 c6 : Nat) (a7 : Option Addr) (n7 c7 : Nat) (a8 : Option Addr) (n8 c8 : Nat) (a9 : Option Addr) (n9 c9 : Nat) (W : World) (h : StHeld (fun _ => True) W x (.slice a1 n1 c1) (.slice a2 n2 c2) (.slice a3 n3 c3) (.slice a4 n4 c4) (.slice a5 n5 c5) (.slice a6 n6 c6) (.slice a7 n7 c7) (.slice a8 n8 c8) (.slice a9 n9 c9)) (hl : Lens x n1 n2 n3 n4 n5 n6 n7 n8 n9) (hx : x.all Sh) (hk : x.kind = 4) (hnm : nameB x.table = true) (hb1 : anyB nameB x.names = false) :
    Calls Tryz.prog 31 #[.agg (xA x a1 n1 c1 a2 n2 c2 a3 n3 c3 a4 n4 c4 a5 n5 c5 a6 n6 c6 a7 n7 c7 a8 n8 c8 a9 n9 c9)] W fun e w' => e = .returned (.bool false) ∧ Below W.heap.size W w' := by
  have k1 : ((x.kind : Int) == 1) = false := by rw [beq_eq_false_iff_ne]; omega
  have k2 : ((x.kind : Int) == 2) = false := by rw [beq_eq_false_iff_ne]; omega
  have k3 : ((x.kind : Int) == 3) = false := by rw [beq_eq_false_iff_ne]; omega
  have k4 : ((x.kind : Int) == 4) = true := by rw [hk]; rfl
  have k5 : ((x.kind : Int) == 5) = false := by rw [beq_eq_false_iff_ne]; omega
  have k6 : ((x.kind : Int) == 6) = false := by rw [beq_eq_false_iff_ne]; omega
  have k7 : ((x.kind : Int) == 7) = false := by rw [beq_eq_false_iff_ne]; omega
  have HH := Lib.hid h
  have HBK0 : Hid ((W.alloc (.cells (xA x a1 n1 c1 a2 n2 c2 a3 n3 c3 a4 n4 c4 a5 n5 c5 a6 n6 c6 a7 n7 c7 a8 n8 c8 a9 n9 c9) 39)).heap[W.heap.size]? = some (.cells (xA x a1 n1 c1 a2 n2 c2 a3 n3 c3 a4 n4 c4 a5 n5 c5 a6 n6 c6 a7 n7 c7 a8 n8 c8 a9 n9 c9) 39 (0, 0))) := Lib.hid (heap_alloc_new W _)
  have HB0 : Hid (Below W.heap.size W (W.alloc (.cells (xA x a1 n1 c1 a2 n2 c2 a3 n3 c3 a4 n4 c4 a5 n5 c5 a6 n6 c6 a7 n7 c7 a8 n8 c8 a9 n9 c9) 39))) := Lib.hid (below_alloc W _)
  clear hk
  have hC := name_may x.table (W.alloc (.cells (xA x a1 n1 c1 a2 n2 c2 a3 n3 c3 a4 n4 c4 a5 n5 c5 a6 n6 c6 a7 n7 c7 a8 n8 c8 a9 n9 c9) 39)) hx.table
  rw [hnm] at hC
  clear h hl hnm
  go_enter Tryz.func31, Tryz.ntmps31
  go_wp2_with fail
  refine hC.mono ?_
  rintro e w1 ⟨rfl, hb⟩
  have HB1 := Lib.hid (HB0.out.trans (hb.mono HB0.out.size))
  have HBK1 : Hid (w1.heap[W.heap.size]? = some (.cells (xA x a1 n1 c1 a2 n2 c2 a3 n3 c3 a4 n4 c4 a5 n5 c5 a6 n6 c6 a7 n7 c7 a8 n8 c8 a9 n9 c9) 39 (0, 0))) := Lib.hid ((hb.block W.heap.size (bk_lt HBK0.out)).trans HBK0.out)
  have q0 := bk_cell HBK1.out 0
  clear hb hC
  have p1_4 := bk_cell HBK1.out 4
  have hC := anyStr_may 22 (fun _ _ => rfl) nameB Sh nameE_may _ x.names w1 ((HH.out.kept HB1.out.size (fun k _ hk => HB1.out.block k hk)).hn.from0) hx.names
  rw [hb1] at hC
  clear hb1
  go_wp2_with fail
  refine hC.mono ?_
  rintro e w2 ⟨rfl, hb⟩
  have HB2 := Lib.hid (HB1.out.trans (hb.mono HB1.out.size))
  have HBK2 : Hid (w2.heap[W.heap.size]? = some (.cells (xA x a1 n1 c1 a2 n2 c2 a3 n3 c3 a4 n4 c4 a5 n5 c5 a6 n6 c6 a7 n7 c7 a8 n8 c8 a9 n9 c9) 39 (0, 0))) := Lib.hid ((hb.block W.heap.size (bk_lt HBK1.out)).trans HBK1.out)
  clear hb hC
  go_wp2_with fail
  go_ret
  exact ⟨rfl, HB2.out⟩
set_option maxRecDepth 100000 in
set_option maxHeartbeats 8000000 in
theorem own_4t (x : StM) (a1 : Option Addr) (n1 c1 : Nat) (a2 : Option Addr) (n2 c2 : Nat) (a3 : Option Addr) (n3 c3 : Nat) (a4 : Option Addr) (n4 c4 : Nat) (a5 : Option Addr) (n5 c5 : Nat) (a6 : Option Addr) (n6 c6 : Nat) (a7 : Option Addr) (n7 c7 : Nat) (a8 : Option Addr) (n8 c8 : Nat) (a9 : Option Addr) (n9 c9 : Nat) (W : World) (h : StHeld (fun _ => True) W x (.slice a1 n1 c1) (.slice a2 n2 c2) (.slice a3 n3 c3) (.slice a4 n4 c4) (.slice a5 n5 c5) (.slice a6 n6 c6) (.slice a7 n7 c7) (.slice a8 n8 c8) (.slice a9 n9 c9)) (hl : Lens x n1 n2 n3 n4 n5 n6 n7 n8 n9) (hx : x.all Sh) (hk : x.kind = 4) (hnm : nameB x.table = true) (hb1 : anyB nameB x.names = true) :
    Calls Tryz.prog 31 #[.agg (xA x a1 n1 c1 a2 n2 c2 a3 n3 c3 a4 n4 c4 a5 n5 c5 a6 n6 c6 a7 n7 c7 a8 n8 c8 a9 n9 c9)] W fun e w' => e = .returned (.bool (allB 64 rowB x.rows)) ∧ Below W.heap.size W w' := by
  have k1 : ((x.kind : Int) == 1) = false := by rw [beq_eq_false_iff_ne]; omega
  have k2 : ((x.kind : Int) == 2) = false := by rw [beq_eq_false_iff_ne]; omega
  have k3 : ((x.kind : Int) == 3) = false := by rw [beq_eq_false_iff_ne]; omega
  have k4 : ((x.kind : Int) == 4) = true := by rw [hk]; rfl
  have k5 : ((x.kind : Int) == 5) = false := by rw [beq_eq_false_iff_ne]; omega
  have k6 : ((x.kind : Int) == 6) = false := by rw [beq_eq_false_iff_ne]; omega
  have k7 : ((x.kind : Int) == 7) = false := by rw [beq_eq_false_iff_ne]; omega
  have HH := Lib.hid h
  have HBK0 : Hid ((W.alloc (.cells (xA x a1 n1 c1 a2 n2 c2 a3 n3 c3 a4 n4 c4 a5 n5 c5 a6 n6 c6 a7 n7 c7 a8 n8 c8 a9 n9 c9) 39)).heap[W.heap.size]? = some (.cells (xA x a1 n1 c1 a2 n2 c2 a3 n3 c3 a4 n4 c4 a5 n5 c5 a6 n6 c6 a7 n7 c7 a8 n8 c8 a9 n9 c9) 39 (0, 0))) := Lib.hid (heap_alloc_new W _)
  have HB0 : Hid (Below W.heap.size W (W.alloc (.cells (xA x a1 n1 c1 a2 n2 c2 a3 n3 c3 a4 n4 c4 a5 n5 c5 a6 n6 c6 a7 n7 c7 a8 n8 c8 a9 n9 c9) 39))) := Lib.hid (below_alloc W _)
  clear hk
  have hC := name_may x.table (W.alloc (.cells (xA x a1 n1 c1 a2 n2 c2 a3 n3 c3 a4 n4 c4 a5 n5 c5 a6 n6 c6 a7 n7 c7 a8 n8 c8 a9 n9 c9) 39)) hx.table
  rw [hnm] at hC
  clear h hl hnm
  go_enter Tryz.func31, Tryz.ntmps31
  go_wp2_with fail
  refine hC.mono ?_
  rintro e w1 ⟨rfl, hb⟩
  have HB1 := Lib.hid (HB0.out.trans (hb.mono HB0.out.size))
  have HBK1 : Hid (w1.heap[W.heap.size]? = some (.cells (xA x a1 n1 c1 a2 n2 c2 a3 n3 c3 a4 n4 c4 a5 n5 c5 a6 n6 c6 a7 n7 c7 a8 n8 c8 a9 n9 c9) 39 (0, 0))) := Lib.hid ((hb.block W.heap.size (bk_lt HBK0.out)).trans HBK0.out)
  have q0 := bk_cell HBK1.out 0
  clear hb hC
  have p1_4 := bk_cell HBK1.out 4
  have hC := anyStr_may 22 (fun _ _ => rfl) nameB Sh nameE_may _ x.names w1 ((HH.out.kept HB1.out.size (fun k _ hk => HB1.out.block k hk)).hn.from0) hx.names
  rw [hb1] at hC
  clear hb1
  go_wp2_with fail
  refine hC.mono ?_
  rintro e w2 ⟨rfl, hb⟩
  have HB2 := Lib.hid (HB1.out.trans (hb.mono HB1.out.size))
  have HBK2 : Hid (w2.heap[W.heap.size]? = some (.cells (xA x a1 n1 c1 a2 n2 c2 a3 n3 c3 a4 n4 c4 a5 n5 c5 a6 n6 c6 a7 n7 c7 a8 n8 c8 a9 n9 c9) 39 (0, 0))) := Lib.hid ((hb.block W.heap.size (bk_lt HBK1.out)).trans HBK1.out)
  clear hb hC
  have p2_5 := bk_cell HBK2.out 5
  have hC := allRow_may 68 64 (by decide) (fun _ _ => rfl) rowB (fun l => ∀ y ∈ l, y.all Sh) rowsE_may _ x.rows w2 ((HH.out.kept HB2.out.size (fun k _ hk => HB2.out.block k hk)).hr.from0) hx.rows
  go_wp2_with fail
  refine hC.mono ?_
  rintro e w3 ⟨rfl, hb⟩
  have HB3 := Lib.hid (HB2.out.trans (hb.mono HB2.out.size))
  have HBK3 : Hid (w3.heap[W.heap.size]? = some (.cells (xA x a1 n1 c1 a2 n2 c2 a3 n3 c3 a4 n4 c4 a5 n5 c5 a6 n6 c6 a7 n7 c7 a8 n8 c8 a9 n9 c9) 39 (0, 0))) := Lib.hid ((hb.block W.heap.size (bk_lt HBK2.out)).trans HBK2.out)
  clear hb hC
  go_wp2_with fail
  go_ret
  exact ⟨rfl, HB3.out⟩
set_option maxRecDepth 100000 in
set_option maxHeartbeats 8000000 in
theorem own_6 (x : StM) (a1 : Option Addr) (n1 c1 : Nat) (a2 : Option Addr) (n2 c2 : Nat) (a3 : Option Addr) (n3 c3 : Nat) (a4 : Option Addr) (n4 c4 : Nat) (a5 : Option Addr) (n5 c5 : Nat) (a6 : Option Addr) (n6 c6 : Nat) (a7 : Option Addr) (n7 c7 : Nat) (a8 : Option Addr) (n8 c8 : Nat) (a9 : Option Addr) (n9 c9 : Nat) (W : World) (h : StHeld (fun _ => True) W x (.slice a1 n1 c1) (.slice a2 n2 c2) (.slice a3 n3 c3) (.slice a4 n4 c4) (.slice a5 n5 c5) (.slice a6 n6 c6) (.slice a7 n7 c7) (.slice a8 n8 c8) (.slice a9 n9 c9)) (hl : Lens x n1 n2 n3 n4 n5 n6 n7 n8 n9) (hx : x.all Sh) (hk : x.kind = 6) (hnm : nameB x.table = true) :
    Calls Tryz.prog 31 #[.agg (xA x a1 n1 c1 a2 n2 c2 a3 n3 c3 a4 n4 c4 a5 n5 c5 a6 n6 c6 a7 n7 c7 a8 n8 c8 a9 n9 c9)] W fun e w' => e = .returned (.bool (optE x.cond)) ∧ Below W.heap.size W w' := by
  have k1 : ((x.kind : Int) == 1) = false := by rw [beq_eq_false_iff_ne]; omega
  have k2 : ((x.kind : Int) == 2) = false := by rw [beq_eq_false_iff_ne]; omega
  have k3 : ((x.kind : Int) == 3) = false := by rw [beq_eq_false_iff_ne]; omega
  have k4 : ((x.kind : Int) == 4) = false := by rw [beq_eq_false_iff_ne]; omega
  have k5 : ((x.kind : Int) == 5) = false := by rw [beq_eq_false_iff_ne]; omega
  have k6 : ((x.kind : Int) == 6) = true := by rw [hk]; rfl
  have k7 : ((x.kind : Int) == 7) = false := by rw [beq_eq_false_iff_ne]; omega
  have HH := Lib.hid h
  have HBK0 : Hid ((W.alloc (.cells (xA x a1 n1 c1 a2 n2 c2 a3 n3 c3 a4 n4 c4 a5 n5 c5 a6 n6 c6 a7 n7 c7 a8 n8 c8 a9 n9 c9) 39)).heap[W.heap.size]? = some (.cells (xA x a1 n1 c1 a2 n2 c2 a3 n3 c3 a4 n4 c4 a5 n5 c5 a6 n6 c6 a7 n7 c7 a8 n8 c8 a9 n9 c9) 39 (0, 0))) := Lib.hid (heap_alloc_new W _)
  have HB0 : Hid (Below W.heap.size W (W.alloc (.cells (xA x a1 n1 c1 a2 n2 c2 a3 n3 c3 a4 n4 c4 a5 n5 c5 a6 n6 c6 a7 n7 c7 a8 n8 c8 a9 n9 c9) 39))) := Lib.hid (below_alloc W _)
  clear hk
  have hC := name_may x.table (W.alloc (.cells (xA x a1 n1 c1 a2 n2 c2 a3 n3 c3 a4 n4 c4 a5 n5 c5 a6 n6 c6 a7 n7 c7 a8 n8 c8 a9 n9 c9) 39)) hx.table
  rw [hnm] at hC
  clear h hl hnm
  go_enter Tryz.func31, Tryz.ntmps31
  go_wp2_with fail
  refine hC.mono ?_
  rintro e w1 ⟨rfl, hb⟩
  have HB1 := Lib.hid (HB0.out.trans (hb.mono HB0.out.size))
  have HBK1 : Hid (w1.heap[W.heap.size]? = some (.cells (xA x a1 n1 c1 a2 n2 c2 a3 n3 c3 a4 n4 c4 a5 n5 c5 a6 n6 c6 a7 n7 c7 a8 n8 c8 a9 n9 c9) 39 (0, 0))) := Lib.hid ((hb.block W.heap.size (bk_lt HBK0.out)).trans HBK0.out)
  have q0 := bk_cell HBK1.out 0
  clear hb hC
  have hC := optional_may w1 _ x.cond ((HH.out.kept HB1.out.size (fun k _ hk => HB1.out.block k hk)).hu) hx.cond
  go_wp2_with (refine wpList_load_mid rfl 36 _ rfl W.heap.size 8 rfl _ _ (World.rangeAt_of_block HBK1.out 8 9 : World.rangeAt _ _ _ (eL x.cond.a (.slice a6 n6 c6))) Tryz.underlying36 rfl (by kernel_rfl) ?_)
  refine hC.mono ?_
  rintro e w2 ⟨rfl, hb⟩
  have HB2 := Lib.hid (HB1.out.trans (hb.mono HB1.out.size))
  have HBK2 : Hid (w2.heap[W.heap.size]? = some (.cells (xA x a1 n1 c1 a2 n2 c2 a3 n3 c3 a4 n4 c4 a5 n5 c5 a6 n6 c6 a7 n7 c7 a8 n8 c8 a9 n9 c9) 39 (0, 0))) := Lib.hid ((hb.block W.heap.size (bk_lt HBK1.out)).trans HBK1.out)
  clear hb hC
  go_wp2_with fail
  go_ret
  exact ⟨rfl, HB2.out⟩
set_option maxRecDepth 100000 in
set_option maxHeartbeats 8000000 in
theorem own_0 (x : StM) (a1 : Option Addr) (n1 c1 : Nat) (a2 : Option Addr) (n2 c2 : Nat) (a3 : Option Addr) (n3 c3 : Nat) (a4 : Option Addr) (n4 c4 : Nat) (a5 : Option Addr) (n5 c5 : Nat) (a6 : Option Addr) (n6 c6 : Nat) (a7 : Option Addr) (n7 c7 : Nat) (a8 : Option Addr) (n8 c8 : Nat) (a9 : Option Addr) (n9 c9 : Nat) (W : World) (h : StHeld (fun _ => True) W x (.slice a1 n1 c1) (.slice a2 n2 c2) (.slice a3 n3 c3) (.slice a4 n4 c4) (.slice a5 n5 c5) (.slice a6 n6 c6) (.slice a7 n7 c7) (.slice a8 n8 c8) (.slice a9 n9 c9)) (hl : Lens x n1 n2 n3 n4 n5 n6 n7 n8 n9) (hx : x.all Sh) (hk : x.kind = 0) (hnm : nameB x.table = true) :
    Calls Tryz.prog 31 #[.agg (xA x a1 n1 c1 a2 n2 c2 a3 n3 c3 a4 n4 c4 a5 n5 c5 a6 n6 c6 a7 n7 c7 a8 n8 c8 a9 n9 c9)] W fun e w' => e = .returned (.bool false) ∧ Below W.heap.size W w' := by
  have k1 : ((x.kind : Int) == 1) = false := by rw [beq_eq_false_iff_ne]; omega
  have k2 : ((x.kind : Int) == 2) = false := by rw [beq_eq_false_iff_ne]; omega
  have k3 : ((x.kind : Int) == 3) = false := by rw [beq_eq_false_iff_ne]; omega
  have k4 : ((x.kind : Int) == 4) = false := by rw [beq_eq_false_iff_ne]; omega
  have k5 : ((x.kind : Int) == 5) = false := by rw [beq_eq_false_iff_ne]; omega
  have k6 : ((x.kind : Int) == 6) = false := by rw [beq_eq_false_iff_ne]; omega
  have k7 : ((x.kind : Int) == 7) = false := by rw [beq_eq_false_iff_ne]; omega
  have HH := Lib.hid h
  have HBK0 : Hid ((W.alloc (.cells (xA x a1 n1 c1 a2 n2 c2 a3 n3 c3 a4 n4 c4 a5 n5 c5 a6 n6 c6 a7 n7 c7 a8 n8 c8 a9 n9 c9) 39)).heap[W.heap.size]? = some (.cells (xA x a1 n1 c1 a2 n2 c2 a3 n3 c3 a4 n4 c4 a5 n5 c5 a6 n6 c6 a7 n7 c7 a8 n8 c8 a9 n9 c9) 39 (0, 0))) := Lib.hid (heap_alloc_new W _)
  have HB0 : Hid (Below W.heap.size W (W.alloc (.cells (xA x a1 n1 c1 a2 n2 c2 a3 n3 c3 a4 n4 c4 a5 n5 c5 a6 n6 c6 a7 n7 c7 a8 n8 c8 a9 n9 c9) 39))) := Lib.hid (below_alloc W _)
  clear hk
  have hC := name_may x.table (W.alloc (.cells (xA x a1 n1 c1 a2 n2 c2 a3 n3 c3 a4 n4 c4 a5 n5 c5 a6 n6 c6 a7 n7 c7 a8 n8 c8 a9 n9 c9) 39)) hx.table
  rw [hnm] at hC
  clear h hl hnm
  go_enter Tryz.func31, Tryz.ntmps31
  go_wp2_with fail
  refine hC.mono ?_
  rintro e w1 ⟨rfl, hb⟩
  have HB1 := Lib.hid (HB0.out.trans (hb.mono HB0.out.size))
  have HBK1 : Hid (w1.heap[W.heap.size]? = some (.cells (xA x a1 n1 c1 a2 n2 c2 a3 n3 c3 a4 n4 c4 a5 n5 c5 a6 n6 c6 a7 n7 c7 a8 n8 c8 a9 n9 c9) 39 (0, 0))) := Lib.hid ((hb.block W.heap.size (bk_lt HBK0.out)).trans HBK0.out)
  have q0 := bk_cell HBK1.out 0
  clear hb hC
  go_wp2_with fail
  go_ret
  exact ⟨rfl, HB1.out⟩
set_option maxRecDepth 100000 in
set_option maxHeartbeats 8000000 in
theorem own_8 (x : StM) (a1 : Option Addr) (n1 c1 : Nat) (a2 : Option Addr) (n2 c2 : Nat) (a3 : Option Addr) (n3 c3 : Nat) (a4 : Option Addr) (n4 c4 : Nat) (a5 : Option Addr) (n5 c5 : Nat) (a6 : Option Addr) (n6 c6 : Nat) (a7 : Option Addr) (n7 c7 : Nat) (a8 : Option Addr) (n8 c8 : Nat) (a9 : Option Addr) (n9 c9 : Nat) (W : World) (h : StHeld (fun _ => True) W x (.slice a1 n1 c1) (.slice a2 n2 c2) (.slice a3 n3 c3) (.slice a4 n4 c4) (.slice a5 n5 c5) (.slice a6 n6 c6) (.slice a7 n7 c7) (.slice a8 n8 c8) (.slice a9 n9 c9)) (hl : Lens x n1 n2 n3 n4 n5 n6 n7 n8 n9) (hx : x.all Sh) (hk : 8 ≤ x.kind) (hnm : nameB x.table = true) :
    Calls Tryz.prog 31 #[.agg (xA x a1 n1 c1 a2 n2 c2 a3 n3 c3 a4 n4 c4 a5 n5 c5 a6 n6 c6 a7 n7 c7 a8 n8 c8 a9 n9 c9)] W fun e w' => e = .returned (.bool false) ∧ Below W.heap.size W w' := by
  have k1 : ((x.kind : Int) == 1) = false := by rw [beq_eq_false_iff_ne]; omega
  have k2 : ((x.kind : Int) == 2) = false := by rw [beq_eq_false_iff_ne]; omega
  have k3 : ((x.kind : Int) == 3) = false := by rw [beq_eq_false_iff_ne]; omega
  have k4 : ((x.kind : Int) == 4) = false := by rw [beq_eq_false_iff_ne]; omega
  have k5 : ((x.kind : Int) == 5) = false := by rw [beq_eq_false_iff_ne]; omega
  have k6 : ((x.kind : Int) == 6) = false := by rw [beq_eq_false_iff_ne]; omega
  have k7 : ((x.kind : Int) == 7) = false := by rw [beq_eq_false_iff_ne]; omega
  have HH := Lib.hid h
  have HBK0 : Hid ((W.alloc (.cells (xA x a1 n1 c1 a2 n2 c2 a3 n3 c3 a4 n4 c4 a5 n5 c5 a6 n6 c6 a7 n7 c7 a8 n8 c8 a9 n9 c9) 39)).heap[W.heap.size]? = some (.cells (xA x a1 n1 c1 a2 n2 c2 a3 n3 c3 a4 n4 c4 a5 n5 c5 a6 n6 c6 a7 n7 c7 a8 n8 c8 a9 n9 c9) 39 (0, 0))) := Lib.hid (heap_alloc_new W _)
  have HB0 : Hid (Below W.heap.size W (W.alloc (.cells (xA x a1 n1 c1 a2 n2 c2 a3 n3 c3 a4 n4 c4 a5 n5 c5 a6 n6 c6 a7 n7 c7 a8 n8 c8 a9 n9 c9) 39))) := Lib.hid (below_alloc W _)
  clear hk
  have hC := name_may x.table (W.alloc (.cells (xA x a1 n1 c1 a2 n2 c2 a3 n3 c3 a4 n4 c4 a5 n5 c5 a6 n6 c6 a7 n7 c7 a8 n8 c8 a9 n9 c9) 39)) hx.table
  rw [hnm] at hC
  clear h hl hnm
  go_enter Tryz.func31, Tryz.ntmps31
  go_wp2_with fail
  refine hC.mono ?_
  rintro e w1 ⟨rfl, hb⟩
  have HB1 := Lib.hid (HB0.out.trans (hb.mono HB0.out.size))
  have HBK1 : Hid (w1.heap[W.heap.size]? = some (.cells (xA x a1 n1 c1 a2 n2 c2 a3 n3 c3 a4 n4 c4 a5 n5 c5 a6 n6 c6 a7 n7 c7 a8 n8 c8 a9 n9 c9) 39 (0, 0))) := Lib.hid ((hb.block W.heap.size (bk_lt HBK0.out)).trans HBK0.out)
  have q0 := bk_cell HBK1.out 0
  clear hb hC
  go_wp2_with fail
  go_ret
  exact ⟨rfl, HB1.out⟩
set_option maxRecDepth 100000 in
set_option maxHeartbeats 8000000 in
theorem own_50 (x : StM) (a1 : Option Addr) (n1 c1 : Nat) (a2 : Option Addr) (n2 c2 : Nat) (a3 : Option Addr) (n3 c3 : Nat) (a4 : Option Addr) (n4 c4 : Nat) (a5 : Option Addr) (n5 c5 : Nat) (a6 : Option Addr) (n6 c6 : Nat) (a7 : Option Addr) (n7 c7 : Nat) (a8 : Option Addr) (n8 c8 : Nat) (a9 : Option Addr) (n9 c9 : Nat) (W : World) (h : StHeld (fun _ => True) W x (.slice a1 n1 c1) (.slice a2 n2 c2) (.slice a3 n3 c3) (.slice a4 n4 c4) (.slice a5 n5 c5) (.slice a6 n6 c6) (.slice a7 n7 c7) (.slice a8 n8 c8) (.slice a9 n9 c9)) (hl : Lens x n1 n2 n3 n4 n5 n6 n7 n8 n9) (hx : x.all Sh) (hk : x.kind = 5) (hnm : nameB x.table = true)  (b0 : allB 64 nameB x.names = false) :
    Calls Tryz.prog 31 #[.agg (xA x a1 n1 c1 a2 n2 c2 a3 n3 c3 a4 n4 c4 a5 n5 c5 a6 n6 c6 a7 n7 c7 a8 n8 c8 a9 n9 c9)] W fun e w' => e = .returned (.bool false) ∧ Below W.heap.size W w' := by
  have k1 : ((x.kind : Int) == 1) = false := by rw [beq_eq_false_iff_ne]; omega
  have k2 : ((x.kind : Int) == 2) = false := by rw [beq_eq_false_iff_ne]; omega
  have k3 : ((x.kind : Int) == 3) = false := by rw [beq_eq_false_iff_ne]; omega
  have k4 : ((x.kind : Int) == 4) = false := by rw [beq_eq_false_iff_ne]; omega
  have k5 : ((x.kind : Int) == 5) = true := by rw [hk]; rfl
  have k6 : ((x.kind : Int) == 6) = false := by rw [beq_eq_false_iff_ne]; omega
  have k7 : ((x.kind : Int) == 7) = false := by rw [beq_eq_false_iff_ne]; omega
  have HH := Lib.hid h
  have HBK0 : Hid ((W.alloc (.cells (xA x a1 n1 c1 a2 n2 c2 a3 n3 c3 a4 n4 c4 a5 n5 c5 a6 n6 c6 a7 n7 c7 a8 n8 c8 a9 n9 c9) 39)).heap[W.heap.size]? = some (.cells (xA x a1 n1 c1 a2 n2 c2 a3 n3 c3 a4 n4 c4 a5 n5 c5 a6 n6 c6 a7 n7 c7 a8 n8 c8 a9 n9 c9) 39 (0, 0))) := Lib.hid (heap_alloc_new W _)
  have HB0 : Hid (Below W.heap.size W (W.alloc (.cells (xA x a1 n1 c1 a2 n2 c2 a3 n3 c3 a4 n4 c4 a5 n5 c5 a6 n6 c6 a7 n7 c7 a8 n8 c8 a9 n9 c9) 39))) := Lib.hid (below_alloc W _)
  have HL := Lib.hid hl
  clear hk
  have hC := name_may x.table (W.alloc (.cells (xA x a1 n1 c1 a2 n2 c2 a3 n3 c3 a4 n4 c4 a5 n5 c5 a6 n6 c6 a7 n7 c7 a8 n8 c8 a9 n9 c9) 39)) hx.table
  rw [hnm] at hC
  clear h hl hnm
  go_enter Tryz.func31, Tryz.ntmps31
  go_wp2_with fail
  refine hC.mono ?_
  rintro e w1 ⟨rfl, hb⟩
  have HB1 := Lib.hid (HB0.out.trans (hb.mono HB0.out.size))
  have HBK1 : Hid (w1.heap[W.heap.size]? = some (.cells (xA x a1 n1 c1 a2 n2 c2 a3 n3 c3 a4 n4 c4 a5 n5 c5 a6 n6 c6 a7 n7 c7 a8 n8 c8 a9 n9 c9) 39 (0, 0))) := Lib.hid ((hb.block W.heap.size (bk_lt HBK0.out)).trans HBK0.out)
  have q0 := bk_cell HBK1.out 0
  clear hb hC
  have c1 : ∀ m : BW w1, Calls Tryz.prog 65 #[.slice a2 n2 c2, .int .i64 64, .func (.func 22) #[] #[]] (bwOf w1 m) fun e w' => e = .returned (.bool false) ∧ Below (bwOf w1 m).heap.size (bwOf w1 m) w' := fun m => by
    have hm := HB1.out.trans ((bwOf_below w1 m).mono HB1.out.size)
    have := allStr_may 22 64 (by decide) (fun _ _ => rfl) nameB Sh nameE_may _ x.names (bwOf w1 m) ((HH.out.kept hm.size (fun k _ hk => hm.block k hk)).hn.from0) hx.names
    rw [b0] at this; exact this
  have q4 := bwOf_cell w1 _ _ (bk_cell HBK1.out 4)
  clear b0 hx
  go_wp2_with fail
  refine wp_region_bw (w := w1) (by kernel_rfl) (by kernel_rfl) ?_
  repeat (go_big_quiet_step (fail))
  go_big_quiet_step ((go_at_call 65; exact below_of (c1 _)))
  repeat (go_big_quiet_step (fail))
  refine wpQuiet_nil ?_
  rintro w3 ⟨m3, rfl⟩
  go_wp2_with fail
  go_ret
  exact ⟨rfl, HB1.out.trans ((bwOf_below w1 m3).mono HB1.out.size)⟩
set_option maxRecDepth 100000 in
set_option maxHeartbeats 8000000 in
theorem own_51 (x : StM) (a1 : Option Addr) (n1 c1 : Nat) (a2 : Option Addr) (n2 c2 : Nat) (a3 : Option Addr) (n3 c3 : Nat) (a4 : Option Addr) (n4 c4 : Nat) (a5 : Option Addr) (n5 c5 : Nat) (a6 : Option Addr) (n6 c6 : Nat) (a7 : Option Addr) (n7 c7 : Nat) (a8 : Option Addr) (n8 c8 : Nat) (a9 : Option Addr) (n9 c9 : Nat) (W : World) (h : StHeld (fun _ => True) W x (.slice a1 n1 c1) (.slice a2 n2 c2) (.slice a3 n3 c3) (.slice a4 n4 c4) (.slice a5 n5 c5) (.slice a6 n6 c6) (.slice a7 n7 c7) (.slice a8 n8 c8) (.slice a9 n9 c9)) (hl : Lens x n1 n2 n3 n4 n5 n6 n7 n8 n9) (hx : x.all Sh) (hk : x.kind = 5) (hnm : nameB x.table = true) (b0 : allB 64 nameB x.names = true) (b1 : allB 1 rowB x.rows = false) :
    Calls Tryz.prog 31 #[.agg (xA x a1 n1 c1 a2 n2 c2 a3 n3 c3 a4 n4 c4 a5 n5 c5 a6 n6 c6 a7 n7 c7 a8 n8 c8 a9 n9 c9)] W fun e w' => e = .returned (.bool false) ∧ Below W.heap.size W w' := by
  have k1 : ((x.kind : Int) == 1) = false := by rw [beq_eq_false_iff_ne]; omega
  have k2 : ((x.kind : Int) == 2) = false := by rw [beq_eq_false_iff_ne]; omega
  have k3 : ((x.kind : Int) == 3) = false := by rw [beq_eq_false_iff_ne]; omega
  have k4 : ((x.kind : Int) == 4) = false := by rw [beq_eq_false_iff_ne]; omega
  have k5 : ((x.kind : Int) == 5) = true := by rw [hk]; rfl
  have k6 : ((x.kind : Int) == 6) = false := by rw [beq_eq_false_iff_ne]; omega
  have k7 : ((x.kind : Int) == 7) = false := by rw [beq_eq_false_iff_ne]; omega
  have HH := Lib.hid h
  have HBK0 : Hid ((W.alloc (.cells (xA x a1 n1 c1 a2 n2 c2 a3 n3 c3 a4 n4 c4 a5 n5 c5 a6 n6 c6 a7 n7 c7 a8 n8 c8 a9 n9 c9) 39)).heap[W.heap.size]? = some (.cells (xA x a1 n1 c1 a2 n2 c2 a3 n3 c3 a4 n4 c4 a5 n5 c5 a6 n6 c6 a7 n7 c7 a8 n8 c8 a9 n9 c9) 39 (0, 0))) := Lib.hid (heap_alloc_new W _)
  have HB0 : Hid (Below W.heap.size W (W.alloc (.cells (xA x a1 n1 c1 a2 n2 c2 a3 n3 c3 a4 n4 c4 a5 n5 c5 a6 n6 c6 a7 n7 c7 a8 n8 c8 a9 n9 c9) 39))) := Lib.hid (below_alloc W _)
  have HL := Lib.hid hl
  clear hk
  have hC := name_may x.table (W.alloc (.cells (xA x a1 n1 c1 a2 n2 c2 a3 n3 c3 a4 n4 c4 a5 n5 c5 a6 n6 c6 a7 n7 c7 a8 n8 c8 a9 n9 c9) 39)) hx.table
  rw [hnm] at hC
  clear h hl hnm
  go_enter Tryz.func31, Tryz.ntmps31
  go_wp2_with fail
  refine hC.mono ?_
  rintro e w1 ⟨rfl, hb⟩
  have HB1 := Lib.hid (HB0.out.trans (hb.mono HB0.out.size))
  have HBK1 : Hid (w1.heap[W.heap.size]? = some (.cells (xA x a1 n1 c1 a2 n2 c2 a3 n3 c3 a4 n4 c4 a5 n5 c5 a6 n6 c6 a7 n7 c7 a8 n8 c8 a9 n9 c9) 39 (0, 0))) := Lib.hid ((hb.block W.heap.size (bk_lt HBK0.out)).trans HBK0.out)
  have q0 := bk_cell HBK1.out 0
  clear hb hC
  have c1 : ∀ m : BW w1, Calls Tryz.prog 65 #[.slice a2 n2 c2, .int .i64 64, .func (.func 22) #[] #[]] (bwOf w1 m) fun e w' => e = .returned (.bool true) ∧ Below (bwOf w1 m).heap.size (bwOf w1 m) w' := fun m => by
    have hm := HB1.out.trans ((bwOf_below w1 m).mono HB1.out.size)
    have := allStr_may 22 64 (by decide) (fun _ _ => rfl) nameB Sh nameE_may _ x.names (bwOf w1 m) ((HH.out.kept hm.size (fun k _ hk => hm.block k hk)).hn.from0) hx.names
    rw [b0] at this; exact this
  have q4 := bwOf_cell w1 _ _ (bk_cell HBK1.out 4)
  have c2 : ∀ m : BW w1, Calls Tryz.prog 67 #[.slice a3 n3 c3, .int .i64 1, .func (.func 68) #[] #[]] (bwOf w1 m) fun e w' => e = .returned (.bool false) ∧ Below (bwOf w1 m).heap.size (bwOf w1 m) w' := fun m => by
    have hm := HB1.out.trans ((bwOf_below w1 m).mono HB1.out.size)
    have := allRow_may 68 1 (by decide) (fun _ _ => rfl) rowB (fun l => ∀ y ∈ l, y.all Sh) rowsE_may _ x.rows (bwOf w1 m) ((HH.out.kept hm.size (fun k _ hk => hm.block k hk)).hr.from0) hx.rows
    rw [b1] at this; exact this
  have q5 := bwOf_cell w1 _ _ (bk_cell HBK1.out 5)
  clear b0 b1 hx
  go_wp2_with fail
  refine wp_region_bw (w := w1) (by kernel_rfl) (by kernel_rfl) ?_
  repeat (go_big_quiet_step (fail))
  go_big_quiet_step ((go_at_call 65; exact below_of (c1 _)))
  repeat (go_big_quiet_step (fail))
  go_big_quiet_step ((go_at_call 67; exact below_of (c2 _)))
  repeat (go_big_quiet_step (fail))
  refine wpQuiet_nil ?_
  rintro w3 ⟨m3, rfl⟩
  go_wp2_with fail
  go_ret
  exact ⟨rfl, HB1.out.trans ((bwOf_below w1 m3).mono HB1.out.size)⟩
set_option maxRecDepth 100000 in
set_option maxHeartbeats 8000000 in
theorem own_52 (x : StM) (a1 : Option Addr) (n1 c1 : Nat) (a2 : Option Addr) (n2 c2 : Nat) (a3 : Option Addr) (n3 c3 : Nat) (a4 : Option Addr) (n4 c4 : Nat) (a5 : Option Addr) (n5 c5 : Nat) (a6 : Option Addr) (n6 c6 : Nat) (a7 : Option Addr) (n7 c7 : Nat) (a8 : Option Addr) (n8 c8 : Nat) (a9 : Option Addr) (n9 c9 : Nat) (W : World) (h : StHeld (fun _ => True) W x (.slice a1 n1 c1) (.slice a2 n2 c2) (.slice a3 n3 c3) (.slice a4 n4 c4) (.slice a5 n5 c5) (.slice a6 n6 c6) (.slice a7 n7 c7) (.slice a8 n8 c8) (.slice a9 n9 c9)) (hl : Lens x n1 n2 n3 n4 n5 n6 n7 n8 n9) (hx : x.all Sh) (hk : x.kind = 5) (hnm : nameB x.table = true) (b0 : allB 64 nameB x.names = true) (b1 : allB 1 rowB x.rows = true) (b2 : ((x.rows.headD []).length == x.names.length) = false) :
    Calls Tryz.prog 31 #[.agg (xA x a1 n1 c1 a2 n2 c2 a3 n3 c3 a4 n4 c4 a5 n5 c5 a6 n6 c6 a7 n7 c7 a8 n8 c8 a9 n9 c9)] W fun e w' => e = .returned (.bool false) ∧ Below W.heap.size W w' := by
  have k1 : ((x.kind : Int) == 1) = false := by rw [beq_eq_false_iff_ne]; omega
  have k2 : ((x.kind : Int) == 2) = false := by rw [beq_eq_false_iff_ne]; omega
  have k3 : ((x.kind : Int) == 3) = false := by rw [beq_eq_false_iff_ne]; omega
  have k4 : ((x.kind : Int) == 4) = false := by rw [beq_eq_false_iff_ne]; omega
  have k5 : ((x.kind : Int) == 5) = true := by rw [hk]; rfl
  have k6 : ((x.kind : Int) == 6) = false := by rw [beq_eq_false_iff_ne]; omega
  have k7 : ((x.kind : Int) == 7) = false := by rw [beq_eq_false_iff_ne]; omega
  have HH := Lib.hid h
  have HBK0 : Hid ((W.alloc (.cells (xA x a1 n1 c1 a2 n2 c2 a3 n3 c3 a4 n4 c4 a5 n5 c5 a6 n6 c6 a7 n7 c7 a8 n8 c8 a9 n9 c9) 39)).heap[W.heap.size]? = some (.cells (xA x a1 n1 c1 a2 n2 c2 a3 n3 c3 a4 n4 c4 a5 n5 c5 a6 n6 c6 a7 n7 c7 a8 n8 c8 a9 n9 c9) 39 (0, 0))) := Lib.hid (heap_alloc_new W _)
  have HB0 : Hid (Below W.heap.size W (W.alloc (.cells (xA x a1 n1 c1 a2 n2 c2 a3 n3 c3 a4 n4 c4 a5 n5 c5 a6 n6 c6 a7 n7 c7 a8 n8 c8 a9 n9 c9) 39))) := Lib.hid (below_alloc W _)
  have HL := Lib.hid hl
  clear hk
  have hC := name_may x.table (W.alloc (.cells (xA x a1 n1 c1 a2 n2 c2 a3 n3 c3 a4 n4 c4 a5 n5 c5 a6 n6 c6 a7 n7 c7 a8 n8 c8 a9 n9 c9) 39)) hx.table
  rw [hnm] at hC
  clear h hl hnm
  go_enter Tryz.func31, Tryz.ntmps31
  go_wp2_with fail
  refine hC.mono ?_
  rintro e w1 ⟨rfl, hb⟩
  have HB1 := Lib.hid (HB0.out.trans (hb.mono HB0.out.size))
  have HBK1 : Hid (w1.heap[W.heap.size]? = some (.cells (xA x a1 n1 c1 a2 n2 c2 a3 n3 c3 a4 n4 c4 a5 n5 c5 a6 n6 c6 a7 n7 c7 a8 n8 c8 a9 n9 c9) 39 (0, 0))) := Lib.hid ((hb.block W.heap.size (bk_lt HBK0.out)).trans HBK0.out)
  have q0 := bk_cell HBK1.out 0
  clear hb hC
  have c1 : ∀ m : BW w1, Calls Tryz.prog 65 #[.slice a2 n2 c2, .int .i64 64, .func (.func 22) #[] #[]] (bwOf w1 m) fun e w' => e = .returned (.bool true) ∧ Below (bwOf w1 m).heap.size (bwOf w1 m) w' := fun m => by
    have hm := HB1.out.trans ((bwOf_below w1 m).mono HB1.out.size)
    have := allStr_may 22 64 (by decide) (fun _ _ => rfl) nameB Sh nameE_may _ x.names (bwOf w1 m) ((HH.out.kept hm.size (fun k _ hk => hm.block k hk)).hn.from0) hx.names
    rw [b0] at this; exact this
  have q4 := bwOf_cell w1 _ _ (bk_cell HBK1.out 4)
  have c2 : ∀ m : BW w1, Calls Tryz.prog 67 #[.slice a3 n3 c3, .int .i64 1, .func (.func 68) #[] #[]] (bwOf w1 m) fun e w' => e = .returned (.bool true) ∧ Below (bwOf w1 m).heap.size (bwOf w1 m) w' := fun m => by
    have hm := HB1.out.trans ((bwOf_below w1 m).mono HB1.out.size)
    have := allRow_may 68 1 (by decide) (fun _ _ => rfl) rowB (fun l => ∀ y ∈ l, y.all Sh) rowsE_may _ x.rows (bwOf w1 m) ((HH.out.kept hm.size (fun k _ hk => hm.block k hk)).hr.from0) hx.rows
    rw [b1] at this; exact this
  have q5 := bwOf_cell w1 _ _ (bk_cell HBK1.out 5)
  have hone : ∃ l, x.rows = [l] := by
    unfold allB at b1
    rw [Bool.and_eq_true_iff, Bool.and_eq_true_iff] at b1
    refine List.length_eq_one_iff.1 ?_
    have h1 := b1.1.1; have h2 := b1.1.2
    simp at h1 h2; rw [← List.length_eq_zero_iff] at h1; omega
  obtain ⟨l0, hl0⟩ := hone
  obtain ⟨g0, cap0, u0, m0, cp0, hv0, hc0, hm0⟩ : ∃ g cap u m cp, .slice a3 n3 c3 = Value.slice (some ⟨g, 0, none⟩) 1 cap ∧ w1.cell? ⟨g, 0, none⟩ = some (.slice u m cp) ∧ l0.length = m := by
    have hr := HH.out.hr
    rw [hl0] at hr
    rcases hr with ⟨_, h⟩ | ⟨g, cap, css, e, h2, h3, _, h4, h5, h6⟩
    · cases h
    obtain ⟨cs, ⟨u, rfl, hu⟩, hrg⟩ := row_at (d := []) (r := []) h5 h6 rfl
    obtain ⟨ao, c, rfl, _⟩ := hu.len
    rw [Exs.len_of] at hrg
    refine ⟨g, cap, ao, _, c, e, ?_, rfl⟩
    have := hrg 0 _ rfl
    simp only [List.length_nil, Nat.zero_mul, Nat.add_zero] at this
    exact (World.cell?_of_block (HB1.out.block g h4)).trans this
  injection hv0 with e1 e2 e3
  subst e1 e2 e3
  have q6 := bwOf_cell w1 _ _ hc0
  have hlen : ((m0 : Int) == (n2 : Int)) = false := by
    have hh := b2
    rw [hl0, HL.out.h2] at hh
    have : (m0 == n2) = false := by rw [← hm0]; exact hh
    rw [Bool.eq_iff_iff] at this ⊢; simp at this ⊢; omega
  clear b0 b1 b2 hx hl0 hm0 hc0
  go_wp2_with fail
  refine wp_region_bw (w := w1) (by kernel_rfl) (by kernel_rfl) ?_
  repeat (go_big_quiet_step (fail))
  go_big_quiet_step ((go_at_call 65; exact below_of (c1 _)))
  repeat (go_big_quiet_step (fail))
  go_big_quiet_step ((go_at_call 67; exact below_of (c2 _)))
  repeat (go_big_quiet_step (fail))
  refine wpQuiet_nil ?_
  rintro w3 ⟨m3, rfl⟩
  go_wp2_with fail
  go_ret
  exact ⟨rfl, HB1.out.trans ((bwOf_below w1 m3).mono HB1.out.size)⟩
set_option maxRecDepth 100000 in
set_option maxHeartbeats 8000000 in
theorem own_53 (x : StM) (a1 : Option Addr) (n1 c1 : Nat) (a2 : Option Addr) (n2 c2 : Nat) (a3 : Option Addr) (n3 c3 : Nat) (a4 : Option Addr) (n4 c4 : Nat) (a5 : Option Addr) (n5 c5 : Nat) (a6 : Option Addr) (n6 c6 : Nat) (a7 : Option Addr) (n7 c7 : Nat) (a8 : Option Addr) (n8 c8 : Nat) (a9 : Option Addr) (n9 c9 : Nat) (W : World) (h : StHeld (fun _ => True) W x (.slice a1 n1 c1) (.slice a2 n2 c2) (.slice a3 n3 c3) (.slice a4 n4 c4) (.slice a5 n5 c5) (.slice a6 n6 c6) (.slice a7 n7 c7) (.slice a8 n8 c8) (.slice a9 n9 c9)) (hl : Lens x n1 n2 n3 n4 n5 n6 n7 n8 n9) (hx : x.all Sh) (hk : x.kind = 5) (hnm : nameB x.table = true) (b0 : allB 64 nameB x.names = true) (b1 : allB 1 rowB x.rows = true) (b2 : ((x.rows.headD []).length == x.names.length) = true) (b3 : optE x.cond = false) :
    Calls Tryz.prog 31 #[.agg (xA x a1 n1 c1 a2 n2 c2 a3 n3 c3 a4 n4 c4 a5 n5 c5 a6 n6 c6 a7 n7 c7 a8 n8 c8 a9 n9 c9)] W fun e w' => e = .returned (.bool false) ∧ Below W.heap.size W w' := by
  have k1 : ((x.kind : Int) == 1) = false := by rw [beq_eq_false_iff_ne]; omega
  have k2 : ((x.kind : Int) == 2) = false := by rw [beq_eq_false_iff_ne]; omega
  have k3 : ((x.kind : Int) == 3) = false := by rw [beq_eq_false_iff_ne]; omega
  have k4 : ((x.kind : Int) == 4) = false := by rw [beq_eq_false_iff_ne]; omega
  have k5 : ((x.kind : Int) == 5) = true := by rw [hk]; rfl
  have k6 : ((x.kind : Int) == 6) = false := by rw [beq_eq_false_iff_ne]; omega
  have k7 : ((x.kind : Int) == 7) = false := by rw [beq_eq_false_iff_ne]; omega
  have HH := Lib.hid h
  have HBK0 : Hid ((W.alloc (.cells (xA x a1 n1 c1 a2 n2 c2 a3 n3 c3 a4 n4 c4 a5 n5 c5 a6 n6 c6 a7 n7 c7 a8 n8 c8 a9 n9 c9) 39)).heap[W.heap.size]? = some (.cells (xA x a1 n1 c1 a2 n2 c2 a3 n3 c3 a4 n4 c4 a5 n5 c5 a6 n6 c6 a7 n7 c7 a8 n8 c8 a9 n9 c9) 39 (0, 0))) := Lib.hid (heap_alloc_new W _)
  have HB0 : Hid (Below W.heap.size W (W.alloc (.cells (xA x a1 n1 c1 a2 n2 c2 a3 n3 c3 a4 n4 c4 a5 n5 c5 a6 n6 c6 a7 n7 c7 a8 n8 c8 a9 n9 c9) 39))) := Lib.hid (below_alloc W _)
  have HL := Lib.hid hl
  clear hk
  have hC := name_may x.table (W.alloc (.cells (xA x a1 n1 c1 a2 n2 c2 a3 n3 c3 a4 n4 c4 a5 n5 c5 a6 n6 c6 a7 n7 c7 a8 n8 c8 a9 n9 c9) 39)) hx.table
  rw [hnm] at hC
  clear h hl hnm
  go_enter Tryz.func31, Tryz.ntmps31
  go_wp2_with fail
  refine hC.mono ?_
  rintro e w1 ⟨rfl, hb⟩
  have HB1 := Lib.hid (HB0.out.trans (hb.mono HB0.out.size))
  have HBK1 : Hid (w1.heap[W.heap.size]? = some (.cells (xA x a1 n1 c1 a2 n2 c2 a3 n3 c3 a4 n4 c4 a5 n5 c5 a6 n6 c6 a7 n7 c7 a8 n8 c8 a9 n9 c9) 39 (0, 0))) := Lib.hid ((hb.block W.heap.size (bk_lt HBK0.out)).trans HBK0.out)
  have q0 := bk_cell HBK1.out 0
  clear hb hC
  have c1 : ∀ m : BW w1, Calls Tryz.prog 65 #[.slice a2 n2 c2, .int .i64 64, .func (.func 22) #[] #[]] (bwOf w1 m) fun e w' => e = .returned (.bool true) ∧ Below (bwOf w1 m).heap.size (bwOf w1 m) w' := fun m => by
    have hm := HB1.out.trans ((bwOf_below w1 m).mono HB1.out.size)
    have := allStr_may 22 64 (by decide) (fun _ _ => rfl) nameB Sh nameE_may _ x.names (bwOf w1 m) ((HH.out.kept hm.size (fun k _ hk => hm.block k hk)).hn.from0) hx.names
    rw [b0] at this; exact this
  have q4 := bwOf_cell w1 _ _ (bk_cell HBK1.out 4)
  have c2 : ∀ m : BW w1, Calls Tryz.prog 67 #[.slice a3 n3 c3, .int .i64 1, .func (.func 68) #[] #[]] (bwOf w1 m) fun e w' => e = .returned (.bool true) ∧ Below (bwOf w1 m).heap.size (bwOf w1 m) w' := fun m => by
    have hm := HB1.out.trans ((bwOf_below w1 m).mono HB1.out.size)
    have := allRow_may 68 1 (by decide) (fun _ _ => rfl) rowB (fun l => ∀ y ∈ l, y.all Sh) rowsE_may _ x.rows (bwOf w1 m) ((HH.out.kept hm.size (fun k _ hk => hm.block k hk)).hr.from0) hx.rows
    rw [b1] at this; exact this
  have q5 := bwOf_cell w1 _ _ (bk_cell HBK1.out 5)
  have hone : ∃ l, x.rows = [l] := by
    unfold allB at b1
    rw [Bool.and_eq_true_iff, Bool.and_eq_true_iff] at b1
    refine List.length_eq_one_iff.1 ?_
    have h1 := b1.1.1; have h2 := b1.1.2
    simp at h1 h2; rw [← List.length_eq_zero_iff] at h1; omega
  obtain ⟨l0, hl0⟩ := hone
  obtain ⟨g0, cap0, u0, m0, cp0, hv0, hc0, hm0⟩ : ∃ g cap u m cp, .slice a3 n3 c3 = Value.slice (some ⟨g, 0, none⟩) 1 cap ∧ w1.cell? ⟨g, 0, none⟩ = some (.slice u m cp) ∧ l0.length = m := by
    have hr := HH.out.hr
    rw [hl0] at hr
    rcases hr with ⟨_, h⟩ | ⟨g, cap, css, e, h2, h3, _, h4, h5, h6⟩
    · cases h
    obtain ⟨cs, ⟨u, rfl, hu⟩, hrg⟩ := row_at (d := []) (r := []) h5 h6 rfl
    obtain ⟨ao, c, rfl, _⟩ := hu.len
    rw [Exs.len_of] at hrg
    refine ⟨g, cap, ao, _, c, e, ?_, rfl⟩
    have := hrg 0 _ rfl
    simp only [List.length_nil, Nat.zero_mul, Nat.add_zero] at this
    exact (World.cell?_of_block (HB1.out.block g h4)).trans this
  injection hv0 with e1 e2 e3
  subst e1 e2 e3
  have q6 := bwOf_cell w1 _ _ hc0
  have hlen : ((m0 : Int) == (n2 : Int)) = true := by
    have hh := b2
    rw [hl0, HL.out.h2] at hh
    have : (m0 == n2) = true := by rw [← hm0]; exact hh
    rw [Bool.eq_iff_iff] at this ⊢; simp at this ⊢; omega
  have c3 : ∀ m : BW w1, Calls Tryz.prog 69 #[.agg (eA x.cond.a (.slice a6 n6 c6))] (bwOf w1 m) fun e w' => e = .returned (.bool false) ∧ Below (bwOf w1 m).heap.size (bwOf w1 m) w' := fun m => by
    have hm := HB1.out.trans ((bwOf_below w1 m).mono HB1.out.size)
    have := optional_may (bwOf w1 m) _ x.cond ((HH.out.kept hm.size (fun k _ hk => hm.block k hk)).hu) hx.cond
    rw [b3] at this; exact this
  have z8 := bwOf_cell w1 _ _ (bk_cell HBK1.out 8)
  have z9 := bwOf_cell w1 _ _ (bk_cell HBK1.out 9)
  have z10 := bwOf_cell w1 _ _ (bk_cell HBK1.out 10)
  have z11 := bwOf_cell w1 _ _ (bk_cell HBK1.out 11)
  have z12 := bwOf_cell w1 _ _ (bk_cell HBK1.out 12)
  have z13 := bwOf_cell w1 _ _ (bk_cell HBK1.out 13)
  have z14 := bwOf_cell w1 _ _ (bk_cell HBK1.out 14)
  have z15 := bwOf_cell w1 _ _ (bk_cell HBK1.out 15)
  have z16 := bwOf_cell w1 _ _ (bk_cell HBK1.out 16)
  clear b0 b1 b2 b3 hx hl0 hm0 hc0
  go_wp2_with fail
  refine wp_region_bw (w := w1) (by kernel_rfl) (by kernel_rfl) ?_
  repeat (go_big_quiet_step (fail))
  go_big_quiet_step ((go_at_call 65; exact below_of (c1 _)))
  repeat (go_big_quiet_step (fail))
  go_big_quiet_step ((go_at_call 67; exact below_of (c2 _)))
  repeat (go_big_quiet_step (fail))
  go_big_quiet_step ((go_at_call 69; exact below_of (c3 _)))
  repeat (go_big_quiet_step (fail))
  refine wpQuiet_nil ?_
  rintro w3 ⟨m3, rfl⟩
  go_wp2_with fail
  go_ret
  exact ⟨rfl, HB1.out.trans ((bwOf_below w1 m3).mono HB1.out.size)⟩
set_option maxRecDepth 100000 in
set_option maxHeartbeats 8000000 in
theorem own_54 (x : StM) (a1 : Option Addr) (n1 c1 : Nat) (a2 : Option Addr) (n2 c2 : Nat) (a3 : Option Addr) (n3 c3 : Nat) (a4 : Option Addr) (n4 c4 : Nat) (a5 : Option Addr) (n5 c5 : Nat) (a6 : Option Addr) (n6 c6 : Nat) (a7 : Option Addr) (n7 c7 : Nat) (a8 : Option Addr) (n8 c8 : Nat) (a9 : Option Addr) (n9 c9 : Nat) (W : World) (h : StHeld (fun _ => True) W x (.slice a1 n1 c1) (.slice a2 n2 c2) (.slice a3 n3 c3) (.slice a4 n4 c4) (.slice a5 n5 c5) (.slice a6 n6 c6) (.slice a7 n7 c7) (.slice a8 n8 c8) (.slice a9 n9 c9)) (hl : Lens x n1 n2 n3 n4 n5 n6 n7 n8 n9) (hx : x.all Sh) (hk : x.kind = 5) (hnm : nameB x.table = true) (b0 : allB 64 nameB x.names = true) (b1 : allB 1 rowB x.rows = true) (b2 : ((x.rows.headD []).length == x.names.length) = true) (b3 : optE x.cond = true) :
    Calls Tryz.prog 31 #[.agg (xA x a1 n1 c1 a2 n2 c2 a3 n3 c3 a4 n4 c4 a5 n5 c5 a6 n6 c6 a7 n7 c7 a8 n8 c8 a9 n9 c9)] W fun e w' => e = .returned (.bool true) ∧ Below W.heap.size W w' := by
  have k1 : ((x.kind : Int) == 1) = false := by rw [beq_eq_false_iff_ne]; omega
  have k2 : ((x.kind : Int) == 2) = false := by rw [beq_eq_false_iff_ne]; omega
  have k3 : ((x.kind : Int) == 3) = false := by rw [beq_eq_false_iff_ne]; omega
  have k4 : ((x.kind : Int) == 4) = false := by rw [beq_eq_false_iff_ne]; omega
  have k5 : ((x.kind : Int) == 5) = true := by rw [hk]; rfl
  have k6 : ((x.kind : Int) == 6) = false := by rw [beq_eq_false_iff_ne]; omega
  have k7 : ((x.kind : Int) == 7) = false := by rw [beq_eq_false_iff_ne]; omega
  have HH := Lib.hid h
  have HBK0 : Hid ((W.alloc (.cells (xA x a1 n1 c1 a2 n2 c2 a3 n3 c3 a4 n4 c4 a5 n5 c5 a6 n6 c6 a7 n7 c7 a8 n8 c8 a9 n9 c9) 39)).heap[W.heap.size]? = some (.cells (xA x a1 n1 c1 a2 n2 c2 a3 n3 c3 a4 n4 c4 a5 n5 c5 a6 n6 c6 a7 n7 c7 a8 n8 c8 a9 n9 c9) 39 (0, 0))) := Lib.hid (heap_alloc_new W _)
  have HB0 : Hid (Below W.heap.size W (W.alloc (.cells (xA x a1 n1 c1 a2 n2 c2 a3 n3 c3 a4 n4 c4 a5 n5 c5 a6 n6 c6 a7 n7 c7 a8 n8 c8 a9 n9 c9) 39))) := Lib.hid (below_alloc W _)
  have HL := Lib.hid hl
  clear hk
  have hC := name_may x.table (W.alloc (.cells (xA x a1 n1 c1 a2 n2 c2 a3 n3 c3 a4 n4 c4 a5 n5 c5 a6 n6 c6 a7 n7 c7 a8 n8 c8 a9 n9 c9) 39)) hx.table
  rw [hnm] at hC
  clear h hl hnm
  go_enter Tryz.func31, Tryz.ntmps31
  go_wp2_with fail
  refine hC.mono ?_
  rintro e w1 ⟨rfl, hb⟩
  have HB1 := Lib.hid (HB0.out.trans (hb.mono HB0.out.size))
  have HBK1 : Hid (w1.heap[W.heap.size]? = some (.cells (xA x a1 n1 c1 a2 n2 c2 a3 n3 c3 a4 n4 c4 a5 n5 c5 a6 n6 c6 a7 n7 c7 a8 n8 c8 a9 n9 c9) 39 (0, 0))) := Lib.hid ((hb.block W.heap.size (bk_lt HBK0.out)).trans HBK0.out)
  have q0 := bk_cell HBK1.out 0
  clear hb hC
  have c1 : ∀ m : BW w1, Calls Tryz.prog 65 #[.slice a2 n2 c2, .int .i64 64, .func (.func 22) #[] #[]] (bwOf w1 m) fun e w' => e = .returned (.bool true) ∧ Below (bwOf w1 m).heap.size (bwOf w1 m) w' := fun m => by
    have hm := HB1.out.trans ((bwOf_below w1 m).mono HB1.out.size)
    have := allStr_may 22 64 (by decide) (fun _ _ => rfl) nameB Sh nameE_may _ x.names (bwOf w1 m) ((HH.out.kept hm.size (fun k _ hk => hm.block k hk)).hn.from0) hx.names
    rw [b0] at this; exact this
  have q4 := bwOf_cell w1 _ _ (bk_cell HBK1.out 4)
  have c2 : ∀ m : BW w1, Calls Tryz.prog 67 #[.slice a3 n3 c3, .int .i64 1, .func (.func 68) #[] #[]] (bwOf w1 m) fun e w' => e = .returned (.bool true) ∧ Below (bwOf w1 m).heap.size (bwOf w1 m) w' := fun m => by
    have hm := HB1.out.trans ((bwOf_below w1 m).mono HB1.out.size)
    have := allRow_may 68 1 (by decide) (fun _ _ => rfl) rowB (fun l => ∀ y ∈ l, y.all Sh) rowsE_may _ x.rows (bwOf w1 m) ((HH.out.kept hm.size (fun k _ hk => hm.block k hk)).hr.from0) hx.rows
    rw [b1] at this; exact this
  have q5 := bwOf_cell w1 _ _ (bk_cell HBK1.out 5)
  have hone : ∃ l, x.rows = [l] := by
    unfold allB at b1
    rw [Bool.and_eq_true_iff, Bool.and_eq_true_iff] at b1
    refine List.length_eq_one_iff.1 ?_
    have h1 := b1.1.1; have h2 := b1.1.2
    simp at h1 h2; rw [← List.length_eq_zero_iff] at h1; omega
  obtain ⟨l0, hl0⟩ := hone
  obtain ⟨g0, cap0, u0, m0, cp0, hv0, hc0, hm0⟩ : ∃ g cap u m cp, .slice a3 n3 c3 = Value.slice (some ⟨g, 0, none⟩) 1 cap ∧ w1.cell? ⟨g, 0, none⟩ = some (.slice u m cp) ∧ l0.length = m := by
    have hr := HH.out.hr
    rw [hl0] at hr
    rcases hr with ⟨_, h⟩ | ⟨g, cap, css, e, h2, h3, _, h4, h5, h6⟩
    · cases h
    obtain ⟨cs, ⟨u, rfl, hu⟩, hrg⟩ := row_at (d := []) (r := []) h5 h6 rfl
    obtain ⟨ao, c, rfl, _⟩ := hu.len
    rw [Exs.len_of] at hrg
    refine ⟨g, cap, ao, _, c, e, ?_, rfl⟩
    have := hrg 0 _ rfl
    simp only [List.length_nil, Nat.zero_mul, Nat.add_zero] at this
    exact (World.cell?_of_block (HB1.out.block g h4)).trans this
  injection hv0 with e1 e2 e3
  subst e1 e2 e3
  have q6 := bwOf_cell w1 _ _ hc0
  have hlen : ((m0 : Int) == (n2 : Int)) = true := by
    have hh := b2
    rw [hl0, HL.out.h2] at hh
    have : (m0 == n2) = true := by rw [← hm0]; exact hh
    rw [Bool.eq_iff_iff] at this ⊢; simp at this ⊢; omega
  have c3 : ∀ m : BW w1, Calls Tryz.prog 69 #[.agg (eA x.cond.a (.slice a6 n6 c6))] (bwOf w1 m) fun e w' => e = .returned (.bool true) ∧ Below (bwOf w1 m).heap.size (bwOf w1 m) w' := fun m => by
    have hm := HB1.out.trans ((bwOf_below w1 m).mono HB1.out.size)
    have := optional_may (bwOf w1 m) _ x.cond ((HH.out.kept hm.size (fun k _ hk => hm.block k hk)).hu) hx.cond
    rw [b3] at this; exact this
  have z8 := bwOf_cell w1 _ _ (bk_cell HBK1.out 8)
  have z9 := bwOf_cell w1 _ _ (bk_cell HBK1.out 9)
  have z10 := bwOf_cell w1 _ _ (bk_cell HBK1.out 10)
  have z11 := bwOf_cell w1 _ _ (bk_cell HBK1.out 11)
  have z12 := bwOf_cell w1 _ _ (bk_cell HBK1.out 12)
  have z13 := bwOf_cell w1 _ _ (bk_cell HBK1.out 13)
  have z14 := bwOf_cell w1 _ _ (bk_cell HBK1.out 14)
  have z15 := bwOf_cell w1 _ _ (bk_cell HBK1.out 15)
  have z16 := bwOf_cell w1 _ _ (bk_cell HBK1.out 16)
  clear b0 b1 b2 b3 hx hl0 hm0 hc0
  go_wp2_with fail
  refine wp_region_bw (w := w1) (by kernel_rfl) (by kernel_rfl) ?_
  repeat (go_big_quiet_step (fail))
  go_big_quiet_step ((go_at_call 65; exact below_of (c1 _)))
  repeat (go_big_quiet_step (fail))
  go_big_quiet_step ((go_at_call 67; exact below_of (c2 _)))
  repeat (go_big_quiet_step (fail))
  go_big_quiet_step ((go_at_call 69; exact below_of (c3 _)))
  repeat (go_big_quiet_step (fail))
  refine wpQuiet_nil ?_
  rintro w3 ⟨m3, rfl⟩
  go_wp2_with fail
  go_ret
  exact ⟨rfl, HB1.out.trans ((bwOf_below w1 m3).mono HB1.out.size)⟩
theorem own_may (x : StM) (a1 : Option Addr) (n1 c1 : Nat) (a2 : Option Addr) (n2 c2 : Nat) (a3 : Option Addr) (n3 c3 : Nat) (a4 : Option Addr) (n4 c4 : Nat) (a5 : Option Addr) (n5 c5 : Nat) (a6 : Option Addr) (n6 c6 : Nat) (a7 : Option Addr) (n7 c7 : Nat) (a8 : Option Addr) (n8 c8 : Nat) (a9 : Option Addr) (n9 c9 : Nat) (W : World) (h : StHeld (fun _ => True) W x (.slice a1 n1 c1) (.slice a2 n2 c2) (.slice a3 n3 c3) (.slice a4 n4 c4) (.slice a5 n5 c5) (.slice a6 n6 c6) (.slice a7 n7 c7) (.slice a8 n8 c8) (.slice a9 n9 c9)) (hl : Lens x n1 n2 n3 n4 n5 n6 n7 n8 n9) (hx : x.all Sh) :
    Calls Tryz.prog 31 #[.agg (xA x a1 n1 c1 a2 n2 c2 a3 n3 c3 a4 n4 c4 a5 n5 c5 a6 n6 c6 a7 n7 c7 a8 n8 c8 a9 n9 c9)] W fun e w' => e = .returned (.bool (ownB x)) ∧ Below W.heap.size W w' := by
  unfold ownB
  by_cases k7 : x.kind = 7
  · rw [if_pos k7]; exact own_7 x a1 n1 c1 a2 n2 c2 a3 n3 c3 a4 n4 c4 a5 n5 c5 a6 n6 c6 a7 n7 c7 a8 n8 c8 a9 n9 c9 W h hl hx k7
  rw [if_neg k7]
  cases hn : nameB x.table with
  | false => rw [if_pos rfl]; exact own_no x a1 n1 c1 a2 n2 c2 a3 n3 c3 a4 n4 c4 a5 n5 c5 a6 n6 c6 a7 n7 c7 a8 n8 c8 a9 n9 c9 W h hl hx k7 hn
  | true =>
  rw [if_neg (by simp)]
  by_cases k1 : x.kind = 1
  · rw [if_pos k1]; exact own_1 x a1 n1 c1 a2 n2 c2 a3 n3 c3 a4 n4 c4 a5 n5 c5 a6 n6 c6 a7 n7 c7 a8 n8 c8 a9 n9 c9 W h hl hx k1 hn
  rw [if_neg k1]
  by_cases k2 : x.kind = 2
  · rw [if_pos k2]; exact own_2 x a1 n1 c1 a2 n2 c2 a3 n3 c3 a4 n4 c4 a5 n5 c5 a6 n6 c6 a7 n7 c7 a8 n8 c8 a9 n9 c9 W h hl hx k2 hn
  rw [if_neg k2]
  by_cases k3 : x.kind = 3
  · rw [if_pos k3]
    cases b : nameB x.name with
    | false => exact own_3f x a1 n1 c1 a2 n2 c2 a3 n3 c3 a4 n4 c4 a5 n5 c5 a6 n6 c6 a7 n7 c7 a8 n8 c8 a9 n9 c9 W h hl hx k3 hn b
    | true => exact own_3t x a1 n1 c1 a2 n2 c2 a3 n3 c3 a4 n4 c4 a5 n5 c5 a6 n6 c6 a7 n7 c7 a8 n8 c8 a9 n9 c9 W h hl hx k3 hn b
  rw [if_neg k3]
  by_cases k4 : x.kind = 4
  · rw [if_pos k4]
    cases b : anyB nameB x.names with
    | false => exact own_4f x a1 n1 c1 a2 n2 c2 a3 n3 c3 a4 n4 c4 a5 n5 c5 a6 n6 c6 a7 n7 c7 a8 n8 c8 a9 n9 c9 W h hl hx k4 hn b
    | true => exact own_4t x a1 n1 c1 a2 n2 c2 a3 n3 c3 a4 n4 c4 a5 n5 c5 a6 n6 c6 a7 n7 c7 a8 n8 c8 a9 n9 c9 W h hl hx k4 hn b
  rw [if_neg k4]
  by_cases k5 : x.kind = 5
  · rw [if_pos k5]
    cases b0 : allB 64 nameB x.names with
    | false => exact own_50 x a1 n1 c1 a2 n2 c2 a3 n3 c3 a4 n4 c4 a5 n5 c5 a6 n6 c6 a7 n7 c7 a8 n8 c8 a9 n9 c9 W h hl hx k5 hn b0
    | true =>
    cases b1 : allB 1 rowB x.rows with
    | false => exact own_51 x a1 n1 c1 a2 n2 c2 a3 n3 c3 a4 n4 c4 a5 n5 c5 a6 n6 c6 a7 n7 c7 a8 n8 c8 a9 n9 c9 W h hl hx k5 hn b0 b1
    | true =>
    cases b2 : ((x.rows.headD []).length == x.names.length) with
    | false => exact own_52 x a1 n1 c1 a2 n2 c2 a3 n3 c3 a4 n4 c4 a5 n5 c5 a6 n6 c6 a7 n7 c7 a8 n8 c8 a9 n9 c9 W h hl hx k5 hn b0 b1 b2
    | true =>
    cases b3 : optE x.cond with
    | false => exact own_53 x a1 n1 c1 a2 n2 c2 a3 n3 c3 a4 n4 c4 a5 n5 c5 a6 n6 c6 a7 n7 c7 a8 n8 c8 a9 n9 c9 W h hl hx k5 hn b0 b1 b2 b3
    | true => exact own_54 x a1 n1 c1 a2 n2 c2 a3 n3 c3 a4 n4 c4 a5 n5 c5 a6 n6 c6 a7 n7 c7 a8 n8 c8 a9 n9 c9 W h hl hx k5 hn b0 b1 b2 b3
  rw [if_neg k5]
  by_cases k6 : x.kind = 6
  · rw [if_pos k6]; exact own_6 x a1 n1 c1 a2 n2 c2 a3 n3 c3 a4 n4 c4 a5 n5 c5 a6 n6 c6 a7 n7 c7 a8 n8 c8 a9 n9 c9 W h hl hx k6 hn
  rw [if_neg k6]
  by_cases k0 : x.kind = 0
  · exact own_0 x a1 n1 c1 a2 n2 c2 a3 n3 c3 a4 n4 c4 a5 n5 c5 a6 n6 c6 a7 n7 c7 a8 n8 c8 a9 n9 c9 W h hl hx k0 hn
  · exact own_8 x a1 n1 c1 a2 n2 c2 a3 n3 c3 a4 n4 c4 a5 n5 c5 a6 n6 c6 a7 n7 c7 a8 n8 c8 a9 n9 c9 W h hl hx (by omega) hn
set_option maxRecDepth 100000 in
set_option maxHeartbeats 8000000 in
theorem check_may (x : StM) (v1 v2 v3 v4 v5 v6 v7 v8 v9 : Value) (W : World) (h : StHeld (fun _ => True) W x v1 v2 v3 v4 v5 v6 v7 v8 v9) (hx : x.all Sh) :
    Calls Tryz.prog 13 #[.agg (stArr x v1 v2 v3 v4 v5 v6 v7 v8 v9)] W fun e w' => e = .returned (.bool (checkB x)) ∧ Below W.heap.size W w' := by
  obtain ⟨a1, n1, c1, a2, n2, c2, a3, n3, c3, a4, n4, c4, a5, n5, c5, a6, n6, c6, a7, n7, c7, a8, n8, c8, a9, n9, c9, ⟨rfl, rfl, rfl, rfl, rfl, rfl, rfl, rfl, rfl⟩, hl⟩ := h.lens
  have HH := Lib.hid h
  have HBK0 : Hid ((W.alloc (.cells (xA x a1 n1 c1 a2 n2 c2 a3 n3 c3 a4 n4 c4 a5 n5 c5 a6 n6 c6 a7 n7 c7 a8 n8 c8 a9 n9 c9) 39)).heap[W.heap.size]? = some (.cells (xA x a1 n1 c1 a2 n2 c2 a3 n3 c3 a4 n4 c4 a5 n5 c5 a6 n6 c6 a7 n7 c7 a8 n8 c8 a9 n9 c9) 39 (0, 0))) := Lib.hid (heap_alloc_new W _)
  have HB0 : Hid (Below W.heap.size W (W.alloc (.cells (xA x a1 n1 c1 a2 n2 c2 a3 n3 c3 a4 n4 c4 a5 n5 c5 a6 n6 c6 a7 n7 c7 a8 n8 c8 a9 n9 c9) 39))) := Lib.hid (below_alloc W _)
  have HL := Lib.hid hl
  have hC := own_may x a1 n1 c1 a2 n2 c2 a3 n3 c3 a4 n4 c4 a5 n5 c5 a6 n6 c6 a7 n7 c7 a8 n8 c8 a9 n9 c9 (W.alloc (.cells (xA x a1 n1 c1 a2 n2 c2 a3 n3 c3 a4 n4 c4 a5 n5 c5 a6 n6 c6 a7 n7 c7 a8 n8 c8 a9 n9 c9) 39)) (HH.out.kept HB0.out.size (fun k _ hk => HB0.out.block k hk)) hl hx
  unfold checkB
  clear h hl hx
  unfold stArr
  go_enter Tryz.func13, Tryz.ntmps13
  go_wp2_with (refine wpList_load_row rfl 39 _ rfl W.heap.size rfl _ (xA x a1 n1 c1 a2 n2 c2 a3 n3 c3 a4 n4 c4 a5 n5 c5 a6 n6 c6 a7 n7 c7 a8 n8 c8 a9 n9 c9) (0, 0) _ HBK0.out Tryz.underlying39 rfl (by kernel_rfl) ?_)
  refine hC.mono ?_
  rintro e w1 ⟨rfl, hb⟩
  have HB1 := Lib.hid (HB0.out.trans (hb.mono HB0.out.size))
  have HBK1 : Hid (w1.heap[W.heap.size]? = some (.cells (xA x a1 n1 c1 a2 n2 c2 a3 n3 c3 a4 n4 c4 a5 n5 c5 a6 n6 c6 a7 n7 c7 a8 n8 c8 a9 n9 c9) 39 (0, 0))) := Lib.hid ((hb.block W.heap.size (bk_lt HBK0.out)).trans HBK0.out)
  clear hb hC
  cases hb0 : ownB x with
  | false =>
    go_wp2_with fail
    go_ret
    exact ⟨by rw [hb0]; rfl, HB1.out⟩
  | true =>
    have hR := restS_any x a1 n1 c1 a2 n2 c2 a3 n3 c3 a4 n4 c4 a5 n5 c5 a6 n6 c6 a7 n7 c7 a8 n8 c8 a9 n9 c9 HL.out w1
    unfold RestS stArr at hR
    go_wp2_with (refine wpListG_load_row rfl 39 _ rfl W.heap.size rfl _ (xA x a1 n1 c1 a2 n2 c2 a3 n3 c3 a4 n4 c4 a5 n5 c5 a6 n6 c6 a7 n7 c7 a8 n8 c8 a9 n9 c9) (0, 0) _ HBK1.out Tryz.underlying39 rfl (by kernel_rfl) ?_)
    refine hR.mono ?_
    rintro e w2 ⟨y, d1, m1, e1, d2, m2, e2, d3, m3, e3, d4, m4, e4, d5, m5, e5, d6, m6, e6, d7, m7, e7, d8, m8, e8, d9, m9, e9, rfl, hl2, hy, hb⟩
    have HB2 := Lib.hid (HB1.out.trans (hb.mono HB1.out.size))
    have hN := noStmt_tr y d1 m1 e1 d2 m2 e2 d3 m3 e3 d4 m4 e4 d5 m5 e5 d6 m6 e6 d7 m7 e7 d8 m8 e8 d9 m9 e9 hl2 w2
    rw [show noneS y = noneS (restS x) by rw [hy]] at hN
    unfold stArr at hN
    clear hb hR hl2 hy
    go_wp2_with fail
    refine hN.mono ?_
    rintro e w3 ⟨rfl, hb⟩
    have HB3 := Lib.hid (HB2.out.trans (hb.mono HB2.out.size))
    clear hb hN
    go_wp2_with fail
    go_ret
    exact ⟨by rw [hb0]; rfl, HB3.out⟩
end
end Go.Proofs.YtenmnpbjnbdeaaaGreatDoor
