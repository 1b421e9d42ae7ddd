/-
  WHAT IS PROVED: the walk of ValuesTwo.
-/
import Derived.Test.YtjjfmmimmfihgaaDoorRefTwoB
namespace Go.Proofs.YtjjfmmimmfihgaaDoor
open Go.RowKit Go.Lib
set_option linter.unusedVariables false

set_option maxRecDepth 100000 in
set_option maxHeartbeats 8000000 in
theorem vtwo_long (ak : Nat) (akb : ak < 256) (ai : Int) (ai0 : -9223372036854775808 ≤ ai) (ai1 : ai ≤ 9223372036854775807) (az : ByteArray) (azb : az.size ≤ 140737488351232) (bk : Nat) (bkb : bk < 256) (bi : Int) (bi0 : -9223372036854775808 ≤ bi) (bi1 : bi ≤ 9223372036854775807) (bz : ByteArray) (bzb : bz.size ≤ 140737488351232) (op : Nat) (hop : op < 256) (hbig : decide ((20000 : Int) < (az.size : Int) + (bz.size : Int)) = true) (w : World) (hw : Wd w) :
    Calls Tryd.prog 3 #[.int .u8 (op : Int), .agg #[.int .u8 (ak : Int), .int .i64 ai, .string az], .agg #[.int .u8 (bk : Int), .int .i64 bi, .string bz]] w fun e w' => e = .returned (.bool true) ∧ Below w.heap.size w w' := by
  obtain ⟨w0, hW⟩ : ∃ w0, w0 = ((w.alloc (.cells #[.int .u8 (ak : Int), .int .i64 ai, .string az] 25)).alloc (.cells #[.int .u8 (bk : Int), .int .i64 bi, .string bz] 25)) := ⟨_, rfl⟩
  have H0 : Hid (Fam w [(w.heap.size + 1, .cells #[.int .u8 (bk : Int), .int .i64 bi, .string bz] 25 (0, 0)), (w.heap.size, .cells #[.int .u8 (ak : Int), .int .i64 ai, .string az] 25 (0, 0))] w0) := Lib.hid (by rw [hW]; exact fam_n2 ..)
  have HW : Hid (∀ x, Below w.heap.size w x → Wd x) := Lib.hid (fun _ h => hw.kept h)
  clear hw
  go_enter Tryd.func3, Tryd.ntmps3
  go_wp2_with fail
  rw [← hW]
  rw [show w.heap.size + 1 + 1 = w0.heap.size by rw [hW]; simp]
  clear hW
  refine (long2_new _ _ _ _ az bz azb bzb _ true hbig).mono ?_
  rintro e w1 ⟨rfl, hb⟩
  have H1 := Lib.hid (H0.out.kept hb)
  clear hb 
  go_wp2_with fail
  go_ret
  exact ⟨rfl, H1.out.below⟩
set_option maxRecDepth 100000 in
set_option maxHeartbeats 8000000 in
theorem vtwo_body (ak : Nat) (akb : ak < 256) (ai : Int) (ai0 : -9223372036854775808 ≤ ai) (ai1 : ai ≤ 9223372036854775807) (az : ByteArray) (azb : az.size ≤ 140737488351232) (bk : Nat) (bkb : bk < 256) (bi : Int) (bi0 : -9223372036854775808 ≤ bi) (bi1 : bi ≤ 9223372036854775807) (bz : ByteArray) (bzb : bz.size ≤ 140737488351232) (op : Nat) (hop : op < 256) (hbig : decide ((20000 : Int) < (az.size : Int) + (bz.size : Int)) = false) (r : Val × Nat) (hr : Val.two op ⟨ak, ai, az⟩ ⟨bk, bi, bz⟩ = r) (w : World) (hw : Wd w) :
    Calls Tryd.prog 3 #[.int .u8 (op : Int), .agg #[.int .u8 (ak : Int), .int .i64 ai, .string az], .agg #[.int .u8 (bk : Int), .int .i64 bi, .string bz]] w fun e w' => e = .returned (.bool true) ∧ Below w.heap.size w w' := by
  have HR := Lib.hid hr
  clear hr
  obtain ⟨w0, hW⟩ : ∃ w0, w0 = ((w.alloc (.cells #[.int .u8 (ak : Int), .int .i64 ai, .string az] 25)).alloc (.cells #[.int .u8 (bk : Int), .int .i64 bi, .string bz] 25)) := ⟨_, rfl⟩
  have H0 : Hid (Fam w [(w.heap.size + 1, .cells #[.int .u8 (bk : Int), .int .i64 bi, .string bz] 25 (0, 0)), (w.heap.size, .cells #[.int .u8 (ak : Int), .int .i64 ai, .string az] 25 (0, 0))] w0) := Lib.hid (by rw [hW]; exact fam_n2 ..)
  have HW : Hid (∀ x, Below w.heap.size w x → Wd x) := Lib.hid (fun _ h => hw.kept h)
  clear hw
  go_enter Tryd.func3, Tryd.ntmps3
  go_wp2_with fail
  rw [← hW]
  rw [show w.heap.size + 1 + 1 = w0.heap.size by rw [hW]; simp]
  clear hW
  refine (long2_new _ _ _ _ az bz azb bzb _ false hbig).mono ?_
  rintro e w1 ⟨rfl, hb⟩
  have H1 := Lib.hid (H0.out.kept hb)
  clear hb 
  have f0_0 : w1.cell? ⟨w.heap.size + 1, 0, none⟩ = some (.int .u8 (bk : Int)) := H1.out.cell (b := w.heap.size + 1) (cs := #[.int .u8 (bk : Int), .int .i64 bi, .string bz]) (t := 25) (fr := (0, 0)) (List.mem_cons_self ..) 0
  have f0_1 : w1.cell? ⟨w.heap.size + 1, 1, none⟩ = some (.int .i64 bi) := H1.out.cell (b := w.heap.size + 1) (cs := #[.int .u8 (bk : Int), .int .i64 bi, .string bz]) (t := 25) (fr := (0, 0)) (List.mem_cons_self ..) 1
  have f0_2 : w1.cell? ⟨w.heap.size + 1, 2, none⟩ = some (.string bz) := H1.out.cell (b := w.heap.size + 1) (cs := #[.int .u8 (bk : Int), .int .i64 bi, .string bz]) (t := 25) (fr := (0, 0)) (List.mem_cons_self ..) 2
  have z0 : w.heap.size + 1 < w1.heap.size := lt_of_block (H1.out.get (b := w.heap.size + 1) (o := .cells #[.int .u8 (bk : Int), .int .i64 bi, .string bz] 25 (0, 0)) (List.mem_cons_self ..))
  have f1_0 : w1.cell? ⟨w.heap.size, 0, none⟩ = some (.int .u8 (ak : Int)) := H1.out.cell (b := w.heap.size) (cs := #[.int .u8 (ak : Int), .int .i64 ai, .string az]) (t := 25) (fr := (0, 0)) (List.mem_cons_of_mem _ (List.mem_cons_self ..)) 0
  have f1_1 : w1.cell? ⟨w.heap.size, 1, none⟩ = some (.int .i64 ai) := H1.out.cell (b := w.heap.size) (cs := #[.int .u8 (ak : Int), .int .i64 ai, .string az]) (t := 25) (fr := (0, 0)) (List.mem_cons_of_mem _ (List.mem_cons_self ..)) 1
  have f1_2 : w1.cell? ⟨w.heap.size, 2, none⟩ = some (.string az) := H1.out.cell (b := w.heap.size) (cs := #[.int .u8 (ak : Int), .int .i64 ai, .string az]) (t := 25) (fr := (0, 0)) (List.mem_cons_of_mem _ (List.mem_cons_self ..)) 2
  have z1 : w.heap.size < w1.heap.size := lt_of_block (H1.out.get (b := w.heap.size) (o := .cells #[.int .u8 (ak : Int), .int .i64 ai, .string az] 25 (0, 0)) (List.mem_cons_of_mem _ (List.mem_cons_self ..)))
  go_wp2_with fail
  refine (two_r op ak ai az bk bi bz r hop akb bkb ai0 ai1 bi0 bi1 HR.out _ (HW.out _ H1.out.below)).mono ?_
  rintro e w2 ⟨rfl, hb⟩
  have H2 := Lib.hid (H1.out.kept hb)
  clear f0_0 f0_1 f0_2 z0 f1_0 f1_1 f1_2 z1
  clear hb 
  have f0_0 : w2.cell? ⟨w.heap.size + 1, 0, none⟩ = some (.int .u8 (bk : Int)) := H2.out.cell (b := w.heap.size + 1) (cs := #[.int .u8 (bk : Int), .int .i64 bi, .string bz]) (t := 25) (fr := (0, 0)) (List.mem_cons_self ..) 0
  have f0_1 : w2.cell? ⟨w.heap.size + 1, 1, none⟩ = some (.int .i64 bi) := H2.out.cell (b := w.heap.size + 1) (cs := #[.int .u8 (bk : Int), .int .i64 bi, .string bz]) (t := 25) (fr := (0, 0)) (List.mem_cons_self ..) 1
  have f0_2 : w2.cell? ⟨w.heap.size + 1, 2, none⟩ = some (.string bz) := H2.out.cell (b := w.heap.size + 1) (cs := #[.int .u8 (bk : Int), .int .i64 bi, .string bz]) (t := 25) (fr := (0, 0)) (List.mem_cons_self ..) 2
  have z0 : w.heap.size + 1 < w2.heap.size := lt_of_block (H2.out.get (b := w.heap.size + 1) (o := .cells #[.int .u8 (bk : Int), .int .i64 bi, .string bz] 25 (0, 0)) (List.mem_cons_self ..))
  have f1_0 : w2.cell? ⟨w.heap.size, 0, none⟩ = some (.int .u8 (ak : Int)) := H2.out.cell (b := w.heap.size) (cs := #[.int .u8 (ak : Int), .int .i64 ai, .string az]) (t := 25) (fr := (0, 0)) (List.mem_cons_of_mem _ (List.mem_cons_self ..)) 0
  have f1_1 : w2.cell? ⟨w.heap.size, 1, none⟩ = some (.int .i64 ai) := H2.out.cell (b := w.heap.size) (cs := #[.int .u8 (ak : Int), .int .i64 ai, .string az]) (t := 25) (fr := (0, 0)) (List.mem_cons_of_mem _ (List.mem_cons_self ..)) 1
  have f1_2 : w2.cell? ⟨w.heap.size, 2, none⟩ = some (.string az) := H2.out.cell (b := w.heap.size) (cs := #[.int .u8 (ak : Int), .int .i64 ai, .string az]) (t := 25) (fr := (0, 0)) (List.mem_cons_of_mem _ (List.mem_cons_self ..)) 2
  have z1 : w.heap.size < w2.heap.size := lt_of_block (H2.out.get (b := w.heap.size) (o := .cells #[.int .u8 (ak : Int), .int .i64 ai, .string az] 25 (0, 0)) (List.mem_cons_of_mem _ (List.mem_cons_self ..)))
  go_wp2_with fail
  have HA0 := Lib.hid (H2.out.add (below_alloc w2 (.cells #[.int .u8 (r.1.k : Int), .int .i64 r.1.i, .string r.1.s] 25)) (Nat.le_refl _) (heap_alloc_new _ _))
  refine (rtwo_r op ak ai az bk bi bz r akb bkb ai0 ai1 bi0 bi1 HR.out _).mono ?_
  rintro e w3 ⟨rfl, hb⟩
  have H3 := Lib.hid (HA0.out.kept hb)
  clear f0_0 f0_1 f0_2 z0 f1_0 f1_1 f1_2 z1
  clear hb HA0
  have f0_0 : w3.cell? ⟨w2.heap.size, 0, none⟩ = some (.int .u8 (r.1.k : Int)) := H3.out.cell (b := w2.heap.size) (cs := #[.int .u8 (r.1.k : Int), .int .i64 r.1.i, .string r.1.s]) (t := 25) (fr := (0, 0)) (List.mem_cons_self ..) 0
  have f0_1 : w3.cell? ⟨w2.heap.size, 1, none⟩ = some (.int .i64 r.1.i) := H3.out.cell (b := w2.heap.size) (cs := #[.int .u8 (r.1.k : Int), .int .i64 r.1.i, .string r.1.s]) (t := 25) (fr := (0, 0)) (List.mem_cons_self ..) 1
  have f0_2 : w3.cell? ⟨w2.heap.size, 2, none⟩ = some (.string r.1.s) := H3.out.cell (b := w2.heap.size) (cs := #[.int .u8 (r.1.k : Int), .int .i64 r.1.i, .string r.1.s]) (t := 25) (fr := (0, 0)) (List.mem_cons_self ..) 2
  have z0 : w2.heap.size < w3.heap.size := lt_of_block (H3.out.get (b := w2.heap.size) (o := .cells #[.int .u8 (r.1.k : Int), .int .i64 r.1.i, .string r.1.s] 25 (0, 0)) (List.mem_cons_self ..))
  have f1_0 : w3.cell? ⟨w.heap.size + 1, 0, none⟩ = some (.int .u8 (bk : Int)) := H3.out.cell (b := w.heap.size + 1) (cs := #[.int .u8 (bk : Int), .int .i64 bi, .string bz]) (t := 25) (fr := (0, 0)) (List.mem_cons_of_mem _ (List.mem_cons_self ..)) 0
  have f1_1 : w3.cell? ⟨w.heap.size + 1, 1, none⟩ = some (.int .i64 bi) := H3.out.cell (b := w.heap.size + 1) (cs := #[.int .u8 (bk : Int), .int .i64 bi, .string bz]) (t := 25) (fr := (0, 0)) (List.mem_cons_of_mem _ (List.mem_cons_self ..)) 1
  have f1_2 : w3.cell? ⟨w.heap.size + 1, 2, none⟩ = some (.string bz) := H3.out.cell (b := w.heap.size + 1) (cs := #[.int .u8 (bk : Int), .int .i64 bi, .string bz]) (t := 25) (fr := (0, 0)) (List.mem_cons_of_mem _ (List.mem_cons_self ..)) 2
  have z1 : w.heap.size + 1 < w3.heap.size := lt_of_block (H3.out.get (b := w.heap.size + 1) (o := .cells #[.int .u8 (bk : Int), .int .i64 bi, .string bz] 25 (0, 0)) (List.mem_cons_of_mem _ (List.mem_cons_self ..)))
  have f2_0 : w3.cell? ⟨w.heap.size, 0, none⟩ = some (.int .u8 (ak : Int)) := H3.out.cell (b := w.heap.size) (cs := #[.int .u8 (ak : Int), .int .i64 ai, .string az]) (t := 25) (fr := (0, 0)) (List.mem_cons_of_mem _ (List.mem_cons_of_mem _ (List.mem_cons_self ..))) 0
  have f2_1 : w3.cell? ⟨w.heap.size, 1, none⟩ = some (.int .i64 ai) := H3.out.cell (b := w.heap.size) (cs := #[.int .u8 (ak : Int), .int .i64 ai, .string az]) (t := 25) (fr := (0, 0)) (List.mem_cons_of_mem _ (List.mem_cons_of_mem _ (List.mem_cons_self ..))) 1
  have f2_2 : w3.cell? ⟨w.heap.size, 2, none⟩ = some (.string az) := H3.out.cell (b := w.heap.size) (cs := #[.int .u8 (ak : Int), .int .i64 ai, .string az]) (t := 25) (fr := (0, 0)) (List.mem_cons_of_mem _ (List.mem_cons_of_mem _ (List.mem_cons_self ..))) 2
  have z2 : w.heap.size < w3.heap.size := lt_of_block (H3.out.get (b := w.heap.size) (o := .cells #[.int .u8 (ak : Int), .int .i64 ai, .string az] 25 (0, 0)) (List.mem_cons_of_mem _ (List.mem_cons_of_mem _ (List.mem_cons_self ..))))
  go_wp2_with fail
  go_ret
  exact ⟨rfl, (H3.out.below).alloc H3.out.below.size _⟩
theorem walk_ValuesTwo (op : Int) (hop : (Lit.int .u8 op).wf = true) (ak : Int) (ai : Int) (az : ByteArray) (hak : (Lit.int .u8 ak).wf = true) (hai : (Lit.int .i64 ai).wf = true) (haz : az.size ≤ 140737488351232) (bk : Int) (bi : Int) (bz : ByteArray) (hbk : (Lit.int .u8 bk).wf = true) (hbi : (Lit.int .i64 bi).wf = true) (hbz : bz.size ≤ 140737488351232) {w : World} (hw : Wd w) :
    Calls Tryd.prog 3 #[.int .u8 op, .agg #[.int .u8 ak, .int .i64 ai, .string az], .agg #[.int .u8 bk, .int .i64 bi, .string bz]] w fun e w' => e = .returned (.bool true) ∧ Below w.heap.size w w' := by
  have ko := wf_u8 hop
  have k0 := wf_u8 hak
  have k1 := wf_u8 hbk
  have i0 := wf_i64 hai
  have i1 := wf_i64 hbi
  obtain ⟨op, rfl⟩ := Int.eq_ofNat_of_zero_le ko.1
  obtain ⟨ak, rfl⟩ := Int.eq_ofNat_of_zero_le k0.1
  obtain ⟨bk, rfl⟩ := Int.eq_ofNat_of_zero_le k1.1
  cases hbig : decide ((20000 : Int) < (az.size : Int) + (bz.size : Int)) with
  | true => exact vtwo_long ak (by omega) ai i0.1 i0.2 az haz bk (by omega) bi i1.1 i1.2 bz hbz op (by omega) hbig w hw
  | false => exact vtwo_body ak (by omega) ai i0.1 i0.2 az haz bk (by omega) bi i1.1 i1.2 bz hbz op (by omega) hbig _ rfl w hw
end Go.Proofs.YtjjfmmimmfihgaaDoor
