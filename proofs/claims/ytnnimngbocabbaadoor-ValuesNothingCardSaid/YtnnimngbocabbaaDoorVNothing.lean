/-
  WHAT IS PROVED: the walk of ValuesNothing.
-/
import Derived.Test.YtnnimngbocabbaaDoorLawC
namespace Go.Proofs.YtnnimngbocabbaaDoor
open Go.RowKit Go.Lib
set_option linter.unusedVariables false

set_option maxRecDepth 100000 in
set_option maxHeartbeats 8000000 in
theorem nothing_long (ak : Nat) (akb : ak < 256) (ai : Int) (ai0 : -9223372036854775808 ≤ ai) (ai1 : ai ≤ 9223372036854775807) (az : ByteArray) (azb : az.size ≤ 140737488351232) (op : Nat) (hop : op < 256) (hbig : decide ((20000 : Int) < (az.size : Int)) = true) (w : World) (hw : Wd w) :
    Calls Tryd.prog 10 #[.agg #[.int .u8 (ak : Int), .int .i64 ai, .string az], .int .u8 (op : Int)] w fun e w' => e = .returned (.bool true) ∧ Below w.heap.size w w' := by
  obtain ⟨w0, hW⟩ : ∃ w0, w0 = (w.alloc (.cells #[.int .u8 (ak : Int), .int .i64 ai, .string az] 24)) := ⟨_, rfl⟩
  have H0 : Hid (Fam w [(w.heap.size, .cells #[.int .u8 (ak : Int), .int .i64 ai, .string az] 24 (0, 0))] w0) := Lib.hid (by rw [hW]; exact fam_n1 ..)
  have HW : Hid (∀ x, Below w.heap.size w x → Wd x) := Lib.hid (fun _ h => hw.kept h)
  clear hw
  go_enter Tryd.func10, Tryd.ntmps10
  go_wp2_with fail
  rw [← hW]
  clear hW
  refine (alive_yes _ (HW.out _ H0.out.below)).mono ?_
  rintro e w1 ⟨rfl, hb⟩
  have H1 := Lib.hid (H0.out.kept hb)
  clear hb 
  have f0_0 : w1.cell? ⟨w.heap.size, 0, none⟩ = some (.int .u8 (ak : Int)) := H1.out.cell (b := w.heap.size) (cs := #[.int .u8 (ak : Int), .int .i64 ai, .string az]) (t := 24) (fr := (0, 0)) (List.mem_cons_self ..) 0
  have f0_1 : w1.cell? ⟨w.heap.size, 1, none⟩ = some (.int .i64 ai) := H1.out.cell (b := w.heap.size) (cs := #[.int .u8 (ak : Int), .int .i64 ai, .string az]) (t := 24) (fr := (0, 0)) (List.mem_cons_self ..) 1
  have f0_2 : w1.cell? ⟨w.heap.size, 2, none⟩ = some (.string az) := H1.out.cell (b := w.heap.size) (cs := #[.int .u8 (ak : Int), .int .i64 ai, .string az]) (t := 24) (fr := (0, 0)) (List.mem_cons_self ..) 2
  have z0 : w.heap.size < w1.heap.size := lt_of_block (H1.out.get (b := w.heap.size) (o := .cells #[.int .u8 (ak : Int), .int .i64 ai, .string az] 24 (0, 0)) (List.mem_cons_self ..))
  go_wp2_with fail
  refine (long1_new _ _ az azb _ true hbig).mono ?_
  rintro e w2 ⟨rfl, hb⟩
  have H2 := Lib.hid (H1.out.kept hb)
  clear f0_0 f0_1 f0_2 z0
  clear hb 
  go_wp2_with fail
  refine (alive_yes _ (HW.out _ H2.out.below)).mono ?_
  rintro e w3 ⟨rfl, hb⟩
  have H3 := Lib.hid (H2.out.kept hb)
  clear hb 
  go_wp2_with fail
  go_ret
  exact ⟨rfl, H3.out.below⟩
set_option maxRecDepth 100000 in
set_option maxHeartbeats 8000000 in
theorem nothing_not (ak : Nat) (akb : ak < 256) (ai : Int) (ai0 : -9223372036854775808 ≤ ai) (ai1 : ai ≤ 9223372036854775807) (az : ByteArray) (azb : az.size ≤ 140737488351232) (op : Nat) (hop : op < 256) (hbig : decide ((20000 : Int) < (az.size : Int)) = false) (hfine : Val.fine ⟨ak, ai, az⟩ = false) (w : World) (hw : Wd w) :
    Calls Tryd.prog 10 #[.agg #[.int .u8 (ak : Int), .int .i64 ai, .string az], .int .u8 (op : Int)] w fun e w' => e = .returned (.bool true) ∧ Below w.heap.size w w' := by
  obtain ⟨w0, hW⟩ : ∃ w0, w0 = (w.alloc (.cells #[.int .u8 (ak : Int), .int .i64 ai, .string az] 24)) := ⟨_, rfl⟩
  have H0 : Hid (Fam w [(w.heap.size, .cells #[.int .u8 (ak : Int), .int .i64 ai, .string az] 24 (0, 0))] w0) := Lib.hid (by rw [hW]; exact fam_n1 ..)
  have HW : Hid (∀ x, Below w.heap.size w x → Wd x) := Lib.hid (fun _ h => hw.kept h)
  clear hw
  go_enter Tryd.func10, Tryd.ntmps10
  go_wp2_with fail
  rw [← hW]
  clear hW
  refine (alive_yes _ (HW.out _ H0.out.below)).mono ?_
  rintro e w1 ⟨rfl, hb⟩
  have H1 := Lib.hid (H0.out.kept hb)
  clear hb 
  have f0_0 : w1.cell? ⟨w.heap.size, 0, none⟩ = some (.int .u8 (ak : Int)) := H1.out.cell (b := w.heap.size) (cs := #[.int .u8 (ak : Int), .int .i64 ai, .string az]) (t := 24) (fr := (0, 0)) (List.mem_cons_self ..) 0
  have f0_1 : w1.cell? ⟨w.heap.size, 1, none⟩ = some (.int .i64 ai) := H1.out.cell (b := w.heap.size) (cs := #[.int .u8 (ak : Int), .int .i64 ai, .string az]) (t := 24) (fr := (0, 0)) (List.mem_cons_self ..) 1
  have f0_2 : w1.cell? ⟨w.heap.size, 2, none⟩ = some (.string az) := H1.out.cell (b := w.heap.size) (cs := #[.int .u8 (ak : Int), .int .i64 ai, .string az]) (t := 24) (fr := (0, 0)) (List.mem_cons_self ..) 2
  have z0 : w.heap.size < w1.heap.size := lt_of_block (H1.out.get (b := w.heap.size) (o := .cells #[.int .u8 (ak : Int), .int .i64 ai, .string az] 24 (0, 0)) (List.mem_cons_self ..))
  go_wp2_with fail
  refine (long1_new _ _ az azb _ false hbig).mono ?_
  rintro e w2 ⟨rfl, hb⟩
  have H2 := Lib.hid (H1.out.kept hb)
  clear f0_0 f0_1 f0_2 z0
  clear hb 
  have f0_0 : w2.cell? ⟨w.heap.size, 0, none⟩ = some (.int .u8 (ak : Int)) := H2.out.cell (b := w.heap.size) (cs := #[.int .u8 (ak : Int), .int .i64 ai, .string az]) (t := 24) (fr := (0, 0)) (List.mem_cons_self ..) 0
  have f0_1 : w2.cell? ⟨w.heap.size, 1, none⟩ = some (.int .i64 ai) := H2.out.cell (b := w.heap.size) (cs := #[.int .u8 (ak : Int), .int .i64 ai, .string az]) (t := 24) (fr := (0, 0)) (List.mem_cons_self ..) 1
  have f0_2 : w2.cell? ⟨w.heap.size, 2, none⟩ = some (.string az) := H2.out.cell (b := w.heap.size) (cs := #[.int .u8 (ak : Int), .int .i64 ai, .string az]) (t := 24) (fr := (0, 0)) (List.mem_cons_self ..) 2
  have z0 : w.heap.size < w2.heap.size := lt_of_block (H2.out.get (b := w.heap.size) (o := .cells #[.int .u8 (ak : Int), .int .i64 ai, .string az] 24 (0, 0)) (List.mem_cons_self ..))
  go_wp2_with fail
  refine (fine1_new ak ai az akb _ false hfine).mono ?_
  rintro e w3 ⟨rfl, hb⟩
  have H3 := Lib.hid (H2.out.kept hb)
  clear f0_0 f0_1 f0_2 z0
  clear hb 
  go_wp2_with fail
  refine (alive_yes _ (HW.out _ H3.out.below)).mono ?_
  rintro e w4 ⟨rfl, hb⟩
  have H4 := Lib.hid (H3.out.kept hb)
  clear hb 
  go_wp2_with fail
  go_ret
  exact ⟨rfl, H4.out.below⟩
set_option maxRecDepth 100000 in
set_option maxHeartbeats 8000000 in
theorem nothing_a (ak : Nat) (akb : ak < 256) (ai : Int) (ai0 : -9223372036854775808 ≤ ai) (ai1 : ai ≤ 9223372036854775807) (az : ByteArray) (azb : az.size ≤ 140737488351232) (op : Nat) (hop : op < 256) (hbig : decide ((20000 : Int) < (az.size : Int)) = false) (hfine : Val.fine ⟨ak, ai, az⟩ = true) (h1 : op < 5) (hr1 : Val.two op ⟨0, 0, ⟨#[]⟩⟩ ⟨ak, ai, az⟩ = (⟨0, 0, ⟨#[]⟩⟩, 1)) (hr2 : Val.two op ⟨ak, ai, az⟩ ⟨0, 0, ⟨#[]⟩⟩ = (⟨0, 0, ⟨#[]⟩⟩, 1)) (w : World) (hw : Wd w) :
    Calls Tryd.prog 10 #[.agg #[.int .u8 (ak : Int), .int .i64 ai, .string az], .int .u8 (op : Int)] w fun e w' => e = .returned (.bool true) ∧ Below w.heap.size w w' := by
  have HR1 := Lib.hid hr1
  have HR2 := Lib.hid hr2
  clear hr1 hr2
  obtain ⟨w0, hW⟩ : ∃ w0, w0 = (w.alloc (.cells #[.int .u8 (ak : Int), .int .i64 ai, .string az] 24)) := ⟨_, rfl⟩
  have H0 : Hid (Fam w [(w.heap.size, .cells #[.int .u8 (ak : Int), .int .i64 ai, .string az] 24 (0, 0))] w0) := Lib.hid (by rw [hW]; exact fam_n1 ..)
  have HW : Hid (∀ x, Below w.heap.size w x → Wd x) := Lib.hid (fun _ h => hw.kept h)
  clear hw
  go_enter Tryd.func10, Tryd.ntmps10
  go_wp2_with fail
  rw [← hW]
  clear hW
  refine (alive_yes _ (HW.out _ H0.out.below)).mono ?_
  rintro e w1 ⟨rfl, hb⟩
  have H1 := Lib.hid (H0.out.kept hb)
  clear hb 
  have f0_0 : w1.cell? ⟨w.heap.size, 0, none⟩ = some (.int .u8 (ak : Int)) := H1.out.cell (b := w.heap.size) (cs := #[.int .u8 (ak : Int), .int .i64 ai, .string az]) (t := 24) (fr := (0, 0)) (List.mem_cons_self ..) 0
  have f0_1 : w1.cell? ⟨w.heap.size, 1, none⟩ = some (.int .i64 ai) := H1.out.cell (b := w.heap.size) (cs := #[.int .u8 (ak : Int), .int .i64 ai, .string az]) (t := 24) (fr := (0, 0)) (List.mem_cons_self ..) 1
  have f0_2 : w1.cell? ⟨w.heap.size, 2, none⟩ = some (.string az) := H1.out.cell (b := w.heap.size) (cs := #[.int .u8 (ak : Int), .int .i64 ai, .string az]) (t := 24) (fr := (0, 0)) (List.mem_cons_self ..) 2
  have z0 : w.heap.size < w1.heap.size := lt_of_block (H1.out.get (b := w.heap.size) (o := .cells #[.int .u8 (ak : Int), .int .i64 ai, .string az] 24 (0, 0)) (List.mem_cons_self ..))
  go_wp2_with fail
  refine (long1_new _ _ az azb _ false hbig).mono ?_
  rintro e w2 ⟨rfl, hb⟩
  have H2 := Lib.hid (H1.out.kept hb)
  clear f0_0 f0_1 f0_2 z0
  clear hb 
  have f0_0 : w2.cell? ⟨w.heap.size, 0, none⟩ = some (.int .u8 (ak : Int)) := H2.out.cell (b := w.heap.size) (cs := #[.int .u8 (ak : Int), .int .i64 ai, .string az]) (t := 24) (fr := (0, 0)) (List.mem_cons_self ..) 0
  have f0_1 : w2.cell? ⟨w.heap.size, 1, none⟩ = some (.int .i64 ai) := H2.out.cell (b := w.heap.size) (cs := #[.int .u8 (ak : Int), .int .i64 ai, .string az]) (t := 24) (fr := (0, 0)) (List.mem_cons_self ..) 1
  have f0_2 : w2.cell? ⟨w.heap.size, 2, none⟩ = some (.string az) := H2.out.cell (b := w.heap.size) (cs := #[.int .u8 (ak : Int), .int .i64 ai, .string az]) (t := 24) (fr := (0, 0)) (List.mem_cons_self ..) 2
  have z0 : w.heap.size < w2.heap.size := lt_of_block (H2.out.get (b := w.heap.size) (o := .cells #[.int .u8 (ak : Int), .int .i64 ai, .string az] 24 (0, 0)) (List.mem_cons_self ..))
  go_wp2_with fail
  refine (fine1_new ak ai az akb _ true hfine).mono ?_
  rintro e w3 ⟨rfl, hb⟩
  have H3 := Lib.hid (H2.out.kept hb)
  clear f0_0 f0_1 f0_2 z0
  clear hb 
  have f0_0 : w3.cell? ⟨w.heap.size, 0, none⟩ = some (.int .u8 (ak : Int)) := H3.out.cell (b := w.heap.size) (cs := #[.int .u8 (ak : Int), .int .i64 ai, .string az]) (t := 24) (fr := (0, 0)) (List.mem_cons_self ..) 0
  have f0_1 : w3.cell? ⟨w.heap.size, 1, none⟩ = some (.int .i64 ai) := H3.out.cell (b := w.heap.size) (cs := #[.int .u8 (ak : Int), .int .i64 ai, .string az]) (t := 24) (fr := (0, 0)) (List.mem_cons_self ..) 1
  have f0_2 : w3.cell? ⟨w.heap.size, 2, none⟩ = some (.string az) := H3.out.cell (b := w.heap.size) (cs := #[.int .u8 (ak : Int), .int .i64 ai, .string az]) (t := 24) (fr := (0, 0)) (List.mem_cons_self ..) 2
  have z0 : w.heap.size < w3.heap.size := lt_of_block (H3.out.get (b := w.heap.size) (o := .cells #[.int .u8 (ak : Int), .int .i64 ai, .string az] 24 (0, 0)) (List.mem_cons_self ..))
  go_wp2_with fail
  have HA0 := Lib.hid (H3.out.add (below_alloc w3 (.cells #[.int .u8 0, .int .i64 0, .string ⟨#[]⟩] 24)) (Nat.le_refl _) (heap_alloc_new _ _))
  refine (two_is op 0 0 ⟨#[]⟩ ak ai az 0 0 ⟨#[]⟩ 1 hop (by omega) akb (by omega) (by omega) ai0 ai1 HR1.out _ (HW.out _ HA0.out.below)).mono ?_
  rintro e w4 ⟨rfl, hb⟩
  have H4 := Lib.hid (HA0.out.kept hb)
  clear f0_0 f0_1 f0_2 z0
  clear hb HA0
  have f0_0 : w4.cell? ⟨w3.heap.size, 0, none⟩ = some (.int .u8 0) := H4.out.cell (b := w3.heap.size) (cs := #[.int .u8 0, .int .i64 0, .string ⟨#[]⟩]) (t := 24) (fr := (0, 0)) (List.mem_cons_self ..) 0
  have f0_1 : w4.cell? ⟨w3.heap.size, 1, none⟩ = some (.int .i64 0) := H4.out.cell (b := w3.heap.size) (cs := #[.int .u8 0, .int .i64 0, .string ⟨#[]⟩]) (t := 24) (fr := (0, 0)) (List.mem_cons_self ..) 1
  have f0_2 : w4.cell? ⟨w3.heap.size, 2, none⟩ = some (.string ⟨#[]⟩) := H4.out.cell (b := w3.heap.size) (cs := #[.int .u8 0, .int .i64 0, .string ⟨#[]⟩]) (t := 24) (fr := (0, 0)) (List.mem_cons_self ..) 2
  have z0 : w3.heap.size < w4.heap.size := lt_of_block (H4.out.get (b := w3.heap.size) (o := .cells #[.int .u8 0, .int .i64 0, .string ⟨#[]⟩] 24 (0, 0)) (List.mem_cons_self ..))
  have f1_0 : w4.cell? ⟨w.heap.size, 0, none⟩ = some (.int .u8 (ak : Int)) := H4.out.cell (b := w.heap.size) (cs := #[.int .u8 (ak : Int), .int .i64 ai, .string az]) (t := 24) (fr := (0, 0)) (List.mem_cons_of_mem _ (List.mem_cons_self ..)) 0
  have f1_1 : w4.cell? ⟨w.heap.size, 1, none⟩ = some (.int .i64 ai) := H4.out.cell (b := w.heap.size) (cs := #[.int .u8 (ak : Int), .int .i64 ai, .string az]) (t := 24) (fr := (0, 0)) (List.mem_cons_of_mem _ (List.mem_cons_self ..)) 1
  have f1_2 : w4.cell? ⟨w.heap.size, 2, none⟩ = some (.string az) := H4.out.cell (b := w.heap.size) (cs := #[.int .u8 (ak : Int), .int .i64 ai, .string az]) (t := 24) (fr := (0, 0)) (List.mem_cons_of_mem _ (List.mem_cons_self ..)) 2
  have z1 : w.heap.size < w4.heap.size := lt_of_block (H4.out.get (b := w.heap.size) (o := .cells #[.int .u8 (ak : Int), .int .i64 ai, .string az] 24 (0, 0)) (List.mem_cons_of_mem _ (List.mem_cons_self ..)))
  go_wp2_with fail
  have HA0 := Lib.hid (H4.out.add (below_alloc w4 (.cells #[.int .u8 0, .int .i64 0, .string ⟨#[]⟩] 24)) (Nat.le_refl _) (heap_alloc_new _ _))
  refine (two_is op ak ai az 0 0 ⟨#[]⟩ 0 0 ⟨#[]⟩ 1 hop akb (by omega) ai0 ai1 (by omega) (by omega) HR2.out _ (HW.out _ HA0.out.below)).mono ?_
  rintro e w5 ⟨rfl, hb⟩
  have H5 := Lib.hid (HA0.out.kept hb)
  clear f0_0 f0_1 f0_2 z0 f1_0 f1_1 f1_2 z1
  clear hb HA0
  have f0_0 : w5.cell? ⟨w4.heap.size, 0, none⟩ = some (.int .u8 0) := H5.out.cell (b := w4.heap.size) (cs := #[.int .u8 0, .int .i64 0, .string ⟨#[]⟩]) (t := 24) (fr := (0, 0)) (List.mem_cons_self ..) 0
  have f0_1 : w5.cell? ⟨w4.heap.size, 1, none⟩ = some (.int .i64 0) := H5.out.cell (b := w4.heap.size) (cs := #[.int .u8 0, .int .i64 0, .string ⟨#[]⟩]) (t := 24) (fr := (0, 0)) (List.mem_cons_self ..) 1
  have f0_2 : w5.cell? ⟨w4.heap.size, 2, none⟩ = some (.string ⟨#[]⟩) := H5.out.cell (b := w4.heap.size) (cs := #[.int .u8 0, .int .i64 0, .string ⟨#[]⟩]) (t := 24) (fr := (0, 0)) (List.mem_cons_self ..) 2
  have z0 : w4.heap.size < w5.heap.size := lt_of_block (H5.out.get (b := w4.heap.size) (o := .cells #[.int .u8 0, .int .i64 0, .string ⟨#[]⟩] 24 (0, 0)) (List.mem_cons_self ..))
  have f1_0 : w5.cell? ⟨w3.heap.size, 0, none⟩ = some (.int .u8 0) := H5.out.cell (b := w3.heap.size) (cs := #[.int .u8 0, .int .i64 0, .string ⟨#[]⟩]) (t := 24) (fr := (0, 0)) (List.mem_cons_of_mem _ (List.mem_cons_self ..)) 0
  have f1_1 : w5.cell? ⟨w3.heap.size, 1, none⟩ = some (.int .i64 0) := H5.out.cell (b := w3.heap.size) (cs := #[.int .u8 0, .int .i64 0, .string ⟨#[]⟩]) (t := 24) (fr := (0, 0)) (List.mem_cons_of_mem _ (List.mem_cons_self ..)) 1
  have f1_2 : w5.cell? ⟨w3.heap.size, 2, none⟩ = some (.string ⟨#[]⟩) := H5.out.cell (b := w3.heap.size) (cs := #[.int .u8 0, .int .i64 0, .string ⟨#[]⟩]) (t := 24) (fr := (0, 0)) (List.mem_cons_of_mem _ (List.mem_cons_self ..)) 2
  have z1 : w3.heap.size < w5.heap.size := lt_of_block (H5.out.get (b := w3.heap.size) (o := .cells #[.int .u8 0, .int .i64 0, .string ⟨#[]⟩] 24 (0, 0)) (List.mem_cons_of_mem _ (List.mem_cons_self ..)))
  have f2_0 : w5.cell? ⟨w.heap.size, 0, none⟩ = some (.int .u8 (ak : Int)) := H5.out.cell (b := w.heap.size) (cs := #[.int .u8 (ak : Int), .int .i64 ai, .string az]) (t := 24) (fr := (0, 0)) (List.mem_cons_of_mem _ (List.mem_cons_of_mem _ (List.mem_cons_self ..))) 0
  have f2_1 : w5.cell? ⟨w.heap.size, 1, none⟩ = some (.int .i64 ai) := H5.out.cell (b := w.heap.size) (cs := #[.int .u8 (ak : Int), .int .i64 ai, .string az]) (t := 24) (fr := (0, 0)) (List.mem_cons_of_mem _ (List.mem_cons_of_mem _ (List.mem_cons_self ..))) 1
  have f2_2 : w5.cell? ⟨w.heap.size, 2, none⟩ = some (.string az) := H5.out.cell (b := w.heap.size) (cs := #[.int .u8 (ak : Int), .int .i64 ai, .string az]) (t := 24) (fr := (0, 0)) (List.mem_cons_of_mem _ (List.mem_cons_of_mem _ (List.mem_cons_self ..))) 2
  have z2 : w.heap.size < w5.heap.size := lt_of_block (H5.out.get (b := w.heap.size) (o := .cells #[.int .u8 (ak : Int), .int .i64 ai, .string az] 24 (0, 0)) (List.mem_cons_of_mem _ (List.mem_cons_of_mem _ (List.mem_cons_self ..))))
  go_wp2_with fail
  go_ret
  exact ⟨ret_bool (by first | rfl | (simp; omega)), (H5.out.below).alloc H5.out.below.size _⟩
set_option maxRecDepth 100000 in
set_option maxHeartbeats 8000000 in
theorem nothing_b (ak : Nat) (akb : ak < 256) (ai : Int) (ai0 : -9223372036854775808 ≤ ai) (ai1 : ai ≤ 9223372036854775807) (az : ByteArray) (azb : az.size ≤ 140737488351232) (op : Nat) (hop : op < 256) (hbig : decide ((20000 : Int) < (az.size : Int)) = false) (hfine : Val.fine ⟨ak, ai, az⟩ = true) (h1 : 18 < op) (hr1 : Val.two op ⟨0, 0, ⟨#[]⟩⟩ ⟨ak, ai, az⟩ = (⟨0, 0, ⟨#[]⟩⟩, 1)) (hr2 : Val.two op ⟨ak, ai, az⟩ ⟨0, 0, ⟨#[]⟩⟩ = (⟨0, 0, ⟨#[]⟩⟩, 1)) (w : World) (hw : Wd w) :
    Calls Tryd.prog 10 #[.agg #[.int .u8 (ak : Int), .int .i64 ai, .string az], .int .u8 (op : Int)] w fun e w' => e = .returned (.bool true) ∧ Below w.heap.size w w' := by
  have HR1 := Lib.hid hr1
  have HR2 := Lib.hid hr2
  clear hr1 hr2
  obtain ⟨w0, hW⟩ : ∃ w0, w0 = (w.alloc (.cells #[.int .u8 (ak : Int), .int .i64 ai, .string az] 24)) := ⟨_, rfl⟩
  have H0 : Hid (Fam w [(w.heap.size, .cells #[.int .u8 (ak : Int), .int .i64 ai, .string az] 24 (0, 0))] w0) := Lib.hid (by rw [hW]; exact fam_n1 ..)
  have HW : Hid (∀ x, Below w.heap.size w x → Wd x) := Lib.hid (fun _ h => hw.kept h)
  clear hw
  go_enter Tryd.func10, Tryd.ntmps10
  go_wp2_with fail
  rw [← hW]
  clear hW
  refine (alive_yes _ (HW.out _ H0.out.below)).mono ?_
  rintro e w1 ⟨rfl, hb⟩
  have H1 := Lib.hid (H0.out.kept hb)
  clear hb 
  have f0_0 : w1.cell? ⟨w.heap.size, 0, none⟩ = some (.int .u8 (ak : Int)) := H1.out.cell (b := w.heap.size) (cs := #[.int .u8 (ak : Int), .int .i64 ai, .string az]) (t := 24) (fr := (0, 0)) (List.mem_cons_self ..) 0
  have f0_1 : w1.cell? ⟨w.heap.size, 1, none⟩ = some (.int .i64 ai) := H1.out.cell (b := w.heap.size) (cs := #[.int .u8 (ak : Int), .int .i64 ai, .string az]) (t := 24) (fr := (0, 0)) (List.mem_cons_self ..) 1
  have f0_2 : w1.cell? ⟨w.heap.size, 2, none⟩ = some (.string az) := H1.out.cell (b := w.heap.size) (cs := #[.int .u8 (ak : Int), .int .i64 ai, .string az]) (t := 24) (fr := (0, 0)) (List.mem_cons_self ..) 2
  have z0 : w.heap.size < w1.heap.size := lt_of_block (H1.out.get (b := w.heap.size) (o := .cells #[.int .u8 (ak : Int), .int .i64 ai, .string az] 24 (0, 0)) (List.mem_cons_self ..))
  go_wp2_with fail
  refine (long1_new _ _ az azb _ false hbig).mono ?_
  rintro e w2 ⟨rfl, hb⟩
  have H2 := Lib.hid (H1.out.kept hb)
  clear f0_0 f0_1 f0_2 z0
  clear hb 
  have f0_0 : w2.cell? ⟨w.heap.size, 0, none⟩ = some (.int .u8 (ak : Int)) := H2.out.cell (b := w.heap.size) (cs := #[.int .u8 (ak : Int), .int .i64 ai, .string az]) (t := 24) (fr := (0, 0)) (List.mem_cons_self ..) 0
  have f0_1 : w2.cell? ⟨w.heap.size, 1, none⟩ = some (.int .i64 ai) := H2.out.cell (b := w.heap.size) (cs := #[.int .u8 (ak : Int), .int .i64 ai, .string az]) (t := 24) (fr := (0, 0)) (List.mem_cons_self ..) 1
  have f0_2 : w2.cell? ⟨w.heap.size, 2, none⟩ = some (.string az) := H2.out.cell (b := w.heap.size) (cs := #[.int .u8 (ak : Int), .int .i64 ai, .string az]) (t := 24) (fr := (0, 0)) (List.mem_cons_self ..) 2
  have z0 : w.heap.size < w2.heap.size := lt_of_block (H2.out.get (b := w.heap.size) (o := .cells #[.int .u8 (ak : Int), .int .i64 ai, .string az] 24 (0, 0)) (List.mem_cons_self ..))
  go_wp2_with fail
  refine (fine1_new ak ai az akb _ true hfine).mono ?_
  rintro e w3 ⟨rfl, hb⟩
  have H3 := Lib.hid (H2.out.kept hb)
  clear f0_0 f0_1 f0_2 z0
  clear hb 
  have f0_0 : w3.cell? ⟨w.heap.size, 0, none⟩ = some (.int .u8 (ak : Int)) := H3.out.cell (b := w.heap.size) (cs := #[.int .u8 (ak : Int), .int .i64 ai, .string az]) (t := 24) (fr := (0, 0)) (List.mem_cons_self ..) 0
  have f0_1 : w3.cell? ⟨w.heap.size, 1, none⟩ = some (.int .i64 ai) := H3.out.cell (b := w.heap.size) (cs := #[.int .u8 (ak : Int), .int .i64 ai, .string az]) (t := 24) (fr := (0, 0)) (List.mem_cons_self ..) 1
  have f0_2 : w3.cell? ⟨w.heap.size, 2, none⟩ = some (.string az) := H3.out.cell (b := w.heap.size) (cs := #[.int .u8 (ak : Int), .int .i64 ai, .string az]) (t := 24) (fr := (0, 0)) (List.mem_cons_self ..) 2
  have z0 : w.heap.size < w3.heap.size := lt_of_block (H3.out.get (b := w.heap.size) (o := .cells #[.int .u8 (ak : Int), .int .i64 ai, .string az] 24 (0, 0)) (List.mem_cons_self ..))
  go_wp2_with fail
  have HA0 := Lib.hid (H3.out.add (below_alloc w3 (.cells #[.int .u8 0, .int .i64 0, .string ⟨#[]⟩] 24)) (Nat.le_refl _) (heap_alloc_new _ _))
  refine (two_is op 0 0 ⟨#[]⟩ ak ai az 0 0 ⟨#[]⟩ 1 hop (by omega) akb (by omega) (by omega) ai0 ai1 HR1.out _ (HW.out _ HA0.out.below)).mono ?_
  rintro e w4 ⟨rfl, hb⟩
  have H4 := Lib.hid (HA0.out.kept hb)
  clear f0_0 f0_1 f0_2 z0
  clear hb HA0
  have f0_0 : w4.cell? ⟨w3.heap.size, 0, none⟩ = some (.int .u8 0) := H4.out.cell (b := w3.heap.size) (cs := #[.int .u8 0, .int .i64 0, .string ⟨#[]⟩]) (t := 24) (fr := (0, 0)) (List.mem_cons_self ..) 0
  have f0_1 : w4.cell? ⟨w3.heap.size, 1, none⟩ = some (.int .i64 0) := H4.out.cell (b := w3.heap.size) (cs := #[.int .u8 0, .int .i64 0, .string ⟨#[]⟩]) (t := 24) (fr := (0, 0)) (List.mem_cons_self ..) 1
  have f0_2 : w4.cell? ⟨w3.heap.size, 2, none⟩ = some (.string ⟨#[]⟩) := H4.out.cell (b := w3.heap.size) (cs := #[.int .u8 0, .int .i64 0, .string ⟨#[]⟩]) (t := 24) (fr := (0, 0)) (List.mem_cons_self ..) 2
  have z0 : w3.heap.size < w4.heap.size := lt_of_block (H4.out.get (b := w3.heap.size) (o := .cells #[.int .u8 0, .int .i64 0, .string ⟨#[]⟩] 24 (0, 0)) (List.mem_cons_self ..))
  have f1_0 : w4.cell? ⟨w.heap.size, 0, none⟩ = some (.int .u8 (ak : Int)) := H4.out.cell (b := w.heap.size) (cs := #[.int .u8 (ak : Int), .int .i64 ai, .string az]) (t := 24) (fr := (0, 0)) (List.mem_cons_of_mem _ (List.mem_cons_self ..)) 0
  have f1_1 : w4.cell? ⟨w.heap.size, 1, none⟩ = some (.int .i64 ai) := H4.out.cell (b := w.heap.size) (cs := #[.int .u8 (ak : Int), .int .i64 ai, .string az]) (t := 24) (fr := (0, 0)) (List.mem_cons_of_mem _ (List.mem_cons_self ..)) 1
  have f1_2 : w4.cell? ⟨w.heap.size, 2, none⟩ = some (.string az) := H4.out.cell (b := w.heap.size) (cs := #[.int .u8 (ak : Int), .int .i64 ai, .string az]) (t := 24) (fr := (0, 0)) (List.mem_cons_of_mem _ (List.mem_cons_self ..)) 2
  have z1 : w.heap.size < w4.heap.size := lt_of_block (H4.out.get (b := w.heap.size) (o := .cells #[.int .u8 (ak : Int), .int .i64 ai, .string az] 24 (0, 0)) (List.mem_cons_of_mem _ (List.mem_cons_self ..)))
  go_wp2_with fail
  have HA0 := Lib.hid (H4.out.add (below_alloc w4 (.cells #[.int .u8 0, .int .i64 0, .string ⟨#[]⟩] 24)) (Nat.le_refl _) (heap_alloc_new _ _))
  refine (two_is op ak ai az 0 0 ⟨#[]⟩ 0 0 ⟨#[]⟩ 1 hop akb (by omega) ai0 ai1 (by omega) (by omega) HR2.out _ (HW.out _ HA0.out.below)).mono ?_
  rintro e w5 ⟨rfl, hb⟩
  have H5 := Lib.hid (HA0.out.kept hb)
  clear f0_0 f0_1 f0_2 z0 f1_0 f1_1 f1_2 z1
  clear hb HA0
  have f0_0 : w5.cell? ⟨w4.heap.size, 0, none⟩ = some (.int .u8 0) := H5.out.cell (b := w4.heap.size) (cs := #[.int .u8 0, .int .i64 0, .string ⟨#[]⟩]) (t := 24) (fr := (0, 0)) (List.mem_cons_self ..) 0
  have f0_1 : w5.cell? ⟨w4.heap.size, 1, none⟩ = some (.int .i64 0) := H5.out.cell (b := w4.heap.size) (cs := #[.int .u8 0, .int .i64 0, .string ⟨#[]⟩]) (t := 24) (fr := (0, 0)) (List.mem_cons_self ..) 1
  have f0_2 : w5.cell? ⟨w4.heap.size, 2, none⟩ = some (.string ⟨#[]⟩) := H5.out.cell (b := w4.heap.size) (cs := #[.int .u8 0, .int .i64 0, .string ⟨#[]⟩]) (t := 24) (fr := (0, 0)) (List.mem_cons_self ..) 2
  have z0 : w4.heap.size < w5.heap.size := lt_of_block (H5.out.get (b := w4.heap.size) (o := .cells #[.int .u8 0, .int .i64 0, .string ⟨#[]⟩] 24 (0, 0)) (List.mem_cons_self ..))
  have f1_0 : w5.cell? ⟨w3.heap.size, 0, none⟩ = some (.int .u8 0) := H5.out.cell (b := w3.heap.size) (cs := #[.int .u8 0, .int .i64 0, .string ⟨#[]⟩]) (t := 24) (fr := (0, 0)) (List.mem_cons_of_mem _ (List.mem_cons_self ..)) 0
  have f1_1 : w5.cell? ⟨w3.heap.size, 1, none⟩ = some (.int .i64 0) := H5.out.cell (b := w3.heap.size) (cs := #[.int .u8 0, .int .i64 0, .string ⟨#[]⟩]) (t := 24) (fr := (0, 0)) (List.mem_cons_of_mem _ (List.mem_cons_self ..)) 1
  have f1_2 : w5.cell? ⟨w3.heap.size, 2, none⟩ = some (.string ⟨#[]⟩) := H5.out.cell (b := w3.heap.size) (cs := #[.int .u8 0, .int .i64 0, .string ⟨#[]⟩]) (t := 24) (fr := (0, 0)) (List.mem_cons_of_mem _ (List.mem_cons_self ..)) 2
  have z1 : w3.heap.size < w5.heap.size := lt_of_block (H5.out.get (b := w3.heap.size) (o := .cells #[.int .u8 0, .int .i64 0, .string ⟨#[]⟩] 24 (0, 0)) (List.mem_cons_of_mem _ (List.mem_cons_self ..)))
  have f2_0 : w5.cell? ⟨w.heap.size, 0, none⟩ = some (.int .u8 (ak : Int)) := H5.out.cell (b := w.heap.size) (cs := #[.int .u8 (ak : Int), .int .i64 ai, .string az]) (t := 24) (fr := (0, 0)) (List.mem_cons_of_mem _ (List.mem_cons_of_mem _ (List.mem_cons_self ..))) 0
  have f2_1 : w5.cell? ⟨w.heap.size, 1, none⟩ = some (.int .i64 ai) := H5.out.cell (b := w.heap.size) (cs := #[.int .u8 (ak : Int), .int .i64 ai, .string az]) (t := 24) (fr := (0, 0)) (List.mem_cons_of_mem _ (List.mem_cons_of_mem _ (List.mem_cons_self ..))) 1
  have f2_2 : w5.cell? ⟨w.heap.size, 2, none⟩ = some (.string az) := H5.out.cell (b := w.heap.size) (cs := #[.int .u8 (ak : Int), .int .i64 ai, .string az]) (t := 24) (fr := (0, 0)) (List.mem_cons_of_mem _ (List.mem_cons_of_mem _ (List.mem_cons_self ..))) 2
  have z2 : w.heap.size < w5.heap.size := lt_of_block (H5.out.get (b := w.heap.size) (o := .cells #[.int .u8 (ak : Int), .int .i64 ai, .string az] 24 (0, 0)) (List.mem_cons_of_mem _ (List.mem_cons_of_mem _ (List.mem_cons_self ..))))
  go_wp2_with fail
  go_ret
  exact ⟨ret_bool (by first | rfl | (simp; omega)), (H5.out.below).alloc H5.out.below.size _⟩
set_option maxRecDepth 100000 in
set_option maxHeartbeats 8000000 in
theorem nothing_c (ak : Nat) (akb : ak < 256) (ai : Int) (ai0 : -9223372036854775808 ≤ ai) (ai1 : ai ≤ 9223372036854775807) (az : ByteArray) (azb : az.size ≤ 140737488351232) (op : Nat) (hop : op < 256) (hbig : decide ((20000 : Int) < (az.size : Int)) = false) (hfine : Val.fine ⟨ak, ai, az⟩ = true) (h1 : 5 ≤ op) (h2 : op < 17) (hr1 : Val.two op ⟨0, 0, ⟨#[]⟩⟩ ⟨ak, ai, az⟩ = (⟨0, 0, ⟨#[]⟩⟩, 0)) (hr2 : Val.two op ⟨ak, ai, az⟩ ⟨0, 0, ⟨#[]⟩⟩ = (⟨0, 0, ⟨#[]⟩⟩, 0)) (w : World) (hw : Wd w) :
    Calls Tryd.prog 10 #[.agg #[.int .u8 (ak : Int), .int .i64 ai, .string az], .int .u8 (op : Int)] w fun e w' => e = .returned (.bool true) ∧ Below w.heap.size w w' := by
  have HR1 := Lib.hid hr1
  have HR2 := Lib.hid hr2
  clear hr1 hr2
  obtain ⟨w0, hW⟩ : ∃ w0, w0 = (w.alloc (.cells #[.int .u8 (ak : Int), .int .i64 ai, .string az] 24)) := ⟨_, rfl⟩
  have H0 : Hid (Fam w [(w.heap.size, .cells #[.int .u8 (ak : Int), .int .i64 ai, .string az] 24 (0, 0))] w0) := Lib.hid (by rw [hW]; exact fam_n1 ..)
  have HW : Hid (∀ x, Below w.heap.size w x → Wd x) := Lib.hid (fun _ h => hw.kept h)
  clear hw
  go_enter Tryd.func10, Tryd.ntmps10
  go_wp2_with fail
  rw [← hW]
  clear hW
  refine (alive_yes _ (HW.out _ H0.out.below)).mono ?_
  rintro e w1 ⟨rfl, hb⟩
  have H1 := Lib.hid (H0.out.kept hb)
  clear hb 
  have f0_0 : w1.cell? ⟨w.heap.size, 0, none⟩ = some (.int .u8 (ak : Int)) := H1.out.cell (b := w.heap.size) (cs := #[.int .u8 (ak : Int), .int .i64 ai, .string az]) (t := 24) (fr := (0, 0)) (List.mem_cons_self ..) 0
  have f0_1 : w1.cell? ⟨w.heap.size, 1, none⟩ = some (.int .i64 ai) := H1.out.cell (b := w.heap.size) (cs := #[.int .u8 (ak : Int), .int .i64 ai, .string az]) (t := 24) (fr := (0, 0)) (List.mem_cons_self ..) 1
  have f0_2 : w1.cell? ⟨w.heap.size, 2, none⟩ = some (.string az) := H1.out.cell (b := w.heap.size) (cs := #[.int .u8 (ak : Int), .int .i64 ai, .string az]) (t := 24) (fr := (0, 0)) (List.mem_cons_self ..) 2
  have z0 : w.heap.size < w1.heap.size := lt_of_block (H1.out.get (b := w.heap.size) (o := .cells #[.int .u8 (ak : Int), .int .i64 ai, .string az] 24 (0, 0)) (List.mem_cons_self ..))
  go_wp2_with fail
  refine (long1_new _ _ az azb _ false hbig).mono ?_
  rintro e w2 ⟨rfl, hb⟩
  have H2 := Lib.hid (H1.out.kept hb)
  clear f0_0 f0_1 f0_2 z0
  clear hb 
  have f0_0 : w2.cell? ⟨w.heap.size, 0, none⟩ = some (.int .u8 (ak : Int)) := H2.out.cell (b := w.heap.size) (cs := #[.int .u8 (ak : Int), .int .i64 ai, .string az]) (t := 24) (fr := (0, 0)) (List.mem_cons_self ..) 0
  have f0_1 : w2.cell? ⟨w.heap.size, 1, none⟩ = some (.int .i64 ai) := H2.out.cell (b := w.heap.size) (cs := #[.int .u8 (ak : Int), .int .i64 ai, .string az]) (t := 24) (fr := (0, 0)) (List.mem_cons_self ..) 1
  have f0_2 : w2.cell? ⟨w.heap.size, 2, none⟩ = some (.string az) := H2.out.cell (b := w.heap.size) (cs := #[.int .u8 (ak : Int), .int .i64 ai, .string az]) (t := 24) (fr := (0, 0)) (List.mem_cons_self ..) 2
  have z0 : w.heap.size < w2.heap.size := lt_of_block (H2.out.get (b := w.heap.size) (o := .cells #[.int .u8 (ak : Int), .int .i64 ai, .string az] 24 (0, 0)) (List.mem_cons_self ..))
  go_wp2_with fail
  refine (fine1_new ak ai az akb _ true hfine).mono ?_
  rintro e w3 ⟨rfl, hb⟩
  have H3 := Lib.hid (H2.out.kept hb)
  clear f0_0 f0_1 f0_2 z0
  clear hb 
  have f0_0 : w3.cell? ⟨w.heap.size, 0, none⟩ = some (.int .u8 (ak : Int)) := H3.out.cell (b := w.heap.size) (cs := #[.int .u8 (ak : Int), .int .i64 ai, .string az]) (t := 24) (fr := (0, 0)) (List.mem_cons_self ..) 0
  have f0_1 : w3.cell? ⟨w.heap.size, 1, none⟩ = some (.int .i64 ai) := H3.out.cell (b := w.heap.size) (cs := #[.int .u8 (ak : Int), .int .i64 ai, .string az]) (t := 24) (fr := (0, 0)) (List.mem_cons_self ..) 1
  have f0_2 : w3.cell? ⟨w.heap.size, 2, none⟩ = some (.string az) := H3.out.cell (b := w.heap.size) (cs := #[.int .u8 (ak : Int), .int .i64 ai, .string az]) (t := 24) (fr := (0, 0)) (List.mem_cons_self ..) 2
  have z0 : w.heap.size < w3.heap.size := lt_of_block (H3.out.get (b := w.heap.size) (o := .cells #[.int .u8 (ak : Int), .int .i64 ai, .string az] 24 (0, 0)) (List.mem_cons_self ..))
  go_wp2_with fail
  have HA0 := Lib.hid (H3.out.add (below_alloc w3 (.cells #[.int .u8 0, .int .i64 0, .string ⟨#[]⟩] 24)) (Nat.le_refl _) (heap_alloc_new _ _))
  refine (two_is op 0 0 ⟨#[]⟩ ak ai az 0 0 ⟨#[]⟩ 0 hop (by omega) akb (by omega) (by omega) ai0 ai1 HR1.out _ (HW.out _ HA0.out.below)).mono ?_
  rintro e w4 ⟨rfl, hb⟩
  have H4 := Lib.hid (HA0.out.kept hb)
  clear f0_0 f0_1 f0_2 z0
  clear hb HA0
  have f0_0 : w4.cell? ⟨w3.heap.size, 0, none⟩ = some (.int .u8 0) := H4.out.cell (b := w3.heap.size) (cs := #[.int .u8 0, .int .i64 0, .string ⟨#[]⟩]) (t := 24) (fr := (0, 0)) (List.mem_cons_self ..) 0
  have f0_1 : w4.cell? ⟨w3.heap.size, 1, none⟩ = some (.int .i64 0) := H4.out.cell (b := w3.heap.size) (cs := #[.int .u8 0, .int .i64 0, .string ⟨#[]⟩]) (t := 24) (fr := (0, 0)) (List.mem_cons_self ..) 1
  have f0_2 : w4.cell? ⟨w3.heap.size, 2, none⟩ = some (.string ⟨#[]⟩) := H4.out.cell (b := w3.heap.size) (cs := #[.int .u8 0, .int .i64 0, .string ⟨#[]⟩]) (t := 24) (fr := (0, 0)) (List.mem_cons_self ..) 2
  have z0 : w3.heap.size < w4.heap.size := lt_of_block (H4.out.get (b := w3.heap.size) (o := .cells #[.int .u8 0, .int .i64 0, .string ⟨#[]⟩] 24 (0, 0)) (List.mem_cons_self ..))
  have f1_0 : w4.cell? ⟨w.heap.size, 0, none⟩ = some (.int .u8 (ak : Int)) := H4.out.cell (b := w.heap.size) (cs := #[.int .u8 (ak : Int), .int .i64 ai, .string az]) (t := 24) (fr := (0, 0)) (List.mem_cons_of_mem _ (List.mem_cons_self ..)) 0
  have f1_1 : w4.cell? ⟨w.heap.size, 1, none⟩ = some (.int .i64 ai) := H4.out.cell (b := w.heap.size) (cs := #[.int .u8 (ak : Int), .int .i64 ai, .string az]) (t := 24) (fr := (0, 0)) (List.mem_cons_of_mem _ (List.mem_cons_self ..)) 1
  have f1_2 : w4.cell? ⟨w.heap.size, 2, none⟩ = some (.string az) := H4.out.cell (b := w.heap.size) (cs := #[.int .u8 (ak : Int), .int .i64 ai, .string az]) (t := 24) (fr := (0, 0)) (List.mem_cons_of_mem _ (List.mem_cons_self ..)) 2
  have z1 : w.heap.size < w4.heap.size := lt_of_block (H4.out.get (b := w.heap.size) (o := .cells #[.int .u8 (ak : Int), .int .i64 ai, .string az] 24 (0, 0)) (List.mem_cons_of_mem _ (List.mem_cons_self ..)))
  go_wp2_with fail
  have HA0 := Lib.hid (H4.out.add (below_alloc w4 (.cells #[.int .u8 0, .int .i64 0, .string ⟨#[]⟩] 24)) (Nat.le_refl _) (heap_alloc_new _ _))
  refine (two_is op ak ai az 0 0 ⟨#[]⟩ 0 0 ⟨#[]⟩ 0 hop akb (by omega) ai0 ai1 (by omega) (by omega) HR2.out _ (HW.out _ HA0.out.below)).mono ?_
  rintro e w5 ⟨rfl, hb⟩
  have H5 := Lib.hid (HA0.out.kept hb)
  clear f0_0 f0_1 f0_2 z0 f1_0 f1_1 f1_2 z1
  clear hb HA0
  have f0_0 : w5.cell? ⟨w4.heap.size, 0, none⟩ = some (.int .u8 0) := H5.out.cell (b := w4.heap.size) (cs := #[.int .u8 0, .int .i64 0, .string ⟨#[]⟩]) (t := 24) (fr := (0, 0)) (List.mem_cons_self ..) 0
  have f0_1 : w5.cell? ⟨w4.heap.size, 1, none⟩ = some (.int .i64 0) := H5.out.cell (b := w4.heap.size) (cs := #[.int .u8 0, .int .i64 0, .string ⟨#[]⟩]) (t := 24) (fr := (0, 0)) (List.mem_cons_self ..) 1
  have f0_2 : w5.cell? ⟨w4.heap.size, 2, none⟩ = some (.string ⟨#[]⟩) := H5.out.cell (b := w4.heap.size) (cs := #[.int .u8 0, .int .i64 0, .string ⟨#[]⟩]) (t := 24) (fr := (0, 0)) (List.mem_cons_self ..) 2
  have z0 : w4.heap.size < w5.heap.size := lt_of_block (H5.out.get (b := w4.heap.size) (o := .cells #[.int .u8 0, .int .i64 0, .string ⟨#[]⟩] 24 (0, 0)) (List.mem_cons_self ..))
  have f1_0 : w5.cell? ⟨w3.heap.size, 0, none⟩ = some (.int .u8 0) := H5.out.cell (b := w3.heap.size) (cs := #[.int .u8 0, .int .i64 0, .string ⟨#[]⟩]) (t := 24) (fr := (0, 0)) (List.mem_cons_of_mem _ (List.mem_cons_self ..)) 0
  have f1_1 : w5.cell? ⟨w3.heap.size, 1, none⟩ = some (.int .i64 0) := H5.out.cell (b := w3.heap.size) (cs := #[.int .u8 0, .int .i64 0, .string ⟨#[]⟩]) (t := 24) (fr := (0, 0)) (List.mem_cons_of_mem _ (List.mem_cons_self ..)) 1
  have f1_2 : w5.cell? ⟨w3.heap.size, 2, none⟩ = some (.string ⟨#[]⟩) := H5.out.cell (b := w3.heap.size) (cs := #[.int .u8 0, .int .i64 0, .string ⟨#[]⟩]) (t := 24) (fr := (0, 0)) (List.mem_cons_of_mem _ (List.mem_cons_self ..)) 2
  have z1 : w3.heap.size < w5.heap.size := lt_of_block (H5.out.get (b := w3.heap.size) (o := .cells #[.int .u8 0, .int .i64 0, .string ⟨#[]⟩] 24 (0, 0)) (List.mem_cons_of_mem _ (List.mem_cons_self ..)))
  have f2_0 : w5.cell? ⟨w.heap.size, 0, none⟩ = some (.int .u8 (ak : Int)) := H5.out.cell (b := w.heap.size) (cs := #[.int .u8 (ak : Int), .int .i64 ai, .string az]) (t := 24) (fr := (0, 0)) (List.mem_cons_of_mem _ (List.mem_cons_of_mem _ (List.mem_cons_self ..))) 0
  have f2_1 : w5.cell? ⟨w.heap.size, 1, none⟩ = some (.int .i64 ai) := H5.out.cell (b := w.heap.size) (cs := #[.int .u8 (ak : Int), .int .i64 ai, .string az]) (t := 24) (fr := (0, 0)) (List.mem_cons_of_mem _ (List.mem_cons_of_mem _ (List.mem_cons_self ..))) 1
  have f2_2 : w5.cell? ⟨w.heap.size, 2, none⟩ = some (.string az) := H5.out.cell (b := w.heap.size) (cs := #[.int .u8 (ak : Int), .int .i64 ai, .string az]) (t := 24) (fr := (0, 0)) (List.mem_cons_of_mem _ (List.mem_cons_of_mem _ (List.mem_cons_self ..))) 2
  have z2 : w.heap.size < w5.heap.size := lt_of_block (H5.out.get (b := w.heap.size) (o := .cells #[.int .u8 (ak : Int), .int .i64 ai, .string az] 24 (0, 0)) (List.mem_cons_of_mem _ (List.mem_cons_of_mem _ (List.mem_cons_self ..))))
  go_wp2_with fail
  go_ret
  exact ⟨ret_bool (by first | rfl | (simp; omega)), (H5.out.below).alloc H5.out.below.size _⟩
set_option maxRecDepth 100000 in
set_option maxHeartbeats 8000000 in
theorem nothing_t (ak : Nat) (akb : ak < 256) (ai : Int) (ai0 : -9223372036854775808 ≤ ai) (ai1 : ai ≤ 9223372036854775807) (az : ByteArray) (azb : az.size ≤ 140737488351232) (op : Nat) (hop : op < 256) (hbig : decide ((20000 : Int) < (az.size : Int)) = false) (hfine : Val.fine ⟨ak, ai, az⟩ = true) (h1 : 17 ≤ op) (h2 : op ≤ 18) (hk : ((ak : Int) == 2) = true) (hr1 : Val.two op ⟨0, 0, ⟨#[]⟩⟩ ⟨ak, ai, az⟩ = (⟨0, 0, ⟨#[]⟩⟩, 11)) (hr2 : Val.two op ⟨ak, ai, az⟩ ⟨0, 0, ⟨#[]⟩⟩ = (⟨0, 0, ⟨#[]⟩⟩, 11)) (w : World) (hw : Wd w) :
    Calls Tryd.prog 10 #[.agg #[.int .u8 (ak : Int), .int .i64 ai, .string az], .int .u8 (op : Int)] w fun e w' => e = .returned (.bool true) ∧ Below w.heap.size w w' := by
  have HR1 := Lib.hid hr1
  have HR2 := Lib.hid hr2
  clear hr1 hr2
  obtain ⟨w0, hW⟩ : ∃ w0, w0 = (w.alloc (.cells #[.int .u8 (ak : Int), .int .i64 ai, .string az] 24)) := ⟨_, rfl⟩
  have H0 : Hid (Fam w [(w.heap.size, .cells #[.int .u8 (ak : Int), .int .i64 ai, .string az] 24 (0, 0))] w0) := Lib.hid (by rw [hW]; exact fam_n1 ..)
  have HW : Hid (∀ x, Below w.heap.size w x → Wd x) := Lib.hid (fun _ h => hw.kept h)
  clear hw
  go_enter Tryd.func10, Tryd.ntmps10
  go_wp2_with fail
  rw [← hW]
  clear hW
  refine (alive_yes _ (HW.out _ H0.out.below)).mono ?_
  rintro e w1 ⟨rfl, hb⟩
  have H1 := Lib.hid (H0.out.kept hb)
  clear hb 
  have f0_0 : w1.cell? ⟨w.heap.size, 0, none⟩ = some (.int .u8 (ak : Int)) := H1.out.cell (b := w.heap.size) (cs := #[.int .u8 (ak : Int), .int .i64 ai, .string az]) (t := 24) (fr := (0, 0)) (List.mem_cons_self ..) 0
  have f0_1 : w1.cell? ⟨w.heap.size, 1, none⟩ = some (.int .i64 ai) := H1.out.cell (b := w.heap.size) (cs := #[.int .u8 (ak : Int), .int .i64 ai, .string az]) (t := 24) (fr := (0, 0)) (List.mem_cons_self ..) 1
  have f0_2 : w1.cell? ⟨w.heap.size, 2, none⟩ = some (.string az) := H1.out.cell (b := w.heap.size) (cs := #[.int .u8 (ak : Int), .int .i64 ai, .string az]) (t := 24) (fr := (0, 0)) (List.mem_cons_self ..) 2
  have z0 : w.heap.size < w1.heap.size := lt_of_block (H1.out.get (b := w.heap.size) (o := .cells #[.int .u8 (ak : Int), .int .i64 ai, .string az] 24 (0, 0)) (List.mem_cons_self ..))
  go_wp2_with fail
  refine (long1_new _ _ az azb _ false hbig).mono ?_
  rintro e w2 ⟨rfl, hb⟩
  have H2 := Lib.hid (H1.out.kept hb)
  clear f0_0 f0_1 f0_2 z0
  clear hb 
  have f0_0 : w2.cell? ⟨w.heap.size, 0, none⟩ = some (.int .u8 (ak : Int)) := H2.out.cell (b := w.heap.size) (cs := #[.int .u8 (ak : Int), .int .i64 ai, .string az]) (t := 24) (fr := (0, 0)) (List.mem_cons_self ..) 0
  have f0_1 : w2.cell? ⟨w.heap.size, 1, none⟩ = some (.int .i64 ai) := H2.out.cell (b := w.heap.size) (cs := #[.int .u8 (ak : Int), .int .i64 ai, .string az]) (t := 24) (fr := (0, 0)) (List.mem_cons_self ..) 1
  have f0_2 : w2.cell? ⟨w.heap.size, 2, none⟩ = some (.string az) := H2.out.cell (b := w.heap.size) (cs := #[.int .u8 (ak : Int), .int .i64 ai, .string az]) (t := 24) (fr := (0, 0)) (List.mem_cons_self ..) 2
  have z0 : w.heap.size < w2.heap.size := lt_of_block (H2.out.get (b := w.heap.size) (o := .cells #[.int .u8 (ak : Int), .int .i64 ai, .string az] 24 (0, 0)) (List.mem_cons_self ..))
  go_wp2_with fail
  refine (fine1_new ak ai az akb _ true hfine).mono ?_
  rintro e w3 ⟨rfl, hb⟩
  have H3 := Lib.hid (H2.out.kept hb)
  clear f0_0 f0_1 f0_2 z0
  clear hb 
  have f0_0 : w3.cell? ⟨w.heap.size, 0, none⟩ = some (.int .u8 (ak : Int)) := H3.out.cell (b := w.heap.size) (cs := #[.int .u8 (ak : Int), .int .i64 ai, .string az]) (t := 24) (fr := (0, 0)) (List.mem_cons_self ..) 0
  have f0_1 : w3.cell? ⟨w.heap.size, 1, none⟩ = some (.int .i64 ai) := H3.out.cell (b := w.heap.size) (cs := #[.int .u8 (ak : Int), .int .i64 ai, .string az]) (t := 24) (fr := (0, 0)) (List.mem_cons_self ..) 1
  have f0_2 : w3.cell? ⟨w.heap.size, 2, none⟩ = some (.string az) := H3.out.cell (b := w.heap.size) (cs := #[.int .u8 (ak : Int), .int .i64 ai, .string az]) (t := 24) (fr := (0, 0)) (List.mem_cons_self ..) 2
  have z0 : w.heap.size < w3.heap.size := lt_of_block (H3.out.get (b := w.heap.size) (o := .cells #[.int .u8 (ak : Int), .int .i64 ai, .string az] 24 (0, 0)) (List.mem_cons_self ..))
  go_wp2_with fail
  have HA0 := Lib.hid (H3.out.add (below_alloc w3 (.cells #[.int .u8 0, .int .i64 0, .string ⟨#[]⟩] 24)) (Nat.le_refl _) (heap_alloc_new _ _))
  refine (two_is op 0 0 ⟨#[]⟩ ak ai az 0 0 ⟨#[]⟩ 11 hop (by omega) akb (by omega) (by omega) ai0 ai1 HR1.out _ (HW.out _ HA0.out.below)).mono ?_
  rintro e w4 ⟨rfl, hb⟩
  have H4 := Lib.hid (HA0.out.kept hb)
  clear f0_0 f0_1 f0_2 z0
  clear hb HA0
  have f0_0 : w4.cell? ⟨w3.heap.size, 0, none⟩ = some (.int .u8 0) := H4.out.cell (b := w3.heap.size) (cs := #[.int .u8 0, .int .i64 0, .string ⟨#[]⟩]) (t := 24) (fr := (0, 0)) (List.mem_cons_self ..) 0
  have f0_1 : w4.cell? ⟨w3.heap.size, 1, none⟩ = some (.int .i64 0) := H4.out.cell (b := w3.heap.size) (cs := #[.int .u8 0, .int .i64 0, .string ⟨#[]⟩]) (t := 24) (fr := (0, 0)) (List.mem_cons_self ..) 1
  have f0_2 : w4.cell? ⟨w3.heap.size, 2, none⟩ = some (.string ⟨#[]⟩) := H4.out.cell (b := w3.heap.size) (cs := #[.int .u8 0, .int .i64 0, .string ⟨#[]⟩]) (t := 24) (fr := (0, 0)) (List.mem_cons_self ..) 2
  have z0 : w3.heap.size < w4.heap.size := lt_of_block (H4.out.get (b := w3.heap.size) (o := .cells #[.int .u8 0, .int .i64 0, .string ⟨#[]⟩] 24 (0, 0)) (List.mem_cons_self ..))
  have f1_0 : w4.cell? ⟨w.heap.size, 0, none⟩ = some (.int .u8 (ak : Int)) := H4.out.cell (b := w.heap.size) (cs := #[.int .u8 (ak : Int), .int .i64 ai, .string az]) (t := 24) (fr := (0, 0)) (List.mem_cons_of_mem _ (List.mem_cons_self ..)) 0
  have f1_1 : w4.cell? ⟨w.heap.size, 1, none⟩ = some (.int .i64 ai) := H4.out.cell (b := w.heap.size) (cs := #[.int .u8 (ak : Int), .int .i64 ai, .string az]) (t := 24) (fr := (0, 0)) (List.mem_cons_of_mem _ (List.mem_cons_self ..)) 1
  have f1_2 : w4.cell? ⟨w.heap.size, 2, none⟩ = some (.string az) := H4.out.cell (b := w.heap.size) (cs := #[.int .u8 (ak : Int), .int .i64 ai, .string az]) (t := 24) (fr := (0, 0)) (List.mem_cons_of_mem _ (List.mem_cons_self ..)) 2
  have z1 : w.heap.size < w4.heap.size := lt_of_block (H4.out.get (b := w.heap.size) (o := .cells #[.int .u8 (ak : Int), .int .i64 ai, .string az] 24 (0, 0)) (List.mem_cons_of_mem _ (List.mem_cons_self ..)))
  go_wp2_with fail
  have HA0 := Lib.hid (H4.out.add (below_alloc w4 (.cells #[.int .u8 0, .int .i64 0, .string ⟨#[]⟩] 24)) (Nat.le_refl _) (heap_alloc_new _ _))
  refine (two_is op ak ai az 0 0 ⟨#[]⟩ 0 0 ⟨#[]⟩ 11 hop akb (by omega) ai0 ai1 (by omega) (by omega) HR2.out _ (HW.out _ HA0.out.below)).mono ?_
  rintro e w5 ⟨rfl, hb⟩
  have H5 := Lib.hid (HA0.out.kept hb)
  clear f0_0 f0_1 f0_2 z0 f1_0 f1_1 f1_2 z1
  clear hb HA0
  have f0_0 : w5.cell? ⟨w4.heap.size, 0, none⟩ = some (.int .u8 0) := H5.out.cell (b := w4.heap.size) (cs := #[.int .u8 0, .int .i64 0, .string ⟨#[]⟩]) (t := 24) (fr := (0, 0)) (List.mem_cons_self ..) 0
  have f0_1 : w5.cell? ⟨w4.heap.size, 1, none⟩ = some (.int .i64 0) := H5.out.cell (b := w4.heap.size) (cs := #[.int .u8 0, .int .i64 0, .string ⟨#[]⟩]) (t := 24) (fr := (0, 0)) (List.mem_cons_self ..) 1
  have f0_2 : w5.cell? ⟨w4.heap.size, 2, none⟩ = some (.string ⟨#[]⟩) := H5.out.cell (b := w4.heap.size) (cs := #[.int .u8 0, .int .i64 0, .string ⟨#[]⟩]) (t := 24) (fr := (0, 0)) (List.mem_cons_self ..) 2
  have z0 : w4.heap.size < w5.heap.size := lt_of_block (H5.out.get (b := w4.heap.size) (o := .cells #[.int .u8 0, .int .i64 0, .string ⟨#[]⟩] 24 (0, 0)) (List.mem_cons_self ..))
  have f1_0 : w5.cell? ⟨w3.heap.size, 0, none⟩ = some (.int .u8 0) := H5.out.cell (b := w3.heap.size) (cs := #[.int .u8 0, .int .i64 0, .string ⟨#[]⟩]) (t := 24) (fr := (0, 0)) (List.mem_cons_of_mem _ (List.mem_cons_self ..)) 0
  have f1_1 : w5.cell? ⟨w3.heap.size, 1, none⟩ = some (.int .i64 0) := H5.out.cell (b := w3.heap.size) (cs := #[.int .u8 0, .int .i64 0, .string ⟨#[]⟩]) (t := 24) (fr := (0, 0)) (List.mem_cons_of_mem _ (List.mem_cons_self ..)) 1
  have f1_2 : w5.cell? ⟨w3.heap.size, 2, none⟩ = some (.string ⟨#[]⟩) := H5.out.cell (b := w3.heap.size) (cs := #[.int .u8 0, .int .i64 0, .string ⟨#[]⟩]) (t := 24) (fr := (0, 0)) (List.mem_cons_of_mem _ (List.mem_cons_self ..)) 2
  have z1 : w3.heap.size < w5.heap.size := lt_of_block (H5.out.get (b := w3.heap.size) (o := .cells #[.int .u8 0, .int .i64 0, .string ⟨#[]⟩] 24 (0, 0)) (List.mem_cons_of_mem _ (List.mem_cons_self ..)))
  have f2_0 : w5.cell? ⟨w.heap.size, 0, none⟩ = some (.int .u8 (ak : Int)) := H5.out.cell (b := w.heap.size) (cs := #[.int .u8 (ak : Int), .int .i64 ai, .string az]) (t := 24) (fr := (0, 0)) (List.mem_cons_of_mem _ (List.mem_cons_of_mem _ (List.mem_cons_self ..))) 0
  have f2_1 : w5.cell? ⟨w.heap.size, 1, none⟩ = some (.int .i64 ai) := H5.out.cell (b := w.heap.size) (cs := #[.int .u8 (ak : Int), .int .i64 ai, .string az]) (t := 24) (fr := (0, 0)) (List.mem_cons_of_mem _ (List.mem_cons_of_mem _ (List.mem_cons_self ..))) 1
  have f2_2 : w5.cell? ⟨w.heap.size, 2, none⟩ = some (.string az) := H5.out.cell (b := w.heap.size) (cs := #[.int .u8 (ak : Int), .int .i64 ai, .string az]) (t := 24) (fr := (0, 0)) (List.mem_cons_of_mem _ (List.mem_cons_of_mem _ (List.mem_cons_self ..))) 2
  have z2 : w.heap.size < w5.heap.size := lt_of_block (H5.out.get (b := w.heap.size) (o := .cells #[.int .u8 (ak : Int), .int .i64 ai, .string az] 24 (0, 0)) (List.mem_cons_of_mem _ (List.mem_cons_of_mem _ (List.mem_cons_self ..))))
  go_wp2_with fail
  go_ret
  exact ⟨ret_bool (by first | rfl | (simp; omega)), (H5.out.below).alloc H5.out.below.size _⟩
set_option maxRecDepth 100000 in
set_option maxHeartbeats 8000000 in
theorem nothing_n (ak : Nat) (akb : ak < 256) (ai : Int) (ai0 : -9223372036854775808 ≤ ai) (ai1 : ai ≤ 9223372036854775807) (az : ByteArray) (azb : az.size ≤ 140737488351232) (op : Nat) (hop : op < 256) (hbig : decide ((20000 : Int) < (az.size : Int)) = false) (hfine : Val.fine ⟨ak, ai, az⟩ = true) (h1 : 17 ≤ op) (h2 : op ≤ 18) (hk : ((ak : Int) == 2) = false) (hk1 : ((ak : Int) == 1) = false) (hr1 : Val.two op ⟨0, 0, ⟨#[]⟩⟩ ⟨ak, ai, az⟩ = (⟨0, 0, ⟨#[]⟩⟩, 0)) (hr2 : Val.two op ⟨ak, ai, az⟩ ⟨0, 0, ⟨#[]⟩⟩ = (⟨0, 0, ⟨#[]⟩⟩, 0)) (w : World) (hw : Wd w) :
    Calls Tryd.prog 10 #[.agg #[.int .u8 (ak : Int), .int .i64 ai, .string az], .int .u8 (op : Int)] w fun e w' => e = .returned (.bool true) ∧ Below w.heap.size w w' := by
  have HR1 := Lib.hid hr1
  have HR2 := Lib.hid hr2
  clear hr1 hr2
  obtain ⟨w0, hW⟩ : ∃ w0, w0 = (w.alloc (.cells #[.int .u8 (ak : Int), .int .i64 ai, .string az] 24)) := ⟨_, rfl⟩
  have H0 : Hid (Fam w [(w.heap.size, .cells #[.int .u8 (ak : Int), .int .i64 ai, .string az] 24 (0, 0))] w0) := Lib.hid (by rw [hW]; exact fam_n1 ..)
  have HW : Hid (∀ x, Below w.heap.size w x → Wd x) := Lib.hid (fun _ h => hw.kept h)
  clear hw
  go_enter Tryd.func10, Tryd.ntmps10
  go_wp2_with fail
  rw [← hW]
  clear hW
  refine (alive_yes _ (HW.out _ H0.out.below)).mono ?_
  rintro e w1 ⟨rfl, hb⟩
  have H1 := Lib.hid (H0.out.kept hb)
  clear hb 
  have f0_0 : w1.cell? ⟨w.heap.size, 0, none⟩ = some (.int .u8 (ak : Int)) := H1.out.cell (b := w.heap.size) (cs := #[.int .u8 (ak : Int), .int .i64 ai, .string az]) (t := 24) (fr := (0, 0)) (List.mem_cons_self ..) 0
  have f0_1 : w1.cell? ⟨w.heap.size, 1, none⟩ = some (.int .i64 ai) := H1.out.cell (b := w.heap.size) (cs := #[.int .u8 (ak : Int), .int .i64 ai, .string az]) (t := 24) (fr := (0, 0)) (List.mem_cons_self ..) 1
  have f0_2 : w1.cell? ⟨w.heap.size, 2, none⟩ = some (.string az) := H1.out.cell (b := w.heap.size) (cs := #[.int .u8 (ak : Int), .int .i64 ai, .string az]) (t := 24) (fr := (0, 0)) (List.mem_cons_self ..) 2
  have z0 : w.heap.size < w1.heap.size := lt_of_block (H1.out.get (b := w.heap.size) (o := .cells #[.int .u8 (ak : Int), .int .i64 ai, .string az] 24 (0, 0)) (List.mem_cons_self ..))
  go_wp2_with fail
  refine (long1_new _ _ az azb _ false hbig).mono ?_
  rintro e w2 ⟨rfl, hb⟩
  have H2 := Lib.hid (H1.out.kept hb)
  clear f0_0 f0_1 f0_2 z0
  clear hb 
  have f0_0 : w2.cell? ⟨w.heap.size, 0, none⟩ = some (.int .u8 (ak : Int)) := H2.out.cell (b := w.heap.size) (cs := #[.int .u8 (ak : Int), .int .i64 ai, .string az]) (t := 24) (fr := (0, 0)) (List.mem_cons_self ..) 0
  have f0_1 : w2.cell? ⟨w.heap.size, 1, none⟩ = some (.int .i64 ai) := H2.out.cell (b := w.heap.size) (cs := #[.int .u8 (ak : Int), .int .i64 ai, .string az]) (t := 24) (fr := (0, 0)) (List.mem_cons_self ..) 1
  have f0_2 : w2.cell? ⟨w.heap.size, 2, none⟩ = some (.string az) := H2.out.cell (b := w.heap.size) (cs := #[.int .u8 (ak : Int), .int .i64 ai, .string az]) (t := 24) (fr := (0, 0)) (List.mem_cons_self ..) 2
  have z0 : w.heap.size < w2.heap.size := lt_of_block (H2.out.get (b := w.heap.size) (o := .cells #[.int .u8 (ak : Int), .int .i64 ai, .string az] 24 (0, 0)) (List.mem_cons_self ..))
  go_wp2_with fail
  refine (fine1_new ak ai az akb _ true hfine).mono ?_
  rintro e w3 ⟨rfl, hb⟩
  have H3 := Lib.hid (H2.out.kept hb)
  clear f0_0 f0_1 f0_2 z0
  clear hb 
  have f0_0 : w3.cell? ⟨w.heap.size, 0, none⟩ = some (.int .u8 (ak : Int)) := H3.out.cell (b := w.heap.size) (cs := #[.int .u8 (ak : Int), .int .i64 ai, .string az]) (t := 24) (fr := (0, 0)) (List.mem_cons_self ..) 0
  have f0_1 : w3.cell? ⟨w.heap.size, 1, none⟩ = some (.int .i64 ai) := H3.out.cell (b := w.heap.size) (cs := #[.int .u8 (ak : Int), .int .i64 ai, .string az]) (t := 24) (fr := (0, 0)) (List.mem_cons_self ..) 1
  have f0_2 : w3.cell? ⟨w.heap.size, 2, none⟩ = some (.string az) := H3.out.cell (b := w.heap.size) (cs := #[.int .u8 (ak : Int), .int .i64 ai, .string az]) (t := 24) (fr := (0, 0)) (List.mem_cons_self ..) 2
  have z0 : w.heap.size < w3.heap.size := lt_of_block (H3.out.get (b := w.heap.size) (o := .cells #[.int .u8 (ak : Int), .int .i64 ai, .string az] 24 (0, 0)) (List.mem_cons_self ..))
  go_wp2_with fail
  have HA0 := Lib.hid (H3.out.add (below_alloc w3 (.cells #[.int .u8 0, .int .i64 0, .string ⟨#[]⟩] 24)) (Nat.le_refl _) (heap_alloc_new _ _))
  refine (two_is op 0 0 ⟨#[]⟩ ak ai az 0 0 ⟨#[]⟩ 0 hop (by omega) akb (by omega) (by omega) ai0 ai1 HR1.out _ (HW.out _ HA0.out.below)).mono ?_
  rintro e w4 ⟨rfl, hb⟩
  have H4 := Lib.hid (HA0.out.kept hb)
  clear f0_0 f0_1 f0_2 z0
  clear hb HA0
  have f0_0 : w4.cell? ⟨w3.heap.size, 0, none⟩ = some (.int .u8 0) := H4.out.cell (b := w3.heap.size) (cs := #[.int .u8 0, .int .i64 0, .string ⟨#[]⟩]) (t := 24) (fr := (0, 0)) (List.mem_cons_self ..) 0
  have f0_1 : w4.cell? ⟨w3.heap.size, 1, none⟩ = some (.int .i64 0) := H4.out.cell (b := w3.heap.size) (cs := #[.int .u8 0, .int .i64 0, .string ⟨#[]⟩]) (t := 24) (fr := (0, 0)) (List.mem_cons_self ..) 1
  have f0_2 : w4.cell? ⟨w3.heap.size, 2, none⟩ = some (.string ⟨#[]⟩) := H4.out.cell (b := w3.heap.size) (cs := #[.int .u8 0, .int .i64 0, .string ⟨#[]⟩]) (t := 24) (fr := (0, 0)) (List.mem_cons_self ..) 2
  have z0 : w3.heap.size < w4.heap.size := lt_of_block (H4.out.get (b := w3.heap.size) (o := .cells #[.int .u8 0, .int .i64 0, .string ⟨#[]⟩] 24 (0, 0)) (List.mem_cons_self ..))
  have f1_0 : w4.cell? ⟨w.heap.size, 0, none⟩ = some (.int .u8 (ak : Int)) := H4.out.cell (b := w.heap.size) (cs := #[.int .u8 (ak : Int), .int .i64 ai, .string az]) (t := 24) (fr := (0, 0)) (List.mem_cons_of_mem _ (List.mem_cons_self ..)) 0
  have f1_1 : w4.cell? ⟨w.heap.size, 1, none⟩ = some (.int .i64 ai) := H4.out.cell (b := w.heap.size) (cs := #[.int .u8 (ak : Int), .int .i64 ai, .string az]) (t := 24) (fr := (0, 0)) (List.mem_cons_of_mem _ (List.mem_cons_self ..)) 1
  have f1_2 : w4.cell? ⟨w.heap.size, 2, none⟩ = some (.string az) := H4.out.cell (b := w.heap.size) (cs := #[.int .u8 (ak : Int), .int .i64 ai, .string az]) (t := 24) (fr := (0, 0)) (List.mem_cons_of_mem _ (List.mem_cons_self ..)) 2
  have z1 : w.heap.size < w4.heap.size := lt_of_block (H4.out.get (b := w.heap.size) (o := .cells #[.int .u8 (ak : Int), .int .i64 ai, .string az] 24 (0, 0)) (List.mem_cons_of_mem _ (List.mem_cons_self ..)))
  go_wp2_with fail
  have HA0 := Lib.hid (H4.out.add (below_alloc w4 (.cells #[.int .u8 0, .int .i64 0, .string ⟨#[]⟩] 24)) (Nat.le_refl _) (heap_alloc_new _ _))
  refine (two_is op ak ai az 0 0 ⟨#[]⟩ 0 0 ⟨#[]⟩ 0 hop akb (by omega) ai0 ai1 (by omega) (by omega) HR2.out _ (HW.out _ HA0.out.below)).mono ?_
  rintro e w5 ⟨rfl, hb⟩
  have H5 := Lib.hid (HA0.out.kept hb)
  clear f0_0 f0_1 f0_2 z0 f1_0 f1_1 f1_2 z1
  clear hb HA0
  have f0_0 : w5.cell? ⟨w4.heap.size, 0, none⟩ = some (.int .u8 0) := H5.out.cell (b := w4.heap.size) (cs := #[.int .u8 0, .int .i64 0, .string ⟨#[]⟩]) (t := 24) (fr := (0, 0)) (List.mem_cons_self ..) 0
  have f0_1 : w5.cell? ⟨w4.heap.size, 1, none⟩ = some (.int .i64 0) := H5.out.cell (b := w4.heap.size) (cs := #[.int .u8 0, .int .i64 0, .string ⟨#[]⟩]) (t := 24) (fr := (0, 0)) (List.mem_cons_self ..) 1
  have f0_2 : w5.cell? ⟨w4.heap.size, 2, none⟩ = some (.string ⟨#[]⟩) := H5.out.cell (b := w4.heap.size) (cs := #[.int .u8 0, .int .i64 0, .string ⟨#[]⟩]) (t := 24) (fr := (0, 0)) (List.mem_cons_self ..) 2
  have z0 : w4.heap.size < w5.heap.size := lt_of_block (H5.out.get (b := w4.heap.size) (o := .cells #[.int .u8 0, .int .i64 0, .string ⟨#[]⟩] 24 (0, 0)) (List.mem_cons_self ..))
  have f1_0 : w5.cell? ⟨w3.heap.size, 0, none⟩ = some (.int .u8 0) := H5.out.cell (b := w3.heap.size) (cs := #[.int .u8 0, .int .i64 0, .string ⟨#[]⟩]) (t := 24) (fr := (0, 0)) (List.mem_cons_of_mem _ (List.mem_cons_self ..)) 0
  have f1_1 : w5.cell? ⟨w3.heap.size, 1, none⟩ = some (.int .i64 0) := H5.out.cell (b := w3.heap.size) (cs := #[.int .u8 0, .int .i64 0, .string ⟨#[]⟩]) (t := 24) (fr := (0, 0)) (List.mem_cons_of_mem _ (List.mem_cons_self ..)) 1
  have f1_2 : w5.cell? ⟨w3.heap.size, 2, none⟩ = some (.string ⟨#[]⟩) := H5.out.cell (b := w3.heap.size) (cs := #[.int .u8 0, .int .i64 0, .string ⟨#[]⟩]) (t := 24) (fr := (0, 0)) (List.mem_cons_of_mem _ (List.mem_cons_self ..)) 2
  have z1 : w3.heap.size < w5.heap.size := lt_of_block (H5.out.get (b := w3.heap.size) (o := .cells #[.int .u8 0, .int .i64 0, .string ⟨#[]⟩] 24 (0, 0)) (List.mem_cons_of_mem _ (List.mem_cons_self ..)))
  have f2_0 : w5.cell? ⟨w.heap.size, 0, none⟩ = some (.int .u8 (ak : Int)) := H5.out.cell (b := w.heap.size) (cs := #[.int .u8 (ak : Int), .int .i64 ai, .string az]) (t := 24) (fr := (0, 0)) (List.mem_cons_of_mem _ (List.mem_cons_of_mem _ (List.mem_cons_self ..))) 0
  have f2_1 : w5.cell? ⟨w.heap.size, 1, none⟩ = some (.int .i64 ai) := H5.out.cell (b := w.heap.size) (cs := #[.int .u8 (ak : Int), .int .i64 ai, .string az]) (t := 24) (fr := (0, 0)) (List.mem_cons_of_mem _ (List.mem_cons_of_mem _ (List.mem_cons_self ..))) 1
  have f2_2 : w5.cell? ⟨w.heap.size, 2, none⟩ = some (.string az) := H5.out.cell (b := w.heap.size) (cs := #[.int .u8 (ak : Int), .int .i64 ai, .string az]) (t := 24) (fr := (0, 0)) (List.mem_cons_of_mem _ (List.mem_cons_of_mem _ (List.mem_cons_self ..))) 2
  have z2 : w.heap.size < w5.heap.size := lt_of_block (H5.out.get (b := w.heap.size) (o := .cells #[.int .u8 (ak : Int), .int .i64 ai, .string az] 24 (0, 0)) (List.mem_cons_of_mem _ (List.mem_cons_of_mem _ (List.mem_cons_self ..))))
  go_wp2_with fail
  have HA0 := Lib.hid (H5.out.add2 (.cells #[.int .u8 0, .int .i64 0, .string ⟨#[]⟩] 24) (.cells #[.int .u8 0, .int .i64 0, .string ⟨#[]⟩] 24))
  refine (one_yes 1 0 0 ⟨#[]⟩ 0 0 ⟨#[]⟩ 0 (by omega) (by omega) (by omega) (by omega) (by kernel_rfl) _).mono ?_
  rintro e w6 ⟨rfl, hb⟩
  have H6 := Lib.hid (HA0.out.kept hb)
  clear f0_0 f0_1 f0_2 z0 f1_0 f1_1 f1_2 z1 f2_0 f2_1 f2_2 z2
  clear hb HA0
  have f0_0 : w6.cell? ⟨w5.heap.size + 1, 0, none⟩ = some (.int .u8 0) := H6.out.cell (b := w5.heap.size + 1) (cs := #[.int .u8 0, .int .i64 0, .string ⟨#[]⟩]) (t := 24) (fr := (0, 0)) (List.mem_cons_self ..) 0
  have f0_1 : w6.cell? ⟨w5.heap.size + 1, 1, none⟩ = some (.int .i64 0) := H6.out.cell (b := w5.heap.size + 1) (cs := #[.int .u8 0, .int .i64 0, .string ⟨#[]⟩]) (t := 24) (fr := (0, 0)) (List.mem_cons_self ..) 1
  have f0_2 : w6.cell? ⟨w5.heap.size + 1, 2, none⟩ = some (.string ⟨#[]⟩) := H6.out.cell (b := w5.heap.size + 1) (cs := #[.int .u8 0, .int .i64 0, .string ⟨#[]⟩]) (t := 24) (fr := (0, 0)) (List.mem_cons_self ..) 2
  have z0 : w5.heap.size + 1 < w6.heap.size := lt_of_block (H6.out.get (b := w5.heap.size + 1) (o := .cells #[.int .u8 0, .int .i64 0, .string ⟨#[]⟩] 24 (0, 0)) (List.mem_cons_self ..))
  have f1_0 : w6.cell? ⟨w5.heap.size, 0, none⟩ = some (.int .u8 0) := H6.out.cell (b := w5.heap.size) (cs := #[.int .u8 0, .int .i64 0, .string ⟨#[]⟩]) (t := 24) (fr := (0, 0)) (List.mem_cons_of_mem _ (List.mem_cons_self ..)) 0
  have f1_1 : w6.cell? ⟨w5.heap.size, 1, none⟩ = some (.int .i64 0) := H6.out.cell (b := w5.heap.size) (cs := #[.int .u8 0, .int .i64 0, .string ⟨#[]⟩]) (t := 24) (fr := (0, 0)) (List.mem_cons_of_mem _ (List.mem_cons_self ..)) 1
  have f1_2 : w6.cell? ⟨w5.heap.size, 2, none⟩ = some (.string ⟨#[]⟩) := H6.out.cell (b := w5.heap.size) (cs := #[.int .u8 0, .int .i64 0, .string ⟨#[]⟩]) (t := 24) (fr := (0, 0)) (List.mem_cons_of_mem _ (List.mem_cons_self ..)) 2
  have z1 : w5.heap.size < w6.heap.size := lt_of_block (H6.out.get (b := w5.heap.size) (o := .cells #[.int .u8 0, .int .i64 0, .string ⟨#[]⟩] 24 (0, 0)) (List.mem_cons_of_mem _ (List.mem_cons_self ..)))
  have f2_0 : w6.cell? ⟨w4.heap.size, 0, none⟩ = some (.int .u8 0) := H6.out.cell (b := w4.heap.size) (cs := #[.int .u8 0, .int .i64 0, .string ⟨#[]⟩]) (t := 24) (fr := (0, 0)) (List.mem_cons_of_mem _ (List.mem_cons_of_mem _ (List.mem_cons_self ..))) 0
  have f2_1 : w6.cell? ⟨w4.heap.size, 1, none⟩ = some (.int .i64 0) := H6.out.cell (b := w4.heap.size) (cs := #[.int .u8 0, .int .i64 0, .string ⟨#[]⟩]) (t := 24) (fr := (0, 0)) (List.mem_cons_of_mem _ (List.mem_cons_of_mem _ (List.mem_cons_self ..))) 1
  have f2_2 : w6.cell? ⟨w4.heap.size, 2, none⟩ = some (.string ⟨#[]⟩) := H6.out.cell (b := w4.heap.size) (cs := #[.int .u8 0, .int .i64 0, .string ⟨#[]⟩]) (t := 24) (fr := (0, 0)) (List.mem_cons_of_mem _ (List.mem_cons_of_mem _ (List.mem_cons_self ..))) 2
  have z2 : w4.heap.size < w6.heap.size := lt_of_block (H6.out.get (b := w4.heap.size) (o := .cells #[.int .u8 0, .int .i64 0, .string ⟨#[]⟩] 24 (0, 0)) (List.mem_cons_of_mem _ (List.mem_cons_of_mem _ (List.mem_cons_self ..))))
  have f3_0 : w6.cell? ⟨w3.heap.size, 0, none⟩ = some (.int .u8 0) := H6.out.cell (b := w3.heap.size) (cs := #[.int .u8 0, .int .i64 0, .string ⟨#[]⟩]) (t := 24) (fr := (0, 0)) (List.mem_cons_of_mem _ (List.mem_cons_of_mem _ (List.mem_cons_of_mem _ (List.mem_cons_self ..)))) 0
  have f3_1 : w6.cell? ⟨w3.heap.size, 1, none⟩ = some (.int .i64 0) := H6.out.cell (b := w3.heap.size) (cs := #[.int .u8 0, .int .i64 0, .string ⟨#[]⟩]) (t := 24) (fr := (0, 0)) (List.mem_cons_of_mem _ (List.mem_cons_of_mem _ (List.mem_cons_of_mem _ (List.mem_cons_self ..)))) 1
  have f3_2 : w6.cell? ⟨w3.heap.size, 2, none⟩ = some (.string ⟨#[]⟩) := H6.out.cell (b := w3.heap.size) (cs := #[.int .u8 0, .int .i64 0, .string ⟨#[]⟩]) (t := 24) (fr := (0, 0)) (List.mem_cons_of_mem _ (List.mem_cons_of_mem _ (List.mem_cons_of_mem _ (List.mem_cons_self ..)))) 2
  have z3 : w3.heap.size < w6.heap.size := lt_of_block (H6.out.get (b := w3.heap.size) (o := .cells #[.int .u8 0, .int .i64 0, .string ⟨#[]⟩] 24 (0, 0)) (List.mem_cons_of_mem _ (List.mem_cons_of_mem _ (List.mem_cons_of_mem _ (List.mem_cons_self ..)))))
  have f4_0 : w6.cell? ⟨w.heap.size, 0, none⟩ = some (.int .u8 (ak : Int)) := H6.out.cell (b := w.heap.size) (cs := #[.int .u8 (ak : Int), .int .i64 ai, .string az]) (t := 24) (fr := (0, 0)) (List.mem_cons_of_mem _ (List.mem_cons_of_mem _ (List.mem_cons_of_mem _ (List.mem_cons_of_mem _ (List.mem_cons_self ..))))) 0
  have f4_1 : w6.cell? ⟨w.heap.size, 1, none⟩ = some (.int .i64 ai) := H6.out.cell (b := w.heap.size) (cs := #[.int .u8 (ak : Int), .int .i64 ai, .string az]) (t := 24) (fr := (0, 0)) (List.mem_cons_of_mem _ (List.mem_cons_of_mem _ (List.mem_cons_of_mem _ (List.mem_cons_of_mem _ (List.mem_cons_self ..))))) 1
  have f4_2 : w6.cell? ⟨w.heap.size, 2, none⟩ = some (.string az) := H6.out.cell (b := w.heap.size) (cs := #[.int .u8 (ak : Int), .int .i64 ai, .string az]) (t := 24) (fr := (0, 0)) (List.mem_cons_of_mem _ (List.mem_cons_of_mem _ (List.mem_cons_of_mem _ (List.mem_cons_of_mem _ (List.mem_cons_self ..))))) 2
  have z4 : w.heap.size < w6.heap.size := lt_of_block (H6.out.get (b := w.heap.size) (o := .cells #[.int .u8 (ak : Int), .int .i64 ai, .string az] 24 (0, 0)) (List.mem_cons_of_mem _ (List.mem_cons_of_mem _ (List.mem_cons_of_mem _ (List.mem_cons_of_mem _ (List.mem_cons_self ..))))))
  go_wp2_with fail
  refine (one_yes 2 0 0 ⟨#[]⟩ 0 0 ⟨#[]⟩ 0 (by omega) (by omega) (by omega) (by omega) (by kernel_rfl) _).mono ?_
  rintro e w7 ⟨rfl, hb⟩
  have H7 := Lib.hid (H6.out.kept hb)
  clear f0_0 f0_1 f0_2 z0 f1_0 f1_1 f1_2 z1 f2_0 f2_1 f2_2 z2 f3_0 f3_1 f3_2 z3 f4_0 f4_1 f4_2 z4
  clear hb 
  go_wp2_with fail
  go_ret
  exact ⟨rfl, H7.out.below⟩
set_option maxRecDepth 100000 in
set_option maxHeartbeats 8000000 in
theorem nothing_m17 (ak : Nat) (akb : ak < 256) (ai : Int) (ai0 : -9223372036854775808 ≤ ai) (ai1 : ai ≤ 9223372036854775807) (az : ByteArray) (azb : az.size ≤ 140737488351232) (hbig : decide ((20000 : Int) < (az.size : Int)) = false) (hfine : Val.fine ⟨ak, ai, az⟩ = true) (hk : ((ak : Int) == 2) = false) (hk1 : ((ak : Int) == 1) = true) (hi : (ai == 0) = false) (hr1 : Val.two 17 ⟨0, 0, ⟨#[]⟩⟩ ⟨ak, ai, az⟩ = (⟨0, 0, ⟨#[]⟩⟩, 0)) (hr2 : Val.two 17 ⟨ak, ai, az⟩ ⟨0, 0, ⟨#[]⟩⟩ = (⟨0, 0, ⟨#[]⟩⟩, 0)) (w : World) (hw : Wd w) :
    Calls Tryd.prog 10 #[.agg #[.int .u8 (ak : Int), .int .i64 ai, .string az], .int .u8 17] w fun e w' => e = .returned (.bool true) ∧ Below w.heap.size w w' := by
  have HR1 := Lib.hid hr1
  have HR2 := Lib.hid hr2
  clear hr1 hr2
  obtain ⟨w0, hW⟩ : ∃ w0, w0 = (w.alloc (.cells #[.int .u8 (ak : Int), .int .i64 ai, .string az] 24)) := ⟨_, rfl⟩
  have H0 : Hid (Fam w [(w.heap.size, .cells #[.int .u8 (ak : Int), .int .i64 ai, .string az] 24 (0, 0))] w0) := Lib.hid (by rw [hW]; exact fam_n1 ..)
  have HW : Hid (∀ x, Below w.heap.size w x → Wd x) := Lib.hid (fun _ h => hw.kept h)
  clear hw
  go_enter Tryd.func10, Tryd.ntmps10
  go_wp2_with fail
  rw [← hW]
  clear hW
  refine (alive_yes _ (HW.out _ H0.out.below)).mono ?_
  rintro e w1 ⟨rfl, hb⟩
  have H1 := Lib.hid (H0.out.kept hb)
  clear hb 
  have f0_0 : w1.cell? ⟨w.heap.size, 0, none⟩ = some (.int .u8 (ak : Int)) := H1.out.cell (b := w.heap.size) (cs := #[.int .u8 (ak : Int), .int .i64 ai, .string az]) (t := 24) (fr := (0, 0)) (List.mem_cons_self ..) 0
  have f0_1 : w1.cell? ⟨w.heap.size, 1, none⟩ = some (.int .i64 ai) := H1.out.cell (b := w.heap.size) (cs := #[.int .u8 (ak : Int), .int .i64 ai, .string az]) (t := 24) (fr := (0, 0)) (List.mem_cons_self ..) 1
  have f0_2 : w1.cell? ⟨w.heap.size, 2, none⟩ = some (.string az) := H1.out.cell (b := w.heap.size) (cs := #[.int .u8 (ak : Int), .int .i64 ai, .string az]) (t := 24) (fr := (0, 0)) (List.mem_cons_self ..) 2
  have z0 : w.heap.size < w1.heap.size := lt_of_block (H1.out.get (b := w.heap.size) (o := .cells #[.int .u8 (ak : Int), .int .i64 ai, .string az] 24 (0, 0)) (List.mem_cons_self ..))
  go_wp2_with fail
  refine (long1_new _ _ az azb _ false hbig).mono ?_
  rintro e w2 ⟨rfl, hb⟩
  have H2 := Lib.hid (H1.out.kept hb)
  clear f0_0 f0_1 f0_2 z0
  clear hb 
  have f0_0 : w2.cell? ⟨w.heap.size, 0, none⟩ = some (.int .u8 (ak : Int)) := H2.out.cell (b := w.heap.size) (cs := #[.int .u8 (ak : Int), .int .i64 ai, .string az]) (t := 24) (fr := (0, 0)) (List.mem_cons_self ..) 0
  have f0_1 : w2.cell? ⟨w.heap.size, 1, none⟩ = some (.int .i64 ai) := H2.out.cell (b := w.heap.size) (cs := #[.int .u8 (ak : Int), .int .i64 ai, .string az]) (t := 24) (fr := (0, 0)) (List.mem_cons_self ..) 1
  have f0_2 : w2.cell? ⟨w.heap.size, 2, none⟩ = some (.string az) := H2.out.cell (b := w.heap.size) (cs := #[.int .u8 (ak : Int), .int .i64 ai, .string az]) (t := 24) (fr := (0, 0)) (List.mem_cons_self ..) 2
  have z0 : w.heap.size < w2.heap.size := lt_of_block (H2.out.get (b := w.heap.size) (o := .cells #[.int .u8 (ak : Int), .int .i64 ai, .string az] 24 (0, 0)) (List.mem_cons_self ..))
  go_wp2_with fail
  refine (fine1_new ak ai az akb _ true hfine).mono ?_
  rintro e w3 ⟨rfl, hb⟩
  have H3 := Lib.hid (H2.out.kept hb)
  clear f0_0 f0_1 f0_2 z0
  clear hb 
  have f0_0 : w3.cell? ⟨w.heap.size, 0, none⟩ = some (.int .u8 (ak : Int)) := H3.out.cell (b := w.heap.size) (cs := #[.int .u8 (ak : Int), .int .i64 ai, .string az]) (t := 24) (fr := (0, 0)) (List.mem_cons_self ..) 0
  have f0_1 : w3.cell? ⟨w.heap.size, 1, none⟩ = some (.int .i64 ai) := H3.out.cell (b := w.heap.size) (cs := #[.int .u8 (ak : Int), .int .i64 ai, .string az]) (t := 24) (fr := (0, 0)) (List.mem_cons_self ..) 1
  have f0_2 : w3.cell? ⟨w.heap.size, 2, none⟩ = some (.string az) := H3.out.cell (b := w.heap.size) (cs := #[.int .u8 (ak : Int), .int .i64 ai, .string az]) (t := 24) (fr := (0, 0)) (List.mem_cons_self ..) 2
  have z0 : w.heap.size < w3.heap.size := lt_of_block (H3.out.get (b := w.heap.size) (o := .cells #[.int .u8 (ak : Int), .int .i64 ai, .string az] 24 (0, 0)) (List.mem_cons_self ..))
  go_wp2_with fail
  have HA0 := Lib.hid (H3.out.add (below_alloc w3 (.cells #[.int .u8 0, .int .i64 0, .string ⟨#[]⟩] 24)) (Nat.le_refl _) (heap_alloc_new _ _))
  refine (two_is 17 0 0 ⟨#[]⟩ ak ai az 0 0 ⟨#[]⟩ 0 (by omega) (by omega) akb (by omega) (by omega) ai0 ai1 HR1.out _ (HW.out _ HA0.out.below)).mono ?_
  rintro e w4 ⟨rfl, hb⟩
  have H4 := Lib.hid (HA0.out.kept hb)
  clear f0_0 f0_1 f0_2 z0
  clear hb HA0
  have f0_0 : w4.cell? ⟨w3.heap.size, 0, none⟩ = some (.int .u8 0) := H4.out.cell (b := w3.heap.size) (cs := #[.int .u8 0, .int .i64 0, .string ⟨#[]⟩]) (t := 24) (fr := (0, 0)) (List.mem_cons_self ..) 0
  have f0_1 : w4.cell? ⟨w3.heap.size, 1, none⟩ = some (.int .i64 0) := H4.out.cell (b := w3.heap.size) (cs := #[.int .u8 0, .int .i64 0, .string ⟨#[]⟩]) (t := 24) (fr := (0, 0)) (List.mem_cons_self ..) 1
  have f0_2 : w4.cell? ⟨w3.heap.size, 2, none⟩ = some (.string ⟨#[]⟩) := H4.out.cell (b := w3.heap.size) (cs := #[.int .u8 0, .int .i64 0, .string ⟨#[]⟩]) (t := 24) (fr := (0, 0)) (List.mem_cons_self ..) 2
  have z0 : w3.heap.size < w4.heap.size := lt_of_block (H4.out.get (b := w3.heap.size) (o := .cells #[.int .u8 0, .int .i64 0, .string ⟨#[]⟩] 24 (0, 0)) (List.mem_cons_self ..))
  have f1_0 : w4.cell? ⟨w.heap.size, 0, none⟩ = some (.int .u8 (ak : Int)) := H4.out.cell (b := w.heap.size) (cs := #[.int .u8 (ak : Int), .int .i64 ai, .string az]) (t := 24) (fr := (0, 0)) (List.mem_cons_of_mem _ (List.mem_cons_self ..)) 0
  have f1_1 : w4.cell? ⟨w.heap.size, 1, none⟩ = some (.int .i64 ai) := H4.out.cell (b := w.heap.size) (cs := #[.int .u8 (ak : Int), .int .i64 ai, .string az]) (t := 24) (fr := (0, 0)) (List.mem_cons_of_mem _ (List.mem_cons_self ..)) 1
  have f1_2 : w4.cell? ⟨w.heap.size, 2, none⟩ = some (.string az) := H4.out.cell (b := w.heap.size) (cs := #[.int .u8 (ak : Int), .int .i64 ai, .string az]) (t := 24) (fr := (0, 0)) (List.mem_cons_of_mem _ (List.mem_cons_self ..)) 2
  have z1 : w.heap.size < w4.heap.size := lt_of_block (H4.out.get (b := w.heap.size) (o := .cells #[.int .u8 (ak : Int), .int .i64 ai, .string az] 24 (0, 0)) (List.mem_cons_of_mem _ (List.mem_cons_self ..)))
  go_wp2_with fail
  have HA0 := Lib.hid (H4.out.add (below_alloc w4 (.cells #[.int .u8 0, .int .i64 0, .string ⟨#[]⟩] 24)) (Nat.le_refl _) (heap_alloc_new _ _))
  refine (two_is 17 ak ai az 0 0 ⟨#[]⟩ 0 0 ⟨#[]⟩ 0 (by omega) akb (by omega) ai0 ai1 (by omega) (by omega) HR2.out _ (HW.out _ HA0.out.below)).mono ?_
  rintro e w5 ⟨rfl, hb⟩
  have H5 := Lib.hid (HA0.out.kept hb)
  clear f0_0 f0_1 f0_2 z0 f1_0 f1_1 f1_2 z1
  clear hb HA0
  have f0_0 : w5.cell? ⟨w4.heap.size, 0, none⟩ = some (.int .u8 0) := H5.out.cell (b := w4.heap.size) (cs := #[.int .u8 0, .int .i64 0, .string ⟨#[]⟩]) (t := 24) (fr := (0, 0)) (List.mem_cons_self ..) 0
  have f0_1 : w5.cell? ⟨w4.heap.size, 1, none⟩ = some (.int .i64 0) := H5.out.cell (b := w4.heap.size) (cs := #[.int .u8 0, .int .i64 0, .string ⟨#[]⟩]) (t := 24) (fr := (0, 0)) (List.mem_cons_self ..) 1
  have f0_2 : w5.cell? ⟨w4.heap.size, 2, none⟩ = some (.string ⟨#[]⟩) := H5.out.cell (b := w4.heap.size) (cs := #[.int .u8 0, .int .i64 0, .string ⟨#[]⟩]) (t := 24) (fr := (0, 0)) (List.mem_cons_self ..) 2
  have z0 : w4.heap.size < w5.heap.size := lt_of_block (H5.out.get (b := w4.heap.size) (o := .cells #[.int .u8 0, .int .i64 0, .string ⟨#[]⟩] 24 (0, 0)) (List.mem_cons_self ..))
  have f1_0 : w5.cell? ⟨w3.heap.size, 0, none⟩ = some (.int .u8 0) := H5.out.cell (b := w3.heap.size) (cs := #[.int .u8 0, .int .i64 0, .string ⟨#[]⟩]) (t := 24) (fr := (0, 0)) (List.mem_cons_of_mem _ (List.mem_cons_self ..)) 0
  have f1_1 : w5.cell? ⟨w3.heap.size, 1, none⟩ = some (.int .i64 0) := H5.out.cell (b := w3.heap.size) (cs := #[.int .u8 0, .int .i64 0, .string ⟨#[]⟩]) (t := 24) (fr := (0, 0)) (List.mem_cons_of_mem _ (List.mem_cons_self ..)) 1
  have f1_2 : w5.cell? ⟨w3.heap.size, 2, none⟩ = some (.string ⟨#[]⟩) := H5.out.cell (b := w3.heap.size) (cs := #[.int .u8 0, .int .i64 0, .string ⟨#[]⟩]) (t := 24) (fr := (0, 0)) (List.mem_cons_of_mem _ (List.mem_cons_self ..)) 2
  have z1 : w3.heap.size < w5.heap.size := lt_of_block (H5.out.get (b := w3.heap.size) (o := .cells #[.int .u8 0, .int .i64 0, .string ⟨#[]⟩] 24 (0, 0)) (List.mem_cons_of_mem _ (List.mem_cons_self ..)))
  have f2_0 : w5.cell? ⟨w.heap.size, 0, none⟩ = some (.int .u8 (ak : Int)) := H5.out.cell (b := w.heap.size) (cs := #[.int .u8 (ak : Int), .int .i64 ai, .string az]) (t := 24) (fr := (0, 0)) (List.mem_cons_of_mem _ (List.mem_cons_of_mem _ (List.mem_cons_self ..))) 0
  have f2_1 : w5.cell? ⟨w.heap.size, 1, none⟩ = some (.int .i64 ai) := H5.out.cell (b := w.heap.size) (cs := #[.int .u8 (ak : Int), .int .i64 ai, .string az]) (t := 24) (fr := (0, 0)) (List.mem_cons_of_mem _ (List.mem_cons_of_mem _ (List.mem_cons_self ..))) 1
  have f2_2 : w5.cell? ⟨w.heap.size, 2, none⟩ = some (.string az) := H5.out.cell (b := w.heap.size) (cs := #[.int .u8 (ak : Int), .int .i64 ai, .string az]) (t := 24) (fr := (0, 0)) (List.mem_cons_of_mem _ (List.mem_cons_of_mem _ (List.mem_cons_self ..))) 2
  have z2 : w.heap.size < w5.heap.size := lt_of_block (H5.out.get (b := w.heap.size) (o := .cells #[.int .u8 (ak : Int), .int .i64 ai, .string az] 24 (0, 0)) (List.mem_cons_of_mem _ (List.mem_cons_of_mem _ (List.mem_cons_self ..))))
  go_wp2_with fail
  have HA0 := Lib.hid (H5.out.add2 (.cells #[.int .u8 0, .int .i64 0, .string ⟨#[]⟩] 24) (.cells #[.int .u8 0, .int .i64 0, .string ⟨#[]⟩] 24))
  refine (one_yes 1 0 0 ⟨#[]⟩ 0 0 ⟨#[]⟩ 0 (by omega) (by omega) (by omega) (by omega) (by kernel_rfl) _).mono ?_
  rintro e w6 ⟨rfl, hb⟩
  have H6 := Lib.hid (HA0.out.kept hb)
  clear f0_0 f0_1 f0_2 z0 f1_0 f1_1 f1_2 z1 f2_0 f2_1 f2_2 z2
  clear hb HA0
  have f0_0 : w6.cell? ⟨w5.heap.size + 1, 0, none⟩ = some (.int .u8 0) := H6.out.cell (b := w5.heap.size + 1) (cs := #[.int .u8 0, .int .i64 0, .string ⟨#[]⟩]) (t := 24) (fr := (0, 0)) (List.mem_cons_self ..) 0
  have f0_1 : w6.cell? ⟨w5.heap.size + 1, 1, none⟩ = some (.int .i64 0) := H6.out.cell (b := w5.heap.size + 1) (cs := #[.int .u8 0, .int .i64 0, .string ⟨#[]⟩]) (t := 24) (fr := (0, 0)) (List.mem_cons_self ..) 1
  have f0_2 : w6.cell? ⟨w5.heap.size + 1, 2, none⟩ = some (.string ⟨#[]⟩) := H6.out.cell (b := w5.heap.size + 1) (cs := #[.int .u8 0, .int .i64 0, .string ⟨#[]⟩]) (t := 24) (fr := (0, 0)) (List.mem_cons_self ..) 2
  have z0 : w5.heap.size + 1 < w6.heap.size := lt_of_block (H6.out.get (b := w5.heap.size + 1) (o := .cells #[.int .u8 0, .int .i64 0, .string ⟨#[]⟩] 24 (0, 0)) (List.mem_cons_self ..))
  have f1_0 : w6.cell? ⟨w5.heap.size, 0, none⟩ = some (.int .u8 0) := H6.out.cell (b := w5.heap.size) (cs := #[.int .u8 0, .int .i64 0, .string ⟨#[]⟩]) (t := 24) (fr := (0, 0)) (List.mem_cons_of_mem _ (List.mem_cons_self ..)) 0
  have f1_1 : w6.cell? ⟨w5.heap.size, 1, none⟩ = some (.int .i64 0) := H6.out.cell (b := w5.heap.size) (cs := #[.int .u8 0, .int .i64 0, .string ⟨#[]⟩]) (t := 24) (fr := (0, 0)) (List.mem_cons_of_mem _ (List.mem_cons_self ..)) 1
  have f1_2 : w6.cell? ⟨w5.heap.size, 2, none⟩ = some (.string ⟨#[]⟩) := H6.out.cell (b := w5.heap.size) (cs := #[.int .u8 0, .int .i64 0, .string ⟨#[]⟩]) (t := 24) (fr := (0, 0)) (List.mem_cons_of_mem _ (List.mem_cons_self ..)) 2
  have z1 : w5.heap.size < w6.heap.size := lt_of_block (H6.out.get (b := w5.heap.size) (o := .cells #[.int .u8 0, .int .i64 0, .string ⟨#[]⟩] 24 (0, 0)) (List.mem_cons_of_mem _ (List.mem_cons_self ..)))
  have f2_0 : w6.cell? ⟨w4.heap.size, 0, none⟩ = some (.int .u8 0) := H6.out.cell (b := w4.heap.size) (cs := #[.int .u8 0, .int .i64 0, .string ⟨#[]⟩]) (t := 24) (fr := (0, 0)) (List.mem_cons_of_mem _ (List.mem_cons_of_mem _ (List.mem_cons_self ..))) 0
  have f2_1 : w6.cell? ⟨w4.heap.size, 1, none⟩ = some (.int .i64 0) := H6.out.cell (b := w4.heap.size) (cs := #[.int .u8 0, .int .i64 0, .string ⟨#[]⟩]) (t := 24) (fr := (0, 0)) (List.mem_cons_of_mem _ (List.mem_cons_of_mem _ (List.mem_cons_self ..))) 1
  have f2_2 : w6.cell? ⟨w4.heap.size, 2, none⟩ = some (.string ⟨#[]⟩) := H6.out.cell (b := w4.heap.size) (cs := #[.int .u8 0, .int .i64 0, .string ⟨#[]⟩]) (t := 24) (fr := (0, 0)) (List.mem_cons_of_mem _ (List.mem_cons_of_mem _ (List.mem_cons_self ..))) 2
  have z2 : w4.heap.size < w6.heap.size := lt_of_block (H6.out.get (b := w4.heap.size) (o := .cells #[.int .u8 0, .int .i64 0, .string ⟨#[]⟩] 24 (0, 0)) (List.mem_cons_of_mem _ (List.mem_cons_of_mem _ (List.mem_cons_self ..))))
  have f3_0 : w6.cell? ⟨w3.heap.size, 0, none⟩ = some (.int .u8 0) := H6.out.cell (b := w3.heap.size) (cs := #[.int .u8 0, .int .i64 0, .string ⟨#[]⟩]) (t := 24) (fr := (0, 0)) (List.mem_cons_of_mem _ (List.mem_cons_of_mem _ (List.mem_cons_of_mem _ (List.mem_cons_self ..)))) 0
  have f3_1 : w6.cell? ⟨w3.heap.size, 1, none⟩ = some (.int .i64 0) := H6.out.cell (b := w3.heap.size) (cs := #[.int .u8 0, .int .i64 0, .string ⟨#[]⟩]) (t := 24) (fr := (0, 0)) (List.mem_cons_of_mem _ (List.mem_cons_of_mem _ (List.mem_cons_of_mem _ (List.mem_cons_self ..)))) 1
  have f3_2 : w6.cell? ⟨w3.heap.size, 2, none⟩ = some (.string ⟨#[]⟩) := H6.out.cell (b := w3.heap.size) (cs := #[.int .u8 0, .int .i64 0, .string ⟨#[]⟩]) (t := 24) (fr := (0, 0)) (List.mem_cons_of_mem _ (List.mem_cons_of_mem _ (List.mem_cons_of_mem _ (List.mem_cons_self ..)))) 2
  have z3 : w3.heap.size < w6.heap.size := lt_of_block (H6.out.get (b := w3.heap.size) (o := .cells #[.int .u8 0, .int .i64 0, .string ⟨#[]⟩] 24 (0, 0)) (List.mem_cons_of_mem _ (List.mem_cons_of_mem _ (List.mem_cons_of_mem _ (List.mem_cons_self ..)))))
  have f4_0 : w6.cell? ⟨w.heap.size, 0, none⟩ = some (.int .u8 (ak : Int)) := H6.out.cell (b := w.heap.size) (cs := #[.int .u8 (ak : Int), .int .i64 ai, .string az]) (t := 24) (fr := (0, 0)) (List.mem_cons_of_mem _ (List.mem_cons_of_mem _ (List.mem_cons_of_mem _ (List.mem_cons_of_mem _ (List.mem_cons_self ..))))) 0
  have f4_1 : w6.cell? ⟨w.heap.size, 1, none⟩ = some (.int .i64 ai) := H6.out.cell (b := w.heap.size) (cs := #[.int .u8 (ak : Int), .int .i64 ai, .string az]) (t := 24) (fr := (0, 0)) (List.mem_cons_of_mem _ (List.mem_cons_of_mem _ (List.mem_cons_of_mem _ (List.mem_cons_of_mem _ (List.mem_cons_self ..))))) 1
  have f4_2 : w6.cell? ⟨w.heap.size, 2, none⟩ = some (.string az) := H6.out.cell (b := w.heap.size) (cs := #[.int .u8 (ak : Int), .int .i64 ai, .string az]) (t := 24) (fr := (0, 0)) (List.mem_cons_of_mem _ (List.mem_cons_of_mem _ (List.mem_cons_of_mem _ (List.mem_cons_of_mem _ (List.mem_cons_self ..))))) 2
  have z4 : w.heap.size < w6.heap.size := lt_of_block (H6.out.get (b := w.heap.size) (o := .cells #[.int .u8 (ak : Int), .int .i64 ai, .string az] 24 (0, 0)) (List.mem_cons_of_mem _ (List.mem_cons_of_mem _ (List.mem_cons_of_mem _ (List.mem_cons_of_mem _ (List.mem_cons_self ..))))))
  go_wp2_with fail
  refine (one_yes 2 0 0 ⟨#[]⟩ 0 0 ⟨#[]⟩ 0 (by omega) (by omega) (by omega) (by omega) (by kernel_rfl) _).mono ?_
  rintro e w7 ⟨rfl, hb⟩
  have H7 := Lib.hid (H6.out.kept hb)
  clear f0_0 f0_1 f0_2 z0 f1_0 f1_1 f1_2 z1 f2_0 f2_1 f2_2 z2 f3_0 f3_1 f3_2 z3 f4_0 f4_1 f4_2 z4
  clear hb 
  go_wp2_with fail
  go_ret
  exact ⟨rfl, H7.out.below⟩
set_option maxRecDepth 100000 in
set_option maxHeartbeats 8000000 in
theorem nothing_m18 (ak : Nat) (akb : ak < 256) (ai : Int) (ai0 : -9223372036854775808 ≤ ai) (ai1 : ai ≤ 9223372036854775807) (az : ByteArray) (azb : az.size ≤ 140737488351232) (hbig : decide ((20000 : Int) < (az.size : Int)) = false) (hfine : Val.fine ⟨ak, ai, az⟩ = true) (hk : ((ak : Int) == 2) = false) (hk1 : ((ak : Int) == 1) = true) (hi : (ai == 0) = true) (hr1 : Val.two 18 ⟨0, 0, ⟨#[]⟩⟩ ⟨ak, ai, az⟩ = (⟨0, 0, ⟨#[]⟩⟩, 0)) (hr2 : Val.two 18 ⟨ak, ai, az⟩ ⟨0, 0, ⟨#[]⟩⟩ = (⟨0, 0, ⟨#[]⟩⟩, 0)) (w : World) (hw : Wd w) :
    Calls Tryd.prog 10 #[.agg #[.int .u8 (ak : Int), .int .i64 ai, .string az], .int .u8 18] w fun e w' => e = .returned (.bool true) ∧ Below w.heap.size w w' := by
  have HR1 := Lib.hid hr1
  have HR2 := Lib.hid hr2
  clear hr1 hr2
  obtain ⟨w0, hW⟩ : ∃ w0, w0 = (w.alloc (.cells #[.int .u8 (ak : Int), .int .i64 ai, .string az] 24)) := ⟨_, rfl⟩
  have H0 : Hid (Fam w [(w.heap.size, .cells #[.int .u8 (ak : Int), .int .i64 ai, .string az] 24 (0, 0))] w0) := Lib.hid (by rw [hW]; exact fam_n1 ..)
  have HW : Hid (∀ x, Below w.heap.size w x → Wd x) := Lib.hid (fun _ h => hw.kept h)
  clear hw
  go_enter Tryd.func10, Tryd.ntmps10
  go_wp2_with fail
  rw [← hW]
  clear hW
  refine (alive_yes _ (HW.out _ H0.out.below)).mono ?_
  rintro e w1 ⟨rfl, hb⟩
  have H1 := Lib.hid (H0.out.kept hb)
  clear hb 
  have f0_0 : w1.cell? ⟨w.heap.size, 0, none⟩ = some (.int .u8 (ak : Int)) := H1.out.cell (b := w.heap.size) (cs := #[.int .u8 (ak : Int), .int .i64 ai, .string az]) (t := 24) (fr := (0, 0)) (List.mem_cons_self ..) 0
  have f0_1 : w1.cell? ⟨w.heap.size, 1, none⟩ = some (.int .i64 ai) := H1.out.cell (b := w.heap.size) (cs := #[.int .u8 (ak : Int), .int .i64 ai, .string az]) (t := 24) (fr := (0, 0)) (List.mem_cons_self ..) 1
  have f0_2 : w1.cell? ⟨w.heap.size, 2, none⟩ = some (.string az) := H1.out.cell (b := w.heap.size) (cs := #[.int .u8 (ak : Int), .int .i64 ai, .string az]) (t := 24) (fr := (0, 0)) (List.mem_cons_self ..) 2
  have z0 : w.heap.size < w1.heap.size := lt_of_block (H1.out.get (b := w.heap.size) (o := .cells #[.int .u8 (ak : Int), .int .i64 ai, .string az] 24 (0, 0)) (List.mem_cons_self ..))
  go_wp2_with fail
  refine (long1_new _ _ az azb _ false hbig).mono ?_
  rintro e w2 ⟨rfl, hb⟩
  have H2 := Lib.hid (H1.out.kept hb)
  clear f0_0 f0_1 f0_2 z0
  clear hb 
  have f0_0 : w2.cell? ⟨w.heap.size, 0, none⟩ = some (.int .u8 (ak : Int)) := H2.out.cell (b := w.heap.size) (cs := #[.int .u8 (ak : Int), .int .i64 ai, .string az]) (t := 24) (fr := (0, 0)) (List.mem_cons_self ..) 0
  have f0_1 : w2.cell? ⟨w.heap.size, 1, none⟩ = some (.int .i64 ai) := H2.out.cell (b := w.heap.size) (cs := #[.int .u8 (ak : Int), .int .i64 ai, .string az]) (t := 24) (fr := (0, 0)) (List.mem_cons_self ..) 1
  have f0_2 : w2.cell? ⟨w.heap.size, 2, none⟩ = some (.string az) := H2.out.cell (b := w.heap.size) (cs := #[.int .u8 (ak : Int), .int .i64 ai, .string az]) (t := 24) (fr := (0, 0)) (List.mem_cons_self ..) 2
  have z0 : w.heap.size < w2.heap.size := lt_of_block (H2.out.get (b := w.heap.size) (o := .cells #[.int .u8 (ak : Int), .int .i64 ai, .string az] 24 (0, 0)) (List.mem_cons_self ..))
  go_wp2_with fail
  refine (fine1_new ak ai az akb _ true hfine).mono ?_
  rintro e w3 ⟨rfl, hb⟩
  have H3 := Lib.hid (H2.out.kept hb)
  clear f0_0 f0_1 f0_2 z0
  clear hb 
  have f0_0 : w3.cell? ⟨w.heap.size, 0, none⟩ = some (.int .u8 (ak : Int)) := H3.out.cell (b := w.heap.size) (cs := #[.int .u8 (ak : Int), .int .i64 ai, .string az]) (t := 24) (fr := (0, 0)) (List.mem_cons_self ..) 0
  have f0_1 : w3.cell? ⟨w.heap.size, 1, none⟩ = some (.int .i64 ai) := H3.out.cell (b := w.heap.size) (cs := #[.int .u8 (ak : Int), .int .i64 ai, .string az]) (t := 24) (fr := (0, 0)) (List.mem_cons_self ..) 1
  have f0_2 : w3.cell? ⟨w.heap.size, 2, none⟩ = some (.string az) := H3.out.cell (b := w.heap.size) (cs := #[.int .u8 (ak : Int), .int .i64 ai, .string az]) (t := 24) (fr := (0, 0)) (List.mem_cons_self ..) 2
  have z0 : w.heap.size < w3.heap.size := lt_of_block (H3.out.get (b := w.heap.size) (o := .cells #[.int .u8 (ak : Int), .int .i64 ai, .string az] 24 (0, 0)) (List.mem_cons_self ..))
  go_wp2_with fail
  have HA0 := Lib.hid (H3.out.add (below_alloc w3 (.cells #[.int .u8 0, .int .i64 0, .string ⟨#[]⟩] 24)) (Nat.le_refl _) (heap_alloc_new _ _))
  refine (two_is 18 0 0 ⟨#[]⟩ ak ai az 0 0 ⟨#[]⟩ 0 (by omega) (by omega) akb (by omega) (by omega) ai0 ai1 HR1.out _ (HW.out _ HA0.out.below)).mono ?_
  rintro e w4 ⟨rfl, hb⟩
  have H4 := Lib.hid (HA0.out.kept hb)
  clear f0_0 f0_1 f0_2 z0
  clear hb HA0
  have f0_0 : w4.cell? ⟨w3.heap.size, 0, none⟩ = some (.int .u8 0) := H4.out.cell (b := w3.heap.size) (cs := #[.int .u8 0, .int .i64 0, .string ⟨#[]⟩]) (t := 24) (fr := (0, 0)) (List.mem_cons_self ..) 0
  have f0_1 : w4.cell? ⟨w3.heap.size, 1, none⟩ = some (.int .i64 0) := H4.out.cell (b := w3.heap.size) (cs := #[.int .u8 0, .int .i64 0, .string ⟨#[]⟩]) (t := 24) (fr := (0, 0)) (List.mem_cons_self ..) 1
  have f0_2 : w4.cell? ⟨w3.heap.size, 2, none⟩ = some (.string ⟨#[]⟩) := H4.out.cell (b := w3.heap.size) (cs := #[.int .u8 0, .int .i64 0, .string ⟨#[]⟩]) (t := 24) (fr := (0, 0)) (List.mem_cons_self ..) 2
  have z0 : w3.heap.size < w4.heap.size := lt_of_block (H4.out.get (b := w3.heap.size) (o := .cells #[.int .u8 0, .int .i64 0, .string ⟨#[]⟩] 24 (0, 0)) (List.mem_cons_self ..))
  have f1_0 : w4.cell? ⟨w.heap.size, 0, none⟩ = some (.int .u8 (ak : Int)) := H4.out.cell (b := w.heap.size) (cs := #[.int .u8 (ak : Int), .int .i64 ai, .string az]) (t := 24) (fr := (0, 0)) (List.mem_cons_of_mem _ (List.mem_cons_self ..)) 0
  have f1_1 : w4.cell? ⟨w.heap.size, 1, none⟩ = some (.int .i64 ai) := H4.out.cell (b := w.heap.size) (cs := #[.int .u8 (ak : Int), .int .i64 ai, .string az]) (t := 24) (fr := (0, 0)) (List.mem_cons_of_mem _ (List.mem_cons_self ..)) 1
  have f1_2 : w4.cell? ⟨w.heap.size, 2, none⟩ = some (.string az) := H4.out.cell (b := w.heap.size) (cs := #[.int .u8 (ak : Int), .int .i64 ai, .string az]) (t := 24) (fr := (0, 0)) (List.mem_cons_of_mem _ (List.mem_cons_self ..)) 2
  have z1 : w.heap.size < w4.heap.size := lt_of_block (H4.out.get (b := w.heap.size) (o := .cells #[.int .u8 (ak : Int), .int .i64 ai, .string az] 24 (0, 0)) (List.mem_cons_of_mem _ (List.mem_cons_self ..)))
  go_wp2_with fail
  have HA0 := Lib.hid (H4.out.add (below_alloc w4 (.cells #[.int .u8 0, .int .i64 0, .string ⟨#[]⟩] 24)) (Nat.le_refl _) (heap_alloc_new _ _))
  refine (two_is 18 ak ai az 0 0 ⟨#[]⟩ 0 0 ⟨#[]⟩ 0 (by omega) akb (by omega) ai0 ai1 (by omega) (by omega) HR2.out _ (HW.out _ HA0.out.below)).mono ?_
  rintro e w5 ⟨rfl, hb⟩
  have H5 := Lib.hid (HA0.out.kept hb)
  clear f0_0 f0_1 f0_2 z0 f1_0 f1_1 f1_2 z1
  clear hb HA0
  have f0_0 : w5.cell? ⟨w4.heap.size, 0, none⟩ = some (.int .u8 0) := H5.out.cell (b := w4.heap.size) (cs := #[.int .u8 0, .int .i64 0, .string ⟨#[]⟩]) (t := 24) (fr := (0, 0)) (List.mem_cons_self ..) 0
  have f0_1 : w5.cell? ⟨w4.heap.size, 1, none⟩ = some (.int .i64 0) := H5.out.cell (b := w4.heap.size) (cs := #[.int .u8 0, .int .i64 0, .string ⟨#[]⟩]) (t := 24) (fr := (0, 0)) (List.mem_cons_self ..) 1
  have f0_2 : w5.cell? ⟨w4.heap.size, 2, none⟩ = some (.string ⟨#[]⟩) := H5.out.cell (b := w4.heap.size) (cs := #[.int .u8 0, .int .i64 0, .string ⟨#[]⟩]) (t := 24) (fr := (0, 0)) (List.mem_cons_self ..) 2
  have z0 : w4.heap.size < w5.heap.size := lt_of_block (H5.out.get (b := w4.heap.size) (o := .cells #[.int .u8 0, .int .i64 0, .string ⟨#[]⟩] 24 (0, 0)) (List.mem_cons_self ..))
  have f1_0 : w5.cell? ⟨w3.heap.size, 0, none⟩ = some (.int .u8 0) := H5.out.cell (b := w3.heap.size) (cs := #[.int .u8 0, .int .i64 0, .string ⟨#[]⟩]) (t := 24) (fr := (0, 0)) (List.mem_cons_of_mem _ (List.mem_cons_self ..)) 0
  have f1_1 : w5.cell? ⟨w3.heap.size, 1, none⟩ = some (.int .i64 0) := H5.out.cell (b := w3.heap.size) (cs := #[.int .u8 0, .int .i64 0, .string ⟨#[]⟩]) (t := 24) (fr := (0, 0)) (List.mem_cons_of_mem _ (List.mem_cons_self ..)) 1
  have f1_2 : w5.cell? ⟨w3.heap.size, 2, none⟩ = some (.string ⟨#[]⟩) := H5.out.cell (b := w3.heap.size) (cs := #[.int .u8 0, .int .i64 0, .string ⟨#[]⟩]) (t := 24) (fr := (0, 0)) (List.mem_cons_of_mem _ (List.mem_cons_self ..)) 2
  have z1 : w3.heap.size < w5.heap.size := lt_of_block (H5.out.get (b := w3.heap.size) (o := .cells #[.int .u8 0, .int .i64 0, .string ⟨#[]⟩] 24 (0, 0)) (List.mem_cons_of_mem _ (List.mem_cons_self ..)))
  have f2_0 : w5.cell? ⟨w.heap.size, 0, none⟩ = some (.int .u8 (ak : Int)) := H5.out.cell (b := w.heap.size) (cs := #[.int .u8 (ak : Int), .int .i64 ai, .string az]) (t := 24) (fr := (0, 0)) (List.mem_cons_of_mem _ (List.mem_cons_of_mem _ (List.mem_cons_self ..))) 0
  have f2_1 : w5.cell? ⟨w.heap.size, 1, none⟩ = some (.int .i64 ai) := H5.out.cell (b := w.heap.size) (cs := #[.int .u8 (ak : Int), .int .i64 ai, .string az]) (t := 24) (fr := (0, 0)) (List.mem_cons_of_mem _ (List.mem_cons_of_mem _ (List.mem_cons_self ..))) 1
  have f2_2 : w5.cell? ⟨w.heap.size, 2, none⟩ = some (.string az) := H5.out.cell (b := w.heap.size) (cs := #[.int .u8 (ak : Int), .int .i64 ai, .string az]) (t := 24) (fr := (0, 0)) (List.mem_cons_of_mem _ (List.mem_cons_of_mem _ (List.mem_cons_self ..))) 2
  have z2 : w.heap.size < w5.heap.size := lt_of_block (H5.out.get (b := w.heap.size) (o := .cells #[.int .u8 (ak : Int), .int .i64 ai, .string az] 24 (0, 0)) (List.mem_cons_of_mem _ (List.mem_cons_of_mem _ (List.mem_cons_self ..))))
  go_wp2_with fail
  have HA0 := Lib.hid (H5.out.add2 (.cells #[.int .u8 0, .int .i64 0, .string ⟨#[]⟩] 24) (.cells #[.int .u8 0, .int .i64 0, .string ⟨#[]⟩] 24))
  refine (one_yes 1 0 0 ⟨#[]⟩ 0 0 ⟨#[]⟩ 0 (by omega) (by omega) (by omega) (by omega) (by kernel_rfl) _).mono ?_
  rintro e w6 ⟨rfl, hb⟩
  have H6 := Lib.hid (HA0.out.kept hb)
  clear f0_0 f0_1 f0_2 z0 f1_0 f1_1 f1_2 z1 f2_0 f2_1 f2_2 z2
  clear hb HA0
  have f0_0 : w6.cell? ⟨w5.heap.size + 1, 0, none⟩ = some (.int .u8 0) := H6.out.cell (b := w5.heap.size + 1) (cs := #[.int .u8 0, .int .i64 0, .string ⟨#[]⟩]) (t := 24) (fr := (0, 0)) (List.mem_cons_self ..) 0
  have f0_1 : w6.cell? ⟨w5.heap.size + 1, 1, none⟩ = some (.int .i64 0) := H6.out.cell (b := w5.heap.size + 1) (cs := #[.int .u8 0, .int .i64 0, .string ⟨#[]⟩]) (t := 24) (fr := (0, 0)) (List.mem_cons_self ..) 1
  have f0_2 : w6.cell? ⟨w5.heap.size + 1, 2, none⟩ = some (.string ⟨#[]⟩) := H6.out.cell (b := w5.heap.size + 1) (cs := #[.int .u8 0, .int .i64 0, .string ⟨#[]⟩]) (t := 24) (fr := (0, 0)) (List.mem_cons_self ..) 2
  have z0 : w5.heap.size + 1 < w6.heap.size := lt_of_block (H6.out.get (b := w5.heap.size + 1) (o := .cells #[.int .u8 0, .int .i64 0, .string ⟨#[]⟩] 24 (0, 0)) (List.mem_cons_self ..))
  have f1_0 : w6.cell? ⟨w5.heap.size, 0, none⟩ = some (.int .u8 0) := H6.out.cell (b := w5.heap.size) (cs := #[.int .u8 0, .int .i64 0, .string ⟨#[]⟩]) (t := 24) (fr := (0, 0)) (List.mem_cons_of_mem _ (List.mem_cons_self ..)) 0
  have f1_1 : w6.cell? ⟨w5.heap.size, 1, none⟩ = some (.int .i64 0) := H6.out.cell (b := w5.heap.size) (cs := #[.int .u8 0, .int .i64 0, .string ⟨#[]⟩]) (t := 24) (fr := (0, 0)) (List.mem_cons_of_mem _ (List.mem_cons_self ..)) 1
  have f1_2 : w6.cell? ⟨w5.heap.size, 2, none⟩ = some (.string ⟨#[]⟩) := H6.out.cell (b := w5.heap.size) (cs := #[.int .u8 0, .int .i64 0, .string ⟨#[]⟩]) (t := 24) (fr := (0, 0)) (List.mem_cons_of_mem _ (List.mem_cons_self ..)) 2
  have z1 : w5.heap.size < w6.heap.size := lt_of_block (H6.out.get (b := w5.heap.size) (o := .cells #[.int .u8 0, .int .i64 0, .string ⟨#[]⟩] 24 (0, 0)) (List.mem_cons_of_mem _ (List.mem_cons_self ..)))
  have f2_0 : w6.cell? ⟨w4.heap.size, 0, none⟩ = some (.int .u8 0) := H6.out.cell (b := w4.heap.size) (cs := #[.int .u8 0, .int .i64 0, .string ⟨#[]⟩]) (t := 24) (fr := (0, 0)) (List.mem_cons_of_mem _ (List.mem_cons_of_mem _ (List.mem_cons_self ..))) 0
  have f2_1 : w6.cell? ⟨w4.heap.size, 1, none⟩ = some (.int .i64 0) := H6.out.cell (b := w4.heap.size) (cs := #[.int .u8 0, .int .i64 0, .string ⟨#[]⟩]) (t := 24) (fr := (0, 0)) (List.mem_cons_of_mem _ (List.mem_cons_of_mem _ (List.mem_cons_self ..))) 1
  have f2_2 : w6.cell? ⟨w4.heap.size, 2, none⟩ = some (.string ⟨#[]⟩) := H6.out.cell (b := w4.heap.size) (cs := #[.int .u8 0, .int .i64 0, .string ⟨#[]⟩]) (t := 24) (fr := (0, 0)) (List.mem_cons_of_mem _ (List.mem_cons_of_mem _ (List.mem_cons_self ..))) 2
  have z2 : w4.heap.size < w6.heap.size := lt_of_block (H6.out.get (b := w4.heap.size) (o := .cells #[.int .u8 0, .int .i64 0, .string ⟨#[]⟩] 24 (0, 0)) (List.mem_cons_of_mem _ (List.mem_cons_of_mem _ (List.mem_cons_self ..))))
  have f3_0 : w6.cell? ⟨w3.heap.size, 0, none⟩ = some (.int .u8 0) := H6.out.cell (b := w3.heap.size) (cs := #[.int .u8 0, .int .i64 0, .string ⟨#[]⟩]) (t := 24) (fr := (0, 0)) (List.mem_cons_of_mem _ (List.mem_cons_of_mem _ (List.mem_cons_of_mem _ (List.mem_cons_self ..)))) 0
  have f3_1 : w6.cell? ⟨w3.heap.size, 1, none⟩ = some (.int .i64 0) := H6.out.cell (b := w3.heap.size) (cs := #[.int .u8 0, .int .i64 0, .string ⟨#[]⟩]) (t := 24) (fr := (0, 0)) (List.mem_cons_of_mem _ (List.mem_cons_of_mem _ (List.mem_cons_of_mem _ (List.mem_cons_self ..)))) 1
  have f3_2 : w6.cell? ⟨w3.heap.size, 2, none⟩ = some (.string ⟨#[]⟩) := H6.out.cell (b := w3.heap.size) (cs := #[.int .u8 0, .int .i64 0, .string ⟨#[]⟩]) (t := 24) (fr := (0, 0)) (List.mem_cons_of_mem _ (List.mem_cons_of_mem _ (List.mem_cons_of_mem _ (List.mem_cons_self ..)))) 2
  have z3 : w3.heap.size < w6.heap.size := lt_of_block (H6.out.get (b := w3.heap.size) (o := .cells #[.int .u8 0, .int .i64 0, .string ⟨#[]⟩] 24 (0, 0)) (List.mem_cons_of_mem _ (List.mem_cons_of_mem _ (List.mem_cons_of_mem _ (List.mem_cons_self ..)))))
  have f4_0 : w6.cell? ⟨w.heap.size, 0, none⟩ = some (.int .u8 (ak : Int)) := H6.out.cell (b := w.heap.size) (cs := #[.int .u8 (ak : Int), .int .i64 ai, .string az]) (t := 24) (fr := (0, 0)) (List.mem_cons_of_mem _ (List.mem_cons_of_mem _ (List.mem_cons_of_mem _ (List.mem_cons_of_mem _ (List.mem_cons_self ..))))) 0
  have f4_1 : w6.cell? ⟨w.heap.size, 1, none⟩ = some (.int .i64 ai) := H6.out.cell (b := w.heap.size) (cs := #[.int .u8 (ak : Int), .int .i64 ai, .string az]) (t := 24) (fr := (0, 0)) (List.mem_cons_of_mem _ (List.mem_cons_of_mem _ (List.mem_cons_of_mem _ (List.mem_cons_of_mem _ (List.mem_cons_self ..))))) 1
  have f4_2 : w6.cell? ⟨w.heap.size, 2, none⟩ = some (.string az) := H6.out.cell (b := w.heap.size) (cs := #[.int .u8 (ak : Int), .int .i64 ai, .string az]) (t := 24) (fr := (0, 0)) (List.mem_cons_of_mem _ (List.mem_cons_of_mem _ (List.mem_cons_of_mem _ (List.mem_cons_of_mem _ (List.mem_cons_self ..))))) 2
  have z4 : w.heap.size < w6.heap.size := lt_of_block (H6.out.get (b := w.heap.size) (o := .cells #[.int .u8 (ak : Int), .int .i64 ai, .string az] 24 (0, 0)) (List.mem_cons_of_mem _ (List.mem_cons_of_mem _ (List.mem_cons_of_mem _ (List.mem_cons_of_mem _ (List.mem_cons_self ..))))))
  go_wp2_with fail
  refine (one_yes 2 0 0 ⟨#[]⟩ 0 0 ⟨#[]⟩ 0 (by omega) (by omega) (by omega) (by omega) (by kernel_rfl) _).mono ?_
  rintro e w7 ⟨rfl, hb⟩
  have H7 := Lib.hid (H6.out.kept hb)
  clear f0_0 f0_1 f0_2 z0 f1_0 f1_1 f1_2 z1 f2_0 f2_1 f2_2 z2 f3_0 f3_1 f3_2 z3 f4_0 f4_1 f4_2 z4
  clear hb 
  go_wp2_with fail
  go_ret
  exact ⟨rfl, H7.out.below⟩
set_option maxRecDepth 100000 in
set_option maxHeartbeats 8000000 in
theorem nothing_y17 (ak : Nat) (akb : ak < 256) (ai : Int) (ai0 : -9223372036854775808 ≤ ai) (ai1 : ai ≤ 9223372036854775807) (az : ByteArray) (azb : az.size ≤ 140737488351232) (hbig : decide ((20000 : Int) < (az.size : Int)) = false) (hfine : Val.fine ⟨ak, ai, az⟩ = true) (hk : ((ak : Int) == 2) = false) (hk1 : ((ak : Int) == 1) = true) (hi : (ai == 0) = true) (hr1 : Val.two 17 ⟨0, 0, ⟨#[]⟩⟩ ⟨ak, ai, az⟩ = (⟨1, 0, ⟨#[]⟩⟩, 0)) (hr2 : Val.two 17 ⟨ak, ai, az⟩ ⟨0, 0, ⟨#[]⟩⟩ = (⟨1, 0, ⟨#[]⟩⟩, 0)) (w : World) (hw : Wd w) :
    Calls Tryd.prog 10 #[.agg #[.int .u8 (ak : Int), .int .i64 ai, .string az], .int .u8 17] w fun e w' => e = .returned (.bool true) ∧ Below w.heap.size w w' := by
  have HR1 := Lib.hid hr1
  have HR2 := Lib.hid hr2
  clear hr1 hr2
  obtain ⟨w0, hW⟩ : ∃ w0, w0 = (w.alloc (.cells #[.int .u8 (ak : Int), .int .i64 ai, .string az] 24)) := ⟨_, rfl⟩
  have H0 : Hid (Fam w [(w.heap.size, .cells #[.int .u8 (ak : Int), .int .i64 ai, .string az] 24 (0, 0))] w0) := Lib.hid (by rw [hW]; exact fam_n1 ..)
  have HW : Hid (∀ x, Below w.heap.size w x → Wd x) := Lib.hid (fun _ h => hw.kept h)
  clear hw
  go_enter Tryd.func10, Tryd.ntmps10
  go_wp2_with fail
  rw [← hW]
  clear hW
  refine (alive_yes _ (HW.out _ H0.out.below)).mono ?_
  rintro e w1 ⟨rfl, hb⟩
  have H1 := Lib.hid (H0.out.kept hb)
  clear hb 
  have f0_0 : w1.cell? ⟨w.heap.size, 0, none⟩ = some (.int .u8 (ak : Int)) := H1.out.cell (b := w.heap.size) (cs := #[.int .u8 (ak : Int), .int .i64 ai, .string az]) (t := 24) (fr := (0, 0)) (List.mem_cons_self ..) 0
  have f0_1 : w1.cell? ⟨w.heap.size, 1, none⟩ = some (.int .i64 ai) := H1.out.cell (b := w.heap.size) (cs := #[.int .u8 (ak : Int), .int .i64 ai, .string az]) (t := 24) (fr := (0, 0)) (List.mem_cons_self ..) 1
  have f0_2 : w1.cell? ⟨w.heap.size, 2, none⟩ = some (.string az) := H1.out.cell (b := w.heap.size) (cs := #[.int .u8 (ak : Int), .int .i64 ai, .string az]) (t := 24) (fr := (0, 0)) (List.mem_cons_self ..) 2
  have z0 : w.heap.size < w1.heap.size := lt_of_block (H1.out.get (b := w.heap.size) (o := .cells #[.int .u8 (ak : Int), .int .i64 ai, .string az] 24 (0, 0)) (List.mem_cons_self ..))
  go_wp2_with fail
  refine (long1_new _ _ az azb _ false hbig).mono ?_
  rintro e w2 ⟨rfl, hb⟩
  have H2 := Lib.hid (H1.out.kept hb)
  clear f0_0 f0_1 f0_2 z0
  clear hb 
  have f0_0 : w2.cell? ⟨w.heap.size, 0, none⟩ = some (.int .u8 (ak : Int)) := H2.out.cell (b := w.heap.size) (cs := #[.int .u8 (ak : Int), .int .i64 ai, .string az]) (t := 24) (fr := (0, 0)) (List.mem_cons_self ..) 0
  have f0_1 : w2.cell? ⟨w.heap.size, 1, none⟩ = some (.int .i64 ai) := H2.out.cell (b := w.heap.size) (cs := #[.int .u8 (ak : Int), .int .i64 ai, .string az]) (t := 24) (fr := (0, 0)) (List.mem_cons_self ..) 1
  have f0_2 : w2.cell? ⟨w.heap.size, 2, none⟩ = some (.string az) := H2.out.cell (b := w.heap.size) (cs := #[.int .u8 (ak : Int), .int .i64 ai, .string az]) (t := 24) (fr := (0, 0)) (List.mem_cons_self ..) 2
  have z0 : w.heap.size < w2.heap.size := lt_of_block (H2.out.get (b := w.heap.size) (o := .cells #[.int .u8 (ak : Int), .int .i64 ai, .string az] 24 (0, 0)) (List.mem_cons_self ..))
  go_wp2_with fail
  refine (fine1_new ak ai az akb _ true hfine).mono ?_
  rintro e w3 ⟨rfl, hb⟩
  have H3 := Lib.hid (H2.out.kept hb)
  clear f0_0 f0_1 f0_2 z0
  clear hb 
  have f0_0 : w3.cell? ⟨w.heap.size, 0, none⟩ = some (.int .u8 (ak : Int)) := H3.out.cell (b := w.heap.size) (cs := #[.int .u8 (ak : Int), .int .i64 ai, .string az]) (t := 24) (fr := (0, 0)) (List.mem_cons_self ..) 0
  have f0_1 : w3.cell? ⟨w.heap.size, 1, none⟩ = some (.int .i64 ai) := H3.out.cell (b := w.heap.size) (cs := #[.int .u8 (ak : Int), .int .i64 ai, .string az]) (t := 24) (fr := (0, 0)) (List.mem_cons_self ..) 1
  have f0_2 : w3.cell? ⟨w.heap.size, 2, none⟩ = some (.string az) := H3.out.cell (b := w.heap.size) (cs := #[.int .u8 (ak : Int), .int .i64 ai, .string az]) (t := 24) (fr := (0, 0)) (List.mem_cons_self ..) 2
  have z0 : w.heap.size < w3.heap.size := lt_of_block (H3.out.get (b := w.heap.size) (o := .cells #[.int .u8 (ak : Int), .int .i64 ai, .string az] 24 (0, 0)) (List.mem_cons_self ..))
  go_wp2_with fail
  have HA0 := Lib.hid (H3.out.add (below_alloc w3 (.cells #[.int .u8 0, .int .i64 0, .string ⟨#[]⟩] 24)) (Nat.le_refl _) (heap_alloc_new _ _))
  refine (two_is 17 0 0 ⟨#[]⟩ ak ai az 1 0 ⟨#[]⟩ 0 (by omega) (by omega) akb (by omega) (by omega) ai0 ai1 HR1.out _ (HW.out _ HA0.out.below)).mono ?_
  rintro e w4 ⟨rfl, hb⟩
  have H4 := Lib.hid (HA0.out.kept hb)
  clear f0_0 f0_1 f0_2 z0
  clear hb HA0
  have f0_0 : w4.cell? ⟨w3.heap.size, 0, none⟩ = some (.int .u8 0) := H4.out.cell (b := w3.heap.size) (cs := #[.int .u8 0, .int .i64 0, .string ⟨#[]⟩]) (t := 24) (fr := (0, 0)) (List.mem_cons_self ..) 0
  have f0_1 : w4.cell? ⟨w3.heap.size, 1, none⟩ = some (.int .i64 0) := H4.out.cell (b := w3.heap.size) (cs := #[.int .u8 0, .int .i64 0, .string ⟨#[]⟩]) (t := 24) (fr := (0, 0)) (List.mem_cons_self ..) 1
  have f0_2 : w4.cell? ⟨w3.heap.size, 2, none⟩ = some (.string ⟨#[]⟩) := H4.out.cell (b := w3.heap.size) (cs := #[.int .u8 0, .int .i64 0, .string ⟨#[]⟩]) (t := 24) (fr := (0, 0)) (List.mem_cons_self ..) 2
  have z0 : w3.heap.size < w4.heap.size := lt_of_block (H4.out.get (b := w3.heap.size) (o := .cells #[.int .u8 0, .int .i64 0, .string ⟨#[]⟩] 24 (0, 0)) (List.mem_cons_self ..))
  have f1_0 : w4.cell? ⟨w.heap.size, 0, none⟩ = some (.int .u8 (ak : Int)) := H4.out.cell (b := w.heap.size) (cs := #[.int .u8 (ak : Int), .int .i64 ai, .string az]) (t := 24) (fr := (0, 0)) (List.mem_cons_of_mem _ (List.mem_cons_self ..)) 0
  have f1_1 : w4.cell? ⟨w.heap.size, 1, none⟩ = some (.int .i64 ai) := H4.out.cell (b := w.heap.size) (cs := #[.int .u8 (ak : Int), .int .i64 ai, .string az]) (t := 24) (fr := (0, 0)) (List.mem_cons_of_mem _ (List.mem_cons_self ..)) 1
  have f1_2 : w4.cell? ⟨w.heap.size, 2, none⟩ = some (.string az) := H4.out.cell (b := w.heap.size) (cs := #[.int .u8 (ak : Int), .int .i64 ai, .string az]) (t := 24) (fr := (0, 0)) (List.mem_cons_of_mem _ (List.mem_cons_self ..)) 2
  have z1 : w.heap.size < w4.heap.size := lt_of_block (H4.out.get (b := w.heap.size) (o := .cells #[.int .u8 (ak : Int), .int .i64 ai, .string az] 24 (0, 0)) (List.mem_cons_of_mem _ (List.mem_cons_self ..)))
  go_wp2_with fail
  have HA0 := Lib.hid (H4.out.add (below_alloc w4 (.cells #[.int .u8 1, .int .i64 0, .string ⟨#[]⟩] 24)) (Nat.le_refl _) (heap_alloc_new _ _))
  refine (two_is 17 ak ai az 0 0 ⟨#[]⟩ 1 0 ⟨#[]⟩ 0 (by omega) akb (by omega) ai0 ai1 (by omega) (by omega) HR2.out _ (HW.out _ HA0.out.below)).mono ?_
  rintro e w5 ⟨rfl, hb⟩
  have H5 := Lib.hid (HA0.out.kept hb)
  clear f0_0 f0_1 f0_2 z0 f1_0 f1_1 f1_2 z1
  clear hb HA0
  have f0_0 : w5.cell? ⟨w4.heap.size, 0, none⟩ = some (.int .u8 1) := H5.out.cell (b := w4.heap.size) (cs := #[.int .u8 1, .int .i64 0, .string ⟨#[]⟩]) (t := 24) (fr := (0, 0)) (List.mem_cons_self ..) 0
  have f0_1 : w5.cell? ⟨w4.heap.size, 1, none⟩ = some (.int .i64 0) := H5.out.cell (b := w4.heap.size) (cs := #[.int .u8 1, .int .i64 0, .string ⟨#[]⟩]) (t := 24) (fr := (0, 0)) (List.mem_cons_self ..) 1
  have f0_2 : w5.cell? ⟨w4.heap.size, 2, none⟩ = some (.string ⟨#[]⟩) := H5.out.cell (b := w4.heap.size) (cs := #[.int .u8 1, .int .i64 0, .string ⟨#[]⟩]) (t := 24) (fr := (0, 0)) (List.mem_cons_self ..) 2
  have z0 : w4.heap.size < w5.heap.size := lt_of_block (H5.out.get (b := w4.heap.size) (o := .cells #[.int .u8 1, .int .i64 0, .string ⟨#[]⟩] 24 (0, 0)) (List.mem_cons_self ..))
  have f1_0 : w5.cell? ⟨w3.heap.size, 0, none⟩ = some (.int .u8 0) := H5.out.cell (b := w3.heap.size) (cs := #[.int .u8 0, .int .i64 0, .string ⟨#[]⟩]) (t := 24) (fr := (0, 0)) (List.mem_cons_of_mem _ (List.mem_cons_self ..)) 0
  have f1_1 : w5.cell? ⟨w3.heap.size, 1, none⟩ = some (.int .i64 0) := H5.out.cell (b := w3.heap.size) (cs := #[.int .u8 0, .int .i64 0, .string ⟨#[]⟩]) (t := 24) (fr := (0, 0)) (List.mem_cons_of_mem _ (List.mem_cons_self ..)) 1
  have f1_2 : w5.cell? ⟨w3.heap.size, 2, none⟩ = some (.string ⟨#[]⟩) := H5.out.cell (b := w3.heap.size) (cs := #[.int .u8 0, .int .i64 0, .string ⟨#[]⟩]) (t := 24) (fr := (0, 0)) (List.mem_cons_of_mem _ (List.mem_cons_self ..)) 2
  have z1 : w3.heap.size < w5.heap.size := lt_of_block (H5.out.get (b := w3.heap.size) (o := .cells #[.int .u8 0, .int .i64 0, .string ⟨#[]⟩] 24 (0, 0)) (List.mem_cons_of_mem _ (List.mem_cons_self ..)))
  have f2_0 : w5.cell? ⟨w.heap.size, 0, none⟩ = some (.int .u8 (ak : Int)) := H5.out.cell (b := w.heap.size) (cs := #[.int .u8 (ak : Int), .int .i64 ai, .string az]) (t := 24) (fr := (0, 0)) (List.mem_cons_of_mem _ (List.mem_cons_of_mem _ (List.mem_cons_self ..))) 0
  have f2_1 : w5.cell? ⟨w.heap.size, 1, none⟩ = some (.int .i64 ai) := H5.out.cell (b := w.heap.size) (cs := #[.int .u8 (ak : Int), .int .i64 ai, .string az]) (t := 24) (fr := (0, 0)) (List.mem_cons_of_mem _ (List.mem_cons_of_mem _ (List.mem_cons_self ..))) 1
  have f2_2 : w5.cell? ⟨w.heap.size, 2, none⟩ = some (.string az) := H5.out.cell (b := w.heap.size) (cs := #[.int .u8 (ak : Int), .int .i64 ai, .string az]) (t := 24) (fr := (0, 0)) (List.mem_cons_of_mem _ (List.mem_cons_of_mem _ (List.mem_cons_self ..))) 2
  have z2 : w.heap.size < w5.heap.size := lt_of_block (H5.out.get (b := w.heap.size) (o := .cells #[.int .u8 (ak : Int), .int .i64 ai, .string az] 24 (0, 0)) (List.mem_cons_of_mem _ (List.mem_cons_of_mem _ (List.mem_cons_self ..))))
  go_wp2_with fail
  have u0 : w4.heap.size < w5.heap.size := lt_of_block (H5.out.get (b := w4.heap.size) (o := .cells #[.int .u8 1, .int .i64 0, .string ⟨#[]⟩] 24 (0, 0)) (List.mem_cons_self ..))
  have u1 : w3.heap.size < w5.heap.size := lt_of_block (H5.out.get (b := w3.heap.size) (o := .cells #[.int .u8 0, .int .i64 0, .string ⟨#[]⟩] 24 (0, 0)) (List.mem_cons_of_mem _ (List.mem_cons_self ..)))
  have u2 : w.heap.size < w5.heap.size := lt_of_block (H5.out.get (b := w.heap.size) (o := .cells #[.int .u8 (ak : Int), .int .i64 ai, .string az] 24 (0, 0)) (List.mem_cons_of_mem _ (List.mem_cons_of_mem _ (List.mem_cons_self ..))))
  have HA0 := Lib.hid (H5.out.add2 (.cells #[.int .u8 1, .int .i64 0, .string ⟨#[]⟩] 24) (.cells #[.int .u8 0, .int .i64 0, .string ⟨#[]⟩] 24))
  refine (n_any 0 _).mono ?_
  rintro e w6 ⟨rfl, hb⟩
  have H6 := Lib.hid (HA0.out.kept hb)
  clear f0_0 f0_1 f0_2 z0 f1_0 f1_1 f1_2 z1 f2_0 f2_1 f2_2 z2
  clear hb HA0
  have f0_0 : w6.cell? ⟨w5.heap.size + 1, 0, none⟩ = some (.int .u8 0) := H6.out.cell (b := w5.heap.size + 1) (cs := #[.int .u8 0, .int .i64 0, .string ⟨#[]⟩]) (t := 24) (fr := (0, 0)) (List.mem_cons_self ..) 0
  have f0_1 : w6.cell? ⟨w5.heap.size + 1, 1, none⟩ = some (.int .i64 0) := H6.out.cell (b := w5.heap.size + 1) (cs := #[.int .u8 0, .int .i64 0, .string ⟨#[]⟩]) (t := 24) (fr := (0, 0)) (List.mem_cons_self ..) 1
  have f0_2 : w6.cell? ⟨w5.heap.size + 1, 2, none⟩ = some (.string ⟨#[]⟩) := H6.out.cell (b := w5.heap.size + 1) (cs := #[.int .u8 0, .int .i64 0, .string ⟨#[]⟩]) (t := 24) (fr := (0, 0)) (List.mem_cons_self ..) 2
  have z0 : w5.heap.size + 1 < w6.heap.size := lt_of_block (H6.out.get (b := w5.heap.size + 1) (o := .cells #[.int .u8 0, .int .i64 0, .string ⟨#[]⟩] 24 (0, 0)) (List.mem_cons_self ..))
  have g0_0 : w6.frozen? ⟨w5.heap.size + 1, 0, none⟩ = false := H6.out.free (b := w5.heap.size + 1) (cs := #[.int .u8 0, .int .i64 0, .string ⟨#[]⟩]) (t := 24) (List.mem_cons_self ..) 0
  have g0_1 : w6.frozen? ⟨w5.heap.size + 1, 1, none⟩ = false := H6.out.free (b := w5.heap.size + 1) (cs := #[.int .u8 0, .int .i64 0, .string ⟨#[]⟩]) (t := 24) (List.mem_cons_self ..) 1
  have g0_2 : w6.frozen? ⟨w5.heap.size + 1, 2, none⟩ = false := H6.out.free (b := w5.heap.size + 1) (cs := #[.int .u8 0, .int .i64 0, .string ⟨#[]⟩]) (t := 24) (List.mem_cons_self ..) 2
  have f1_0 : w6.cell? ⟨w5.heap.size, 0, none⟩ = some (.int .u8 1) := H6.out.cell (b := w5.heap.size) (cs := #[.int .u8 1, .int .i64 0, .string ⟨#[]⟩]) (t := 24) (fr := (0, 0)) (List.mem_cons_of_mem _ (List.mem_cons_self ..)) 0
  have f1_1 : w6.cell? ⟨w5.heap.size, 1, none⟩ = some (.int .i64 0) := H6.out.cell (b := w5.heap.size) (cs := #[.int .u8 1, .int .i64 0, .string ⟨#[]⟩]) (t := 24) (fr := (0, 0)) (List.mem_cons_of_mem _ (List.mem_cons_self ..)) 1
  have f1_2 : w6.cell? ⟨w5.heap.size, 2, none⟩ = some (.string ⟨#[]⟩) := H6.out.cell (b := w5.heap.size) (cs := #[.int .u8 1, .int .i64 0, .string ⟨#[]⟩]) (t := 24) (fr := (0, 0)) (List.mem_cons_of_mem _ (List.mem_cons_self ..)) 2
  have z1 : w5.heap.size < w6.heap.size := lt_of_block (H6.out.get (b := w5.heap.size) (o := .cells #[.int .u8 1, .int .i64 0, .string ⟨#[]⟩] 24 (0, 0)) (List.mem_cons_of_mem _ (List.mem_cons_self ..)))
  have f2_0 : w6.cell? ⟨w4.heap.size, 0, none⟩ = some (.int .u8 1) := H6.out.cell (b := w4.heap.size) (cs := #[.int .u8 1, .int .i64 0, .string ⟨#[]⟩]) (t := 24) (fr := (0, 0)) (List.mem_cons_of_mem _ (List.mem_cons_of_mem _ (List.mem_cons_self ..))) 0
  have f2_1 : w6.cell? ⟨w4.heap.size, 1, none⟩ = some (.int .i64 0) := H6.out.cell (b := w4.heap.size) (cs := #[.int .u8 1, .int .i64 0, .string ⟨#[]⟩]) (t := 24) (fr := (0, 0)) (List.mem_cons_of_mem _ (List.mem_cons_of_mem _ (List.mem_cons_self ..))) 1
  have f2_2 : w6.cell? ⟨w4.heap.size, 2, none⟩ = some (.string ⟨#[]⟩) := H6.out.cell (b := w4.heap.size) (cs := #[.int .u8 1, .int .i64 0, .string ⟨#[]⟩]) (t := 24) (fr := (0, 0)) (List.mem_cons_of_mem _ (List.mem_cons_of_mem _ (List.mem_cons_self ..))) 2
  have z2 : w4.heap.size < w6.heap.size := lt_of_block (H6.out.get (b := w4.heap.size) (o := .cells #[.int .u8 1, .int .i64 0, .string ⟨#[]⟩] 24 (0, 0)) (List.mem_cons_of_mem _ (List.mem_cons_of_mem _ (List.mem_cons_self ..))))
  have f3_0 : w6.cell? ⟨w3.heap.size, 0, none⟩ = some (.int .u8 0) := H6.out.cell (b := w3.heap.size) (cs := #[.int .u8 0, .int .i64 0, .string ⟨#[]⟩]) (t := 24) (fr := (0, 0)) (List.mem_cons_of_mem _ (List.mem_cons_of_mem _ (List.mem_cons_of_mem _ (List.mem_cons_self ..)))) 0
  have f3_1 : w6.cell? ⟨w3.heap.size, 1, none⟩ = some (.int .i64 0) := H6.out.cell (b := w3.heap.size) (cs := #[.int .u8 0, .int .i64 0, .string ⟨#[]⟩]) (t := 24) (fr := (0, 0)) (List.mem_cons_of_mem _ (List.mem_cons_of_mem _ (List.mem_cons_of_mem _ (List.mem_cons_self ..)))) 1
  have f3_2 : w6.cell? ⟨w3.heap.size, 2, none⟩ = some (.string ⟨#[]⟩) := H6.out.cell (b := w3.heap.size) (cs := #[.int .u8 0, .int .i64 0, .string ⟨#[]⟩]) (t := 24) (fr := (0, 0)) (List.mem_cons_of_mem _ (List.mem_cons_of_mem _ (List.mem_cons_of_mem _ (List.mem_cons_self ..)))) 2
  have z3 : w3.heap.size < w6.heap.size := lt_of_block (H6.out.get (b := w3.heap.size) (o := .cells #[.int .u8 0, .int .i64 0, .string ⟨#[]⟩] 24 (0, 0)) (List.mem_cons_of_mem _ (List.mem_cons_of_mem _ (List.mem_cons_of_mem _ (List.mem_cons_self ..)))))
  have f4_0 : w6.cell? ⟨w.heap.size, 0, none⟩ = some (.int .u8 (ak : Int)) := H6.out.cell (b := w.heap.size) (cs := #[.int .u8 (ak : Int), .int .i64 ai, .string az]) (t := 24) (fr := (0, 0)) (List.mem_cons_of_mem _ (List.mem_cons_of_mem _ (List.mem_cons_of_mem _ (List.mem_cons_of_mem _ (List.mem_cons_self ..))))) 0
  have f4_1 : w6.cell? ⟨w.heap.size, 1, none⟩ = some (.int .i64 ai) := H6.out.cell (b := w.heap.size) (cs := #[.int .u8 (ak : Int), .int .i64 ai, .string az]) (t := 24) (fr := (0, 0)) (List.mem_cons_of_mem _ (List.mem_cons_of_mem _ (List.mem_cons_of_mem _ (List.mem_cons_of_mem _ (List.mem_cons_self ..))))) 1
  have f4_2 : w6.cell? ⟨w.heap.size, 2, none⟩ = some (.string az) := H6.out.cell (b := w.heap.size) (cs := #[.int .u8 (ak : Int), .int .i64 ai, .string az]) (t := 24) (fr := (0, 0)) (List.mem_cons_of_mem _ (List.mem_cons_of_mem _ (List.mem_cons_of_mem _ (List.mem_cons_of_mem _ (List.mem_cons_self ..))))) 2
  have z4 : w.heap.size < w6.heap.size := lt_of_block (H6.out.get (b := w.heap.size) (o := .cells #[.int .u8 (ak : Int), .int .i64 ai, .string az] 24 (0, 0)) (List.mem_cons_of_mem _ (List.mem_cons_of_mem _ (List.mem_cons_of_mem _ (List.mem_cons_of_mem _ (List.mem_cons_self ..))))))
  have ne1 : w5.heap.size ≠ w5.heap.size + 1 := by omega
  have ne2 : w4.heap.size ≠ w5.heap.size + 1 := by omega
  have ne3 : w3.heap.size ≠ w5.heap.size + 1 := by omega
  have ne4 : w.heap.size ≠ w5.heap.size + 1 := by omega
  go_wp2_with fail
  have HS := Lib.hid (H6.out.set3 (b := w5.heap.size + 1) (u0 := .int .u8 1) (u1 := .int .i64 0) (u2 := .string ⟨#[]⟩) (fun x hx => by simp only [List.mem_cons, List.not_mem_nil, or_false] at hx; rcases hx with rfl | rfl | rfl | rfl <;> simp only <;> omega))
  refine (one_yes 1 0 0 ⟨#[]⟩ 0 0 ⟨#[]⟩ 0 (by omega) (by omega) (by omega) (by omega) (by kernel_rfl) _).mono ?_
  rintro e w7 ⟨rfl, hb⟩
  have H7 := Lib.hid (HS.out.kept hb)
  clear f0_0 f0_1 f0_2 z0 g0_0 g0_1 g0_2 f1_0 f1_1 f1_2 z1 f2_0 f2_1 f2_2 z2 f3_0 f3_1 f3_2 z3 f4_0 f4_1 f4_2 z4 ne1 ne2 ne3 ne4
  clear hb HS
  have f0_0 : w7.cell? ⟨w5.heap.size + 1, 0, none⟩ = some (.int .u8 1) := H7.out.cell (b := w5.heap.size + 1) (cs := #[.int .u8 1, .int .i64 0, .string ⟨#[]⟩]) (t := 24) (fr := (0, 0)) (List.mem_cons_self ..) 0
  have f0_1 : w7.cell? ⟨w5.heap.size + 1, 1, none⟩ = some (.int .i64 0) := H7.out.cell (b := w5.heap.size + 1) (cs := #[.int .u8 1, .int .i64 0, .string ⟨#[]⟩]) (t := 24) (fr := (0, 0)) (List.mem_cons_self ..) 1
  have f0_2 : w7.cell? ⟨w5.heap.size + 1, 2, none⟩ = some (.string ⟨#[]⟩) := H7.out.cell (b := w5.heap.size + 1) (cs := #[.int .u8 1, .int .i64 0, .string ⟨#[]⟩]) (t := 24) (fr := (0, 0)) (List.mem_cons_self ..) 2
  have z0 : w5.heap.size + 1 < w7.heap.size := lt_of_block (H7.out.get (b := w5.heap.size + 1) (o := .cells #[.int .u8 1, .int .i64 0, .string ⟨#[]⟩] 24 (0, 0)) (List.mem_cons_self ..))
  have f1_0 : w7.cell? ⟨w5.heap.size, 0, none⟩ = some (.int .u8 1) := H7.out.cell (b := w5.heap.size) (cs := #[.int .u8 1, .int .i64 0, .string ⟨#[]⟩]) (t := 24) (fr := (0, 0)) (List.mem_cons_of_mem _ (List.mem_cons_self ..)) 0
  have f1_1 : w7.cell? ⟨w5.heap.size, 1, none⟩ = some (.int .i64 0) := H7.out.cell (b := w5.heap.size) (cs := #[.int .u8 1, .int .i64 0, .string ⟨#[]⟩]) (t := 24) (fr := (0, 0)) (List.mem_cons_of_mem _ (List.mem_cons_self ..)) 1
  have f1_2 : w7.cell? ⟨w5.heap.size, 2, none⟩ = some (.string ⟨#[]⟩) := H7.out.cell (b := w5.heap.size) (cs := #[.int .u8 1, .int .i64 0, .string ⟨#[]⟩]) (t := 24) (fr := (0, 0)) (List.mem_cons_of_mem _ (List.mem_cons_self ..)) 2
  have z1 : w5.heap.size < w7.heap.size := lt_of_block (H7.out.get (b := w5.heap.size) (o := .cells #[.int .u8 1, .int .i64 0, .string ⟨#[]⟩] 24 (0, 0)) (List.mem_cons_of_mem _ (List.mem_cons_self ..)))
  have f2_0 : w7.cell? ⟨w4.heap.size, 0, none⟩ = some (.int .u8 1) := H7.out.cell (b := w4.heap.size) (cs := #[.int .u8 1, .int .i64 0, .string ⟨#[]⟩]) (t := 24) (fr := (0, 0)) (List.mem_cons_of_mem _ (List.mem_cons_of_mem _ (List.mem_cons_self ..))) 0
  have f2_1 : w7.cell? ⟨w4.heap.size, 1, none⟩ = some (.int .i64 0) := H7.out.cell (b := w4.heap.size) (cs := #[.int .u8 1, .int .i64 0, .string ⟨#[]⟩]) (t := 24) (fr := (0, 0)) (List.mem_cons_of_mem _ (List.mem_cons_of_mem _ (List.mem_cons_self ..))) 1
  have f2_2 : w7.cell? ⟨w4.heap.size, 2, none⟩ = some (.string ⟨#[]⟩) := H7.out.cell (b := w4.heap.size) (cs := #[.int .u8 1, .int .i64 0, .string ⟨#[]⟩]) (t := 24) (fr := (0, 0)) (List.mem_cons_of_mem _ (List.mem_cons_of_mem _ (List.mem_cons_self ..))) 2
  have z2 : w4.heap.size < w7.heap.size := lt_of_block (H7.out.get (b := w4.heap.size) (o := .cells #[.int .u8 1, .int .i64 0, .string ⟨#[]⟩] 24 (0, 0)) (List.mem_cons_of_mem _ (List.mem_cons_of_mem _ (List.mem_cons_self ..))))
  have f3_0 : w7.cell? ⟨w3.heap.size, 0, none⟩ = some (.int .u8 0) := H7.out.cell (b := w3.heap.size) (cs := #[.int .u8 0, .int .i64 0, .string ⟨#[]⟩]) (t := 24) (fr := (0, 0)) (List.mem_cons_of_mem _ (List.mem_cons_of_mem _ (List.mem_cons_of_mem _ (List.mem_cons_self ..)))) 0
  have f3_1 : w7.cell? ⟨w3.heap.size, 1, none⟩ = some (.int .i64 0) := H7.out.cell (b := w3.heap.size) (cs := #[.int .u8 0, .int .i64 0, .string ⟨#[]⟩]) (t := 24) (fr := (0, 0)) (List.mem_cons_of_mem _ (List.mem_cons_of_mem _ (List.mem_cons_of_mem _ (List.mem_cons_self ..)))) 1
  have f3_2 : w7.cell? ⟨w3.heap.size, 2, none⟩ = some (.string ⟨#[]⟩) := H7.out.cell (b := w3.heap.size) (cs := #[.int .u8 0, .int .i64 0, .string ⟨#[]⟩]) (t := 24) (fr := (0, 0)) (List.mem_cons_of_mem _ (List.mem_cons_of_mem _ (List.mem_cons_of_mem _ (List.mem_cons_self ..)))) 2
  have z3 : w3.heap.size < w7.heap.size := lt_of_block (H7.out.get (b := w3.heap.size) (o := .cells #[.int .u8 0, .int .i64 0, .string ⟨#[]⟩] 24 (0, 0)) (List.mem_cons_of_mem _ (List.mem_cons_of_mem _ (List.mem_cons_of_mem _ (List.mem_cons_self ..)))))
  have f4_0 : w7.cell? ⟨w.heap.size, 0, none⟩ = some (.int .u8 (ak : Int)) := H7.out.cell (b := w.heap.size) (cs := #[.int .u8 (ak : Int), .int .i64 ai, .string az]) (t := 24) (fr := (0, 0)) (List.mem_cons_of_mem _ (List.mem_cons_of_mem _ (List.mem_cons_of_mem _ (List.mem_cons_of_mem _ (List.mem_cons_self ..))))) 0
  have f4_1 : w7.cell? ⟨w.heap.size, 1, none⟩ = some (.int .i64 ai) := H7.out.cell (b := w.heap.size) (cs := #[.int .u8 (ak : Int), .int .i64 ai, .string az]) (t := 24) (fr := (0, 0)) (List.mem_cons_of_mem _ (List.mem_cons_of_mem _ (List.mem_cons_of_mem _ (List.mem_cons_of_mem _ (List.mem_cons_self ..))))) 1
  have f4_2 : w7.cell? ⟨w.heap.size, 2, none⟩ = some (.string az) := H7.out.cell (b := w.heap.size) (cs := #[.int .u8 (ak : Int), .int .i64 ai, .string az]) (t := 24) (fr := (0, 0)) (List.mem_cons_of_mem _ (List.mem_cons_of_mem _ (List.mem_cons_of_mem _ (List.mem_cons_of_mem _ (List.mem_cons_self ..))))) 2
  have z4 : w.heap.size < w7.heap.size := lt_of_block (H7.out.get (b := w.heap.size) (o := .cells #[.int .u8 (ak : Int), .int .i64 ai, .string az] 24 (0, 0)) (List.mem_cons_of_mem _ (List.mem_cons_of_mem _ (List.mem_cons_of_mem _ (List.mem_cons_of_mem _ (List.mem_cons_self ..))))))
  go_wp2_with fail
  refine (one_yes 2 0 0 ⟨#[]⟩ 0 0 ⟨#[]⟩ 0 (by omega) (by omega) (by omega) (by omega) (by kernel_rfl) _).mono ?_
  rintro e w8 ⟨rfl, hb⟩
  have H8 := Lib.hid (H7.out.kept hb)
  clear f0_0 f0_1 f0_2 z0 f1_0 f1_1 f1_2 z1 f2_0 f2_1 f2_2 z2 f3_0 f3_1 f3_2 z3 f4_0 f4_1 f4_2 z4
  clear hb 
  go_wp2_with fail
  go_ret
  exact ⟨rfl, H8.out.below⟩
set_option maxRecDepth 100000 in
set_option maxHeartbeats 8000000 in
theorem nothing_y18 (ak : Nat) (akb : ak < 256) (ai : Int) (ai0 : -9223372036854775808 ≤ ai) (ai1 : ai ≤ 9223372036854775807) (az : ByteArray) (azb : az.size ≤ 140737488351232) (hbig : decide ((20000 : Int) < (az.size : Int)) = false) (hfine : Val.fine ⟨ak, ai, az⟩ = true) (hk : ((ak : Int) == 2) = false) (hk1 : ((ak : Int) == 1) = true) (hi : (ai == 0) = false) (hr1 : Val.two 18 ⟨0, 0, ⟨#[]⟩⟩ ⟨ak, ai, az⟩ = (⟨1, 1, ⟨#[]⟩⟩, 0)) (hr2 : Val.two 18 ⟨ak, ai, az⟩ ⟨0, 0, ⟨#[]⟩⟩ = (⟨1, 1, ⟨#[]⟩⟩, 0)) (w : World) (hw : Wd w) :
    Calls Tryd.prog 10 #[.agg #[.int .u8 (ak : Int), .int .i64 ai, .string az], .int .u8 18] w fun e w' => e = .returned (.bool true) ∧ Below w.heap.size w w' := by
  have HR1 := Lib.hid hr1
  have HR2 := Lib.hid hr2
  clear hr1 hr2
  obtain ⟨w0, hW⟩ : ∃ w0, w0 = (w.alloc (.cells #[.int .u8 (ak : Int), .int .i64 ai, .string az] 24)) := ⟨_, rfl⟩
  have H0 : Hid (Fam w [(w.heap.size, .cells #[.int .u8 (ak : Int), .int .i64 ai, .string az] 24 (0, 0))] w0) := Lib.hid (by rw [hW]; exact fam_n1 ..)
  have HW : Hid (∀ x, Below w.heap.size w x → Wd x) := Lib.hid (fun _ h => hw.kept h)
  clear hw
  go_enter Tryd.func10, Tryd.ntmps10
  go_wp2_with fail
  rw [← hW]
  clear hW
  refine (alive_yes _ (HW.out _ H0.out.below)).mono ?_
  rintro e w1 ⟨rfl, hb⟩
  have H1 := Lib.hid (H0.out.kept hb)
  clear hb 
  have f0_0 : w1.cell? ⟨w.heap.size, 0, none⟩ = some (.int .u8 (ak : Int)) := H1.out.cell (b := w.heap.size) (cs := #[.int .u8 (ak : Int), .int .i64 ai, .string az]) (t := 24) (fr := (0, 0)) (List.mem_cons_self ..) 0
  have f0_1 : w1.cell? ⟨w.heap.size, 1, none⟩ = some (.int .i64 ai) := H1.out.cell (b := w.heap.size) (cs := #[.int .u8 (ak : Int), .int .i64 ai, .string az]) (t := 24) (fr := (0, 0)) (List.mem_cons_self ..) 1
  have f0_2 : w1.cell? ⟨w.heap.size, 2, none⟩ = some (.string az) := H1.out.cell (b := w.heap.size) (cs := #[.int .u8 (ak : Int), .int .i64 ai, .string az]) (t := 24) (fr := (0, 0)) (List.mem_cons_self ..) 2
  have z0 : w.heap.size < w1.heap.size := lt_of_block (H1.out.get (b := w.heap.size) (o := .cells #[.int .u8 (ak : Int), .int .i64 ai, .string az] 24 (0, 0)) (List.mem_cons_self ..))
  go_wp2_with fail
  refine (long1_new _ _ az azb _ false hbig).mono ?_
  rintro e w2 ⟨rfl, hb⟩
  have H2 := Lib.hid (H1.out.kept hb)
  clear f0_0 f0_1 f0_2 z0
  clear hb 
  have f0_0 : w2.cell? ⟨w.heap.size, 0, none⟩ = some (.int .u8 (ak : Int)) := H2.out.cell (b := w.heap.size) (cs := #[.int .u8 (ak : Int), .int .i64 ai, .string az]) (t := 24) (fr := (0, 0)) (List.mem_cons_self ..) 0
  have f0_1 : w2.cell? ⟨w.heap.size, 1, none⟩ = some (.int .i64 ai) := H2.out.cell (b := w.heap.size) (cs := #[.int .u8 (ak : Int), .int .i64 ai, .string az]) (t := 24) (fr := (0, 0)) (List.mem_cons_self ..) 1
  have f0_2 : w2.cell? ⟨w.heap.size, 2, none⟩ = some (.string az) := H2.out.cell (b := w.heap.size) (cs := #[.int .u8 (ak : Int), .int .i64 ai, .string az]) (t := 24) (fr := (0, 0)) (List.mem_cons_self ..) 2
  have z0 : w.heap.size < w2.heap.size := lt_of_block (H2.out.get (b := w.heap.size) (o := .cells #[.int .u8 (ak : Int), .int .i64 ai, .string az] 24 (0, 0)) (List.mem_cons_self ..))
  go_wp2_with fail
  refine (fine1_new ak ai az akb _ true hfine).mono ?_
  rintro e w3 ⟨rfl, hb⟩
  have H3 := Lib.hid (H2.out.kept hb)
  clear f0_0 f0_1 f0_2 z0
  clear hb 
  have f0_0 : w3.cell? ⟨w.heap.size, 0, none⟩ = some (.int .u8 (ak : Int)) := H3.out.cell (b := w.heap.size) (cs := #[.int .u8 (ak : Int), .int .i64 ai, .string az]) (t := 24) (fr := (0, 0)) (List.mem_cons_self ..) 0
  have f0_1 : w3.cell? ⟨w.heap.size, 1, none⟩ = some (.int .i64 ai) := H3.out.cell (b := w.heap.size) (cs := #[.int .u8 (ak : Int), .int .i64 ai, .string az]) (t := 24) (fr := (0, 0)) (List.mem_cons_self ..) 1
  have f0_2 : w3.cell? ⟨w.heap.size, 2, none⟩ = some (.string az) := H3.out.cell (b := w.heap.size) (cs := #[.int .u8 (ak : Int), .int .i64 ai, .string az]) (t := 24) (fr := (0, 0)) (List.mem_cons_self ..) 2
  have z0 : w.heap.size < w3.heap.size := lt_of_block (H3.out.get (b := w.heap.size) (o := .cells #[.int .u8 (ak : Int), .int .i64 ai, .string az] 24 (0, 0)) (List.mem_cons_self ..))
  go_wp2_with fail
  have HA0 := Lib.hid (H3.out.add (below_alloc w3 (.cells #[.int .u8 0, .int .i64 0, .string ⟨#[]⟩] 24)) (Nat.le_refl _) (heap_alloc_new _ _))
  refine (two_is 18 0 0 ⟨#[]⟩ ak ai az 1 1 ⟨#[]⟩ 0 (by omega) (by omega) akb (by omega) (by omega) ai0 ai1 HR1.out _ (HW.out _ HA0.out.below)).mono ?_
  rintro e w4 ⟨rfl, hb⟩
  have H4 := Lib.hid (HA0.out.kept hb)
  clear f0_0 f0_1 f0_2 z0
  clear hb HA0
  have f0_0 : w4.cell? ⟨w3.heap.size, 0, none⟩ = some (.int .u8 0) := H4.out.cell (b := w3.heap.size) (cs := #[.int .u8 0, .int .i64 0, .string ⟨#[]⟩]) (t := 24) (fr := (0, 0)) (List.mem_cons_self ..) 0
  have f0_1 : w4.cell? ⟨w3.heap.size, 1, none⟩ = some (.int .i64 0) := H4.out.cell (b := w3.heap.size) (cs := #[.int .u8 0, .int .i64 0, .string ⟨#[]⟩]) (t := 24) (fr := (0, 0)) (List.mem_cons_self ..) 1
  have f0_2 : w4.cell? ⟨w3.heap.size, 2, none⟩ = some (.string ⟨#[]⟩) := H4.out.cell (b := w3.heap.size) (cs := #[.int .u8 0, .int .i64 0, .string ⟨#[]⟩]) (t := 24) (fr := (0, 0)) (List.mem_cons_self ..) 2
  have z0 : w3.heap.size < w4.heap.size := lt_of_block (H4.out.get (b := w3.heap.size) (o := .cells #[.int .u8 0, .int .i64 0, .string ⟨#[]⟩] 24 (0, 0)) (List.mem_cons_self ..))
  have f1_0 : w4.cell? ⟨w.heap.size, 0, none⟩ = some (.int .u8 (ak : Int)) := H4.out.cell (b := w.heap.size) (cs := #[.int .u8 (ak : Int), .int .i64 ai, .string az]) (t := 24) (fr := (0, 0)) (List.mem_cons_of_mem _ (List.mem_cons_self ..)) 0
  have f1_1 : w4.cell? ⟨w.heap.size, 1, none⟩ = some (.int .i64 ai) := H4.out.cell (b := w.heap.size) (cs := #[.int .u8 (ak : Int), .int .i64 ai, .string az]) (t := 24) (fr := (0, 0)) (List.mem_cons_of_mem _ (List.mem_cons_self ..)) 1
  have f1_2 : w4.cell? ⟨w.heap.size, 2, none⟩ = some (.string az) := H4.out.cell (b := w.heap.size) (cs := #[.int .u8 (ak : Int), .int .i64 ai, .string az]) (t := 24) (fr := (0, 0)) (List.mem_cons_of_mem _ (List.mem_cons_self ..)) 2
  have z1 : w.heap.size < w4.heap.size := lt_of_block (H4.out.get (b := w.heap.size) (o := .cells #[.int .u8 (ak : Int), .int .i64 ai, .string az] 24 (0, 0)) (List.mem_cons_of_mem _ (List.mem_cons_self ..)))
  go_wp2_with fail
  have HA0 := Lib.hid (H4.out.add (below_alloc w4 (.cells #[.int .u8 1, .int .i64 1, .string ⟨#[]⟩] 24)) (Nat.le_refl _) (heap_alloc_new _ _))
  refine (two_is 18 ak ai az 0 0 ⟨#[]⟩ 1 1 ⟨#[]⟩ 0 (by omega) akb (by omega) ai0 ai1 (by omega) (by omega) HR2.out _ (HW.out _ HA0.out.below)).mono ?_
  rintro e w5 ⟨rfl, hb⟩
  have H5 := Lib.hid (HA0.out.kept hb)
  clear f0_0 f0_1 f0_2 z0 f1_0 f1_1 f1_2 z1
  clear hb HA0
  have f0_0 : w5.cell? ⟨w4.heap.size, 0, none⟩ = some (.int .u8 1) := H5.out.cell (b := w4.heap.size) (cs := #[.int .u8 1, .int .i64 1, .string ⟨#[]⟩]) (t := 24) (fr := (0, 0)) (List.mem_cons_self ..) 0
  have f0_1 : w5.cell? ⟨w4.heap.size, 1, none⟩ = some (.int .i64 1) := H5.out.cell (b := w4.heap.size) (cs := #[.int .u8 1, .int .i64 1, .string ⟨#[]⟩]) (t := 24) (fr := (0, 0)) (List.mem_cons_self ..) 1
  have f0_2 : w5.cell? ⟨w4.heap.size, 2, none⟩ = some (.string ⟨#[]⟩) := H5.out.cell (b := w4.heap.size) (cs := #[.int .u8 1, .int .i64 1, .string ⟨#[]⟩]) (t := 24) (fr := (0, 0)) (List.mem_cons_self ..) 2
  have z0 : w4.heap.size < w5.heap.size := lt_of_block (H5.out.get (b := w4.heap.size) (o := .cells #[.int .u8 1, .int .i64 1, .string ⟨#[]⟩] 24 (0, 0)) (List.mem_cons_self ..))
  have f1_0 : w5.cell? ⟨w3.heap.size, 0, none⟩ = some (.int .u8 0) := H5.out.cell (b := w3.heap.size) (cs := #[.int .u8 0, .int .i64 0, .string ⟨#[]⟩]) (t := 24) (fr := (0, 0)) (List.mem_cons_of_mem _ (List.mem_cons_self ..)) 0
  have f1_1 : w5.cell? ⟨w3.heap.size, 1, none⟩ = some (.int .i64 0) := H5.out.cell (b := w3.heap.size) (cs := #[.int .u8 0, .int .i64 0, .string ⟨#[]⟩]) (t := 24) (fr := (0, 0)) (List.mem_cons_of_mem _ (List.mem_cons_self ..)) 1
  have f1_2 : w5.cell? ⟨w3.heap.size, 2, none⟩ = some (.string ⟨#[]⟩) := H5.out.cell (b := w3.heap.size) (cs := #[.int .u8 0, .int .i64 0, .string ⟨#[]⟩]) (t := 24) (fr := (0, 0)) (List.mem_cons_of_mem _ (List.mem_cons_self ..)) 2
  have z1 : w3.heap.size < w5.heap.size := lt_of_block (H5.out.get (b := w3.heap.size) (o := .cells #[.int .u8 0, .int .i64 0, .string ⟨#[]⟩] 24 (0, 0)) (List.mem_cons_of_mem _ (List.mem_cons_self ..)))
  have f2_0 : w5.cell? ⟨w.heap.size, 0, none⟩ = some (.int .u8 (ak : Int)) := H5.out.cell (b := w.heap.size) (cs := #[.int .u8 (ak : Int), .int .i64 ai, .string az]) (t := 24) (fr := (0, 0)) (List.mem_cons_of_mem _ (List.mem_cons_of_mem _ (List.mem_cons_self ..))) 0
  have f2_1 : w5.cell? ⟨w.heap.size, 1, none⟩ = some (.int .i64 ai) := H5.out.cell (b := w.heap.size) (cs := #[.int .u8 (ak : Int), .int .i64 ai, .string az]) (t := 24) (fr := (0, 0)) (List.mem_cons_of_mem _ (List.mem_cons_of_mem _ (List.mem_cons_self ..))) 1
  have f2_2 : w5.cell? ⟨w.heap.size, 2, none⟩ = some (.string az) := H5.out.cell (b := w.heap.size) (cs := #[.int .u8 (ak : Int), .int .i64 ai, .string az]) (t := 24) (fr := (0, 0)) (List.mem_cons_of_mem _ (List.mem_cons_of_mem _ (List.mem_cons_self ..))) 2
  have z2 : w.heap.size < w5.heap.size := lt_of_block (H5.out.get (b := w.heap.size) (o := .cells #[.int .u8 (ak : Int), .int .i64 ai, .string az] 24 (0, 0)) (List.mem_cons_of_mem _ (List.mem_cons_of_mem _ (List.mem_cons_self ..))))
  go_wp2_with fail
  have u0 : w4.heap.size < w5.heap.size := lt_of_block (H5.out.get (b := w4.heap.size) (o := .cells #[.int .u8 1, .int .i64 1, .string ⟨#[]⟩] 24 (0, 0)) (List.mem_cons_self ..))
  have u1 : w3.heap.size < w5.heap.size := lt_of_block (H5.out.get (b := w3.heap.size) (o := .cells #[.int .u8 0, .int .i64 0, .string ⟨#[]⟩] 24 (0, 0)) (List.mem_cons_of_mem _ (List.mem_cons_self ..)))
  have u2 : w.heap.size < w5.heap.size := lt_of_block (H5.out.get (b := w.heap.size) (o := .cells #[.int .u8 (ak : Int), .int .i64 ai, .string az] 24 (0, 0)) (List.mem_cons_of_mem _ (List.mem_cons_of_mem _ (List.mem_cons_self ..))))
  have HA0 := Lib.hid (H5.out.add2 (.cells #[.int .u8 1, .int .i64 1, .string ⟨#[]⟩] 24) (.cells #[.int .u8 0, .int .i64 0, .string ⟨#[]⟩] 24))
  refine (n_any 0 _).mono ?_
  rintro e w6 ⟨rfl, hb⟩
  have H6 := Lib.hid (HA0.out.kept hb)
  clear f0_0 f0_1 f0_2 z0 f1_0 f1_1 f1_2 z1 f2_0 f2_1 f2_2 z2
  clear hb HA0
  have f0_0 : w6.cell? ⟨w5.heap.size + 1, 0, none⟩ = some (.int .u8 0) := H6.out.cell (b := w5.heap.size + 1) (cs := #[.int .u8 0, .int .i64 0, .string ⟨#[]⟩]) (t := 24) (fr := (0, 0)) (List.mem_cons_self ..) 0
  have f0_1 : w6.cell? ⟨w5.heap.size + 1, 1, none⟩ = some (.int .i64 0) := H6.out.cell (b := w5.heap.size + 1) (cs := #[.int .u8 0, .int .i64 0, .string ⟨#[]⟩]) (t := 24) (fr := (0, 0)) (List.mem_cons_self ..) 1
  have f0_2 : w6.cell? ⟨w5.heap.size + 1, 2, none⟩ = some (.string ⟨#[]⟩) := H6.out.cell (b := w5.heap.size + 1) (cs := #[.int .u8 0, .int .i64 0, .string ⟨#[]⟩]) (t := 24) (fr := (0, 0)) (List.mem_cons_self ..) 2
  have z0 : w5.heap.size + 1 < w6.heap.size := lt_of_block (H6.out.get (b := w5.heap.size + 1) (o := .cells #[.int .u8 0, .int .i64 0, .string ⟨#[]⟩] 24 (0, 0)) (List.mem_cons_self ..))
  have g0_0 : w6.frozen? ⟨w5.heap.size + 1, 0, none⟩ = false := H6.out.free (b := w5.heap.size + 1) (cs := #[.int .u8 0, .int .i64 0, .string ⟨#[]⟩]) (t := 24) (List.mem_cons_self ..) 0
  have g0_1 : w6.frozen? ⟨w5.heap.size + 1, 1, none⟩ = false := H6.out.free (b := w5.heap.size + 1) (cs := #[.int .u8 0, .int .i64 0, .string ⟨#[]⟩]) (t := 24) (List.mem_cons_self ..) 1
  have g0_2 : w6.frozen? ⟨w5.heap.size + 1, 2, none⟩ = false := H6.out.free (b := w5.heap.size + 1) (cs := #[.int .u8 0, .int .i64 0, .string ⟨#[]⟩]) (t := 24) (List.mem_cons_self ..) 2
  have f1_0 : w6.cell? ⟨w5.heap.size, 0, none⟩ = some (.int .u8 1) := H6.out.cell (b := w5.heap.size) (cs := #[.int .u8 1, .int .i64 1, .string ⟨#[]⟩]) (t := 24) (fr := (0, 0)) (List.mem_cons_of_mem _ (List.mem_cons_self ..)) 0
  have f1_1 : w6.cell? ⟨w5.heap.size, 1, none⟩ = some (.int .i64 1) := H6.out.cell (b := w5.heap.size) (cs := #[.int .u8 1, .int .i64 1, .string ⟨#[]⟩]) (t := 24) (fr := (0, 0)) (List.mem_cons_of_mem _ (List.mem_cons_self ..)) 1
  have f1_2 : w6.cell? ⟨w5.heap.size, 2, none⟩ = some (.string ⟨#[]⟩) := H6.out.cell (b := w5.heap.size) (cs := #[.int .u8 1, .int .i64 1, .string ⟨#[]⟩]) (t := 24) (fr := (0, 0)) (List.mem_cons_of_mem _ (List.mem_cons_self ..)) 2
  have z1 : w5.heap.size < w6.heap.size := lt_of_block (H6.out.get (b := w5.heap.size) (o := .cells #[.int .u8 1, .int .i64 1, .string ⟨#[]⟩] 24 (0, 0)) (List.mem_cons_of_mem _ (List.mem_cons_self ..)))
  have f2_0 : w6.cell? ⟨w4.heap.size, 0, none⟩ = some (.int .u8 1) := H6.out.cell (b := w4.heap.size) (cs := #[.int .u8 1, .int .i64 1, .string ⟨#[]⟩]) (t := 24) (fr := (0, 0)) (List.mem_cons_of_mem _ (List.mem_cons_of_mem _ (List.mem_cons_self ..))) 0
  have f2_1 : w6.cell? ⟨w4.heap.size, 1, none⟩ = some (.int .i64 1) := H6.out.cell (b := w4.heap.size) (cs := #[.int .u8 1, .int .i64 1, .string ⟨#[]⟩]) (t := 24) (fr := (0, 0)) (List.mem_cons_of_mem _ (List.mem_cons_of_mem _ (List.mem_cons_self ..))) 1
  have f2_2 : w6.cell? ⟨w4.heap.size, 2, none⟩ = some (.string ⟨#[]⟩) := H6.out.cell (b := w4.heap.size) (cs := #[.int .u8 1, .int .i64 1, .string ⟨#[]⟩]) (t := 24) (fr := (0, 0)) (List.mem_cons_of_mem _ (List.mem_cons_of_mem _ (List.mem_cons_self ..))) 2
  have z2 : w4.heap.size < w6.heap.size := lt_of_block (H6.out.get (b := w4.heap.size) (o := .cells #[.int .u8 1, .int .i64 1, .string ⟨#[]⟩] 24 (0, 0)) (List.mem_cons_of_mem _ (List.mem_cons_of_mem _ (List.mem_cons_self ..))))
  have f3_0 : w6.cell? ⟨w3.heap.size, 0, none⟩ = some (.int .u8 0) := H6.out.cell (b := w3.heap.size) (cs := #[.int .u8 0, .int .i64 0, .string ⟨#[]⟩]) (t := 24) (fr := (0, 0)) (List.mem_cons_of_mem _ (List.mem_cons_of_mem _ (List.mem_cons_of_mem _ (List.mem_cons_self ..)))) 0
  have f3_1 : w6.cell? ⟨w3.heap.size, 1, none⟩ = some (.int .i64 0) := H6.out.cell (b := w3.heap.size) (cs := #[.int .u8 0, .int .i64 0, .string ⟨#[]⟩]) (t := 24) (fr := (0, 0)) (List.mem_cons_of_mem _ (List.mem_cons_of_mem _ (List.mem_cons_of_mem _ (List.mem_cons_self ..)))) 1
  have f3_2 : w6.cell? ⟨w3.heap.size, 2, none⟩ = some (.string ⟨#[]⟩) := H6.out.cell (b := w3.heap.size) (cs := #[.int .u8 0, .int .i64 0, .string ⟨#[]⟩]) (t := 24) (fr := (0, 0)) (List.mem_cons_of_mem _ (List.mem_cons_of_mem _ (List.mem_cons_of_mem _ (List.mem_cons_self ..)))) 2
  have z3 : w3.heap.size < w6.heap.size := lt_of_block (H6.out.get (b := w3.heap.size) (o := .cells #[.int .u8 0, .int .i64 0, .string ⟨#[]⟩] 24 (0, 0)) (List.mem_cons_of_mem _ (List.mem_cons_of_mem _ (List.mem_cons_of_mem _ (List.mem_cons_self ..)))))
  have f4_0 : w6.cell? ⟨w.heap.size, 0, none⟩ = some (.int .u8 (ak : Int)) := H6.out.cell (b := w.heap.size) (cs := #[.int .u8 (ak : Int), .int .i64 ai, .string az]) (t := 24) (fr := (0, 0)) (List.mem_cons_of_mem _ (List.mem_cons_of_mem _ (List.mem_cons_of_mem _ (List.mem_cons_of_mem _ (List.mem_cons_self ..))))) 0
  have f4_1 : w6.cell? ⟨w.heap.size, 1, none⟩ = some (.int .i64 ai) := H6.out.cell (b := w.heap.size) (cs := #[.int .u8 (ak : Int), .int .i64 ai, .string az]) (t := 24) (fr := (0, 0)) (List.mem_cons_of_mem _ (List.mem_cons_of_mem _ (List.mem_cons_of_mem _ (List.mem_cons_of_mem _ (List.mem_cons_self ..))))) 1
  have f4_2 : w6.cell? ⟨w.heap.size, 2, none⟩ = some (.string az) := H6.out.cell (b := w.heap.size) (cs := #[.int .u8 (ak : Int), .int .i64 ai, .string az]) (t := 24) (fr := (0, 0)) (List.mem_cons_of_mem _ (List.mem_cons_of_mem _ (List.mem_cons_of_mem _ (List.mem_cons_of_mem _ (List.mem_cons_self ..))))) 2
  have z4 : w.heap.size < w6.heap.size := lt_of_block (H6.out.get (b := w.heap.size) (o := .cells #[.int .u8 (ak : Int), .int .i64 ai, .string az] 24 (0, 0)) (List.mem_cons_of_mem _ (List.mem_cons_of_mem _ (List.mem_cons_of_mem _ (List.mem_cons_of_mem _ (List.mem_cons_self ..))))))
  have ne1 : w5.heap.size ≠ w5.heap.size + 1 := by omega
  have ne2 : w4.heap.size ≠ w5.heap.size + 1 := by omega
  have ne3 : w3.heap.size ≠ w5.heap.size + 1 := by omega
  have ne4 : w.heap.size ≠ w5.heap.size + 1 := by omega
  go_wp2_with fail
  have HS := Lib.hid (H6.out.set3 (b := w5.heap.size + 1) (u0 := .int .u8 1) (u1 := .int .i64 0) (u2 := .string ⟨#[]⟩) (fun x hx => by simp only [List.mem_cons, List.not_mem_nil, or_false] at hx; rcases hx with rfl | rfl | rfl | rfl <;> simp only <;> omega))
  refine (n_any 1 _).mono ?_
  rintro e w7 ⟨rfl, hb⟩
  have H7 := Lib.hid (HS.out.kept hb)
  clear f0_0 f0_1 f0_2 z0 g0_0 g0_1 g0_2 f1_0 f1_1 f1_2 z1 f2_0 f2_1 f2_2 z2 f3_0 f3_1 f3_2 z3 f4_0 f4_1 f4_2 z4 ne1 ne2 ne3 ne4
  clear hb HS
  have f0_0 : w7.cell? ⟨w5.heap.size + 1, 0, none⟩ = some (.int .u8 1) := H7.out.cell (b := w5.heap.size + 1) (cs := #[.int .u8 1, .int .i64 0, .string ⟨#[]⟩]) (t := 24) (fr := (0, 0)) (List.mem_cons_self ..) 0
  have f0_1 : w7.cell? ⟨w5.heap.size + 1, 1, none⟩ = some (.int .i64 0) := H7.out.cell (b := w5.heap.size + 1) (cs := #[.int .u8 1, .int .i64 0, .string ⟨#[]⟩]) (t := 24) (fr := (0, 0)) (List.mem_cons_self ..) 1
  have f0_2 : w7.cell? ⟨w5.heap.size + 1, 2, none⟩ = some (.string ⟨#[]⟩) := H7.out.cell (b := w5.heap.size + 1) (cs := #[.int .u8 1, .int .i64 0, .string ⟨#[]⟩]) (t := 24) (fr := (0, 0)) (List.mem_cons_self ..) 2
  have z0 : w5.heap.size + 1 < w7.heap.size := lt_of_block (H7.out.get (b := w5.heap.size + 1) (o := .cells #[.int .u8 1, .int .i64 0, .string ⟨#[]⟩] 24 (0, 0)) (List.mem_cons_self ..))
  have g0_0 : w7.frozen? ⟨w5.heap.size + 1, 0, none⟩ = false := H7.out.free (b := w5.heap.size + 1) (cs := #[.int .u8 1, .int .i64 0, .string ⟨#[]⟩]) (t := 24) (List.mem_cons_self ..) 0
  have g0_1 : w7.frozen? ⟨w5.heap.size + 1, 1, none⟩ = false := H7.out.free (b := w5.heap.size + 1) (cs := #[.int .u8 1, .int .i64 0, .string ⟨#[]⟩]) (t := 24) (List.mem_cons_self ..) 1
  have g0_2 : w7.frozen? ⟨w5.heap.size + 1, 2, none⟩ = false := H7.out.free (b := w5.heap.size + 1) (cs := #[.int .u8 1, .int .i64 0, .string ⟨#[]⟩]) (t := 24) (List.mem_cons_self ..) 2
  have f1_0 : w7.cell? ⟨w5.heap.size, 0, none⟩ = some (.int .u8 1) := H7.out.cell (b := w5.heap.size) (cs := #[.int .u8 1, .int .i64 1, .string ⟨#[]⟩]) (t := 24) (fr := (0, 0)) (List.mem_cons_of_mem _ (List.mem_cons_self ..)) 0
  have f1_1 : w7.cell? ⟨w5.heap.size, 1, none⟩ = some (.int .i64 1) := H7.out.cell (b := w5.heap.size) (cs := #[.int .u8 1, .int .i64 1, .string ⟨#[]⟩]) (t := 24) (fr := (0, 0)) (List.mem_cons_of_mem _ (List.mem_cons_self ..)) 1
  have f1_2 : w7.cell? ⟨w5.heap.size, 2, none⟩ = some (.string ⟨#[]⟩) := H7.out.cell (b := w5.heap.size) (cs := #[.int .u8 1, .int .i64 1, .string ⟨#[]⟩]) (t := 24) (fr := (0, 0)) (List.mem_cons_of_mem _ (List.mem_cons_self ..)) 2
  have z1 : w5.heap.size < w7.heap.size := lt_of_block (H7.out.get (b := w5.heap.size) (o := .cells #[.int .u8 1, .int .i64 1, .string ⟨#[]⟩] 24 (0, 0)) (List.mem_cons_of_mem _ (List.mem_cons_self ..)))
  have f2_0 : w7.cell? ⟨w4.heap.size, 0, none⟩ = some (.int .u8 1) := H7.out.cell (b := w4.heap.size) (cs := #[.int .u8 1, .int .i64 1, .string ⟨#[]⟩]) (t := 24) (fr := (0, 0)) (List.mem_cons_of_mem _ (List.mem_cons_of_mem _ (List.mem_cons_self ..))) 0
  have f2_1 : w7.cell? ⟨w4.heap.size, 1, none⟩ = some (.int .i64 1) := H7.out.cell (b := w4.heap.size) (cs := #[.int .u8 1, .int .i64 1, .string ⟨#[]⟩]) (t := 24) (fr := (0, 0)) (List.mem_cons_of_mem _ (List.mem_cons_of_mem _ (List.mem_cons_self ..))) 1
  have f2_2 : w7.cell? ⟨w4.heap.size, 2, none⟩ = some (.string ⟨#[]⟩) := H7.out.cell (b := w4.heap.size) (cs := #[.int .u8 1, .int .i64 1, .string ⟨#[]⟩]) (t := 24) (fr := (0, 0)) (List.mem_cons_of_mem _ (List.mem_cons_of_mem _ (List.mem_cons_self ..))) 2
  have z2 : w4.heap.size < w7.heap.size := lt_of_block (H7.out.get (b := w4.heap.size) (o := .cells #[.int .u8 1, .int .i64 1, .string ⟨#[]⟩] 24 (0, 0)) (List.mem_cons_of_mem _ (List.mem_cons_of_mem _ (List.mem_cons_self ..))))
  have f3_0 : w7.cell? ⟨w3.heap.size, 0, none⟩ = some (.int .u8 0) := H7.out.cell (b := w3.heap.size) (cs := #[.int .u8 0, .int .i64 0, .string ⟨#[]⟩]) (t := 24) (fr := (0, 0)) (List.mem_cons_of_mem _ (List.mem_cons_of_mem _ (List.mem_cons_of_mem _ (List.mem_cons_self ..)))) 0
  have f3_1 : w7.cell? ⟨w3.heap.size, 1, none⟩ = some (.int .i64 0) := H7.out.cell (b := w3.heap.size) (cs := #[.int .u8 0, .int .i64 0, .string ⟨#[]⟩]) (t := 24) (fr := (0, 0)) (List.mem_cons_of_mem _ (List.mem_cons_of_mem _ (List.mem_cons_of_mem _ (List.mem_cons_self ..)))) 1
  have f3_2 : w7.cell? ⟨w3.heap.size, 2, none⟩ = some (.string ⟨#[]⟩) := H7.out.cell (b := w3.heap.size) (cs := #[.int .u8 0, .int .i64 0, .string ⟨#[]⟩]) (t := 24) (fr := (0, 0)) (List.mem_cons_of_mem _ (List.mem_cons_of_mem _ (List.mem_cons_of_mem _ (List.mem_cons_self ..)))) 2
  have z3 : w3.heap.size < w7.heap.size := lt_of_block (H7.out.get (b := w3.heap.size) (o := .cells #[.int .u8 0, .int .i64 0, .string ⟨#[]⟩] 24 (0, 0)) (List.mem_cons_of_mem _ (List.mem_cons_of_mem _ (List.mem_cons_of_mem _ (List.mem_cons_self ..)))))
  have f4_0 : w7.cell? ⟨w.heap.size, 0, none⟩ = some (.int .u8 (ak : Int)) := H7.out.cell (b := w.heap.size) (cs := #[.int .u8 (ak : Int), .int .i64 ai, .string az]) (t := 24) (fr := (0, 0)) (List.mem_cons_of_mem _ (List.mem_cons_of_mem _ (List.mem_cons_of_mem _ (List.mem_cons_of_mem _ (List.mem_cons_self ..))))) 0
  have f4_1 : w7.cell? ⟨w.heap.size, 1, none⟩ = some (.int .i64 ai) := H7.out.cell (b := w.heap.size) (cs := #[.int .u8 (ak : Int), .int .i64 ai, .string az]) (t := 24) (fr := (0, 0)) (List.mem_cons_of_mem _ (List.mem_cons_of_mem _ (List.mem_cons_of_mem _ (List.mem_cons_of_mem _ (List.mem_cons_self ..))))) 1
  have f4_2 : w7.cell? ⟨w.heap.size, 2, none⟩ = some (.string az) := H7.out.cell (b := w.heap.size) (cs := #[.int .u8 (ak : Int), .int .i64 ai, .string az]) (t := 24) (fr := (0, 0)) (List.mem_cons_of_mem _ (List.mem_cons_of_mem _ (List.mem_cons_of_mem _ (List.mem_cons_of_mem _ (List.mem_cons_self ..))))) 2
  have z4 : w.heap.size < w7.heap.size := lt_of_block (H7.out.get (b := w.heap.size) (o := .cells #[.int .u8 (ak : Int), .int .i64 ai, .string az] 24 (0, 0)) (List.mem_cons_of_mem _ (List.mem_cons_of_mem _ (List.mem_cons_of_mem _ (List.mem_cons_of_mem _ (List.mem_cons_self ..))))))
  have ne1 : w5.heap.size ≠ w5.heap.size + 1 := by omega
  have ne2 : w4.heap.size ≠ w5.heap.size + 1 := by omega
  have ne3 : w3.heap.size ≠ w5.heap.size + 1 := by omega
  have ne4 : w.heap.size ≠ w5.heap.size + 1 := by omega
  go_wp2_with fail
  have HS := Lib.hid (H7.out.set3 (b := w5.heap.size + 1) (u0 := .int .u8 1) (u1 := .int .i64 1) (u2 := .string ⟨#[]⟩) (fun x hx => by simp only [List.mem_cons, List.not_mem_nil, or_false] at hx; rcases hx with rfl | rfl | rfl | rfl <;> simp only <;> omega))
  refine (one_yes 1 0 0 ⟨#[]⟩ 0 0 ⟨#[]⟩ 0 (by omega) (by omega) (by omega) (by omega) (by kernel_rfl) _).mono ?_
  rintro e w8 ⟨rfl, hb⟩
  have H8 := Lib.hid (HS.out.kept hb)
  clear f0_0 f0_1 f0_2 z0 g0_0 g0_1 g0_2 f1_0 f1_1 f1_2 z1 f2_0 f2_1 f2_2 z2 f3_0 f3_1 f3_2 z3 f4_0 f4_1 f4_2 z4 ne1 ne2 ne3 ne4
  clear hb HS
  have f0_0 : w8.cell? ⟨w5.heap.size + 1, 0, none⟩ = some (.int .u8 1) := H8.out.cell (b := w5.heap.size + 1) (cs := #[.int .u8 1, .int .i64 1, .string ⟨#[]⟩]) (t := 24) (fr := (0, 0)) (List.mem_cons_self ..) 0
  have f0_1 : w8.cell? ⟨w5.heap.size + 1, 1, none⟩ = some (.int .i64 1) := H8.out.cell (b := w5.heap.size + 1) (cs := #[.int .u8 1, .int .i64 1, .string ⟨#[]⟩]) (t := 24) (fr := (0, 0)) (List.mem_cons_self ..) 1
  have f0_2 : w8.cell? ⟨w5.heap.size + 1, 2, none⟩ = some (.string ⟨#[]⟩) := H8.out.cell (b := w5.heap.size + 1) (cs := #[.int .u8 1, .int .i64 1, .string ⟨#[]⟩]) (t := 24) (fr := (0, 0)) (List.mem_cons_self ..) 2
  have z0 : w5.heap.size + 1 < w8.heap.size := lt_of_block (H8.out.get (b := w5.heap.size + 1) (o := .cells #[.int .u8 1, .int .i64 1, .string ⟨#[]⟩] 24 (0, 0)) (List.mem_cons_self ..))
  have f1_0 : w8.cell? ⟨w5.heap.size, 0, none⟩ = some (.int .u8 1) := H8.out.cell (b := w5.heap.size) (cs := #[.int .u8 1, .int .i64 1, .string ⟨#[]⟩]) (t := 24) (fr := (0, 0)) (List.mem_cons_of_mem _ (List.mem_cons_self ..)) 0
  have f1_1 : w8.cell? ⟨w5.heap.size, 1, none⟩ = some (.int .i64 1) := H8.out.cell (b := w5.heap.size) (cs := #[.int .u8 1, .int .i64 1, .string ⟨#[]⟩]) (t := 24) (fr := (0, 0)) (List.mem_cons_of_mem _ (List.mem_cons_self ..)) 1
  have f1_2 : w8.cell? ⟨w5.heap.size, 2, none⟩ = some (.string ⟨#[]⟩) := H8.out.cell (b := w5.heap.size) (cs := #[.int .u8 1, .int .i64 1, .string ⟨#[]⟩]) (t := 24) (fr := (0, 0)) (List.mem_cons_of_mem _ (List.mem_cons_self ..)) 2
  have z1 : w5.heap.size < w8.heap.size := lt_of_block (H8.out.get (b := w5.heap.size) (o := .cells #[.int .u8 1, .int .i64 1, .string ⟨#[]⟩] 24 (0, 0)) (List.mem_cons_of_mem _ (List.mem_cons_self ..)))
  have f2_0 : w8.cell? ⟨w4.heap.size, 0, none⟩ = some (.int .u8 1) := H8.out.cell (b := w4.heap.size) (cs := #[.int .u8 1, .int .i64 1, .string ⟨#[]⟩]) (t := 24) (fr := (0, 0)) (List.mem_cons_of_mem _ (List.mem_cons_of_mem _ (List.mem_cons_self ..))) 0
  have f2_1 : w8.cell? ⟨w4.heap.size, 1, none⟩ = some (.int .i64 1) := H8.out.cell (b := w4.heap.size) (cs := #[.int .u8 1, .int .i64 1, .string ⟨#[]⟩]) (t := 24) (fr := (0, 0)) (List.mem_cons_of_mem _ (List.mem_cons_of_mem _ (List.mem_cons_self ..))) 1
  have f2_2 : w8.cell? ⟨w4.heap.size, 2, none⟩ = some (.string ⟨#[]⟩) := H8.out.cell (b := w4.heap.size) (cs := #[.int .u8 1, .int .i64 1, .string ⟨#[]⟩]) (t := 24) (fr := (0, 0)) (List.mem_cons_of_mem _ (List.mem_cons_of_mem _ (List.mem_cons_self ..))) 2
  have z2 : w4.heap.size < w8.heap.size := lt_of_block (H8.out.get (b := w4.heap.size) (o := .cells #[.int .u8 1, .int .i64 1, .string ⟨#[]⟩] 24 (0, 0)) (List.mem_cons_of_mem _ (List.mem_cons_of_mem _ (List.mem_cons_self ..))))
  have f3_0 : w8.cell? ⟨w3.heap.size, 0, none⟩ = some (.int .u8 0) := H8.out.cell (b := w3.heap.size) (cs := #[.int .u8 0, .int .i64 0, .string ⟨#[]⟩]) (t := 24) (fr := (0, 0)) (List.mem_cons_of_mem _ (List.mem_cons_of_mem _ (List.mem_cons_of_mem _ (List.mem_cons_self ..)))) 0
  have f3_1 : w8.cell? ⟨w3.heap.size, 1, none⟩ = some (.int .i64 0) := H8.out.cell (b := w3.heap.size) (cs := #[.int .u8 0, .int .i64 0, .string ⟨#[]⟩]) (t := 24) (fr := (0, 0)) (List.mem_cons_of_mem _ (List.mem_cons_of_mem _ (List.mem_cons_of_mem _ (List.mem_cons_self ..)))) 1
  have f3_2 : w8.cell? ⟨w3.heap.size, 2, none⟩ = some (.string ⟨#[]⟩) := H8.out.cell (b := w3.heap.size) (cs := #[.int .u8 0, .int .i64 0, .string ⟨#[]⟩]) (t := 24) (fr := (0, 0)) (List.mem_cons_of_mem _ (List.mem_cons_of_mem _ (List.mem_cons_of_mem _ (List.mem_cons_self ..)))) 2
  have z3 : w3.heap.size < w8.heap.size := lt_of_block (H8.out.get (b := w3.heap.size) (o := .cells #[.int .u8 0, .int .i64 0, .string ⟨#[]⟩] 24 (0, 0)) (List.mem_cons_of_mem _ (List.mem_cons_of_mem _ (List.mem_cons_of_mem _ (List.mem_cons_self ..)))))
  have f4_0 : w8.cell? ⟨w.heap.size, 0, none⟩ = some (.int .u8 (ak : Int)) := H8.out.cell (b := w.heap.size) (cs := #[.int .u8 (ak : Int), .int .i64 ai, .string az]) (t := 24) (fr := (0, 0)) (List.mem_cons_of_mem _ (List.mem_cons_of_mem _ (List.mem_cons_of_mem _ (List.mem_cons_of_mem _ (List.mem_cons_self ..))))) 0
  have f4_1 : w8.cell? ⟨w.heap.size, 1, none⟩ = some (.int .i64 ai) := H8.out.cell (b := w.heap.size) (cs := #[.int .u8 (ak : Int), .int .i64 ai, .string az]) (t := 24) (fr := (0, 0)) (List.mem_cons_of_mem _ (List.mem_cons_of_mem _ (List.mem_cons_of_mem _ (List.mem_cons_of_mem _ (List.mem_cons_self ..))))) 1
  have f4_2 : w8.cell? ⟨w.heap.size, 2, none⟩ = some (.string az) := H8.out.cell (b := w.heap.size) (cs := #[.int .u8 (ak : Int), .int .i64 ai, .string az]) (t := 24) (fr := (0, 0)) (List.mem_cons_of_mem _ (List.mem_cons_of_mem _ (List.mem_cons_of_mem _ (List.mem_cons_of_mem _ (List.mem_cons_self ..))))) 2
  have z4 : w.heap.size < w8.heap.size := lt_of_block (H8.out.get (b := w.heap.size) (o := .cells #[.int .u8 (ak : Int), .int .i64 ai, .string az] 24 (0, 0)) (List.mem_cons_of_mem _ (List.mem_cons_of_mem _ (List.mem_cons_of_mem _ (List.mem_cons_of_mem _ (List.mem_cons_self ..))))))
  go_wp2_with fail
  refine (one_yes 2 0 0 ⟨#[]⟩ 0 0 ⟨#[]⟩ 0 (by omega) (by omega) (by omega) (by omega) (by kernel_rfl) _).mono ?_
  rintro e w9 ⟨rfl, hb⟩
  have H9 := Lib.hid (H8.out.kept hb)
  clear f0_0 f0_1 f0_2 z0 f1_0 f1_1 f1_2 z1 f2_0 f2_1 f2_2 z2 f3_0 f3_1 f3_2 z3 f4_0 f4_1 f4_2 z4
  clear hb 
  go_wp2_with fail
  go_ret
  exact ⟨rfl, H9.out.below⟩
theorem walk_ValuesNothing (ak : Int) (ai : Int) (az : ByteArray) (hak : (Lit.int .u8 ak).wf = true) (hai : (Lit.int .i64 ai).wf = true) (haz : az.size ≤ 140737488351232) (op : Int) (hop : (Lit.int .u8 op).wf = true) {w : World} (hw : Wd w) :
    Calls Tryd.prog 10 #[.agg #[.int .u8 ak, .int .i64 ai, .string az], .int .u8 op] w fun e w' => e = .returned (.bool true) ∧ Below w.heap.size w w' := by
  have k0 := wf_u8 hak
  have k1 := wf_u8 hop
  have i0 := wf_i64 hai
  obtain ⟨ak, rfl⟩ := Int.eq_ofNat_of_zero_le k0.1
  obtain ⟨op, rfl⟩ := Int.eq_ofNat_of_zero_le k1.1
  cases hbig : decide ((20000 : Int) < (az.size : Int)) with
  | true => exact nothing_long ak (by omega) ai i0.1 i0.2 az haz op (by omega) hbig w hw
  | false =>
    cases hfine : Val.fine ⟨ak, ai, az⟩ with
    | false => exact nothing_not ak (by omega) ai i0.1 i0.2 az haz op (by omega) hbig hfine w hw
    | true =>
      have hnf : Val.fine ⟨0, 0, ⟨#[]⟩⟩ = true := rfl
      by_cases h5 : op < 5
      · exact nothing_a ak (by omega) ai i0.1 i0.2 az haz op (by omega) hbig hfine h5 (nil_two (.inl h5)) (nil_two (.inl h5)) w hw
      · by_cases h18 : 18 < op
        · exact nothing_b ak (by omega) ai i0.1 i0.2 az haz op (by omega) hbig hfine h18 (nil_two (.inr (.inl h18))) (nil_two (.inr (.inl h18))) w hw
        · have e1 : Val.two op ⟨0, 0, ⟨#[]⟩⟩ ⟨ak, ai, az⟩ = Val.two0 op ⟨0, 0, ⟨#[]⟩⟩ ⟨ak, ai, az⟩ := fine_two (by rw [hfine, hnf]; simp; omega)
          have e2 : Val.two op ⟨ak, ai, az⟩ ⟨0, 0, ⟨#[]⟩⟩ = Val.two0 op ⟨ak, ai, az⟩ ⟨0, 0, ⟨#[]⟩⟩ := fine_two (by rw [hfine, hnf]; simp; omega)
          by_cases h17 : op < 17
          · have f1 : Val.two0 op ⟨0, 0, ⟨#[]⟩⟩ ⟨ak, ai, az⟩ = (Val.nil, 0) := (if_neg (by omega)).trans (if_pos (.inl rfl))
            have f2 : Val.two0 op ⟨ak, ai, az⟩ ⟨0, 0, ⟨#[]⟩⟩ = (Val.nil, 0) := (if_neg (by omega)).trans (if_pos (.inr rfl))
            exact nothing_c ak (by omega) ai i0.1 i0.2 az haz op (by omega) hbig hfine (by omega) h17 (e1.trans f1) (e2.trans f2) w hw
          · rcases Val.fine_cases hfine with h | ⟨n, h⟩ | ⟨t, h, _⟩
            · obtain ⟨rfl, rfl, rfl⟩ := Val.mk.inj h
              rcases (show op = 17 ∨ op = 18 by omega) with rfl | rfl
              · exact nothing_n 0 (by omega) 0 (by omega) (by omega) _ haz 17 (by omega) hbig hfine (by omega) (by omega) rfl rfl (e1.trans rfl) (e2.trans rfl) w hw
              · exact nothing_n 0 (by omega) 0 (by omega) (by omega) _ haz 18 (by omega) hbig hfine (by omega) (by omega) rfl rfl (e1.trans rfl) (e2.trans rfl) w hw
            · obtain ⟨rfl, rfl, rfl⟩ := Val.mk.inj h
              have b17a : Val.two0 17 ⟨0, 0, ⟨#[]⟩⟩ ⟨1, ai, ⟨#[]⟩⟩ = if Val.decides false ⟨1, ai, ⟨#[]⟩⟩ then (Val.yes false, 0) else (Val.nil, 0) := rfl
              have b17b : Val.two0 17 ⟨1, ai, ⟨#[]⟩⟩ ⟨0, 0, ⟨#[]⟩⟩ = if Val.decides false ⟨1, ai, ⟨#[]⟩⟩ || false then (Val.yes false, 0) else (Val.nil, 0) := rfl
              have b18a : Val.two0 18 ⟨0, 0, ⟨#[]⟩⟩ ⟨1, ai, ⟨#[]⟩⟩ = if Val.decides true ⟨1, ai, ⟨#[]⟩⟩ then (Val.yes true, 0) else (Val.nil, 0) := rfl
              have b18b : Val.two0 18 ⟨1, ai, ⟨#[]⟩⟩ ⟨0, 0, ⟨#[]⟩⟩ = if Val.decides true ⟨1, ai, ⟨#[]⟩⟩ || false then (Val.yes true, 0) else (Val.nil, 0) := rfl
              by_cases hz : ai = 0
              · have d1 : Val.decides false ⟨1, ai, ⟨#[]⟩⟩ = true := by simp [Val.decides, hz]
                have d2 : Val.decides true ⟨1, ai, ⟨#[]⟩⟩ = false := by simp [Val.decides, hz]
                rcases (show op = 17 ∨ op = 18 by omega) with rfl | rfl
                · rw [d1] at b17a b17b
                  exact nothing_y17 1 (by omega) ai i0.1 i0.2 _ haz hbig hfine rfl rfl (by simpa using hz) (e1.trans b17a) (e2.trans b17b) w hw
                · rw [d2] at b18a b18b
                  exact nothing_m18 1 (by omega) ai i0.1 i0.2 _ haz hbig hfine rfl rfl (by simpa using hz) (e1.trans b18a) (e2.trans b18b) w hw
              · have d1 : Val.decides false ⟨1, ai, ⟨#[]⟩⟩ = false := by simp [Val.decides, hz]
                have d2 : Val.decides true ⟨1, ai, ⟨#[]⟩⟩ = true := by simp [Val.decides, hz]
                rcases (show op = 17 ∨ op = 18 by omega) with rfl | rfl
                · rw [d1] at b17a b17b
                  exact nothing_m17 1 (by omega) ai i0.1 i0.2 _ haz hbig hfine rfl rfl (by simpa using hz) (e1.trans b17a) (e2.trans b17b) w hw
                · rw [d2] at b18a b18b
                  exact nothing_y18 1 (by omega) ai i0.1 i0.2 _ haz hbig hfine rfl rfl (by simpa using hz) (e1.trans b18a) (e2.trans b18b) w hw
            · obtain ⟨rfl, rfl, rfl⟩ := Val.mk.inj h
              rcases (show op = 17 ∨ op = 18 by omega) with rfl | rfl
              · exact nothing_t 2 (by omega) 0 (by omega) (by omega) _ haz 17 (by omega) hbig hfine (by omega) (by omega) rfl (e1.trans rfl) (e2.trans rfl) w hw
              · exact nothing_t 2 (by omega) 0 (by omega) (by omega) _ haz 18 (by omega) hbig hfine (by omega) (by omega) rfl (e1.trans rfl) (e2.trans rfl) w hw
end Go.Proofs.YtnnimngbocabbaaDoor
