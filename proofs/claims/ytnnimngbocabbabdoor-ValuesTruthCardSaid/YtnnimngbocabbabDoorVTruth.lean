/-
  WHAT IS PROVED: the walk of ValuesTruth.
-/
import Derived.Test.YtnnimngbocabbabDoorLawC
namespace Go.Proofs.YtnnimngbocabbabDoor
open Go.RowKit Go.Lib
set_option linter.unusedVariables false

set_option maxRecDepth 100000 in
set_option maxHeartbeats 8000000 in
theorem truth_long (ak : Nat) (akb : ak < 256) (ai : Int) (ai0 : -9223372036854775808 ≤ ai) (ai1 : ai ≤ 9223372036854775807) (az : ByteArray) (azb : az.size ≤ 140737488351232) (hbig : decide ((20000 : Int) < (az.size : Int)) = true) (w : World) (hw : Wd w) :
    Calls Tryd.prog 3 #[.agg #[.int .u8 (ak : Int), .int .i64 ai, .string az]] w fun e w' => e = .returned (.bool true) ∧ Below w.heap.size w w' := by
  obtain ⟨w0, hW⟩ : ∃ w0, w0 = (w.alloc (.cells #[.int .u8 (ak : Int), .int .i64 ai, .string az] 24)) := ⟨_, rfl⟩
  have H0 : Hid (Fam w [(w.heap.size, .cells #[.int .u8 (ak : Int), .int .i64 ai, .string az] 24 (0, 0))] w0) := Lib.hid (by rw [hW]; exact fam_n1 ..)
  have HW : Hid (∀ x, Below w.heap.size w x → Wd x) := Lib.hid (fun _ h => hw.kept h)
  clear hw
  go_enter Tryd.func3, Tryd.ntmps3
  go_wp2_with fail
  rw [← hW]
  clear hW
  refine (alive_yes _ (HW.out _ H0.out.below)).mono ?_
  rintro e w1 ⟨rfl, hb⟩
  have H1 := Lib.hid (H0.out.kept hb)
  clear hb 
  have f0_0 : w1.cell? ⟨w.heap.size, 0, none⟩ = some (.int .u8 (ak : Int)) := H1.out.cell (b := w.heap.size) (cs := #[.int .u8 (ak : Int), .int .i64 ai, .string az]) (t := 24) (fr := (0, 0)) (List.mem_cons_self ..) 0
  have f0_1 : w1.cell? ⟨w.heap.size, 1, none⟩ = some (.int .i64 ai) := H1.out.cell (b := w.heap.size) (cs := #[.int .u8 (ak : Int), .int .i64 ai, .string az]) (t := 24) (fr := (0, 0)) (List.mem_cons_self ..) 1
  have f0_2 : w1.cell? ⟨w.heap.size, 2, none⟩ = some (.string az) := H1.out.cell (b := w.heap.size) (cs := #[.int .u8 (ak : Int), .int .i64 ai, .string az]) (t := 24) (fr := (0, 0)) (List.mem_cons_self ..) 2
  have z0 : w.heap.size < w1.heap.size := lt_of_block (H1.out.get (b := w.heap.size) (o := .cells #[.int .u8 (ak : Int), .int .i64 ai, .string az] 24 (0, 0)) (List.mem_cons_self ..))
  go_wp2_with fail
  refine (long1_new _ _ az azb _ true hbig).mono ?_
  rintro e w2 ⟨rfl, hb⟩
  have H2 := Lib.hid (H1.out.kept hb)
  clear f0_0 f0_1 f0_2 z0
  clear hb 
  go_wp2_with fail
  refine (alive_yes _ (HW.out _ H2.out.below)).mono ?_
  rintro e w3 ⟨rfl, hb⟩
  have H3 := Lib.hid (H2.out.kept hb)
  clear hb 
  go_wp2_with fail
  go_ret
  exact ⟨rfl, H3.out.below⟩
set_option maxRecDepth 100000 in
set_option maxHeartbeats 8000000 in
theorem truth_not (ak : Nat) (akb : ak < 256) (ai : Int) (ai0 : -9223372036854775808 ≤ ai) (ai1 : ai ≤ 9223372036854775807) (az : ByteArray) (azb : az.size ≤ 140737488351232) (hbig : decide ((20000 : Int) < (az.size : Int)) = false) (hfine : Val.fine ⟨ak, ai, az⟩ = false) (w : World) (hw : Wd w) :
    Calls Tryd.prog 3 #[.agg #[.int .u8 (ak : Int), .int .i64 ai, .string az]] w fun e w' => e = .returned (.bool true) ∧ Below w.heap.size w w' := by
  obtain ⟨w0, hW⟩ : ∃ w0, w0 = (w.alloc (.cells #[.int .u8 (ak : Int), .int .i64 ai, .string az] 24)) := ⟨_, rfl⟩
  have H0 : Hid (Fam w [(w.heap.size, .cells #[.int .u8 (ak : Int), .int .i64 ai, .string az] 24 (0, 0))] w0) := Lib.hid (by rw [hW]; exact fam_n1 ..)
  have HW : Hid (∀ x, Below w.heap.size w x → Wd x) := Lib.hid (fun _ h => hw.kept h)
  clear hw
  go_enter Tryd.func3, Tryd.ntmps3
  go_wp2_with fail
  rw [← hW]
  clear hW
  refine (alive_yes _ (HW.out _ H0.out.below)).mono ?_
  rintro e w1 ⟨rfl, hb⟩
  have H1 := Lib.hid (H0.out.kept hb)
  clear hb 
  have f0_0 : w1.cell? ⟨w.heap.size, 0, none⟩ = some (.int .u8 (ak : Int)) := H1.out.cell (b := w.heap.size) (cs := #[.int .u8 (ak : Int), .int .i64 ai, .string az]) (t := 24) (fr := (0, 0)) (List.mem_cons_self ..) 0
  have f0_1 : w1.cell? ⟨w.heap.size, 1, none⟩ = some (.int .i64 ai) := H1.out.cell (b := w.heap.size) (cs := #[.int .u8 (ak : Int), .int .i64 ai, .string az]) (t := 24) (fr := (0, 0)) (List.mem_cons_self ..) 1
  have f0_2 : w1.cell? ⟨w.heap.size, 2, none⟩ = some (.string az) := H1.out.cell (b := w.heap.size) (cs := #[.int .u8 (ak : Int), .int .i64 ai, .string az]) (t := 24) (fr := (0, 0)) (List.mem_cons_self ..) 2
  have z0 : w.heap.size < w1.heap.size := lt_of_block (H1.out.get (b := w.heap.size) (o := .cells #[.int .u8 (ak : Int), .int .i64 ai, .string az] 24 (0, 0)) (List.mem_cons_self ..))
  go_wp2_with fail
  refine (long1_new _ _ az azb _ false hbig).mono ?_
  rintro e w2 ⟨rfl, hb⟩
  have H2 := Lib.hid (H1.out.kept hb)
  clear f0_0 f0_1 f0_2 z0
  clear hb 
  have f0_0 : w2.cell? ⟨w.heap.size, 0, none⟩ = some (.int .u8 (ak : Int)) := H2.out.cell (b := w.heap.size) (cs := #[.int .u8 (ak : Int), .int .i64 ai, .string az]) (t := 24) (fr := (0, 0)) (List.mem_cons_self ..) 0
  have f0_1 : w2.cell? ⟨w.heap.size, 1, none⟩ = some (.int .i64 ai) := H2.out.cell (b := w.heap.size) (cs := #[.int .u8 (ak : Int), .int .i64 ai, .string az]) (t := 24) (fr := (0, 0)) (List.mem_cons_self ..) 1
  have f0_2 : w2.cell? ⟨w.heap.size, 2, none⟩ = some (.string az) := H2.out.cell (b := w.heap.size) (cs := #[.int .u8 (ak : Int), .int .i64 ai, .string az]) (t := 24) (fr := (0, 0)) (List.mem_cons_self ..) 2
  have z0 : w.heap.size < w2.heap.size := lt_of_block (H2.out.get (b := w.heap.size) (o := .cells #[.int .u8 (ak : Int), .int .i64 ai, .string az] 24 (0, 0)) (List.mem_cons_self ..))
  go_wp2_with fail
  refine (fine1_new ak ai az akb _ false hfine).mono ?_
  rintro e w3 ⟨rfl, hb⟩
  have H3 := Lib.hid (H2.out.kept hb)
  clear f0_0 f0_1 f0_2 z0
  clear hb 
  go_wp2_with fail
  refine (alive_yes _ (HW.out _ H3.out.below)).mono ?_
  rintro e w4 ⟨rfl, hb⟩
  have H4 := Lib.hid (H3.out.kept hb)
  clear hb 
  go_wp2_with fail
  go_ret
  exact ⟨rfl, H4.out.below⟩
set_option maxRecDepth 100000 in
set_option maxHeartbeats 8000000 in
theorem truth_txt (az : ByteArray) (azb : az.size ≤ 140737488351232) (hbig : decide ((20000 : Int) < (az.size : Int)) = false) (hfine : Val.fine ⟨2, 0, az⟩ = true) (htr : Hid (Val.truth ⟨2, 0, az⟩ = (false, false, 11))) (w : World) (hw : Wd w) :
    Calls Tryd.prog 3 #[.agg #[.int .u8 (2 : Int), .int .i64 0, .string az]] w fun e w' => e = .returned (.bool true) ∧ Below w.heap.size w w' := by
  obtain ⟨w0, hW⟩ : ∃ w0, w0 = (w.alloc (.cells #[.int .u8 2, .int .i64 0, .string az] 24)) := ⟨_, rfl⟩
  have H0 : Hid (Fam w [(w.heap.size, .cells #[.int .u8 2, .int .i64 0, .string az] 24 (0, 0))] w0) := Lib.hid (by rw [hW]; exact fam_n1 ..)
  have HW : Hid (∀ x, Below w.heap.size w x → Wd x) := Lib.hid (fun _ h => hw.kept h)
  clear hw
  go_enter Tryd.func3, Tryd.ntmps3
  go_wp2_with fail
  rw [← hW]
  clear hW
  refine (alive_yes _ (HW.out _ H0.out.below)).mono ?_
  rintro e w1 ⟨rfl, hb⟩
  have H1 := Lib.hid (H0.out.kept hb)
  clear hb 
  have f0_0 : w1.cell? ⟨w.heap.size, 0, none⟩ = some (.int .u8 2) := H1.out.cell (b := w.heap.size) (cs := #[.int .u8 2, .int .i64 0, .string az]) (t := 24) (fr := (0, 0)) (List.mem_cons_self ..) 0
  have f0_1 : w1.cell? ⟨w.heap.size, 1, none⟩ = some (.int .i64 0) := H1.out.cell (b := w.heap.size) (cs := #[.int .u8 2, .int .i64 0, .string az]) (t := 24) (fr := (0, 0)) (List.mem_cons_self ..) 1
  have f0_2 : w1.cell? ⟨w.heap.size, 2, none⟩ = some (.string az) := H1.out.cell (b := w.heap.size) (cs := #[.int .u8 2, .int .i64 0, .string az]) (t := 24) (fr := (0, 0)) (List.mem_cons_self ..) 2
  have z0 : w.heap.size < w1.heap.size := lt_of_block (H1.out.get (b := w.heap.size) (o := .cells #[.int .u8 2, .int .i64 0, .string az] 24 (0, 0)) (List.mem_cons_self ..))
  go_wp2_with fail
  refine (long1_new _ _ az azb _ false hbig).mono ?_
  rintro e w2 ⟨rfl, hb⟩
  have H2 := Lib.hid (H1.out.kept hb)
  clear f0_0 f0_1 f0_2 z0
  clear hb 
  have f0_0 : w2.cell? ⟨w.heap.size, 0, none⟩ = some (.int .u8 2) := H2.out.cell (b := w.heap.size) (cs := #[.int .u8 2, .int .i64 0, .string az]) (t := 24) (fr := (0, 0)) (List.mem_cons_self ..) 0
  have f0_1 : w2.cell? ⟨w.heap.size, 1, none⟩ = some (.int .i64 0) := H2.out.cell (b := w.heap.size) (cs := #[.int .u8 2, .int .i64 0, .string az]) (t := 24) (fr := (0, 0)) (List.mem_cons_self ..) 1
  have f0_2 : w2.cell? ⟨w.heap.size, 2, none⟩ = some (.string az) := H2.out.cell (b := w.heap.size) (cs := #[.int .u8 2, .int .i64 0, .string az]) (t := 24) (fr := (0, 0)) (List.mem_cons_self ..) 2
  have z0 : w.heap.size < w2.heap.size := lt_of_block (H2.out.get (b := w.heap.size) (o := .cells #[.int .u8 2, .int .i64 0, .string az] 24 (0, 0)) (List.mem_cons_self ..))
  go_wp2_with fail
  refine (fine1_new 2 0 az (by omega) _ true hfine).mono ?_
  rintro e w3 ⟨rfl, hb⟩
  have H3 := Lib.hid (H2.out.kept hb)
  clear f0_0 f0_1 f0_2 z0
  clear hb 
  have f0_0 : w3.cell? ⟨w.heap.size, 0, none⟩ = some (.int .u8 2) := H3.out.cell (b := w.heap.size) (cs := #[.int .u8 2, .int .i64 0, .string az]) (t := 24) (fr := (0, 0)) (List.mem_cons_self ..) 0
  have f0_1 : w3.cell? ⟨w.heap.size, 1, none⟩ = some (.int .i64 0) := H3.out.cell (b := w.heap.size) (cs := #[.int .u8 2, .int .i64 0, .string az]) (t := 24) (fr := (0, 0)) (List.mem_cons_self ..) 1
  have f0_2 : w3.cell? ⟨w.heap.size, 2, none⟩ = some (.string az) := H3.out.cell (b := w.heap.size) (cs := #[.int .u8 2, .int .i64 0, .string az]) (t := 24) (fr := (0, 0)) (List.mem_cons_self ..) 2
  have z0 : w.heap.size < w3.heap.size := lt_of_block (H3.out.get (b := w.heap.size) (o := .cells #[.int .u8 2, .int .i64 0, .string az] 24 (0, 0)) (List.mem_cons_self ..))
  go_wp2_with fail
  refine (truth_is 2 0 az false false 11 (by omega) htr.out _).mono ?_
  rintro e w4 ⟨rfl, hb⟩
  have H4 := Lib.hid (H3.out.kept hb)
  clear f0_0 f0_1 f0_2 z0
  clear hb 
  have f0_0 : w4.cell? ⟨w.heap.size, 0, none⟩ = some (.int .u8 2) := H4.out.cell (b := w.heap.size) (cs := #[.int .u8 2, .int .i64 0, .string az]) (t := 24) (fr := (0, 0)) (List.mem_cons_self ..) 0
  have f0_1 : w4.cell? ⟨w.heap.size, 1, none⟩ = some (.int .i64 0) := H4.out.cell (b := w.heap.size) (cs := #[.int .u8 2, .int .i64 0, .string az]) (t := 24) (fr := (0, 0)) (List.mem_cons_self ..) 1
  have f0_2 : w4.cell? ⟨w.heap.size, 2, none⟩ = some (.string az) := H4.out.cell (b := w.heap.size) (cs := #[.int .u8 2, .int .i64 0, .string az]) (t := 24) (fr := (0, 0)) (List.mem_cons_self ..) 2
  have z0 : w.heap.size < w4.heap.size := lt_of_block (H4.out.get (b := w.heap.size) (o := .cells #[.int .u8 2, .int .i64 0, .string az] 24 (0, 0)) (List.mem_cons_self ..))
  go_wp2_with fail
  go_ret
  exact ⟨rfl, H4.out.below⟩
set_option maxRecDepth 100000 in
set_option maxHeartbeats 8000000 in
theorem truth_nil  (hbig : decide ((20000 : Int) < ((⟨#[]⟩ : ByteArray).size : Int)) = false) (hfine : Val.fine ⟨0, 0, ⟨#[]⟩⟩ = true) (w : World) (hw : Wd w) :
    Calls Tryd.prog 3 #[.agg #[.int .u8 (0 : Int), .int .i64 0, .string ⟨#[]⟩]] w fun e w' => e = .returned (.bool true) ∧ Below w.heap.size w w' := by
  obtain ⟨w0, hW⟩ : ∃ w0, w0 = (w.alloc (.cells #[.int .u8 0, .int .i64 0, .string ⟨#[]⟩] 24)) := ⟨_, rfl⟩
  have H0 : Hid (Fam w [(w.heap.size, .cells #[.int .u8 0, .int .i64 0, .string ⟨#[]⟩] 24 (0, 0))] w0) := Lib.hid (by rw [hW]; exact fam_n1 ..)
  have HW : Hid (∀ x, Below w.heap.size w x → Wd x) := Lib.hid (fun _ h => hw.kept h)
  clear hw
  go_enter Tryd.func3, Tryd.ntmps3
  go_wp2_with fail
  rw [← hW]
  clear hW
  refine (alive_yes _ (HW.out _ H0.out.below)).mono ?_
  rintro e w1 ⟨rfl, hb⟩
  have H1 := Lib.hid (H0.out.kept hb)
  clear hb 
  have f0_0 : w1.cell? ⟨w.heap.size, 0, none⟩ = some (.int .u8 0) := H1.out.cell (b := w.heap.size) (cs := #[.int .u8 0, .int .i64 0, .string ⟨#[]⟩]) (t := 24) (fr := (0, 0)) (List.mem_cons_self ..) 0
  have f0_1 : w1.cell? ⟨w.heap.size, 1, none⟩ = some (.int .i64 0) := H1.out.cell (b := w.heap.size) (cs := #[.int .u8 0, .int .i64 0, .string ⟨#[]⟩]) (t := 24) (fr := (0, 0)) (List.mem_cons_self ..) 1
  have f0_2 : w1.cell? ⟨w.heap.size, 2, none⟩ = some (.string ⟨#[]⟩) := H1.out.cell (b := w.heap.size) (cs := #[.int .u8 0, .int .i64 0, .string ⟨#[]⟩]) (t := 24) (fr := (0, 0)) (List.mem_cons_self ..) 2
  have z0 : w.heap.size < w1.heap.size := lt_of_block (H1.out.get (b := w.heap.size) (o := .cells #[.int .u8 0, .int .i64 0, .string ⟨#[]⟩] 24 (0, 0)) (List.mem_cons_self ..))
  go_wp2_with fail
  refine (long1_new _ _ ⟨#[]⟩ (by decide) _ false hbig).mono ?_
  rintro e w2 ⟨rfl, hb⟩
  have H2 := Lib.hid (H1.out.kept hb)
  clear f0_0 f0_1 f0_2 z0
  clear hb 
  have f0_0 : w2.cell? ⟨w.heap.size, 0, none⟩ = some (.int .u8 0) := H2.out.cell (b := w.heap.size) (cs := #[.int .u8 0, .int .i64 0, .string ⟨#[]⟩]) (t := 24) (fr := (0, 0)) (List.mem_cons_self ..) 0
  have f0_1 : w2.cell? ⟨w.heap.size, 1, none⟩ = some (.int .i64 0) := H2.out.cell (b := w.heap.size) (cs := #[.int .u8 0, .int .i64 0, .string ⟨#[]⟩]) (t := 24) (fr := (0, 0)) (List.mem_cons_self ..) 1
  have f0_2 : w2.cell? ⟨w.heap.size, 2, none⟩ = some (.string ⟨#[]⟩) := H2.out.cell (b := w.heap.size) (cs := #[.int .u8 0, .int .i64 0, .string ⟨#[]⟩]) (t := 24) (fr := (0, 0)) (List.mem_cons_self ..) 2
  have z0 : w.heap.size < w2.heap.size := lt_of_block (H2.out.get (b := w.heap.size) (o := .cells #[.int .u8 0, .int .i64 0, .string ⟨#[]⟩] 24 (0, 0)) (List.mem_cons_self ..))
  go_wp2_with fail
  refine (fine1_new 0 0 ⟨#[]⟩ (by omega) _ true hfine).mono ?_
  rintro e w3 ⟨rfl, hb⟩
  have H3 := Lib.hid (H2.out.kept hb)
  clear f0_0 f0_1 f0_2 z0
  clear hb 
  have f0_0 : w3.cell? ⟨w.heap.size, 0, none⟩ = some (.int .u8 0) := H3.out.cell (b := w.heap.size) (cs := #[.int .u8 0, .int .i64 0, .string ⟨#[]⟩]) (t := 24) (fr := (0, 0)) (List.mem_cons_self ..) 0
  have f0_1 : w3.cell? ⟨w.heap.size, 1, none⟩ = some (.int .i64 0) := H3.out.cell (b := w.heap.size) (cs := #[.int .u8 0, .int .i64 0, .string ⟨#[]⟩]) (t := 24) (fr := (0, 0)) (List.mem_cons_self ..) 1
  have f0_2 : w3.cell? ⟨w.heap.size, 2, none⟩ = some (.string ⟨#[]⟩) := H3.out.cell (b := w.heap.size) (cs := #[.int .u8 0, .int .i64 0, .string ⟨#[]⟩]) (t := 24) (fr := (0, 0)) (List.mem_cons_self ..) 2
  have z0 : w.heap.size < w3.heap.size := lt_of_block (H3.out.get (b := w.heap.size) (o := .cells #[.int .u8 0, .int .i64 0, .string ⟨#[]⟩] 24 (0, 0)) (List.mem_cons_self ..))
  go_wp2_with fail
  refine (truth_is 0 0 ⟨#[]⟩ false false 0 (by omega) (by kernel_rfl) _).mono ?_
  rintro e w4 ⟨rfl, hb⟩
  have H4 := Lib.hid (H3.out.kept hb)
  clear f0_0 f0_1 f0_2 z0
  clear hb 
  have f0_0 : w4.cell? ⟨w.heap.size, 0, none⟩ = some (.int .u8 0) := H4.out.cell (b := w.heap.size) (cs := #[.int .u8 0, .int .i64 0, .string ⟨#[]⟩]) (t := 24) (fr := (0, 0)) (List.mem_cons_self ..) 0
  have f0_1 : w4.cell? ⟨w.heap.size, 1, none⟩ = some (.int .i64 0) := H4.out.cell (b := w.heap.size) (cs := #[.int .u8 0, .int .i64 0, .string ⟨#[]⟩]) (t := 24) (fr := (0, 0)) (List.mem_cons_self ..) 1
  have f0_2 : w4.cell? ⟨w.heap.size, 2, none⟩ = some (.string ⟨#[]⟩) := H4.out.cell (b := w.heap.size) (cs := #[.int .u8 0, .int .i64 0, .string ⟨#[]⟩]) (t := 24) (fr := (0, 0)) (List.mem_cons_self ..) 2
  have z0 : w.heap.size < w4.heap.size := lt_of_block (H4.out.get (b := w.heap.size) (o := .cells #[.int .u8 0, .int .i64 0, .string ⟨#[]⟩] 24 (0, 0)) (List.mem_cons_self ..))
  go_wp2_with fail
  refine (turned_is 0 0 ⟨#[]⟩ 0 0 ⟨#[]⟩ (by omega) (by omega) (by omega) (by kernel_rfl) _).mono ?_
  rintro e w5 ⟨rfl, hb⟩
  have H5 := Lib.hid (H4.out.kept hb)
  clear f0_0 f0_1 f0_2 z0
  clear hb 
  go_wp2_with fail
  refine (turned_is 0 0 ⟨#[]⟩ 0 0 ⟨#[]⟩ (by omega) (by omega) (by omega) (by kernel_rfl) _).mono ?_
  rintro e w6 ⟨rfl, hb⟩
  have H6 := Lib.hid (H5.out.kept hb)
  clear hb 
  have f0_0 : w6.cell? ⟨w.heap.size, 0, none⟩ = some (.int .u8 0) := H6.out.cell (b := w.heap.size) (cs := #[.int .u8 0, .int .i64 0, .string ⟨#[]⟩]) (t := 24) (fr := (0, 0)) (List.mem_cons_self ..) 0
  have f0_1 : w6.cell? ⟨w.heap.size, 1, none⟩ = some (.int .i64 0) := H6.out.cell (b := w.heap.size) (cs := #[.int .u8 0, .int .i64 0, .string ⟨#[]⟩]) (t := 24) (fr := (0, 0)) (List.mem_cons_self ..) 1
  have f0_2 : w6.cell? ⟨w.heap.size, 2, none⟩ = some (.string ⟨#[]⟩) := H6.out.cell (b := w.heap.size) (cs := #[.int .u8 0, .int .i64 0, .string ⟨#[]⟩]) (t := 24) (fr := (0, 0)) (List.mem_cons_self ..) 2
  have z0 : w.heap.size < w6.heap.size := lt_of_block (H6.out.get (b := w.heap.size) (o := .cells #[.int .u8 0, .int .i64 0, .string ⟨#[]⟩] 24 (0, 0)) (List.mem_cons_self ..))
  go_wp2_with fail
  go_ret
  exact ⟨rfl, (H6.out.below).alloc H6.out.below.size _⟩
set_option maxRecDepth 100000 in
set_option maxHeartbeats 8000000 in
theorem truth_zero  (hbig : decide ((20000 : Int) < ((⟨#[]⟩ : ByteArray).size : Int)) = false) (hfine : Val.fine ⟨1, 0, ⟨#[]⟩⟩ = true) (htr : Hid (Val.truth ⟨1, 0, ⟨#[]⟩⟩ = (false, true, 0))) (hto : Hid ((Val.one 2 ⟨1, 0, ⟨#[]⟩⟩).1 = ⟨1, 1, ⟨#[]⟩⟩)) (w : World) (hw : Wd w) :
    Calls Tryd.prog 3 #[.agg #[.int .u8 (1 : Int), .int .i64 0, .string ⟨#[]⟩]] w fun e w' => e = .returned (.bool true) ∧ Below w.heap.size w w' := by
  obtain ⟨w0, hW⟩ : ∃ w0, w0 = (w.alloc (.cells #[.int .u8 1, .int .i64 0, .string ⟨#[]⟩] 24)) := ⟨_, rfl⟩
  have H0 : Hid (Fam w [(w.heap.size, .cells #[.int .u8 1, .int .i64 0, .string ⟨#[]⟩] 24 (0, 0))] w0) := Lib.hid (by rw [hW]; exact fam_n1 ..)
  have HW : Hid (∀ x, Below w.heap.size w x → Wd x) := Lib.hid (fun _ h => hw.kept h)
  clear hw
  go_enter Tryd.func3, Tryd.ntmps3
  go_wp2_with fail
  rw [← hW]
  clear hW
  refine (alive_yes _ (HW.out _ H0.out.below)).mono ?_
  rintro e w1 ⟨rfl, hb⟩
  have H1 := Lib.hid (H0.out.kept hb)
  clear hb 
  have f0_0 : w1.cell? ⟨w.heap.size, 0, none⟩ = some (.int .u8 1) := H1.out.cell (b := w.heap.size) (cs := #[.int .u8 1, .int .i64 0, .string ⟨#[]⟩]) (t := 24) (fr := (0, 0)) (List.mem_cons_self ..) 0
  have f0_1 : w1.cell? ⟨w.heap.size, 1, none⟩ = some (.int .i64 0) := H1.out.cell (b := w.heap.size) (cs := #[.int .u8 1, .int .i64 0, .string ⟨#[]⟩]) (t := 24) (fr := (0, 0)) (List.mem_cons_self ..) 1
  have f0_2 : w1.cell? ⟨w.heap.size, 2, none⟩ = some (.string ⟨#[]⟩) := H1.out.cell (b := w.heap.size) (cs := #[.int .u8 1, .int .i64 0, .string ⟨#[]⟩]) (t := 24) (fr := (0, 0)) (List.mem_cons_self ..) 2
  have z0 : w.heap.size < w1.heap.size := lt_of_block (H1.out.get (b := w.heap.size) (o := .cells #[.int .u8 1, .int .i64 0, .string ⟨#[]⟩] 24 (0, 0)) (List.mem_cons_self ..))
  go_wp2_with fail
  refine (long1_new _ _ ⟨#[]⟩ (by decide) _ false hbig).mono ?_
  rintro e w2 ⟨rfl, hb⟩
  have H2 := Lib.hid (H1.out.kept hb)
  clear f0_0 f0_1 f0_2 z0
  clear hb 
  have f0_0 : w2.cell? ⟨w.heap.size, 0, none⟩ = some (.int .u8 1) := H2.out.cell (b := w.heap.size) (cs := #[.int .u8 1, .int .i64 0, .string ⟨#[]⟩]) (t := 24) (fr := (0, 0)) (List.mem_cons_self ..) 0
  have f0_1 : w2.cell? ⟨w.heap.size, 1, none⟩ = some (.int .i64 0) := H2.out.cell (b := w.heap.size) (cs := #[.int .u8 1, .int .i64 0, .string ⟨#[]⟩]) (t := 24) (fr := (0, 0)) (List.mem_cons_self ..) 1
  have f0_2 : w2.cell? ⟨w.heap.size, 2, none⟩ = some (.string ⟨#[]⟩) := H2.out.cell (b := w.heap.size) (cs := #[.int .u8 1, .int .i64 0, .string ⟨#[]⟩]) (t := 24) (fr := (0, 0)) (List.mem_cons_self ..) 2
  have z0 : w.heap.size < w2.heap.size := lt_of_block (H2.out.get (b := w.heap.size) (o := .cells #[.int .u8 1, .int .i64 0, .string ⟨#[]⟩] 24 (0, 0)) (List.mem_cons_self ..))
  go_wp2_with fail
  refine (fine1_new 1 0 ⟨#[]⟩ (by omega) _ true hfine).mono ?_
  rintro e w3 ⟨rfl, hb⟩
  have H3 := Lib.hid (H2.out.kept hb)
  clear f0_0 f0_1 f0_2 z0
  clear hb 
  have f0_0 : w3.cell? ⟨w.heap.size, 0, none⟩ = some (.int .u8 1) := H3.out.cell (b := w.heap.size) (cs := #[.int .u8 1, .int .i64 0, .string ⟨#[]⟩]) (t := 24) (fr := (0, 0)) (List.mem_cons_self ..) 0
  have f0_1 : w3.cell? ⟨w.heap.size, 1, none⟩ = some (.int .i64 0) := H3.out.cell (b := w.heap.size) (cs := #[.int .u8 1, .int .i64 0, .string ⟨#[]⟩]) (t := 24) (fr := (0, 0)) (List.mem_cons_self ..) 1
  have f0_2 : w3.cell? ⟨w.heap.size, 2, none⟩ = some (.string ⟨#[]⟩) := H3.out.cell (b := w.heap.size) (cs := #[.int .u8 1, .int .i64 0, .string ⟨#[]⟩]) (t := 24) (fr := (0, 0)) (List.mem_cons_self ..) 2
  have z0 : w.heap.size < w3.heap.size := lt_of_block (H3.out.get (b := w.heap.size) (o := .cells #[.int .u8 1, .int .i64 0, .string ⟨#[]⟩] 24 (0, 0)) (List.mem_cons_self ..))
  go_wp2_with fail
  refine (truth_is 1 0 ⟨#[]⟩ false true 0 (by omega) htr.out _).mono ?_
  rintro e w4 ⟨rfl, hb⟩
  have H4 := Lib.hid (H3.out.kept hb)
  clear f0_0 f0_1 f0_2 z0
  clear hb 
  have f0_0 : w4.cell? ⟨w.heap.size, 0, none⟩ = some (.int .u8 1) := H4.out.cell (b := w.heap.size) (cs := #[.int .u8 1, .int .i64 0, .string ⟨#[]⟩]) (t := 24) (fr := (0, 0)) (List.mem_cons_self ..) 0
  have f0_1 : w4.cell? ⟨w.heap.size, 1, none⟩ = some (.int .i64 0) := H4.out.cell (b := w.heap.size) (cs := #[.int .u8 1, .int .i64 0, .string ⟨#[]⟩]) (t := 24) (fr := (0, 0)) (List.mem_cons_self ..) 1
  have f0_2 : w4.cell? ⟨w.heap.size, 2, none⟩ = some (.string ⟨#[]⟩) := H4.out.cell (b := w.heap.size) (cs := #[.int .u8 1, .int .i64 0, .string ⟨#[]⟩]) (t := 24) (fr := (0, 0)) (List.mem_cons_self ..) 2
  have z0 : w.heap.size < w4.heap.size := lt_of_block (H4.out.get (b := w.heap.size) (o := .cells #[.int .u8 1, .int .i64 0, .string ⟨#[]⟩] 24 (0, 0)) (List.mem_cons_self ..))
  go_wp2_with fail
  refine (turned_is 1 0 ⟨#[]⟩ 1 1 ⟨#[]⟩ (by omega) (by omega) (by omega) hto.out _).mono ?_
  rintro e w5 ⟨rfl, hb⟩
  have H5 := Lib.hid (H4.out.kept hb)
  clear f0_0 f0_1 f0_2 z0
  clear hb 
  go_wp2_with fail
  refine (turned_is 1 1 ⟨#[]⟩ 1 0 ⟨#[]⟩ (by omega) (by omega) (by omega) (by kernel_rfl) _).mono ?_
  rintro e w6 ⟨rfl, hb⟩
  have H6 := Lib.hid (H5.out.kept hb)
  clear hb 
  have f0_0 : w6.cell? ⟨w.heap.size, 0, none⟩ = some (.int .u8 1) := H6.out.cell (b := w.heap.size) (cs := #[.int .u8 1, .int .i64 0, .string ⟨#[]⟩]) (t := 24) (fr := (0, 0)) (List.mem_cons_self ..) 0
  have f0_1 : w6.cell? ⟨w.heap.size, 1, none⟩ = some (.int .i64 0) := H6.out.cell (b := w.heap.size) (cs := #[.int .u8 1, .int .i64 0, .string ⟨#[]⟩]) (t := 24) (fr := (0, 0)) (List.mem_cons_self ..) 1
  have f0_2 : w6.cell? ⟨w.heap.size, 2, none⟩ = some (.string ⟨#[]⟩) := H6.out.cell (b := w.heap.size) (cs := #[.int .u8 1, .int .i64 0, .string ⟨#[]⟩]) (t := 24) (fr := (0, 0)) (List.mem_cons_self ..) 2
  have z0 : w.heap.size < w6.heap.size := lt_of_block (H6.out.get (b := w.heap.size) (o := .cells #[.int .u8 1, .int .i64 0, .string ⟨#[]⟩] 24 (0, 0)) (List.mem_cons_self ..))
  go_wp2_with fail
  have HA0 := Lib.hid (H6.out.add (below_alloc w6 (.cells #[.int .u8 1, .int .i64 0, .string ⟨#[]⟩] 24)) (Nat.le_refl _) (heap_alloc_new _ _))
  refine (truth_is 1 0 ⟨#[]⟩ false true 0 (by omega) (by kernel_rfl) _).mono ?_
  rintro e w7 ⟨rfl, hb⟩
  have H7 := Lib.hid (HA0.out.kept hb)
  clear f0_0 f0_1 f0_2 z0
  clear hb HA0
  have f0_0 : w7.cell? ⟨w6.heap.size, 0, none⟩ = some (.int .u8 1) := H7.out.cell (b := w6.heap.size) (cs := #[.int .u8 1, .int .i64 0, .string ⟨#[]⟩]) (t := 24) (fr := (0, 0)) (List.mem_cons_self ..) 0
  have f0_1 : w7.cell? ⟨w6.heap.size, 1, none⟩ = some (.int .i64 0) := H7.out.cell (b := w6.heap.size) (cs := #[.int .u8 1, .int .i64 0, .string ⟨#[]⟩]) (t := 24) (fr := (0, 0)) (List.mem_cons_self ..) 1
  have f0_2 : w7.cell? ⟨w6.heap.size, 2, none⟩ = some (.string ⟨#[]⟩) := H7.out.cell (b := w6.heap.size) (cs := #[.int .u8 1, .int .i64 0, .string ⟨#[]⟩]) (t := 24) (fr := (0, 0)) (List.mem_cons_self ..) 2
  have z0 : w6.heap.size < w7.heap.size := lt_of_block (H7.out.get (b := w6.heap.size) (o := .cells #[.int .u8 1, .int .i64 0, .string ⟨#[]⟩] 24 (0, 0)) (List.mem_cons_self ..))
  have f1_0 : w7.cell? ⟨w.heap.size, 0, none⟩ = some (.int .u8 1) := H7.out.cell (b := w.heap.size) (cs := #[.int .u8 1, .int .i64 0, .string ⟨#[]⟩]) (t := 24) (fr := (0, 0)) (List.mem_cons_of_mem _ (List.mem_cons_self ..)) 0
  have f1_1 : w7.cell? ⟨w.heap.size, 1, none⟩ = some (.int .i64 0) := H7.out.cell (b := w.heap.size) (cs := #[.int .u8 1, .int .i64 0, .string ⟨#[]⟩]) (t := 24) (fr := (0, 0)) (List.mem_cons_of_mem _ (List.mem_cons_self ..)) 1
  have f1_2 : w7.cell? ⟨w.heap.size, 2, none⟩ = some (.string ⟨#[]⟩) := H7.out.cell (b := w.heap.size) (cs := #[.int .u8 1, .int .i64 0, .string ⟨#[]⟩]) (t := 24) (fr := (0, 0)) (List.mem_cons_of_mem _ (List.mem_cons_self ..)) 2
  have z1 : w.heap.size < w7.heap.size := lt_of_block (H7.out.get (b := w.heap.size) (o := .cells #[.int .u8 1, .int .i64 0, .string ⟨#[]⟩] 24 (0, 0)) (List.mem_cons_of_mem _ (List.mem_cons_self ..)))
  go_wp2_with fail
  clear f0_0 f0_1 f0_2 z0 f1_0 f1_1 f1_2 z1
  have q0_0 := bwOf_cell w7 _ _ (H7.out.cell (b := w6.heap.size) (cs := #[.int .u8 1, .int .i64 0, .string ⟨#[]⟩]) (t := 24) (fr := (0, 0)) (List.mem_cons_self ..) 0)
  have q0_1 := bwOf_cell w7 _ _ (H7.out.cell (b := w6.heap.size) (cs := #[.int .u8 1, .int .i64 0, .string ⟨#[]⟩]) (t := 24) (fr := (0, 0)) (List.mem_cons_self ..) 1)
  have q0_2 := bwOf_cell w7 _ _ (H7.out.cell (b := w6.heap.size) (cs := #[.int .u8 1, .int .i64 0, .string ⟨#[]⟩]) (t := 24) (fr := (0, 0)) (List.mem_cons_self ..) 2)
  have q1_0 := bwOf_cell w7 _ _ (H7.out.cell (b := w.heap.size) (cs := #[.int .u8 1, .int .i64 0, .string ⟨#[]⟩]) (t := 24) (fr := (0, 0)) (List.mem_cons_of_mem _ (List.mem_cons_self ..)) 0)
  have q1_1 := bwOf_cell w7 _ _ (H7.out.cell (b := w.heap.size) (cs := #[.int .u8 1, .int .i64 0, .string ⟨#[]⟩]) (t := 24) (fr := (0, 0)) (List.mem_cons_of_mem _ (List.mem_cons_self ..)) 1)
  have q1_2 := bwOf_cell w7 _ _ (H7.out.cell (b := w.heap.size) (cs := #[.int .u8 1, .int .i64 0, .string ⟨#[]⟩]) (t := 24) (fr := (0, 0)) (List.mem_cons_of_mem _ (List.mem_cons_self ..)) 2)
  refine wp_region_bw (w := w7) (by kernel_rfl) (by kernel_rfl) ?_
  repeat (go_big_quiet_step (fail))
  go_big_quiet_step ((go_at_call 10; exact below_of (n_any _ _)))
  repeat (go_big_quiet_step (fail))
  refine wpQuiet_nil ?_
  rintro w8 ⟨m, rfl⟩
  have H8 := Lib.hid (H7.out.kept (bwOf_below w7 m))
  clear q0_0 q0_1 q0_2 q1_0 q1_1 q1_2
  generalize bwOf w7 m = w8 at *
  go_wp2
  go_ret
  exact ⟨rfl, H8.out.below⟩
set_option maxRecDepth 100000 in
set_option maxHeartbeats 8000000 in
theorem truth_num (ai : Int) (ai0 : -9223372036854775808 ≤ ai) (ai1 : ai ≤ 9223372036854775807) (hbig : decide ((20000 : Int) < ((⟨#[]⟩ : ByteArray).size : Int)) = false) (hfine : Val.fine ⟨1, ai, ⟨#[]⟩⟩ = true) (htr : Hid (Val.truth ⟨1, ai, ⟨#[]⟩⟩ = (true, true, 0))) (hto : Hid ((Val.one 2 ⟨1, ai, ⟨#[]⟩⟩).1 = ⟨1, 0, ⟨#[]⟩⟩)) (hi : (ai == 0) = false) (hi2 : (ai != 0) = true) (w : World) (hw : Wd w) :
    Calls Tryd.prog 3 #[.agg #[.int .u8 (1 : Int), .int .i64 ai, .string ⟨#[]⟩]] w fun e w' => e = .returned (.bool true) ∧ Below w.heap.size w w' := by
  obtain ⟨w0, hW⟩ : ∃ w0, w0 = (w.alloc (.cells #[.int .u8 1, .int .i64 ai, .string ⟨#[]⟩] 24)) := ⟨_, rfl⟩
  have H0 : Hid (Fam w [(w.heap.size, .cells #[.int .u8 1, .int .i64 ai, .string ⟨#[]⟩] 24 (0, 0))] w0) := Lib.hid (by rw [hW]; exact fam_n1 ..)
  have HW : Hid (∀ x, Below w.heap.size w x → Wd x) := Lib.hid (fun _ h => hw.kept h)
  clear hw
  go_enter Tryd.func3, Tryd.ntmps3
  go_wp2_with fail
  rw [← hW]
  clear hW
  refine (alive_yes _ (HW.out _ H0.out.below)).mono ?_
  rintro e w1 ⟨rfl, hb⟩
  have H1 := Lib.hid (H0.out.kept hb)
  clear hb 
  have f0_0 : w1.cell? ⟨w.heap.size, 0, none⟩ = some (.int .u8 1) := H1.out.cell (b := w.heap.size) (cs := #[.int .u8 1, .int .i64 ai, .string ⟨#[]⟩]) (t := 24) (fr := (0, 0)) (List.mem_cons_self ..) 0
  have f0_1 : w1.cell? ⟨w.heap.size, 1, none⟩ = some (.int .i64 ai) := H1.out.cell (b := w.heap.size) (cs := #[.int .u8 1, .int .i64 ai, .string ⟨#[]⟩]) (t := 24) (fr := (0, 0)) (List.mem_cons_self ..) 1
  have f0_2 : w1.cell? ⟨w.heap.size, 2, none⟩ = some (.string ⟨#[]⟩) := H1.out.cell (b := w.heap.size) (cs := #[.int .u8 1, .int .i64 ai, .string ⟨#[]⟩]) (t := 24) (fr := (0, 0)) (List.mem_cons_self ..) 2
  have z0 : w.heap.size < w1.heap.size := lt_of_block (H1.out.get (b := w.heap.size) (o := .cells #[.int .u8 1, .int .i64 ai, .string ⟨#[]⟩] 24 (0, 0)) (List.mem_cons_self ..))
  go_wp2_with fail
  refine (long1_new _ _ ⟨#[]⟩ (by decide) _ false hbig).mono ?_
  rintro e w2 ⟨rfl, hb⟩
  have H2 := Lib.hid (H1.out.kept hb)
  clear f0_0 f0_1 f0_2 z0
  clear hb 
  have f0_0 : w2.cell? ⟨w.heap.size, 0, none⟩ = some (.int .u8 1) := H2.out.cell (b := w.heap.size) (cs := #[.int .u8 1, .int .i64 ai, .string ⟨#[]⟩]) (t := 24) (fr := (0, 0)) (List.mem_cons_self ..) 0
  have f0_1 : w2.cell? ⟨w.heap.size, 1, none⟩ = some (.int .i64 ai) := H2.out.cell (b := w.heap.size) (cs := #[.int .u8 1, .int .i64 ai, .string ⟨#[]⟩]) (t := 24) (fr := (0, 0)) (List.mem_cons_self ..) 1
  have f0_2 : w2.cell? ⟨w.heap.size, 2, none⟩ = some (.string ⟨#[]⟩) := H2.out.cell (b := w.heap.size) (cs := #[.int .u8 1, .int .i64 ai, .string ⟨#[]⟩]) (t := 24) (fr := (0, 0)) (List.mem_cons_self ..) 2
  have z0 : w.heap.size < w2.heap.size := lt_of_block (H2.out.get (b := w.heap.size) (o := .cells #[.int .u8 1, .int .i64 ai, .string ⟨#[]⟩] 24 (0, 0)) (List.mem_cons_self ..))
  go_wp2_with fail
  refine (fine1_new 1 ai ⟨#[]⟩ (by omega) _ true hfine).mono ?_
  rintro e w3 ⟨rfl, hb⟩
  have H3 := Lib.hid (H2.out.kept hb)
  clear f0_0 f0_1 f0_2 z0
  clear hb 
  have f0_0 : w3.cell? ⟨w.heap.size, 0, none⟩ = some (.int .u8 1) := H3.out.cell (b := w.heap.size) (cs := #[.int .u8 1, .int .i64 ai, .string ⟨#[]⟩]) (t := 24) (fr := (0, 0)) (List.mem_cons_self ..) 0
  have f0_1 : w3.cell? ⟨w.heap.size, 1, none⟩ = some (.int .i64 ai) := H3.out.cell (b := w.heap.size) (cs := #[.int .u8 1, .int .i64 ai, .string ⟨#[]⟩]) (t := 24) (fr := (0, 0)) (List.mem_cons_self ..) 1
  have f0_2 : w3.cell? ⟨w.heap.size, 2, none⟩ = some (.string ⟨#[]⟩) := H3.out.cell (b := w.heap.size) (cs := #[.int .u8 1, .int .i64 ai, .string ⟨#[]⟩]) (t := 24) (fr := (0, 0)) (List.mem_cons_self ..) 2
  have z0 : w.heap.size < w3.heap.size := lt_of_block (H3.out.get (b := w.heap.size) (o := .cells #[.int .u8 1, .int .i64 ai, .string ⟨#[]⟩] 24 (0, 0)) (List.mem_cons_self ..))
  go_wp2_with fail
  refine (truth_is 1 ai ⟨#[]⟩ true true 0 (by omega) htr.out _).mono ?_
  rintro e w4 ⟨rfl, hb⟩
  have H4 := Lib.hid (H3.out.kept hb)
  clear f0_0 f0_1 f0_2 z0
  clear hb 
  have f0_0 : w4.cell? ⟨w.heap.size, 0, none⟩ = some (.int .u8 1) := H4.out.cell (b := w.heap.size) (cs := #[.int .u8 1, .int .i64 ai, .string ⟨#[]⟩]) (t := 24) (fr := (0, 0)) (List.mem_cons_self ..) 0
  have f0_1 : w4.cell? ⟨w.heap.size, 1, none⟩ = some (.int .i64 ai) := H4.out.cell (b := w.heap.size) (cs := #[.int .u8 1, .int .i64 ai, .string ⟨#[]⟩]) (t := 24) (fr := (0, 0)) (List.mem_cons_self ..) 1
  have f0_2 : w4.cell? ⟨w.heap.size, 2, none⟩ = some (.string ⟨#[]⟩) := H4.out.cell (b := w.heap.size) (cs := #[.int .u8 1, .int .i64 ai, .string ⟨#[]⟩]) (t := 24) (fr := (0, 0)) (List.mem_cons_self ..) 2
  have z0 : w.heap.size < w4.heap.size := lt_of_block (H4.out.get (b := w.heap.size) (o := .cells #[.int .u8 1, .int .i64 ai, .string ⟨#[]⟩] 24 (0, 0)) (List.mem_cons_self ..))
  go_wp2_with fail
  refine (turned_is 1 ai ⟨#[]⟩ 1 0 ⟨#[]⟩ (by omega) ai0 ai1 hto.out _).mono ?_
  rintro e w5 ⟨rfl, hb⟩
  have H5 := Lib.hid (H4.out.kept hb)
  clear f0_0 f0_1 f0_2 z0
  clear hb 
  go_wp2_with fail
  refine (turned_is 1 0 ⟨#[]⟩ 1 1 ⟨#[]⟩ (by omega) (by omega) (by omega) (by kernel_rfl) _).mono ?_
  rintro e w6 ⟨rfl, hb⟩
  have H6 := Lib.hid (H5.out.kept hb)
  clear hb 
  have f0_0 : w6.cell? ⟨w.heap.size, 0, none⟩ = some (.int .u8 1) := H6.out.cell (b := w.heap.size) (cs := #[.int .u8 1, .int .i64 ai, .string ⟨#[]⟩]) (t := 24) (fr := (0, 0)) (List.mem_cons_self ..) 0
  have f0_1 : w6.cell? ⟨w.heap.size, 1, none⟩ = some (.int .i64 ai) := H6.out.cell (b := w.heap.size) (cs := #[.int .u8 1, .int .i64 ai, .string ⟨#[]⟩]) (t := 24) (fr := (0, 0)) (List.mem_cons_self ..) 1
  have f0_2 : w6.cell? ⟨w.heap.size, 2, none⟩ = some (.string ⟨#[]⟩) := H6.out.cell (b := w.heap.size) (cs := #[.int .u8 1, .int .i64 ai, .string ⟨#[]⟩]) (t := 24) (fr := (0, 0)) (List.mem_cons_self ..) 2
  have z0 : w.heap.size < w6.heap.size := lt_of_block (H6.out.get (b := w.heap.size) (o := .cells #[.int .u8 1, .int .i64 ai, .string ⟨#[]⟩] 24 (0, 0)) (List.mem_cons_self ..))
  go_wp2_with fail
  have HA0 := Lib.hid (H6.out.add (below_alloc w6 (.cells #[.int .u8 1, .int .i64 1, .string ⟨#[]⟩] 24)) (Nat.le_refl _) (heap_alloc_new _ _))
  refine (truth_is 1 1 ⟨#[]⟩ true true 0 (by omega) (by kernel_rfl) _).mono ?_
  rintro e w7 ⟨rfl, hb⟩
  have H7 := Lib.hid (HA0.out.kept hb)
  clear f0_0 f0_1 f0_2 z0
  clear hb HA0
  have f0_0 : w7.cell? ⟨w6.heap.size, 0, none⟩ = some (.int .u8 1) := H7.out.cell (b := w6.heap.size) (cs := #[.int .u8 1, .int .i64 1, .string ⟨#[]⟩]) (t := 24) (fr := (0, 0)) (List.mem_cons_self ..) 0
  have f0_1 : w7.cell? ⟨w6.heap.size, 1, none⟩ = some (.int .i64 1) := H7.out.cell (b := w6.heap.size) (cs := #[.int .u8 1, .int .i64 1, .string ⟨#[]⟩]) (t := 24) (fr := (0, 0)) (List.mem_cons_self ..) 1
  have f0_2 : w7.cell? ⟨w6.heap.size, 2, none⟩ = some (.string ⟨#[]⟩) := H7.out.cell (b := w6.heap.size) (cs := #[.int .u8 1, .int .i64 1, .string ⟨#[]⟩]) (t := 24) (fr := (0, 0)) (List.mem_cons_self ..) 2
  have z0 : w6.heap.size < w7.heap.size := lt_of_block (H7.out.get (b := w6.heap.size) (o := .cells #[.int .u8 1, .int .i64 1, .string ⟨#[]⟩] 24 (0, 0)) (List.mem_cons_self ..))
  have f1_0 : w7.cell? ⟨w.heap.size, 0, none⟩ = some (.int .u8 1) := H7.out.cell (b := w.heap.size) (cs := #[.int .u8 1, .int .i64 ai, .string ⟨#[]⟩]) (t := 24) (fr := (0, 0)) (List.mem_cons_of_mem _ (List.mem_cons_self ..)) 0
  have f1_1 : w7.cell? ⟨w.heap.size, 1, none⟩ = some (.int .i64 ai) := H7.out.cell (b := w.heap.size) (cs := #[.int .u8 1, .int .i64 ai, .string ⟨#[]⟩]) (t := 24) (fr := (0, 0)) (List.mem_cons_of_mem _ (List.mem_cons_self ..)) 1
  have f1_2 : w7.cell? ⟨w.heap.size, 2, none⟩ = some (.string ⟨#[]⟩) := H7.out.cell (b := w.heap.size) (cs := #[.int .u8 1, .int .i64 ai, .string ⟨#[]⟩]) (t := 24) (fr := (0, 0)) (List.mem_cons_of_mem _ (List.mem_cons_self ..)) 2
  have z1 : w.heap.size < w7.heap.size := lt_of_block (H7.out.get (b := w.heap.size) (o := .cells #[.int .u8 1, .int .i64 ai, .string ⟨#[]⟩] 24 (0, 0)) (List.mem_cons_of_mem _ (List.mem_cons_self ..)))
  go_wp2_with fail
  clear f0_0 f0_1 f0_2 z0 f1_0 f1_1 f1_2 z1
  have q0_0 := bwOf_cell w7 _ _ (H7.out.cell (b := w6.heap.size) (cs := #[.int .u8 1, .int .i64 1, .string ⟨#[]⟩]) (t := 24) (fr := (0, 0)) (List.mem_cons_self ..) 0)
  have q0_1 := bwOf_cell w7 _ _ (H7.out.cell (b := w6.heap.size) (cs := #[.int .u8 1, .int .i64 1, .string ⟨#[]⟩]) (t := 24) (fr := (0, 0)) (List.mem_cons_self ..) 1)
  have q0_2 := bwOf_cell w7 _ _ (H7.out.cell (b := w6.heap.size) (cs := #[.int .u8 1, .int .i64 1, .string ⟨#[]⟩]) (t := 24) (fr := (0, 0)) (List.mem_cons_self ..) 2)
  have q1_0 := bwOf_cell w7 _ _ (H7.out.cell (b := w.heap.size) (cs := #[.int .u8 1, .int .i64 ai, .string ⟨#[]⟩]) (t := 24) (fr := (0, 0)) (List.mem_cons_of_mem _ (List.mem_cons_self ..)) 0)
  have q1_1 := bwOf_cell w7 _ _ (H7.out.cell (b := w.heap.size) (cs := #[.int .u8 1, .int .i64 ai, .string ⟨#[]⟩]) (t := 24) (fr := (0, 0)) (List.mem_cons_of_mem _ (List.mem_cons_self ..)) 1)
  have q1_2 := bwOf_cell w7 _ _ (H7.out.cell (b := w.heap.size) (cs := #[.int .u8 1, .int .i64 ai, .string ⟨#[]⟩]) (t := 24) (fr := (0, 0)) (List.mem_cons_of_mem _ (List.mem_cons_self ..)) 2)
  refine wp_region_bw (w := w7) (by kernel_rfl) (by kernel_rfl) ?_
  repeat (go_big_quiet_step (fail))
  go_big_quiet_step ((go_at_call 10; exact below_of (n_any _ _)))
  repeat (go_big_quiet_step (fail))
  go_big_quiet_step ((go_at_call 10; exact below_of (n_any _ _)))
  repeat (go_big_quiet_step (fail))
  refine wpQuiet_nil ?_
  rintro w8 ⟨m, rfl⟩
  have H8 := Lib.hid (H7.out.kept (bwOf_below w7 m))
  clear q0_0 q0_1 q0_2 q1_0 q1_1 q1_2
  generalize bwOf w7 m = w8 at *
  go_wp2
  go_ret
  exact ⟨rfl, H8.out.below⟩
theorem walk_ValuesTruth (ak : Int) (ai : Int) (az : ByteArray) (hak : (Lit.int .u8 ak).wf = true) (hai : (Lit.int .i64 ai).wf = true) (haz : az.size ≤ 140737488351232) {w : World} (hw : Wd w) :
    Calls Tryd.prog 3 #[.agg #[.int .u8 ak, .int .i64 ai, .string az]] w fun e w' => e = .returned (.bool true) ∧ Below w.heap.size w w' := by
  have k0 := wf_u8 hak
  have i0 := wf_i64 hai
  obtain ⟨ak, rfl⟩ := Int.eq_ofNat_of_zero_le k0.1
  cases hbig : decide ((20000 : Int) < (az.size : Int)) with
  | true => exact truth_long ak (by omega) ai i0.1 i0.2 az haz hbig w hw
  | false =>
    cases hfine : Val.fine ⟨ak, ai, az⟩ with
    | false => exact truth_not ak (by omega) ai i0.1 i0.2 az haz hbig hfine w hw
    | true =>
      rcases Val.fine_cases hfine with h | ⟨n, h⟩ | ⟨t, h, _⟩
      · obtain ⟨rfl, rfl, rfl⟩ := Val.mk.inj h
        exact truth_nil hbig hfine w hw
      · obtain ⟨rfl, rfl, rfl⟩ := Val.mk.inj h
        by_cases hz : ai = 0
        · subst hz
          exact truth_zero hbig hfine (Lib.hid rfl) (Lib.hid rfl) w hw
        · have h1 : Val.truth ⟨1, ai, ⟨#[]⟩⟩ = (!decide (ai = 0), true, 0) := rfl
          have h2 : (Val.one 2 ⟨1, ai, ⟨#[]⟩⟩).1 = Val.yes (decide (ai = 0)) := rfl
          have h3 : decide (ai = 0) = false := by simpa using hz
          rw [h3] at h1 h2
          exact truth_num ai i0.1 i0.2 hbig hfine (Lib.hid h1) (Lib.hid h2) (by simpa using hz) (by simpa using hz) w hw
      · obtain ⟨rfl, rfl, rfl⟩ := Val.mk.inj h
        exact truth_txt az haz hbig hfine (Lib.hid (by unfold Val.truth; rw [hfine]; rfl)) w hw
end Go.Proofs.YtnnimngbocabbabDoor
