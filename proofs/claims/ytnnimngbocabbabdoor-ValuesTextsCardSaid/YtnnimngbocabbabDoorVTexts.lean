/-
  WHAT IS PROVED: the walk of ValuesTexts.
-/
import Derived.Test.YtnnimngbocabbabDoorLawC
namespace Go.Proofs.YtnnimngbocabbabDoor
open Go.RowKit Go.Lib
set_option linter.unusedVariables false

theorem take_snoc' (s : ByteArray) (k : Nat) (h : k < s.size) : s.data.toList.take (k + 1) = s.data.toList.take k ++ [s[k]] := by
  rw [List.take_succ_eq_append_getElem (by simpa using h)]; rfl
theorem count_snoc (s : ByteArray) (k : Nat) (h : k < s.size) : (s.data.toList.take (k + 1)).count 39 = (s.data.toList.take k).count 39 + if (s[k].toNat : Int) = 39 then 1 else 0 := by
  rw [take_snoc' s k h, List.count_append]
  congr 1
  rw [List.count_singleton]
  by_cases hc : s[k] = 39
  · rw [hc]; rfl
  · rw [if_neg, if_neg]
    · intro e; exact hc (UInt8.toNat_inj.1 (by simpa using (by omega : s[k].toNat = 39)))
    · simpa using hc
set_option maxRecDepth 100000 in
set_option maxHeartbeats 8000000 in
theorem texts_long (ak : Nat) (akb : ak < 256) (ai : Int) (ai0 : -9223372036854775808 ≤ ai) (ai1 : ai ≤ 9223372036854775807) (az : ByteArray) (azb : az.size ≤ 140737488351232) (bk : Nat) (bkb : bk < 256) (bi : Int) (bi0 : -9223372036854775808 ≤ bi) (bi1 : bi ≤ 9223372036854775807) (bz : ByteArray) (bzb : bz.size ≤ 140737488351232) (hbig : decide ((20000 : Int) < (az.size : Int) + (bz.size : Int)) = true) (w : World) (hw : Wd w) :
    Calls Tryd.prog 4 #[.agg #[.int .u8 (ak : Int), .int .i64 ai, .string az], .agg #[.int .u8 (bk : Int), .int .i64 bi, .string bz]] w fun e w' => e = .returned (.bool true) ∧ Below w.heap.size w w' := by
  obtain ⟨w0, hW⟩ : ∃ w0, w0 = ((w.alloc (.cells #[.int .u8 (ak : Int), .int .i64 ai, .string az] 24)).alloc (.cells #[.int .u8 (bk : Int), .int .i64 bi, .string bz] 24)) := ⟨_, rfl⟩
  have H0 : Hid (Fam w [(w.heap.size + 1, .cells #[.int .u8 (bk : Int), .int .i64 bi, .string bz] 24 (0, 0)), (w.heap.size, .cells #[.int .u8 (ak : Int), .int .i64 ai, .string az] 24 (0, 0))] w0) := Lib.hid (by rw [hW]; exact fam_n2 ..)
  have HW : Hid (∀ x, Below w.heap.size w x → Wd x) := Lib.hid (fun _ h => hw.kept h)
  clear hw
  go_enter Tryd.func4, Tryd.ntmps4
  go_wp2_with fail
  rw [← hW]
  clear hW
  refine (alive_yes _ (HW.out _ H0.out.below)).mono ?_
  rintro e w1 ⟨rfl, hb⟩
  have H1 := Lib.hid (H0.out.kept hb)
  clear hb 
  have f0_0 : w1.cell? ⟨w.heap.size + 1, 0, none⟩ = some (.int .u8 (bk : Int)) := H1.out.cell (b := w.heap.size + 1) (cs := #[.int .u8 (bk : Int), .int .i64 bi, .string bz]) (t := 24) (fr := (0, 0)) (List.mem_cons_self ..) 0
  have f0_1 : w1.cell? ⟨w.heap.size + 1, 1, none⟩ = some (.int .i64 bi) := H1.out.cell (b := w.heap.size + 1) (cs := #[.int .u8 (bk : Int), .int .i64 bi, .string bz]) (t := 24) (fr := (0, 0)) (List.mem_cons_self ..) 1
  have f0_2 : w1.cell? ⟨w.heap.size + 1, 2, none⟩ = some (.string bz) := H1.out.cell (b := w.heap.size + 1) (cs := #[.int .u8 (bk : Int), .int .i64 bi, .string bz]) (t := 24) (fr := (0, 0)) (List.mem_cons_self ..) 2
  have z0 : w.heap.size + 1 < w1.heap.size := lt_of_block (H1.out.get (b := w.heap.size + 1) (o := .cells #[.int .u8 (bk : Int), .int .i64 bi, .string bz] 24 (0, 0)) (List.mem_cons_self ..))
  have f1_0 : w1.cell? ⟨w.heap.size, 0, none⟩ = some (.int .u8 (ak : Int)) := H1.out.cell (b := w.heap.size) (cs := #[.int .u8 (ak : Int), .int .i64 ai, .string az]) (t := 24) (fr := (0, 0)) (List.mem_cons_of_mem _ (List.mem_cons_self ..)) 0
  have f1_1 : w1.cell? ⟨w.heap.size, 1, none⟩ = some (.int .i64 ai) := H1.out.cell (b := w.heap.size) (cs := #[.int .u8 (ak : Int), .int .i64 ai, .string az]) (t := 24) (fr := (0, 0)) (List.mem_cons_of_mem _ (List.mem_cons_self ..)) 1
  have f1_2 : w1.cell? ⟨w.heap.size, 2, none⟩ = some (.string az) := H1.out.cell (b := w.heap.size) (cs := #[.int .u8 (ak : Int), .int .i64 ai, .string az]) (t := 24) (fr := (0, 0)) (List.mem_cons_of_mem _ (List.mem_cons_self ..)) 2
  have z1 : w.heap.size < w1.heap.size := lt_of_block (H1.out.get (b := w.heap.size) (o := .cells #[.int .u8 (ak : Int), .int .i64 ai, .string az] 24 (0, 0)) (List.mem_cons_of_mem _ (List.mem_cons_self ..)))
  go_wp2_with fail
  refine (long2_new _ _ _ _ az bz azb bzb _ true hbig).mono ?_
  rintro e w2 ⟨rfl, hb⟩
  have H2 := Lib.hid (H1.out.kept hb)
  clear f0_0 f0_1 f0_2 z0 f1_0 f1_1 f1_2 z1
  clear hb 
  go_wp2_with fail
  refine (alive_yes _ (HW.out _ H2.out.below)).mono ?_
  rintro e w3 ⟨rfl, hb⟩
  have H3 := Lib.hid (H2.out.kept hb)
  clear hb 
  go_wp2_with fail
  go_ret
  exact ⟨rfl, H3.out.below⟩
set_option maxRecDepth 100000 in
set_option maxHeartbeats 8000000 in
theorem texts_not (ak : Nat) (akb : ak < 256) (ai : Int) (ai0 : -9223372036854775808 ≤ ai) (ai1 : ai ≤ 9223372036854775807) (az : ByteArray) (azb : az.size ≤ 140737488351232) (bk : Nat) (bkb : bk < 256) (bi : Int) (bi0 : -9223372036854775808 ≤ bi) (bi1 : bi ≤ 9223372036854775807) (bz : ByteArray) (bzb : bz.size ≤ 140737488351232) (hbig : decide ((20000 : Int) < (az.size : Int) + (bz.size : Int)) = false) (hfine : (Val.fine ⟨ak, ai, az⟩ && Val.fine ⟨bk, bi, bz⟩) = false) (w : World) (hw : Wd w) :
    Calls Tryd.prog 4 #[.agg #[.int .u8 (ak : Int), .int .i64 ai, .string az], .agg #[.int .u8 (bk : Int), .int .i64 bi, .string bz]] w fun e w' => e = .returned (.bool true) ∧ Below w.heap.size w w' := by
  obtain ⟨w0, hW⟩ : ∃ w0, w0 = ((w.alloc (.cells #[.int .u8 (ak : Int), .int .i64 ai, .string az] 24)).alloc (.cells #[.int .u8 (bk : Int), .int .i64 bi, .string bz] 24)) := ⟨_, rfl⟩
  have H0 : Hid (Fam w [(w.heap.size + 1, .cells #[.int .u8 (bk : Int), .int .i64 bi, .string bz] 24 (0, 0)), (w.heap.size, .cells #[.int .u8 (ak : Int), .int .i64 ai, .string az] 24 (0, 0))] w0) := Lib.hid (by rw [hW]; exact fam_n2 ..)
  have HW : Hid (∀ x, Below w.heap.size w x → Wd x) := Lib.hid (fun _ h => hw.kept h)
  clear hw
  go_enter Tryd.func4, Tryd.ntmps4
  go_wp2_with fail
  rw [← hW]
  clear hW
  refine (alive_yes _ (HW.out _ H0.out.below)).mono ?_
  rintro e w1 ⟨rfl, hb⟩
  have H1 := Lib.hid (H0.out.kept hb)
  clear hb 
  have f0_0 : w1.cell? ⟨w.heap.size + 1, 0, none⟩ = some (.int .u8 (bk : Int)) := H1.out.cell (b := w.heap.size + 1) (cs := #[.int .u8 (bk : Int), .int .i64 bi, .string bz]) (t := 24) (fr := (0, 0)) (List.mem_cons_self ..) 0
  have f0_1 : w1.cell? ⟨w.heap.size + 1, 1, none⟩ = some (.int .i64 bi) := H1.out.cell (b := w.heap.size + 1) (cs := #[.int .u8 (bk : Int), .int .i64 bi, .string bz]) (t := 24) (fr := (0, 0)) (List.mem_cons_self ..) 1
  have f0_2 : w1.cell? ⟨w.heap.size + 1, 2, none⟩ = some (.string bz) := H1.out.cell (b := w.heap.size + 1) (cs := #[.int .u8 (bk : Int), .int .i64 bi, .string bz]) (t := 24) (fr := (0, 0)) (List.mem_cons_self ..) 2
  have z0 : w.heap.size + 1 < w1.heap.size := lt_of_block (H1.out.get (b := w.heap.size + 1) (o := .cells #[.int .u8 (bk : Int), .int .i64 bi, .string bz] 24 (0, 0)) (List.mem_cons_self ..))
  have f1_0 : w1.cell? ⟨w.heap.size, 0, none⟩ = some (.int .u8 (ak : Int)) := H1.out.cell (b := w.heap.size) (cs := #[.int .u8 (ak : Int), .int .i64 ai, .string az]) (t := 24) (fr := (0, 0)) (List.mem_cons_of_mem _ (List.mem_cons_self ..)) 0
  have f1_1 : w1.cell? ⟨w.heap.size, 1, none⟩ = some (.int .i64 ai) := H1.out.cell (b := w.heap.size) (cs := #[.int .u8 (ak : Int), .int .i64 ai, .string az]) (t := 24) (fr := (0, 0)) (List.mem_cons_of_mem _ (List.mem_cons_self ..)) 1
  have f1_2 : w1.cell? ⟨w.heap.size, 2, none⟩ = some (.string az) := H1.out.cell (b := w.heap.size) (cs := #[.int .u8 (ak : Int), .int .i64 ai, .string az]) (t := 24) (fr := (0, 0)) (List.mem_cons_of_mem _ (List.mem_cons_self ..)) 2
  have z1 : w.heap.size < w1.heap.size := lt_of_block (H1.out.get (b := w.heap.size) (o := .cells #[.int .u8 (ak : Int), .int .i64 ai, .string az] 24 (0, 0)) (List.mem_cons_of_mem _ (List.mem_cons_self ..)))
  go_wp2_with fail
  refine (long2_new _ _ _ _ az bz azb bzb _ false hbig).mono ?_
  rintro e w2 ⟨rfl, hb⟩
  have H2 := Lib.hid (H1.out.kept hb)
  clear f0_0 f0_1 f0_2 z0 f1_0 f1_1 f1_2 z1
  clear hb 
  have f0_0 : w2.cell? ⟨w.heap.size + 1, 0, none⟩ = some (.int .u8 (bk : Int)) := H2.out.cell (b := w.heap.size + 1) (cs := #[.int .u8 (bk : Int), .int .i64 bi, .string bz]) (t := 24) (fr := (0, 0)) (List.mem_cons_self ..) 0
  have f0_1 : w2.cell? ⟨w.heap.size + 1, 1, none⟩ = some (.int .i64 bi) := H2.out.cell (b := w.heap.size + 1) (cs := #[.int .u8 (bk : Int), .int .i64 bi, .string bz]) (t := 24) (fr := (0, 0)) (List.mem_cons_self ..) 1
  have f0_2 : w2.cell? ⟨w.heap.size + 1, 2, none⟩ = some (.string bz) := H2.out.cell (b := w.heap.size + 1) (cs := #[.int .u8 (bk : Int), .int .i64 bi, .string bz]) (t := 24) (fr := (0, 0)) (List.mem_cons_self ..) 2
  have z0 : w.heap.size + 1 < w2.heap.size := lt_of_block (H2.out.get (b := w.heap.size + 1) (o := .cells #[.int .u8 (bk : Int), .int .i64 bi, .string bz] 24 (0, 0)) (List.mem_cons_self ..))
  have f1_0 : w2.cell? ⟨w.heap.size, 0, none⟩ = some (.int .u8 (ak : Int)) := H2.out.cell (b := w.heap.size) (cs := #[.int .u8 (ak : Int), .int .i64 ai, .string az]) (t := 24) (fr := (0, 0)) (List.mem_cons_of_mem _ (List.mem_cons_self ..)) 0
  have f1_1 : w2.cell? ⟨w.heap.size, 1, none⟩ = some (.int .i64 ai) := H2.out.cell (b := w.heap.size) (cs := #[.int .u8 (ak : Int), .int .i64 ai, .string az]) (t := 24) (fr := (0, 0)) (List.mem_cons_of_mem _ (List.mem_cons_self ..)) 1
  have f1_2 : w2.cell? ⟨w.heap.size, 2, none⟩ = some (.string az) := H2.out.cell (b := w.heap.size) (cs := #[.int .u8 (ak : Int), .int .i64 ai, .string az]) (t := 24) (fr := (0, 0)) (List.mem_cons_of_mem _ (List.mem_cons_self ..)) 2
  have z1 : w.heap.size < w2.heap.size := lt_of_block (H2.out.get (b := w.heap.size) (o := .cells #[.int .u8 (ak : Int), .int .i64 ai, .string az] 24 (0, 0)) (List.mem_cons_of_mem _ (List.mem_cons_self ..)))
  go_wp2_with fail
  refine (fine2_new ak ai az akb bk bi bz bkb _ false hfine).mono ?_
  rintro e w3 ⟨rfl, hb⟩
  have H3 := Lib.hid (H2.out.kept hb)
  clear f0_0 f0_1 f0_2 z0 f1_0 f1_1 f1_2 z1
  clear hb 
  go_wp2_with fail
  refine (alive_yes _ (HW.out _ H3.out.below)).mono ?_
  rintro e w4 ⟨rfl, hb⟩
  have H4 := Lib.hid (H3.out.kept hb)
  clear hb 
  go_wp2_with fail
  go_ret
  exact ⟨rfl, H4.out.below⟩
set_option maxRecDepth 100000 in
set_option maxHeartbeats 8000000 in
theorem texts_eq_t (az : ByteArray) (azb : az.size ≤ 140737488351232) (hbig : decide ((20000 : Int) < (az.size : Int) + (az.size : Int)) = false) (hfine : (Val.fine ⟨2, 0, az⟩ && Val.fine ⟨2, 0, az⟩) = true) (tx : ByteArray) (htx : Hid (Val.text ⟨2, 0, az⟩ = tx)) (hemp : tx.toList.isEmpty = false) (hemp2 : ¬ tx.toList = []) (hz512 : az.size ≤ 512) (hsz : Hid ((tx.size : Int) = (az.size : Int) + 2 + ((az.data.toList.count 39 : Nat) : Int))) (w : World) (hw : Wd w) :
    Calls Tryd.prog 4 #[.agg #[.int .u8 (2 : Int), .int .i64 0, .string az], .agg #[.int .u8 (2 : Int), .int .i64 0, .string az]] w fun e w' => e = .returned (.bool true) ∧ Below w.heap.size w w' := by
  obtain ⟨w0, hW⟩ : ∃ w0, w0 = ((w.alloc (.cells #[.int .u8 2, .int .i64 0, .string az] 24)).alloc (.cells #[.int .u8 2, .int .i64 0, .string az] 24)) := ⟨_, rfl⟩
  have H0 : Hid (Fam w [(w.heap.size + 1, .cells #[.int .u8 2, .int .i64 0, .string az] 24 (0, 0)), (w.heap.size, .cells #[.int .u8 2, .int .i64 0, .string az] 24 (0, 0))] w0) := Lib.hid (by rw [hW]; exact fam_n2 ..)
  have HW : Hid (∀ x, Below w.heap.size w x → Wd x) := Lib.hid (fun _ h => hw.kept h)
  clear hw
  go_enter Tryd.func4, Tryd.ntmps4
  go_wp2_with fail
  rw [← hW]
  clear hW
  refine (alive_yes _ (HW.out _ H0.out.below)).mono ?_
  rintro e w1 ⟨rfl, hb⟩
  have H1 := Lib.hid (H0.out.kept hb)
  clear hb 
  have f0_0 : w1.cell? ⟨w.heap.size + 1, 0, none⟩ = some (.int .u8 2) := H1.out.cell (b := w.heap.size + 1) (cs := #[.int .u8 2, .int .i64 0, .string az]) (t := 24) (fr := (0, 0)) (List.mem_cons_self ..) 0
  have f0_1 : w1.cell? ⟨w.heap.size + 1, 1, none⟩ = some (.int .i64 0) := H1.out.cell (b := w.heap.size + 1) (cs := #[.int .u8 2, .int .i64 0, .string az]) (t := 24) (fr := (0, 0)) (List.mem_cons_self ..) 1
  have f0_2 : w1.cell? ⟨w.heap.size + 1, 2, none⟩ = some (.string az) := H1.out.cell (b := w.heap.size + 1) (cs := #[.int .u8 2, .int .i64 0, .string az]) (t := 24) (fr := (0, 0)) (List.mem_cons_self ..) 2
  have z0 : w.heap.size + 1 < w1.heap.size := lt_of_block (H1.out.get (b := w.heap.size + 1) (o := .cells #[.int .u8 2, .int .i64 0, .string az] 24 (0, 0)) (List.mem_cons_self ..))
  have f1_0 : w1.cell? ⟨w.heap.size, 0, none⟩ = some (.int .u8 2) := H1.out.cell (b := w.heap.size) (cs := #[.int .u8 2, .int .i64 0, .string az]) (t := 24) (fr := (0, 0)) (List.mem_cons_of_mem _ (List.mem_cons_self ..)) 0
  have f1_1 : w1.cell? ⟨w.heap.size, 1, none⟩ = some (.int .i64 0) := H1.out.cell (b := w.heap.size) (cs := #[.int .u8 2, .int .i64 0, .string az]) (t := 24) (fr := (0, 0)) (List.mem_cons_of_mem _ (List.mem_cons_self ..)) 1
  have f1_2 : w1.cell? ⟨w.heap.size, 2, none⟩ = some (.string az) := H1.out.cell (b := w.heap.size) (cs := #[.int .u8 2, .int .i64 0, .string az]) (t := 24) (fr := (0, 0)) (List.mem_cons_of_mem _ (List.mem_cons_self ..)) 2
  have z1 : w.heap.size < w1.heap.size := lt_of_block (H1.out.get (b := w.heap.size) (o := .cells #[.int .u8 2, .int .i64 0, .string az] 24 (0, 0)) (List.mem_cons_of_mem _ (List.mem_cons_self ..)))
  go_wp2_with fail
  refine (long2_new _ _ _ _ az az azb azb _ false hbig).mono ?_
  rintro e w2 ⟨rfl, hb⟩
  have H2 := Lib.hid (H1.out.kept hb)
  clear f0_0 f0_1 f0_2 z0 f1_0 f1_1 f1_2 z1
  clear hb 
  have f0_0 : w2.cell? ⟨w.heap.size + 1, 0, none⟩ = some (.int .u8 2) := H2.out.cell (b := w.heap.size + 1) (cs := #[.int .u8 2, .int .i64 0, .string az]) (t := 24) (fr := (0, 0)) (List.mem_cons_self ..) 0
  have f0_1 : w2.cell? ⟨w.heap.size + 1, 1, none⟩ = some (.int .i64 0) := H2.out.cell (b := w.heap.size + 1) (cs := #[.int .u8 2, .int .i64 0, .string az]) (t := 24) (fr := (0, 0)) (List.mem_cons_self ..) 1
  have f0_2 : w2.cell? ⟨w.heap.size + 1, 2, none⟩ = some (.string az) := H2.out.cell (b := w.heap.size + 1) (cs := #[.int .u8 2, .int .i64 0, .string az]) (t := 24) (fr := (0, 0)) (List.mem_cons_self ..) 2
  have z0 : w.heap.size + 1 < w2.heap.size := lt_of_block (H2.out.get (b := w.heap.size + 1) (o := .cells #[.int .u8 2, .int .i64 0, .string az] 24 (0, 0)) (List.mem_cons_self ..))
  have f1_0 : w2.cell? ⟨w.heap.size, 0, none⟩ = some (.int .u8 2) := H2.out.cell (b := w.heap.size) (cs := #[.int .u8 2, .int .i64 0, .string az]) (t := 24) (fr := (0, 0)) (List.mem_cons_of_mem _ (List.mem_cons_self ..)) 0
  have f1_1 : w2.cell? ⟨w.heap.size, 1, none⟩ = some (.int .i64 0) := H2.out.cell (b := w.heap.size) (cs := #[.int .u8 2, .int .i64 0, .string az]) (t := 24) (fr := (0, 0)) (List.mem_cons_of_mem _ (List.mem_cons_self ..)) 1
  have f1_2 : w2.cell? ⟨w.heap.size, 2, none⟩ = some (.string az) := H2.out.cell (b := w.heap.size) (cs := #[.int .u8 2, .int .i64 0, .string az]) (t := 24) (fr := (0, 0)) (List.mem_cons_of_mem _ (List.mem_cons_self ..)) 2
  have z1 : w.heap.size < w2.heap.size := lt_of_block (H2.out.get (b := w.heap.size) (o := .cells #[.int .u8 2, .int .i64 0, .string az] 24 (0, 0)) (List.mem_cons_of_mem _ (List.mem_cons_self ..)))
  go_wp2_with fail
  refine (fine2_new 2 0 az (by omega) 2 0 az (by omega) _ true hfine).mono ?_
  rintro e w3 ⟨rfl, hb⟩
  have H3 := Lib.hid (H2.out.kept hb)
  clear f0_0 f0_1 f0_2 z0 f1_0 f1_1 f1_2 z1
  clear hb 
  have f0_0 : w3.cell? ⟨w.heap.size + 1, 0, none⟩ = some (.int .u8 2) := H3.out.cell (b := w.heap.size + 1) (cs := #[.int .u8 2, .int .i64 0, .string az]) (t := 24) (fr := (0, 0)) (List.mem_cons_self ..) 0
  have f0_1 : w3.cell? ⟨w.heap.size + 1, 1, none⟩ = some (.int .i64 0) := H3.out.cell (b := w.heap.size + 1) (cs := #[.int .u8 2, .int .i64 0, .string az]) (t := 24) (fr := (0, 0)) (List.mem_cons_self ..) 1
  have f0_2 : w3.cell? ⟨w.heap.size + 1, 2, none⟩ = some (.string az) := H3.out.cell (b := w.heap.size + 1) (cs := #[.int .u8 2, .int .i64 0, .string az]) (t := 24) (fr := (0, 0)) (List.mem_cons_self ..) 2
  have z0 : w.heap.size + 1 < w3.heap.size := lt_of_block (H3.out.get (b := w.heap.size + 1) (o := .cells #[.int .u8 2, .int .i64 0, .string az] 24 (0, 0)) (List.mem_cons_self ..))
  have f1_0 : w3.cell? ⟨w.heap.size, 0, none⟩ = some (.int .u8 2) := H3.out.cell (b := w.heap.size) (cs := #[.int .u8 2, .int .i64 0, .string az]) (t := 24) (fr := (0, 0)) (List.mem_cons_of_mem _ (List.mem_cons_self ..)) 0
  have f1_1 : w3.cell? ⟨w.heap.size, 1, none⟩ = some (.int .i64 0) := H3.out.cell (b := w.heap.size) (cs := #[.int .u8 2, .int .i64 0, .string az]) (t := 24) (fr := (0, 0)) (List.mem_cons_of_mem _ (List.mem_cons_self ..)) 1
  have f1_2 : w3.cell? ⟨w.heap.size, 2, none⟩ = some (.string az) := H3.out.cell (b := w.heap.size) (cs := #[.int .u8 2, .int .i64 0, .string az]) (t := 24) (fr := (0, 0)) (List.mem_cons_of_mem _ (List.mem_cons_self ..)) 2
  have z1 : w.heap.size < w3.heap.size := lt_of_block (H3.out.get (b := w.heap.size) (o := .cells #[.int .u8 2, .int .i64 0, .string az] 24 (0, 0)) (List.mem_cons_of_mem _ (List.mem_cons_self ..)))
  go_wp2_with fail
  refine (text_at 2 0 az tx (by omega) (by omega) (by omega) htx.out _ (HW.out _ H3.out.below)).mono ?_
  rintro e w4 ⟨rfl, hb⟩
  have H4 := Lib.hid (H3.out.kept hb)
  clear f0_0 f0_1 f0_2 z0 f1_0 f1_1 f1_2 z1
  clear hb 
  have f0_0 : w4.cell? ⟨w.heap.size + 1, 0, none⟩ = some (.int .u8 2) := H4.out.cell (b := w.heap.size + 1) (cs := #[.int .u8 2, .int .i64 0, .string az]) (t := 24) (fr := (0, 0)) (List.mem_cons_self ..) 0
  have f0_1 : w4.cell? ⟨w.heap.size + 1, 1, none⟩ = some (.int .i64 0) := H4.out.cell (b := w.heap.size + 1) (cs := #[.int .u8 2, .int .i64 0, .string az]) (t := 24) (fr := (0, 0)) (List.mem_cons_self ..) 1
  have f0_2 : w4.cell? ⟨w.heap.size + 1, 2, none⟩ = some (.string az) := H4.out.cell (b := w.heap.size + 1) (cs := #[.int .u8 2, .int .i64 0, .string az]) (t := 24) (fr := (0, 0)) (List.mem_cons_self ..) 2
  have z0 : w.heap.size + 1 < w4.heap.size := lt_of_block (H4.out.get (b := w.heap.size + 1) (o := .cells #[.int .u8 2, .int .i64 0, .string az] 24 (0, 0)) (List.mem_cons_self ..))
  have f1_0 : w4.cell? ⟨w.heap.size, 0, none⟩ = some (.int .u8 2) := H4.out.cell (b := w.heap.size) (cs := #[.int .u8 2, .int .i64 0, .string az]) (t := 24) (fr := (0, 0)) (List.mem_cons_of_mem _ (List.mem_cons_self ..)) 0
  have f1_1 : w4.cell? ⟨w.heap.size, 1, none⟩ = some (.int .i64 0) := H4.out.cell (b := w.heap.size) (cs := #[.int .u8 2, .int .i64 0, .string az]) (t := 24) (fr := (0, 0)) (List.mem_cons_of_mem _ (List.mem_cons_self ..)) 1
  have f1_2 : w4.cell? ⟨w.heap.size, 2, none⟩ = some (.string az) := H4.out.cell (b := w.heap.size) (cs := #[.int .u8 2, .int .i64 0, .string az]) (t := 24) (fr := (0, 0)) (List.mem_cons_of_mem _ (List.mem_cons_self ..)) 2
  have z1 : w.heap.size < w4.heap.size := lt_of_block (H4.out.get (b := w.heap.size) (o := .cells #[.int .u8 2, .int .i64 0, .string az] 24 (0, 0)) (List.mem_cons_of_mem _ (List.mem_cons_self ..)))
  go_wp2_with fail
  refine (text_at 2 0 az tx (by omega) (by omega) (by omega) htx.out _ (HW.out _ H4.out.below)).mono ?_
  rintro e w5 ⟨rfl, hb⟩
  have H5 := Lib.hid (H4.out.kept hb)
  clear f0_0 f0_1 f0_2 z0 f1_0 f1_1 f1_2 z1
  clear hb 
  have f0_0 : w5.cell? ⟨w.heap.size + 1, 0, none⟩ = some (.int .u8 2) := H5.out.cell (b := w.heap.size + 1) (cs := #[.int .u8 2, .int .i64 0, .string az]) (t := 24) (fr := (0, 0)) (List.mem_cons_self ..) 0
  have f0_1 : w5.cell? ⟨w.heap.size + 1, 1, none⟩ = some (.int .i64 0) := H5.out.cell (b := w.heap.size + 1) (cs := #[.int .u8 2, .int .i64 0, .string az]) (t := 24) (fr := (0, 0)) (List.mem_cons_self ..) 1
  have f0_2 : w5.cell? ⟨w.heap.size + 1, 2, none⟩ = some (.string az) := H5.out.cell (b := w.heap.size + 1) (cs := #[.int .u8 2, .int .i64 0, .string az]) (t := 24) (fr := (0, 0)) (List.mem_cons_self ..) 2
  have z0 : w.heap.size + 1 < w5.heap.size := lt_of_block (H5.out.get (b := w.heap.size + 1) (o := .cells #[.int .u8 2, .int .i64 0, .string az] 24 (0, 0)) (List.mem_cons_self ..))
  have f1_0 : w5.cell? ⟨w.heap.size, 0, none⟩ = some (.int .u8 2) := H5.out.cell (b := w.heap.size) (cs := #[.int .u8 2, .int .i64 0, .string az]) (t := 24) (fr := (0, 0)) (List.mem_cons_of_mem _ (List.mem_cons_self ..)) 0
  have f1_1 : w5.cell? ⟨w.heap.size, 1, none⟩ = some (.int .i64 0) := H5.out.cell (b := w.heap.size) (cs := #[.int .u8 2, .int .i64 0, .string az]) (t := 24) (fr := (0, 0)) (List.mem_cons_of_mem _ (List.mem_cons_self ..)) 1
  have f1_2 : w5.cell? ⟨w.heap.size, 2, none⟩ = some (.string az) := H5.out.cell (b := w.heap.size) (cs := #[.int .u8 2, .int .i64 0, .string az]) (t := 24) (fr := (0, 0)) (List.mem_cons_of_mem _ (List.mem_cons_self ..)) 2
  have z1 : w.heap.size < w5.heap.size := lt_of_block (H5.out.get (b := w.heap.size) (o := .cells #[.int .u8 2, .int .i64 0, .string az] 24 (0, 0)) (List.mem_cons_of_mem _ (List.mem_cons_self ..)))
  go_wp2_with fail
  go_loop [7, 8] (fun c i => ∃ k : Nat, k ≤ az.size ∧ i = .int .i64 k ∧ c = .int .i64 (((az.data.toList.take k).count 39 : Nat) : Int)) (fun _ i => az.size - (RowKit.intOf i).toNat)
  case atStart => exact ⟨0, Nat.zero_le _, rfl, rfl⟩
  case round =>
    obtain ⟨k, hk, rfl, rfl⟩ := hrel
    have hcl : (az.data.toList.take k).count 39 ≤ k := Nat.le_trans List.count_le_length (List.length_take_le _ _)
    by_cases hlt : k < az.size
    · have hs := Lib.hid (count_snoc az k hlt)
      by_cases hc : (az[k].toNat : Int) = 39
      · have hcb : ((az[k].toNat : Int) == 39) = true := by simpa using hc
        have hr : (((az.data.toList.take (k + 1)).count 39 : Nat) : Int) = (((az.data.toList.take k).count 39 + 1 : Nat) : Int) := by rw [hs.out, if_pos hc]
        have HR := Lib.hid hr
        clear hr hc
        go_wp2
        go_round
        case rel => exact ⟨k + 1, by omega, by go_num, by rw [HR.out]; go_num⟩
        case measure => simp [RowKit.intOf]; omega
      · have hcb : ((az[k].toNat : Int) == 39) = false := by simpa using hc
        have hr : (((az.data.toList.take (k + 1)).count 39 : Nat) : Int) = (((az.data.toList.take k).count 39 : Nat) : Int) := by rw [hs.out, if_neg hc]; rfl
        have HR := Lib.hid hr
        clear hr hc
        go_wp2
        go_round
        case rel => exact ⟨k + 1, by omega, by go_num, by rw [HR.out]⟩
        case measure => simp [RowKit.intOf]; omega
    · obtain rfl : k = az.size := by omega
      have hfull : az.data.toList.take az.size = az.data.toList := List.take_of_length_le (by show az.data.toList.length ≤ az.size; exact Nat.le_refl _)
      rw [hfull]
      have hsz2 := hsz.out
      have hca : (az.data.toList.count 39 : Nat) = Array.count 39 az.data := by rw [← Array.count_toList]
      rw [hca] at hsz2
      have hfin : ((tx.size : Int) != (az.size : Int) + 2 + ((Array.count 39 az.data : Nat) : Int)) = false := by rw [hsz2]; simp
      have hcl2 : Array.count 39 az.data ≤ 512 := by rw [← hca]; exact Nat.le_trans List.count_le_length (Nat.le_trans (Nat.le_refl az.size) hz512)
      clear hsz2 hca hcl
      go_wp2
      go_ret
      exact ⟨ret_bool (by first | rfl | simp_all), H5.out.below⟩
set_option maxRecDepth 100000 in
set_option maxHeartbeats 8000000 in
theorem texts_k_t (az : ByteArray) (azb : az.size ≤ 140737488351232) (bk : Nat) (bkb : bk < 256) (bi : Int) (bi0 : -9223372036854775808 ≤ bi) (bi1 : bi ≤ 9223372036854775807) (bz : ByteArray) (bzb : bz.size ≤ 140737488351232) (hbig : decide ((20000 : Int) < (az.size : Int) + (bz.size : Int)) = false) (hfine : (Val.fine ⟨2, 0, az⟩ && Val.fine ⟨bk, bi, bz⟩) = true) (hne : ((2 : Int) == (bk : Int)) = false) (tx : ByteArray) (htx : Hid (Val.text ⟨2, 0, az⟩ = tx)) (hemp : tx.toList.isEmpty = false) (hemp2 : ¬ tx.toList = []) (ty : ByteArray) (hty : Hid (Val.text ⟨bk, bi, bz⟩ = ty)) (hxy : (tx.toList == ty.toList) = false) (hz512 : az.size ≤ 512) (hsz : Hid ((tx.size : Int) = (az.size : Int) + 2 + ((az.data.toList.count 39 : Nat) : Int))) (w : World) (hw : Wd w) :
    Calls Tryd.prog 4 #[.agg #[.int .u8 (2 : Int), .int .i64 0, .string az], .agg #[.int .u8 (bk : Int), .int .i64 bi, .string bz]] w fun e w' => e = .returned (.bool true) ∧ Below w.heap.size w w' := by
  obtain ⟨w0, hW⟩ : ∃ w0, w0 = ((w.alloc (.cells #[.int .u8 2, .int .i64 0, .string az] 24)).alloc (.cells #[.int .u8 (bk : Int), .int .i64 bi, .string bz] 24)) := ⟨_, rfl⟩
  have H0 : Hid (Fam w [(w.heap.size + 1, .cells #[.int .u8 (bk : Int), .int .i64 bi, .string bz] 24 (0, 0)), (w.heap.size, .cells #[.int .u8 2, .int .i64 0, .string az] 24 (0, 0))] w0) := Lib.hid (by rw [hW]; exact fam_n2 ..)
  have HW : Hid (∀ x, Below w.heap.size w x → Wd x) := Lib.hid (fun _ h => hw.kept h)
  clear hw
  go_enter Tryd.func4, Tryd.ntmps4
  go_wp2_with fail
  rw [← hW]
  clear hW
  refine (alive_yes _ (HW.out _ H0.out.below)).mono ?_
  rintro e w1 ⟨rfl, hb⟩
  have H1 := Lib.hid (H0.out.kept hb)
  clear hb 
  have f0_0 : w1.cell? ⟨w.heap.size + 1, 0, none⟩ = some (.int .u8 (bk : Int)) := H1.out.cell (b := w.heap.size + 1) (cs := #[.int .u8 (bk : Int), .int .i64 bi, .string bz]) (t := 24) (fr := (0, 0)) (List.mem_cons_self ..) 0
  have f0_1 : w1.cell? ⟨w.heap.size + 1, 1, none⟩ = some (.int .i64 bi) := H1.out.cell (b := w.heap.size + 1) (cs := #[.int .u8 (bk : Int), .int .i64 bi, .string bz]) (t := 24) (fr := (0, 0)) (List.mem_cons_self ..) 1
  have f0_2 : w1.cell? ⟨w.heap.size + 1, 2, none⟩ = some (.string bz) := H1.out.cell (b := w.heap.size + 1) (cs := #[.int .u8 (bk : Int), .int .i64 bi, .string bz]) (t := 24) (fr := (0, 0)) (List.mem_cons_self ..) 2
  have z0 : w.heap.size + 1 < w1.heap.size := lt_of_block (H1.out.get (b := w.heap.size + 1) (o := .cells #[.int .u8 (bk : Int), .int .i64 bi, .string bz] 24 (0, 0)) (List.mem_cons_self ..))
  have f1_0 : w1.cell? ⟨w.heap.size, 0, none⟩ = some (.int .u8 2) := H1.out.cell (b := w.heap.size) (cs := #[.int .u8 2, .int .i64 0, .string az]) (t := 24) (fr := (0, 0)) (List.mem_cons_of_mem _ (List.mem_cons_self ..)) 0
  have f1_1 : w1.cell? ⟨w.heap.size, 1, none⟩ = some (.int .i64 0) := H1.out.cell (b := w.heap.size) (cs := #[.int .u8 2, .int .i64 0, .string az]) (t := 24) (fr := (0, 0)) (List.mem_cons_of_mem _ (List.mem_cons_self ..)) 1
  have f1_2 : w1.cell? ⟨w.heap.size, 2, none⟩ = some (.string az) := H1.out.cell (b := w.heap.size) (cs := #[.int .u8 2, .int .i64 0, .string az]) (t := 24) (fr := (0, 0)) (List.mem_cons_of_mem _ (List.mem_cons_self ..)) 2
  have z1 : w.heap.size < w1.heap.size := lt_of_block (H1.out.get (b := w.heap.size) (o := .cells #[.int .u8 2, .int .i64 0, .string az] 24 (0, 0)) (List.mem_cons_of_mem _ (List.mem_cons_self ..)))
  go_wp2_with fail
  refine (long2_new _ _ _ _ az bz azb bzb _ false hbig).mono ?_
  rintro e w2 ⟨rfl, hb⟩
  have H2 := Lib.hid (H1.out.kept hb)
  clear f0_0 f0_1 f0_2 z0 f1_0 f1_1 f1_2 z1
  clear hb 
  have f0_0 : w2.cell? ⟨w.heap.size + 1, 0, none⟩ = some (.int .u8 (bk : Int)) := H2.out.cell (b := w.heap.size + 1) (cs := #[.int .u8 (bk : Int), .int .i64 bi, .string bz]) (t := 24) (fr := (0, 0)) (List.mem_cons_self ..) 0
  have f0_1 : w2.cell? ⟨w.heap.size + 1, 1, none⟩ = some (.int .i64 bi) := H2.out.cell (b := w.heap.size + 1) (cs := #[.int .u8 (bk : Int), .int .i64 bi, .string bz]) (t := 24) (fr := (0, 0)) (List.mem_cons_self ..) 1
  have f0_2 : w2.cell? ⟨w.heap.size + 1, 2, none⟩ = some (.string bz) := H2.out.cell (b := w.heap.size + 1) (cs := #[.int .u8 (bk : Int), .int .i64 bi, .string bz]) (t := 24) (fr := (0, 0)) (List.mem_cons_self ..) 2
  have z0 : w.heap.size + 1 < w2.heap.size := lt_of_block (H2.out.get (b := w.heap.size + 1) (o := .cells #[.int .u8 (bk : Int), .int .i64 bi, .string bz] 24 (0, 0)) (List.mem_cons_self ..))
  have f1_0 : w2.cell? ⟨w.heap.size, 0, none⟩ = some (.int .u8 2) := H2.out.cell (b := w.heap.size) (cs := #[.int .u8 2, .int .i64 0, .string az]) (t := 24) (fr := (0, 0)) (List.mem_cons_of_mem _ (List.mem_cons_self ..)) 0
  have f1_1 : w2.cell? ⟨w.heap.size, 1, none⟩ = some (.int .i64 0) := H2.out.cell (b := w.heap.size) (cs := #[.int .u8 2, .int .i64 0, .string az]) (t := 24) (fr := (0, 0)) (List.mem_cons_of_mem _ (List.mem_cons_self ..)) 1
  have f1_2 : w2.cell? ⟨w.heap.size, 2, none⟩ = some (.string az) := H2.out.cell (b := w.heap.size) (cs := #[.int .u8 2, .int .i64 0, .string az]) (t := 24) (fr := (0, 0)) (List.mem_cons_of_mem _ (List.mem_cons_self ..)) 2
  have z1 : w.heap.size < w2.heap.size := lt_of_block (H2.out.get (b := w.heap.size) (o := .cells #[.int .u8 2, .int .i64 0, .string az] 24 (0, 0)) (List.mem_cons_of_mem _ (List.mem_cons_self ..)))
  go_wp2_with fail
  refine (fine2_new 2 0 az (by omega) bk bi bz bkb _ true hfine).mono ?_
  rintro e w3 ⟨rfl, hb⟩
  have H3 := Lib.hid (H2.out.kept hb)
  clear f0_0 f0_1 f0_2 z0 f1_0 f1_1 f1_2 z1
  clear hb 
  have f0_0 : w3.cell? ⟨w.heap.size + 1, 0, none⟩ = some (.int .u8 (bk : Int)) := H3.out.cell (b := w.heap.size + 1) (cs := #[.int .u8 (bk : Int), .int .i64 bi, .string bz]) (t := 24) (fr := (0, 0)) (List.mem_cons_self ..) 0
  have f0_1 : w3.cell? ⟨w.heap.size + 1, 1, none⟩ = some (.int .i64 bi) := H3.out.cell (b := w.heap.size + 1) (cs := #[.int .u8 (bk : Int), .int .i64 bi, .string bz]) (t := 24) (fr := (0, 0)) (List.mem_cons_self ..) 1
  have f0_2 : w3.cell? ⟨w.heap.size + 1, 2, none⟩ = some (.string bz) := H3.out.cell (b := w.heap.size + 1) (cs := #[.int .u8 (bk : Int), .int .i64 bi, .string bz]) (t := 24) (fr := (0, 0)) (List.mem_cons_self ..) 2
  have z0 : w.heap.size + 1 < w3.heap.size := lt_of_block (H3.out.get (b := w.heap.size + 1) (o := .cells #[.int .u8 (bk : Int), .int .i64 bi, .string bz] 24 (0, 0)) (List.mem_cons_self ..))
  have f1_0 : w3.cell? ⟨w.heap.size, 0, none⟩ = some (.int .u8 2) := H3.out.cell (b := w.heap.size) (cs := #[.int .u8 2, .int .i64 0, .string az]) (t := 24) (fr := (0, 0)) (List.mem_cons_of_mem _ (List.mem_cons_self ..)) 0
  have f1_1 : w3.cell? ⟨w.heap.size, 1, none⟩ = some (.int .i64 0) := H3.out.cell (b := w.heap.size) (cs := #[.int .u8 2, .int .i64 0, .string az]) (t := 24) (fr := (0, 0)) (List.mem_cons_of_mem _ (List.mem_cons_self ..)) 1
  have f1_2 : w3.cell? ⟨w.heap.size, 2, none⟩ = some (.string az) := H3.out.cell (b := w.heap.size) (cs := #[.int .u8 2, .int .i64 0, .string az]) (t := 24) (fr := (0, 0)) (List.mem_cons_of_mem _ (List.mem_cons_self ..)) 2
  have z1 : w.heap.size < w3.heap.size := lt_of_block (H3.out.get (b := w.heap.size) (o := .cells #[.int .u8 2, .int .i64 0, .string az] 24 (0, 0)) (List.mem_cons_of_mem _ (List.mem_cons_self ..)))
  go_wp2_with fail
  refine (text_at 2 0 az tx (by omega) (by omega) (by omega) htx.out _ (HW.out _ H3.out.below)).mono ?_
  rintro e w4 ⟨rfl, hb⟩
  have H4 := Lib.hid (H3.out.kept hb)
  clear f0_0 f0_1 f0_2 z0 f1_0 f1_1 f1_2 z1
  clear hb 
  have f0_0 : w4.cell? ⟨w.heap.size + 1, 0, none⟩ = some (.int .u8 (bk : Int)) := H4.out.cell (b := w.heap.size + 1) (cs := #[.int .u8 (bk : Int), .int .i64 bi, .string bz]) (t := 24) (fr := (0, 0)) (List.mem_cons_self ..) 0
  have f0_1 : w4.cell? ⟨w.heap.size + 1, 1, none⟩ = some (.int .i64 bi) := H4.out.cell (b := w.heap.size + 1) (cs := #[.int .u8 (bk : Int), .int .i64 bi, .string bz]) (t := 24) (fr := (0, 0)) (List.mem_cons_self ..) 1
  have f0_2 : w4.cell? ⟨w.heap.size + 1, 2, none⟩ = some (.string bz) := H4.out.cell (b := w.heap.size + 1) (cs := #[.int .u8 (bk : Int), .int .i64 bi, .string bz]) (t := 24) (fr := (0, 0)) (List.mem_cons_self ..) 2
  have z0 : w.heap.size + 1 < w4.heap.size := lt_of_block (H4.out.get (b := w.heap.size + 1) (o := .cells #[.int .u8 (bk : Int), .int .i64 bi, .string bz] 24 (0, 0)) (List.mem_cons_self ..))
  have f1_0 : w4.cell? ⟨w.heap.size, 0, none⟩ = some (.int .u8 2) := H4.out.cell (b := w.heap.size) (cs := #[.int .u8 2, .int .i64 0, .string az]) (t := 24) (fr := (0, 0)) (List.mem_cons_of_mem _ (List.mem_cons_self ..)) 0
  have f1_1 : w4.cell? ⟨w.heap.size, 1, none⟩ = some (.int .i64 0) := H4.out.cell (b := w.heap.size) (cs := #[.int .u8 2, .int .i64 0, .string az]) (t := 24) (fr := (0, 0)) (List.mem_cons_of_mem _ (List.mem_cons_self ..)) 1
  have f1_2 : w4.cell? ⟨w.heap.size, 2, none⟩ = some (.string az) := H4.out.cell (b := w.heap.size) (cs := #[.int .u8 2, .int .i64 0, .string az]) (t := 24) (fr := (0, 0)) (List.mem_cons_of_mem _ (List.mem_cons_self ..)) 2
  have z1 : w.heap.size < w4.heap.size := lt_of_block (H4.out.get (b := w.heap.size) (o := .cells #[.int .u8 2, .int .i64 0, .string az] 24 (0, 0)) (List.mem_cons_of_mem _ (List.mem_cons_self ..)))
  go_wp2_with fail
  refine (text_at bk bi bz ty bkb bi0 bi1 hty.out _ (HW.out _ H4.out.below)).mono ?_
  rintro e w5 ⟨rfl, hb⟩
  have H5 := Lib.hid (H4.out.kept hb)
  clear f0_0 f0_1 f0_2 z0 f1_0 f1_1 f1_2 z1
  clear hb 
  have f0_0 : w5.cell? ⟨w.heap.size + 1, 0, none⟩ = some (.int .u8 (bk : Int)) := H5.out.cell (b := w.heap.size + 1) (cs := #[.int .u8 (bk : Int), .int .i64 bi, .string bz]) (t := 24) (fr := (0, 0)) (List.mem_cons_self ..) 0
  have f0_1 : w5.cell? ⟨w.heap.size + 1, 1, none⟩ = some (.int .i64 bi) := H5.out.cell (b := w.heap.size + 1) (cs := #[.int .u8 (bk : Int), .int .i64 bi, .string bz]) (t := 24) (fr := (0, 0)) (List.mem_cons_self ..) 1
  have f0_2 : w5.cell? ⟨w.heap.size + 1, 2, none⟩ = some (.string bz) := H5.out.cell (b := w.heap.size + 1) (cs := #[.int .u8 (bk : Int), .int .i64 bi, .string bz]) (t := 24) (fr := (0, 0)) (List.mem_cons_self ..) 2
  have z0 : w.heap.size + 1 < w5.heap.size := lt_of_block (H5.out.get (b := w.heap.size + 1) (o := .cells #[.int .u8 (bk : Int), .int .i64 bi, .string bz] 24 (0, 0)) (List.mem_cons_self ..))
  have f1_0 : w5.cell? ⟨w.heap.size, 0, none⟩ = some (.int .u8 2) := H5.out.cell (b := w.heap.size) (cs := #[.int .u8 2, .int .i64 0, .string az]) (t := 24) (fr := (0, 0)) (List.mem_cons_of_mem _ (List.mem_cons_self ..)) 0
  have f1_1 : w5.cell? ⟨w.heap.size, 1, none⟩ = some (.int .i64 0) := H5.out.cell (b := w.heap.size) (cs := #[.int .u8 2, .int .i64 0, .string az]) (t := 24) (fr := (0, 0)) (List.mem_cons_of_mem _ (List.mem_cons_self ..)) 1
  have f1_2 : w5.cell? ⟨w.heap.size, 2, none⟩ = some (.string az) := H5.out.cell (b := w.heap.size) (cs := #[.int .u8 2, .int .i64 0, .string az]) (t := 24) (fr := (0, 0)) (List.mem_cons_of_mem _ (List.mem_cons_self ..)) 2
  have z1 : w.heap.size < w5.heap.size := lt_of_block (H5.out.get (b := w.heap.size) (o := .cells #[.int .u8 2, .int .i64 0, .string az] 24 (0, 0)) (List.mem_cons_of_mem _ (List.mem_cons_self ..)))
  go_wp2_with fail
  go_loop [7, 8] (fun c i => ∃ k : Nat, k ≤ az.size ∧ i = .int .i64 k ∧ c = .int .i64 (((az.data.toList.take k).count 39 : Nat) : Int)) (fun _ i => az.size - (RowKit.intOf i).toNat)
  case atStart => exact ⟨0, Nat.zero_le _, rfl, rfl⟩
  case round =>
    obtain ⟨k, hk, rfl, rfl⟩ := hrel
    have hcl : (az.data.toList.take k).count 39 ≤ k := Nat.le_trans List.count_le_length (List.length_take_le _ _)
    by_cases hlt : k < az.size
    · have hs := Lib.hid (count_snoc az k hlt)
      by_cases hc : (az[k].toNat : Int) = 39
      · have hcb : ((az[k].toNat : Int) == 39) = true := by simpa using hc
        have hr : (((az.data.toList.take (k + 1)).count 39 : Nat) : Int) = (((az.data.toList.take k).count 39 + 1 : Nat) : Int) := by rw [hs.out, if_pos hc]
        have HR := Lib.hid hr
        clear hr hc
        go_wp2
        go_round
        case rel => exact ⟨k + 1, by omega, by go_num, by rw [HR.out]; go_num⟩
        case measure => simp [RowKit.intOf]; omega
      · have hcb : ((az[k].toNat : Int) == 39) = false := by simpa using hc
        have hr : (((az.data.toList.take (k + 1)).count 39 : Nat) : Int) = (((az.data.toList.take k).count 39 : Nat) : Int) := by rw [hs.out, if_neg hc]; rfl
        have HR := Lib.hid hr
        clear hr hc
        go_wp2
        go_round
        case rel => exact ⟨k + 1, by omega, by go_num, by rw [HR.out]⟩
        case measure => simp [RowKit.intOf]; omega
    · obtain rfl : k = az.size := by omega
      have hfull : az.data.toList.take az.size = az.data.toList := List.take_of_length_le (by show az.data.toList.length ≤ az.size; exact Nat.le_refl _)
      rw [hfull]
      have hsz2 := hsz.out
      have hca : (az.data.toList.count 39 : Nat) = Array.count 39 az.data := by rw [← Array.count_toList]
      rw [hca] at hsz2
      have hfin : ((tx.size : Int) != (az.size : Int) + 2 + ((Array.count 39 az.data : Nat) : Int)) = false := by rw [hsz2]; simp
      have hcl2 : Array.count 39 az.data ≤ 512 := by rw [← hca]; exact Nat.le_trans List.count_le_length (Nat.le_trans (Nat.le_refl az.size) hz512)
      clear hsz2 hca hcl
      go_wp2
      go_ret
      exact ⟨ret_bool (by first | rfl | simp_all), H5.out.below⟩
set_option maxRecDepth 100000 in
set_option maxHeartbeats 8000000 in
theorem texts_z_t (az : ByteArray) (azb : az.size ≤ 140737488351232) (bz : ByteArray) (bzb : bz.size ≤ 140737488351232) (hbig : decide ((20000 : Int) < (az.size : Int) + (bz.size : Int)) = false) (hfine : (Val.fine ⟨2, 0, az⟩ && Val.fine ⟨2, 0, bz⟩) = true) (hne : (az.toList == bz.toList) = false) (tx : ByteArray) (htx : Hid (Val.text ⟨2, 0, az⟩ = tx)) (hemp : tx.toList.isEmpty = false) (hemp2 : ¬ tx.toList = []) (ty : ByteArray) (hty : Hid (Val.text ⟨2, 0, bz⟩ = ty)) (hxy : (tx.toList == ty.toList) = false) (hz512 : az.size ≤ 512) (hsz : Hid ((tx.size : Int) = (az.size : Int) + 2 + ((az.data.toList.count 39 : Nat) : Int))) (w : World) (hw : Wd w) :
    Calls Tryd.prog 4 #[.agg #[.int .u8 (2 : Int), .int .i64 0, .string az], .agg #[.int .u8 (2 : Int), .int .i64 0, .string bz]] w fun e w' => e = .returned (.bool true) ∧ Below w.heap.size w w' := by
  obtain ⟨w0, hW⟩ : ∃ w0, w0 = ((w.alloc (.cells #[.int .u8 2, .int .i64 0, .string az] 24)).alloc (.cells #[.int .u8 2, .int .i64 0, .string bz] 24)) := ⟨_, rfl⟩
  have H0 : Hid (Fam w [(w.heap.size + 1, .cells #[.int .u8 2, .int .i64 0, .string bz] 24 (0, 0)), (w.heap.size, .cells #[.int .u8 2, .int .i64 0, .string az] 24 (0, 0))] w0) := Lib.hid (by rw [hW]; exact fam_n2 ..)
  have HW : Hid (∀ x, Below w.heap.size w x → Wd x) := Lib.hid (fun _ h => hw.kept h)
  clear hw
  go_enter Tryd.func4, Tryd.ntmps4
  go_wp2_with fail
  rw [← hW]
  clear hW
  refine (alive_yes _ (HW.out _ H0.out.below)).mono ?_
  rintro e w1 ⟨rfl, hb⟩
  have H1 := Lib.hid (H0.out.kept hb)
  clear hb 
  have f0_0 : w1.cell? ⟨w.heap.size + 1, 0, none⟩ = some (.int .u8 2) := H1.out.cell (b := w.heap.size + 1) (cs := #[.int .u8 2, .int .i64 0, .string bz]) (t := 24) (fr := (0, 0)) (List.mem_cons_self ..) 0
  have f0_1 : w1.cell? ⟨w.heap.size + 1, 1, none⟩ = some (.int .i64 0) := H1.out.cell (b := w.heap.size + 1) (cs := #[.int .u8 2, .int .i64 0, .string bz]) (t := 24) (fr := (0, 0)) (List.mem_cons_self ..) 1
  have f0_2 : w1.cell? ⟨w.heap.size + 1, 2, none⟩ = some (.string bz) := H1.out.cell (b := w.heap.size + 1) (cs := #[.int .u8 2, .int .i64 0, .string bz]) (t := 24) (fr := (0, 0)) (List.mem_cons_self ..) 2
  have z0 : w.heap.size + 1 < w1.heap.size := lt_of_block (H1.out.get (b := w.heap.size + 1) (o := .cells #[.int .u8 2, .int .i64 0, .string bz] 24 (0, 0)) (List.mem_cons_self ..))
  have f1_0 : w1.cell? ⟨w.heap.size, 0, none⟩ = some (.int .u8 2) := H1.out.cell (b := w.heap.size) (cs := #[.int .u8 2, .int .i64 0, .string az]) (t := 24) (fr := (0, 0)) (List.mem_cons_of_mem _ (List.mem_cons_self ..)) 0
  have f1_1 : w1.cell? ⟨w.heap.size, 1, none⟩ = some (.int .i64 0) := H1.out.cell (b := w.heap.size) (cs := #[.int .u8 2, .int .i64 0, .string az]) (t := 24) (fr := (0, 0)) (List.mem_cons_of_mem _ (List.mem_cons_self ..)) 1
  have f1_2 : w1.cell? ⟨w.heap.size, 2, none⟩ = some (.string az) := H1.out.cell (b := w.heap.size) (cs := #[.int .u8 2, .int .i64 0, .string az]) (t := 24) (fr := (0, 0)) (List.mem_cons_of_mem _ (List.mem_cons_self ..)) 2
  have z1 : w.heap.size < w1.heap.size := lt_of_block (H1.out.get (b := w.heap.size) (o := .cells #[.int .u8 2, .int .i64 0, .string az] 24 (0, 0)) (List.mem_cons_of_mem _ (List.mem_cons_self ..)))
  go_wp2_with fail
  refine (long2_new _ _ _ _ az bz azb bzb _ false hbig).mono ?_
  rintro e w2 ⟨rfl, hb⟩
  have H2 := Lib.hid (H1.out.kept hb)
  clear f0_0 f0_1 f0_2 z0 f1_0 f1_1 f1_2 z1
  clear hb 
  have f0_0 : w2.cell? ⟨w.heap.size + 1, 0, none⟩ = some (.int .u8 2) := H2.out.cell (b := w.heap.size + 1) (cs := #[.int .u8 2, .int .i64 0, .string bz]) (t := 24) (fr := (0, 0)) (List.mem_cons_self ..) 0
  have f0_1 : w2.cell? ⟨w.heap.size + 1, 1, none⟩ = some (.int .i64 0) := H2.out.cell (b := w.heap.size + 1) (cs := #[.int .u8 2, .int .i64 0, .string bz]) (t := 24) (fr := (0, 0)) (List.mem_cons_self ..) 1
  have f0_2 : w2.cell? ⟨w.heap.size + 1, 2, none⟩ = some (.string bz) := H2.out.cell (b := w.heap.size + 1) (cs := #[.int .u8 2, .int .i64 0, .string bz]) (t := 24) (fr := (0, 0)) (List.mem_cons_self ..) 2
  have z0 : w.heap.size + 1 < w2.heap.size := lt_of_block (H2.out.get (b := w.heap.size + 1) (o := .cells #[.int .u8 2, .int .i64 0, .string bz] 24 (0, 0)) (List.mem_cons_self ..))
  have f1_0 : w2.cell? ⟨w.heap.size, 0, none⟩ = some (.int .u8 2) := H2.out.cell (b := w.heap.size) (cs := #[.int .u8 2, .int .i64 0, .string az]) (t := 24) (fr := (0, 0)) (List.mem_cons_of_mem _ (List.mem_cons_self ..)) 0
  have f1_1 : w2.cell? ⟨w.heap.size, 1, none⟩ = some (.int .i64 0) := H2.out.cell (b := w.heap.size) (cs := #[.int .u8 2, .int .i64 0, .string az]) (t := 24) (fr := (0, 0)) (List.mem_cons_of_mem _ (List.mem_cons_self ..)) 1
  have f1_2 : w2.cell? ⟨w.heap.size, 2, none⟩ = some (.string az) := H2.out.cell (b := w.heap.size) (cs := #[.int .u8 2, .int .i64 0, .string az]) (t := 24) (fr := (0, 0)) (List.mem_cons_of_mem _ (List.mem_cons_self ..)) 2
  have z1 : w.heap.size < w2.heap.size := lt_of_block (H2.out.get (b := w.heap.size) (o := .cells #[.int .u8 2, .int .i64 0, .string az] 24 (0, 0)) (List.mem_cons_of_mem _ (List.mem_cons_self ..)))
  go_wp2_with fail
  refine (fine2_new 2 0 az (by omega) 2 0 bz (by omega) _ true hfine).mono ?_
  rintro e w3 ⟨rfl, hb⟩
  have H3 := Lib.hid (H2.out.kept hb)
  clear f0_0 f0_1 f0_2 z0 f1_0 f1_1 f1_2 z1
  clear hb 
  have f0_0 : w3.cell? ⟨w.heap.size + 1, 0, none⟩ = some (.int .u8 2) := H3.out.cell (b := w.heap.size + 1) (cs := #[.int .u8 2, .int .i64 0, .string bz]) (t := 24) (fr := (0, 0)) (List.mem_cons_self ..) 0
  have f0_1 : w3.cell? ⟨w.heap.size + 1, 1, none⟩ = some (.int .i64 0) := H3.out.cell (b := w.heap.size + 1) (cs := #[.int .u8 2, .int .i64 0, .string bz]) (t := 24) (fr := (0, 0)) (List.mem_cons_self ..) 1
  have f0_2 : w3.cell? ⟨w.heap.size + 1, 2, none⟩ = some (.string bz) := H3.out.cell (b := w.heap.size + 1) (cs := #[.int .u8 2, .int .i64 0, .string bz]) (t := 24) (fr := (0, 0)) (List.mem_cons_self ..) 2
  have z0 : w.heap.size + 1 < w3.heap.size := lt_of_block (H3.out.get (b := w.heap.size + 1) (o := .cells #[.int .u8 2, .int .i64 0, .string bz] 24 (0, 0)) (List.mem_cons_self ..))
  have f1_0 : w3.cell? ⟨w.heap.size, 0, none⟩ = some (.int .u8 2) := H3.out.cell (b := w.heap.size) (cs := #[.int .u8 2, .int .i64 0, .string az]) (t := 24) (fr := (0, 0)) (List.mem_cons_of_mem _ (List.mem_cons_self ..)) 0
  have f1_1 : w3.cell? ⟨w.heap.size, 1, none⟩ = some (.int .i64 0) := H3.out.cell (b := w.heap.size) (cs := #[.int .u8 2, .int .i64 0, .string az]) (t := 24) (fr := (0, 0)) (List.mem_cons_of_mem _ (List.mem_cons_self ..)) 1
  have f1_2 : w3.cell? ⟨w.heap.size, 2, none⟩ = some (.string az) := H3.out.cell (b := w.heap.size) (cs := #[.int .u8 2, .int .i64 0, .string az]) (t := 24) (fr := (0, 0)) (List.mem_cons_of_mem _ (List.mem_cons_self ..)) 2
  have z1 : w.heap.size < w3.heap.size := lt_of_block (H3.out.get (b := w.heap.size) (o := .cells #[.int .u8 2, .int .i64 0, .string az] 24 (0, 0)) (List.mem_cons_of_mem _ (List.mem_cons_self ..)))
  go_wp2_with fail
  refine (text_at 2 0 az tx (by omega) (by omega) (by omega) htx.out _ (HW.out _ H3.out.below)).mono ?_
  rintro e w4 ⟨rfl, hb⟩
  have H4 := Lib.hid (H3.out.kept hb)
  clear f0_0 f0_1 f0_2 z0 f1_0 f1_1 f1_2 z1
  clear hb 
  have f0_0 : w4.cell? ⟨w.heap.size + 1, 0, none⟩ = some (.int .u8 2) := H4.out.cell (b := w.heap.size + 1) (cs := #[.int .u8 2, .int .i64 0, .string bz]) (t := 24) (fr := (0, 0)) (List.mem_cons_self ..) 0
  have f0_1 : w4.cell? ⟨w.heap.size + 1, 1, none⟩ = some (.int .i64 0) := H4.out.cell (b := w.heap.size + 1) (cs := #[.int .u8 2, .int .i64 0, .string bz]) (t := 24) (fr := (0, 0)) (List.mem_cons_self ..) 1
  have f0_2 : w4.cell? ⟨w.heap.size + 1, 2, none⟩ = some (.string bz) := H4.out.cell (b := w.heap.size + 1) (cs := #[.int .u8 2, .int .i64 0, .string bz]) (t := 24) (fr := (0, 0)) (List.mem_cons_self ..) 2
  have z0 : w.heap.size + 1 < w4.heap.size := lt_of_block (H4.out.get (b := w.heap.size + 1) (o := .cells #[.int .u8 2, .int .i64 0, .string bz] 24 (0, 0)) (List.mem_cons_self ..))
  have f1_0 : w4.cell? ⟨w.heap.size, 0, none⟩ = some (.int .u8 2) := H4.out.cell (b := w.heap.size) (cs := #[.int .u8 2, .int .i64 0, .string az]) (t := 24) (fr := (0, 0)) (List.mem_cons_of_mem _ (List.mem_cons_self ..)) 0
  have f1_1 : w4.cell? ⟨w.heap.size, 1, none⟩ = some (.int .i64 0) := H4.out.cell (b := w.heap.size) (cs := #[.int .u8 2, .int .i64 0, .string az]) (t := 24) (fr := (0, 0)) (List.mem_cons_of_mem _ (List.mem_cons_self ..)) 1
  have f1_2 : w4.cell? ⟨w.heap.size, 2, none⟩ = some (.string az) := H4.out.cell (b := w.heap.size) (cs := #[.int .u8 2, .int .i64 0, .string az]) (t := 24) (fr := (0, 0)) (List.mem_cons_of_mem _ (List.mem_cons_self ..)) 2
  have z1 : w.heap.size < w4.heap.size := lt_of_block (H4.out.get (b := w.heap.size) (o := .cells #[.int .u8 2, .int .i64 0, .string az] 24 (0, 0)) (List.mem_cons_of_mem _ (List.mem_cons_self ..)))
  go_wp2_with fail
  refine (text_at 2 0 bz ty (by omega) (by omega) (by omega) hty.out _ (HW.out _ H4.out.below)).mono ?_
  rintro e w5 ⟨rfl, hb⟩
  have H5 := Lib.hid (H4.out.kept hb)
  clear f0_0 f0_1 f0_2 z0 f1_0 f1_1 f1_2 z1
  clear hb 
  have f0_0 : w5.cell? ⟨w.heap.size + 1, 0, none⟩ = some (.int .u8 2) := H5.out.cell (b := w.heap.size + 1) (cs := #[.int .u8 2, .int .i64 0, .string bz]) (t := 24) (fr := (0, 0)) (List.mem_cons_self ..) 0
  have f0_1 : w5.cell? ⟨w.heap.size + 1, 1, none⟩ = some (.int .i64 0) := H5.out.cell (b := w.heap.size + 1) (cs := #[.int .u8 2, .int .i64 0, .string bz]) (t := 24) (fr := (0, 0)) (List.mem_cons_self ..) 1
  have f0_2 : w5.cell? ⟨w.heap.size + 1, 2, none⟩ = some (.string bz) := H5.out.cell (b := w.heap.size + 1) (cs := #[.int .u8 2, .int .i64 0, .string bz]) (t := 24) (fr := (0, 0)) (List.mem_cons_self ..) 2
  have z0 : w.heap.size + 1 < w5.heap.size := lt_of_block (H5.out.get (b := w.heap.size + 1) (o := .cells #[.int .u8 2, .int .i64 0, .string bz] 24 (0, 0)) (List.mem_cons_self ..))
  have f1_0 : w5.cell? ⟨w.heap.size, 0, none⟩ = some (.int .u8 2) := H5.out.cell (b := w.heap.size) (cs := #[.int .u8 2, .int .i64 0, .string az]) (t := 24) (fr := (0, 0)) (List.mem_cons_of_mem _ (List.mem_cons_self ..)) 0
  have f1_1 : w5.cell? ⟨w.heap.size, 1, none⟩ = some (.int .i64 0) := H5.out.cell (b := w.heap.size) (cs := #[.int .u8 2, .int .i64 0, .string az]) (t := 24) (fr := (0, 0)) (List.mem_cons_of_mem _ (List.mem_cons_self ..)) 1
  have f1_2 : w5.cell? ⟨w.heap.size, 2, none⟩ = some (.string az) := H5.out.cell (b := w.heap.size) (cs := #[.int .u8 2, .int .i64 0, .string az]) (t := 24) (fr := (0, 0)) (List.mem_cons_of_mem _ (List.mem_cons_self ..)) 2
  have z1 : w.heap.size < w5.heap.size := lt_of_block (H5.out.get (b := w.heap.size) (o := .cells #[.int .u8 2, .int .i64 0, .string az] 24 (0, 0)) (List.mem_cons_of_mem _ (List.mem_cons_self ..)))
  go_wp2_with fail
  go_loop [7, 8] (fun c i => ∃ k : Nat, k ≤ az.size ∧ i = .int .i64 k ∧ c = .int .i64 (((az.data.toList.take k).count 39 : Nat) : Int)) (fun _ i => az.size - (RowKit.intOf i).toNat)
  case atStart => exact ⟨0, Nat.zero_le _, rfl, rfl⟩
  case round =>
    obtain ⟨k, hk, rfl, rfl⟩ := hrel
    have hcl : (az.data.toList.take k).count 39 ≤ k := Nat.le_trans List.count_le_length (List.length_take_le _ _)
    by_cases hlt : k < az.size
    · have hs := Lib.hid (count_snoc az k hlt)
      by_cases hc : (az[k].toNat : Int) = 39
      · have hcb : ((az[k].toNat : Int) == 39) = true := by simpa using hc
        have hr : (((az.data.toList.take (k + 1)).count 39 : Nat) : Int) = (((az.data.toList.take k).count 39 + 1 : Nat) : Int) := by rw [hs.out, if_pos hc]
        have HR := Lib.hid hr
        clear hr hc
        go_wp2
        go_round
        case rel => exact ⟨k + 1, by omega, by go_num, by rw [HR.out]; go_num⟩
        case measure => simp [RowKit.intOf]; omega
      · have hcb : ((az[k].toNat : Int) == 39) = false := by simpa using hc
        have hr : (((az.data.toList.take (k + 1)).count 39 : Nat) : Int) = (((az.data.toList.take k).count 39 : Nat) : Int) := by rw [hs.out, if_neg hc]; rfl
        have HR := Lib.hid hr
        clear hr hc
        go_wp2
        go_round
        case rel => exact ⟨k + 1, by omega, by go_num, by rw [HR.out]⟩
        case measure => simp [RowKit.intOf]; omega
    · obtain rfl : k = az.size := by omega
      have hfull : az.data.toList.take az.size = az.data.toList := List.take_of_length_le (by show az.data.toList.length ≤ az.size; exact Nat.le_refl _)
      rw [hfull]
      have hsz2 := hsz.out
      have hca : (az.data.toList.count 39 : Nat) = Array.count 39 az.data := by rw [← Array.count_toList]
      rw [hca] at hsz2
      have hfin : ((tx.size : Int) != (az.size : Int) + 2 + ((Array.count 39 az.data : Nat) : Int)) = false := by rw [hsz2]; simp
      have hcl2 : Array.count 39 az.data ≤ 512 := by rw [← hca]; exact Nat.le_trans List.count_le_length (Nat.le_trans (Nat.le_refl az.size) hz512)
      clear hsz2 hca hcl
      go_wp2
      go_ret
      exact ⟨ret_bool (by first | rfl | simp_all), H5.out.below⟩
set_option maxRecDepth 100000 in
set_option maxHeartbeats 8000000 in
theorem texts_eq (ak : Nat) (akb : ak < 256) (ai : Int) (ai0 : -9223372036854775808 ≤ ai) (ai1 : ai ≤ 9223372036854775807) (az : ByteArray) (azb : az.size ≤ 140737488351232) (hbig : decide ((20000 : Int) < (az.size : Int) + (az.size : Int)) = false) (hfine : (Val.fine ⟨ak, ai, az⟩ && Val.fine ⟨ak, ai, az⟩) = true) (hk2 : ((ak : Int) == 2) = false) (tx : ByteArray) (htx : Hid (Val.text ⟨ak, ai, az⟩ = tx)) (hemp : tx.toList.isEmpty = false) (hemp2 : ¬ tx.toList = []) (w : World) (hw : Wd w) :
    Calls Tryd.prog 4 #[.agg #[.int .u8 (ak : Int), .int .i64 ai, .string az], .agg #[.int .u8 (ak : Int), .int .i64 ai, .string az]] w fun e w' => e = .returned (.bool true) ∧ Below w.heap.size w w' := by
  obtain ⟨w0, hW⟩ : ∃ w0, w0 = ((w.alloc (.cells #[.int .u8 (ak : Int), .int .i64 ai, .string az] 24)).alloc (.cells #[.int .u8 (ak : Int), .int .i64 ai, .string az] 24)) := ⟨_, rfl⟩
  have H0 : Hid (Fam w [(w.heap.size + 1, .cells #[.int .u8 (ak : Int), .int .i64 ai, .string az] 24 (0, 0)), (w.heap.size, .cells #[.int .u8 (ak : Int), .int .i64 ai, .string az] 24 (0, 0))] w0) := Lib.hid (by rw [hW]; exact fam_n2 ..)
  have HW : Hid (∀ x, Below w.heap.size w x → Wd x) := Lib.hid (fun _ h => hw.kept h)
  clear hw
  go_enter Tryd.func4, Tryd.ntmps4
  go_wp2_with fail
  rw [← hW]
  clear hW
  refine (alive_yes _ (HW.out _ H0.out.below)).mono ?_
  rintro e w1 ⟨rfl, hb⟩
  have H1 := Lib.hid (H0.out.kept hb)
  clear hb 
  have f0_0 : w1.cell? ⟨w.heap.size + 1, 0, none⟩ = some (.int .u8 (ak : Int)) := H1.out.cell (b := w.heap.size + 1) (cs := #[.int .u8 (ak : Int), .int .i64 ai, .string az]) (t := 24) (fr := (0, 0)) (List.mem_cons_self ..) 0
  have f0_1 : w1.cell? ⟨w.heap.size + 1, 1, none⟩ = some (.int .i64 ai) := H1.out.cell (b := w.heap.size + 1) (cs := #[.int .u8 (ak : Int), .int .i64 ai, .string az]) (t := 24) (fr := (0, 0)) (List.mem_cons_self ..) 1
  have f0_2 : w1.cell? ⟨w.heap.size + 1, 2, none⟩ = some (.string az) := H1.out.cell (b := w.heap.size + 1) (cs := #[.int .u8 (ak : Int), .int .i64 ai, .string az]) (t := 24) (fr := (0, 0)) (List.mem_cons_self ..) 2
  have z0 : w.heap.size + 1 < w1.heap.size := lt_of_block (H1.out.get (b := w.heap.size + 1) (o := .cells #[.int .u8 (ak : Int), .int .i64 ai, .string az] 24 (0, 0)) (List.mem_cons_self ..))
  have f1_0 : w1.cell? ⟨w.heap.size, 0, none⟩ = some (.int .u8 (ak : Int)) := H1.out.cell (b := w.heap.size) (cs := #[.int .u8 (ak : Int), .int .i64 ai, .string az]) (t := 24) (fr := (0, 0)) (List.mem_cons_of_mem _ (List.mem_cons_self ..)) 0
  have f1_1 : w1.cell? ⟨w.heap.size, 1, none⟩ = some (.int .i64 ai) := H1.out.cell (b := w.heap.size) (cs := #[.int .u8 (ak : Int), .int .i64 ai, .string az]) (t := 24) (fr := (0, 0)) (List.mem_cons_of_mem _ (List.mem_cons_self ..)) 1
  have f1_2 : w1.cell? ⟨w.heap.size, 2, none⟩ = some (.string az) := H1.out.cell (b := w.heap.size) (cs := #[.int .u8 (ak : Int), .int .i64 ai, .string az]) (t := 24) (fr := (0, 0)) (List.mem_cons_of_mem _ (List.mem_cons_self ..)) 2
  have z1 : w.heap.size < w1.heap.size := lt_of_block (H1.out.get (b := w.heap.size) (o := .cells #[.int .u8 (ak : Int), .int .i64 ai, .string az] 24 (0, 0)) (List.mem_cons_of_mem _ (List.mem_cons_self ..)))
  go_wp2_with fail
  refine (long2_new _ _ _ _ az az azb azb _ false hbig).mono ?_
  rintro e w2 ⟨rfl, hb⟩
  have H2 := Lib.hid (H1.out.kept hb)
  clear f0_0 f0_1 f0_2 z0 f1_0 f1_1 f1_2 z1
  clear hb 
  have f0_0 : w2.cell? ⟨w.heap.size + 1, 0, none⟩ = some (.int .u8 (ak : Int)) := H2.out.cell (b := w.heap.size + 1) (cs := #[.int .u8 (ak : Int), .int .i64 ai, .string az]) (t := 24) (fr := (0, 0)) (List.mem_cons_self ..) 0
  have f0_1 : w2.cell? ⟨w.heap.size + 1, 1, none⟩ = some (.int .i64 ai) := H2.out.cell (b := w.heap.size + 1) (cs := #[.int .u8 (ak : Int), .int .i64 ai, .string az]) (t := 24) (fr := (0, 0)) (List.mem_cons_self ..) 1
  have f0_2 : w2.cell? ⟨w.heap.size + 1, 2, none⟩ = some (.string az) := H2.out.cell (b := w.heap.size + 1) (cs := #[.int .u8 (ak : Int), .int .i64 ai, .string az]) (t := 24) (fr := (0, 0)) (List.mem_cons_self ..) 2
  have z0 : w.heap.size + 1 < w2.heap.size := lt_of_block (H2.out.get (b := w.heap.size + 1) (o := .cells #[.int .u8 (ak : Int), .int .i64 ai, .string az] 24 (0, 0)) (List.mem_cons_self ..))
  have f1_0 : w2.cell? ⟨w.heap.size, 0, none⟩ = some (.int .u8 (ak : Int)) := H2.out.cell (b := w.heap.size) (cs := #[.int .u8 (ak : Int), .int .i64 ai, .string az]) (t := 24) (fr := (0, 0)) (List.mem_cons_of_mem _ (List.mem_cons_self ..)) 0
  have f1_1 : w2.cell? ⟨w.heap.size, 1, none⟩ = some (.int .i64 ai) := H2.out.cell (b := w.heap.size) (cs := #[.int .u8 (ak : Int), .int .i64 ai, .string az]) (t := 24) (fr := (0, 0)) (List.mem_cons_of_mem _ (List.mem_cons_self ..)) 1
  have f1_2 : w2.cell? ⟨w.heap.size, 2, none⟩ = some (.string az) := H2.out.cell (b := w.heap.size) (cs := #[.int .u8 (ak : Int), .int .i64 ai, .string az]) (t := 24) (fr := (0, 0)) (List.mem_cons_of_mem _ (List.mem_cons_self ..)) 2
  have z1 : w.heap.size < w2.heap.size := lt_of_block (H2.out.get (b := w.heap.size) (o := .cells #[.int .u8 (ak : Int), .int .i64 ai, .string az] 24 (0, 0)) (List.mem_cons_of_mem _ (List.mem_cons_self ..)))
  go_wp2_with fail
  refine (fine2_new ak ai az akb ak ai az akb _ true hfine).mono ?_
  rintro e w3 ⟨rfl, hb⟩
  have H3 := Lib.hid (H2.out.kept hb)
  clear f0_0 f0_1 f0_2 z0 f1_0 f1_1 f1_2 z1
  clear hb 
  have f0_0 : w3.cell? ⟨w.heap.size + 1, 0, none⟩ = some (.int .u8 (ak : Int)) := H3.out.cell (b := w.heap.size + 1) (cs := #[.int .u8 (ak : Int), .int .i64 ai, .string az]) (t := 24) (fr := (0, 0)) (List.mem_cons_self ..) 0
  have f0_1 : w3.cell? ⟨w.heap.size + 1, 1, none⟩ = some (.int .i64 ai) := H3.out.cell (b := w.heap.size + 1) (cs := #[.int .u8 (ak : Int), .int .i64 ai, .string az]) (t := 24) (fr := (0, 0)) (List.mem_cons_self ..) 1
  have f0_2 : w3.cell? ⟨w.heap.size + 1, 2, none⟩ = some (.string az) := H3.out.cell (b := w.heap.size + 1) (cs := #[.int .u8 (ak : Int), .int .i64 ai, .string az]) (t := 24) (fr := (0, 0)) (List.mem_cons_self ..) 2
  have z0 : w.heap.size + 1 < w3.heap.size := lt_of_block (H3.out.get (b := w.heap.size + 1) (o := .cells #[.int .u8 (ak : Int), .int .i64 ai, .string az] 24 (0, 0)) (List.mem_cons_self ..))
  have f1_0 : w3.cell? ⟨w.heap.size, 0, none⟩ = some (.int .u8 (ak : Int)) := H3.out.cell (b := w.heap.size) (cs := #[.int .u8 (ak : Int), .int .i64 ai, .string az]) (t := 24) (fr := (0, 0)) (List.mem_cons_of_mem _ (List.mem_cons_self ..)) 0
  have f1_1 : w3.cell? ⟨w.heap.size, 1, none⟩ = some (.int .i64 ai) := H3.out.cell (b := w.heap.size) (cs := #[.int .u8 (ak : Int), .int .i64 ai, .string az]) (t := 24) (fr := (0, 0)) (List.mem_cons_of_mem _ (List.mem_cons_self ..)) 1
  have f1_2 : w3.cell? ⟨w.heap.size, 2, none⟩ = some (.string az) := H3.out.cell (b := w.heap.size) (cs := #[.int .u8 (ak : Int), .int .i64 ai, .string az]) (t := 24) (fr := (0, 0)) (List.mem_cons_of_mem _ (List.mem_cons_self ..)) 2
  have z1 : w.heap.size < w3.heap.size := lt_of_block (H3.out.get (b := w.heap.size) (o := .cells #[.int .u8 (ak : Int), .int .i64 ai, .string az] 24 (0, 0)) (List.mem_cons_of_mem _ (List.mem_cons_self ..)))
  go_wp2_with fail
  refine (text_at ak ai az tx akb ai0 ai1 htx.out _ (HW.out _ H3.out.below)).mono ?_
  rintro e w4 ⟨rfl, hb⟩
  have H4 := Lib.hid (H3.out.kept hb)
  clear f0_0 f0_1 f0_2 z0 f1_0 f1_1 f1_2 z1
  clear hb 
  have f0_0 : w4.cell? ⟨w.heap.size + 1, 0, none⟩ = some (.int .u8 (ak : Int)) := H4.out.cell (b := w.heap.size + 1) (cs := #[.int .u8 (ak : Int), .int .i64 ai, .string az]) (t := 24) (fr := (0, 0)) (List.mem_cons_self ..) 0
  have f0_1 : w4.cell? ⟨w.heap.size + 1, 1, none⟩ = some (.int .i64 ai) := H4.out.cell (b := w.heap.size + 1) (cs := #[.int .u8 (ak : Int), .int .i64 ai, .string az]) (t := 24) (fr := (0, 0)) (List.mem_cons_self ..) 1
  have f0_2 : w4.cell? ⟨w.heap.size + 1, 2, none⟩ = some (.string az) := H4.out.cell (b := w.heap.size + 1) (cs := #[.int .u8 (ak : Int), .int .i64 ai, .string az]) (t := 24) (fr := (0, 0)) (List.mem_cons_self ..) 2
  have z0 : w.heap.size + 1 < w4.heap.size := lt_of_block (H4.out.get (b := w.heap.size + 1) (o := .cells #[.int .u8 (ak : Int), .int .i64 ai, .string az] 24 (0, 0)) (List.mem_cons_self ..))
  have f1_0 : w4.cell? ⟨w.heap.size, 0, none⟩ = some (.int .u8 (ak : Int)) := H4.out.cell (b := w.heap.size) (cs := #[.int .u8 (ak : Int), .int .i64 ai, .string az]) (t := 24) (fr := (0, 0)) (List.mem_cons_of_mem _ (List.mem_cons_self ..)) 0
  have f1_1 : w4.cell? ⟨w.heap.size, 1, none⟩ = some (.int .i64 ai) := H4.out.cell (b := w.heap.size) (cs := #[.int .u8 (ak : Int), .int .i64 ai, .string az]) (t := 24) (fr := (0, 0)) (List.mem_cons_of_mem _ (List.mem_cons_self ..)) 1
  have f1_2 : w4.cell? ⟨w.heap.size, 2, none⟩ = some (.string az) := H4.out.cell (b := w.heap.size) (cs := #[.int .u8 (ak : Int), .int .i64 ai, .string az]) (t := 24) (fr := (0, 0)) (List.mem_cons_of_mem _ (List.mem_cons_self ..)) 2
  have z1 : w.heap.size < w4.heap.size := lt_of_block (H4.out.get (b := w.heap.size) (o := .cells #[.int .u8 (ak : Int), .int .i64 ai, .string az] 24 (0, 0)) (List.mem_cons_of_mem _ (List.mem_cons_self ..)))
  go_wp2_with fail
  refine (text_at ak ai az tx akb ai0 ai1 htx.out _ (HW.out _ H4.out.below)).mono ?_
  rintro e w5 ⟨rfl, hb⟩
  have H5 := Lib.hid (H4.out.kept hb)
  clear f0_0 f0_1 f0_2 z0 f1_0 f1_1 f1_2 z1
  clear hb 
  have f0_0 : w5.cell? ⟨w.heap.size + 1, 0, none⟩ = some (.int .u8 (ak : Int)) := H5.out.cell (b := w.heap.size + 1) (cs := #[.int .u8 (ak : Int), .int .i64 ai, .string az]) (t := 24) (fr := (0, 0)) (List.mem_cons_self ..) 0
  have f0_1 : w5.cell? ⟨w.heap.size + 1, 1, none⟩ = some (.int .i64 ai) := H5.out.cell (b := w.heap.size + 1) (cs := #[.int .u8 (ak : Int), .int .i64 ai, .string az]) (t := 24) (fr := (0, 0)) (List.mem_cons_self ..) 1
  have f0_2 : w5.cell? ⟨w.heap.size + 1, 2, none⟩ = some (.string az) := H5.out.cell (b := w.heap.size + 1) (cs := #[.int .u8 (ak : Int), .int .i64 ai, .string az]) (t := 24) (fr := (0, 0)) (List.mem_cons_self ..) 2
  have z0 : w.heap.size + 1 < w5.heap.size := lt_of_block (H5.out.get (b := w.heap.size + 1) (o := .cells #[.int .u8 (ak : Int), .int .i64 ai, .string az] 24 (0, 0)) (List.mem_cons_self ..))
  have f1_0 : w5.cell? ⟨w.heap.size, 0, none⟩ = some (.int .u8 (ak : Int)) := H5.out.cell (b := w.heap.size) (cs := #[.int .u8 (ak : Int), .int .i64 ai, .string az]) (t := 24) (fr := (0, 0)) (List.mem_cons_of_mem _ (List.mem_cons_self ..)) 0
  have f1_1 : w5.cell? ⟨w.heap.size, 1, none⟩ = some (.int .i64 ai) := H5.out.cell (b := w.heap.size) (cs := #[.int .u8 (ak : Int), .int .i64 ai, .string az]) (t := 24) (fr := (0, 0)) (List.mem_cons_of_mem _ (List.mem_cons_self ..)) 1
  have f1_2 : w5.cell? ⟨w.heap.size, 2, none⟩ = some (.string az) := H5.out.cell (b := w.heap.size) (cs := #[.int .u8 (ak : Int), .int .i64 ai, .string az]) (t := 24) (fr := (0, 0)) (List.mem_cons_of_mem _ (List.mem_cons_self ..)) 2
  have z1 : w.heap.size < w5.heap.size := lt_of_block (H5.out.get (b := w.heap.size) (o := .cells #[.int .u8 (ak : Int), .int .i64 ai, .string az] 24 (0, 0)) (List.mem_cons_of_mem _ (List.mem_cons_self ..)))
  go_wp2_with fail
  go_ret
  exact ⟨ret_bool (by first | rfl | simp_all), H5.out.below⟩
set_option maxRecDepth 100000 in
set_option maxHeartbeats 8000000 in
theorem texts_k (ak : Nat) (akb : ak < 256) (ai : Int) (ai0 : -9223372036854775808 ≤ ai) (ai1 : ai ≤ 9223372036854775807) (az : ByteArray) (azb : az.size ≤ 140737488351232) (bk : Nat) (bkb : bk < 256) (bi : Int) (bi0 : -9223372036854775808 ≤ bi) (bi1 : bi ≤ 9223372036854775807) (bz : ByteArray) (bzb : bz.size ≤ 140737488351232) (hbig : decide ((20000 : Int) < (az.size : Int) + (bz.size : Int)) = false) (hfine : (Val.fine ⟨ak, ai, az⟩ && Val.fine ⟨bk, bi, bz⟩) = true) (hk2 : ((ak : Int) == 2) = false) (hne : ((ak : Int) == (bk : Int)) = false) (tx : ByteArray) (htx : Hid (Val.text ⟨ak, ai, az⟩ = tx)) (hemp : tx.toList.isEmpty = false) (hemp2 : ¬ tx.toList = []) (ty : ByteArray) (hty : Hid (Val.text ⟨bk, bi, bz⟩ = ty)) (hxy : (tx.toList == ty.toList) = false) (w : World) (hw : Wd w) :
    Calls Tryd.prog 4 #[.agg #[.int .u8 (ak : Int), .int .i64 ai, .string az], .agg #[.int .u8 (bk : Int), .int .i64 bi, .string bz]] w fun e w' => e = .returned (.bool true) ∧ Below w.heap.size w w' := by
  obtain ⟨w0, hW⟩ : ∃ w0, w0 = ((w.alloc (.cells #[.int .u8 (ak : Int), .int .i64 ai, .string az] 24)).alloc (.cells #[.int .u8 (bk : Int), .int .i64 bi, .string bz] 24)) := ⟨_, rfl⟩
  have H0 : Hid (Fam w [(w.heap.size + 1, .cells #[.int .u8 (bk : Int), .int .i64 bi, .string bz] 24 (0, 0)), (w.heap.size, .cells #[.int .u8 (ak : Int), .int .i64 ai, .string az] 24 (0, 0))] w0) := Lib.hid (by rw [hW]; exact fam_n2 ..)
  have HW : Hid (∀ x, Below w.heap.size w x → Wd x) := Lib.hid (fun _ h => hw.kept h)
  clear hw
  go_enter Tryd.func4, Tryd.ntmps4
  go_wp2_with fail
  rw [← hW]
  clear hW
  refine (alive_yes _ (HW.out _ H0.out.below)).mono ?_
  rintro e w1 ⟨rfl, hb⟩
  have H1 := Lib.hid (H0.out.kept hb)
  clear hb 
  have f0_0 : w1.cell? ⟨w.heap.size + 1, 0, none⟩ = some (.int .u8 (bk : Int)) := H1.out.cell (b := w.heap.size + 1) (cs := #[.int .u8 (bk : Int), .int .i64 bi, .string bz]) (t := 24) (fr := (0, 0)) (List.mem_cons_self ..) 0
  have f0_1 : w1.cell? ⟨w.heap.size + 1, 1, none⟩ = some (.int .i64 bi) := H1.out.cell (b := w.heap.size + 1) (cs := #[.int .u8 (bk : Int), .int .i64 bi, .string bz]) (t := 24) (fr := (0, 0)) (List.mem_cons_self ..) 1
  have f0_2 : w1.cell? ⟨w.heap.size + 1, 2, none⟩ = some (.string bz) := H1.out.cell (b := w.heap.size + 1) (cs := #[.int .u8 (bk : Int), .int .i64 bi, .string bz]) (t := 24) (fr := (0, 0)) (List.mem_cons_self ..) 2
  have z0 : w.heap.size + 1 < w1.heap.size := lt_of_block (H1.out.get (b := w.heap.size + 1) (o := .cells #[.int .u8 (bk : Int), .int .i64 bi, .string bz] 24 (0, 0)) (List.mem_cons_self ..))
  have f1_0 : w1.cell? ⟨w.heap.size, 0, none⟩ = some (.int .u8 (ak : Int)) := H1.out.cell (b := w.heap.size) (cs := #[.int .u8 (ak : Int), .int .i64 ai, .string az]) (t := 24) (fr := (0, 0)) (List.mem_cons_of_mem _ (List.mem_cons_self ..)) 0
  have f1_1 : w1.cell? ⟨w.heap.size, 1, none⟩ = some (.int .i64 ai) := H1.out.cell (b := w.heap.size) (cs := #[.int .u8 (ak : Int), .int .i64 ai, .string az]) (t := 24) (fr := (0, 0)) (List.mem_cons_of_mem _ (List.mem_cons_self ..)) 1
  have f1_2 : w1.cell? ⟨w.heap.size, 2, none⟩ = some (.string az) := H1.out.cell (b := w.heap.size) (cs := #[.int .u8 (ak : Int), .int .i64 ai, .string az]) (t := 24) (fr := (0, 0)) (List.mem_cons_of_mem _ (List.mem_cons_self ..)) 2
  have z1 : w.heap.size < w1.heap.size := lt_of_block (H1.out.get (b := w.heap.size) (o := .cells #[.int .u8 (ak : Int), .int .i64 ai, .string az] 24 (0, 0)) (List.mem_cons_of_mem _ (List.mem_cons_self ..)))
  go_wp2_with fail
  refine (long2_new _ _ _ _ az bz azb bzb _ false hbig).mono ?_
  rintro e w2 ⟨rfl, hb⟩
  have H2 := Lib.hid (H1.out.kept hb)
  clear f0_0 f0_1 f0_2 z0 f1_0 f1_1 f1_2 z1
  clear hb 
  have f0_0 : w2.cell? ⟨w.heap.size + 1, 0, none⟩ = some (.int .u8 (bk : Int)) := H2.out.cell (b := w.heap.size + 1) (cs := #[.int .u8 (bk : Int), .int .i64 bi, .string bz]) (t := 24) (fr := (0, 0)) (List.mem_cons_self ..) 0
  have f0_1 : w2.cell? ⟨w.heap.size + 1, 1, none⟩ = some (.int .i64 bi) := H2.out.cell (b := w.heap.size + 1) (cs := #[.int .u8 (bk : Int), .int .i64 bi, .string bz]) (t := 24) (fr := (0, 0)) (List.mem_cons_self ..) 1
  have f0_2 : w2.cell? ⟨w.heap.size + 1, 2, none⟩ = some (.string bz) := H2.out.cell (b := w.heap.size + 1) (cs := #[.int .u8 (bk : Int), .int .i64 bi, .string bz]) (t := 24) (fr := (0, 0)) (List.mem_cons_self ..) 2
  have z0 : w.heap.size + 1 < w2.heap.size := lt_of_block (H2.out.get (b := w.heap.size + 1) (o := .cells #[.int .u8 (bk : Int), .int .i64 bi, .string bz] 24 (0, 0)) (List.mem_cons_self ..))
  have f1_0 : w2.cell? ⟨w.heap.size, 0, none⟩ = some (.int .u8 (ak : Int)) := H2.out.cell (b := w.heap.size) (cs := #[.int .u8 (ak : Int), .int .i64 ai, .string az]) (t := 24) (fr := (0, 0)) (List.mem_cons_of_mem _ (List.mem_cons_self ..)) 0
  have f1_1 : w2.cell? ⟨w.heap.size, 1, none⟩ = some (.int .i64 ai) := H2.out.cell (b := w.heap.size) (cs := #[.int .u8 (ak : Int), .int .i64 ai, .string az]) (t := 24) (fr := (0, 0)) (List.mem_cons_of_mem _ (List.mem_cons_self ..)) 1
  have f1_2 : w2.cell? ⟨w.heap.size, 2, none⟩ = some (.string az) := H2.out.cell (b := w.heap.size) (cs := #[.int .u8 (ak : Int), .int .i64 ai, .string az]) (t := 24) (fr := (0, 0)) (List.mem_cons_of_mem _ (List.mem_cons_self ..)) 2
  have z1 : w.heap.size < w2.heap.size := lt_of_block (H2.out.get (b := w.heap.size) (o := .cells #[.int .u8 (ak : Int), .int .i64 ai, .string az] 24 (0, 0)) (List.mem_cons_of_mem _ (List.mem_cons_self ..)))
  go_wp2_with fail
  refine (fine2_new ak ai az akb bk bi bz bkb _ true hfine).mono ?_
  rintro e w3 ⟨rfl, hb⟩
  have H3 := Lib.hid (H2.out.kept hb)
  clear f0_0 f0_1 f0_2 z0 f1_0 f1_1 f1_2 z1
  clear hb 
  have f0_0 : w3.cell? ⟨w.heap.size + 1, 0, none⟩ = some (.int .u8 (bk : Int)) := H3.out.cell (b := w.heap.size + 1) (cs := #[.int .u8 (bk : Int), .int .i64 bi, .string bz]) (t := 24) (fr := (0, 0)) (List.mem_cons_self ..) 0
  have f0_1 : w3.cell? ⟨w.heap.size + 1, 1, none⟩ = some (.int .i64 bi) := H3.out.cell (b := w.heap.size + 1) (cs := #[.int .u8 (bk : Int), .int .i64 bi, .string bz]) (t := 24) (fr := (0, 0)) (List.mem_cons_self ..) 1
  have f0_2 : w3.cell? ⟨w.heap.size + 1, 2, none⟩ = some (.string bz) := H3.out.cell (b := w.heap.size + 1) (cs := #[.int .u8 (bk : Int), .int .i64 bi, .string bz]) (t := 24) (fr := (0, 0)) (List.mem_cons_self ..) 2
  have z0 : w.heap.size + 1 < w3.heap.size := lt_of_block (H3.out.get (b := w.heap.size + 1) (o := .cells #[.int .u8 (bk : Int), .int .i64 bi, .string bz] 24 (0, 0)) (List.mem_cons_self ..))
  have f1_0 : w3.cell? ⟨w.heap.size, 0, none⟩ = some (.int .u8 (ak : Int)) := H3.out.cell (b := w.heap.size) (cs := #[.int .u8 (ak : Int), .int .i64 ai, .string az]) (t := 24) (fr := (0, 0)) (List.mem_cons_of_mem _ (List.mem_cons_self ..)) 0
  have f1_1 : w3.cell? ⟨w.heap.size, 1, none⟩ = some (.int .i64 ai) := H3.out.cell (b := w.heap.size) (cs := #[.int .u8 (ak : Int), .int .i64 ai, .string az]) (t := 24) (fr := (0, 0)) (List.mem_cons_of_mem _ (List.mem_cons_self ..)) 1
  have f1_2 : w3.cell? ⟨w.heap.size, 2, none⟩ = some (.string az) := H3.out.cell (b := w.heap.size) (cs := #[.int .u8 (ak : Int), .int .i64 ai, .string az]) (t := 24) (fr := (0, 0)) (List.mem_cons_of_mem _ (List.mem_cons_self ..)) 2
  have z1 : w.heap.size < w3.heap.size := lt_of_block (H3.out.get (b := w.heap.size) (o := .cells #[.int .u8 (ak : Int), .int .i64 ai, .string az] 24 (0, 0)) (List.mem_cons_of_mem _ (List.mem_cons_self ..)))
  go_wp2_with fail
  refine (text_at ak ai az tx akb ai0 ai1 htx.out _ (HW.out _ H3.out.below)).mono ?_
  rintro e w4 ⟨rfl, hb⟩
  have H4 := Lib.hid (H3.out.kept hb)
  clear f0_0 f0_1 f0_2 z0 f1_0 f1_1 f1_2 z1
  clear hb 
  have f0_0 : w4.cell? ⟨w.heap.size + 1, 0, none⟩ = some (.int .u8 (bk : Int)) := H4.out.cell (b := w.heap.size + 1) (cs := #[.int .u8 (bk : Int), .int .i64 bi, .string bz]) (t := 24) (fr := (0, 0)) (List.mem_cons_self ..) 0
  have f0_1 : w4.cell? ⟨w.heap.size + 1, 1, none⟩ = some (.int .i64 bi) := H4.out.cell (b := w.heap.size + 1) (cs := #[.int .u8 (bk : Int), .int .i64 bi, .string bz]) (t := 24) (fr := (0, 0)) (List.mem_cons_self ..) 1
  have f0_2 : w4.cell? ⟨w.heap.size + 1, 2, none⟩ = some (.string bz) := H4.out.cell (b := w.heap.size + 1) (cs := #[.int .u8 (bk : Int), .int .i64 bi, .string bz]) (t := 24) (fr := (0, 0)) (List.mem_cons_self ..) 2
  have z0 : w.heap.size + 1 < w4.heap.size := lt_of_block (H4.out.get (b := w.heap.size + 1) (o := .cells #[.int .u8 (bk : Int), .int .i64 bi, .string bz] 24 (0, 0)) (List.mem_cons_self ..))
  have f1_0 : w4.cell? ⟨w.heap.size, 0, none⟩ = some (.int .u8 (ak : Int)) := H4.out.cell (b := w.heap.size) (cs := #[.int .u8 (ak : Int), .int .i64 ai, .string az]) (t := 24) (fr := (0, 0)) (List.mem_cons_of_mem _ (List.mem_cons_self ..)) 0
  have f1_1 : w4.cell? ⟨w.heap.size, 1, none⟩ = some (.int .i64 ai) := H4.out.cell (b := w.heap.size) (cs := #[.int .u8 (ak : Int), .int .i64 ai, .string az]) (t := 24) (fr := (0, 0)) (List.mem_cons_of_mem _ (List.mem_cons_self ..)) 1
  have f1_2 : w4.cell? ⟨w.heap.size, 2, none⟩ = some (.string az) := H4.out.cell (b := w.heap.size) (cs := #[.int .u8 (ak : Int), .int .i64 ai, .string az]) (t := 24) (fr := (0, 0)) (List.mem_cons_of_mem _ (List.mem_cons_self ..)) 2
  have z1 : w.heap.size < w4.heap.size := lt_of_block (H4.out.get (b := w.heap.size) (o := .cells #[.int .u8 (ak : Int), .int .i64 ai, .string az] 24 (0, 0)) (List.mem_cons_of_mem _ (List.mem_cons_self ..)))
  go_wp2_with fail
  refine (text_at bk bi bz ty bkb bi0 bi1 hty.out _ (HW.out _ H4.out.below)).mono ?_
  rintro e w5 ⟨rfl, hb⟩
  have H5 := Lib.hid (H4.out.kept hb)
  clear f0_0 f0_1 f0_2 z0 f1_0 f1_1 f1_2 z1
  clear hb 
  have f0_0 : w5.cell? ⟨w.heap.size + 1, 0, none⟩ = some (.int .u8 (bk : Int)) := H5.out.cell (b := w.heap.size + 1) (cs := #[.int .u8 (bk : Int), .int .i64 bi, .string bz]) (t := 24) (fr := (0, 0)) (List.mem_cons_self ..) 0
  have f0_1 : w5.cell? ⟨w.heap.size + 1, 1, none⟩ = some (.int .i64 bi) := H5.out.cell (b := w.heap.size + 1) (cs := #[.int .u8 (bk : Int), .int .i64 bi, .string bz]) (t := 24) (fr := (0, 0)) (List.mem_cons_self ..) 1
  have f0_2 : w5.cell? ⟨w.heap.size + 1, 2, none⟩ = some (.string bz) := H5.out.cell (b := w.heap.size + 1) (cs := #[.int .u8 (bk : Int), .int .i64 bi, .string bz]) (t := 24) (fr := (0, 0)) (List.mem_cons_self ..) 2
  have z0 : w.heap.size + 1 < w5.heap.size := lt_of_block (H5.out.get (b := w.heap.size + 1) (o := .cells #[.int .u8 (bk : Int), .int .i64 bi, .string bz] 24 (0, 0)) (List.mem_cons_self ..))
  have f1_0 : w5.cell? ⟨w.heap.size, 0, none⟩ = some (.int .u8 (ak : Int)) := H5.out.cell (b := w.heap.size) (cs := #[.int .u8 (ak : Int), .int .i64 ai, .string az]) (t := 24) (fr := (0, 0)) (List.mem_cons_of_mem _ (List.mem_cons_self ..)) 0
  have f1_1 : w5.cell? ⟨w.heap.size, 1, none⟩ = some (.int .i64 ai) := H5.out.cell (b := w.heap.size) (cs := #[.int .u8 (ak : Int), .int .i64 ai, .string az]) (t := 24) (fr := (0, 0)) (List.mem_cons_of_mem _ (List.mem_cons_self ..)) 1
  have f1_2 : w5.cell? ⟨w.heap.size, 2, none⟩ = some (.string az) := H5.out.cell (b := w.heap.size) (cs := #[.int .u8 (ak : Int), .int .i64 ai, .string az]) (t := 24) (fr := (0, 0)) (List.mem_cons_of_mem _ (List.mem_cons_self ..)) 2
  have z1 : w.heap.size < w5.heap.size := lt_of_block (H5.out.get (b := w.heap.size) (o := .cells #[.int .u8 (ak : Int), .int .i64 ai, .string az] 24 (0, 0)) (List.mem_cons_of_mem _ (List.mem_cons_self ..)))
  go_wp2_with fail
  go_ret
  exact ⟨ret_bool (by first | rfl | simp_all), H5.out.below⟩
set_option maxRecDepth 100000 in
set_option maxHeartbeats 8000000 in
theorem texts_i (ak : Nat) (akb : ak < 256) (ai : Int) (ai0 : -9223372036854775808 ≤ ai) (ai1 : ai ≤ 9223372036854775807) (az : ByteArray) (azb : az.size ≤ 140737488351232) (bi : Int) (bi0 : -9223372036854775808 ≤ bi) (bi1 : bi ≤ 9223372036854775807) (bz : ByteArray) (bzb : bz.size ≤ 140737488351232) (hbig : decide ((20000 : Int) < (az.size : Int) + (bz.size : Int)) = false) (hfine : (Val.fine ⟨ak, ai, az⟩ && Val.fine ⟨ak, bi, bz⟩) = true) (hk2 : ((ak : Int) == 2) = false) (hne : (ai == bi) = false) (tx : ByteArray) (htx : Hid (Val.text ⟨ak, ai, az⟩ = tx)) (hemp : tx.toList.isEmpty = false) (hemp2 : ¬ tx.toList = []) (ty : ByteArray) (hty : Hid (Val.text ⟨ak, bi, bz⟩ = ty)) (hxy : (tx.toList == ty.toList) = false) (w : World) (hw : Wd w) :
    Calls Tryd.prog 4 #[.agg #[.int .u8 (ak : Int), .int .i64 ai, .string az], .agg #[.int .u8 (ak : Int), .int .i64 bi, .string bz]] w fun e w' => e = .returned (.bool true) ∧ Below w.heap.size w w' := by
  obtain ⟨w0, hW⟩ : ∃ w0, w0 = ((w.alloc (.cells #[.int .u8 (ak : Int), .int .i64 ai, .string az] 24)).alloc (.cells #[.int .u8 (ak : Int), .int .i64 bi, .string bz] 24)) := ⟨_, rfl⟩
  have H0 : Hid (Fam w [(w.heap.size + 1, .cells #[.int .u8 (ak : Int), .int .i64 bi, .string bz] 24 (0, 0)), (w.heap.size, .cells #[.int .u8 (ak : Int), .int .i64 ai, .string az] 24 (0, 0))] w0) := Lib.hid (by rw [hW]; exact fam_n2 ..)
  have HW : Hid (∀ x, Below w.heap.size w x → Wd x) := Lib.hid (fun _ h => hw.kept h)
  clear hw
  go_enter Tryd.func4, Tryd.ntmps4
  go_wp2_with fail
  rw [← hW]
  clear hW
  refine (alive_yes _ (HW.out _ H0.out.below)).mono ?_
  rintro e w1 ⟨rfl, hb⟩
  have H1 := Lib.hid (H0.out.kept hb)
  clear hb 
  have f0_0 : w1.cell? ⟨w.heap.size + 1, 0, none⟩ = some (.int .u8 (ak : Int)) := H1.out.cell (b := w.heap.size + 1) (cs := #[.int .u8 (ak : Int), .int .i64 bi, .string bz]) (t := 24) (fr := (0, 0)) (List.mem_cons_self ..) 0
  have f0_1 : w1.cell? ⟨w.heap.size + 1, 1, none⟩ = some (.int .i64 bi) := H1.out.cell (b := w.heap.size + 1) (cs := #[.int .u8 (ak : Int), .int .i64 bi, .string bz]) (t := 24) (fr := (0, 0)) (List.mem_cons_self ..) 1
  have f0_2 : w1.cell? ⟨w.heap.size + 1, 2, none⟩ = some (.string bz) := H1.out.cell (b := w.heap.size + 1) (cs := #[.int .u8 (ak : Int), .int .i64 bi, .string bz]) (t := 24) (fr := (0, 0)) (List.mem_cons_self ..) 2
  have z0 : w.heap.size + 1 < w1.heap.size := lt_of_block (H1.out.get (b := w.heap.size + 1) (o := .cells #[.int .u8 (ak : Int), .int .i64 bi, .string bz] 24 (0, 0)) (List.mem_cons_self ..))
  have f1_0 : w1.cell? ⟨w.heap.size, 0, none⟩ = some (.int .u8 (ak : Int)) := H1.out.cell (b := w.heap.size) (cs := #[.int .u8 (ak : Int), .int .i64 ai, .string az]) (t := 24) (fr := (0, 0)) (List.mem_cons_of_mem _ (List.mem_cons_self ..)) 0
  have f1_1 : w1.cell? ⟨w.heap.size, 1, none⟩ = some (.int .i64 ai) := H1.out.cell (b := w.heap.size) (cs := #[.int .u8 (ak : Int), .int .i64 ai, .string az]) (t := 24) (fr := (0, 0)) (List.mem_cons_of_mem _ (List.mem_cons_self ..)) 1
  have f1_2 : w1.cell? ⟨w.heap.size, 2, none⟩ = some (.string az) := H1.out.cell (b := w.heap.size) (cs := #[.int .u8 (ak : Int), .int .i64 ai, .string az]) (t := 24) (fr := (0, 0)) (List.mem_cons_of_mem _ (List.mem_cons_self ..)) 2
  have z1 : w.heap.size < w1.heap.size := lt_of_block (H1.out.get (b := w.heap.size) (o := .cells #[.int .u8 (ak : Int), .int .i64 ai, .string az] 24 (0, 0)) (List.mem_cons_of_mem _ (List.mem_cons_self ..)))
  go_wp2_with fail
  refine (long2_new _ _ _ _ az bz azb bzb _ false hbig).mono ?_
  rintro e w2 ⟨rfl, hb⟩
  have H2 := Lib.hid (H1.out.kept hb)
  clear f0_0 f0_1 f0_2 z0 f1_0 f1_1 f1_2 z1
  clear hb 
  have f0_0 : w2.cell? ⟨w.heap.size + 1, 0, none⟩ = some (.int .u8 (ak : Int)) := H2.out.cell (b := w.heap.size + 1) (cs := #[.int .u8 (ak : Int), .int .i64 bi, .string bz]) (t := 24) (fr := (0, 0)) (List.mem_cons_self ..) 0
  have f0_1 : w2.cell? ⟨w.heap.size + 1, 1, none⟩ = some (.int .i64 bi) := H2.out.cell (b := w.heap.size + 1) (cs := #[.int .u8 (ak : Int), .int .i64 bi, .string bz]) (t := 24) (fr := (0, 0)) (List.mem_cons_self ..) 1
  have f0_2 : w2.cell? ⟨w.heap.size + 1, 2, none⟩ = some (.string bz) := H2.out.cell (b := w.heap.size + 1) (cs := #[.int .u8 (ak : Int), .int .i64 bi, .string bz]) (t := 24) (fr := (0, 0)) (List.mem_cons_self ..) 2
  have z0 : w.heap.size + 1 < w2.heap.size := lt_of_block (H2.out.get (b := w.heap.size + 1) (o := .cells #[.int .u8 (ak : Int), .int .i64 bi, .string bz] 24 (0, 0)) (List.mem_cons_self ..))
  have f1_0 : w2.cell? ⟨w.heap.size, 0, none⟩ = some (.int .u8 (ak : Int)) := H2.out.cell (b := w.heap.size) (cs := #[.int .u8 (ak : Int), .int .i64 ai, .string az]) (t := 24) (fr := (0, 0)) (List.mem_cons_of_mem _ (List.mem_cons_self ..)) 0
  have f1_1 : w2.cell? ⟨w.heap.size, 1, none⟩ = some (.int .i64 ai) := H2.out.cell (b := w.heap.size) (cs := #[.int .u8 (ak : Int), .int .i64 ai, .string az]) (t := 24) (fr := (0, 0)) (List.mem_cons_of_mem _ (List.mem_cons_self ..)) 1
  have f1_2 : w2.cell? ⟨w.heap.size, 2, none⟩ = some (.string az) := H2.out.cell (b := w.heap.size) (cs := #[.int .u8 (ak : Int), .int .i64 ai, .string az]) (t := 24) (fr := (0, 0)) (List.mem_cons_of_mem _ (List.mem_cons_self ..)) 2
  have z1 : w.heap.size < w2.heap.size := lt_of_block (H2.out.get (b := w.heap.size) (o := .cells #[.int .u8 (ak : Int), .int .i64 ai, .string az] 24 (0, 0)) (List.mem_cons_of_mem _ (List.mem_cons_self ..)))
  go_wp2_with fail
  refine (fine2_new ak ai az akb ak bi bz akb _ true hfine).mono ?_
  rintro e w3 ⟨rfl, hb⟩
  have H3 := Lib.hid (H2.out.kept hb)
  clear f0_0 f0_1 f0_2 z0 f1_0 f1_1 f1_2 z1
  clear hb 
  have f0_0 : w3.cell? ⟨w.heap.size + 1, 0, none⟩ = some (.int .u8 (ak : Int)) := H3.out.cell (b := w.heap.size + 1) (cs := #[.int .u8 (ak : Int), .int .i64 bi, .string bz]) (t := 24) (fr := (0, 0)) (List.mem_cons_self ..) 0
  have f0_1 : w3.cell? ⟨w.heap.size + 1, 1, none⟩ = some (.int .i64 bi) := H3.out.cell (b := w.heap.size + 1) (cs := #[.int .u8 (ak : Int), .int .i64 bi, .string bz]) (t := 24) (fr := (0, 0)) (List.mem_cons_self ..) 1
  have f0_2 : w3.cell? ⟨w.heap.size + 1, 2, none⟩ = some (.string bz) := H3.out.cell (b := w.heap.size + 1) (cs := #[.int .u8 (ak : Int), .int .i64 bi, .string bz]) (t := 24) (fr := (0, 0)) (List.mem_cons_self ..) 2
  have z0 : w.heap.size + 1 < w3.heap.size := lt_of_block (H3.out.get (b := w.heap.size + 1) (o := .cells #[.int .u8 (ak : Int), .int .i64 bi, .string bz] 24 (0, 0)) (List.mem_cons_self ..))
  have f1_0 : w3.cell? ⟨w.heap.size, 0, none⟩ = some (.int .u8 (ak : Int)) := H3.out.cell (b := w.heap.size) (cs := #[.int .u8 (ak : Int), .int .i64 ai, .string az]) (t := 24) (fr := (0, 0)) (List.mem_cons_of_mem _ (List.mem_cons_self ..)) 0
  have f1_1 : w3.cell? ⟨w.heap.size, 1, none⟩ = some (.int .i64 ai) := H3.out.cell (b := w.heap.size) (cs := #[.int .u8 (ak : Int), .int .i64 ai, .string az]) (t := 24) (fr := (0, 0)) (List.mem_cons_of_mem _ (List.mem_cons_self ..)) 1
  have f1_2 : w3.cell? ⟨w.heap.size, 2, none⟩ = some (.string az) := H3.out.cell (b := w.heap.size) (cs := #[.int .u8 (ak : Int), .int .i64 ai, .string az]) (t := 24) (fr := (0, 0)) (List.mem_cons_of_mem _ (List.mem_cons_self ..)) 2
  have z1 : w.heap.size < w3.heap.size := lt_of_block (H3.out.get (b := w.heap.size) (o := .cells #[.int .u8 (ak : Int), .int .i64 ai, .string az] 24 (0, 0)) (List.mem_cons_of_mem _ (List.mem_cons_self ..)))
  go_wp2_with fail
  refine (text_at ak ai az tx akb ai0 ai1 htx.out _ (HW.out _ H3.out.below)).mono ?_
  rintro e w4 ⟨rfl, hb⟩
  have H4 := Lib.hid (H3.out.kept hb)
  clear f0_0 f0_1 f0_2 z0 f1_0 f1_1 f1_2 z1
  clear hb 
  have f0_0 : w4.cell? ⟨w.heap.size + 1, 0, none⟩ = some (.int .u8 (ak : Int)) := H4.out.cell (b := w.heap.size + 1) (cs := #[.int .u8 (ak : Int), .int .i64 bi, .string bz]) (t := 24) (fr := (0, 0)) (List.mem_cons_self ..) 0
  have f0_1 : w4.cell? ⟨w.heap.size + 1, 1, none⟩ = some (.int .i64 bi) := H4.out.cell (b := w.heap.size + 1) (cs := #[.int .u8 (ak : Int), .int .i64 bi, .string bz]) (t := 24) (fr := (0, 0)) (List.mem_cons_self ..) 1
  have f0_2 : w4.cell? ⟨w.heap.size + 1, 2, none⟩ = some (.string bz) := H4.out.cell (b := w.heap.size + 1) (cs := #[.int .u8 (ak : Int), .int .i64 bi, .string bz]) (t := 24) (fr := (0, 0)) (List.mem_cons_self ..) 2
  have z0 : w.heap.size + 1 < w4.heap.size := lt_of_block (H4.out.get (b := w.heap.size + 1) (o := .cells #[.int .u8 (ak : Int), .int .i64 bi, .string bz] 24 (0, 0)) (List.mem_cons_self ..))
  have f1_0 : w4.cell? ⟨w.heap.size, 0, none⟩ = some (.int .u8 (ak : Int)) := H4.out.cell (b := w.heap.size) (cs := #[.int .u8 (ak : Int), .int .i64 ai, .string az]) (t := 24) (fr := (0, 0)) (List.mem_cons_of_mem _ (List.mem_cons_self ..)) 0
  have f1_1 : w4.cell? ⟨w.heap.size, 1, none⟩ = some (.int .i64 ai) := H4.out.cell (b := w.heap.size) (cs := #[.int .u8 (ak : Int), .int .i64 ai, .string az]) (t := 24) (fr := (0, 0)) (List.mem_cons_of_mem _ (List.mem_cons_self ..)) 1
  have f1_2 : w4.cell? ⟨w.heap.size, 2, none⟩ = some (.string az) := H4.out.cell (b := w.heap.size) (cs := #[.int .u8 (ak : Int), .int .i64 ai, .string az]) (t := 24) (fr := (0, 0)) (List.mem_cons_of_mem _ (List.mem_cons_self ..)) 2
  have z1 : w.heap.size < w4.heap.size := lt_of_block (H4.out.get (b := w.heap.size) (o := .cells #[.int .u8 (ak : Int), .int .i64 ai, .string az] 24 (0, 0)) (List.mem_cons_of_mem _ (List.mem_cons_self ..)))
  go_wp2_with fail
  refine (text_at ak bi bz ty akb bi0 bi1 hty.out _ (HW.out _ H4.out.below)).mono ?_
  rintro e w5 ⟨rfl, hb⟩
  have H5 := Lib.hid (H4.out.kept hb)
  clear f0_0 f0_1 f0_2 z0 f1_0 f1_1 f1_2 z1
  clear hb 
  have f0_0 : w5.cell? ⟨w.heap.size + 1, 0, none⟩ = some (.int .u8 (ak : Int)) := H5.out.cell (b := w.heap.size + 1) (cs := #[.int .u8 (ak : Int), .int .i64 bi, .string bz]) (t := 24) (fr := (0, 0)) (List.mem_cons_self ..) 0
  have f0_1 : w5.cell? ⟨w.heap.size + 1, 1, none⟩ = some (.int .i64 bi) := H5.out.cell (b := w.heap.size + 1) (cs := #[.int .u8 (ak : Int), .int .i64 bi, .string bz]) (t := 24) (fr := (0, 0)) (List.mem_cons_self ..) 1
  have f0_2 : w5.cell? ⟨w.heap.size + 1, 2, none⟩ = some (.string bz) := H5.out.cell (b := w.heap.size + 1) (cs := #[.int .u8 (ak : Int), .int .i64 bi, .string bz]) (t := 24) (fr := (0, 0)) (List.mem_cons_self ..) 2
  have z0 : w.heap.size + 1 < w5.heap.size := lt_of_block (H5.out.get (b := w.heap.size + 1) (o := .cells #[.int .u8 (ak : Int), .int .i64 bi, .string bz] 24 (0, 0)) (List.mem_cons_self ..))
  have f1_0 : w5.cell? ⟨w.heap.size, 0, none⟩ = some (.int .u8 (ak : Int)) := H5.out.cell (b := w.heap.size) (cs := #[.int .u8 (ak : Int), .int .i64 ai, .string az]) (t := 24) (fr := (0, 0)) (List.mem_cons_of_mem _ (List.mem_cons_self ..)) 0
  have f1_1 : w5.cell? ⟨w.heap.size, 1, none⟩ = some (.int .i64 ai) := H5.out.cell (b := w.heap.size) (cs := #[.int .u8 (ak : Int), .int .i64 ai, .string az]) (t := 24) (fr := (0, 0)) (List.mem_cons_of_mem _ (List.mem_cons_self ..)) 1
  have f1_2 : w5.cell? ⟨w.heap.size, 2, none⟩ = some (.string az) := H5.out.cell (b := w.heap.size) (cs := #[.int .u8 (ak : Int), .int .i64 ai, .string az]) (t := 24) (fr := (0, 0)) (List.mem_cons_of_mem _ (List.mem_cons_self ..)) 2
  have z1 : w.heap.size < w5.heap.size := lt_of_block (H5.out.get (b := w.heap.size) (o := .cells #[.int .u8 (ak : Int), .int .i64 ai, .string az] 24 (0, 0)) (List.mem_cons_of_mem _ (List.mem_cons_self ..)))
  go_wp2_with fail
  go_ret
  exact ⟨ret_bool (by first | rfl | simp_all), H5.out.below⟩
theorem walk_ValuesTexts (ak : Int) (ai : Int) (az : ByteArray) (hak : (Lit.int .u8 ak).wf = true) (hai : (Lit.int .i64 ai).wf = true) (haz : az.size ≤ 140737488351232) (bk : Int) (bi : Int) (bz : ByteArray) (hbk : (Lit.int .u8 bk).wf = true) (hbi : (Lit.int .i64 bi).wf = true) (hbz : bz.size ≤ 140737488351232) {w : World} (hw : Wd w) :
    Calls Tryd.prog 4 #[.agg #[.int .u8 ak, .int .i64 ai, .string az], .agg #[.int .u8 bk, .int .i64 bi, .string bz]] w fun e w' => e = .returned (.bool true) ∧ Below w.heap.size w w' := by
  have k0 := wf_u8 hak
  have k1 := wf_u8 hbk
  have i0 := wf_i64 hai
  have i1 := wf_i64 hbi
  obtain ⟨ak, rfl⟩ := Int.eq_ofNat_of_zero_le k0.1
  obtain ⟨bk, rfl⟩ := Int.eq_ofNat_of_zero_le k1.1
  cases hbig : decide ((20000 : Int) < (az.size : Int) + (bz.size : Int)) with
  | true => exact texts_long ak (by omega) ai i0.1 i0.2 az haz bk (by omega) bi i1.1 i1.2 bz hbz hbig w hw
  | false =>
    cases hfine : (Val.fine ⟨ak, ai, az⟩ && Val.fine ⟨bk, bi, bz⟩) with
    | false => exact texts_not ak (by omega) ai i0.1 i0.2 az haz bk (by omega) bi i1.1 i1.2 bz hbz hbig hfine w hw
    | true =>
      have hfa := (Bool.and_eq_true _ _).mp hfine |>.1
      have hfb := (Bool.and_eq_true _ _).mp hfine |>.2
      have hemp2 : ¬ (Val.text ⟨ak, ai, az⟩).toList = [] := fun e => Val.text_ne hfa ((toList_nil _).1 e)
      have hemp : (Val.text ⟨ak, ai, az⟩).toList.isEmpty = false := by rw [← Bool.not_eq_true, List.isEmpty_iff]; exact hemp2
      by_cases heq : (⟨ak, ai, az⟩ : Val) = ⟨bk, bi, bz⟩
      · obtain ⟨h1, rfl, rfl⟩ := Val.mk.inj heq
        obtain rfl := h1
        by_cases h2 : ak = 2
        · obtain rfl := h2
          rcases Val.fine_cases hfa with h | ⟨n, h⟩ | ⟨t, h, ht⟩
          · exact absurd (Val.mk.inj h).1 (by decide)
          · exact absurd (Val.mk.inj h).1 (by decide)
          · obtain ⟨_, rfl, rfl⟩ := Val.mk.inj h
            have hsz := Val.text_size az ht
            exact texts_eq_t az haz hbig hfine _ (Lib.hid rfl) hemp hemp2 ht (Lib.hid (by show ((Val.text (Val.txt az)).size : Int) = _; rw [hsz]; omega)) w hw
        · exact texts_eq ak (by omega) ai i0.1 i0.2 az haz hbig hfine (by rw [beq_eq_false_iff_ne]; omega) _ (Lib.hid rfl) hemp hemp2 w hw
      · have hxy : ((Val.text ⟨ak, ai, az⟩).toList == (Val.text ⟨bk, bi, bz⟩).toList) = false := toList_ne (fun e => heq (Val.text_inj hfa hfb e))
        by_cases h2 : ak = 2
        · obtain rfl := h2
          rcases Val.fine_cases hfa with h | ⟨n, h⟩ | ⟨t, h, ht⟩
          · exact absurd (Val.mk.inj h).1 (by decide)
          · exact absurd (Val.mk.inj h).1 (by decide)
          · obtain ⟨_, rfl, rfl⟩ := Val.mk.inj h
            have hsz := Val.text_size az ht
            have hszi : ((Val.text ⟨2, 0, az⟩).size : Int) = (az.size : Int) + 2 + ((az.data.toList.count 39 : Nat) : Int) := by show ((Val.text (Val.txt az)).size : Int) = _; rw [hsz]; omega
            by_cases hk : bk = 2
            · obtain rfl := hk
              rcases Val.fine_cases hfb with h | ⟨n, h⟩ | ⟨t, h, _⟩
              · exact absurd (Val.mk.inj h).1 (by decide)
              · exact absurd (Val.mk.inj h).1 (by decide)
              · obtain ⟨_, rfl, rfl⟩ := Val.mk.inj h
                exact texts_z_t az haz bz hbz hbig hfine (toList_ne (fun e => heq (by rw [e]))) _ (Lib.hid rfl) hemp hemp2 _ (Lib.hid rfl) hxy ht (Lib.hid hszi) w hw
            · exact texts_k_t az haz bk (by omega) bi i1.1 i1.2 bz hbz hbig hfine (by rw [beq_eq_false_iff_ne]; omega) _ (Lib.hid rfl) hemp hemp2 _ (Lib.hid rfl) hxy ht (Lib.hid hszi) w hw
        · have hk2 : ((ak : Int) == 2) = false := by rw [beq_eq_false_iff_ne]; omega
          by_cases hk : ak = bk
          · obtain rfl := hk
            by_cases hi : ai = bi
            · exfalso
              obtain rfl := hi
              rcases Val.fine_cases hfa with h | ⟨n, h⟩ | ⟨t, h, _⟩ <;> rcases Val.fine_cases hfb with h' | ⟨n', h'⟩ | ⟨t', h', _⟩ <;> obtain ⟨e1, e2, e3⟩ := Val.mk.inj h <;> obtain ⟨e1', e2', e3'⟩ := Val.mk.inj h' <;> first | omega | exact heq (by rw [e3, e3'])
            · exact texts_i ak (by omega) ai i0.1 i0.2 az haz bi i1.1 i1.2 bz hbz hbig hfine hk2 (by simpa using hi) _ (Lib.hid rfl) hemp hemp2 _ (Lib.hid rfl) hxy w hw
          · exact texts_k ak (by omega) ai i0.1 i0.2 az haz bk (by omega) bi i1.1 i1.2 bz hbz hbig hfine hk2 (by rw [beq_eq_false_iff_ne]; omega) _ (Lib.hid rfl) hemp hemp2 _ (Lib.hid rfl) hxy w hw
end Go.Proofs.YtnnimngbocabbabDoor
