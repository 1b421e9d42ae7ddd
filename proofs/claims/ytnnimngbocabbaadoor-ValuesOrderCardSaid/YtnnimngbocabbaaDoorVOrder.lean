/-
  WHAT IS PROVED: the walk of ValuesOrder.
-/
import Derived.Test.YtnnimngbocabbaaDoorLawB
namespace Go.Proofs.YtnnimngbocabbaaDoor
open Go.RowKit Go.Lib
set_option linter.unusedVariables false

set_option maxRecDepth 100000 in
set_option maxHeartbeats 8000000 in
theorem order_long (ak : Nat) (akb : ak < 256) (ai : Int) (ai0 : -9223372036854775808 ≤ ai) (ai1 : ai ≤ 9223372036854775807) (az : ByteArray) (azb : az.size ≤ 140737488351232) (bk : Nat) (bkb : bk < 256) (bi : Int) (bi0 : -9223372036854775808 ≤ bi) (bi1 : bi ≤ 9223372036854775807) (bz : ByteArray) (bzb : bz.size ≤ 140737488351232) (ck : Nat) (ckb : ck < 256) (ci : Int) (ci0 : -9223372036854775808 ≤ ci) (ci1 : ci ≤ 9223372036854775807) (cz : ByteArray) (czb : cz.size ≤ 140737488351232) (hbig : decide ((20000 : Int) < (az.size : Int) + (bz.size : Int) + (cz.size : Int)) = true) (w : World) (hw : Wd w) :
    Calls Tryd.prog 5 #[.agg #[.int .u8 (ak : Int), .int .i64 ai, .string az], .agg #[.int .u8 (bk : Int), .int .i64 bi, .string bz], .agg #[.int .u8 (ck : Int), .int .i64 ci, .string cz]] w fun e w' => e = .returned (.bool true) ∧ Below w.heap.size w w' := by
  obtain ⟨W, hW⟩ : ∃ W, W = (((w.alloc (.cells #[.int .u8 (ak : Int), .int .i64 ai, .string az] 24)).alloc (.cells #[.int .u8 (bk : Int), .int .i64 bi, .string bz] 24)).alloc (.cells #[.int .u8 (ck : Int), .int .i64 ci, .string cz] 24)) := ⟨_, rfl⟩
  have HB : Hid (Below w.heap.size w W) := Lib.hid (by rw [hW]; exact below_n3 ..)
  have HW : Hid (Wd W) := Lib.hid (hw.kept HB.out)
  have HC : Hid (∀ w', Below W.heap.size W w' → w'.cell? ⟨w.heap.size, 0, none⟩ = some (.int .u8 (ak : Int)) ∧ w'.cell? ⟨w.heap.size, 1, none⟩ = some (.int .i64 ai) ∧ w'.cell? ⟨w.heap.size, 2, none⟩ = some (.string az) ∧ w'.cell? ⟨w.heap.size + 1, 0, none⟩ = some (.int .u8 (bk : Int)) ∧ w'.cell? ⟨w.heap.size + 1, 1, none⟩ = some (.int .i64 bi) ∧ w'.cell? ⟨w.heap.size + 1, 2, none⟩ = some (.string bz) ∧ w'.cell? ⟨w.heap.size + 1 + 1, 0, none⟩ = some (.int .u8 (ck : Int)) ∧ w'.cell? ⟨w.heap.size + 1 + 1, 1, none⟩ = some (.int .i64 ci) ∧ w'.cell? ⟨w.heap.size + 1 + 1, 2, none⟩ = some (.string cz)) := Lib.hid (fun w' h => by rw [hW] at h; exact cells_n3 h)
  clear hw
  go_enter Tryd.func5, Tryd.ntmps5
  go_wp2_with fail
  rw [← hW]
  clear hW
  refine (alive_yes W HW.out).mono ?_
  rintro e w1 ⟨rfl, hb⟩
  have B1 := Lib.hid hb
  clear hb
  obtain ⟨q00, q01, q02, q10, q11, q12, q20, q21, q22⟩ := HC.out _ B1.out
  go_wp2_with fail
  refine (long3_new _ _ _ _ _ _ az bz cz azb bzb czb _ true hbig).mono ?_
  rintro e w2 ⟨rfl, hb⟩
  have B2 := Lib.hid (below_next B1.out hb)
  clear hb
  clear q00 q01 q02 q10 q11 q12 q20 q21 q22
  go_wp2_with fail
  refine (alive_yes _ (HW.out.kept B2.out)).mono ?_
  rintro e w3 ⟨rfl, hb⟩
  have B3 := Lib.hid (below_next B2.out hb)
  clear hb
  go_wp2
  go_ret
  exact ⟨rfl, below_end HB.out B3.out⟩

set_option maxRecDepth 100000 in
set_option maxHeartbeats 8000000 in
theorem order_gt_k (ak : Nat) (akb : ak < 256) (ai : Int) (ai0 : -9223372036854775808 ≤ ai) (ai1 : ai ≤ 9223372036854775807) (az : ByteArray) (azb : az.size ≤ 140737488351232) (bk : Nat) (bkb : bk < 256) (bi : Int) (bi0 : -9223372036854775808 ≤ bi) (bi1 : bi ≤ 9223372036854775807) (bz : ByteArray) (bzb : bz.size ≤ 140737488351232) (ck : Nat) (ckb : ck < 256) (ci : Int) (ci0 : -9223372036854775808 ≤ ci) (ci1 : ci ≤ 9223372036854775807) (cz : ByteArray) (czb : cz.size ≤ 140737488351232) (hbig : decide ((20000 : Int) < (az.size : Int) + (bz.size : Int) + (cz.size : Int)) = false) (y z : Int) (hne : ((ak : Int) == (bk : Int)) = false) (hge : decide (bk ≤ ak) = true) (hx : Val.cmp ⟨ak, ai, az⟩ ⟨bk, bi, bz⟩ = 1) (hx2 : Val.cmp ⟨bk, bi, bz⟩ ⟨ak, ai, az⟩ = -1) (hy : Val.cmp ⟨bk, bi, bz⟩ ⟨ck, ci, cz⟩ = y) (hz : Val.cmp ⟨ak, ai, az⟩ ⟨ck, ci, cz⟩ = z) (w : World) (hw : Wd w) :
    Calls Tryd.prog 5 #[.agg #[.int .u8 (ak : Int), .int .i64 ai, .string az], .agg #[.int .u8 (bk : Int), .int .i64 bi, .string bz], .agg #[.int .u8 (ck : Int), .int .i64 ci, .string cz]] w fun e w' => e = .returned (.bool true) ∧ Below w.heap.size w w' := by
  have HX := Lib.hid hx
  have HX2 := Lib.hid hx2
  have HY := Lib.hid hy
  have HZ := Lib.hid hz
  clear hx hx2 hy hz
  obtain ⟨W, hW⟩ : ∃ W, W = (((w.alloc (.cells #[.int .u8 (ak : Int), .int .i64 ai, .string az] 24)).alloc (.cells #[.int .u8 (bk : Int), .int .i64 bi, .string bz] 24)).alloc (.cells #[.int .u8 (ck : Int), .int .i64 ci, .string cz] 24)) := ⟨_, rfl⟩
  have HB : Hid (Below w.heap.size w W) := Lib.hid (by rw [hW]; exact below_n3 ..)
  have HW : Hid (Wd W) := Lib.hid (hw.kept HB.out)
  have HC : Hid (∀ w', Below W.heap.size W w' → w'.cell? ⟨w.heap.size, 0, none⟩ = some (.int .u8 (ak : Int)) ∧ w'.cell? ⟨w.heap.size, 1, none⟩ = some (.int .i64 ai) ∧ w'.cell? ⟨w.heap.size, 2, none⟩ = some (.string az) ∧ w'.cell? ⟨w.heap.size + 1, 0, none⟩ = some (.int .u8 (bk : Int)) ∧ w'.cell? ⟨w.heap.size + 1, 1, none⟩ = some (.int .i64 bi) ∧ w'.cell? ⟨w.heap.size + 1, 2, none⟩ = some (.string bz) ∧ w'.cell? ⟨w.heap.size + 1 + 1, 0, none⟩ = some (.int .u8 (ck : Int)) ∧ w'.cell? ⟨w.heap.size + 1 + 1, 1, none⟩ = some (.int .i64 ci) ∧ w'.cell? ⟨w.heap.size + 1 + 1, 2, none⟩ = some (.string cz)) := Lib.hid (fun w' h => by rw [hW] at h; exact cells_n3 h)
  clear hw
  go_enter Tryd.func5, Tryd.ntmps5
  go_wp2_with fail
  rw [← hW]
  clear hW
  refine (alive_yes W HW.out).mono ?_
  rintro e w1 ⟨rfl, hb⟩
  have B1 := Lib.hid hb
  clear hb
  obtain ⟨q00, q01, q02, q10, q11, q12, q20, q21, q22⟩ := HC.out _ B1.out
  go_wp2_with fail
  refine (long3_new _ _ _ _ _ _ az bz cz azb bzb czb _ false hbig).mono ?_
  rintro e w2 ⟨rfl, hb⟩
  have B2 := Lib.hid (below_next B1.out hb)
  clear hb
  clear q00 q01 q02 q10 q11 q12 q20 q21 q22
  obtain ⟨q00, q01, q02, q10, q11, q12, q20, q21, q22⟩ := HC.out _ B2.out
  go_wp2_with fail
  refine (cmp_is ak ai az bk bi bz 1 HX.out _).mono ?_
  rintro e w3 ⟨rfl, hb⟩
  have B3 := Lib.hid (below_next B2.out hb)
  clear hb
  clear q00 q01 q02 q10 q11 q12 q20 q21 q22
  obtain ⟨q00, q01, q02, q10, q11, q12, q20, q21, q22⟩ := HC.out _ B3.out
  go_wp2_with fail
  refine (cmp_is bk bi bz ck ci cz y HY.out _).mono ?_
  rintro e w4 ⟨rfl, hb⟩
  have B4 := Lib.hid (below_next B3.out hb)
  clear hb
  clear q00 q01 q02 q10 q11 q12 q20 q21 q22
  obtain ⟨q00, q01, q02, q10, q11, q12, q20, q21, q22⟩ := HC.out _ B4.out
  go_wp2_with fail
  refine (cmp_is ak ai az ck ci cz z HZ.out _).mono ?_
  rintro e w5 ⟨rfl, hb⟩
  have B5 := Lib.hid (below_next B4.out hb)
  clear hb
  clear q00 q01 q02 q10 q11 q12 q20 q21 q22
  obtain ⟨q00, q01, q02, q10, q11, q12, q20, q21, q22⟩ := HC.out _ B5.out
  go_wp2_with fail
  refine (cmp_is bk bi bz ak ai az (-1) HX2.out _).mono ?_
  rintro e w6 ⟨rfl, hb⟩
  have B6 := Lib.hid (below_next B5.out hb)
  clear hb
  clear q00 q01 q02 q10 q11 q12 q20 q21 q22
  obtain ⟨q00, q01, q02, q10, q11, q12, q20, q21, q22⟩ := HC.out _ B6.out
  go_wp2_with fail
  go_ret
  exact ⟨ret_bool (by first | rfl | (simp; omega)), below_end HB.out B6.out⟩

set_option maxRecDepth 100000 in
set_option maxHeartbeats 8000000 in
theorem order_lt1_k (ak : Nat) (akb : ak < 256) (ai : Int) (ai0 : -9223372036854775808 ≤ ai) (ai1 : ai ≤ 9223372036854775807) (az : ByteArray) (azb : az.size ≤ 140737488351232) (bk : Nat) (bkb : bk < 256) (bi : Int) (bi0 : -9223372036854775808 ≤ bi) (bi1 : bi ≤ 9223372036854775807) (bz : ByteArray) (bzb : bz.size ≤ 140737488351232) (ck : Nat) (ckb : ck < 256) (ci : Int) (ci0 : -9223372036854775808 ≤ ci) (ci1 : ci ≤ 9223372036854775807) (cz : ByteArray) (czb : cz.size ≤ 140737488351232) (hbig : decide ((20000 : Int) < (az.size : Int) + (bz.size : Int) + (cz.size : Int)) = false) (z : Int) (hne : ((ak : Int) == (bk : Int)) = false) (hge : decide (bk ≤ ak) = false) (hx : Val.cmp ⟨ak, ai, az⟩ ⟨bk, bi, bz⟩ = -1) (hx2 : Val.cmp ⟨bk, bi, bz⟩ ⟨ak, ai, az⟩ = 1) (hy : Val.cmp ⟨bk, bi, bz⟩ ⟨ck, ci, cz⟩ = 1) (hz : Val.cmp ⟨ak, ai, az⟩ ⟨ck, ci, cz⟩ = z) (w : World) (hw : Wd w) :
    Calls Tryd.prog 5 #[.agg #[.int .u8 (ak : Int), .int .i64 ai, .string az], .agg #[.int .u8 (bk : Int), .int .i64 bi, .string bz], .agg #[.int .u8 (ck : Int), .int .i64 ci, .string cz]] w fun e w' => e = .returned (.bool true) ∧ Below w.heap.size w w' := by
  have HX := Lib.hid hx
  have HX2 := Lib.hid hx2
  have HY := Lib.hid hy
  have HZ := Lib.hid hz
  clear hx hx2 hy hz
  obtain ⟨W, hW⟩ : ∃ W, W = (((w.alloc (.cells #[.int .u8 (ak : Int), .int .i64 ai, .string az] 24)).alloc (.cells #[.int .u8 (bk : Int), .int .i64 bi, .string bz] 24)).alloc (.cells #[.int .u8 (ck : Int), .int .i64 ci, .string cz] 24)) := ⟨_, rfl⟩
  have HB : Hid (Below w.heap.size w W) := Lib.hid (by rw [hW]; exact below_n3 ..)
  have HW : Hid (Wd W) := Lib.hid (hw.kept HB.out)
  have HC : Hid (∀ w', Below W.heap.size W w' → w'.cell? ⟨w.heap.size, 0, none⟩ = some (.int .u8 (ak : Int)) ∧ w'.cell? ⟨w.heap.size, 1, none⟩ = some (.int .i64 ai) ∧ w'.cell? ⟨w.heap.size, 2, none⟩ = some (.string az) ∧ w'.cell? ⟨w.heap.size + 1, 0, none⟩ = some (.int .u8 (bk : Int)) ∧ w'.cell? ⟨w.heap.size + 1, 1, none⟩ = some (.int .i64 bi) ∧ w'.cell? ⟨w.heap.size + 1, 2, none⟩ = some (.string bz) ∧ w'.cell? ⟨w.heap.size + 1 + 1, 0, none⟩ = some (.int .u8 (ck : Int)) ∧ w'.cell? ⟨w.heap.size + 1 + 1, 1, none⟩ = some (.int .i64 ci) ∧ w'.cell? ⟨w.heap.size + 1 + 1, 2, none⟩ = some (.string cz)) := Lib.hid (fun w' h => by rw [hW] at h; exact cells_n3 h)
  clear hw
  go_enter Tryd.func5, Tryd.ntmps5
  go_wp2_with fail
  rw [← hW]
  clear hW
  refine (alive_yes W HW.out).mono ?_
  rintro e w1 ⟨rfl, hb⟩
  have B1 := Lib.hid hb
  clear hb
  obtain ⟨q00, q01, q02, q10, q11, q12, q20, q21, q22⟩ := HC.out _ B1.out
  go_wp2_with fail
  refine (long3_new _ _ _ _ _ _ az bz cz azb bzb czb _ false hbig).mono ?_
  rintro e w2 ⟨rfl, hb⟩
  have B2 := Lib.hid (below_next B1.out hb)
  clear hb
  clear q00 q01 q02 q10 q11 q12 q20 q21 q22
  obtain ⟨q00, q01, q02, q10, q11, q12, q20, q21, q22⟩ := HC.out _ B2.out
  go_wp2_with fail
  refine (cmp_is ak ai az bk bi bz (-1) HX.out _).mono ?_
  rintro e w3 ⟨rfl, hb⟩
  have B3 := Lib.hid (below_next B2.out hb)
  clear hb
  clear q00 q01 q02 q10 q11 q12 q20 q21 q22
  obtain ⟨q00, q01, q02, q10, q11, q12, q20, q21, q22⟩ := HC.out _ B3.out
  go_wp2_with fail
  refine (cmp_is bk bi bz ck ci cz 1 HY.out _).mono ?_
  rintro e w4 ⟨rfl, hb⟩
  have B4 := Lib.hid (below_next B3.out hb)
  clear hb
  clear q00 q01 q02 q10 q11 q12 q20 q21 q22
  obtain ⟨q00, q01, q02, q10, q11, q12, q20, q21, q22⟩ := HC.out _ B4.out
  go_wp2_with fail
  refine (cmp_is ak ai az ck ci cz z HZ.out _).mono ?_
  rintro e w5 ⟨rfl, hb⟩
  have B5 := Lib.hid (below_next B4.out hb)
  clear hb
  clear q00 q01 q02 q10 q11 q12 q20 q21 q22
  obtain ⟨q00, q01, q02, q10, q11, q12, q20, q21, q22⟩ := HC.out _ B5.out
  go_wp2_with fail
  refine (cmp_is bk bi bz ak ai az 1 HX2.out _).mono ?_
  rintro e w6 ⟨rfl, hb⟩
  have B6 := Lib.hid (below_next B5.out hb)
  clear hb
  clear q00 q01 q02 q10 q11 q12 q20 q21 q22
  obtain ⟨q00, q01, q02, q10, q11, q12, q20, q21, q22⟩ := HC.out _ B6.out
  go_wp2_with fail
  go_ret
  exact ⟨ret_bool (by first | rfl | (simp; omega)), below_end HB.out B6.out⟩

set_option maxRecDepth 100000 in
set_option maxHeartbeats 8000000 in
theorem order_lt0_k (ak : Nat) (akb : ak < 256) (ai : Int) (ai0 : -9223372036854775808 ≤ ai) (ai1 : ai ≤ 9223372036854775807) (az : ByteArray) (azb : az.size ≤ 140737488351232) (bk : Nat) (bkb : bk < 256) (bi : Int) (bi0 : -9223372036854775808 ≤ bi) (bi1 : bi ≤ 9223372036854775807) (bz : ByteArray) (bzb : bz.size ≤ 140737488351232) (ck : Nat) (ckb : ck < 256) (ci : Int) (ci0 : -9223372036854775808 ≤ ci) (ci1 : ci ≤ 9223372036854775807) (cz : ByteArray) (czb : cz.size ≤ 140737488351232) (hbig : decide ((20000 : Int) < (az.size : Int) + (bz.size : Int) + (cz.size : Int)) = false) (hne : ((ak : Int) == (bk : Int)) = false) (hge : decide (bk ≤ ak) = false) (hx : Val.cmp ⟨ak, ai, az⟩ ⟨bk, bi, bz⟩ = -1) (hx2 : Val.cmp ⟨bk, bi, bz⟩ ⟨ak, ai, az⟩ = 1) (hy : Val.cmp ⟨bk, bi, bz⟩ ⟨ck, ci, cz⟩ = 0) (hz : Val.cmp ⟨ak, ai, az⟩ ⟨ck, ci, cz⟩ = -1) (w : World) (hw : Wd w) :
    Calls Tryd.prog 5 #[.agg #[.int .u8 (ak : Int), .int .i64 ai, .string az], .agg #[.int .u8 (bk : Int), .int .i64 bi, .string bz], .agg #[.int .u8 (ck : Int), .int .i64 ci, .string cz]] w fun e w' => e = .returned (.bool true) ∧ Below w.heap.size w w' := by
  have HX := Lib.hid hx
  have HX2 := Lib.hid hx2
  have HY := Lib.hid hy
  have HZ := Lib.hid hz
  clear hx hx2 hy hz
  obtain ⟨W, hW⟩ : ∃ W, W = (((w.alloc (.cells #[.int .u8 (ak : Int), .int .i64 ai, .string az] 24)).alloc (.cells #[.int .u8 (bk : Int), .int .i64 bi, .string bz] 24)).alloc (.cells #[.int .u8 (ck : Int), .int .i64 ci, .string cz] 24)) := ⟨_, rfl⟩
  have HB : Hid (Below w.heap.size w W) := Lib.hid (by rw [hW]; exact below_n3 ..)
  have HW : Hid (Wd W) := Lib.hid (hw.kept HB.out)
  have HC : Hid (∀ w', Below W.heap.size W w' → w'.cell? ⟨w.heap.size, 0, none⟩ = some (.int .u8 (ak : Int)) ∧ w'.cell? ⟨w.heap.size, 1, none⟩ = some (.int .i64 ai) ∧ w'.cell? ⟨w.heap.size, 2, none⟩ = some (.string az) ∧ w'.cell? ⟨w.heap.size + 1, 0, none⟩ = some (.int .u8 (bk : Int)) ∧ w'.cell? ⟨w.heap.size + 1, 1, none⟩ = some (.int .i64 bi) ∧ w'.cell? ⟨w.heap.size + 1, 2, none⟩ = some (.string bz) ∧ w'.cell? ⟨w.heap.size + 1 + 1, 0, none⟩ = some (.int .u8 (ck : Int)) ∧ w'.cell? ⟨w.heap.size + 1 + 1, 1, none⟩ = some (.int .i64 ci) ∧ w'.cell? ⟨w.heap.size + 1 + 1, 2, none⟩ = some (.string cz)) := Lib.hid (fun w' h => by rw [hW] at h; exact cells_n3 h)
  clear hw
  go_enter Tryd.func5, Tryd.ntmps5
  go_wp2_with fail
  rw [← hW]
  clear hW
  refine (alive_yes W HW.out).mono ?_
  rintro e w1 ⟨rfl, hb⟩
  have B1 := Lib.hid hb
  clear hb
  obtain ⟨q00, q01, q02, q10, q11, q12, q20, q21, q22⟩ := HC.out _ B1.out
  go_wp2_with fail
  refine (long3_new _ _ _ _ _ _ az bz cz azb bzb czb _ false hbig).mono ?_
  rintro e w2 ⟨rfl, hb⟩
  have B2 := Lib.hid (below_next B1.out hb)
  clear hb
  clear q00 q01 q02 q10 q11 q12 q20 q21 q22
  obtain ⟨q00, q01, q02, q10, q11, q12, q20, q21, q22⟩ := HC.out _ B2.out
  go_wp2_with fail
  refine (cmp_is ak ai az bk bi bz (-1) HX.out _).mono ?_
  rintro e w3 ⟨rfl, hb⟩
  have B3 := Lib.hid (below_next B2.out hb)
  clear hb
  clear q00 q01 q02 q10 q11 q12 q20 q21 q22
  obtain ⟨q00, q01, q02, q10, q11, q12, q20, q21, q22⟩ := HC.out _ B3.out
  go_wp2_with fail
  refine (cmp_is bk bi bz ck ci cz 0 HY.out _).mono ?_
  rintro e w4 ⟨rfl, hb⟩
  have B4 := Lib.hid (below_next B3.out hb)
  clear hb
  clear q00 q01 q02 q10 q11 q12 q20 q21 q22
  obtain ⟨q00, q01, q02, q10, q11, q12, q20, q21, q22⟩ := HC.out _ B4.out
  go_wp2_with fail
  refine (cmp_is ak ai az ck ci cz (-1) HZ.out _).mono ?_
  rintro e w5 ⟨rfl, hb⟩
  have B5 := Lib.hid (below_next B4.out hb)
  clear hb
  clear q00 q01 q02 q10 q11 q12 q20 q21 q22
  obtain ⟨q00, q01, q02, q10, q11, q12, q20, q21, q22⟩ := HC.out _ B5.out
  go_wp2_with fail
  refine (cmp_is bk bi bz ak ai az 1 HX2.out _).mono ?_
  rintro e w6 ⟨rfl, hb⟩
  have B6 := Lib.hid (below_next B5.out hb)
  clear hb
  clear q00 q01 q02 q10 q11 q12 q20 q21 q22
  obtain ⟨q00, q01, q02, q10, q11, q12, q20, q21, q22⟩ := HC.out _ B6.out
  go_wp2_with fail
  go_ret
  exact ⟨ret_bool (by first | rfl | (simp; omega)), below_end HB.out B6.out⟩

set_option maxRecDepth 100000 in
set_option maxHeartbeats 8000000 in
theorem order_lt_k (ak : Nat) (akb : ak < 256) (ai : Int) (ai0 : -9223372036854775808 ≤ ai) (ai1 : ai ≤ 9223372036854775807) (az : ByteArray) (azb : az.size ≤ 140737488351232) (bk : Nat) (bkb : bk < 256) (bi : Int) (bi0 : -9223372036854775808 ≤ bi) (bi1 : bi ≤ 9223372036854775807) (bz : ByteArray) (bzb : bz.size ≤ 140737488351232) (ck : Nat) (ckb : ck < 256) (ci : Int) (ci0 : -9223372036854775808 ≤ ci) (ci1 : ci ≤ 9223372036854775807) (cz : ByteArray) (czb : cz.size ≤ 140737488351232) (hbig : decide ((20000 : Int) < (az.size : Int) + (bz.size : Int) + (cz.size : Int)) = false) (hne : ((ak : Int) == (bk : Int)) = false) (hge : decide (bk ≤ ak) = false) (hx : Val.cmp ⟨ak, ai, az⟩ ⟨bk, bi, bz⟩ = -1) (hx2 : Val.cmp ⟨bk, bi, bz⟩ ⟨ak, ai, az⟩ = 1) (hy : Val.cmp ⟨bk, bi, bz⟩ ⟨ck, ci, cz⟩ = -1) (hz : Val.cmp ⟨ak, ai, az⟩ ⟨ck, ci, cz⟩ = -1) (w : World) (hw : Wd w) :
    Calls Tryd.prog 5 #[.agg #[.int .u8 (ak : Int), .int .i64 ai, .string az], .agg #[.int .u8 (bk : Int), .int .i64 bi, .string bz], .agg #[.int .u8 (ck : Int), .int .i64 ci, .string cz]] w fun e w' => e = .returned (.bool true) ∧ Below w.heap.size w w' := by
  have HX := Lib.hid hx
  have HX2 := Lib.hid hx2
  have HY := Lib.hid hy
  have HZ := Lib.hid hz
  clear hx hx2 hy hz
  obtain ⟨W, hW⟩ : ∃ W, W = (((w.alloc (.cells #[.int .u8 (ak : Int), .int .i64 ai, .string az] 24)).alloc (.cells #[.int .u8 (bk : Int), .int .i64 bi, .string bz] 24)).alloc (.cells #[.int .u8 (ck : Int), .int .i64 ci, .string cz] 24)) := ⟨_, rfl⟩
  have HB : Hid (Below w.heap.size w W) := Lib.hid (by rw [hW]; exact below_n3 ..)
  have HW : Hid (Wd W) := Lib.hid (hw.kept HB.out)
  have HC : Hid (∀ w', Below W.heap.size W w' → w'.cell? ⟨w.heap.size, 0, none⟩ = some (.int .u8 (ak : Int)) ∧ w'.cell? ⟨w.heap.size, 1, none⟩ = some (.int .i64 ai) ∧ w'.cell? ⟨w.heap.size, 2, none⟩ = some (.string az) ∧ w'.cell? ⟨w.heap.size + 1, 0, none⟩ = some (.int .u8 (bk : Int)) ∧ w'.cell? ⟨w.heap.size + 1, 1, none⟩ = some (.int .i64 bi) ∧ w'.cell? ⟨w.heap.size + 1, 2, none⟩ = some (.string bz) ∧ w'.cell? ⟨w.heap.size + 1 + 1, 0, none⟩ = some (.int .u8 (ck : Int)) ∧ w'.cell? ⟨w.heap.size + 1 + 1, 1, none⟩ = some (.int .i64 ci) ∧ w'.cell? ⟨w.heap.size + 1 + 1, 2, none⟩ = some (.string cz)) := Lib.hid (fun w' h => by rw [hW] at h; exact cells_n3 h)
  clear hw
  go_enter Tryd.func5, Tryd.ntmps5
  go_wp2_with fail
  rw [← hW]
  clear hW
  refine (alive_yes W HW.out).mono ?_
  rintro e w1 ⟨rfl, hb⟩
  have B1 := Lib.hid hb
  clear hb
  obtain ⟨q00, q01, q02, q10, q11, q12, q20, q21, q22⟩ := HC.out _ B1.out
  go_wp2_with fail
  refine (long3_new _ _ _ _ _ _ az bz cz azb bzb czb _ false hbig).mono ?_
  rintro e w2 ⟨rfl, hb⟩
  have B2 := Lib.hid (below_next B1.out hb)
  clear hb
  clear q00 q01 q02 q10 q11 q12 q20 q21 q22
  obtain ⟨q00, q01, q02, q10, q11, q12, q20, q21, q22⟩ := HC.out _ B2.out
  go_wp2_with fail
  refine (cmp_is ak ai az bk bi bz (-1) HX.out _).mono ?_
  rintro e w3 ⟨rfl, hb⟩
  have B3 := Lib.hid (below_next B2.out hb)
  clear hb
  clear q00 q01 q02 q10 q11 q12 q20 q21 q22
  obtain ⟨q00, q01, q02, q10, q11, q12, q20, q21, q22⟩ := HC.out _ B3.out
  go_wp2_with fail
  refine (cmp_is bk bi bz ck ci cz (-1) HY.out _).mono ?_
  rintro e w4 ⟨rfl, hb⟩
  have B4 := Lib.hid (below_next B3.out hb)
  clear hb
  clear q00 q01 q02 q10 q11 q12 q20 q21 q22
  obtain ⟨q00, q01, q02, q10, q11, q12, q20, q21, q22⟩ := HC.out _ B4.out
  go_wp2_with fail
  refine (cmp_is ak ai az ck ci cz (-1) HZ.out _).mono ?_
  rintro e w5 ⟨rfl, hb⟩
  have B5 := Lib.hid (below_next B4.out hb)
  clear hb
  clear q00 q01 q02 q10 q11 q12 q20 q21 q22
  obtain ⟨q00, q01, q02, q10, q11, q12, q20, q21, q22⟩ := HC.out _ B5.out
  go_wp2_with fail
  refine (cmp_is bk bi bz ak ai az 1 HX2.out _).mono ?_
  rintro e w6 ⟨rfl, hb⟩
  have B6 := Lib.hid (below_next B5.out hb)
  clear hb
  clear q00 q01 q02 q10 q11 q12 q20 q21 q22
  obtain ⟨q00, q01, q02, q10, q11, q12, q20, q21, q22⟩ := HC.out _ B6.out
  go_wp2_with fail
  go_ret
  exact ⟨ret_bool (by first | rfl | (simp; omega)), below_end HB.out B6.out⟩

set_option maxRecDepth 100000 in
set_option maxHeartbeats 8000000 in
theorem order_gt_i (ak : Nat) (akb : ak < 256) (ai : Int) (ai0 : -9223372036854775808 ≤ ai) (ai1 : ai ≤ 9223372036854775807) (az : ByteArray) (azb : az.size ≤ 140737488351232) (bi : Int) (bi0 : -9223372036854775808 ≤ bi) (bi1 : bi ≤ 9223372036854775807) (bz : ByteArray) (bzb : bz.size ≤ 140737488351232) (ck : Nat) (ckb : ck < 256) (ci : Int) (ci0 : -9223372036854775808 ≤ ci) (ci1 : ci ≤ 9223372036854775807) (cz : ByteArray) (czb : cz.size ≤ 140737488351232) (hbig : decide ((20000 : Int) < (az.size : Int) + (bz.size : Int) + (cz.size : Int)) = false) (y z : Int) (hne : (ai == bi) = false) (hx : Val.cmp ⟨ak, ai, az⟩ ⟨ak, bi, bz⟩ = 1) (hx2 : Val.cmp ⟨ak, bi, bz⟩ ⟨ak, ai, az⟩ = -1) (hy : Val.cmp ⟨ak, bi, bz⟩ ⟨ck, ci, cz⟩ = y) (hz : Val.cmp ⟨ak, ai, az⟩ ⟨ck, ci, cz⟩ = z) (w : World) (hw : Wd w) :
    Calls Tryd.prog 5 #[.agg #[.int .u8 (ak : Int), .int .i64 ai, .string az], .agg #[.int .u8 (ak : Int), .int .i64 bi, .string bz], .agg #[.int .u8 (ck : Int), .int .i64 ci, .string cz]] w fun e w' => e = .returned (.bool true) ∧ Below w.heap.size w w' := by
  have HX := Lib.hid hx
  have HX2 := Lib.hid hx2
  have HY := Lib.hid hy
  have HZ := Lib.hid hz
  clear hx hx2 hy hz
  obtain ⟨W, hW⟩ : ∃ W, W = (((w.alloc (.cells #[.int .u8 (ak : Int), .int .i64 ai, .string az] 24)).alloc (.cells #[.int .u8 (ak : Int), .int .i64 bi, .string bz] 24)).alloc (.cells #[.int .u8 (ck : Int), .int .i64 ci, .string cz] 24)) := ⟨_, rfl⟩
  have HB : Hid (Below w.heap.size w W) := Lib.hid (by rw [hW]; exact below_n3 ..)
  have HW : Hid (Wd W) := Lib.hid (hw.kept HB.out)
  have HC : Hid (∀ w', Below W.heap.size W w' → w'.cell? ⟨w.heap.size, 0, none⟩ = some (.int .u8 (ak : Int)) ∧ w'.cell? ⟨w.heap.size, 1, none⟩ = some (.int .i64 ai) ∧ w'.cell? ⟨w.heap.size, 2, none⟩ = some (.string az) ∧ w'.cell? ⟨w.heap.size + 1, 0, none⟩ = some (.int .u8 (ak : Int)) ∧ w'.cell? ⟨w.heap.size + 1, 1, none⟩ = some (.int .i64 bi) ∧ w'.cell? ⟨w.heap.size + 1, 2, none⟩ = some (.string bz) ∧ w'.cell? ⟨w.heap.size + 1 + 1, 0, none⟩ = some (.int .u8 (ck : Int)) ∧ w'.cell? ⟨w.heap.size + 1 + 1, 1, none⟩ = some (.int .i64 ci) ∧ w'.cell? ⟨w.heap.size + 1 + 1, 2, none⟩ = some (.string cz)) := Lib.hid (fun w' h => by rw [hW] at h; exact cells_n3 h)
  clear hw
  go_enter Tryd.func5, Tryd.ntmps5
  go_wp2_with fail
  rw [← hW]
  clear hW
  refine (alive_yes W HW.out).mono ?_
  rintro e w1 ⟨rfl, hb⟩
  have B1 := Lib.hid hb
  clear hb
  obtain ⟨q00, q01, q02, q10, q11, q12, q20, q21, q22⟩ := HC.out _ B1.out
  go_wp2_with fail
  refine (long3_new _ _ _ _ _ _ az bz cz azb bzb czb _ false hbig).mono ?_
  rintro e w2 ⟨rfl, hb⟩
  have B2 := Lib.hid (below_next B1.out hb)
  clear hb
  clear q00 q01 q02 q10 q11 q12 q20 q21 q22
  obtain ⟨q00, q01, q02, q10, q11, q12, q20, q21, q22⟩ := HC.out _ B2.out
  go_wp2_with fail
  refine (cmp_is ak ai az ak bi bz 1 HX.out _).mono ?_
  rintro e w3 ⟨rfl, hb⟩
  have B3 := Lib.hid (below_next B2.out hb)
  clear hb
  clear q00 q01 q02 q10 q11 q12 q20 q21 q22
  obtain ⟨q00, q01, q02, q10, q11, q12, q20, q21, q22⟩ := HC.out _ B3.out
  go_wp2_with fail
  refine (cmp_is ak bi bz ck ci cz y HY.out _).mono ?_
  rintro e w4 ⟨rfl, hb⟩
  have B4 := Lib.hid (below_next B3.out hb)
  clear hb
  clear q00 q01 q02 q10 q11 q12 q20 q21 q22
  obtain ⟨q00, q01, q02, q10, q11, q12, q20, q21, q22⟩ := HC.out _ B4.out
  go_wp2_with fail
  refine (cmp_is ak ai az ck ci cz z HZ.out _).mono ?_
  rintro e w5 ⟨rfl, hb⟩
  have B5 := Lib.hid (below_next B4.out hb)
  clear hb
  clear q00 q01 q02 q10 q11 q12 q20 q21 q22
  obtain ⟨q00, q01, q02, q10, q11, q12, q20, q21, q22⟩ := HC.out _ B5.out
  go_wp2_with fail
  refine (cmp_is ak bi bz ak ai az (-1) HX2.out _).mono ?_
  rintro e w6 ⟨rfl, hb⟩
  have B6 := Lib.hid (below_next B5.out hb)
  clear hb
  clear q00 q01 q02 q10 q11 q12 q20 q21 q22
  obtain ⟨q00, q01, q02, q10, q11, q12, q20, q21, q22⟩ := HC.out _ B6.out
  go_wp2_with fail
  go_ret
  exact ⟨ret_bool (by first | rfl | (simp; omega)), below_end HB.out B6.out⟩

set_option maxRecDepth 100000 in
set_option maxHeartbeats 8000000 in
theorem order_lt1_i (ak : Nat) (akb : ak < 256) (ai : Int) (ai0 : -9223372036854775808 ≤ ai) (ai1 : ai ≤ 9223372036854775807) (az : ByteArray) (azb : az.size ≤ 140737488351232) (bi : Int) (bi0 : -9223372036854775808 ≤ bi) (bi1 : bi ≤ 9223372036854775807) (bz : ByteArray) (bzb : bz.size ≤ 140737488351232) (ck : Nat) (ckb : ck < 256) (ci : Int) (ci0 : -9223372036854775808 ≤ ci) (ci1 : ci ≤ 9223372036854775807) (cz : ByteArray) (czb : cz.size ≤ 140737488351232) (hbig : decide ((20000 : Int) < (az.size : Int) + (bz.size : Int) + (cz.size : Int)) = false) (z : Int) (hne : (ai == bi) = false) (hx : Val.cmp ⟨ak, ai, az⟩ ⟨ak, bi, bz⟩ = -1) (hx2 : Val.cmp ⟨ak, bi, bz⟩ ⟨ak, ai, az⟩ = 1) (hy : Val.cmp ⟨ak, bi, bz⟩ ⟨ck, ci, cz⟩ = 1) (hz : Val.cmp ⟨ak, ai, az⟩ ⟨ck, ci, cz⟩ = z) (w : World) (hw : Wd w) :
    Calls Tryd.prog 5 #[.agg #[.int .u8 (ak : Int), .int .i64 ai, .string az], .agg #[.int .u8 (ak : Int), .int .i64 bi, .string bz], .agg #[.int .u8 (ck : Int), .int .i64 ci, .string cz]] w fun e w' => e = .returned (.bool true) ∧ Below w.heap.size w w' := by
  have HX := Lib.hid hx
  have HX2 := Lib.hid hx2
  have HY := Lib.hid hy
  have HZ := Lib.hid hz
  clear hx hx2 hy hz
  obtain ⟨W, hW⟩ : ∃ W, W = (((w.alloc (.cells #[.int .u8 (ak : Int), .int .i64 ai, .string az] 24)).alloc (.cells #[.int .u8 (ak : Int), .int .i64 bi, .string bz] 24)).alloc (.cells #[.int .u8 (ck : Int), .int .i64 ci, .string cz] 24)) := ⟨_, rfl⟩
  have HB : Hid (Below w.heap.size w W) := Lib.hid (by rw [hW]; exact below_n3 ..)
  have HW : Hid (Wd W) := Lib.hid (hw.kept HB.out)
  have HC : Hid (∀ w', Below W.heap.size W w' → w'.cell? ⟨w.heap.size, 0, none⟩ = some (.int .u8 (ak : Int)) ∧ w'.cell? ⟨w.heap.size, 1, none⟩ = some (.int .i64 ai) ∧ w'.cell? ⟨w.heap.size, 2, none⟩ = some (.string az) ∧ w'.cell? ⟨w.heap.size + 1, 0, none⟩ = some (.int .u8 (ak : Int)) ∧ w'.cell? ⟨w.heap.size + 1, 1, none⟩ = some (.int .i64 bi) ∧ w'.cell? ⟨w.heap.size + 1, 2, none⟩ = some (.string bz) ∧ w'.cell? ⟨w.heap.size + 1 + 1, 0, none⟩ = some (.int .u8 (ck : Int)) ∧ w'.cell? ⟨w.heap.size + 1 + 1, 1, none⟩ = some (.int .i64 ci) ∧ w'.cell? ⟨w.heap.size + 1 + 1, 2, none⟩ = some (.string cz)) := Lib.hid (fun w' h => by rw [hW] at h; exact cells_n3 h)
  clear hw
  go_enter Tryd.func5, Tryd.ntmps5
  go_wp2_with fail
  rw [← hW]
  clear hW
  refine (alive_yes W HW.out).mono ?_
  rintro e w1 ⟨rfl, hb⟩
  have B1 := Lib.hid hb
  clear hb
  obtain ⟨q00, q01, q02, q10, q11, q12, q20, q21, q22⟩ := HC.out _ B1.out
  go_wp2_with fail
  refine (long3_new _ _ _ _ _ _ az bz cz azb bzb czb _ false hbig).mono ?_
  rintro e w2 ⟨rfl, hb⟩
  have B2 := Lib.hid (below_next B1.out hb)
  clear hb
  clear q00 q01 q02 q10 q11 q12 q20 q21 q22
  obtain ⟨q00, q01, q02, q10, q11, q12, q20, q21, q22⟩ := HC.out _ B2.out
  go_wp2_with fail
  refine (cmp_is ak ai az ak bi bz (-1) HX.out _).mono ?_
  rintro e w3 ⟨rfl, hb⟩
  have B3 := Lib.hid (below_next B2.out hb)
  clear hb
  clear q00 q01 q02 q10 q11 q12 q20 q21 q22
  obtain ⟨q00, q01, q02, q10, q11, q12, q20, q21, q22⟩ := HC.out _ B3.out
  go_wp2_with fail
  refine (cmp_is ak bi bz ck ci cz 1 HY.out _).mono ?_
  rintro e w4 ⟨rfl, hb⟩
  have B4 := Lib.hid (below_next B3.out hb)
  clear hb
  clear q00 q01 q02 q10 q11 q12 q20 q21 q22
  obtain ⟨q00, q01, q02, q10, q11, q12, q20, q21, q22⟩ := HC.out _ B4.out
  go_wp2_with fail
  refine (cmp_is ak ai az ck ci cz z HZ.out _).mono ?_
  rintro e w5 ⟨rfl, hb⟩
  have B5 := Lib.hid (below_next B4.out hb)
  clear hb
  clear q00 q01 q02 q10 q11 q12 q20 q21 q22
  obtain ⟨q00, q01, q02, q10, q11, q12, q20, q21, q22⟩ := HC.out _ B5.out
  go_wp2_with fail
  refine (cmp_is ak bi bz ak ai az 1 HX2.out _).mono ?_
  rintro e w6 ⟨rfl, hb⟩
  have B6 := Lib.hid (below_next B5.out hb)
  clear hb
  clear q00 q01 q02 q10 q11 q12 q20 q21 q22
  obtain ⟨q00, q01, q02, q10, q11, q12, q20, q21, q22⟩ := HC.out _ B6.out
  go_wp2_with fail
  go_ret
  exact ⟨ret_bool (by first | rfl | (simp; omega)), below_end HB.out B6.out⟩

set_option maxRecDepth 100000 in
set_option maxHeartbeats 8000000 in
theorem order_lt0_i (ak : Nat) (akb : ak < 256) (ai : Int) (ai0 : -9223372036854775808 ≤ ai) (ai1 : ai ≤ 9223372036854775807) (az : ByteArray) (azb : az.size ≤ 140737488351232) (bi : Int) (bi0 : -9223372036854775808 ≤ bi) (bi1 : bi ≤ 9223372036854775807) (bz : ByteArray) (bzb : bz.size ≤ 140737488351232) (ck : Nat) (ckb : ck < 256) (ci : Int) (ci0 : -9223372036854775808 ≤ ci) (ci1 : ci ≤ 9223372036854775807) (cz : ByteArray) (czb : cz.size ≤ 140737488351232) (hbig : decide ((20000 : Int) < (az.size : Int) + (bz.size : Int) + (cz.size : Int)) = false) (hne : (ai == bi) = false) (hx : Val.cmp ⟨ak, ai, az⟩ ⟨ak, bi, bz⟩ = -1) (hx2 : Val.cmp ⟨ak, bi, bz⟩ ⟨ak, ai, az⟩ = 1) (hy : Val.cmp ⟨ak, bi, bz⟩ ⟨ck, ci, cz⟩ = 0) (hz : Val.cmp ⟨ak, ai, az⟩ ⟨ck, ci, cz⟩ = -1) (w : World) (hw : Wd w) :
    Calls Tryd.prog 5 #[.agg #[.int .u8 (ak : Int), .int .i64 ai, .string az], .agg #[.int .u8 (ak : Int), .int .i64 bi, .string bz], .agg #[.int .u8 (ck : Int), .int .i64 ci, .string cz]] w fun e w' => e = .returned (.bool true) ∧ Below w.heap.size w w' := by
  have HX := Lib.hid hx
  have HX2 := Lib.hid hx2
  have HY := Lib.hid hy
  have HZ := Lib.hid hz
  clear hx hx2 hy hz
  obtain ⟨W, hW⟩ : ∃ W, W = (((w.alloc (.cells #[.int .u8 (ak : Int), .int .i64 ai, .string az] 24)).alloc (.cells #[.int .u8 (ak : Int), .int .i64 bi, .string bz] 24)).alloc (.cells #[.int .u8 (ck : Int), .int .i64 ci, .string cz] 24)) := ⟨_, rfl⟩
  have HB : Hid (Below w.heap.size w W) := Lib.hid (by rw [hW]; exact below_n3 ..)
  have HW : Hid (Wd W) := Lib.hid (hw.kept HB.out)
  have HC : Hid (∀ w', Below W.heap.size W w' → w'.cell? ⟨w.heap.size, 0, none⟩ = some (.int .u8 (ak : Int)) ∧ w'.cell? ⟨w.heap.size, 1, none⟩ = some (.int .i64 ai) ∧ w'.cell? ⟨w.heap.size, 2, none⟩ = some (.string az) ∧ w'.cell? ⟨w.heap.size + 1, 0, none⟩ = some (.int .u8 (ak : Int)) ∧ w'.cell? ⟨w.heap.size + 1, 1, none⟩ = some (.int .i64 bi) ∧ w'.cell? ⟨w.heap.size + 1, 2, none⟩ = some (.string bz) ∧ w'.cell? ⟨w.heap.size + 1 + 1, 0, none⟩ = some (.int .u8 (ck : Int)) ∧ w'.cell? ⟨w.heap.size + 1 + 1, 1, none⟩ = some (.int .i64 ci) ∧ w'.cell? ⟨w.heap.size + 1 + 1, 2, none⟩ = some (.string cz)) := Lib.hid (fun w' h => by rw [hW] at h; exact cells_n3 h)
  clear hw
  go_enter Tryd.func5, Tryd.ntmps5
  go_wp2_with fail
  rw [← hW]
  clear hW
  refine (alive_yes W HW.out).mono ?_
  rintro e w1 ⟨rfl, hb⟩
  have B1 := Lib.hid hb
  clear hb
  obtain ⟨q00, q01, q02, q10, q11, q12, q20, q21, q22⟩ := HC.out _ B1.out
  go_wp2_with fail
  refine (long3_new _ _ _ _ _ _ az bz cz azb bzb czb _ false hbig).mono ?_
  rintro e w2 ⟨rfl, hb⟩
  have B2 := Lib.hid (below_next B1.out hb)
  clear hb
  clear q00 q01 q02 q10 q11 q12 q20 q21 q22
  obtain ⟨q00, q01, q02, q10, q11, q12, q20, q21, q22⟩ := HC.out _ B2.out
  go_wp2_with fail
  refine (cmp_is ak ai az ak bi bz (-1) HX.out _).mono ?_
  rintro e w3 ⟨rfl, hb⟩
  have B3 := Lib.hid (below_next B2.out hb)
  clear hb
  clear q00 q01 q02 q10 q11 q12 q20 q21 q22
  obtain ⟨q00, q01, q02, q10, q11, q12, q20, q21, q22⟩ := HC.out _ B3.out
  go_wp2_with fail
  refine (cmp_is ak bi bz ck ci cz 0 HY.out _).mono ?_
  rintro e w4 ⟨rfl, hb⟩
  have B4 := Lib.hid (below_next B3.out hb)
  clear hb
  clear q00 q01 q02 q10 q11 q12 q20 q21 q22
  obtain ⟨q00, q01, q02, q10, q11, q12, q20, q21, q22⟩ := HC.out _ B4.out
  go_wp2_with fail
  refine (cmp_is ak ai az ck ci cz (-1) HZ.out _).mono ?_
  rintro e w5 ⟨rfl, hb⟩
  have B5 := Lib.hid (below_next B4.out hb)
  clear hb
  clear q00 q01 q02 q10 q11 q12 q20 q21 q22
  obtain ⟨q00, q01, q02, q10, q11, q12, q20, q21, q22⟩ := HC.out _ B5.out
  go_wp2_with fail
  refine (cmp_is ak bi bz ak ai az 1 HX2.out _).mono ?_
  rintro e w6 ⟨rfl, hb⟩
  have B6 := Lib.hid (below_next B5.out hb)
  clear hb
  clear q00 q01 q02 q10 q11 q12 q20 q21 q22
  obtain ⟨q00, q01, q02, q10, q11, q12, q20, q21, q22⟩ := HC.out _ B6.out
  go_wp2_with fail
  go_ret
  exact ⟨ret_bool (by first | rfl | (simp; omega)), below_end HB.out B6.out⟩

set_option maxRecDepth 100000 in
set_option maxHeartbeats 8000000 in
theorem order_lt_i (ak : Nat) (akb : ak < 256) (ai : Int) (ai0 : -9223372036854775808 ≤ ai) (ai1 : ai ≤ 9223372036854775807) (az : ByteArray) (azb : az.size ≤ 140737488351232) (bi : Int) (bi0 : -9223372036854775808 ≤ bi) (bi1 : bi ≤ 9223372036854775807) (bz : ByteArray) (bzb : bz.size ≤ 140737488351232) (ck : Nat) (ckb : ck < 256) (ci : Int) (ci0 : -9223372036854775808 ≤ ci) (ci1 : ci ≤ 9223372036854775807) (cz : ByteArray) (czb : cz.size ≤ 140737488351232) (hbig : decide ((20000 : Int) < (az.size : Int) + (bz.size : Int) + (cz.size : Int)) = false) (hne : (ai == bi) = false) (hx : Val.cmp ⟨ak, ai, az⟩ ⟨ak, bi, bz⟩ = -1) (hx2 : Val.cmp ⟨ak, bi, bz⟩ ⟨ak, ai, az⟩ = 1) (hy : Val.cmp ⟨ak, bi, bz⟩ ⟨ck, ci, cz⟩ = -1) (hz : Val.cmp ⟨ak, ai, az⟩ ⟨ck, ci, cz⟩ = -1) (w : World) (hw : Wd w) :
    Calls Tryd.prog 5 #[.agg #[.int .u8 (ak : Int), .int .i64 ai, .string az], .agg #[.int .u8 (ak : Int), .int .i64 bi, .string bz], .agg #[.int .u8 (ck : Int), .int .i64 ci, .string cz]] w fun e w' => e = .returned (.bool true) ∧ Below w.heap.size w w' := by
  have HX := Lib.hid hx
  have HX2 := Lib.hid hx2
  have HY := Lib.hid hy
  have HZ := Lib.hid hz
  clear hx hx2 hy hz
  obtain ⟨W, hW⟩ : ∃ W, W = (((w.alloc (.cells #[.int .u8 (ak : Int), .int .i64 ai, .string az] 24)).alloc (.cells #[.int .u8 (ak : Int), .int .i64 bi, .string bz] 24)).alloc (.cells #[.int .u8 (ck : Int), .int .i64 ci, .string cz] 24)) := ⟨_, rfl⟩
  have HB : Hid (Below w.heap.size w W) := Lib.hid (by rw [hW]; exact below_n3 ..)
  have HW : Hid (Wd W) := Lib.hid (hw.kept HB.out)
  have HC : Hid (∀ w', Below W.heap.size W w' → w'.cell? ⟨w.heap.size, 0, none⟩ = some (.int .u8 (ak : Int)) ∧ w'.cell? ⟨w.heap.size, 1, none⟩ = some (.int .i64 ai) ∧ w'.cell? ⟨w.heap.size, 2, none⟩ = some (.string az) ∧ w'.cell? ⟨w.heap.size + 1, 0, none⟩ = some (.int .u8 (ak : Int)) ∧ w'.cell? ⟨w.heap.size + 1, 1, none⟩ = some (.int .i64 bi) ∧ w'.cell? ⟨w.heap.size + 1, 2, none⟩ = some (.string bz) ∧ w'.cell? ⟨w.heap.size + 1 + 1, 0, none⟩ = some (.int .u8 (ck : Int)) ∧ w'.cell? ⟨w.heap.size + 1 + 1, 1, none⟩ = some (.int .i64 ci) ∧ w'.cell? ⟨w.heap.size + 1 + 1, 2, none⟩ = some (.string cz)) := Lib.hid (fun w' h => by rw [hW] at h; exact cells_n3 h)
  clear hw
  go_enter Tryd.func5, Tryd.ntmps5
  go_wp2_with fail
  rw [← hW]
  clear hW
  refine (alive_yes W HW.out).mono ?_
  rintro e w1 ⟨rfl, hb⟩
  have B1 := Lib.hid hb
  clear hb
  obtain ⟨q00, q01, q02, q10, q11, q12, q20, q21, q22⟩ := HC.out _ B1.out
  go_wp2_with fail
  refine (long3_new _ _ _ _ _ _ az bz cz azb bzb czb _ false hbig).mono ?_
  rintro e w2 ⟨rfl, hb⟩
  have B2 := Lib.hid (below_next B1.out hb)
  clear hb
  clear q00 q01 q02 q10 q11 q12 q20 q21 q22
  obtain ⟨q00, q01, q02, q10, q11, q12, q20, q21, q22⟩ := HC.out _ B2.out
  go_wp2_with fail
  refine (cmp_is ak ai az ak bi bz (-1) HX.out _).mono ?_
  rintro e w3 ⟨rfl, hb⟩
  have B3 := Lib.hid (below_next B2.out hb)
  clear hb
  clear q00 q01 q02 q10 q11 q12 q20 q21 q22
  obtain ⟨q00, q01, q02, q10, q11, q12, q20, q21, q22⟩ := HC.out _ B3.out
  go_wp2_with fail
  refine (cmp_is ak bi bz ck ci cz (-1) HY.out _).mono ?_
  rintro e w4 ⟨rfl, hb⟩
  have B4 := Lib.hid (below_next B3.out hb)
  clear hb
  clear q00 q01 q02 q10 q11 q12 q20 q21 q22
  obtain ⟨q00, q01, q02, q10, q11, q12, q20, q21, q22⟩ := HC.out _ B4.out
  go_wp2_with fail
  refine (cmp_is ak ai az ck ci cz (-1) HZ.out _).mono ?_
  rintro e w5 ⟨rfl, hb⟩
  have B5 := Lib.hid (below_next B4.out hb)
  clear hb
  clear q00 q01 q02 q10 q11 q12 q20 q21 q22
  obtain ⟨q00, q01, q02, q10, q11, q12, q20, q21, q22⟩ := HC.out _ B5.out
  go_wp2_with fail
  refine (cmp_is ak bi bz ak ai az 1 HX2.out _).mono ?_
  rintro e w6 ⟨rfl, hb⟩
  have B6 := Lib.hid (below_next B5.out hb)
  clear hb
  clear q00 q01 q02 q10 q11 q12 q20 q21 q22
  obtain ⟨q00, q01, q02, q10, q11, q12, q20, q21, q22⟩ := HC.out _ B6.out
  go_wp2_with fail
  go_ret
  exact ⟨ret_bool (by first | rfl | (simp; omega)), below_end HB.out B6.out⟩

set_option maxRecDepth 100000 in
set_option maxHeartbeats 8000000 in
theorem order_gt_z (ak : Nat) (akb : ak < 256) (ai : Int) (ai0 : -9223372036854775808 ≤ ai) (ai1 : ai ≤ 9223372036854775807) (az : ByteArray) (azb : az.size ≤ 140737488351232) (bz : ByteArray) (bzb : bz.size ≤ 140737488351232) (ck : Nat) (ckb : ck < 256) (ci : Int) (ci0 : -9223372036854775808 ≤ ci) (ci1 : ci ≤ 9223372036854775807) (cz : ByteArray) (czb : cz.size ≤ 140737488351232) (hbig : decide ((20000 : Int) < (az.size : Int) + (bz.size : Int) + (cz.size : Int)) = false) (y z : Int) (hne : (az.toList == bz.toList) = false) (hx : Val.cmp ⟨ak, ai, az⟩ ⟨ak, ai, bz⟩ = 1) (hx2 : Val.cmp ⟨ak, ai, bz⟩ ⟨ak, ai, az⟩ = -1) (hy : Val.cmp ⟨ak, ai, bz⟩ ⟨ck, ci, cz⟩ = y) (hz : Val.cmp ⟨ak, ai, az⟩ ⟨ck, ci, cz⟩ = z) (w : World) (hw : Wd w) :
    Calls Tryd.prog 5 #[.agg #[.int .u8 (ak : Int), .int .i64 ai, .string az], .agg #[.int .u8 (ak : Int), .int .i64 ai, .string bz], .agg #[.int .u8 (ck : Int), .int .i64 ci, .string cz]] w fun e w' => e = .returned (.bool true) ∧ Below w.heap.size w w' := by
  have HX := Lib.hid hx
  have HX2 := Lib.hid hx2
  have HY := Lib.hid hy
  have HZ := Lib.hid hz
  clear hx hx2 hy hz
  obtain ⟨W, hW⟩ : ∃ W, W = (((w.alloc (.cells #[.int .u8 (ak : Int), .int .i64 ai, .string az] 24)).alloc (.cells #[.int .u8 (ak : Int), .int .i64 ai, .string bz] 24)).alloc (.cells #[.int .u8 (ck : Int), .int .i64 ci, .string cz] 24)) := ⟨_, rfl⟩
  have HB : Hid (Below w.heap.size w W) := Lib.hid (by rw [hW]; exact below_n3 ..)
  have HW : Hid (Wd W) := Lib.hid (hw.kept HB.out)
  have HC : Hid (∀ w', Below W.heap.size W w' → w'.cell? ⟨w.heap.size, 0, none⟩ = some (.int .u8 (ak : Int)) ∧ w'.cell? ⟨w.heap.size, 1, none⟩ = some (.int .i64 ai) ∧ w'.cell? ⟨w.heap.size, 2, none⟩ = some (.string az) ∧ w'.cell? ⟨w.heap.size + 1, 0, none⟩ = some (.int .u8 (ak : Int)) ∧ w'.cell? ⟨w.heap.size + 1, 1, none⟩ = some (.int .i64 ai) ∧ w'.cell? ⟨w.heap.size + 1, 2, none⟩ = some (.string bz) ∧ w'.cell? ⟨w.heap.size + 1 + 1, 0, none⟩ = some (.int .u8 (ck : Int)) ∧ w'.cell? ⟨w.heap.size + 1 + 1, 1, none⟩ = some (.int .i64 ci) ∧ w'.cell? ⟨w.heap.size + 1 + 1, 2, none⟩ = some (.string cz)) := Lib.hid (fun w' h => by rw [hW] at h; exact cells_n3 h)
  clear hw
  go_enter Tryd.func5, Tryd.ntmps5
  go_wp2_with fail
  rw [← hW]
  clear hW
  refine (alive_yes W HW.out).mono ?_
  rintro e w1 ⟨rfl, hb⟩
  have B1 := Lib.hid hb
  clear hb
  obtain ⟨q00, q01, q02, q10, q11, q12, q20, q21, q22⟩ := HC.out _ B1.out
  go_wp2_with fail
  refine (long3_new _ _ _ _ _ _ az bz cz azb bzb czb _ false hbig).mono ?_
  rintro e w2 ⟨rfl, hb⟩
  have B2 := Lib.hid (below_next B1.out hb)
  clear hb
  clear q00 q01 q02 q10 q11 q12 q20 q21 q22
  obtain ⟨q00, q01, q02, q10, q11, q12, q20, q21, q22⟩ := HC.out _ B2.out
  go_wp2_with fail
  refine (cmp_is ak ai az ak ai bz 1 HX.out _).mono ?_
  rintro e w3 ⟨rfl, hb⟩
  have B3 := Lib.hid (below_next B2.out hb)
  clear hb
  clear q00 q01 q02 q10 q11 q12 q20 q21 q22
  obtain ⟨q00, q01, q02, q10, q11, q12, q20, q21, q22⟩ := HC.out _ B3.out
  go_wp2_with fail
  refine (cmp_is ak ai bz ck ci cz y HY.out _).mono ?_
  rintro e w4 ⟨rfl, hb⟩
  have B4 := Lib.hid (below_next B3.out hb)
  clear hb
  clear q00 q01 q02 q10 q11 q12 q20 q21 q22
  obtain ⟨q00, q01, q02, q10, q11, q12, q20, q21, q22⟩ := HC.out _ B4.out
  go_wp2_with fail
  refine (cmp_is ak ai az ck ci cz z HZ.out _).mono ?_
  rintro e w5 ⟨rfl, hb⟩
  have B5 := Lib.hid (below_next B4.out hb)
  clear hb
  clear q00 q01 q02 q10 q11 q12 q20 q21 q22
  obtain ⟨q00, q01, q02, q10, q11, q12, q20, q21, q22⟩ := HC.out _ B5.out
  go_wp2_with fail
  refine (cmp_is ak ai bz ak ai az (-1) HX2.out _).mono ?_
  rintro e w6 ⟨rfl, hb⟩
  have B6 := Lib.hid (below_next B5.out hb)
  clear hb
  clear q00 q01 q02 q10 q11 q12 q20 q21 q22
  obtain ⟨q00, q01, q02, q10, q11, q12, q20, q21, q22⟩ := HC.out _ B6.out
  go_wp2_with fail
  go_ret
  exact ⟨ret_bool (by first | rfl | (simp; omega)), below_end HB.out B6.out⟩

set_option maxRecDepth 100000 in
set_option maxHeartbeats 8000000 in
theorem order_lt1_z (ak : Nat) (akb : ak < 256) (ai : Int) (ai0 : -9223372036854775808 ≤ ai) (ai1 : ai ≤ 9223372036854775807) (az : ByteArray) (azb : az.size ≤ 140737488351232) (bz : ByteArray) (bzb : bz.size ≤ 140737488351232) (ck : Nat) (ckb : ck < 256) (ci : Int) (ci0 : -9223372036854775808 ≤ ci) (ci1 : ci ≤ 9223372036854775807) (cz : ByteArray) (czb : cz.size ≤ 140737488351232) (hbig : decide ((20000 : Int) < (az.size : Int) + (bz.size : Int) + (cz.size : Int)) = false) (z : Int) (hne : (az.toList == bz.toList) = false) (hx : Val.cmp ⟨ak, ai, az⟩ ⟨ak, ai, bz⟩ = -1) (hx2 : Val.cmp ⟨ak, ai, bz⟩ ⟨ak, ai, az⟩ = 1) (hy : Val.cmp ⟨ak, ai, bz⟩ ⟨ck, ci, cz⟩ = 1) (hz : Val.cmp ⟨ak, ai, az⟩ ⟨ck, ci, cz⟩ = z) (w : World) (hw : Wd w) :
    Calls Tryd.prog 5 #[.agg #[.int .u8 (ak : Int), .int .i64 ai, .string az], .agg #[.int .u8 (ak : Int), .int .i64 ai, .string bz], .agg #[.int .u8 (ck : Int), .int .i64 ci, .string cz]] w fun e w' => e = .returned (.bool true) ∧ Below w.heap.size w w' := by
  have HX := Lib.hid hx
  have HX2 := Lib.hid hx2
  have HY := Lib.hid hy
  have HZ := Lib.hid hz
  clear hx hx2 hy hz
  obtain ⟨W, hW⟩ : ∃ W, W = (((w.alloc (.cells #[.int .u8 (ak : Int), .int .i64 ai, .string az] 24)).alloc (.cells #[.int .u8 (ak : Int), .int .i64 ai, .string bz] 24)).alloc (.cells #[.int .u8 (ck : Int), .int .i64 ci, .string cz] 24)) := ⟨_, rfl⟩
  have HB : Hid (Below w.heap.size w W) := Lib.hid (by rw [hW]; exact below_n3 ..)
  have HW : Hid (Wd W) := Lib.hid (hw.kept HB.out)
  have HC : Hid (∀ w', Below W.heap.size W w' → w'.cell? ⟨w.heap.size, 0, none⟩ = some (.int .u8 (ak : Int)) ∧ w'.cell? ⟨w.heap.size, 1, none⟩ = some (.int .i64 ai) ∧ w'.cell? ⟨w.heap.size, 2, none⟩ = some (.string az) ∧ w'.cell? ⟨w.heap.size + 1, 0, none⟩ = some (.int .u8 (ak : Int)) ∧ w'.cell? ⟨w.heap.size + 1, 1, none⟩ = some (.int .i64 ai) ∧ w'.cell? ⟨w.heap.size + 1, 2, none⟩ = some (.string bz) ∧ w'.cell? ⟨w.heap.size + 1 + 1, 0, none⟩ = some (.int .u8 (ck : Int)) ∧ w'.cell? ⟨w.heap.size + 1 + 1, 1, none⟩ = some (.int .i64 ci) ∧ w'.cell? ⟨w.heap.size + 1 + 1, 2, none⟩ = some (.string cz)) := Lib.hid (fun w' h => by rw [hW] at h; exact cells_n3 h)
  clear hw
  go_enter Tryd.func5, Tryd.ntmps5
  go_wp2_with fail
  rw [← hW]
  clear hW
  refine (alive_yes W HW.out).mono ?_
  rintro e w1 ⟨rfl, hb⟩
  have B1 := Lib.hid hb
  clear hb
  obtain ⟨q00, q01, q02, q10, q11, q12, q20, q21, q22⟩ := HC.out _ B1.out
  go_wp2_with fail
  refine (long3_new _ _ _ _ _ _ az bz cz azb bzb czb _ false hbig).mono ?_
  rintro e w2 ⟨rfl, hb⟩
  have B2 := Lib.hid (below_next B1.out hb)
  clear hb
  clear q00 q01 q02 q10 q11 q12 q20 q21 q22
  obtain ⟨q00, q01, q02, q10, q11, q12, q20, q21, q22⟩ := HC.out _ B2.out
  go_wp2_with fail
  refine (cmp_is ak ai az ak ai bz (-1) HX.out _).mono ?_
  rintro e w3 ⟨rfl, hb⟩
  have B3 := Lib.hid (below_next B2.out hb)
  clear hb
  clear q00 q01 q02 q10 q11 q12 q20 q21 q22
  obtain ⟨q00, q01, q02, q10, q11, q12, q20, q21, q22⟩ := HC.out _ B3.out
  go_wp2_with fail
  refine (cmp_is ak ai bz ck ci cz 1 HY.out _).mono ?_
  rintro e w4 ⟨rfl, hb⟩
  have B4 := Lib.hid (below_next B3.out hb)
  clear hb
  clear q00 q01 q02 q10 q11 q12 q20 q21 q22
  obtain ⟨q00, q01, q02, q10, q11, q12, q20, q21, q22⟩ := HC.out _ B4.out
  go_wp2_with fail
  refine (cmp_is ak ai az ck ci cz z HZ.out _).mono ?_
  rintro e w5 ⟨rfl, hb⟩
  have B5 := Lib.hid (below_next B4.out hb)
  clear hb
  clear q00 q01 q02 q10 q11 q12 q20 q21 q22
  obtain ⟨q00, q01, q02, q10, q11, q12, q20, q21, q22⟩ := HC.out _ B5.out
  go_wp2_with fail
  refine (cmp_is ak ai bz ak ai az 1 HX2.out _).mono ?_
  rintro e w6 ⟨rfl, hb⟩
  have B6 := Lib.hid (below_next B5.out hb)
  clear hb
  clear q00 q01 q02 q10 q11 q12 q20 q21 q22
  obtain ⟨q00, q01, q02, q10, q11, q12, q20, q21, q22⟩ := HC.out _ B6.out
  go_wp2_with fail
  go_ret
  exact ⟨ret_bool (by first | rfl | (simp; omega)), below_end HB.out B6.out⟩

set_option maxRecDepth 100000 in
set_option maxHeartbeats 8000000 in
theorem order_lt0_z (ak : Nat) (akb : ak < 256) (ai : Int) (ai0 : -9223372036854775808 ≤ ai) (ai1 : ai ≤ 9223372036854775807) (az : ByteArray) (azb : az.size ≤ 140737488351232) (bz : ByteArray) (bzb : bz.size ≤ 140737488351232) (ck : Nat) (ckb : ck < 256) (ci : Int) (ci0 : -9223372036854775808 ≤ ci) (ci1 : ci ≤ 9223372036854775807) (cz : ByteArray) (czb : cz.size ≤ 140737488351232) (hbig : decide ((20000 : Int) < (az.size : Int) + (bz.size : Int) + (cz.size : Int)) = false) (hne : (az.toList == bz.toList) = false) (hx : Val.cmp ⟨ak, ai, az⟩ ⟨ak, ai, bz⟩ = -1) (hx2 : Val.cmp ⟨ak, ai, bz⟩ ⟨ak, ai, az⟩ = 1) (hy : Val.cmp ⟨ak, ai, bz⟩ ⟨ck, ci, cz⟩ = 0) (hz : Val.cmp ⟨ak, ai, az⟩ ⟨ck, ci, cz⟩ = -1) (w : World) (hw : Wd w) :
    Calls Tryd.prog 5 #[.agg #[.int .u8 (ak : Int), .int .i64 ai, .string az], .agg #[.int .u8 (ak : Int), .int .i64 ai, .string bz], .agg #[.int .u8 (ck : Int), .int .i64 ci, .string cz]] w fun e w' => e = .returned (.bool true) ∧ Below w.heap.size w w' := by
  have HX := Lib.hid hx
  have HX2 := Lib.hid hx2
  have HY := Lib.hid hy
  have HZ := Lib.hid hz
  clear hx hx2 hy hz
  obtain ⟨W, hW⟩ : ∃ W, W = (((w.alloc (.cells #[.int .u8 (ak : Int), .int .i64 ai, .string az] 24)).alloc (.cells #[.int .u8 (ak : Int), .int .i64 ai, .string bz] 24)).alloc (.cells #[.int .u8 (ck : Int), .int .i64 ci, .string cz] 24)) := ⟨_, rfl⟩
  have HB : Hid (Below w.heap.size w W) := Lib.hid (by rw [hW]; exact below_n3 ..)
  have HW : Hid (Wd W) := Lib.hid (hw.kept HB.out)
  have HC : Hid (∀ w', Below W.heap.size W w' → w'.cell? ⟨w.heap.size, 0, none⟩ = some (.int .u8 (ak : Int)) ∧ w'.cell? ⟨w.heap.size, 1, none⟩ = some (.int .i64 ai) ∧ w'.cell? ⟨w.heap.size, 2, none⟩ = some (.string az) ∧ w'.cell? ⟨w.heap.size + 1, 0, none⟩ = some (.int .u8 (ak : Int)) ∧ w'.cell? ⟨w.heap.size + 1, 1, none⟩ = some (.int .i64 ai) ∧ w'.cell? ⟨w.heap.size + 1, 2, none⟩ = some (.string bz) ∧ w'.cell? ⟨w.heap.size + 1 + 1, 0, none⟩ = some (.int .u8 (ck : Int)) ∧ w'.cell? ⟨w.heap.size + 1 + 1, 1, none⟩ = some (.int .i64 ci) ∧ w'.cell? ⟨w.heap.size + 1 + 1, 2, none⟩ = some (.string cz)) := Lib.hid (fun w' h => by rw [hW] at h; exact cells_n3 h)
  clear hw
  go_enter Tryd.func5, Tryd.ntmps5
  go_wp2_with fail
  rw [← hW]
  clear hW
  refine (alive_yes W HW.out).mono ?_
  rintro e w1 ⟨rfl, hb⟩
  have B1 := Lib.hid hb
  clear hb
  obtain ⟨q00, q01, q02, q10, q11, q12, q20, q21, q22⟩ := HC.out _ B1.out
  go_wp2_with fail
  refine (long3_new _ _ _ _ _ _ az bz cz azb bzb czb _ false hbig).mono ?_
  rintro e w2 ⟨rfl, hb⟩
  have B2 := Lib.hid (below_next B1.out hb)
  clear hb
  clear q00 q01 q02 q10 q11 q12 q20 q21 q22
  obtain ⟨q00, q01, q02, q10, q11, q12, q20, q21, q22⟩ := HC.out _ B2.out
  go_wp2_with fail
  refine (cmp_is ak ai az ak ai bz (-1) HX.out _).mono ?_
  rintro e w3 ⟨rfl, hb⟩
  have B3 := Lib.hid (below_next B2.out hb)
  clear hb
  clear q00 q01 q02 q10 q11 q12 q20 q21 q22
  obtain ⟨q00, q01, q02, q10, q11, q12, q20, q21, q22⟩ := HC.out _ B3.out
  go_wp2_with fail
  refine (cmp_is ak ai bz ck ci cz 0 HY.out _).mono ?_
  rintro e w4 ⟨rfl, hb⟩
  have B4 := Lib.hid (below_next B3.out hb)
  clear hb
  clear q00 q01 q02 q10 q11 q12 q20 q21 q22
  obtain ⟨q00, q01, q02, q10, q11, q12, q20, q21, q22⟩ := HC.out _ B4.out
  go_wp2_with fail
  refine (cmp_is ak ai az ck ci cz (-1) HZ.out _).mono ?_
  rintro e w5 ⟨rfl, hb⟩
  have B5 := Lib.hid (below_next B4.out hb)
  clear hb
  clear q00 q01 q02 q10 q11 q12 q20 q21 q22
  obtain ⟨q00, q01, q02, q10, q11, q12, q20, q21, q22⟩ := HC.out _ B5.out
  go_wp2_with fail
  refine (cmp_is ak ai bz ak ai az 1 HX2.out _).mono ?_
  rintro e w6 ⟨rfl, hb⟩
  have B6 := Lib.hid (below_next B5.out hb)
  clear hb
  clear q00 q01 q02 q10 q11 q12 q20 q21 q22
  obtain ⟨q00, q01, q02, q10, q11, q12, q20, q21, q22⟩ := HC.out _ B6.out
  go_wp2_with fail
  go_ret
  exact ⟨ret_bool (by first | rfl | (simp; omega)), below_end HB.out B6.out⟩

set_option maxRecDepth 100000 in
set_option maxHeartbeats 8000000 in
theorem order_lt_z (ak : Nat) (akb : ak < 256) (ai : Int) (ai0 : -9223372036854775808 ≤ ai) (ai1 : ai ≤ 9223372036854775807) (az : ByteArray) (azb : az.size ≤ 140737488351232) (bz : ByteArray) (bzb : bz.size ≤ 140737488351232) (ck : Nat) (ckb : ck < 256) (ci : Int) (ci0 : -9223372036854775808 ≤ ci) (ci1 : ci ≤ 9223372036854775807) (cz : ByteArray) (czb : cz.size ≤ 140737488351232) (hbig : decide ((20000 : Int) < (az.size : Int) + (bz.size : Int) + (cz.size : Int)) = false) (hne : (az.toList == bz.toList) = false) (hx : Val.cmp ⟨ak, ai, az⟩ ⟨ak, ai, bz⟩ = -1) (hx2 : Val.cmp ⟨ak, ai, bz⟩ ⟨ak, ai, az⟩ = 1) (hy : Val.cmp ⟨ak, ai, bz⟩ ⟨ck, ci, cz⟩ = -1) (hz : Val.cmp ⟨ak, ai, az⟩ ⟨ck, ci, cz⟩ = -1) (w : World) (hw : Wd w) :
    Calls Tryd.prog 5 #[.agg #[.int .u8 (ak : Int), .int .i64 ai, .string az], .agg #[.int .u8 (ak : Int), .int .i64 ai, .string bz], .agg #[.int .u8 (ck : Int), .int .i64 ci, .string cz]] w fun e w' => e = .returned (.bool true) ∧ Below w.heap.size w w' := by
  have HX := Lib.hid hx
  have HX2 := Lib.hid hx2
  have HY := Lib.hid hy
  have HZ := Lib.hid hz
  clear hx hx2 hy hz
  obtain ⟨W, hW⟩ : ∃ W, W = (((w.alloc (.cells #[.int .u8 (ak : Int), .int .i64 ai, .string az] 24)).alloc (.cells #[.int .u8 (ak : Int), .int .i64 ai, .string bz] 24)).alloc (.cells #[.int .u8 (ck : Int), .int .i64 ci, .string cz] 24)) := ⟨_, rfl⟩
  have HB : Hid (Below w.heap.size w W) := Lib.hid (by rw [hW]; exact below_n3 ..)
  have HW : Hid (Wd W) := Lib.hid (hw.kept HB.out)
  have HC : Hid (∀ w', Below W.heap.size W w' → w'.cell? ⟨w.heap.size, 0, none⟩ = some (.int .u8 (ak : Int)) ∧ w'.cell? ⟨w.heap.size, 1, none⟩ = some (.int .i64 ai) ∧ w'.cell? ⟨w.heap.size, 2, none⟩ = some (.string az) ∧ w'.cell? ⟨w.heap.size + 1, 0, none⟩ = some (.int .u8 (ak : Int)) ∧ w'.cell? ⟨w.heap.size + 1, 1, none⟩ = some (.int .i64 ai) ∧ w'.cell? ⟨w.heap.size + 1, 2, none⟩ = some (.string bz) ∧ w'.cell? ⟨w.heap.size + 1 + 1, 0, none⟩ = some (.int .u8 (ck : Int)) ∧ w'.cell? ⟨w.heap.size + 1 + 1, 1, none⟩ = some (.int .i64 ci) ∧ w'.cell? ⟨w.heap.size + 1 + 1, 2, none⟩ = some (.string cz)) := Lib.hid (fun w' h => by rw [hW] at h; exact cells_n3 h)
  clear hw
  go_enter Tryd.func5, Tryd.ntmps5
  go_wp2_with fail
  rw [← hW]
  clear hW
  refine (alive_yes W HW.out).mono ?_
  rintro e w1 ⟨rfl, hb⟩
  have B1 := Lib.hid hb
  clear hb
  obtain ⟨q00, q01, q02, q10, q11, q12, q20, q21, q22⟩ := HC.out _ B1.out
  go_wp2_with fail
  refine (long3_new _ _ _ _ _ _ az bz cz azb bzb czb _ false hbig).mono ?_
  rintro e w2 ⟨rfl, hb⟩
  have B2 := Lib.hid (below_next B1.out hb)
  clear hb
  clear q00 q01 q02 q10 q11 q12 q20 q21 q22
  obtain ⟨q00, q01, q02, q10, q11, q12, q20, q21, q22⟩ := HC.out _ B2.out
  go_wp2_with fail
  refine (cmp_is ak ai az ak ai bz (-1) HX.out _).mono ?_
  rintro e w3 ⟨rfl, hb⟩
  have B3 := Lib.hid (below_next B2.out hb)
  clear hb
  clear q00 q01 q02 q10 q11 q12 q20 q21 q22
  obtain ⟨q00, q01, q02, q10, q11, q12, q20, q21, q22⟩ := HC.out _ B3.out
  go_wp2_with fail
  refine (cmp_is ak ai bz ck ci cz (-1) HY.out _).mono ?_
  rintro e w4 ⟨rfl, hb⟩
  have B4 := Lib.hid (below_next B3.out hb)
  clear hb
  clear q00 q01 q02 q10 q11 q12 q20 q21 q22
  obtain ⟨q00, q01, q02, q10, q11, q12, q20, q21, q22⟩ := HC.out _ B4.out
  go_wp2_with fail
  refine (cmp_is ak ai az ck ci cz (-1) HZ.out _).mono ?_
  rintro e w5 ⟨rfl, hb⟩
  have B5 := Lib.hid (below_next B4.out hb)
  clear hb
  clear q00 q01 q02 q10 q11 q12 q20 q21 q22
  obtain ⟨q00, q01, q02, q10, q11, q12, q20, q21, q22⟩ := HC.out _ B5.out
  go_wp2_with fail
  refine (cmp_is ak ai bz ak ai az 1 HX2.out _).mono ?_
  rintro e w6 ⟨rfl, hb⟩
  have B6 := Lib.hid (below_next B5.out hb)
  clear hb
  clear q00 q01 q02 q10 q11 q12 q20 q21 q22
  obtain ⟨q00, q01, q02, q10, q11, q12, q20, q21, q22⟩ := HC.out _ B6.out
  go_wp2_with fail
  go_ret
  exact ⟨ret_bool (by first | rfl | (simp; omega)), below_end HB.out B6.out⟩

set_option maxRecDepth 100000 in
set_option maxHeartbeats 8000000 in
theorem order_eq_g (ak : Nat) (akb : ak < 256) (ai : Int) (ai0 : -9223372036854775808 ≤ ai) (ai1 : ai ≤ 9223372036854775807) (az : ByteArray) (azb : az.size ≤ 140737488351232) (ck : Nat) (ckb : ck < 256) (ci : Int) (ci0 : -9223372036854775808 ≤ ci) (ci1 : ci ≤ 9223372036854775807) (cz : ByteArray) (czb : cz.size ≤ 140737488351232) (hbig : decide ((20000 : Int) < (az.size : Int) + (az.size : Int) + (cz.size : Int)) = false) (hx : Val.cmp ⟨ak, ai, az⟩ ⟨ak, ai, az⟩ = 0) (hx2 : Val.cmp ⟨ak, ai, az⟩ ⟨ak, ai, az⟩ = 0) (hy : Val.cmp ⟨ak, ai, az⟩ ⟨ck, ci, cz⟩ = 1) (hz : Val.cmp ⟨ak, ai, az⟩ ⟨ck, ci, cz⟩ = 1) (w : World) (hw : Wd w) :
    Calls Tryd.prog 5 #[.agg #[.int .u8 (ak : Int), .int .i64 ai, .string az], .agg #[.int .u8 (ak : Int), .int .i64 ai, .string az], .agg #[.int .u8 (ck : Int), .int .i64 ci, .string cz]] w fun e w' => e = .returned (.bool true) ∧ Below w.heap.size w w' := by
  have HX := Lib.hid hx
  have HX2 := Lib.hid hx2
  have HY := Lib.hid hy
  have HZ := Lib.hid hz
  clear hx hx2 hy hz
  obtain ⟨W, hW⟩ : ∃ W, W = (((w.alloc (.cells #[.int .u8 (ak : Int), .int .i64 ai, .string az] 24)).alloc (.cells #[.int .u8 (ak : Int), .int .i64 ai, .string az] 24)).alloc (.cells #[.int .u8 (ck : Int), .int .i64 ci, .string cz] 24)) := ⟨_, rfl⟩
  have HB : Hid (Below w.heap.size w W) := Lib.hid (by rw [hW]; exact below_n3 ..)
  have HW : Hid (Wd W) := Lib.hid (hw.kept HB.out)
  have HC : Hid (∀ w', Below W.heap.size W w' → w'.cell? ⟨w.heap.size, 0, none⟩ = some (.int .u8 (ak : Int)) ∧ w'.cell? ⟨w.heap.size, 1, none⟩ = some (.int .i64 ai) ∧ w'.cell? ⟨w.heap.size, 2, none⟩ = some (.string az) ∧ w'.cell? ⟨w.heap.size + 1, 0, none⟩ = some (.int .u8 (ak : Int)) ∧ w'.cell? ⟨w.heap.size + 1, 1, none⟩ = some (.int .i64 ai) ∧ w'.cell? ⟨w.heap.size + 1, 2, none⟩ = some (.string az) ∧ w'.cell? ⟨w.heap.size + 1 + 1, 0, none⟩ = some (.int .u8 (ck : Int)) ∧ w'.cell? ⟨w.heap.size + 1 + 1, 1, none⟩ = some (.int .i64 ci) ∧ w'.cell? ⟨w.heap.size + 1 + 1, 2, none⟩ = some (.string cz)) := Lib.hid (fun w' h => by rw [hW] at h; exact cells_n3 h)
  clear hw
  go_enter Tryd.func5, Tryd.ntmps5
  go_wp2_with fail
  rw [← hW]
  clear hW
  refine (alive_yes W HW.out).mono ?_
  rintro e w1 ⟨rfl, hb⟩
  have B1 := Lib.hid hb
  clear hb
  obtain ⟨q00, q01, q02, q10, q11, q12, q20, q21, q22⟩ := HC.out _ B1.out
  go_wp2_with fail
  refine (long3_new _ _ _ _ _ _ az az cz azb azb czb _ false hbig).mono ?_
  rintro e w2 ⟨rfl, hb⟩
  have B2 := Lib.hid (below_next B1.out hb)
  clear hb
  clear q00 q01 q02 q10 q11 q12 q20 q21 q22
  obtain ⟨q00, q01, q02, q10, q11, q12, q20, q21, q22⟩ := HC.out _ B2.out
  go_wp2_with fail
  refine (cmp_is ak ai az ak ai az 0 HX.out _).mono ?_
  rintro e w3 ⟨rfl, hb⟩
  have B3 := Lib.hid (below_next B2.out hb)
  clear hb
  clear q00 q01 q02 q10 q11 q12 q20 q21 q22
  obtain ⟨q00, q01, q02, q10, q11, q12, q20, q21, q22⟩ := HC.out _ B3.out
  go_wp2_with fail
  refine (cmp_is ak ai az ck ci cz 1 HY.out _).mono ?_
  rintro e w4 ⟨rfl, hb⟩
  have B4 := Lib.hid (below_next B3.out hb)
  clear hb
  clear q00 q01 q02 q10 q11 q12 q20 q21 q22
  obtain ⟨q00, q01, q02, q10, q11, q12, q20, q21, q22⟩ := HC.out _ B4.out
  go_wp2_with fail
  refine (cmp_is ak ai az ck ci cz 1 HZ.out _).mono ?_
  rintro e w5 ⟨rfl, hb⟩
  have B5 := Lib.hid (below_next B4.out hb)
  clear hb
  clear q00 q01 q02 q10 q11 q12 q20 q21 q22
  obtain ⟨q00, q01, q02, q10, q11, q12, q20, q21, q22⟩ := HC.out _ B5.out
  go_wp2_with fail
  refine (cmp_is ak ai az ak ai az 0 HX2.out _).mono ?_
  rintro e w6 ⟨rfl, hb⟩
  have B6 := Lib.hid (below_next B5.out hb)
  clear hb
  clear q00 q01 q02 q10 q11 q12 q20 q21 q22
  obtain ⟨q00, q01, q02, q10, q11, q12, q20, q21, q22⟩ := HC.out _ B6.out
  go_wp2_with fail
  go_ret
  exact ⟨ret_bool (by first | rfl | (simp; omega)), below_end HB.out B6.out⟩

set_option maxRecDepth 100000 in
set_option maxHeartbeats 8000000 in
theorem order_eq_e (ak : Nat) (akb : ak < 256) (ai : Int) (ai0 : -9223372036854775808 ≤ ai) (ai1 : ai ≤ 9223372036854775807) (az : ByteArray) (azb : az.size ≤ 140737488351232) (ck : Nat) (ckb : ck < 256) (ci : Int) (ci0 : -9223372036854775808 ≤ ci) (ci1 : ci ≤ 9223372036854775807) (cz : ByteArray) (czb : cz.size ≤ 140737488351232) (hbig : decide ((20000 : Int) < (az.size : Int) + (az.size : Int) + (cz.size : Int)) = false) (hx : Val.cmp ⟨ak, ai, az⟩ ⟨ak, ai, az⟩ = 0) (hx2 : Val.cmp ⟨ak, ai, az⟩ ⟨ak, ai, az⟩ = 0) (hy : Val.cmp ⟨ak, ai, az⟩ ⟨ck, ci, cz⟩ = 0) (hz : Val.cmp ⟨ak, ai, az⟩ ⟨ck, ci, cz⟩ = 0) (w : World) (hw : Wd w) :
    Calls Tryd.prog 5 #[.agg #[.int .u8 (ak : Int), .int .i64 ai, .string az], .agg #[.int .u8 (ak : Int), .int .i64 ai, .string az], .agg #[.int .u8 (ck : Int), .int .i64 ci, .string cz]] w fun e w' => e = .returned (.bool true) ∧ Below w.heap.size w w' := by
  have HX := Lib.hid hx
  have HX2 := Lib.hid hx2
  have HY := Lib.hid hy
  have HZ := Lib.hid hz
  clear hx hx2 hy hz
  obtain ⟨W, hW⟩ : ∃ W, W = (((w.alloc (.cells #[.int .u8 (ak : Int), .int .i64 ai, .string az] 24)).alloc (.cells #[.int .u8 (ak : Int), .int .i64 ai, .string az] 24)).alloc (.cells #[.int .u8 (ck : Int), .int .i64 ci, .string cz] 24)) := ⟨_, rfl⟩
  have HB : Hid (Below w.heap.size w W) := Lib.hid (by rw [hW]; exact below_n3 ..)
  have HW : Hid (Wd W) := Lib.hid (hw.kept HB.out)
  have HC : Hid (∀ w', Below W.heap.size W w' → w'.cell? ⟨w.heap.size, 0, none⟩ = some (.int .u8 (ak : Int)) ∧ w'.cell? ⟨w.heap.size, 1, none⟩ = some (.int .i64 ai) ∧ w'.cell? ⟨w.heap.size, 2, none⟩ = some (.string az) ∧ w'.cell? ⟨w.heap.size + 1, 0, none⟩ = some (.int .u8 (ak : Int)) ∧ w'.cell? ⟨w.heap.size + 1, 1, none⟩ = some (.int .i64 ai) ∧ w'.cell? ⟨w.heap.size + 1, 2, none⟩ = some (.string az) ∧ w'.cell? ⟨w.heap.size + 1 + 1, 0, none⟩ = some (.int .u8 (ck : Int)) ∧ w'.cell? ⟨w.heap.size + 1 + 1, 1, none⟩ = some (.int .i64 ci) ∧ w'.cell? ⟨w.heap.size + 1 + 1, 2, none⟩ = some (.string cz)) := Lib.hid (fun w' h => by rw [hW] at h; exact cells_n3 h)
  clear hw
  go_enter Tryd.func5, Tryd.ntmps5
  go_wp2_with fail
  rw [← hW]
  clear hW
  refine (alive_yes W HW.out).mono ?_
  rintro e w1 ⟨rfl, hb⟩
  have B1 := Lib.hid hb
  clear hb
  obtain ⟨q00, q01, q02, q10, q11, q12, q20, q21, q22⟩ := HC.out _ B1.out
  go_wp2_with fail
  refine (long3_new _ _ _ _ _ _ az az cz azb azb czb _ false hbig).mono ?_
  rintro e w2 ⟨rfl, hb⟩
  have B2 := Lib.hid (below_next B1.out hb)
  clear hb
  clear q00 q01 q02 q10 q11 q12 q20 q21 q22
  obtain ⟨q00, q01, q02, q10, q11, q12, q20, q21, q22⟩ := HC.out _ B2.out
  go_wp2_with fail
  refine (cmp_is ak ai az ak ai az 0 HX.out _).mono ?_
  rintro e w3 ⟨rfl, hb⟩
  have B3 := Lib.hid (below_next B2.out hb)
  clear hb
  clear q00 q01 q02 q10 q11 q12 q20 q21 q22
  obtain ⟨q00, q01, q02, q10, q11, q12, q20, q21, q22⟩ := HC.out _ B3.out
  go_wp2_with fail
  refine (cmp_is ak ai az ck ci cz 0 HY.out _).mono ?_
  rintro e w4 ⟨rfl, hb⟩
  have B4 := Lib.hid (below_next B3.out hb)
  clear hb
  clear q00 q01 q02 q10 q11 q12 q20 q21 q22
  obtain ⟨q00, q01, q02, q10, q11, q12, q20, q21, q22⟩ := HC.out _ B4.out
  go_wp2_with fail
  refine (cmp_is ak ai az ck ci cz 0 HZ.out _).mono ?_
  rintro e w5 ⟨rfl, hb⟩
  have B5 := Lib.hid (below_next B4.out hb)
  clear hb
  clear q00 q01 q02 q10 q11 q12 q20 q21 q22
  obtain ⟨q00, q01, q02, q10, q11, q12, q20, q21, q22⟩ := HC.out _ B5.out
  go_wp2_with fail
  refine (cmp_is ak ai az ak ai az 0 HX2.out _).mono ?_
  rintro e w6 ⟨rfl, hb⟩
  have B6 := Lib.hid (below_next B5.out hb)
  clear hb
  clear q00 q01 q02 q10 q11 q12 q20 q21 q22
  obtain ⟨q00, q01, q02, q10, q11, q12, q20, q21, q22⟩ := HC.out _ B6.out
  go_wp2_with fail
  go_ret
  exact ⟨ret_bool (by first | rfl | (simp; omega)), below_end HB.out B6.out⟩

set_option maxRecDepth 100000 in
set_option maxHeartbeats 8000000 in
theorem order_eq_l (ak : Nat) (akb : ak < 256) (ai : Int) (ai0 : -9223372036854775808 ≤ ai) (ai1 : ai ≤ 9223372036854775807) (az : ByteArray) (azb : az.size ≤ 140737488351232) (ck : Nat) (ckb : ck < 256) (ci : Int) (ci0 : -9223372036854775808 ≤ ci) (ci1 : ci ≤ 9223372036854775807) (cz : ByteArray) (czb : cz.size ≤ 140737488351232) (hbig : decide ((20000 : Int) < (az.size : Int) + (az.size : Int) + (cz.size : Int)) = false) (hx : Val.cmp ⟨ak, ai, az⟩ ⟨ak, ai, az⟩ = 0) (hx2 : Val.cmp ⟨ak, ai, az⟩ ⟨ak, ai, az⟩ = 0) (hy : Val.cmp ⟨ak, ai, az⟩ ⟨ck, ci, cz⟩ = -1) (hz : Val.cmp ⟨ak, ai, az⟩ ⟨ck, ci, cz⟩ = -1) (w : World) (hw : Wd w) :
    Calls Tryd.prog 5 #[.agg #[.int .u8 (ak : Int), .int .i64 ai, .string az], .agg #[.int .u8 (ak : Int), .int .i64 ai, .string az], .agg #[.int .u8 (ck : Int), .int .i64 ci, .string cz]] w fun e w' => e = .returned (.bool true) ∧ Below w.heap.size w w' := by
  have HX := Lib.hid hx
  have HX2 := Lib.hid hx2
  have HY := Lib.hid hy
  have HZ := Lib.hid hz
  clear hx hx2 hy hz
  obtain ⟨W, hW⟩ : ∃ W, W = (((w.alloc (.cells #[.int .u8 (ak : Int), .int .i64 ai, .string az] 24)).alloc (.cells #[.int .u8 (ak : Int), .int .i64 ai, .string az] 24)).alloc (.cells #[.int .u8 (ck : Int), .int .i64 ci, .string cz] 24)) := ⟨_, rfl⟩
  have HB : Hid (Below w.heap.size w W) := Lib.hid (by rw [hW]; exact below_n3 ..)
  have HW : Hid (Wd W) := Lib.hid (hw.kept HB.out)
  have HC : Hid (∀ w', Below W.heap.size W w' → w'.cell? ⟨w.heap.size, 0, none⟩ = some (.int .u8 (ak : Int)) ∧ w'.cell? ⟨w.heap.size, 1, none⟩ = some (.int .i64 ai) ∧ w'.cell? ⟨w.heap.size, 2, none⟩ = some (.string az) ∧ w'.cell? ⟨w.heap.size + 1, 0, none⟩ = some (.int .u8 (ak : Int)) ∧ w'.cell? ⟨w.heap.size + 1, 1, none⟩ = some (.int .i64 ai) ∧ w'.cell? ⟨w.heap.size + 1, 2, none⟩ = some (.string az) ∧ w'.cell? ⟨w.heap.size + 1 + 1, 0, none⟩ = some (.int .u8 (ck : Int)) ∧ w'.cell? ⟨w.heap.size + 1 + 1, 1, none⟩ = some (.int .i64 ci) ∧ w'.cell? ⟨w.heap.size + 1 + 1, 2, none⟩ = some (.string cz)) := Lib.hid (fun w' h => by rw [hW] at h; exact cells_n3 h)
  clear hw
  go_enter Tryd.func5, Tryd.ntmps5
  go_wp2_with fail
  rw [← hW]
  clear hW
  refine (alive_yes W HW.out).mono ?_
  rintro e w1 ⟨rfl, hb⟩
  have B1 := Lib.hid hb
  clear hb
  obtain ⟨q00, q01, q02, q10, q11, q12, q20, q21, q22⟩ := HC.out _ B1.out
  go_wp2_with fail
  refine (long3_new _ _ _ _ _ _ az az cz azb azb czb _ false hbig).mono ?_
  rintro e w2 ⟨rfl, hb⟩
  have B2 := Lib.hid (below_next B1.out hb)
  clear hb
  clear q00 q01 q02 q10 q11 q12 q20 q21 q22
  obtain ⟨q00, q01, q02, q10, q11, q12, q20, q21, q22⟩ := HC.out _ B2.out
  go_wp2_with fail
  refine (cmp_is ak ai az ak ai az 0 HX.out _).mono ?_
  rintro e w3 ⟨rfl, hb⟩
  have B3 := Lib.hid (below_next B2.out hb)
  clear hb
  clear q00 q01 q02 q10 q11 q12 q20 q21 q22
  obtain ⟨q00, q01, q02, q10, q11, q12, q20, q21, q22⟩ := HC.out _ B3.out
  go_wp2_with fail
  refine (cmp_is ak ai az ck ci cz (-1) HY.out _).mono ?_
  rintro e w4 ⟨rfl, hb⟩
  have B4 := Lib.hid (below_next B3.out hb)
  clear hb
  clear q00 q01 q02 q10 q11 q12 q20 q21 q22
  obtain ⟨q00, q01, q02, q10, q11, q12, q20, q21, q22⟩ := HC.out _ B4.out
  go_wp2_with fail
  refine (cmp_is ak ai az ck ci cz (-1) HZ.out _).mono ?_
  rintro e w5 ⟨rfl, hb⟩
  have B5 := Lib.hid (below_next B4.out hb)
  clear hb
  clear q00 q01 q02 q10 q11 q12 q20 q21 q22
  obtain ⟨q00, q01, q02, q10, q11, q12, q20, q21, q22⟩ := HC.out _ B5.out
  go_wp2_with fail
  refine (cmp_is ak ai az ak ai az 0 HX2.out _).mono ?_
  rintro e w6 ⟨rfl, hb⟩
  have B6 := Lib.hid (below_next B5.out hb)
  clear hb
  clear q00 q01 q02 q10 q11 q12 q20 q21 q22
  obtain ⟨q00, q01, q02, q10, q11, q12, q20, q21, q22⟩ := HC.out _ B6.out
  go_wp2_with fail
  go_ret
  exact ⟨ret_bool (by first | rfl | (simp; omega)), below_end HB.out B6.out⟩

theorem walk_ValuesOrder (ak : Int) (ai : Int) (az : ByteArray) (hak : (Lit.int .u8 ak).wf = true) (hai : (Lit.int .i64 ai).wf = true) (haz : az.size ≤ 140737488351232) (bk : Int) (bi : Int) (bz : ByteArray) (hbk : (Lit.int .u8 bk).wf = true) (hbi : (Lit.int .i64 bi).wf = true) (hbz : bz.size ≤ 140737488351232) (ck : Int) (ci : Int) (cz : ByteArray) (hck : (Lit.int .u8 ck).wf = true) (hci : (Lit.int .i64 ci).wf = true) (hcz : cz.size ≤ 140737488351232) {w : World} (hw : Wd w) :
    Calls Tryd.prog 5 #[.agg #[.int .u8 ak, .int .i64 ai, .string az], .agg #[.int .u8 bk, .int .i64 bi, .string bz], .agg #[.int .u8 ck, .int .i64 ci, .string cz]] w fun e w' => e = .returned (.bool true) ∧ Below w.heap.size w w' := by
  have k0 := wf_u8 hak
  have k1 := wf_u8 hbk
  have k2 := wf_u8 hck
  have i0 := wf_i64 hai
  have i1 := wf_i64 hbi
  have i2 := wf_i64 hci
  obtain ⟨ak, rfl⟩ := Int.eq_ofNat_of_zero_le k0.1
  obtain ⟨bk, rfl⟩ := Int.eq_ofNat_of_zero_le k1.1
  obtain ⟨ck, rfl⟩ := Int.eq_ofNat_of_zero_le k2.1
  cases hbig : decide ((20000 : Int) < (az.size : Int) + (bz.size : Int) + (cz.size : Int)) with
  | true => exact order_long ak (by omega) ai i0.1 i0.2 az haz bk (by omega) bi i1.1 i1.2 bz hbz ck (by omega) ci i2.1 i2.2 cz hcz hbig w hw
  | false =>
    have hfl := Val.cmp_flip ⟨ak, ai, az⟩ ⟨bk, bi, bz⟩
    have hr := Val.cmp_range ⟨ak, ai, az⟩ ⟨bk, bi, bz⟩
    have hry := Val.cmp_range ⟨bk, bi, bz⟩ ⟨ck, ci, cz⟩
    by_cases hz : Val.cmp ⟨ak, ai, az⟩ ⟨bk, bi, bz⟩ = 0
    · obtain ⟨h1, rfl, rfl⟩ := Val.mk.inj (Val.cmp_eq hz)
      obtain rfl := h1
      rcases hry with h | h | h
      · exact order_eq_l ak (by omega) ai i0.1 i0.2 az haz ck (by omega) ci i2.1 i2.2 cz hcz hbig hz hz h h w hw
      · exact order_eq_e ak (by omega) ai i0.1 i0.2 az haz ck (by omega) ci i2.1 i2.2 cz hcz hbig hz hz h h w hw
      · exact order_eq_g ak (by omega) ai i0.1 i0.2 az haz ck (by omega) ci i2.1 i2.2 cz hcz hbig hz hz h h w hw
    · have hlt : Val.cmp ⟨ak, ai, az⟩ ⟨bk, bi, bz⟩ = -1 → Val.cmp ⟨bk, bi, bz⟩ ⟨ck, ci, cz⟩ ≠ 1 → Val.cmp ⟨ak, ai, az⟩ ⟨ck, ci, cz⟩ = -1 := by
        intro h1 h2
        have hrz := Val.cmp_range ⟨ak, ai, az⟩ ⟨ck, ci, cz⟩
        have : Val.cmp ⟨ak, ai, az⟩ ⟨ck, ci, cz⟩ < 0 := by
          rcases hry with h | h | h
          · exact Val.cmp_trans (b := ⟨bk, bi, bz⟩) (by omega) (by omega)
          · rw [← Val.cmp_eq h]; omega
          · exact absurd h h2
        omega
      have hkind : ak < bk → Val.cmp ⟨ak, ai, az⟩ ⟨bk, bi, bz⟩ = -1 := fun h => Val.cmp_kind h
      have hkind2 : bk < ak → Val.cmp ⟨bk, bi, bz⟩ ⟨ak, ai, az⟩ = -1 := fun h => Val.cmp_kind h
      by_cases hk : ak = bk
      · subst hk
        by_cases hi : ai = bi
        · subst hi
          have hne : (az.toList == bz.toList) = false := toList_ne (fun e => by subst e; exact hz (Val.cmp_self _))
          rcases hr with h | h | h
          · rcases hry with h' | h' | h'
            · exact order_lt_z ak (by omega) ai i0.1 i0.2 az haz bz hbz ck (by omega) ci i2.1 i2.2 cz hcz hbig hne h (by omega) h' (hlt h (by omega)) w hw
            · exact order_lt0_z ak (by omega) ai i0.1 i0.2 az haz bz hbz ck (by omega) ci i2.1 i2.2 cz hcz hbig hne h (by omega) h' (hlt h (by omega)) w hw
            · exact order_lt1_z ak (by omega) ai i0.1 i0.2 az haz bz hbz ck (by omega) ci i2.1 i2.2 cz hcz hbig _ hne h (by omega) h' rfl w hw
          · exact absurd h hz
          · exact order_gt_z ak (by omega) ai i0.1 i0.2 az haz bz hbz ck (by omega) ci i2.1 i2.2 cz hcz hbig _ _ hne h (by omega) rfl rfl w hw
        · have hne : (ai == bi) = false := by simpa using hi
          rcases hr with h | h | h
          · rcases hry with h' | h' | h'
            · exact order_lt_i ak (by omega) ai i0.1 i0.2 az haz bi i1.1 i1.2 bz hbz ck (by omega) ci i2.1 i2.2 cz hcz hbig hne h (by omega) h' (hlt h (by omega)) w hw
            · exact order_lt0_i ak (by omega) ai i0.1 i0.2 az haz bi i1.1 i1.2 bz hbz ck (by omega) ci i2.1 i2.2 cz hcz hbig hne h (by omega) h' (hlt h (by omega)) w hw
            · exact order_lt1_i ak (by omega) ai i0.1 i0.2 az haz bi i1.1 i1.2 bz hbz ck (by omega) ci i2.1 i2.2 cz hcz hbig _ hne h (by omega) h' rfl w hw
          · exact absurd h hz
          · exact order_gt_i ak (by omega) ai i0.1 i0.2 az haz bi i1.1 i1.2 bz hbz ck (by omega) ci i2.1 i2.2 cz hcz hbig _ _ hne h (by omega) rfl rfl w hw
      · have hne : ((ak : Int) == (bk : Int)) = false := by rw [beq_eq_false_iff_ne]; omega
        rcases hr with h | h | h
        · have hge : decide (bk ≤ ak) = false := by rw [decide_eq_false_iff_not]; intro h0; have := hkind2 (by omega); omega
          rcases hry with h' | h' | h'
          · exact order_lt_k ak (by omega) ai i0.1 i0.2 az haz bk (by omega) bi i1.1 i1.2 bz hbz ck (by omega) ci i2.1 i2.2 cz hcz hbig hne hge h (by omega) h' (hlt h (by omega)) w hw
          · exact order_lt0_k ak (by omega) ai i0.1 i0.2 az haz bk (by omega) bi i1.1 i1.2 bz hbz ck (by omega) ci i2.1 i2.2 cz hcz hbig hne hge h (by omega) h' (hlt h (by omega)) w hw
          · exact order_lt1_k ak (by omega) ai i0.1 i0.2 az haz bk (by omega) bi i1.1 i1.2 bz hbz ck (by omega) ci i2.1 i2.2 cz hcz hbig _ hne hge h (by omega) h' rfl w hw
        · exact absurd h hz
        · have hge : decide (bk ≤ ak) = true := by rw [decide_eq_true_iff]; rcases Nat.lt_or_ge ak bk with h0 | h0; (have := hkind h0; omega); exact h0
          exact order_gt_k ak (by omega) ai i0.1 i0.2 az haz bk (by omega) bi i1.1 i1.2 bz hbz ck (by omega) ci i2.1 i2.2 cz hcz hbig _ _ hne hge h (by omega) rfl rfl w hw
end Go.Proofs.YtnnimngbocabbaaDoor