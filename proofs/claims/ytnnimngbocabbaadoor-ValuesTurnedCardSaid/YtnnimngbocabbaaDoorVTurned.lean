/-
  WHAT IS PROVED: the walk of ValuesTurned.
-/
import Derived.Test.YtnnimngbocabbaaDoorLawD
namespace Go.Proofs.YtnnimngbocabbaaDoor
open Go.RowKit Go.Lib
set_option linter.unusedVariables false

set_option maxRecDepth 100000 in
set_option maxHeartbeats 8000000 in
theorem turned_long (ak : Nat) (akb : ak < 256) (ai : Int) (ai0 : -9223372036854775808 ≤ ai) (ai1 : ai ≤ 9223372036854775807) (az : ByteArray) (azb : az.size ≤ 140737488351232) (bk : Nat) (bkb : bk < 256) (bi : Int) (bi0 : -9223372036854775808 ≤ bi) (bi1 : bi ≤ 9223372036854775807) (bz : ByteArray) (bzb : bz.size ≤ 140737488351232) (hbig : decide ((20000 : Int) < (az.size : Int) + (bz.size : Int)) = true) (w : World) (hw : Wd w) :
    Calls Tryd.prog 7 #[.agg #[.int .u8 (ak : Int), .int .i64 ai, .string az], .agg #[.int .u8 (bk : Int), .int .i64 bi, .string bz]] w fun e w' => e = .returned (.bool true) ∧ Below w.heap.size w w' := by
  obtain ⟨w0, hW⟩ : ∃ w0, w0 = ((w.alloc (.cells #[.int .u8 (ak : Int), .int .i64 ai, .string az] 24)).alloc (.cells #[.int .u8 (bk : Int), .int .i64 bi, .string bz] 24)) := ⟨_, rfl⟩
  have H0 : Hid (Fam w [(w.heap.size + 1, .cells #[.int .u8 (bk : Int), .int .i64 bi, .string bz] 24 (0, 0)), (w.heap.size, .cells #[.int .u8 (ak : Int), .int .i64 ai, .string az] 24 (0, 0))] w0) := Lib.hid (by rw [hW]; exact fam_n2 ..)
  have HW : Hid (∀ x, Below w.heap.size w x → Wd x) := Lib.hid (fun _ h => hw.kept h)
  clear hw
  go_enter Tryd.func7, Tryd.ntmps7
  go_wp2_with fail
  rw [← hW]
  clear hW
  refine (alive_yes _ (HW.out _ H0.out.below)).mono ?_
  rintro e w1 ⟨rfl, hb⟩
  have H1 := Lib.hid (H0.out.kept hb)
  clear hb 
  have f0_0 : w1.cell? ⟨w.heap.size + 1, 0, none⟩ = some (.int .u8 (bk : Int)) := H1.out.cell (b := w.heap.size + 1) (cs := #[.int .u8 (bk : Int), .int .i64 bi, .string bz]) (t := 24) (fr := (0, 0)) (List.mem_cons_self ..) 0
  have f0_1 : w1.cell? ⟨w.heap.size + 1, 1, none⟩ = some (.int .i64 bi) := H1.out.cell (b := w.heap.size + 1) (cs := #[.int .u8 (bk : Int), .int .i64 bi, .string bz]) (t := 24) (fr := (0, 0)) (List.mem_cons_self ..) 1
  have f0_2 : w1.cell? ⟨w.heap.size + 1, 2, none⟩ = some (.string bz) := H1.out.cell (b := w.heap.size + 1) (cs := #[.int .u8 (bk : Int), .int .i64 bi, .string bz]) (t := 24) (fr := (0, 0)) (List.mem_cons_self ..) 2
  have z0 : w.heap.size + 1 < w1.heap.size := lt_of_block (H1.out.get (b := w.heap.size + 1) (o := .cells #[.int .u8 (bk : Int), .int .i64 bi, .string bz] 24 (0, 0)) (List.mem_cons_self ..))
  have f1_0 : w1.cell? ⟨w.heap.size, 0, none⟩ = some (.int .u8 (ak : Int)) := H1.out.cell (b := w.heap.size) (cs := #[.int .u8 (ak : Int), .int .i64 ai, .string az]) (t := 24) (fr := (0, 0)) (List.mem_cons_of_mem _ (List.mem_cons_self ..)) 0
  have f1_1 : w1.cell? ⟨w.heap.size, 1, none⟩ = some (.int .i64 ai) := H1.out.cell (b := w.heap.size) (cs := #[.int .u8 (ak : Int), .int .i64 ai, .string az]) (t := 24) (fr := (0, 0)) (List.mem_cons_of_mem _ (List.mem_cons_self ..)) 1
  have f1_2 : w1.cell? ⟨w.heap.size, 2, none⟩ = some (.string az) := H1.out.cell (b := w.heap.size) (cs := #[.int .u8 (ak : Int), .int .i64 ai, .string az]) (t := 24) (fr := (0, 0)) (List.mem_cons_of_mem _ (List.mem_cons_self ..)) 2
  have z1 : w.heap.size < w1.heap.size := lt_of_block (H1.out.get (b := w.heap.size) (o := .cells #[.int .u8 (ak : Int), .int .i64 ai, .string az] 24 (0, 0)) (List.mem_cons_of_mem _ (List.mem_cons_self ..)))
  go_wp2_with fail
  refine (long2_new _ _ _ _ az bz azb bzb _ true hbig).mono ?_
  rintro e w2 ⟨rfl, hb⟩
  have H2 := Lib.hid (H1.out.kept hb)
  clear f0_0 f0_1 f0_2 z0 f1_0 f1_1 f1_2 z1
  clear hb 
  go_wp2_with fail
  refine (alive_yes _ (HW.out _ H2.out.below)).mono ?_
  rintro e w3 ⟨rfl, hb⟩
  have H3 := Lib.hid (H2.out.kept hb)
  clear hb 
  go_wp2_with fail
  go_ret
  exact ⟨rfl, H3.out.below⟩
theorem ops_at (k : Nat) (h : k < 6) : ∃ op : Nat, (#[.int .u8 5, .int .u8 7, .int .u8 11, .int .u8 12, .int .u8 17, .int .u8 18] : Array Value)[k]? = some (.int .u8 (op : Int)) ∧ op < 256 ∧ (op = 5 ∨ op = 7 ∨ op = 11 ∨ op = 12 ∨ op = 17 ∨ op = 18) := by
  rcases (show k = 0 ∨ k = 1 ∨ k = 2 ∨ k = 3 ∨ k = 4 ∨ k = 5 by omega) with rfl | rfl | rfl | rfl | rfl | rfl
  · exact ⟨5, rfl, by omega, by omega⟩
  · exact ⟨7, rfl, by omega, by omega⟩
  · exact ⟨11, rfl, by omega, by omega⟩
  · exact ⟨12, rfl, by omega, by omega⟩
  · exact ⟨17, rfl, by omega, by omega⟩
  · exact ⟨18, rfl, by omega, by omega⟩
set_option maxRecDepth 100000 in
set_option maxHeartbeats 8000000 in
theorem turned_body (ak : Nat) (akb : ak < 256) (ai : Int) (ai0 : -9223372036854775808 ≤ ai) (ai1 : ai ≤ 9223372036854775807) (az : ByteArray) (azb : az.size ≤ 140737488351232) (bk : Nat) (bkb : bk < 256) (bi : Int) (bi0 : -9223372036854775808 ≤ bi) (bi1 : bi ≤ 9223372036854775807) (bz : ByteArray) (bzb : bz.size ≤ 140737488351232) (hbig : decide ((20000 : Int) < (az.size : Int) + (bz.size : Int)) = false) (w : World) (hw : Wd w) :
    Calls Tryd.prog 7 #[.agg #[.int .u8 (ak : Int), .int .i64 ai, .string az], .agg #[.int .u8 (bk : Int), .int .i64 bi, .string bz]] w fun e w' => e = .returned (.bool true) ∧ Below w.heap.size w w' := by
  obtain ⟨w0, hW⟩ : ∃ w0, w0 = ((w.alloc (.cells #[.int .u8 (ak : Int), .int .i64 ai, .string az] 24)).alloc (.cells #[.int .u8 (bk : Int), .int .i64 bi, .string bz] 24)) := ⟨_, rfl⟩
  have H0 : Hid (Fam w [(w.heap.size + 1, .cells #[.int .u8 (bk : Int), .int .i64 bi, .string bz] 24 (0, 0)), (w.heap.size, .cells #[.int .u8 (ak : Int), .int .i64 ai, .string az] 24 (0, 0))] w0) := Lib.hid (by rw [hW]; exact fam_n2 ..)
  have HW : Hid (∀ x, Below w.heap.size w x → Wd x) := Lib.hid (fun _ h => hw.kept h)
  clear hw
  go_enter Tryd.func7, Tryd.ntmps7
  go_wp2_with fail
  rw [← hW]
  clear hW
  refine (alive_yes _ (HW.out _ H0.out.below)).mono ?_
  rintro e w1 ⟨rfl, hb⟩
  have H1 := Lib.hid (H0.out.kept hb)
  clear hb 
  have f0_0 : w1.cell? ⟨w.heap.size + 1, 0, none⟩ = some (.int .u8 (bk : Int)) := H1.out.cell (b := w.heap.size + 1) (cs := #[.int .u8 (bk : Int), .int .i64 bi, .string bz]) (t := 24) (fr := (0, 0)) (List.mem_cons_self ..) 0
  have f0_1 : w1.cell? ⟨w.heap.size + 1, 1, none⟩ = some (.int .i64 bi) := H1.out.cell (b := w.heap.size + 1) (cs := #[.int .u8 (bk : Int), .int .i64 bi, .string bz]) (t := 24) (fr := (0, 0)) (List.mem_cons_self ..) 1
  have f0_2 : w1.cell? ⟨w.heap.size + 1, 2, none⟩ = some (.string bz) := H1.out.cell (b := w.heap.size + 1) (cs := #[.int .u8 (bk : Int), .int .i64 bi, .string bz]) (t := 24) (fr := (0, 0)) (List.mem_cons_self ..) 2
  have z0 : w.heap.size + 1 < w1.heap.size := lt_of_block (H1.out.get (b := w.heap.size + 1) (o := .cells #[.int .u8 (bk : Int), .int .i64 bi, .string bz] 24 (0, 0)) (List.mem_cons_self ..))
  have f1_0 : w1.cell? ⟨w.heap.size, 0, none⟩ = some (.int .u8 (ak : Int)) := H1.out.cell (b := w.heap.size) (cs := #[.int .u8 (ak : Int), .int .i64 ai, .string az]) (t := 24) (fr := (0, 0)) (List.mem_cons_of_mem _ (List.mem_cons_self ..)) 0
  have f1_1 : w1.cell? ⟨w.heap.size, 1, none⟩ = some (.int .i64 ai) := H1.out.cell (b := w.heap.size) (cs := #[.int .u8 (ak : Int), .int .i64 ai, .string az]) (t := 24) (fr := (0, 0)) (List.mem_cons_of_mem _ (List.mem_cons_self ..)) 1
  have f1_2 : w1.cell? ⟨w.heap.size, 2, none⟩ = some (.string az) := H1.out.cell (b := w.heap.size) (cs := #[.int .u8 (ak : Int), .int .i64 ai, .string az]) (t := 24) (fr := (0, 0)) (List.mem_cons_of_mem _ (List.mem_cons_self ..)) 2
  have z1 : w.heap.size < w1.heap.size := lt_of_block (H1.out.get (b := w.heap.size) (o := .cells #[.int .u8 (ak : Int), .int .i64 ai, .string az] 24 (0, 0)) (List.mem_cons_of_mem _ (List.mem_cons_self ..)))
  go_wp2_with fail
  refine (long2_new _ _ _ _ az bz azb bzb _ false hbig).mono ?_
  rintro e w2 ⟨rfl, hb⟩
  have H2 := Lib.hid (H1.out.kept hb)
  clear f0_0 f0_1 f0_2 z0 f1_0 f1_1 f1_2 z1
  clear hb 
  have f0_0 : w2.cell? ⟨w.heap.size + 1, 0, none⟩ = some (.int .u8 (bk : Int)) := H2.out.cell (b := w.heap.size + 1) (cs := #[.int .u8 (bk : Int), .int .i64 bi, .string bz]) (t := 24) (fr := (0, 0)) (List.mem_cons_self ..) 0
  have f0_1 : w2.cell? ⟨w.heap.size + 1, 1, none⟩ = some (.int .i64 bi) := H2.out.cell (b := w.heap.size + 1) (cs := #[.int .u8 (bk : Int), .int .i64 bi, .string bz]) (t := 24) (fr := (0, 0)) (List.mem_cons_self ..) 1
  have f0_2 : w2.cell? ⟨w.heap.size + 1, 2, none⟩ = some (.string bz) := H2.out.cell (b := w.heap.size + 1) (cs := #[.int .u8 (bk : Int), .int .i64 bi, .string bz]) (t := 24) (fr := (0, 0)) (List.mem_cons_self ..) 2
  have z0 : w.heap.size + 1 < w2.heap.size := lt_of_block (H2.out.get (b := w.heap.size + 1) (o := .cells #[.int .u8 (bk : Int), .int .i64 bi, .string bz] 24 (0, 0)) (List.mem_cons_self ..))
  have f1_0 : w2.cell? ⟨w.heap.size, 0, none⟩ = some (.int .u8 (ak : Int)) := H2.out.cell (b := w.heap.size) (cs := #[.int .u8 (ak : Int), .int .i64 ai, .string az]) (t := 24) (fr := (0, 0)) (List.mem_cons_of_mem _ (List.mem_cons_self ..)) 0
  have f1_1 : w2.cell? ⟨w.heap.size, 1, none⟩ = some (.int .i64 ai) := H2.out.cell (b := w.heap.size) (cs := #[.int .u8 (ak : Int), .int .i64 ai, .string az]) (t := 24) (fr := (0, 0)) (List.mem_cons_of_mem _ (List.mem_cons_self ..)) 1
  have f1_2 : w2.cell? ⟨w.heap.size, 2, none⟩ = some (.string az) := H2.out.cell (b := w.heap.size) (cs := #[.int .u8 (ak : Int), .int .i64 ai, .string az]) (t := 24) (fr := (0, 0)) (List.mem_cons_of_mem _ (List.mem_cons_self ..)) 2
  have z1 : w.heap.size < w2.heap.size := lt_of_block (H2.out.get (b := w.heap.size) (o := .cells #[.int .u8 (ak : Int), .int .i64 ai, .string az] 24 (0, 0)) (List.mem_cons_of_mem _ (List.mem_cons_self ..)))
  go_wp2_with fail
  have HL := Lib.hid (H2.out.add (below_alloc w2 (.cells #[.int .u8 5, .int .u8 7, .int .u8 11, .int .u8 12, .int .u8 17, .int .u8 18] 42)) (Nat.le_refl _) (heap_alloc_new _ _))
  clear f0_0 f0_1 f0_2 z0 f1_0 f1_1 f1_2 z1
  go_loopw [6] (fun i wr => ∃ k : Nat, k ≤ 6 ∧ i = .int .i64 k ∧ Hid (Fam w [(w2.heap.size, .cells #[.int .u8 5, .int .u8 7, .int .u8 11, .int .u8 12, .int .u8 17, .int .u8 18] 42 (0, 0)), (w.heap.size + 1, .cells #[.int .u8 (bk : Int), .int .i64 bi, .string bz] 24 (0, 0)), (w.heap.size, .cells #[.int .u8 (ak : Int), .int .i64 ai, .string az] 24 (0, 0))] wr)) (fun i _ => 6 - (RowKit.intOf i).toNat)
  case atStart => exact ⟨0, by omega, rfl, HL⟩
  case round =>
    obtain ⟨k, hk, rfl, HK⟩ := hrel
    clear HL
    by_cases hlt : k < 6
    · obtain ⟨op, hcell, hop, hsw⟩ := ops_at k hlt
      obtain ⟨r, hr⟩ : ∃ r, Val.two op ⟨ak, ai, az⟩ ⟨bk, bi, bz⟩ = r := ⟨_, rfl⟩
      have hr2 : Val.two op ⟨bk, bi, bz⟩ ⟨ak, ai, az⟩ = r := (same_swap _ _ (by omega)).symm.trans hr
      have HR := Lib.hid hr
      have HR2 := Lib.hid hr2
      clear hr hr2 hsw
      have s0 : wr.cell? ⟨w2.heap.size, k, none⟩ = some (.int .u8 (op : Int)) := (HK.out.cell (b := w2.heap.size) (cs := #[.int .u8 5, .int .u8 7, .int .u8 11, .int .u8 12, .int .u8 17, .int .u8 18]) (t := 42) (fr := (0, 0)) (List.mem_cons_self ..) k).trans hcell
      have s1 : wr.cell? ⟨w.heap.size + 1, 0, none⟩ = some (.int .u8 (bk : Int)) := HK.out.cell (b := w.heap.size + 1) (cs := #[.int .u8 (bk : Int), .int .i64 bi, .string bz]) (t := 24) (fr := (0, 0)) (List.mem_cons_of_mem _ (List.mem_cons_self ..)) 0
      have s2 : wr.cell? ⟨w.heap.size + 1, 1, none⟩ = some (.int .i64 bi) := HK.out.cell (b := w.heap.size + 1) (cs := #[.int .u8 (bk : Int), .int .i64 bi, .string bz]) (t := 24) (fr := (0, 0)) (List.mem_cons_of_mem _ (List.mem_cons_self ..)) 1
      have s3 : wr.cell? ⟨w.heap.size + 1, 2, none⟩ = some (.string bz) := HK.out.cell (b := w.heap.size + 1) (cs := #[.int .u8 (bk : Int), .int .i64 bi, .string bz]) (t := 24) (fr := (0, 0)) (List.mem_cons_of_mem _ (List.mem_cons_self ..)) 2
      have s4 : wr.cell? ⟨w.heap.size, 0, none⟩ = some (.int .u8 (ak : Int)) := HK.out.cell (b := w.heap.size) (cs := #[.int .u8 (ak : Int), .int .i64 ai, .string az]) (t := 24) (fr := (0, 0)) (List.mem_cons_of_mem _ (List.mem_cons_of_mem _ (List.mem_cons_self ..))) 0
      have s5 : wr.cell? ⟨w.heap.size, 1, none⟩ = some (.int .i64 ai) := HK.out.cell (b := w.heap.size) (cs := #[.int .u8 (ak : Int), .int .i64 ai, .string az]) (t := 24) (fr := (0, 0)) (List.mem_cons_of_mem _ (List.mem_cons_of_mem _ (List.mem_cons_self ..))) 1
      have s6 : wr.cell? ⟨w.heap.size, 2, none⟩ = some (.string az) := HK.out.cell (b := w.heap.size) (cs := #[.int .u8 (ak : Int), .int .i64 ai, .string az]) (t := 24) (fr := (0, 0)) (List.mem_cons_of_mem _ (List.mem_cons_of_mem _ (List.mem_cons_self ..))) 2
      have q0 : w2.heap.size < wr.heap.size := lt_of_block (HK.out.get (b := w2.heap.size) (o := .cells #[.int .u8 5, .int .u8 7, .int .u8 11, .int .u8 12, .int .u8 17, .int .u8 18] 42 (0, 0)) (List.mem_cons_self ..))
      have q1 : w.heap.size + 1 < wr.heap.size := lt_of_block (HK.out.get (b := w.heap.size + 1) (o := .cells #[.int .u8 (bk : Int), .int .i64 bi, .string bz] 24 (0, 0)) (List.mem_cons_of_mem _ (List.mem_cons_self ..)))
      have q2 : w.heap.size < wr.heap.size := lt_of_block (HK.out.get (b := w.heap.size) (o := .cells #[.int .u8 (ak : Int), .int .i64 ai, .string az] 24 (0, 0)) (List.mem_cons_of_mem _ (List.mem_cons_of_mem _ (List.mem_cons_self ..))))
      go_wp2_with fail
      go_region_held3 (fun x => x.cell? ⟨w2.heap.size, k, none⟩ = some (.int .u8 (op : Int)) ∧ x.cell? ⟨w.heap.size + 1, 0, none⟩ = some (.int .u8 (bk : Int)) ∧ x.cell? ⟨w.heap.size + 1, 1, none⟩ = some (.int .i64 bi) ∧ x.cell? ⟨w.heap.size + 1, 2, none⟩ = some (.string bz) ∧ x.cell? ⟨w.heap.size, 0, none⟩ = some (.int .u8 (ak : Int)) ∧ x.cell? ⟨w.heap.size, 1, none⟩ = some (.int .i64 ai) ∧ x.cell? ⟨w.heap.size, 2, none⟩ = some (.string az)) (first | exact ⟨s0, s1, s2, s3, s4, s5, s6⟩ | exact ⟨keep_alloc s0, keep_alloc s1, keep_alloc s2, keep_alloc s3, keep_alloc s4, keep_alloc s5, keep_alloc s6⟩ | exact SS.out | exact ⟨keep_alloc SS.out.1, keep_alloc SS.out.2.1, keep_alloc SS.out.2.2.1, keep_alloc SS.out.2.2.2.1, keep_alloc SS.out.2.2.2.2.1, keep_alloc SS.out.2.2.2.2.2.1, keep_alloc SS.out.2.2.2.2.2.2⟩ | exact ⟨(set3_other (by omega) _ _ _ _).trans SS.out.1, (set3_other (by omega) _ _ _ _).trans SS.out.2.1, (set3_other (by omega) _ _ _ _).trans SS.out.2.2.1, (set3_other (by omega) _ _ _ _).trans SS.out.2.2.2.1, (set3_other (by omega) _ _ _ _).trans SS.out.2.2.2.2.1, (set3_other (by omega) _ _ _ _).trans SS.out.2.2.2.2.2.1, (set3_other (by omega) _ _ _ _).trans SS.out.2.2.2.2.2.2⟩) ((first | (go_at_call 20; refine (two_r op ak ai az bk bi bz r hop akb bkb ai0 ai1 bi0 bi1 HR.out wr.drew (HW.out _ HK.out.below.drew)).mono ?_; rintro e v1 ⟨rfl, hb⟩; have HV := Lib.hid (HK.out.kept (below_drew hb)); clear hb; have t0 : v1.cell? ⟨w2.heap.size, k, none⟩ = some (.int .u8 (op : Int)) := (HV.out.cell (b := w2.heap.size) (cs := #[.int .u8 5, .int .u8 7, .int .u8 11, .int .u8 12, .int .u8 17, .int .u8 18]) (t := 42) (fr := (0, 0)) (List.mem_cons_self ..) k).trans hcell; have t1 : v1.cell? ⟨w.heap.size + 1, 0, none⟩ = some (.int .u8 (bk : Int)) := HV.out.cell (b := w.heap.size + 1) (cs := #[.int .u8 (bk : Int), .int .i64 bi, .string bz]) (t := 24) (fr := (0, 0)) (List.mem_cons_of_mem _ (List.mem_cons_self ..)) 0; have t2 : v1.cell? ⟨w.heap.size + 1, 1, none⟩ = some (.int .i64 bi) := HV.out.cell (b := w.heap.size + 1) (cs := #[.int .u8 (bk : Int), .int .i64 bi, .string bz]) (t := 24) (fr := (0, 0)) (List.mem_cons_of_mem _ (List.mem_cons_self ..)) 1; have t3 : v1.cell? ⟨w.heap.size + 1, 2, none⟩ = some (.string bz) := HV.out.cell (b := w.heap.size + 1) (cs := #[.int .u8 (bk : Int), .int .i64 bi, .string bz]) (t := 24) (fr := (0, 0)) (List.mem_cons_of_mem _ (List.mem_cons_self ..)) 2; have t4 : v1.cell? ⟨w.heap.size, 0, none⟩ = some (.int .u8 (ak : Int)) := HV.out.cell (b := w.heap.size) (cs := #[.int .u8 (ak : Int), .int .i64 ai, .string az]) (t := 24) (fr := (0, 0)) (List.mem_cons_of_mem _ (List.mem_cons_of_mem _ (List.mem_cons_self ..))) 0; have t5 : v1.cell? ⟨w.heap.size, 1, none⟩ = some (.int .i64 ai) := HV.out.cell (b := w.heap.size) (cs := #[.int .u8 (ak : Int), .int .i64 ai, .string az]) (t := 24) (fr := (0, 0)) (List.mem_cons_of_mem _ (List.mem_cons_of_mem _ (List.mem_cons_self ..))) 1; have t6 : v1.cell? ⟨w.heap.size, 2, none⟩ = some (.string az) := HV.out.cell (b := w.heap.size) (cs := #[.int .u8 (ak : Int), .int .i64 ai, .string az]) (t := 24) (fr := (0, 0)) (List.mem_cons_of_mem _ (List.mem_cons_of_mem _ (List.mem_cons_self ..))) 2; have SS := Lib.hid (And.intro t0 (And.intro t1 (And.intro t2 (And.intro t3 (And.intro t4 (And.intro t5 t6)))))); clear t0 t1 t2 t3 t4 t5 t6) | (go_at_call 20; refine (two_r op ak ai az bk bi bz r hop akb bkb ai0 ai1 bi0 bi1 HR.out (wr.alloc (.cells #[.int .u8 0, .int .i64 0, .string ⟨#[]⟩] 24)).drew (HW.out _ (HK.out.add (below_alloc wr (.cells #[.int .u8 0, .int .i64 0, .string ⟨#[]⟩] 24)) (Nat.le_refl _) (heap_alloc_new _ _)).below.drew)).mono ?_; rintro e v1 ⟨rfl, hb⟩; have HV := Lib.hid ((HK.out.add (below_alloc wr (.cells #[.int .u8 0, .int .i64 0, .string ⟨#[]⟩] 24)) (Nat.le_refl _) (heap_alloc_new _ _)).kept (below_drew hb)); clear hb; have t0 : v1.cell? ⟨w2.heap.size, k, none⟩ = some (.int .u8 (op : Int)) := (HV.out.cell (b := w2.heap.size) (cs := #[.int .u8 5, .int .u8 7, .int .u8 11, .int .u8 12, .int .u8 17, .int .u8 18]) (t := 42) (fr := (0, 0)) (List.mem_cons_of_mem _ (List.mem_cons_self ..)) k).trans hcell; have t1 : v1.cell? ⟨w.heap.size + 1, 0, none⟩ = some (.int .u8 (bk : Int)) := HV.out.cell (b := w.heap.size + 1) (cs := #[.int .u8 (bk : Int), .int .i64 bi, .string bz]) (t := 24) (fr := (0, 0)) (List.mem_cons_of_mem _ (List.mem_cons_of_mem _ (List.mem_cons_self ..))) 0; have t2 : v1.cell? ⟨w.heap.size + 1, 1, none⟩ = some (.int .i64 bi) := HV.out.cell (b := w.heap.size + 1) (cs := #[.int .u8 (bk : Int), .int .i64 bi, .string bz]) (t := 24) (fr := (0, 0)) (List.mem_cons_of_mem _ (List.mem_cons_of_mem _ (List.mem_cons_self ..))) 1; have t3 : v1.cell? ⟨w.heap.size + 1, 2, none⟩ = some (.string bz) := HV.out.cell (b := w.heap.size + 1) (cs := #[.int .u8 (bk : Int), .int .i64 bi, .string bz]) (t := 24) (fr := (0, 0)) (List.mem_cons_of_mem _ (List.mem_cons_of_mem _ (List.mem_cons_self ..))) 2; have t4 : v1.cell? ⟨w.heap.size, 0, none⟩ = some (.int .u8 (ak : Int)) := HV.out.cell (b := w.heap.size) (cs := #[.int .u8 (ak : Int), .int .i64 ai, .string az]) (t := 24) (fr := (0, 0)) (List.mem_cons_of_mem _ (List.mem_cons_of_mem _ (List.mem_cons_of_mem _ (List.mem_cons_self ..)))) 0; have t5 : v1.cell? ⟨w.heap.size, 1, none⟩ = some (.int .i64 ai) := HV.out.cell (b := w.heap.size) (cs := #[.int .u8 (ak : Int), .int .i64 ai, .string az]) (t := 24) (fr := (0, 0)) (List.mem_cons_of_mem _ (List.mem_cons_of_mem _ (List.mem_cons_of_mem _ (List.mem_cons_self ..)))) 1; have t6 : v1.cell? ⟨w.heap.size, 2, none⟩ = some (.string az) := HV.out.cell (b := w.heap.size) (cs := #[.int .u8 (ak : Int), .int .i64 ai, .string az]) (t := 24) (fr := (0, 0)) (List.mem_cons_of_mem _ (List.mem_cons_of_mem _ (List.mem_cons_of_mem _ (List.mem_cons_self ..)))) 2; have r0 : v1.cell? ⟨wr.heap.size, 0, none⟩ = some (.int .u8 0) := HV.out.cell (b := wr.heap.size) (cs := #[.int .u8 0, .int .i64 0, .string ⟨#[]⟩]) (t := 24) (fr := (0, 0)) (List.mem_cons_self ..) 0; have r1 : v1.cell? ⟨wr.heap.size, 1, none⟩ = some (.int .i64 0) := HV.out.cell (b := wr.heap.size) (cs := #[.int .u8 0, .int .i64 0, .string ⟨#[]⟩]) (t := 24) (fr := (0, 0)) (List.mem_cons_self ..) 1; have r2 : v1.cell? ⟨wr.heap.size, 2, none⟩ = some (.string ⟨#[]⟩) := HV.out.cell (b := wr.heap.size) (cs := #[.int .u8 0, .int .i64 0, .string ⟨#[]⟩]) (t := 24) (fr := (0, 0)) (List.mem_cons_self ..) 2; have f0 : v1.frozen? ⟨wr.heap.size, 0, none⟩ = false := HV.out.free (b := wr.heap.size) (cs := #[.int .u8 0, .int .i64 0, .string ⟨#[]⟩]) (t := 24) (List.mem_cons_self ..) 0; have f1 : v1.frozen? ⟨wr.heap.size, 1, none⟩ = false := HV.out.free (b := wr.heap.size) (cs := #[.int .u8 0, .int .i64 0, .string ⟨#[]⟩]) (t := 24) (List.mem_cons_self ..) 1; have f2 : v1.frozen? ⟨wr.heap.size, 2, none⟩ = false := HV.out.free (b := wr.heap.size) (cs := #[.int .u8 0, .int .i64 0, .string ⟨#[]⟩]) (t := 24) (List.mem_cons_self ..) 2; have z9 : wr.heap.size < v1.heap.size := lt_of_block (HV.out.get (b := wr.heap.size) (o := .cells #[.int .u8 0, .int .i64 0, .string ⟨#[]⟩] 24 (0, 0)) (List.mem_cons_self ..)); have SS := Lib.hid (And.intro t0 (And.intro t1 (And.intro t2 (And.intro t3 (And.intro t4 (And.intro t5 t6)))))); clear t0 t1 t2 t3 t4 t5 t6)))
      all_goals clear SS s0 s1 s2 s3 s4 s5 s6
      all_goals (first | (have HO := Lib.hid (HV.out.add (below_alloc v1 (.cells #[.int .u8 (r.1.k : Int), .int .i64 r.1.i, .string r.1.s] 24)) (Nat.le_refl _) (heap_alloc_new _ _)); obtain ⟨v2, ho⟩ : ∃ x, x = v1.alloc (.cells #[.int .u8 (r.1.k : Int), .int .i64 r.1.i, .string r.1.s] 24) := ⟨_, rfl⟩; rw [← ho] at HO ⊢; clear ho; obtain ⟨bx, hx⟩ : ∃ x, x = v1.heap.size := ⟨_, rfl⟩; rw [← hx] at HO ⊢; clear hx; clear HV; have HX := HO; clear HO) | (have HO := Lib.hid (HV.out.set3 (u0 := .int .u8 (r.1.k : Int)) (u1 := .int .i64 r.1.i) (u2 := .string r.1.s) (fun x hx => Nat.ne_of_lt (lt_of_block (HK.out.at_ x hx).2))); obtain ⟨v2, ho⟩ : ∃ x, x = ((v1.setCell ⟨wr.heap.size, 0, none⟩ (.int .u8 (r.1.k : Int))).setCell ⟨wr.heap.size, 1, none⟩ (.int .i64 r.1.i)).setCell ⟨wr.heap.size, 2, none⟩ (.string r.1.s) := ⟨_, rfl⟩; rw [← ho] at HO ⊢; clear ho r0 r1 r2 f0 f1 f2 z9; obtain ⟨bx, hx⟩ : ∃ x, x = wr.heap.size := ⟨_, rfl⟩; rw [← hx] at HO ⊢; clear hx; clear HV; have HX := HO; clear HO))
      all_goals clear q0 q1 q2
      all_goals
        have s0 : v2.cell? ⟨w2.heap.size, k, none⟩ = some (.int .u8 (op : Int)) := (HX.out.cell (b := w2.heap.size) (cs := #[.int .u8 5, .int .u8 7, .int .u8 11, .int .u8 12, .int .u8 17, .int .u8 18]) (t := 42) (fr := (0, 0)) (List.mem_cons_of_mem _ (List.mem_cons_self ..)) k).trans hcell
        have s1 : v2.cell? ⟨w.heap.size + 1, 0, none⟩ = some (.int .u8 (bk : Int)) := HX.out.cell (b := w.heap.size + 1) (cs := #[.int .u8 (bk : Int), .int .i64 bi, .string bz]) (t := 24) (fr := (0, 0)) (List.mem_cons_of_mem _ (List.mem_cons_of_mem _ (List.mem_cons_self ..))) 0
        have s2 : v2.cell? ⟨w.heap.size + 1, 1, none⟩ = some (.int .i64 bi) := HX.out.cell (b := w.heap.size + 1) (cs := #[.int .u8 (bk : Int), .int .i64 bi, .string bz]) (t := 24) (fr := (0, 0)) (List.mem_cons_of_mem _ (List.mem_cons_of_mem _ (List.mem_cons_self ..))) 1
        have s3 : v2.cell? ⟨w.heap.size + 1, 2, none⟩ = some (.string bz) := HX.out.cell (b := w.heap.size + 1) (cs := #[.int .u8 (bk : Int), .int .i64 bi, .string bz]) (t := 24) (fr := (0, 0)) (List.mem_cons_of_mem _ (List.mem_cons_of_mem _ (List.mem_cons_self ..))) 2
        have s4 : v2.cell? ⟨w.heap.size, 0, none⟩ = some (.int .u8 (ak : Int)) := HX.out.cell (b := w.heap.size) (cs := #[.int .u8 (ak : Int), .int .i64 ai, .string az]) (t := 24) (fr := (0, 0)) (List.mem_cons_of_mem _ (List.mem_cons_of_mem _ (List.mem_cons_of_mem _ (List.mem_cons_self ..)))) 0
        have s5 : v2.cell? ⟨w.heap.size, 1, none⟩ = some (.int .i64 ai) := HX.out.cell (b := w.heap.size) (cs := #[.int .u8 (ak : Int), .int .i64 ai, .string az]) (t := 24) (fr := (0, 0)) (List.mem_cons_of_mem _ (List.mem_cons_of_mem _ (List.mem_cons_of_mem _ (List.mem_cons_self ..)))) 1
        have s6 : v2.cell? ⟨w.heap.size, 2, none⟩ = some (.string az) := HX.out.cell (b := w.heap.size) (cs := #[.int .u8 (ak : Int), .int .i64 ai, .string az]) (t := 24) (fr := (0, 0)) (List.mem_cons_of_mem _ (List.mem_cons_of_mem _ (List.mem_cons_of_mem _ (List.mem_cons_self ..)))) 2
        have q0 : w2.heap.size < v2.heap.size := lt_of_block (HX.out.get (b := w2.heap.size) (o := .cells #[.int .u8 5, .int .u8 7, .int .u8 11, .int .u8 12, .int .u8 17, .int .u8 18] 42 (0, 0)) (List.mem_cons_of_mem _ (List.mem_cons_self ..)))
        have q1 : w.heap.size + 1 < v2.heap.size := lt_of_block (HX.out.get (b := w.heap.size + 1) (o := .cells #[.int .u8 (bk : Int), .int .i64 bi, .string bz] 24 (0, 0)) (List.mem_cons_of_mem _ (List.mem_cons_of_mem _ (List.mem_cons_self ..))))
        have q2 : w.heap.size < v2.heap.size := lt_of_block (HX.out.get (b := w.heap.size) (o := .cells #[.int .u8 (ak : Int), .int .i64 ai, .string az] 24 (0, 0)) (List.mem_cons_of_mem _ (List.mem_cons_of_mem _ (List.mem_cons_of_mem _ (List.mem_cons_self ..)))))
        go_wp2_with fail
        go_region_held3 (fun x => x.cell? ⟨w2.heap.size, k, none⟩ = some (.int .u8 (op : Int)) ∧ x.cell? ⟨w.heap.size + 1, 0, none⟩ = some (.int .u8 (bk : Int)) ∧ x.cell? ⟨w.heap.size + 1, 1, none⟩ = some (.int .i64 bi) ∧ x.cell? ⟨w.heap.size + 1, 2, none⟩ = some (.string bz) ∧ x.cell? ⟨w.heap.size, 0, none⟩ = some (.int .u8 (ak : Int)) ∧ x.cell? ⟨w.heap.size, 1, none⟩ = some (.int .i64 ai) ∧ x.cell? ⟨w.heap.size, 2, none⟩ = some (.string az)) (first | exact ⟨s0, s1, s2, s3, s4, s5, s6⟩ | exact ⟨keep_alloc s0, keep_alloc s1, keep_alloc s2, keep_alloc s3, keep_alloc s4, keep_alloc s5, keep_alloc s6⟩ | exact SS.out | exact ⟨keep_alloc SS.out.1, keep_alloc SS.out.2.1, keep_alloc SS.out.2.2.1, keep_alloc SS.out.2.2.2.1, keep_alloc SS.out.2.2.2.2.1, keep_alloc SS.out.2.2.2.2.2.1, keep_alloc SS.out.2.2.2.2.2.2⟩ | exact ⟨(set3_other (by omega) _ _ _ _).trans SS.out.1, (set3_other (by omega) _ _ _ _).trans SS.out.2.1, (set3_other (by omega) _ _ _ _).trans SS.out.2.2.1, (set3_other (by omega) _ _ _ _).trans SS.out.2.2.2.1, (set3_other (by omega) _ _ _ _).trans SS.out.2.2.2.2.1, (set3_other (by omega) _ _ _ _).trans SS.out.2.2.2.2.2.1, (set3_other (by omega) _ _ _ _).trans SS.out.2.2.2.2.2.2⟩) ((first | (go_at_call 20; refine (two_r op bk bi bz ak ai az r hop bkb akb bi0 bi1 ai0 ai1 HR2.out v2.drew (HW.out _ HX.out.below.drew)).mono ?_; rintro e v3 ⟨rfl, hb⟩; have HY := Lib.hid (HX.out.kept (below_drew hb)); clear hb; have t0 : v3.cell? ⟨w2.heap.size, k, none⟩ = some (.int .u8 (op : Int)) := (HY.out.cell (b := w2.heap.size) (cs := #[.int .u8 5, .int .u8 7, .int .u8 11, .int .u8 12, .int .u8 17, .int .u8 18]) (t := 42) (fr := (0, 0)) (List.mem_cons_of_mem _ (List.mem_cons_self ..)) k).trans hcell; have t1 : v3.cell? ⟨w.heap.size + 1, 0, none⟩ = some (.int .u8 (bk : Int)) := HY.out.cell (b := w.heap.size + 1) (cs := #[.int .u8 (bk : Int), .int .i64 bi, .string bz]) (t := 24) (fr := (0, 0)) (List.mem_cons_of_mem _ (List.mem_cons_of_mem _ (List.mem_cons_self ..))) 0; have t2 : v3.cell? ⟨w.heap.size + 1, 1, none⟩ = some (.int .i64 bi) := HY.out.cell (b := w.heap.size + 1) (cs := #[.int .u8 (bk : Int), .int .i64 bi, .string bz]) (t := 24) (fr := (0, 0)) (List.mem_cons_of_mem _ (List.mem_cons_of_mem _ (List.mem_cons_self ..))) 1; have t3 : v3.cell? ⟨w.heap.size + 1, 2, none⟩ = some (.string bz) := HY.out.cell (b := w.heap.size + 1) (cs := #[.int .u8 (bk : Int), .int .i64 bi, .string bz]) (t := 24) (fr := (0, 0)) (List.mem_cons_of_mem _ (List.mem_cons_of_mem _ (List.mem_cons_self ..))) 2; have t4 : v3.cell? ⟨w.heap.size, 0, none⟩ = some (.int .u8 (ak : Int)) := HY.out.cell (b := w.heap.size) (cs := #[.int .u8 (ak : Int), .int .i64 ai, .string az]) (t := 24) (fr := (0, 0)) (List.mem_cons_of_mem _ (List.mem_cons_of_mem _ (List.mem_cons_of_mem _ (List.mem_cons_self ..)))) 0; have t5 : v3.cell? ⟨w.heap.size, 1, none⟩ = some (.int .i64 ai) := HY.out.cell (b := w.heap.size) (cs := #[.int .u8 (ak : Int), .int .i64 ai, .string az]) (t := 24) (fr := (0, 0)) (List.mem_cons_of_mem _ (List.mem_cons_of_mem _ (List.mem_cons_of_mem _ (List.mem_cons_self ..)))) 1; have t6 : v3.cell? ⟨w.heap.size, 2, none⟩ = some (.string az) := HY.out.cell (b := w.heap.size) (cs := #[.int .u8 (ak : Int), .int .i64 ai, .string az]) (t := 24) (fr := (0, 0)) (List.mem_cons_of_mem _ (List.mem_cons_of_mem _ (List.mem_cons_of_mem _ (List.mem_cons_self ..)))) 2; have SS := Lib.hid (And.intro t0 (And.intro t1 (And.intro t2 (And.intro t3 (And.intro t4 (And.intro t5 t6)))))); clear t0 t1 t2 t3 t4 t5 t6) | (go_at_call 20; refine (two_r op bk bi bz ak ai az r hop bkb akb bi0 bi1 ai0 ai1 HR2.out (v2.alloc (.cells #[.int .u8 0, .int .i64 0, .string ⟨#[]⟩] 24)).drew (HW.out _ (HX.out.add (below_alloc v2 (.cells #[.int .u8 0, .int .i64 0, .string ⟨#[]⟩] 24)) (Nat.le_refl _) (heap_alloc_new _ _)).below.drew)).mono ?_; rintro e v3 ⟨rfl, hb⟩; have HY := Lib.hid ((HX.out.add (below_alloc v2 (.cells #[.int .u8 0, .int .i64 0, .string ⟨#[]⟩] 24)) (Nat.le_refl _) (heap_alloc_new _ _)).kept (below_drew hb)); clear hb; have t0 : v3.cell? ⟨w2.heap.size, k, none⟩ = some (.int .u8 (op : Int)) := (HY.out.cell (b := w2.heap.size) (cs := #[.int .u8 5, .int .u8 7, .int .u8 11, .int .u8 12, .int .u8 17, .int .u8 18]) (t := 42) (fr := (0, 0)) (List.mem_cons_of_mem _ (List.mem_cons_of_mem _ (List.mem_cons_self ..))) k).trans hcell; have t1 : v3.cell? ⟨w.heap.size + 1, 0, none⟩ = some (.int .u8 (bk : Int)) := HY.out.cell (b := w.heap.size + 1) (cs := #[.int .u8 (bk : Int), .int .i64 bi, .string bz]) (t := 24) (fr := (0, 0)) (List.mem_cons_of_mem _ (List.mem_cons_of_mem _ (List.mem_cons_of_mem _ (List.mem_cons_self ..)))) 0; have t2 : v3.cell? ⟨w.heap.size + 1, 1, none⟩ = some (.int .i64 bi) := HY.out.cell (b := w.heap.size + 1) (cs := #[.int .u8 (bk : Int), .int .i64 bi, .string bz]) (t := 24) (fr := (0, 0)) (List.mem_cons_of_mem _ (List.mem_cons_of_mem _ (List.mem_cons_of_mem _ (List.mem_cons_self ..)))) 1; have t3 : v3.cell? ⟨w.heap.size + 1, 2, none⟩ = some (.string bz) := HY.out.cell (b := w.heap.size + 1) (cs := #[.int .u8 (bk : Int), .int .i64 bi, .string bz]) (t := 24) (fr := (0, 0)) (List.mem_cons_of_mem _ (List.mem_cons_of_mem _ (List.mem_cons_of_mem _ (List.mem_cons_self ..)))) 2; have t4 : v3.cell? ⟨w.heap.size, 0, none⟩ = some (.int .u8 (ak : Int)) := HY.out.cell (b := w.heap.size) (cs := #[.int .u8 (ak : Int), .int .i64 ai, .string az]) (t := 24) (fr := (0, 0)) (List.mem_cons_of_mem _ (List.mem_cons_of_mem _ (List.mem_cons_of_mem _ (List.mem_cons_of_mem _ (List.mem_cons_self ..))))) 0; have t5 : v3.cell? ⟨w.heap.size, 1, none⟩ = some (.int .i64 ai) := HY.out.cell (b := w.heap.size) (cs := #[.int .u8 (ak : Int), .int .i64 ai, .string az]) (t := 24) (fr := (0, 0)) (List.mem_cons_of_mem _ (List.mem_cons_of_mem _ (List.mem_cons_of_mem _ (List.mem_cons_of_mem _ (List.mem_cons_self ..))))) 1; have t6 : v3.cell? ⟨w.heap.size, 2, none⟩ = some (.string az) := HY.out.cell (b := w.heap.size) (cs := #[.int .u8 (ak : Int), .int .i64 ai, .string az]) (t := 24) (fr := (0, 0)) (List.mem_cons_of_mem _ (List.mem_cons_of_mem _ (List.mem_cons_of_mem _ (List.mem_cons_of_mem _ (List.mem_cons_self ..))))) 2; have r0 : v3.cell? ⟨v2.heap.size, 0, none⟩ = some (.int .u8 0) := HY.out.cell (b := v2.heap.size) (cs := #[.int .u8 0, .int .i64 0, .string ⟨#[]⟩]) (t := 24) (fr := (0, 0)) (List.mem_cons_self ..) 0; have r1 : v3.cell? ⟨v2.heap.size, 1, none⟩ = some (.int .i64 0) := HY.out.cell (b := v2.heap.size) (cs := #[.int .u8 0, .int .i64 0, .string ⟨#[]⟩]) (t := 24) (fr := (0, 0)) (List.mem_cons_self ..) 1; have r2 : v3.cell? ⟨v2.heap.size, 2, none⟩ = some (.string ⟨#[]⟩) := HY.out.cell (b := v2.heap.size) (cs := #[.int .u8 0, .int .i64 0, .string ⟨#[]⟩]) (t := 24) (fr := (0, 0)) (List.mem_cons_self ..) 2; have f0 : v3.frozen? ⟨v2.heap.size, 0, none⟩ = false := HY.out.free (b := v2.heap.size) (cs := #[.int .u8 0, .int .i64 0, .string ⟨#[]⟩]) (t := 24) (List.mem_cons_self ..) 0; have f1 : v3.frozen? ⟨v2.heap.size, 1, none⟩ = false := HY.out.free (b := v2.heap.size) (cs := #[.int .u8 0, .int .i64 0, .string ⟨#[]⟩]) (t := 24) (List.mem_cons_self ..) 1; have f2 : v3.frozen? ⟨v2.heap.size, 2, none⟩ = false := HY.out.free (b := v2.heap.size) (cs := #[.int .u8 0, .int .i64 0, .string ⟨#[]⟩]) (t := 24) (List.mem_cons_self ..) 2; have z9 : v2.heap.size < v3.heap.size := lt_of_block (HY.out.get (b := v2.heap.size) (o := .cells #[.int .u8 0, .int .i64 0, .string ⟨#[]⟩] 24 (0, 0)) (List.mem_cons_self ..)); have SS := Lib.hid (And.intro t0 (And.intro t1 (And.intro t2 (And.intro t3 (And.intro t4 (And.intro t5 t6)))))); clear t0 t1 t2 t3 t4 t5 t6)))
        all_goals clear SS s0 s1 s2 s3 s4 s5 s6
        all_goals (first | (have HO := Lib.hid (HY.out.add (below_alloc v3 (.cells #[.int .u8 (r.1.k : Int), .int .i64 r.1.i, .string r.1.s] 24)) (Nat.le_refl _) (heap_alloc_new _ _)); obtain ⟨v4, ho⟩ : ∃ x, x = v3.alloc (.cells #[.int .u8 (r.1.k : Int), .int .i64 r.1.i, .string r.1.s] 24) := ⟨_, rfl⟩; rw [← ho] at HO ⊢; clear ho; obtain ⟨by_, hx⟩ : ∃ x, x = v3.heap.size := ⟨_, rfl⟩; rw [← hx] at HO ⊢; clear hx; clear HY; have HZZ := HO; clear HO) | (have HO := Lib.hid (HY.out.set3 (u0 := .int .u8 (r.1.k : Int)) (u1 := .int .i64 r.1.i) (u2 := .string r.1.s) (fun x hx => Nat.ne_of_lt (lt_of_block (HX.out.at_ x hx).2))); obtain ⟨v4, ho⟩ : ∃ x, x = ((v3.setCell ⟨v2.heap.size, 0, none⟩ (.int .u8 (r.1.k : Int))).setCell ⟨v2.heap.size, 1, none⟩ (.int .i64 r.1.i)).setCell ⟨v2.heap.size, 2, none⟩ (.string r.1.s) := ⟨_, rfl⟩; rw [← ho] at HO ⊢; clear ho r0 r1 r2 f0 f1 f2 z9; obtain ⟨by_, hx⟩ : ∃ x, x = v2.heap.size := ⟨_, rfl⟩; rw [← hx] at HO ⊢; clear hx; clear HY; have HZZ := HO; clear HO))
        all_goals clear q0 q1 q2
        all_goals
          have y0 : v4.cell? ⟨by_, 0, none⟩ = some (.int .u8 (r.1.k : Int)) := HZZ.out.cell (b := by_) (cs := #[.int .u8 (r.1.k : Int), .int .i64 r.1.i, .string r.1.s]) (t := 24) (fr := (0, 0)) (List.mem_cons_self ..) 0
          have y1 : v4.cell? ⟨by_, 1, none⟩ = some (.int .i64 r.1.i) := HZZ.out.cell (b := by_) (cs := #[.int .u8 (r.1.k : Int), .int .i64 r.1.i, .string r.1.s]) (t := 24) (fr := (0, 0)) (List.mem_cons_self ..) 1
          have y2 : v4.cell? ⟨by_, 2, none⟩ = some (.string r.1.s) := HZZ.out.cell (b := by_) (cs := #[.int .u8 (r.1.k : Int), .int .i64 r.1.i, .string r.1.s]) (t := 24) (fr := (0, 0)) (List.mem_cons_self ..) 2
          have zy : by_ < v4.heap.size := lt_of_block (HZZ.out.get (b := by_) (o := .cells #[.int .u8 (r.1.k : Int), .int .i64 r.1.i, .string r.1.s] 24 (0, 0)) (List.mem_cons_self ..))
          have x0 : v4.cell? ⟨bx, 0, none⟩ = some (.int .u8 (r.1.k : Int)) := HZZ.out.cell (b := bx) (cs := #[.int .u8 (r.1.k : Int), .int .i64 r.1.i, .string r.1.s]) (t := 24) (fr := (0, 0)) (List.mem_cons_of_mem _ (List.mem_cons_self ..)) 0
          have x1 : v4.cell? ⟨bx, 1, none⟩ = some (.int .i64 r.1.i) := HZZ.out.cell (b := bx) (cs := #[.int .u8 (r.1.k : Int), .int .i64 r.1.i, .string r.1.s]) (t := 24) (fr := (0, 0)) (List.mem_cons_of_mem _ (List.mem_cons_self ..)) 1
          have x2 : v4.cell? ⟨bx, 2, none⟩ = some (.string r.1.s) := HZZ.out.cell (b := bx) (cs := #[.int .u8 (r.1.k : Int), .int .i64 r.1.i, .string r.1.s]) (t := 24) (fr := (0, 0)) (List.mem_cons_of_mem _ (List.mem_cons_self ..)) 2
          have zx : bx < v4.heap.size := lt_of_block (HZZ.out.get (b := bx) (o := .cells #[.int .u8 (r.1.k : Int), .int .i64 r.1.i, .string r.1.s] 24 (0, 0)) (List.mem_cons_of_mem _ (List.mem_cons_self ..)))
          have HZ := Lib.hid HZZ.out.tail.tail
          go_wp2
          go_roundw
          case rel => exact ⟨k + 1, by omega, by go_num, HZ⟩
          case measure => simp [RowKit.intOf]; omega
    · obtain rfl : k = 6 := by omega
      obtain ⟨p, hp⟩ : ∃ r, Val.two 13 ⟨ak, ai, az⟩ ⟨bk, bi, bz⟩ = r := ⟨_, rfl⟩
      have hp2 : Val.two 15 ⟨bk, bi, bz⟩ ⟨ak, ai, az⟩ = p := (order_swap (by omega)).symm.trans hp
      obtain ⟨q, hq⟩ : ∃ r, Val.two 14 ⟨ak, ai, az⟩ ⟨bk, bi, bz⟩ = r := ⟨_, rfl⟩
      have hq2 : Val.two 16 ⟨bk, bi, bz⟩ ⟨ak, ai, az⟩ = q := (order_swap (by omega)).symm.trans hq
      have Khp := Lib.hid hp
      have Khp2 := Lib.hid hp2
      have Khq := Lib.hid hq
      have Khq2 := Lib.hid hq2
      clear hp hp2 hq hq2
      obtain ⟨w3, hw3⟩ : ∃ w3, w3 = wr := ⟨_, rfl⟩
      subst hw3
      have H3 := Lib.hid HK.out.tail
      clear HK
      have f0_0 : w3.cell? ⟨w.heap.size + 1, 0, none⟩ = some (.int .u8 (bk : Int)) := H3.out.cell (b := w.heap.size + 1) (cs := #[.int .u8 (bk : Int), .int .i64 bi, .string bz]) (t := 24) (fr := (0, 0)) (List.mem_cons_self ..) 0
      have f0_1 : w3.cell? ⟨w.heap.size + 1, 1, none⟩ = some (.int .i64 bi) := H3.out.cell (b := w.heap.size + 1) (cs := #[.int .u8 (bk : Int), .int .i64 bi, .string bz]) (t := 24) (fr := (0, 0)) (List.mem_cons_self ..) 1
      have f0_2 : w3.cell? ⟨w.heap.size + 1, 2, none⟩ = some (.string bz) := H3.out.cell (b := w.heap.size + 1) (cs := #[.int .u8 (bk : Int), .int .i64 bi, .string bz]) (t := 24) (fr := (0, 0)) (List.mem_cons_self ..) 2
      have z0 : w.heap.size + 1 < w3.heap.size := lt_of_block (H3.out.get (b := w.heap.size + 1) (o := .cells #[.int .u8 (bk : Int), .int .i64 bi, .string bz] 24 (0, 0)) (List.mem_cons_self ..))
      have f1_0 : w3.cell? ⟨w.heap.size, 0, none⟩ = some (.int .u8 (ak : Int)) := H3.out.cell (b := w.heap.size) (cs := #[.int .u8 (ak : Int), .int .i64 ai, .string az]) (t := 24) (fr := (0, 0)) (List.mem_cons_of_mem _ (List.mem_cons_self ..)) 0
      have f1_1 : w3.cell? ⟨w.heap.size, 1, none⟩ = some (.int .i64 ai) := H3.out.cell (b := w.heap.size) (cs := #[.int .u8 (ak : Int), .int .i64 ai, .string az]) (t := 24) (fr := (0, 0)) (List.mem_cons_of_mem _ (List.mem_cons_self ..)) 1
      have f1_2 : w3.cell? ⟨w.heap.size, 2, none⟩ = some (.string az) := H3.out.cell (b := w.heap.size) (cs := #[.int .u8 (ak : Int), .int .i64 ai, .string az]) (t := 24) (fr := (0, 0)) (List.mem_cons_of_mem _ (List.mem_cons_self ..)) 2
      have z1 : w.heap.size < w3.heap.size := lt_of_block (H3.out.get (b := w.heap.size) (o := .cells #[.int .u8 (ak : Int), .int .i64 ai, .string az] 24 (0, 0)) (List.mem_cons_of_mem _ (List.mem_cons_self ..)))
      go_wp2_with fail
      refine (two_r 13 ak ai az bk bi bz p (by omega) akb bkb ai0 ai1 bi0 bi1 Khp.out _ (HW.out _ H3.out.below)).mono ?_
      rintro e w4 ⟨rfl, hb⟩
      have H4 := Lib.hid (H3.out.kept hb)
      clear f0_0 f0_1 f0_2 z0 f1_0 f1_1 f1_2 z1
      clear hb 
      have f0_0 : w4.cell? ⟨w.heap.size + 1, 0, none⟩ = some (.int .u8 (bk : Int)) := H4.out.cell (b := w.heap.size + 1) (cs := #[.int .u8 (bk : Int), .int .i64 bi, .string bz]) (t := 24) (fr := (0, 0)) (List.mem_cons_self ..) 0
      have f0_1 : w4.cell? ⟨w.heap.size + 1, 1, none⟩ = some (.int .i64 bi) := H4.out.cell (b := w.heap.size + 1) (cs := #[.int .u8 (bk : Int), .int .i64 bi, .string bz]) (t := 24) (fr := (0, 0)) (List.mem_cons_self ..) 1
      have f0_2 : w4.cell? ⟨w.heap.size + 1, 2, none⟩ = some (.string bz) := H4.out.cell (b := w.heap.size + 1) (cs := #[.int .u8 (bk : Int), .int .i64 bi, .string bz]) (t := 24) (fr := (0, 0)) (List.mem_cons_self ..) 2
      have z0 : w.heap.size + 1 < w4.heap.size := lt_of_block (H4.out.get (b := w.heap.size + 1) (o := .cells #[.int .u8 (bk : Int), .int .i64 bi, .string bz] 24 (0, 0)) (List.mem_cons_self ..))
      have f1_0 : w4.cell? ⟨w.heap.size, 0, none⟩ = some (.int .u8 (ak : Int)) := H4.out.cell (b := w.heap.size) (cs := #[.int .u8 (ak : Int), .int .i64 ai, .string az]) (t := 24) (fr := (0, 0)) (List.mem_cons_of_mem _ (List.mem_cons_self ..)) 0
      have f1_1 : w4.cell? ⟨w.heap.size, 1, none⟩ = some (.int .i64 ai) := H4.out.cell (b := w.heap.size) (cs := #[.int .u8 (ak : Int), .int .i64 ai, .string az]) (t := 24) (fr := (0, 0)) (List.mem_cons_of_mem _ (List.mem_cons_self ..)) 1
      have f1_2 : w4.cell? ⟨w.heap.size, 2, none⟩ = some (.string az) := H4.out.cell (b := w.heap.size) (cs := #[.int .u8 (ak : Int), .int .i64 ai, .string az]) (t := 24) (fr := (0, 0)) (List.mem_cons_of_mem _ (List.mem_cons_self ..)) 2
      have z1 : w.heap.size < w4.heap.size := lt_of_block (H4.out.get (b := w.heap.size) (o := .cells #[.int .u8 (ak : Int), .int .i64 ai, .string az] 24 (0, 0)) (List.mem_cons_of_mem _ (List.mem_cons_self ..)))
      go_wp2_with fail
      have HA0 := Lib.hid (H4.out.add (below_alloc w4 (.cells #[.int .u8 (p.1.k : Int), .int .i64 p.1.i, .string p.1.s] 24)) (Nat.le_refl _) (heap_alloc_new _ _))
      refine (two_r 15 bk bi bz ak ai az p (by omega) bkb akb bi0 bi1 ai0 ai1 Khp2.out _ (HW.out _ HA0.out.below)).mono ?_
      rintro e w5 ⟨rfl, hb⟩
      have H5 := Lib.hid (HA0.out.kept hb)
      clear f0_0 f0_1 f0_2 z0 f1_0 f1_1 f1_2 z1
      clear hb HA0
      have f0_0 : w5.cell? ⟨w4.heap.size, 0, none⟩ = some (.int .u8 (p.1.k : Int)) := H5.out.cell (b := w4.heap.size) (cs := #[.int .u8 (p.1.k : Int), .int .i64 p.1.i, .string p.1.s]) (t := 24) (fr := (0, 0)) (List.mem_cons_self ..) 0
      have f0_1 : w5.cell? ⟨w4.heap.size, 1, none⟩ = some (.int .i64 p.1.i) := H5.out.cell (b := w4.heap.size) (cs := #[.int .u8 (p.1.k : Int), .int .i64 p.1.i, .string p.1.s]) (t := 24) (fr := (0, 0)) (List.mem_cons_self ..) 1
      have f0_2 : w5.cell? ⟨w4.heap.size, 2, none⟩ = some (.string p.1.s) := H5.out.cell (b := w4.heap.size) (cs := #[.int .u8 (p.1.k : Int), .int .i64 p.1.i, .string p.1.s]) (t := 24) (fr := (0, 0)) (List.mem_cons_self ..) 2
      have z0 : w4.heap.size < w5.heap.size := lt_of_block (H5.out.get (b := w4.heap.size) (o := .cells #[.int .u8 (p.1.k : Int), .int .i64 p.1.i, .string p.1.s] 24 (0, 0)) (List.mem_cons_self ..))
      have f1_0 : w5.cell? ⟨w.heap.size + 1, 0, none⟩ = some (.int .u8 (bk : Int)) := H5.out.cell (b := w.heap.size + 1) (cs := #[.int .u8 (bk : Int), .int .i64 bi, .string bz]) (t := 24) (fr := (0, 0)) (List.mem_cons_of_mem _ (List.mem_cons_self ..)) 0
      have f1_1 : w5.cell? ⟨w.heap.size + 1, 1, none⟩ = some (.int .i64 bi) := H5.out.cell (b := w.heap.size + 1) (cs := #[.int .u8 (bk : Int), .int .i64 bi, .string bz]) (t := 24) (fr := (0, 0)) (List.mem_cons_of_mem _ (List.mem_cons_self ..)) 1
      have f1_2 : w5.cell? ⟨w.heap.size + 1, 2, none⟩ = some (.string bz) := H5.out.cell (b := w.heap.size + 1) (cs := #[.int .u8 (bk : Int), .int .i64 bi, .string bz]) (t := 24) (fr := (0, 0)) (List.mem_cons_of_mem _ (List.mem_cons_self ..)) 2
      have z1 : w.heap.size + 1 < w5.heap.size := lt_of_block (H5.out.get (b := w.heap.size + 1) (o := .cells #[.int .u8 (bk : Int), .int .i64 bi, .string bz] 24 (0, 0)) (List.mem_cons_of_mem _ (List.mem_cons_self ..)))
      have f2_0 : w5.cell? ⟨w.heap.size, 0, none⟩ = some (.int .u8 (ak : Int)) := H5.out.cell (b := w.heap.size) (cs := #[.int .u8 (ak : Int), .int .i64 ai, .string az]) (t := 24) (fr := (0, 0)) (List.mem_cons_of_mem _ (List.mem_cons_of_mem _ (List.mem_cons_self ..))) 0
      have f2_1 : w5.cell? ⟨w.heap.size, 1, none⟩ = some (.int .i64 ai) := H5.out.cell (b := w.heap.size) (cs := #[.int .u8 (ak : Int), .int .i64 ai, .string az]) (t := 24) (fr := (0, 0)) (List.mem_cons_of_mem _ (List.mem_cons_of_mem _ (List.mem_cons_self ..))) 1
      have f2_2 : w5.cell? ⟨w.heap.size, 2, none⟩ = some (.string az) := H5.out.cell (b := w.heap.size) (cs := #[.int .u8 (ak : Int), .int .i64 ai, .string az]) (t := 24) (fr := (0, 0)) (List.mem_cons_of_mem _ (List.mem_cons_of_mem _ (List.mem_cons_self ..))) 2
      have z2 : w.heap.size < w5.heap.size := lt_of_block (H5.out.get (b := w.heap.size) (o := .cells #[.int .u8 (ak : Int), .int .i64 ai, .string az] 24 (0, 0)) (List.mem_cons_of_mem _ (List.mem_cons_of_mem _ (List.mem_cons_self ..))))
      go_wp2_with fail
      have HA0 := Lib.hid (H5.out.add (below_alloc w5 (.cells #[.int .u8 (p.1.k : Int), .int .i64 p.1.i, .string p.1.s] 24)) (Nat.le_refl _) (heap_alloc_new _ _))
      refine (two_r 14 ak ai az bk bi bz q (by omega) akb bkb ai0 ai1 bi0 bi1 Khq.out _ (HW.out _ HA0.out.below)).mono ?_
      rintro e w6 ⟨rfl, hb⟩
      have H6 := Lib.hid (HA0.out.kept hb)
      clear f0_0 f0_1 f0_2 z0 f1_0 f1_1 f1_2 z1 f2_0 f2_1 f2_2 z2
      clear hb HA0
      have f0_0 : w6.cell? ⟨w5.heap.size, 0, none⟩ = some (.int .u8 (p.1.k : Int)) := H6.out.cell (b := w5.heap.size) (cs := #[.int .u8 (p.1.k : Int), .int .i64 p.1.i, .string p.1.s]) (t := 24) (fr := (0, 0)) (List.mem_cons_self ..) 0
      have f0_1 : w6.cell? ⟨w5.heap.size, 1, none⟩ = some (.int .i64 p.1.i) := H6.out.cell (b := w5.heap.size) (cs := #[.int .u8 (p.1.k : Int), .int .i64 p.1.i, .string p.1.s]) (t := 24) (fr := (0, 0)) (List.mem_cons_self ..) 1
      have f0_2 : w6.cell? ⟨w5.heap.size, 2, none⟩ = some (.string p.1.s) := H6.out.cell (b := w5.heap.size) (cs := #[.int .u8 (p.1.k : Int), .int .i64 p.1.i, .string p.1.s]) (t := 24) (fr := (0, 0)) (List.mem_cons_self ..) 2
      have z0 : w5.heap.size < w6.heap.size := lt_of_block (H6.out.get (b := w5.heap.size) (o := .cells #[.int .u8 (p.1.k : Int), .int .i64 p.1.i, .string p.1.s] 24 (0, 0)) (List.mem_cons_self ..))
      have f1_0 : w6.cell? ⟨w4.heap.size, 0, none⟩ = some (.int .u8 (p.1.k : Int)) := H6.out.cell (b := w4.heap.size) (cs := #[.int .u8 (p.1.k : Int), .int .i64 p.1.i, .string p.1.s]) (t := 24) (fr := (0, 0)) (List.mem_cons_of_mem _ (List.mem_cons_self ..)) 0
      have f1_1 : w6.cell? ⟨w4.heap.size, 1, none⟩ = some (.int .i64 p.1.i) := H6.out.cell (b := w4.heap.size) (cs := #[.int .u8 (p.1.k : Int), .int .i64 p.1.i, .string p.1.s]) (t := 24) (fr := (0, 0)) (List.mem_cons_of_mem _ (List.mem_cons_self ..)) 1
      have f1_2 : w6.cell? ⟨w4.heap.size, 2, none⟩ = some (.string p.1.s) := H6.out.cell (b := w4.heap.size) (cs := #[.int .u8 (p.1.k : Int), .int .i64 p.1.i, .string p.1.s]) (t := 24) (fr := (0, 0)) (List.mem_cons_of_mem _ (List.mem_cons_self ..)) 2
      have z1 : w4.heap.size < w6.heap.size := lt_of_block (H6.out.get (b := w4.heap.size) (o := .cells #[.int .u8 (p.1.k : Int), .int .i64 p.1.i, .string p.1.s] 24 (0, 0)) (List.mem_cons_of_mem _ (List.mem_cons_self ..)))
      have f2_0 : w6.cell? ⟨w.heap.size + 1, 0, none⟩ = some (.int .u8 (bk : Int)) := H6.out.cell (b := w.heap.size + 1) (cs := #[.int .u8 (bk : Int), .int .i64 bi, .string bz]) (t := 24) (fr := (0, 0)) (List.mem_cons_of_mem _ (List.mem_cons_of_mem _ (List.mem_cons_self ..))) 0
      have f2_1 : w6.cell? ⟨w.heap.size + 1, 1, none⟩ = some (.int .i64 bi) := H6.out.cell (b := w.heap.size + 1) (cs := #[.int .u8 (bk : Int), .int .i64 bi, .string bz]) (t := 24) (fr := (0, 0)) (List.mem_cons_of_mem _ (List.mem_cons_of_mem _ (List.mem_cons_self ..))) 1
      have f2_2 : w6.cell? ⟨w.heap.size + 1, 2, none⟩ = some (.string bz) := H6.out.cell (b := w.heap.size + 1) (cs := #[.int .u8 (bk : Int), .int .i64 bi, .string bz]) (t := 24) (fr := (0, 0)) (List.mem_cons_of_mem _ (List.mem_cons_of_mem _ (List.mem_cons_self ..))) 2
      have z2 : w.heap.size + 1 < w6.heap.size := lt_of_block (H6.out.get (b := w.heap.size + 1) (o := .cells #[.int .u8 (bk : Int), .int .i64 bi, .string bz] 24 (0, 0)) (List.mem_cons_of_mem _ (List.mem_cons_of_mem _ (List.mem_cons_self ..))))
      have f3_0 : w6.cell? ⟨w.heap.size, 0, none⟩ = some (.int .u8 (ak : Int)) := H6.out.cell (b := w.heap.size) (cs := #[.int .u8 (ak : Int), .int .i64 ai, .string az]) (t := 24) (fr := (0, 0)) (List.mem_cons_of_mem _ (List.mem_cons_of_mem _ (List.mem_cons_of_mem _ (List.mem_cons_self ..)))) 0
      have f3_1 : w6.cell? ⟨w.heap.size, 1, none⟩ = some (.int .i64 ai) := H6.out.cell (b := w.heap.size) (cs := #[.int .u8 (ak : Int), .int .i64 ai, .string az]) (t := 24) (fr := (0, 0)) (List.mem_cons_of_mem _ (List.mem_cons_of_mem _ (List.mem_cons_of_mem _ (List.mem_cons_self ..)))) 1
      have f3_2 : w6.cell? ⟨w.heap.size, 2, none⟩ = some (.string az) := H6.out.cell (b := w.heap.size) (cs := #[.int .u8 (ak : Int), .int .i64 ai, .string az]) (t := 24) (fr := (0, 0)) (List.mem_cons_of_mem _ (List.mem_cons_of_mem _ (List.mem_cons_of_mem _ (List.mem_cons_self ..)))) 2
      have z3 : w.heap.size < w6.heap.size := lt_of_block (H6.out.get (b := w.heap.size) (o := .cells #[.int .u8 (ak : Int), .int .i64 ai, .string az] 24 (0, 0)) (List.mem_cons_of_mem _ (List.mem_cons_of_mem _ (List.mem_cons_of_mem _ (List.mem_cons_self ..)))))
      go_wp2_with fail
      have HA0 := Lib.hid (H6.out.add (below_alloc w6 (.cells #[.int .u8 (q.1.k : Int), .int .i64 q.1.i, .string q.1.s] 24)) (Nat.le_refl _) (heap_alloc_new _ _))
      refine (two_r 16 bk bi bz ak ai az q (by omega) bkb akb bi0 bi1 ai0 ai1 Khq2.out _ (HW.out _ HA0.out.below)).mono ?_
      rintro e w7 ⟨rfl, hb⟩
      have H7 := Lib.hid (HA0.out.kept hb)
      clear f0_0 f0_1 f0_2 z0 f1_0 f1_1 f1_2 z1 f2_0 f2_1 f2_2 z2 f3_0 f3_1 f3_2 z3
      clear hb HA0
      have f0_0 : w7.cell? ⟨w6.heap.size, 0, none⟩ = some (.int .u8 (q.1.k : Int)) := H7.out.cell (b := w6.heap.size) (cs := #[.int .u8 (q.1.k : Int), .int .i64 q.1.i, .string q.1.s]) (t := 24) (fr := (0, 0)) (List.mem_cons_self ..) 0
      have f0_1 : w7.cell? ⟨w6.heap.size, 1, none⟩ = some (.int .i64 q.1.i) := H7.out.cell (b := w6.heap.size) (cs := #[.int .u8 (q.1.k : Int), .int .i64 q.1.i, .string q.1.s]) (t := 24) (fr := (0, 0)) (List.mem_cons_self ..) 1
      have f0_2 : w7.cell? ⟨w6.heap.size, 2, none⟩ = some (.string q.1.s) := H7.out.cell (b := w6.heap.size) (cs := #[.int .u8 (q.1.k : Int), .int .i64 q.1.i, .string q.1.s]) (t := 24) (fr := (0, 0)) (List.mem_cons_self ..) 2
      have z0 : w6.heap.size < w7.heap.size := lt_of_block (H7.out.get (b := w6.heap.size) (o := .cells #[.int .u8 (q.1.k : Int), .int .i64 q.1.i, .string q.1.s] 24 (0, 0)) (List.mem_cons_self ..))
      have f1_0 : w7.cell? ⟨w5.heap.size, 0, none⟩ = some (.int .u8 (p.1.k : Int)) := H7.out.cell (b := w5.heap.size) (cs := #[.int .u8 (p.1.k : Int), .int .i64 p.1.i, .string p.1.s]) (t := 24) (fr := (0, 0)) (List.mem_cons_of_mem _ (List.mem_cons_self ..)) 0
      have f1_1 : w7.cell? ⟨w5.heap.size, 1, none⟩ = some (.int .i64 p.1.i) := H7.out.cell (b := w5.heap.size) (cs := #[.int .u8 (p.1.k : Int), .int .i64 p.1.i, .string p.1.s]) (t := 24) (fr := (0, 0)) (List.mem_cons_of_mem _ (List.mem_cons_self ..)) 1
      have f1_2 : w7.cell? ⟨w5.heap.size, 2, none⟩ = some (.string p.1.s) := H7.out.cell (b := w5.heap.size) (cs := #[.int .u8 (p.1.k : Int), .int .i64 p.1.i, .string p.1.s]) (t := 24) (fr := (0, 0)) (List.mem_cons_of_mem _ (List.mem_cons_self ..)) 2
      have z1 : w5.heap.size < w7.heap.size := lt_of_block (H7.out.get (b := w5.heap.size) (o := .cells #[.int .u8 (p.1.k : Int), .int .i64 p.1.i, .string p.1.s] 24 (0, 0)) (List.mem_cons_of_mem _ (List.mem_cons_self ..)))
      have f2_0 : w7.cell? ⟨w4.heap.size, 0, none⟩ = some (.int .u8 (p.1.k : Int)) := H7.out.cell (b := w4.heap.size) (cs := #[.int .u8 (p.1.k : Int), .int .i64 p.1.i, .string p.1.s]) (t := 24) (fr := (0, 0)) (List.mem_cons_of_mem _ (List.mem_cons_of_mem _ (List.mem_cons_self ..))) 0
      have f2_1 : w7.cell? ⟨w4.heap.size, 1, none⟩ = some (.int .i64 p.1.i) := H7.out.cell (b := w4.heap.size) (cs := #[.int .u8 (p.1.k : Int), .int .i64 p.1.i, .string p.1.s]) (t := 24) (fr := (0, 0)) (List.mem_cons_of_mem _ (List.mem_cons_of_mem _ (List.mem_cons_self ..))) 1
      have f2_2 : w7.cell? ⟨w4.heap.size, 2, none⟩ = some (.string p.1.s) := H7.out.cell (b := w4.heap.size) (cs := #[.int .u8 (p.1.k : Int), .int .i64 p.1.i, .string p.1.s]) (t := 24) (fr := (0, 0)) (List.mem_cons_of_mem _ (List.mem_cons_of_mem _ (List.mem_cons_self ..))) 2
      have z2 : w4.heap.size < w7.heap.size := lt_of_block (H7.out.get (b := w4.heap.size) (o := .cells #[.int .u8 (p.1.k : Int), .int .i64 p.1.i, .string p.1.s] 24 (0, 0)) (List.mem_cons_of_mem _ (List.mem_cons_of_mem _ (List.mem_cons_self ..))))
      have f3_0 : w7.cell? ⟨w.heap.size + 1, 0, none⟩ = some (.int .u8 (bk : Int)) := H7.out.cell (b := w.heap.size + 1) (cs := #[.int .u8 (bk : Int), .int .i64 bi, .string bz]) (t := 24) (fr := (0, 0)) (List.mem_cons_of_mem _ (List.mem_cons_of_mem _ (List.mem_cons_of_mem _ (List.mem_cons_self ..)))) 0
      have f3_1 : w7.cell? ⟨w.heap.size + 1, 1, none⟩ = some (.int .i64 bi) := H7.out.cell (b := w.heap.size + 1) (cs := #[.int .u8 (bk : Int), .int .i64 bi, .string bz]) (t := 24) (fr := (0, 0)) (List.mem_cons_of_mem _ (List.mem_cons_of_mem _ (List.mem_cons_of_mem _ (List.mem_cons_self ..)))) 1
      have f3_2 : w7.cell? ⟨w.heap.size + 1, 2, none⟩ = some (.string bz) := H7.out.cell (b := w.heap.size + 1) (cs := #[.int .u8 (bk : Int), .int .i64 bi, .string bz]) (t := 24) (fr := (0, 0)) (List.mem_cons_of_mem _ (List.mem_cons_of_mem _ (List.mem_cons_of_mem _ (List.mem_cons_self ..)))) 2
      have z3 : w.heap.size + 1 < w7.heap.size := lt_of_block (H7.out.get (b := w.heap.size + 1) (o := .cells #[.int .u8 (bk : Int), .int .i64 bi, .string bz] 24 (0, 0)) (List.mem_cons_of_mem _ (List.mem_cons_of_mem _ (List.mem_cons_of_mem _ (List.mem_cons_self ..)))))
      have f4_0 : w7.cell? ⟨w.heap.size, 0, none⟩ = some (.int .u8 (ak : Int)) := H7.out.cell (b := w.heap.size) (cs := #[.int .u8 (ak : Int), .int .i64 ai, .string az]) (t := 24) (fr := (0, 0)) (List.mem_cons_of_mem _ (List.mem_cons_of_mem _ (List.mem_cons_of_mem _ (List.mem_cons_of_mem _ (List.mem_cons_self ..))))) 0
      have f4_1 : w7.cell? ⟨w.heap.size, 1, none⟩ = some (.int .i64 ai) := H7.out.cell (b := w.heap.size) (cs := #[.int .u8 (ak : Int), .int .i64 ai, .string az]) (t := 24) (fr := (0, 0)) (List.mem_cons_of_mem _ (List.mem_cons_of_mem _ (List.mem_cons_of_mem _ (List.mem_cons_of_mem _ (List.mem_cons_self ..))))) 1
      have f4_2 : w7.cell? ⟨w.heap.size, 2, none⟩ = some (.string az) := H7.out.cell (b := w.heap.size) (cs := #[.int .u8 (ak : Int), .int .i64 ai, .string az]) (t := 24) (fr := (0, 0)) (List.mem_cons_of_mem _ (List.mem_cons_of_mem _ (List.mem_cons_of_mem _ (List.mem_cons_of_mem _ (List.mem_cons_self ..))))) 2
      have z4 : w.heap.size < w7.heap.size := lt_of_block (H7.out.get (b := w.heap.size) (o := .cells #[.int .u8 (ak : Int), .int .i64 ai, .string az] 24 (0, 0)) (List.mem_cons_of_mem _ (List.mem_cons_of_mem _ (List.mem_cons_of_mem _ (List.mem_cons_of_mem _ (List.mem_cons_self ..))))))
      go_wp2_with fail
      go_ret
      exact ⟨rfl, (H7.out.below).alloc H7.out.below.size _⟩
theorem walk_ValuesTurned (ak : Int) (ai : Int) (az : ByteArray) (hak : (Lit.int .u8 ak).wf = true) (hai : (Lit.int .i64 ai).wf = true) (haz : az.size ≤ 140737488351232) (bk : Int) (bi : Int) (bz : ByteArray) (hbk : (Lit.int .u8 bk).wf = true) (hbi : (Lit.int .i64 bi).wf = true) (hbz : bz.size ≤ 140737488351232) {w : World} (hw : Wd w) :
    Calls Tryd.prog 7 #[.agg #[.int .u8 ak, .int .i64 ai, .string az], .agg #[.int .u8 bk, .int .i64 bi, .string bz]] w fun e w' => e = .returned (.bool true) ∧ Below w.heap.size w w' := by
  have k0 := wf_u8 hak
  have k1 := wf_u8 hbk
  have i0 := wf_i64 hai
  have i1 := wf_i64 hbi
  obtain ⟨ak, rfl⟩ := Int.eq_ofNat_of_zero_le k0.1
  obtain ⟨bk, rfl⟩ := Int.eq_ofNat_of_zero_le k1.1
  cases hbig : decide ((20000 : Int) < (az.size : Int) + (bz.size : Int)) with
  | true => exact turned_long ak (by omega) ai i0.1 i0.2 az haz bk (by omega) bi i1.1 i1.2 bz hbz hbig w hw
  | false => exact turned_body ak (by omega) ai i0.1 i0.2 az haz bk (by omega) bi i1.1 i1.2 bz hbz hbig w hw
end Go.Proofs.YtnnimngbocabbaaDoor
