/-
  WHAT IS PROVED: the walk of ValuesCmp.
-/
import Derived.Test.YtnnimngbocabbaaDoorRefX
namespace Go.Proofs.YtnnimngbocabbaaDoor
open Go.RowKit Go.Lib
set_option linter.unusedVariables false

theorem check_b (k : Nat) (i : Int) (s : ByteArray) (b : Bool) (hk : k < 256) (h : Val.fine ⟨k, i, s⟩ = b) (w : World) :
    Calls Tryd.prog 14 #[.agg #[.int .u8 (k : Int), .int .i64 i, .string s]] w fun e w' => e = .returned (.bool b) ∧ Below w.heap.size w w' := by
  subst h; exact check_any k i s w hk
theorem rcheck_b (k : Nat) (i : Int) (s : ByteArray) (b : Bool) (hk : k < 256) (h : Val.fine ⟨k, i, s⟩ = b) (w : World) :
    Calls Tryd.prog 15 #[.agg #[.int .u8 (k : Int), .int .i64 i, .string s]] w fun e w' => e = .returned (.bool b) ∧ Below w.heap.size w w' := by
  subst h; exact rcheck_any k i s w hk
theorem rcmp_is (k : Nat) (i : Int) (s : ByteArray) (l : Nat) (j : Int) (t : ByteArray) (c : Int) (h : Val.cmp ⟨k, i, s⟩ ⟨l, j, t⟩ = c) (w : World) :
    Calls Tryd.prog 17 #[.agg #[.int .u8 (k : Int), .int .i64 i, .string s], .agg #[.int .u8 (l : Int), .int .i64 j, .string t]] w fun e w' => e = .returned (.int .i64 c) ∧ Below w.heap.size w w' := by
  rw [← h]; exact rcmp_any k i s l j t w
theorem truth_t (k : Nat) (i : Int) (s : ByteArray) (y kn : Bool) (f : Nat) (hk : k < 256) (h : Val.truth ⟨k, i, s⟩ = (y, kn, f)) (w : World) :
    Calls Tryd.prog 12 #[.agg #[.int .u8 (k : Int), .int .i64 i, .string s]] w fun e w' => e = .returned (.tuple #[.bool y, .bool kn, .int .i64 (f : Int)]) ∧ Below w.heap.size w w' := by
  have hc := truthOf_any k i s w hk
  rw [h] at hc
  exact hc
theorem rtruth_t (k : Nat) (i : Int) (s : ByteArray) (y kn : Bool) (f : Nat) (hk : k < 256) (h : Val.truth ⟨k, i, s⟩ = (y, kn, f)) (w : World) :
    Calls Tryd.prog 13 #[.agg #[.int .u8 (k : Int), .int .i64 i, .string s]] w fun e w' => e = .returned (.tuple #[.bool y, .bool kn, .int .i64 (f : Int)]) ∧ Below w.heap.size w w' := by
  have hc := rtruth_any k i s w hk
  rw [h] at hc
  exact hc
theorem rtext_at (k : Nat) (i : Int) (s : ByteArray) (x : ByteArray) (hk : k < 256) (i0 : -9223372036854775808 ≤ i) (i1 : i ≤ 9223372036854775807) (h : Val.text ⟨k, i, s⟩ = x) (w : World) :
    Calls Tryd.prog 19 #[.agg #[.int .u8 (k : Int), .int .i64 i, .string s]] w fun e w' => e = .returned (.string x) ∧ Below w.heap.size w w' := by
  subst h; exact rtext_any k i s w hk i0 i1
set_option maxRecDepth 100000 in
set_option maxHeartbeats 8000000 in
theorem vcmp_long (ak : Nat) (akb : ak < 256) (ai : Int) (ai0 : -9223372036854775808 ≤ ai) (ai1 : ai ≤ 9223372036854775807) (az : ByteArray) (azb : az.size ≤ 140737488351232) (bk : Nat) (bkb : bk < 256) (bi : Int) (bi0 : -9223372036854775808 ≤ bi) (bi1 : bi ≤ 9223372036854775807) (bz : ByteArray) (bzb : bz.size ≤ 140737488351232) (hbig : decide ((20000 : Int) < (az.size : Int) + (bz.size : Int)) = true) (w : World) (hw : Wd w) :
    Calls Tryd.prog 3 #[.agg #[.int .u8 (ak : Int), .int .i64 ai, .string az], .agg #[.int .u8 (bk : Int), .int .i64 bi, .string bz]] w fun e w' => e = .returned (.bool true) ∧ Below w.heap.size w w' := by
  obtain ⟨w0, hW⟩ : ∃ w0, w0 = ((w.alloc (.cells #[.int .u8 (ak : Int), .int .i64 ai, .string az] 24)).alloc (.cells #[.int .u8 (bk : Int), .int .i64 bi, .string bz] 24)) := ⟨_, rfl⟩
  have H0 : Hid (Fam w [(w.heap.size + 1, .cells #[.int .u8 (bk : Int), .int .i64 bi, .string bz] 24 (0, 0)), (w.heap.size, .cells #[.int .u8 (ak : Int), .int .i64 ai, .string az] 24 (0, 0))] w0) := Lib.hid (by rw [hW]; exact fam_n2 ..)
  have HW : Hid (∀ x, Below w.heap.size w x → Wd x) := Lib.hid (fun _ h => hw.kept h)
  clear hw
  go_enter Tryd.func3, Tryd.ntmps3
  go_wp2_with fail
  rw [← hW]
  rw [show w.heap.size + 1 + 1 = w0.heap.size by rw [hW]; simp]
  clear hW
  refine (long2_new _ _ _ _ az bz azb bzb _ true hbig).mono ?_
  rintro e w1 ⟨rfl, hb⟩
  have H1 := Lib.hid (H0.out.kept hb)
  clear hb 
  go_wp2_with fail
  go_ret
  exact ⟨rfl, H1.out.below⟩
set_option maxRecDepth 100000 in
set_option maxHeartbeats 8000000 in
theorem vcmp_body (ak : Nat) (akb : ak < 256) (ai : Int) (ai0 : -9223372036854775808 ≤ ai) (ai1 : ai ≤ 9223372036854775807) (az : ByteArray) (azb : az.size ≤ 140737488351232) (bk : Nat) (bkb : bk < 256) (bi : Int) (bi0 : -9223372036854775808 ≤ bi) (bi1 : bi ≤ 9223372036854775807) (bz : ByteArray) (bzb : bz.size ≤ 140737488351232) (hbig : decide ((20000 : Int) < (az.size : Int) + (bz.size : Int)) = false) (b : Bool) (c : Int) (y kn : Bool) (f : Nat) (x : ByteArray) (hf : Val.fine ⟨ak, ai, az⟩ = b) (hc : Val.cmp ⟨ak, ai, az⟩ ⟨bk, bi, bz⟩ = c) (ht : Val.truth ⟨ak, ai, az⟩ = (y, kn, f)) (hx : Val.text ⟨ak, ai, az⟩ = x) (w : World) (hw : Wd w) :
    Calls Tryd.prog 3 #[.agg #[.int .u8 (ak : Int), .int .i64 ai, .string az], .agg #[.int .u8 (bk : Int), .int .i64 bi, .string bz]] w fun e w' => e = .returned (.bool true) ∧ Below w.heap.size w w' := by
  have HF := Lib.hid hf
  have HC := Lib.hid hc
  have HT := Lib.hid ht
  have HX := Lib.hid hx
  clear hf hc ht hx
  obtain ⟨w0, hW⟩ : ∃ w0, w0 = ((w.alloc (.cells #[.int .u8 (ak : Int), .int .i64 ai, .string az] 24)).alloc (.cells #[.int .u8 (bk : Int), .int .i64 bi, .string bz] 24)) := ⟨_, rfl⟩
  have H0 : Hid (Fam w [(w.heap.size + 1, .cells #[.int .u8 (bk : Int), .int .i64 bi, .string bz] 24 (0, 0)), (w.heap.size, .cells #[.int .u8 (ak : Int), .int .i64 ai, .string az] 24 (0, 0))] w0) := Lib.hid (by rw [hW]; exact fam_n2 ..)
  have HW : Hid (∀ x, Below w.heap.size w x → Wd x) := Lib.hid (fun _ h => hw.kept h)
  clear hw
  go_enter Tryd.func3, Tryd.ntmps3
  go_wp2_with fail
  rw [← hW]
  rw [show w.heap.size + 1 + 1 = w0.heap.size by rw [hW]; simp]
  clear hW
  refine (long2_new _ _ _ _ az bz azb bzb _ false hbig).mono ?_
  rintro e w1 ⟨rfl, hb⟩
  have H1 := Lib.hid (H0.out.kept hb)
  clear hb 
  have f0_0 : w1.cell? ⟨w.heap.size + 1, 0, none⟩ = some (.int .u8 (bk : Int)) := H1.out.cell (b := w.heap.size + 1) (cs := #[.int .u8 (bk : Int), .int .i64 bi, .string bz]) (t := 24) (fr := (0, 0)) (List.mem_cons_self ..) 0
  have f0_1 : w1.cell? ⟨w.heap.size + 1, 1, none⟩ = some (.int .i64 bi) := H1.out.cell (b := w.heap.size + 1) (cs := #[.int .u8 (bk : Int), .int .i64 bi, .string bz]) (t := 24) (fr := (0, 0)) (List.mem_cons_self ..) 1
  have f0_2 : w1.cell? ⟨w.heap.size + 1, 2, none⟩ = some (.string bz) := H1.out.cell (b := w.heap.size + 1) (cs := #[.int .u8 (bk : Int), .int .i64 bi, .string bz]) (t := 24) (fr := (0, 0)) (List.mem_cons_self ..) 2
  have z0 : w.heap.size + 1 < w1.heap.size := lt_of_block (H1.out.get (b := w.heap.size + 1) (o := .cells #[.int .u8 (bk : Int), .int .i64 bi, .string bz] 24 (0, 0)) (List.mem_cons_self ..))
  have f1_0 : w1.cell? ⟨w.heap.size, 0, none⟩ = some (.int .u8 (ak : Int)) := H1.out.cell (b := w.heap.size) (cs := #[.int .u8 (ak : Int), .int .i64 ai, .string az]) (t := 24) (fr := (0, 0)) (List.mem_cons_of_mem _ (List.mem_cons_self ..)) 0
  have f1_1 : w1.cell? ⟨w.heap.size, 1, none⟩ = some (.int .i64 ai) := H1.out.cell (b := w.heap.size) (cs := #[.int .u8 (ak : Int), .int .i64 ai, .string az]) (t := 24) (fr := (0, 0)) (List.mem_cons_of_mem _ (List.mem_cons_self ..)) 1
  have f1_2 : w1.cell? ⟨w.heap.size, 2, none⟩ = some (.string az) := H1.out.cell (b := w.heap.size) (cs := #[.int .u8 (ak : Int), .int .i64 ai, .string az]) (t := 24) (fr := (0, 0)) (List.mem_cons_of_mem _ (List.mem_cons_self ..)) 2
  have z1 : w.heap.size < w1.heap.size := lt_of_block (H1.out.get (b := w.heap.size) (o := .cells #[.int .u8 (ak : Int), .int .i64 ai, .string az] 24 (0, 0)) (List.mem_cons_of_mem _ (List.mem_cons_self ..)))
  go_wp2_with fail
  refine (truth_t ak ai az y kn f akb HT.out _).mono ?_
  rintro e w2 ⟨rfl, hb⟩
  have H2 := Lib.hid (H1.out.kept hb)
  clear f0_0 f0_1 f0_2 z0 f1_0 f1_1 f1_2 z1
  clear hb 
  have f0_0 : w2.cell? ⟨w.heap.size + 1, 0, none⟩ = some (.int .u8 (bk : Int)) := H2.out.cell (b := w.heap.size + 1) (cs := #[.int .u8 (bk : Int), .int .i64 bi, .string bz]) (t := 24) (fr := (0, 0)) (List.mem_cons_self ..) 0
  have f0_1 : w2.cell? ⟨w.heap.size + 1, 1, none⟩ = some (.int .i64 bi) := H2.out.cell (b := w.heap.size + 1) (cs := #[.int .u8 (bk : Int), .int .i64 bi, .string bz]) (t := 24) (fr := (0, 0)) (List.mem_cons_self ..) 1
  have f0_2 : w2.cell? ⟨w.heap.size + 1, 2, none⟩ = some (.string bz) := H2.out.cell (b := w.heap.size + 1) (cs := #[.int .u8 (bk : Int), .int .i64 bi, .string bz]) (t := 24) (fr := (0, 0)) (List.mem_cons_self ..) 2
  have z0 : w.heap.size + 1 < w2.heap.size := lt_of_block (H2.out.get (b := w.heap.size + 1) (o := .cells #[.int .u8 (bk : Int), .int .i64 bi, .string bz] 24 (0, 0)) (List.mem_cons_self ..))
  have f1_0 : w2.cell? ⟨w.heap.size, 0, none⟩ = some (.int .u8 (ak : Int)) := H2.out.cell (b := w.heap.size) (cs := #[.int .u8 (ak : Int), .int .i64 ai, .string az]) (t := 24) (fr := (0, 0)) (List.mem_cons_of_mem _ (List.mem_cons_self ..)) 0
  have f1_1 : w2.cell? ⟨w.heap.size, 1, none⟩ = some (.int .i64 ai) := H2.out.cell (b := w.heap.size) (cs := #[.int .u8 (ak : Int), .int .i64 ai, .string az]) (t := 24) (fr := (0, 0)) (List.mem_cons_of_mem _ (List.mem_cons_self ..)) 1
  have f1_2 : w2.cell? ⟨w.heap.size, 2, none⟩ = some (.string az) := H2.out.cell (b := w.heap.size) (cs := #[.int .u8 (ak : Int), .int .i64 ai, .string az]) (t := 24) (fr := (0, 0)) (List.mem_cons_of_mem _ (List.mem_cons_self ..)) 2
  have z1 : w.heap.size < w2.heap.size := lt_of_block (H2.out.get (b := w.heap.size) (o := .cells #[.int .u8 (ak : Int), .int .i64 ai, .string az] 24 (0, 0)) (List.mem_cons_of_mem _ (List.mem_cons_self ..)))
  go_wp2_with fail
  refine (rtruth_t ak ai az y kn f akb HT.out _).mono ?_
  rintro e w3 ⟨rfl, hb⟩
  have H3 := Lib.hid (H2.out.kept hb)
  clear f0_0 f0_1 f0_2 z0 f1_0 f1_1 f1_2 z1
  clear hb 
  have f0_0 : w3.cell? ⟨w.heap.size + 1, 0, none⟩ = some (.int .u8 (bk : Int)) := H3.out.cell (b := w.heap.size + 1) (cs := #[.int .u8 (bk : Int), .int .i64 bi, .string bz]) (t := 24) (fr := (0, 0)) (List.mem_cons_self ..) 0
  have f0_1 : w3.cell? ⟨w.heap.size + 1, 1, none⟩ = some (.int .i64 bi) := H3.out.cell (b := w.heap.size + 1) (cs := #[.int .u8 (bk : Int), .int .i64 bi, .string bz]) (t := 24) (fr := (0, 0)) (List.mem_cons_self ..) 1
  have f0_2 : w3.cell? ⟨w.heap.size + 1, 2, none⟩ = some (.string bz) := H3.out.cell (b := w.heap.size + 1) (cs := #[.int .u8 (bk : Int), .int .i64 bi, .string bz]) (t := 24) (fr := (0, 0)) (List.mem_cons_self ..) 2
  have z0 : w.heap.size + 1 < w3.heap.size := lt_of_block (H3.out.get (b := w.heap.size + 1) (o := .cells #[.int .u8 (bk : Int), .int .i64 bi, .string bz] 24 (0, 0)) (List.mem_cons_self ..))
  have f1_0 : w3.cell? ⟨w.heap.size, 0, none⟩ = some (.int .u8 (ak : Int)) := H3.out.cell (b := w.heap.size) (cs := #[.int .u8 (ak : Int), .int .i64 ai, .string az]) (t := 24) (fr := (0, 0)) (List.mem_cons_of_mem _ (List.mem_cons_self ..)) 0
  have f1_1 : w3.cell? ⟨w.heap.size, 1, none⟩ = some (.int .i64 ai) := H3.out.cell (b := w.heap.size) (cs := #[.int .u8 (ak : Int), .int .i64 ai, .string az]) (t := 24) (fr := (0, 0)) (List.mem_cons_of_mem _ (List.mem_cons_self ..)) 1
  have f1_2 : w3.cell? ⟨w.heap.size, 2, none⟩ = some (.string az) := H3.out.cell (b := w.heap.size) (cs := #[.int .u8 (ak : Int), .int .i64 ai, .string az]) (t := 24) (fr := (0, 0)) (List.mem_cons_of_mem _ (List.mem_cons_self ..)) 2
  have z1 : w.heap.size < w3.heap.size := lt_of_block (H3.out.get (b := w.heap.size) (o := .cells #[.int .u8 (ak : Int), .int .i64 ai, .string az] 24 (0, 0)) (List.mem_cons_of_mem _ (List.mem_cons_self ..)))
  go_wp2_with fail
  clear f0_0 f0_1 f0_2 z0 f1_0 f1_1 f1_2 z1
  have q0_0 := bwOf_cell w3 _ _ (H3.out.cell (b := w.heap.size + 1) (cs := #[.int .u8 (bk : Int), .int .i64 bi, .string bz]) (t := 24) (fr := (0, 0)) (List.mem_cons_self ..) 0)
  have q0_1 := bwOf_cell w3 _ _ (H3.out.cell (b := w.heap.size + 1) (cs := #[.int .u8 (bk : Int), .int .i64 bi, .string bz]) (t := 24) (fr := (0, 0)) (List.mem_cons_self ..) 1)
  have q0_2 := bwOf_cell w3 _ _ (H3.out.cell (b := w.heap.size + 1) (cs := #[.int .u8 (bk : Int), .int .i64 bi, .string bz]) (t := 24) (fr := (0, 0)) (List.mem_cons_self ..) 2)
  have q1_0 := bwOf_cell w3 _ _ (H3.out.cell (b := w.heap.size) (cs := #[.int .u8 (ak : Int), .int .i64 ai, .string az]) (t := 24) (fr := (0, 0)) (List.mem_cons_of_mem _ (List.mem_cons_self ..)) 0)
  have q1_1 := bwOf_cell w3 _ _ (H3.out.cell (b := w.heap.size) (cs := #[.int .u8 (ak : Int), .int .i64 ai, .string az]) (t := 24) (fr := (0, 0)) (List.mem_cons_of_mem _ (List.mem_cons_self ..)) 1)
  have q1_2 := bwOf_cell w3 _ _ (H3.out.cell (b := w.heap.size) (cs := #[.int .u8 (ak : Int), .int .i64 ai, .string az]) (t := 24) (fr := (0, 0)) (List.mem_cons_of_mem _ (List.mem_cons_self ..)) 2)
  refine wp_region_bw (w := w3) (by kernel_rfl) (by kernel_rfl) ?_
  repeat (go_big_quiet_step (fail))
  go_big_quiet_step ((go_at_call 14; exact below_of (check_b ak ai az b akb HF.out _)))
  repeat (go_big_quiet_step (fail))
  go_big_quiet_step ((go_at_call 15; exact below_of (rcheck_b ak ai az b akb HF.out _)))
  repeat (go_big_quiet_step (fail))
  go_big_quiet_step ((go_at_call 16; exact below_of (cmp_is ak ai az bk bi bz c HC.out _)))
  repeat (go_big_quiet_step (fail))
  go_big_quiet_step ((go_at_call 17; exact below_of (rcmp_is ak ai az bk bi bz c HC.out _)))
  repeat (go_big_quiet_step (fail))
  go_big_quiet_step ((go_at_call 18; exact below_of (text_at ak ai az x akb ai0 ai1 HX.out _ (HW.out _ (below_end H3.out.below (bwOf_below _ _))))))
  repeat (go_big_quiet_step (fail))
  go_big_quiet_step ((go_at_call 19; exact below_of (rtext_at ak ai az x akb ai0 ai1 HX.out _)))
  repeat (go_big_quiet_step (fail))
  refine wpQuiet_nil ?_
  rintro w4 ⟨m, rfl⟩
  have H4 := Lib.hid (H3.out.kept (bwOf_below w3 m))
  clear q0_0 q0_1 q0_2 q1_0 q1_1 q1_2
  generalize bwOf w3 m = w4 at *
  go_wp2
  go_ret
  exact ⟨rfl, H4.out.below⟩
theorem walk_ValuesCmp (ak : Int) (ai : Int) (az : ByteArray) (hak : (Lit.int .u8 ak).wf = true) (hai : (Lit.int .i64 ai).wf = true) (haz : az.size ≤ 140737488351232) (bk : Int) (bi : Int) (bz : ByteArray) (hbk : (Lit.int .u8 bk).wf = true) (hbi : (Lit.int .i64 bi).wf = true) (hbz : bz.size ≤ 140737488351232) {w : World} (hw : Wd w) :
    Calls Tryd.prog 3 #[.agg #[.int .u8 ak, .int .i64 ai, .string az], .agg #[.int .u8 bk, .int .i64 bi, .string bz]] w fun e w' => e = .returned (.bool true) ∧ Below w.heap.size w w' := by
  have k0 := wf_u8 hak
  have k1 := wf_u8 hbk
  have i0 := wf_i64 hai
  have i1 := wf_i64 hbi
  obtain ⟨ak, rfl⟩ := Int.eq_ofNat_of_zero_le k0.1
  obtain ⟨bk, rfl⟩ := Int.eq_ofNat_of_zero_le k1.1
  cases hbig : decide ((20000 : Int) < (az.size : Int) + (bz.size : Int)) with
  | true => exact vcmp_long ak (by omega) ai i0.1 i0.2 az haz bk (by omega) bi i1.1 i1.2 bz hbz hbig w hw
  | false => exact vcmp_body ak (by omega) ai i0.1 i0.2 az haz bk (by omega) bi i1.1 i1.2 bz hbz hbig _ _ _ _ _ _ rfl rfl rfl rfl w hw
end Go.Proofs.YtnnimngbocabbaaDoor
