/-
  WHAT IS PROVED: the walk of RowsJoin, case by case.
-/
import Derived.Test.YtjjfmmimmfihgabGreatDoorRJoin0
namespace Go.Proofs.YtjjfmmimmfihgabGreatDoor
open Go.RowKit Go.Lib
set_option linter.unusedVariables false

set_option maxRecDepth 100000 in
set_option maxHeartbeats 32000000 in
theorem rjoin_none (c : Nat) (w : World) (hw : Wm w) (hr : RowV w none 0 0 ([] : List Val)) (hmod : (c : Int) % 1 = 0) (hwc : wrap64 (c : Int) = (c : Int)) :
    Calls Tryz.prog 4 #[.slice none 0 0, .int .u8 (c : Int)] w fun e w' => e = .returned (.bool true) ∧ Below w.heap.size w w' := by
  have HW : Hid (∀ x, Below w.heap.size w x → Wm x) := Lib.hid (fun _ h => hw.kept h)
  have HB0 := Lib.hid (Below.refl w.heap.size w)
  have hlen := Lib.hid hr.len
  have hroom := hr.room
  have hmost := hr.most
  have HV_0 := Lib.hid hr
  clear hw hr
  go_enter Tryz.func4, Tryz.ntmps4
  go_wp2_with fail
  refine (alive5_yes w (HW.out _ HB0.out)).mono ?_
  rintro e w1 ⟨rfl, hb⟩
  have HB1 := Lib.hid (below_next HB0.out hb)
  have HV_1 := Lib.hid (HV_0.out.kept hb)
  clear HV_0
  clear hb
  go_wp2_with fail
  refine (valuesSize_any none 0 0 ([] : List Val) _ HV_1.out).mono ?_
  rintro e w2 ⟨r, rfl, hb⟩
  have HB2 := Lib.hid (below_next HB1.out hb)
  have HV_2 := Lib.hid (HV_1.out.kept hb)
  clear HV_1
  clear hb HB1
  by_cases hbig : 20000 < r
  · have h1 : decide ((20000 : Int) < r) = true := by simpa using hbig
    clear hbig
    go_wp2_with fail
    refine (alive5_yes w2 (HW.out _ HB2.out)).mono ?_
    rintro e w3 ⟨rfl, hb⟩
    have HB3 := Lib.hid (below_next HB2.out hb)
    clear hb
    go_wp2
    go_ret
    exact ⟨rfl, HB3.out⟩
  have h1 : decide ((20000 : Int) < r) = false := by simpa using hbig
  clear hbig
  go_wp2_with fail
  cases hf : (List.all ([] : List Val) Val.fine && decide (List.length ([] : List Val) ≤ 16)) with
  | false =>
    have hc := fine5_any none 0 0 ([] : List Val) _ HV_2.out
    rw [hf] at hc
    refine hc.mono ?_
    clear hc hf
    rintro e w3 ⟨rfl, hb⟩
    have HB3 := Lib.hid (below_next HB2.out hb)
    clear hb
    go_wp2_with fail
    refine (alive5_yes w3 (HW.out _ HB3.out)).mono ?_
    rintro e w4 ⟨rfl, hb⟩
    have HB4 := Lib.hid (below_next HB3.out hb)
    clear hb
    go_wp2
    go_ret
    exact ⟨rfl, HB4.out⟩
  | true =>
    have hc := fine5_any none 0 0 ([] : List Val) _ HV_2.out
    rw [hf] at hc
    refine hc.mono ?_
    clear hc
    rw [Bool.and_eq_true, decide_eq_true_eq] at hf
    obtain ⟨hf1, hf2⟩ := hf
    have HC : Hid (chkV ([] : List Val) = 0) := Lib.hid (by unfold chkV; rw [if_neg (by omega), if_neg (by rw [hf1]; simp)])
    have HC1 : Hid (chkV (([] : List Val).take 0) = 0) := Lib.hid (chkV_sub HC.out _ (fun x hx => List.mem_of_mem_take hx) (by simp; try omega))
    have HC2 : Hid (chkV (([] : List Val).drop 0) = 0) := Lib.hid (chkV_sub HC.out _ (fun x hx => List.mem_of_mem_drop hx) (by simp; try omega))
    have H16 := Lib.hid hf2
    clear hf1 hf2
    rintro e w3 ⟨rfl, hb⟩
    have HB3 := Lib.hid (below_next HB2.out hb)
    have HV_3 := Lib.hid (HV_2.out.kept hb)
    clear HV_2
    clear hb HB2
    go_wp2_with fail
    refine (rkey_ok _ _ _ ([] : List Val) _ (HW.out _ HB3.out) HV_3.out HC.out).mono ?_
    rintro e w4 ⟨a_a, n_a, c_a, rfl, hr, hnew, hb⟩
    have Ha_4 := Lib.hid hr
    clear hr hnew
    have HB4 := Lib.hid (below_next HB3.out hb)
    have HV_4 := Lib.hid (HV_3.out.kept hb)
    clear HV_3
    clear hb HB3
    go_wp2_with fail
    refine (rkey_ok _ _ _ (([] : List Val).take 0) _ (HW.out _ HB4.out) HV_4.out HC1.out).mono ?_
    rintro e w5 ⟨a_b, n_b, c_b, rfl, hr, hnew, hb⟩
    have Hb_5 := Lib.hid hr
    clear hr hnew
    have HB5 := Lib.hid (below_next HB4.out hb)
    have HV_5 := Lib.hid (HV_4.out.kept hb)
    have Ha_5 := Lib.hid (Ha_4.out.kept hb)
    clear HV_4 Ha_4
    clear hb HB4
    go_wp2_with fail
    refine (rkey_ok _ _ _ (([] : List Val).drop 0) _ (HW.out _ HB5.out) (rowV_empty _ _ _ (fun h => by first | rfl | cases h) (by omega)) HC2.out).mono ?_
    rintro e w6 ⟨a_c, n_c, c_c, rfl, hr, hnew, hb⟩
    have Hc_6 := Lib.hid hr
    clear hr hnew
    have HB6 := Lib.hid (below_next HB5.out hb)
    have HV_6 := Lib.hid (HV_5.out.kept hb)
    have Ha_6 := Lib.hid (Ha_5.out.kept hb)
    have Hb_6 := Lib.hid (Hb_5.out.kept hb)
    clear HV_5 Ha_5 Hb_5
    clear hb HB5
    go_wp2_with fail
    refine (rput_ok _ _ _ ([] : List Val) _ HV_6.out HC.out).mono ?_
    rintro e w7 ⟨a_x, n_x, c_x, rfl, hr, hnew, hb⟩
    have hl_x := hr.len
    have hm_x := hr.room
    have hp_x : 0 < n_x := by have := vb_pos ([] : List Val).length; unfold encL at hl_x; simp only [List.length_append] at hl_x; omega
    obtain ⟨b_x, o_x, rfl, _⟩ := hr.lies hp_x
    have g_x : decide ((n_x : Int) < 1) = false := by rw [decide_eq_false_iff_not]; omega
    clear hl_x
    have Hx_7 := Lib.hid hr
    clear hr hnew
    have HB7 := Lib.hid (below_next HB6.out hb)
    have HV_7 := Lib.hid (HV_6.out.kept hb)
    have Ha_7 := Lib.hid (Ha_6.out.kept hb)
    have Hb_7 := Lib.hid (Hb_6.out.kept hb)
    have Hc_7 := Lib.hid (Hc_6.out.kept hb)
    clear HV_6 Ha_6 Hb_6 Hc_6
    clear hb HB6
    go_wp2_with fail
    refine (rput_ok _ _ _ (([] : List Val).take 0) _ HV_7.out HC1.out).mono ?_
    rintro e w8 ⟨a_y, n_y, c_y, rfl, hr, hnew, hb⟩
    have hl_y := hr.len
    have hm_y := hr.room
    have hp_y : 0 < n_y := by have := vb_pos (([] : List Val).take 0).length; unfold encL at hl_y; simp only [List.length_append] at hl_y; omega
    obtain ⟨b_y, o_y, rfl, _⟩ := hr.lies hp_y
    have g_y : decide ((n_y : Int) < 1) = false := by rw [decide_eq_false_iff_not]; omega
    clear hl_y
    have Hy_8 := Lib.hid hr
    clear hr hnew
    have HB8 := Lib.hid (below_next HB7.out hb)
    have HV_8 := Lib.hid (HV_7.out.kept hb)
    have Ha_8 := Lib.hid (Ha_7.out.kept hb)
    have Hb_8 := Lib.hid (Hb_7.out.kept hb)
    have Hc_8 := Lib.hid (Hc_7.out.kept hb)
    have Hx_8 := Lib.hid (Hx_7.out.kept hb)
    clear HV_7 Ha_7 Hb_7 Hc_7 Hx_7
    clear hb HB7
    go_wp2_with fail
    refine (rput_ok _ _ _ (([] : List Val).drop 0) _ (rowV_empty _ _ _ (fun h => by first | rfl | cases h) (by omega)) HC2.out).mono ?_
    rintro e w9 ⟨a_z, n_z, c_z, rfl, hr, hnew, hb⟩
    have hl_z := hr.len
    have hm_z := hr.room
    have hp_z : 0 < n_z := by have := vb_pos (([] : List Val).drop 0).length; unfold encL at hl_z; simp only [List.length_append] at hl_z; omega
    obtain ⟨b_z, o_z, rfl, _⟩ := hr.lies hp_z
    have g_z : decide ((n_z : Int) < 1) = false := by rw [decide_eq_false_iff_not]; omega
    clear hl_z
    have Hz_9 := Lib.hid hr
    clear hr hnew
    have HB9 := Lib.hid (below_next HB8.out hb)
    have HV_9 := Lib.hid (HV_8.out.kept hb)
    have Ha_9 := Lib.hid (Ha_8.out.kept hb)
    have Hb_9 := Lib.hid (Hb_8.out.kept hb)
    have Hc_9 := Lib.hid (Hc_8.out.kept hb)
    have Hx_9 := Lib.hid (Hx_8.out.kept hb)
    have Hy_9 := Lib.hid (Hy_8.out.kept hb)
    clear HV_8 Ha_8 Hb_8 Hc_8 Hx_8 Hy_8
    clear hb HB8
    go_wp2_with fail
    have HKB : Hid ((keyL (([] : List Val).take 0)).length ≤ 20000) := Lib.hid (by have h1 := keyL_len (([] : List Val).take 0) (fun x hx => Val.fine_size' ((chkV_ok HC1.out).2 x hx)); have h2 := (chkV_ok HC1.out).1; have h3 : (([] : List Val).take 0).length * 1027 ≤ 16 * 1027 := Nat.mul_le_mul_right _ h2; omega)
    have HKC : Hid ((keyL (([] : List Val).drop 0)).length ≤ 20000) := Lib.hid (by have h1 := keyL_len (([] : List Val).drop 0) (fun x hx => Val.fine_size' ((chkV_ok HC2.out).2 x hx)); have h2 := (chkV_ok HC2.out).1; have h3 : (([] : List Val).drop 0).length * 1027 ≤ 16 * 1027 := Nat.mul_le_mul_right _ h2; omega)
    have RIN := Lib.hid HV_9.out.each
    have HRB : Hid ((restV (([] : List Val).take 0)).length ≤ 20000) := Lib.hid (by have h1 := flat_le encV 523 (([] : List Val).take 0) (fun x hx => encV_length x (RIN.out x (List.mem_of_mem_take hx)) (Val.fine_size' ((chkV_ok HC1.out).2 x hx))); have h2 := (chkV_ok HC1.out).1; have h3 : (([] : List Val).take 0).length * 523 ≤ 16 * 523 := Nat.mul_le_mul_right _ h2; unfold restV; omega)
    have HRC : Hid ((restV (([] : List Val).drop 0)).length ≤ 20000) := Lib.hid (by have h1 := flat_le encV 523 (([] : List Val).drop 0) (fun x hx => encV_length x (RIN.out x (List.mem_of_mem_drop hx)) (Val.fine_size' ((chkV_ok HC2.out).2 x hx))); have h2 := (chkV_ok HC2.out).1; have h3 : (([] : List Val).drop 0).length * 523 ≤ 16 * 523 := Nat.mul_le_mul_right _ h2; unfold restV; omega)
    have tok1 : True := trivial
    by_cases k_x : c_x = 1
    · subst k_x
      obtain rfl : n_x = 1 := by omega
      by_cases k_y : c_y = 1
      · subst k_y
        obtain rfl : n_y = 1 := by omega
        by_cases k_z : c_z = 1
        · subst k_z
          obtain rfl : n_z = 1 := by omega
          have HSx : Hid (Row8 w9 (some ⟨b_x, o_x, none⟩) 0 0 (restV ([] : List Val))) := Lib.hid (by have h1 := (Hx_9.out.cut 1 (Nat.le_refl _)).2 rfl; rw [encL_small (chkV_ok HC.out).1] at h1; exact h1)
          have HSy : Hid (Row8 w9 (some ⟨b_y, o_y, none⟩) 0 0 (restV (([] : List Val).take 0))) := Lib.hid (by have h1 := (Hy_9.out.cut 1 (Nat.le_refl _)).2 rfl; rw [encL_small (chkV_ok HC1.out).1] at h1; exact h1)
          have HSz : Hid (Row8 w9 (some ⟨b_z, o_z, none⟩) 0 0 (restV (([] : List Val).drop 0))) := Lib.hid (by have h1 := (Hz_9.out.cut 1 (Nat.le_refl _)).2 rfl; rw [encL_small (chkV_ok HC2.out).1] at h1; exact h1)
          have s0 : w9.cell? ⟨b_x, o_x, none⟩ = some (.int .u8 (0 : Int)) := by (obtain ⟨b9, o9, he, hc9⟩ := Hx_9.out.lies hp_x; cases he; have h9 := hc9 0 ([] : List Val).length (by rw [encL_small (chkV_ok HC.out).1]; rfl); rw [hlen.out] at h9; exact h9)
          have hbx := World.block_lt_of_cell? _ _ s0
          go_region_held3 (fun x => x.cell? ⟨b_x, o_x, none⟩ = some (.int .u8 (0 : Int))) (first | with_reducible exact s0 | with_reducible exact keep_drew s0 | with_reducible exact SS.out) ((first
            | (go_at_call 16; guard_hyp tok1; clear tok1; refine (twinOwn_any a_b n_b c_b (keyL (([] : List Val).take 0)) _ Hb_9.out.drew (by have h1 := Hb_9.out.len; have h2 := HKB.out; omega)).mono ?_; rintro e u1 ⟨g1, p1, rfl, hown, hb⟩; have T1 := Lib.hid hown; have HU1 := Lib.hid (below_drewB hb); have SS := Lib.hid (show u1.cell? ⟨b_x, o_x, none⟩ = some (.int .u8 (0 : Int)) from (HU1.out.cell hbx).trans s0); clear hb hown)
            | (guard_hyp T1; refine step_append_row ?_ (.tmp 102) (.tmp 103) ?_ w9.heap.size _ (keyL (([] : List Val).take 0)).length (keyL (([] : List Val).take 0)) ?_ T1.out a_c n_c c_c (keyL (([] : List Val).drop 0)) ?_ (Hc_9.out.kept HU1.out) ?_ HU1.out.size ?_; rfl; rfl; rfl; rfl; (have h1 := Hc_9.out.len; have h2 := HKC.out; have h3 := HKB.out; omega); intro v2 u2 hown hg; have HU2 := Lib.hid (HU1.out.grown hg HU1.out.size (fun j hj => (T1.out.lt j hj).1)); have hlc := Hc_9.out.len; obtain ⟨a2, c2, rfl, hr2, _⟩ := Row8.of_owns (l := keyL (([] : List Val).take 0) ++ keyL (([] : List Val).drop 0)) (by rw [List.length_append, hlc]; exact hown) (by intro y hy; rcases List.mem_append.1 hy with hy | hy; exact Hb_9.out.byte y hy; exact Hc_9.out.byte y hy); have R2 := Lib.hid hr2; have SS := Lib.hid (show u2.cell? ⟨b_x, o_x, none⟩ = some (.int .u8 (0 : Int)) from (HU2.out.cell hbx).trans s0); clear hown hg T1 hr2 hlc)
            | (go_at_call 15; guard_hyp R2; refine (sameBytes_at a_a _ n_a _ c_a _ (keyL ([] : List Val)) _ (Ha_9.out.kept HU2.out) (by have h1 := R2.out; rw [List.length_append, keyL_parts] at h1; exact h1)).mono ?_; rintro e u3 ⟨rfl, hb⟩; have HU3 := Lib.hid (below_next HU2.out hb); have SS := Lib.hid (show u3.cell? ⟨b_x, o_x, none⟩ = some (.int .u8 (0 : Int)) from (HU3.out.cell hbx).trans s0); clear hb R2)
            | (go_at_call 16; guard_hyp HU3; refine (twinOwn_any (some ⟨b_y, o_y, none⟩) 0 0 (restV (([] : List Val).take 0)) _ (HSy.out.kept HU3.out) (by have h1 := HSy.out.len; have h2 := HRB.out; omega)).mono ?_; rintro e u4 ⟨g4, p4, rfl, hown, hb⟩; have T4 := Lib.hid hown; have HU34 := Lib.hid hb; have HU4 := Lib.hid (below_next HU3.out hb); have SS := Lib.hid (show u4.cell? ⟨b_x, o_x, none⟩ = some (.int .u8 (0 : Int)) from (HU4.out.cell hbx).trans s0); clear hb hown)
            | (guard_hyp T4; refine step_append_row ?_ (.tmp 111) (.tmp 113) ?_ u3.heap.size _ (restV (([] : List Val).take 0)).length (restV (([] : List Val).take 0)) ?_ T4.out (some ⟨b_z, o_z, none⟩) 0 0 (restV (([] : List Val).drop 0)) ?_ (HSz.out.kept HU4.out) ?_ HU34.out.size ?_; rfl; rfl; rfl; rfl; (have h1 := HSz.out.len; have h2 := HRB.out; have h3 := HRC.out; omega); intro v5 u5 hown hg; have HU5 := Lib.hid (below_next HU3.out (HU34.out.grown hg HU34.out.size (fun j hj => (T4.out.lt j hj).1))); have hlc := HSz.out.len; obtain ⟨a5, c5, rfl, hr5, _⟩ := Row8.of_owns (l := restV (([] : List Val).take 0) ++ restV (([] : List Val).drop 0)) (by rw [List.length_append, hlc]; exact hown) (by intro y hy; rcases List.mem_append.1 hy with hy | hy; exact HSy.out.byte y hy; exact HSz.out.byte y hy); have R5 := Lib.hid hr5; have SS := Lib.hid (show u5.cell? ⟨b_x, o_x, none⟩ = some (.int .u8 (0 : Int)) from (HU5.out.cell hbx).trans s0); clear hown hg T4 hr5 hlc)
            | (go_at_call 15; guard_hyp R5; refine (sameBytes_at (some ⟨b_x, o_x, none⟩) _ 0 _ 0 _ (restV ([] : List Val)) _ (HSx.out.kept HU5.out) (by have h1 := R5.out; rw [List.length_append, restV_parts] at h1; exact h1)).mono ?_; rintro e u6 ⟨rfl, hb⟩; have HU6 := Lib.hid (below_next HU5.out hb); have SS := Lib.hid (show u6.cell? ⟨b_x, o_x, none⟩ = some (.int .u8 (0 : Int)) from (HU6.out.cell hbx).trans s0); clear hb R5)
            ))
          go_wp2
          go_ret
          exact ⟨rfl, below_next HB9.out HU6.out⟩
        · skip
          have i_z : (1 : Int) ≤ (n_z : Int) := by omega
          have j_z : (n_z : Int) ≤ (c_z : Int) := by omega
          have HSx : Hid (Row8 w9 (some ⟨b_x, o_x, none⟩) 0 0 (restV ([] : List Val))) := Lib.hid (by have h1 := (Hx_9.out.cut 1 (Nat.le_refl _)).2 rfl; rw [encL_small (chkV_ok HC.out).1] at h1; exact h1)
          have HSy : Hid (Row8 w9 (some ⟨b_y, o_y, none⟩) 0 0 (restV (([] : List Val).take 0))) := Lib.hid (by have h1 := (Hy_9.out.cut 1 (Nat.le_refl _)).2 rfl; rw [encL_small (chkV_ok HC1.out).1] at h1; exact h1)
          have HSz : Hid (Row8 w9 (some ⟨b_z, o_z + 1, none⟩) (n_z - 1) (c_z - 1) (restV (([] : List Val).drop 0))) := Lib.hid (by have h1 := (Hz_9.out.cut 1 hp_z).1 (by omega); rw [encL_small (chkV_ok HC2.out).1] at h1; exact h1)
          have s0 : w9.cell? ⟨b_x, o_x, none⟩ = some (.int .u8 (0 : Int)) := by (obtain ⟨b9, o9, he, hc9⟩ := Hx_9.out.lies hp_x; cases he; have h9 := hc9 0 ([] : List Val).length (by rw [encL_small (chkV_ok HC.out).1]; rfl); rw [hlen.out] at h9; exact h9)
          have hbx := World.block_lt_of_cell? _ _ s0
          go_region_held3 (fun x => x.cell? ⟨b_x, o_x, none⟩ = some (.int .u8 (0 : Int))) (first | with_reducible exact s0 | with_reducible exact keep_drew s0 | with_reducible exact SS.out) ((first
            | (go_at_call 16; guard_hyp tok1; clear tok1; refine (twinOwn_any a_b n_b c_b (keyL (([] : List Val).take 0)) _ Hb_9.out.drew (by have h1 := Hb_9.out.len; have h2 := HKB.out; omega)).mono ?_; rintro e u1 ⟨g1, p1, rfl, hown, hb⟩; have T1 := Lib.hid hown; have HU1 := Lib.hid (below_drewB hb); have SS := Lib.hid (show u1.cell? ⟨b_x, o_x, none⟩ = some (.int .u8 (0 : Int)) from (HU1.out.cell hbx).trans s0); clear hb hown)
            | (guard_hyp T1; refine step_append_row ?_ (.tmp 102) (.tmp 103) ?_ w9.heap.size _ (keyL (([] : List Val).take 0)).length (keyL (([] : List Val).take 0)) ?_ T1.out a_c n_c c_c (keyL (([] : List Val).drop 0)) ?_ (Hc_9.out.kept HU1.out) ?_ HU1.out.size ?_; rfl; rfl; rfl; rfl; (have h1 := Hc_9.out.len; have h2 := HKC.out; have h3 := HKB.out; omega); intro v2 u2 hown hg; have HU2 := Lib.hid (HU1.out.grown hg HU1.out.size (fun j hj => (T1.out.lt j hj).1)); have hlc := Hc_9.out.len; obtain ⟨a2, c2, rfl, hr2, _⟩ := Row8.of_owns (l := keyL (([] : List Val).take 0) ++ keyL (([] : List Val).drop 0)) (by rw [List.length_append, hlc]; exact hown) (by intro y hy; rcases List.mem_append.1 hy with hy | hy; exact Hb_9.out.byte y hy; exact Hc_9.out.byte y hy); have R2 := Lib.hid hr2; have SS := Lib.hid (show u2.cell? ⟨b_x, o_x, none⟩ = some (.int .u8 (0 : Int)) from (HU2.out.cell hbx).trans s0); clear hown hg T1 hr2 hlc)
            | (go_at_call 15; guard_hyp R2; refine (sameBytes_at a_a _ n_a _ c_a _ (keyL ([] : List Val)) _ (Ha_9.out.kept HU2.out) (by have h1 := R2.out; rw [List.length_append, keyL_parts] at h1; exact h1)).mono ?_; rintro e u3 ⟨rfl, hb⟩; have HU3 := Lib.hid (below_next HU2.out hb); have SS := Lib.hid (show u3.cell? ⟨b_x, o_x, none⟩ = some (.int .u8 (0 : Int)) from (HU3.out.cell hbx).trans s0); clear hb R2)
            | (go_at_call 16; guard_hyp HU3; refine (twinOwn_any (some ⟨b_y, o_y, none⟩) 0 0 (restV (([] : List Val).take 0)) _ (HSy.out.kept HU3.out) (by have h1 := HSy.out.len; have h2 := HRB.out; omega)).mono ?_; rintro e u4 ⟨g4, p4, rfl, hown, hb⟩; have T4 := Lib.hid hown; have HU34 := Lib.hid hb; have HU4 := Lib.hid (below_next HU3.out hb); have SS := Lib.hid (show u4.cell? ⟨b_x, o_x, none⟩ = some (.int .u8 (0 : Int)) from (HU4.out.cell hbx).trans s0); clear hb hown)
            | (guard_hyp T4; refine step_append_row ?_ (.tmp 111) (.tmp 113) ?_ u3.heap.size _ (restV (([] : List Val).take 0)).length (restV (([] : List Val).take 0)) ?_ T4.out (some ⟨b_z, o_z + 1, none⟩) (n_z - 1) (c_z - 1) (restV (([] : List Val).drop 0)) ?_ (HSz.out.kept HU4.out) ?_ HU34.out.size ?_; rfl; rfl; rfl; rfl; (have h1 := HSz.out.len; have h2 := HRB.out; have h3 := HRC.out; omega); intro v5 u5 hown hg; have HU5 := Lib.hid (below_next HU3.out (HU34.out.grown hg HU34.out.size (fun j hj => (T4.out.lt j hj).1))); have hlc := HSz.out.len; obtain ⟨a5, c5, rfl, hr5, _⟩ := Row8.of_owns (l := restV (([] : List Val).take 0) ++ restV (([] : List Val).drop 0)) (by rw [List.length_append, hlc]; exact hown) (by intro y hy; rcases List.mem_append.1 hy with hy | hy; exact HSy.out.byte y hy; exact HSz.out.byte y hy); have R5 := Lib.hid hr5; have SS := Lib.hid (show u5.cell? ⟨b_x, o_x, none⟩ = some (.int .u8 (0 : Int)) from (HU5.out.cell hbx).trans s0); clear hown hg T4 hr5 hlc)
            | (go_at_call 15; guard_hyp R5; refine (sameBytes_at (some ⟨b_x, o_x, none⟩) _ 0 _ 0 _ (restV ([] : List Val)) _ (HSx.out.kept HU5.out) (by have h1 := R5.out; rw [List.length_append, restV_parts] at h1; exact h1)).mono ?_; rintro e u6 ⟨rfl, hb⟩; have HU6 := Lib.hid (below_next HU5.out hb); have SS := Lib.hid (show u6.cell? ⟨b_x, o_x, none⟩ = some (.int .u8 (0 : Int)) from (HU6.out.cell hbx).trans s0); clear hb R5)
            ))
          go_wp2
          go_ret
          exact ⟨rfl, below_next HB9.out HU6.out⟩
      · skip
        have i_y : (1 : Int) ≤ (n_y : Int) := by omega
        have j_y : (n_y : Int) ≤ (c_y : Int) := by omega
        by_cases k_z : c_z = 1
        · subst k_z
          obtain rfl : n_z = 1 := by omega
          have HSx : Hid (Row8 w9 (some ⟨b_x, o_x, none⟩) 0 0 (restV ([] : List Val))) := Lib.hid (by have h1 := (Hx_9.out.cut 1 (Nat.le_refl _)).2 rfl; rw [encL_small (chkV_ok HC.out).1] at h1; exact h1)
          have HSy : Hid (Row8 w9 (some ⟨b_y, o_y + 1, none⟩) (n_y - 1) (c_y - 1) (restV (([] : List Val).take 0))) := Lib.hid (by have h1 := (Hy_9.out.cut 1 hp_y).1 (by omega); rw [encL_small (chkV_ok HC1.out).1] at h1; exact h1)
          have HSz : Hid (Row8 w9 (some ⟨b_z, o_z, none⟩) 0 0 (restV (([] : List Val).drop 0))) := Lib.hid (by have h1 := (Hz_9.out.cut 1 (Nat.le_refl _)).2 rfl; rw [encL_small (chkV_ok HC2.out).1] at h1; exact h1)
          have s0 : w9.cell? ⟨b_x, o_x, none⟩ = some (.int .u8 (0 : Int)) := by (obtain ⟨b9, o9, he, hc9⟩ := Hx_9.out.lies hp_x; cases he; have h9 := hc9 0 ([] : List Val).length (by rw [encL_small (chkV_ok HC.out).1]; rfl); rw [hlen.out] at h9; exact h9)
          have hbx := World.block_lt_of_cell? _ _ s0
          go_region_held3 (fun x => x.cell? ⟨b_x, o_x, none⟩ = some (.int .u8 (0 : Int))) (first | with_reducible exact s0 | with_reducible exact keep_drew s0 | with_reducible exact SS.out) ((first
            | (go_at_call 16; guard_hyp tok1; clear tok1; refine (twinOwn_any a_b n_b c_b (keyL (([] : List Val).take 0)) _ Hb_9.out.drew (by have h1 := Hb_9.out.len; have h2 := HKB.out; omega)).mono ?_; rintro e u1 ⟨g1, p1, rfl, hown, hb⟩; have T1 := Lib.hid hown; have HU1 := Lib.hid (below_drewB hb); have SS := Lib.hid (show u1.cell? ⟨b_x, o_x, none⟩ = some (.int .u8 (0 : Int)) from (HU1.out.cell hbx).trans s0); clear hb hown)
            | (guard_hyp T1; refine step_append_row ?_ (.tmp 102) (.tmp 103) ?_ w9.heap.size _ (keyL (([] : List Val).take 0)).length (keyL (([] : List Val).take 0)) ?_ T1.out a_c n_c c_c (keyL (([] : List Val).drop 0)) ?_ (Hc_9.out.kept HU1.out) ?_ HU1.out.size ?_; rfl; rfl; rfl; rfl; (have h1 := Hc_9.out.len; have h2 := HKC.out; have h3 := HKB.out; omega); intro v2 u2 hown hg; have HU2 := Lib.hid (HU1.out.grown hg HU1.out.size (fun j hj => (T1.out.lt j hj).1)); have hlc := Hc_9.out.len; obtain ⟨a2, c2, rfl, hr2, _⟩ := Row8.of_owns (l := keyL (([] : List Val).take 0) ++ keyL (([] : List Val).drop 0)) (by rw [List.length_append, hlc]; exact hown) (by intro y hy; rcases List.mem_append.1 hy with hy | hy; exact Hb_9.out.byte y hy; exact Hc_9.out.byte y hy); have R2 := Lib.hid hr2; have SS := Lib.hid (show u2.cell? ⟨b_x, o_x, none⟩ = some (.int .u8 (0 : Int)) from (HU2.out.cell hbx).trans s0); clear hown hg T1 hr2 hlc)
            | (go_at_call 15; guard_hyp R2; refine (sameBytes_at a_a _ n_a _ c_a _ (keyL ([] : List Val)) _ (Ha_9.out.kept HU2.out) (by have h1 := R2.out; rw [List.length_append, keyL_parts] at h1; exact h1)).mono ?_; rintro e u3 ⟨rfl, hb⟩; have HU3 := Lib.hid (below_next HU2.out hb); have SS := Lib.hid (show u3.cell? ⟨b_x, o_x, none⟩ = some (.int .u8 (0 : Int)) from (HU3.out.cell hbx).trans s0); clear hb R2)
            | (go_at_call 16; guard_hyp HU3; refine (twinOwn_any (some ⟨b_y, o_y + 1, none⟩) (n_y - 1) (c_y - 1) (restV (([] : List Val).take 0)) _ (HSy.out.kept HU3.out) (by have h1 := HSy.out.len; have h2 := HRB.out; omega)).mono ?_; rintro e u4 ⟨g4, p4, rfl, hown, hb⟩; have T4 := Lib.hid hown; have HU34 := Lib.hid hb; have HU4 := Lib.hid (below_next HU3.out hb); have SS := Lib.hid (show u4.cell? ⟨b_x, o_x, none⟩ = some (.int .u8 (0 : Int)) from (HU4.out.cell hbx).trans s0); clear hb hown)
            | (guard_hyp T4; refine step_append_row ?_ (.tmp 111) (.tmp 113) ?_ u3.heap.size _ (restV (([] : List Val).take 0)).length (restV (([] : List Val).take 0)) ?_ T4.out (some ⟨b_z, o_z, none⟩) 0 0 (restV (([] : List Val).drop 0)) ?_ (HSz.out.kept HU4.out) ?_ HU34.out.size ?_; rfl; rfl; rfl; rfl; (have h1 := HSz.out.len; have h2 := HRB.out; have h3 := HRC.out; omega); intro v5 u5 hown hg; have HU5 := Lib.hid (below_next HU3.out (HU34.out.grown hg HU34.out.size (fun j hj => (T4.out.lt j hj).1))); have hlc := HSz.out.len; obtain ⟨a5, c5, rfl, hr5, _⟩ := Row8.of_owns (l := restV (([] : List Val).take 0) ++ restV (([] : List Val).drop 0)) (by rw [List.length_append, hlc]; exact hown) (by intro y hy; rcases List.mem_append.1 hy with hy | hy; exact HSy.out.byte y hy; exact HSz.out.byte y hy); have R5 := Lib.hid hr5; have SS := Lib.hid (show u5.cell? ⟨b_x, o_x, none⟩ = some (.int .u8 (0 : Int)) from (HU5.out.cell hbx).trans s0); clear hown hg T4 hr5 hlc)
            | (go_at_call 15; guard_hyp R5; refine (sameBytes_at (some ⟨b_x, o_x, none⟩) _ 0 _ 0 _ (restV ([] : List Val)) _ (HSx.out.kept HU5.out) (by have h1 := R5.out; rw [List.length_append, restV_parts] at h1; exact h1)).mono ?_; rintro e u6 ⟨rfl, hb⟩; have HU6 := Lib.hid (below_next HU5.out hb); have SS := Lib.hid (show u6.cell? ⟨b_x, o_x, none⟩ = some (.int .u8 (0 : Int)) from (HU6.out.cell hbx).trans s0); clear hb R5)
            ))
          go_wp2
          go_ret
          exact ⟨rfl, below_next HB9.out HU6.out⟩
        · skip
          have i_z : (1 : Int) ≤ (n_z : Int) := by omega
          have j_z : (n_z : Int) ≤ (c_z : Int) := by omega
          have HSx : Hid (Row8 w9 (some ⟨b_x, o_x, none⟩) 0 0 (restV ([] : List Val))) := Lib.hid (by have h1 := (Hx_9.out.cut 1 (Nat.le_refl _)).2 rfl; rw [encL_small (chkV_ok HC.out).1] at h1; exact h1)
          have HSy : Hid (Row8 w9 (some ⟨b_y, o_y + 1, none⟩) (n_y - 1) (c_y - 1) (restV (([] : List Val).take 0))) := Lib.hid (by have h1 := (Hy_9.out.cut 1 hp_y).1 (by omega); rw [encL_small (chkV_ok HC1.out).1] at h1; exact h1)
          have HSz : Hid (Row8 w9 (some ⟨b_z, o_z + 1, none⟩) (n_z - 1) (c_z - 1) (restV (([] : List Val).drop 0))) := Lib.hid (by have h1 := (Hz_9.out.cut 1 hp_z).1 (by omega); rw [encL_small (chkV_ok HC2.out).1] at h1; exact h1)
          have s0 : w9.cell? ⟨b_x, o_x, none⟩ = some (.int .u8 (0 : Int)) := by (obtain ⟨b9, o9, he, hc9⟩ := Hx_9.out.lies hp_x; cases he; have h9 := hc9 0 ([] : List Val).length (by rw [encL_small (chkV_ok HC.out).1]; rfl); rw [hlen.out] at h9; exact h9)
          have hbx := World.block_lt_of_cell? _ _ s0
          go_region_held3 (fun x => x.cell? ⟨b_x, o_x, none⟩ = some (.int .u8 (0 : Int))) (first | with_reducible exact s0 | with_reducible exact keep_drew s0 | with_reducible exact SS.out) ((first
            | (go_at_call 16; guard_hyp tok1; clear tok1; refine (twinOwn_any a_b n_b c_b (keyL (([] : List Val).take 0)) _ Hb_9.out.drew (by have h1 := Hb_9.out.len; have h2 := HKB.out; omega)).mono ?_; rintro e u1 ⟨g1, p1, rfl, hown, hb⟩; have T1 := Lib.hid hown; have HU1 := Lib.hid (below_drewB hb); have SS := Lib.hid (show u1.cell? ⟨b_x, o_x, none⟩ = some (.int .u8 (0 : Int)) from (HU1.out.cell hbx).trans s0); clear hb hown)
            | (guard_hyp T1; refine step_append_row ?_ (.tmp 102) (.tmp 103) ?_ w9.heap.size _ (keyL (([] : List Val).take 0)).length (keyL (([] : List Val).take 0)) ?_ T1.out a_c n_c c_c (keyL (([] : List Val).drop 0)) ?_ (Hc_9.out.kept HU1.out) ?_ HU1.out.size ?_; rfl; rfl; rfl; rfl; (have h1 := Hc_9.out.len; have h2 := HKC.out; have h3 := HKB.out; omega); intro v2 u2 hown hg; have HU2 := Lib.hid (HU1.out.grown hg HU1.out.size (fun j hj => (T1.out.lt j hj).1)); have hlc := Hc_9.out.len; obtain ⟨a2, c2, rfl, hr2, _⟩ := Row8.of_owns (l := keyL (([] : List Val).take 0) ++ keyL (([] : List Val).drop 0)) (by rw [List.length_append, hlc]; exact hown) (by intro y hy; rcases List.mem_append.1 hy with hy | hy; exact Hb_9.out.byte y hy; exact Hc_9.out.byte y hy); have R2 := Lib.hid hr2; have SS := Lib.hid (show u2.cell? ⟨b_x, o_x, none⟩ = some (.int .u8 (0 : Int)) from (HU2.out.cell hbx).trans s0); clear hown hg T1 hr2 hlc)
            | (go_at_call 15; guard_hyp R2; refine (sameBytes_at a_a _ n_a _ c_a _ (keyL ([] : List Val)) _ (Ha_9.out.kept HU2.out) (by have h1 := R2.out; rw [List.length_append, keyL_parts] at h1; exact h1)).mono ?_; rintro e u3 ⟨rfl, hb⟩; have HU3 := Lib.hid (below_next HU2.out hb); have SS := Lib.hid (show u3.cell? ⟨b_x, o_x, none⟩ = some (.int .u8 (0 : Int)) from (HU3.out.cell hbx).trans s0); clear hb R2)
            | (go_at_call 16; guard_hyp HU3; refine (twinOwn_any (some ⟨b_y, o_y + 1, none⟩) (n_y - 1) (c_y - 1) (restV (([] : List Val).take 0)) _ (HSy.out.kept HU3.out) (by have h1 := HSy.out.len; have h2 := HRB.out; omega)).mono ?_; rintro e u4 ⟨g4, p4, rfl, hown, hb⟩; have T4 := Lib.hid hown; have HU34 := Lib.hid hb; have HU4 := Lib.hid (below_next HU3.out hb); have SS := Lib.hid (show u4.cell? ⟨b_x, o_x, none⟩ = some (.int .u8 (0 : Int)) from (HU4.out.cell hbx).trans s0); clear hb hown)
            | (guard_hyp T4; refine step_append_row ?_ (.tmp 111) (.tmp 113) ?_ u3.heap.size _ (restV (([] : List Val).take 0)).length (restV (([] : List Val).take 0)) ?_ T4.out (some ⟨b_z, o_z + 1, none⟩) (n_z - 1) (c_z - 1) (restV (([] : List Val).drop 0)) ?_ (HSz.out.kept HU4.out) ?_ HU34.out.size ?_; rfl; rfl; rfl; rfl; (have h1 := HSz.out.len; have h2 := HRB.out; have h3 := HRC.out; omega); intro v5 u5 hown hg; have HU5 := Lib.hid (below_next HU3.out (HU34.out.grown hg HU34.out.size (fun j hj => (T4.out.lt j hj).1))); have hlc := HSz.out.len; obtain ⟨a5, c5, rfl, hr5, _⟩ := Row8.of_owns (l := restV (([] : List Val).take 0) ++ restV (([] : List Val).drop 0)) (by rw [List.length_append, hlc]; exact hown) (by intro y hy; rcases List.mem_append.1 hy with hy | hy; exact HSy.out.byte y hy; exact HSz.out.byte y hy); have R5 := Lib.hid hr5; have SS := Lib.hid (show u5.cell? ⟨b_x, o_x, none⟩ = some (.int .u8 (0 : Int)) from (HU5.out.cell hbx).trans s0); clear hown hg T4 hr5 hlc)
            | (go_at_call 15; guard_hyp R5; refine (sameBytes_at (some ⟨b_x, o_x, none⟩) _ 0 _ 0 _ (restV ([] : List Val)) _ (HSx.out.kept HU5.out) (by have h1 := R5.out; rw [List.length_append, restV_parts] at h1; exact h1)).mono ?_; rintro e u6 ⟨rfl, hb⟩; have HU6 := Lib.hid (below_next HU5.out hb); have SS := Lib.hid (show u6.cell? ⟨b_x, o_x, none⟩ = some (.int .u8 (0 : Int)) from (HU6.out.cell hbx).trans s0); clear hb R5)
            ))
          go_wp2
          go_ret
          exact ⟨rfl, below_next HB9.out HU6.out⟩
    · skip
      have i_x : (1 : Int) ≤ (n_x : Int) := by omega
      have j_x : (n_x : Int) ≤ (c_x : Int) := by omega
      by_cases k_y : c_y = 1
      · subst k_y
        obtain rfl : n_y = 1 := by omega
        by_cases k_z : c_z = 1
        · subst k_z
          obtain rfl : n_z = 1 := by omega
          have HSx : Hid (Row8 w9 (some ⟨b_x, o_x + 1, none⟩) (n_x - 1) (c_x - 1) (restV ([] : List Val))) := Lib.hid (by have h1 := (Hx_9.out.cut 1 hp_x).1 (by omega); rw [encL_small (chkV_ok HC.out).1] at h1; exact h1)
          have HSy : Hid (Row8 w9 (some ⟨b_y, o_y, none⟩) 0 0 (restV (([] : List Val).take 0))) := Lib.hid (by have h1 := (Hy_9.out.cut 1 (Nat.le_refl _)).2 rfl; rw [encL_small (chkV_ok HC1.out).1] at h1; exact h1)
          have HSz : Hid (Row8 w9 (some ⟨b_z, o_z, none⟩) 0 0 (restV (([] : List Val).drop 0))) := Lib.hid (by have h1 := (Hz_9.out.cut 1 (Nat.le_refl _)).2 rfl; rw [encL_small (chkV_ok HC2.out).1] at h1; exact h1)
          have s0 : w9.cell? ⟨b_x, o_x, none⟩ = some (.int .u8 (0 : Int)) := by (obtain ⟨b9, o9, he, hc9⟩ := Hx_9.out.lies hp_x; cases he; have h9 := hc9 0 ([] : List Val).length (by rw [encL_small (chkV_ok HC.out).1]; rfl); rw [hlen.out] at h9; exact h9)
          have hbx := World.block_lt_of_cell? _ _ s0
          go_region_held3 (fun x => x.cell? ⟨b_x, o_x, none⟩ = some (.int .u8 (0 : Int))) (first | with_reducible exact s0 | with_reducible exact keep_drew s0 | with_reducible exact SS.out) ((first
            | (go_at_call 16; guard_hyp tok1; clear tok1; refine (twinOwn_any a_b n_b c_b (keyL (([] : List Val).take 0)) _ Hb_9.out.drew (by have h1 := Hb_9.out.len; have h2 := HKB.out; omega)).mono ?_; rintro e u1 ⟨g1, p1, rfl, hown, hb⟩; have T1 := Lib.hid hown; have HU1 := Lib.hid (below_drewB hb); have SS := Lib.hid (show u1.cell? ⟨b_x, o_x, none⟩ = some (.int .u8 (0 : Int)) from (HU1.out.cell hbx).trans s0); clear hb hown)
            | (guard_hyp T1; refine step_append_row ?_ (.tmp 102) (.tmp 103) ?_ w9.heap.size _ (keyL (([] : List Val).take 0)).length (keyL (([] : List Val).take 0)) ?_ T1.out a_c n_c c_c (keyL (([] : List Val).drop 0)) ?_ (Hc_9.out.kept HU1.out) ?_ HU1.out.size ?_; rfl; rfl; rfl; rfl; (have h1 := Hc_9.out.len; have h2 := HKC.out; have h3 := HKB.out; omega); intro v2 u2 hown hg; have HU2 := Lib.hid (HU1.out.grown hg HU1.out.size (fun j hj => (T1.out.lt j hj).1)); have hlc := Hc_9.out.len; obtain ⟨a2, c2, rfl, hr2, _⟩ := Row8.of_owns (l := keyL (([] : List Val).take 0) ++ keyL (([] : List Val).drop 0)) (by rw [List.length_append, hlc]; exact hown) (by intro y hy; rcases List.mem_append.1 hy with hy | hy; exact Hb_9.out.byte y hy; exact Hc_9.out.byte y hy); have R2 := Lib.hid hr2; have SS := Lib.hid (show u2.cell? ⟨b_x, o_x, none⟩ = some (.int .u8 (0 : Int)) from (HU2.out.cell hbx).trans s0); clear hown hg T1 hr2 hlc)
            | (go_at_call 15; guard_hyp R2; refine (sameBytes_at a_a _ n_a _ c_a _ (keyL ([] : List Val)) _ (Ha_9.out.kept HU2.out) (by have h1 := R2.out; rw [List.length_append, keyL_parts] at h1; exact h1)).mono ?_; rintro e u3 ⟨rfl, hb⟩; have HU3 := Lib.hid (below_next HU2.out hb); have SS := Lib.hid (show u3.cell? ⟨b_x, o_x, none⟩ = some (.int .u8 (0 : Int)) from (HU3.out.cell hbx).trans s0); clear hb R2)
            | (go_at_call 16; guard_hyp HU3; refine (twinOwn_any (some ⟨b_y, o_y, none⟩) 0 0 (restV (([] : List Val).take 0)) _ (HSy.out.kept HU3.out) (by have h1 := HSy.out.len; have h2 := HRB.out; omega)).mono ?_; rintro e u4 ⟨g4, p4, rfl, hown, hb⟩; have T4 := Lib.hid hown; have HU34 := Lib.hid hb; have HU4 := Lib.hid (below_next HU3.out hb); have SS := Lib.hid (show u4.cell? ⟨b_x, o_x, none⟩ = some (.int .u8 (0 : Int)) from (HU4.out.cell hbx).trans s0); clear hb hown)
            | (guard_hyp T4; refine step_append_row ?_ (.tmp 111) (.tmp 113) ?_ u3.heap.size _ (restV (([] : List Val).take 0)).length (restV (([] : List Val).take 0)) ?_ T4.out (some ⟨b_z, o_z, none⟩) 0 0 (restV (([] : List Val).drop 0)) ?_ (HSz.out.kept HU4.out) ?_ HU34.out.size ?_; rfl; rfl; rfl; rfl; (have h1 := HSz.out.len; have h2 := HRB.out; have h3 := HRC.out; omega); intro v5 u5 hown hg; have HU5 := Lib.hid (below_next HU3.out (HU34.out.grown hg HU34.out.size (fun j hj => (T4.out.lt j hj).1))); have hlc := HSz.out.len; obtain ⟨a5, c5, rfl, hr5, _⟩ := Row8.of_owns (l := restV (([] : List Val).take 0) ++ restV (([] : List Val).drop 0)) (by rw [List.length_append, hlc]; exact hown) (by intro y hy; rcases List.mem_append.1 hy with hy | hy; exact HSy.out.byte y hy; exact HSz.out.byte y hy); have R5 := Lib.hid hr5; have SS := Lib.hid (show u5.cell? ⟨b_x, o_x, none⟩ = some (.int .u8 (0 : Int)) from (HU5.out.cell hbx).trans s0); clear hown hg T4 hr5 hlc)
            | (go_at_call 15; guard_hyp R5; refine (sameBytes_at (some ⟨b_x, o_x + 1, none⟩) _ (n_x - 1) _ (c_x - 1) _ (restV ([] : List Val)) _ (HSx.out.kept HU5.out) (by have h1 := R5.out; rw [List.length_append, restV_parts] at h1; exact h1)).mono ?_; rintro e u6 ⟨rfl, hb⟩; have HU6 := Lib.hid (below_next HU5.out hb); have SS := Lib.hid (show u6.cell? ⟨b_x, o_x, none⟩ = some (.int .u8 (0 : Int)) from (HU6.out.cell hbx).trans s0); clear hb R5)
            ))
          go_wp2
          go_ret
          exact ⟨rfl, below_next HB9.out HU6.out⟩
        · skip
          have i_z : (1 : Int) ≤ (n_z : Int) := by omega
          have j_z : (n_z : Int) ≤ (c_z : Int) := by omega
          have HSx : Hid (Row8 w9 (some ⟨b_x, o_x + 1, none⟩) (n_x - 1) (c_x - 1) (restV ([] : List Val))) := Lib.hid (by have h1 := (Hx_9.out.cut 1 hp_x).1 (by omega); rw [encL_small (chkV_ok HC.out).1] at h1; exact h1)
          have HSy : Hid (Row8 w9 (some ⟨b_y, o_y, none⟩) 0 0 (restV (([] : List Val).take 0))) := Lib.hid (by have h1 := (Hy_9.out.cut 1 (Nat.le_refl _)).2 rfl; rw [encL_small (chkV_ok HC1.out).1] at h1; exact h1)
          have HSz : Hid (Row8 w9 (some ⟨b_z, o_z + 1, none⟩) (n_z - 1) (c_z - 1) (restV (([] : List Val).drop 0))) := Lib.hid (by have h1 := (Hz_9.out.cut 1 hp_z).1 (by omega); rw [encL_small (chkV_ok HC2.out).1] at h1; exact h1)
          have s0 : w9.cell? ⟨b_x, o_x, none⟩ = some (.int .u8 (0 : Int)) := by (obtain ⟨b9, o9, he, hc9⟩ := Hx_9.out.lies hp_x; cases he; have h9 := hc9 0 ([] : List Val).length (by rw [encL_small (chkV_ok HC.out).1]; rfl); rw [hlen.out] at h9; exact h9)
          have hbx := World.block_lt_of_cell? _ _ s0
          go_region_held3 (fun x => x.cell? ⟨b_x, o_x, none⟩ = some (.int .u8 (0 : Int))) (first | with_reducible exact s0 | with_reducible exact keep_drew s0 | with_reducible exact SS.out) ((first
            | (go_at_call 16; guard_hyp tok1; clear tok1; refine (twinOwn_any a_b n_b c_b (keyL (([] : List Val).take 0)) _ Hb_9.out.drew (by have h1 := Hb_9.out.len; have h2 := HKB.out; omega)).mono ?_; rintro e u1 ⟨g1, p1, rfl, hown, hb⟩; have T1 := Lib.hid hown; have HU1 := Lib.hid (below_drewB hb); have SS := Lib.hid (show u1.cell? ⟨b_x, o_x, none⟩ = some (.int .u8 (0 : Int)) from (HU1.out.cell hbx).trans s0); clear hb hown)
            | (guard_hyp T1; refine step_append_row ?_ (.tmp 102) (.tmp 103) ?_ w9.heap.size _ (keyL (([] : List Val).take 0)).length (keyL (([] : List Val).take 0)) ?_ T1.out a_c n_c c_c (keyL (([] : List Val).drop 0)) ?_ (Hc_9.out.kept HU1.out) ?_ HU1.out.size ?_; rfl; rfl; rfl; rfl; (have h1 := Hc_9.out.len; have h2 := HKC.out; have h3 := HKB.out; omega); intro v2 u2 hown hg; have HU2 := Lib.hid (HU1.out.grown hg HU1.out.size (fun j hj => (T1.out.lt j hj).1)); have hlc := Hc_9.out.len; obtain ⟨a2, c2, rfl, hr2, _⟩ := Row8.of_owns (l := keyL (([] : List Val).take 0) ++ keyL (([] : List Val).drop 0)) (by rw [List.length_append, hlc]; exact hown) (by intro y hy; rcases List.mem_append.1 hy with hy | hy; exact Hb_9.out.byte y hy; exact Hc_9.out.byte y hy); have R2 := Lib.hid hr2; have SS := Lib.hid (show u2.cell? ⟨b_x, o_x, none⟩ = some (.int .u8 (0 : Int)) from (HU2.out.cell hbx).trans s0); clear hown hg T1 hr2 hlc)
            | (go_at_call 15; guard_hyp R2; refine (sameBytes_at a_a _ n_a _ c_a _ (keyL ([] : List Val)) _ (Ha_9.out.kept HU2.out) (by have h1 := R2.out; rw [List.length_append, keyL_parts] at h1; exact h1)).mono ?_; rintro e u3 ⟨rfl, hb⟩; have HU3 := Lib.hid (below_next HU2.out hb); have SS := Lib.hid (show u3.cell? ⟨b_x, o_x, none⟩ = some (.int .u8 (0 : Int)) from (HU3.out.cell hbx).trans s0); clear hb R2)
            | (go_at_call 16; guard_hyp HU3; refine (twinOwn_any (some ⟨b_y, o_y, none⟩) 0 0 (restV (([] : List Val).take 0)) _ (HSy.out.kept HU3.out) (by have h1 := HSy.out.len; have h2 := HRB.out; omega)).mono ?_; rintro e u4 ⟨g4, p4, rfl, hown, hb⟩; have T4 := Lib.hid hown; have HU34 := Lib.hid hb; have HU4 := Lib.hid (below_next HU3.out hb); have SS := Lib.hid (show u4.cell? ⟨b_x, o_x, none⟩ = some (.int .u8 (0 : Int)) from (HU4.out.cell hbx).trans s0); clear hb hown)
            | (guard_hyp T4; refine step_append_row ?_ (.tmp 111) (.tmp 113) ?_ u3.heap.size _ (restV (([] : List Val).take 0)).length (restV (([] : List Val).take 0)) ?_ T4.out (some ⟨b_z, o_z + 1, none⟩) (n_z - 1) (c_z - 1) (restV (([] : List Val).drop 0)) ?_ (HSz.out.kept HU4.out) ?_ HU34.out.size ?_; rfl; rfl; rfl; rfl; (have h1 := HSz.out.len; have h2 := HRB.out; have h3 := HRC.out; omega); intro v5 u5 hown hg; have HU5 := Lib.hid (below_next HU3.out (HU34.out.grown hg HU34.out.size (fun j hj => (T4.out.lt j hj).1))); have hlc := HSz.out.len; obtain ⟨a5, c5, rfl, hr5, _⟩ := Row8.of_owns (l := restV (([] : List Val).take 0) ++ restV (([] : List Val).drop 0)) (by rw [List.length_append, hlc]; exact hown) (by intro y hy; rcases List.mem_append.1 hy with hy | hy; exact HSy.out.byte y hy; exact HSz.out.byte y hy); have R5 := Lib.hid hr5; have SS := Lib.hid (show u5.cell? ⟨b_x, o_x, none⟩ = some (.int .u8 (0 : Int)) from (HU5.out.cell hbx).trans s0); clear hown hg T4 hr5 hlc)
            | (go_at_call 15; guard_hyp R5; refine (sameBytes_at (some ⟨b_x, o_x + 1, none⟩) _ (n_x - 1) _ (c_x - 1) _ (restV ([] : List Val)) _ (HSx.out.kept HU5.out) (by have h1 := R5.out; rw [List.length_append, restV_parts] at h1; exact h1)).mono ?_; rintro e u6 ⟨rfl, hb⟩; have HU6 := Lib.hid (below_next HU5.out hb); have SS := Lib.hid (show u6.cell? ⟨b_x, o_x, none⟩ = some (.int .u8 (0 : Int)) from (HU6.out.cell hbx).trans s0); clear hb R5)
            ))
          go_wp2
          go_ret
          exact ⟨rfl, below_next HB9.out HU6.out⟩
      · skip
        have i_y : (1 : Int) ≤ (n_y : Int) := by omega
        have j_y : (n_y : Int) ≤ (c_y : Int) := by omega
        by_cases k_z : c_z = 1
        · subst k_z
          obtain rfl : n_z = 1 := by omega
          have HSx : Hid (Row8 w9 (some ⟨b_x, o_x + 1, none⟩) (n_x - 1) (c_x - 1) (restV ([] : List Val))) := Lib.hid (by have h1 := (Hx_9.out.cut 1 hp_x).1 (by omega); rw [encL_small (chkV_ok HC.out).1] at h1; exact h1)
          have HSy : Hid (Row8 w9 (some ⟨b_y, o_y + 1, none⟩) (n_y - 1) (c_y - 1) (restV (([] : List Val).take 0))) := Lib.hid (by have h1 := (Hy_9.out.cut 1 hp_y).1 (by omega); rw [encL_small (chkV_ok HC1.out).1] at h1; exact h1)
          have HSz : Hid (Row8 w9 (some ⟨b_z, o_z, none⟩) 0 0 (restV (([] : List Val).drop 0))) := Lib.hid (by have h1 := (Hz_9.out.cut 1 (Nat.le_refl _)).2 rfl; rw [encL_small (chkV_ok HC2.out).1] at h1; exact h1)
          have s0 : w9.cell? ⟨b_x, o_x, none⟩ = some (.int .u8 (0 : Int)) := by (obtain ⟨b9, o9, he, hc9⟩ := Hx_9.out.lies hp_x; cases he; have h9 := hc9 0 ([] : List Val).length (by rw [encL_small (chkV_ok HC.out).1]; rfl); rw [hlen.out] at h9; exact h9)
          have hbx := World.block_lt_of_cell? _ _ s0
          go_region_held3 (fun x => x.cell? ⟨b_x, o_x, none⟩ = some (.int .u8 (0 : Int))) (first | with_reducible exact s0 | with_reducible exact keep_drew s0 | with_reducible exact SS.out) ((first
            | (go_at_call 16; guard_hyp tok1; clear tok1; refine (twinOwn_any a_b n_b c_b (keyL (([] : List Val).take 0)) _ Hb_9.out.drew (by have h1 := Hb_9.out.len; have h2 := HKB.out; omega)).mono ?_; rintro e u1 ⟨g1, p1, rfl, hown, hb⟩; have T1 := Lib.hid hown; have HU1 := Lib.hid (below_drewB hb); have SS := Lib.hid (show u1.cell? ⟨b_x, o_x, none⟩ = some (.int .u8 (0 : Int)) from (HU1.out.cell hbx).trans s0); clear hb hown)
            | (guard_hyp T1; refine step_append_row ?_ (.tmp 102) (.tmp 103) ?_ w9.heap.size _ (keyL (([] : List Val).take 0)).length (keyL (([] : List Val).take 0)) ?_ T1.out a_c n_c c_c (keyL (([] : List Val).drop 0)) ?_ (Hc_9.out.kept HU1.out) ?_ HU1.out.size ?_; rfl; rfl; rfl; rfl; (have h1 := Hc_9.out.len; have h2 := HKC.out; have h3 := HKB.out; omega); intro v2 u2 hown hg; have HU2 := Lib.hid (HU1.out.grown hg HU1.out.size (fun j hj => (T1.out.lt j hj).1)); have hlc := Hc_9.out.len; obtain ⟨a2, c2, rfl, hr2, _⟩ := Row8.of_owns (l := keyL (([] : List Val).take 0) ++ keyL (([] : List Val).drop 0)) (by rw [List.length_append, hlc]; exact hown) (by intro y hy; rcases List.mem_append.1 hy with hy | hy; exact Hb_9.out.byte y hy; exact Hc_9.out.byte y hy); have R2 := Lib.hid hr2; have SS := Lib.hid (show u2.cell? ⟨b_x, o_x, none⟩ = some (.int .u8 (0 : Int)) from (HU2.out.cell hbx).trans s0); clear hown hg T1 hr2 hlc)
            | (go_at_call 15; guard_hyp R2; refine (sameBytes_at a_a _ n_a _ c_a _ (keyL ([] : List Val)) _ (Ha_9.out.kept HU2.out) (by have h1 := R2.out; rw [List.length_append, keyL_parts] at h1; exact h1)).mono ?_; rintro e u3 ⟨rfl, hb⟩; have HU3 := Lib.hid (below_next HU2.out hb); have SS := Lib.hid (show u3.cell? ⟨b_x, o_x, none⟩ = some (.int .u8 (0 : Int)) from (HU3.out.cell hbx).trans s0); clear hb R2)
            | (go_at_call 16; guard_hyp HU3; refine (twinOwn_any (some ⟨b_y, o_y + 1, none⟩) (n_y - 1) (c_y - 1) (restV (([] : List Val).take 0)) _ (HSy.out.kept HU3.out) (by have h1 := HSy.out.len; have h2 := HRB.out; omega)).mono ?_; rintro e u4 ⟨g4, p4, rfl, hown, hb⟩; have T4 := Lib.hid hown; have HU34 := Lib.hid hb; have HU4 := Lib.hid (below_next HU3.out hb); have SS := Lib.hid (show u4.cell? ⟨b_x, o_x, none⟩ = some (.int .u8 (0 : Int)) from (HU4.out.cell hbx).trans s0); clear hb hown)
            | (guard_hyp T4; refine step_append_row ?_ (.tmp 111) (.tmp 113) ?_ u3.heap.size _ (restV (([] : List Val).take 0)).length (restV (([] : List Val).take 0)) ?_ T4.out (some ⟨b_z, o_z, none⟩) 0 0 (restV (([] : List Val).drop 0)) ?_ (HSz.out.kept HU4.out) ?_ HU34.out.size ?_; rfl; rfl; rfl; rfl; (have h1 := HSz.out.len; have h2 := HRB.out; have h3 := HRC.out; omega); intro v5 u5 hown hg; have HU5 := Lib.hid (below_next HU3.out (HU34.out.grown hg HU34.out.size (fun j hj => (T4.out.lt j hj).1))); have hlc := HSz.out.len; obtain ⟨a5, c5, rfl, hr5, _⟩ := Row8.of_owns (l := restV (([] : List Val).take 0) ++ restV (([] : List Val).drop 0)) (by rw [List.length_append, hlc]; exact hown) (by intro y hy; rcases List.mem_append.1 hy with hy | hy; exact HSy.out.byte y hy; exact HSz.out.byte y hy); have R5 := Lib.hid hr5; have SS := Lib.hid (show u5.cell? ⟨b_x, o_x, none⟩ = some (.int .u8 (0 : Int)) from (HU5.out.cell hbx).trans s0); clear hown hg T4 hr5 hlc)
            | (go_at_call 15; guard_hyp R5; refine (sameBytes_at (some ⟨b_x, o_x + 1, none⟩) _ (n_x - 1) _ (c_x - 1) _ (restV ([] : List Val)) _ (HSx.out.kept HU5.out) (by have h1 := R5.out; rw [List.length_append, restV_parts] at h1; exact h1)).mono ?_; rintro e u6 ⟨rfl, hb⟩; have HU6 := Lib.hid (below_next HU5.out hb); have SS := Lib.hid (show u6.cell? ⟨b_x, o_x, none⟩ = some (.int .u8 (0 : Int)) from (HU6.out.cell hbx).trans s0); clear hb R5)
            ))
          go_wp2
          go_ret
          exact ⟨rfl, below_next HB9.out HU6.out⟩
        · skip
          have i_z : (1 : Int) ≤ (n_z : Int) := by omega
          have j_z : (n_z : Int) ≤ (c_z : Int) := by omega
          have HSx : Hid (Row8 w9 (some ⟨b_x, o_x + 1, none⟩) (n_x - 1) (c_x - 1) (restV ([] : List Val))) := Lib.hid (by have h1 := (Hx_9.out.cut 1 hp_x).1 (by omega); rw [encL_small (chkV_ok HC.out).1] at h1; exact h1)
          have HSy : Hid (Row8 w9 (some ⟨b_y, o_y + 1, none⟩) (n_y - 1) (c_y - 1) (restV (([] : List Val).take 0))) := Lib.hid (by have h1 := (Hy_9.out.cut 1 hp_y).1 (by omega); rw [encL_small (chkV_ok HC1.out).1] at h1; exact h1)
          have HSz : Hid (Row8 w9 (some ⟨b_z, o_z + 1, none⟩) (n_z - 1) (c_z - 1) (restV (([] : List Val).drop 0))) := Lib.hid (by have h1 := (Hz_9.out.cut 1 hp_z).1 (by omega); rw [encL_small (chkV_ok HC2.out).1] at h1; exact h1)
          have s0 : w9.cell? ⟨b_x, o_x, none⟩ = some (.int .u8 (0 : Int)) := by (obtain ⟨b9, o9, he, hc9⟩ := Hx_9.out.lies hp_x; cases he; have h9 := hc9 0 ([] : List Val).length (by rw [encL_small (chkV_ok HC.out).1]; rfl); rw [hlen.out] at h9; exact h9)
          have hbx := World.block_lt_of_cell? _ _ s0
          go_region_held3 (fun x => x.cell? ⟨b_x, o_x, none⟩ = some (.int .u8 (0 : Int))) (first | with_reducible exact s0 | with_reducible exact keep_drew s0 | with_reducible exact SS.out) ((first
            | (go_at_call 16; guard_hyp tok1; clear tok1; refine (twinOwn_any a_b n_b c_b (keyL (([] : List Val).take 0)) _ Hb_9.out.drew (by have h1 := Hb_9.out.len; have h2 := HKB.out; omega)).mono ?_; rintro e u1 ⟨g1, p1, rfl, hown, hb⟩; have T1 := Lib.hid hown; have HU1 := Lib.hid (below_drewB hb); have SS := Lib.hid (show u1.cell? ⟨b_x, o_x, none⟩ = some (.int .u8 (0 : Int)) from (HU1.out.cell hbx).trans s0); clear hb hown)
            | (guard_hyp T1; refine step_append_row ?_ (.tmp 102) (.tmp 103) ?_ w9.heap.size _ (keyL (([] : List Val).take 0)).length (keyL (([] : List Val).take 0)) ?_ T1.out a_c n_c c_c (keyL (([] : List Val).drop 0)) ?_ (Hc_9.out.kept HU1.out) ?_ HU1.out.size ?_; rfl; rfl; rfl; rfl; (have h1 := Hc_9.out.len; have h2 := HKC.out; have h3 := HKB.out; omega); intro v2 u2 hown hg; have HU2 := Lib.hid (HU1.out.grown hg HU1.out.size (fun j hj => (T1.out.lt j hj).1)); have hlc := Hc_9.out.len; obtain ⟨a2, c2, rfl, hr2, _⟩ := Row8.of_owns (l := keyL (([] : List Val).take 0) ++ keyL (([] : List Val).drop 0)) (by rw [List.length_append, hlc]; exact hown) (by intro y hy; rcases List.mem_append.1 hy with hy | hy; exact Hb_9.out.byte y hy; exact Hc_9.out.byte y hy); have R2 := Lib.hid hr2; have SS := Lib.hid (show u2.cell? ⟨b_x, o_x, none⟩ = some (.int .u8 (0 : Int)) from (HU2.out.cell hbx).trans s0); clear hown hg T1 hr2 hlc)
            | (go_at_call 15; guard_hyp R2; refine (sameBytes_at a_a _ n_a _ c_a _ (keyL ([] : List Val)) _ (Ha_9.out.kept HU2.out) (by have h1 := R2.out; rw [List.length_append, keyL_parts] at h1; exact h1)).mono ?_; rintro e u3 ⟨rfl, hb⟩; have HU3 := Lib.hid (below_next HU2.out hb); have SS := Lib.hid (show u3.cell? ⟨b_x, o_x, none⟩ = some (.int .u8 (0 : Int)) from (HU3.out.cell hbx).trans s0); clear hb R2)
            | (go_at_call 16; guard_hyp HU3; refine (twinOwn_any (some ⟨b_y, o_y + 1, none⟩) (n_y - 1) (c_y - 1) (restV (([] : List Val).take 0)) _ (HSy.out.kept HU3.out) (by have h1 := HSy.out.len; have h2 := HRB.out; omega)).mono ?_; rintro e u4 ⟨g4, p4, rfl, hown, hb⟩; have T4 := Lib.hid hown; have HU34 := Lib.hid hb; have HU4 := Lib.hid (below_next HU3.out hb); have SS := Lib.hid (show u4.cell? ⟨b_x, o_x, none⟩ = some (.int .u8 (0 : Int)) from (HU4.out.cell hbx).trans s0); clear hb hown)
            | (guard_hyp T4; refine step_append_row ?_ (.tmp 111) (.tmp 113) ?_ u3.heap.size _ (restV (([] : List Val).take 0)).length (restV (([] : List Val).take 0)) ?_ T4.out (some ⟨b_z, o_z + 1, none⟩) (n_z - 1) (c_z - 1) (restV (([] : List Val).drop 0)) ?_ (HSz.out.kept HU4.out) ?_ HU34.out.size ?_; rfl; rfl; rfl; rfl; (have h1 := HSz.out.len; have h2 := HRB.out; have h3 := HRC.out; omega); intro v5 u5 hown hg; have HU5 := Lib.hid (below_next HU3.out (HU34.out.grown hg HU34.out.size (fun j hj => (T4.out.lt j hj).1))); have hlc := HSz.out.len; obtain ⟨a5, c5, rfl, hr5, _⟩ := Row8.of_owns (l := restV (([] : List Val).take 0) ++ restV (([] : List Val).drop 0)) (by rw [List.length_append, hlc]; exact hown) (by intro y hy; rcases List.mem_append.1 hy with hy | hy; exact HSy.out.byte y hy; exact HSz.out.byte y hy); have R5 := Lib.hid hr5; have SS := Lib.hid (show u5.cell? ⟨b_x, o_x, none⟩ = some (.int .u8 (0 : Int)) from (HU5.out.cell hbx).trans s0); clear hown hg T4 hr5 hlc)
            | (go_at_call 15; guard_hyp R5; refine (sameBytes_at (some ⟨b_x, o_x + 1, none⟩) _ (n_x - 1) _ (c_x - 1) _ (restV ([] : List Val)) _ (HSx.out.kept HU5.out) (by have h1 := R5.out; rw [List.length_append, restV_parts] at h1; exact h1)).mono ?_; rintro e u6 ⟨rfl, hb⟩; have HU6 := Lib.hid (below_next HU5.out hb); have SS := Lib.hid (show u6.cell? ⟨b_x, o_x, none⟩ = some (.int .u8 (0 : Int)) from (HU6.out.cell hbx).trans s0); clear hb R5)
            ))
          go_wp2
          go_ret
          exact ⟨rfl, below_next HB9.out HU6.out⟩
end Go.Proofs.YtjjfmmimmfihgabGreatDoor
