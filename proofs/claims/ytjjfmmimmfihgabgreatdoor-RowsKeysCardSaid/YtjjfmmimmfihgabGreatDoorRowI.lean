/-
  WHAT IS PROVED: what an outcome without results looks like as bytes.
-/
import Derived.Test.YtjjfmmimmfihgabGreatDoorRowH
namespace Go.Proofs.YtjjfmmimmfihgabGreatDoor
open Go.RowKit Go.Lib
set_option linter.unusedVariables false

theorem indexR_nil (f : Value) (w : World) :
    Calls Tryz.prog 103 #[.slice none 0 0, f] w fun e w' => e = .returned (.int .i64 (-1)) ∧ Below w.heap.size w w' := by
  go_enter Tryz.func103, Tryz.ntmps103
  go_wp2
  refine wp_loop_rounds 1 ?_
  rw [rounds_succ]
  go_wp2
  go_ret
  exact ⟨rfl, Below.refl _ _⟩
theorem containsR_nil (f : Value) (w : World) :
    Calls Tryz.prog 63 #[.slice none 0 0, f] w fun e w' => e = .returned (.bool false) ∧ Below w.heap.size w w' := by
  go_enter Tryz.func63, Tryz.ntmps63
  go_wp2_with fail
  refine (indexR_nil f w).mono ?_
  rintro e w1 ⟨rfl, hb⟩
  have HB := Lib.hid hb
  clear hb
  go_wp2
  go_ret
  exact ⟨rfl, HB.out⟩
theorem isByte_yes (n : Nat) (hn : n < 256) (w : World) :
    Calls Tryz.prog 65 #[.int .i64 (n : Int)] w fun e w' => e = .returned (.bool true) ∧ Below w.heap.size w w' := by
  have h1 : decide ((0 : Int) ≤ (n : Int)) = true := by rw [decide_eq_true_iff]; omega
  have h2 : decide ((n : Int) ≤ 255) = true := by rw [decide_eq_true_iff]; omega
  go_enter Tryz.func65, Tryz.ntmps65
  go_wp2
  go_ret
  exact ⟨rfl, Below.refl _ _⟩
set_option maxRecDepth 100000 in
set_option maxHeartbeats 4000000 in
theorem checkOutcome_nil (en at_ : Nat) (he : en < 256) (ha : at_ < 256) (w : World) :
    Calls Tryz.prog 30 #[.agg #[.int .i64 (en : Int), .int .i64 (at_ : Int), .slice none 0 0]] w fun e w' => e = .returned (.int .i64 0) ∧ Below w.heap.size w w' := by
  obtain ⟨w0, hW⟩ : ∃ w0, w0 = w.alloc (.cells #[.int .i64 (en : Int), .int .i64 (at_ : Int), .slice none 0 0] 36) := ⟨_, rfl⟩
  obtain ⟨T, hT⟩ : ∃ T, T = w.heap.size := ⟨_, rfl⟩
  have HT0 : Hid (w0.heap[T]? = some (.cells #[.int .i64 (en : Int), .int .i64 (at_ : Int), .slice none 0 0] 36 (0, 0))) := Lib.hid (by rw [hW, hT]; exact heap_alloc_new w _)
  have HB0 : Hid (Below w.heap.size w w0) := Lib.hid (by rw [hW]; exact below_alloc w _)
  go_enter Tryz.func30, Tryz.ntmps30
  go_wp2_with fail
  rw [← hW, ← hT]
  clear hW hT
  refine (containsR_nil _ w0).mono ?_
  rintro e w1 ⟨rfl, hb⟩
  have HB1 := Lib.hid (below_next HB0.out hb)
  have HT1 := Lib.hid ((hb.block _ (lt_of_block HT0.out)).trans HT0.out)
  clear hb HT0 HB0
  have t0 : w1.cell? ⟨T, 0, none⟩ = some (.int .i64 (en : Int)) := cell_of_block HT1.out 0
  go_wp2_with fail
  refine (isByte_yes en he w1).mono ?_
  rintro e w2 ⟨rfl, hb⟩
  have HB2 := Lib.hid (below_next HB1.out hb)
  have HT2 := Lib.hid ((hb.block _ (lt_of_block HT1.out)).trans HT1.out)
  clear hb HT1 HB1 t0
  have t1 : w2.cell? ⟨T, 1, none⟩ = some (.int .i64 (at_ : Int)) := cell_of_block HT2.out 1
  go_wp2_with fail
  refine (isByte_yes at_ ha w2).mono ?_
  rintro e w3 ⟨rfl, hb⟩
  have HB3 := Lib.hid (below_next HB2.out hb)
  have HT3 := Lib.hid ((hb.block _ (lt_of_block HT2.out)).trans HT2.out)
  clear hb HT2 HB2 t1
  have t2 : w3.cell? ⟨T, 2, none⟩ = some (.slice none 0 0) := cell_of_block HT3.out 2
  go_wp2_with fail
  refine (containsR_nil _ w3).mono ?_
  rintro e w4 ⟨rfl, hb⟩
  have HB4 := Lib.hid (below_next HB3.out hb)
  clear hb
  go_wp2
  go_ret
  exact ⟨rfl, HB4.out⟩
theorem putListR_nil (base B : Nat) (l : List Nat) (v f : Value) (w : World) (h : Wr base B l v w) (hroom : l.length ≤ 1073741824) :
    Calls Tryz.prog 32 #[.pointer (some ⟨B, 0, none⟩), .slice none 0 0, f] w (Writes base B l [0] w) := by
  have H0 := Lib.hid h
  have h0 : vb 0 = [0] := vb_low (by omega)
  clear h
  go_enter Tryz.func32, Tryz.ntmps32
  go_wp2_with fail
  have hc := putU_any base B l v 0 (by omega) w H0.out (by rw [h0]; simp; omega)
  rw [h0] at hc
  refine hc.mono ?_
  rintro e w1 ⟨rfl, ht, v1, h1⟩
  have HT := Lib.hid ht
  have H1 := Lib.hid h1
  clear hc ht h1 h0
  go_wp2
  refine wp_loop_rounds 1 ?_
  rw [rounds_succ]
  go_wp2
  exact bodyPost_ret (v := .tuple #[]) (by simp [results, go_sem]) rfl ⟨rfl, HT.out, _, H1.out⟩
set_option maxRecDepth 100000 in
set_option maxHeartbeats 4000000 in
theorem putOutcome_nil (en at_ : Nat) (he : en < 256) (ha : at_ < 256) (w : World) :
    Calls Tryz.prog 11 #[.agg #[.int .i64 (en : Int), .int .i64 (at_ : Int), .slice none 0 0]] w (Good8 w [en, at_, 0]) := by
  have q1 : IntKind.u8.wrap (en : Int) = (en : Int) := by rw [IntKind.wrap_u8]; omega
  have q2 : IntKind.u8.wrap (at_ : Int) = (at_ : Int) := by rw [IntKind.wrap_u8]; omega
  have q3 : (en : Int) % 256 = (en : Int) := by omega
  have q4 : (at_ : Int) % 256 = (at_ : Int) := by omega
  obtain ⟨w0, hW⟩ : ∃ w0, w0 = w.alloc (.cells #[.int .i64 (en : Int), .int .i64 (at_ : Int), .slice none 0 0] 36) := ⟨_, rfl⟩
  obtain ⟨T, hT⟩ : ∃ T, T = w.heap.size := ⟨_, rfl⟩
  have HT0 : Hid (w0.heap[T]? = some (.cells #[.int .i64 (en : Int), .int .i64 (at_ : Int), .slice none 0 0] 36 (0, 0))) := Lib.hid (by rw [hW, hT]; exact heap_alloc_new w _)
  have HB0 : Hid (Below w.heap.size w w0) := Lib.hid (by rw [hW]; exact below_alloc w _)
  go_enter Tryz.func11, Tryz.ntmps11
  go_wp2_with fail
  rw [← hW, ← hT]
  clear hW hT
  refine (checkOutcome_nil en at_ he ha w0).mono ?_
  rintro e w1 ⟨rfl, hb⟩
  have HB1 := Lib.hid (below_next HB0.out hb)
  have HT1 := Lib.hid ((hb.block _ (lt_of_block HT0.out)).trans HT0.out)
  clear hb HT0 HB0
  obtain ⟨B, hB⟩ : ∃ b, b = w1.heap.size := ⟨_, rfl⟩
  obtain ⟨w2, hw2⟩ : ∃ w2, w2 = w1.alloc (.cells #[.slice none 0 0] 70) := ⟨_, rfl⟩
  have H2 : Hid (Wr w.heap.size B [] (.slice none 0 0) w2) := Lib.hid (by
    rw [hw2, hB]
    exact ⟨heap_alloc_new w1 _, World.ownsRow_nil _ _ _ _, HB1.out.size, by have := HB1.out.size; simp; omega, fun _ h => by cases h⟩)
  have HB2 : Hid (Below w.heap.size w w2) := Lib.hid (by rw [hw2]; exact HB1.out.alloc HB1.out.size _)
  have HT2 : Hid (w2.heap[T]? = some (.cells #[.int .i64 (en : Int), .int .i64 (at_ : Int), .slice none 0 0] 36 (0, 0))) := Lib.hid (by rw [hw2]; exact ((below_alloc w1 _).block _ (lt_of_block HT1.out)).trans HT1.out)
  have hTB : T ≠ B := by have := lt_of_block HT1.out; omega
  have t0 : (w1.alloc (.cells #[.slice none 0 0] 70)).cell? ⟨T, 0, none⟩ = some (.int .i64 (en : Int)) := keep_alloc (cell_of_block HT1.out 0)
  have t1 : (w1.alloc (.cells #[.slice none 0 0] 70)).cell? ⟨T, 1, none⟩ = some (.int .i64 (at_ : Int)) := keep_alloc (cell_of_block HT1.out 1)
  have hz2 : w2.heap.size = w1.heap.size + 1 := by rw [hw2]; simp
  have HRow := Lib.hid (row_new w2 [en, at_] 2 (w1.heap.size + 1) (0, 0) hz2 rfl (by intro y hy; simp at hy; omega) (by omega))
  clear hz2
  go_wp2_with fail
  rw [← hw2, ← hB]
  rw [← hB] at HRow
  clear hw2 hB t0 t1 HT1 HB1
  refine (add_any w.heap.size B [] [en, at_] (.slice none 0 0) _ 2 2 _ (H2.out.kept (below_alloc _ _)) HRow.out (by simp)).mono ?_
  rintro e w3 ⟨rfl, ht, v3, h3⟩
  rw [List.nil_append] at h3
  have H3 := Lib.hid h3
  have HB3 := Lib.hid ((HB2.out.alloc HB2.out.size _).trans ht.below)
  have HT3 : Hid (w3.heap[T]? = some (.cells #[.int .i64 (en : Int), .int .i64 (at_ : Int), .slice none 0 0] 36 (0, 0))) := Lib.hid (ht.rest _ _ (((below_alloc w2 _).block _ (lt_of_block HT2.out)).trans HT2.out) hTB (notBytes_of (by decide)))
  clear ht h3 H2 HB2 HT2 HRow
  have t2 : w3.cell? ⟨T, 2, none⟩ = some (.slice none 0 0) := cell_of_block HT3.out 2
  go_wp2_with fail
  refine (putListR_nil w.heap.size B [en, at_] v3 _ w3 H3.out (by simp)).mono ?_
  rintro e w4 ⟨rfl, ht, v4, h4⟩
  have HB4 := Lib.hid (HB3.out.trans ht.below)
  obtain ⟨ao4, c4, rfl, hr4, hn4⟩ := Row8.of_owns h4.own h4.byte
  have s4 : w4.cell? ⟨B, 0, none⟩ = some (.slice ao4 ([en, at_] ++ [0]).length c4) := cell_of_block h4.at_ 0
  have H4 := Lib.hid (And.intro hr4 hn4)
  clear ht h4 hr4 hn4 H3 HB3 HT3 t2
  go_wp2
  go_ret2
  exact ⟨_, _, _, rfl, H4.out.1, H4.out.2, HB4.out⟩
end Go.Proofs.YtjjfmmimmfihgabGreatDoor
