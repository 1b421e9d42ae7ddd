/-
  WHAT IS PROVED: lists may have as many parts as there are said, and no more: the walk.
-/
import Derived.Test.YtenmnpbjnbdeaaaGreatDoorNf
import Derived.Test.YtenmnpbjnbdeaaaGreatDoorQTrLi
namespace Go.Proofs.YtenmnpbjnbdeaaaGreatDoor
open Go.RowKit Go.Shelf
set_option linter.unusedVariables false

theorem strU_cat7 (a b : List UInt8) : strU a ++ strU b = strU (a ++ b) := by
  have h : ∀ x y : ByteArray, x.data.toList = y.data.toList → x = y := by
    intro x y h
    rw [← strU_of x, ← strU_of y, h]
  apply h
  rw [ByteArray.data_append, Array.toList_append]
  simp [strU_data]
theorem noS_held (w : World) : StHeld (fun _ => True) w noS nS nS nS nS nS nS nS nS nS :=
  ⟨.inl ⟨rfl, rfl⟩, .inl ⟨rfl, rfl⟩, .inl ⟨rfl, rfl⟩, .inl ⟨rfl, rfl⟩, .inl ⟨rfl, rfl⟩, REs.nil _ _, .inl ⟨rfl, rfl⟩, REs.nil _ _, .inl ⟨rfl, rfl⟩⟩
set_option maxRecDepth 100000 in
set_option maxHeartbeats 8000000 in
theorem may_ok (s : ByteArray) (x : StM) (hx : stmtB s.data.toList = .ok x) (w : World) (hw : Wo w) :
    Calls Tryz.prog 27 #[.string s, .bool true] w fun e w' => e = .returned (.bool true) ∧ Below w.heap.size w w' := by
  obtain ⟨hall, hchk⟩ := stmtB_all hx
  have hC := stmt_any s w hw
  rw [hx] at hC
  go_enter Tryz.func27, Tryz.ntmps27
  go_wp2_with fail
  refine hC.mono ?_
  rintro e w1 ⟨⟨v1, v2, v3, v4, v5, v6, v7, v8, v9, rfl, hs⟩, hb⟩
  have HS := Lib.hid (hs.mono (Q := fun _ => True) (fun _ _ _ => trivial))
  obtain ⟨a1, n1, c1, a2, n2, c2, a3, n3, c3, a4, n4, c4, a5, n5, c5, a6, n6, c6, a7, n7, c7, a8, n8, c8, a9, n9, c9, ⟨rfl, rfl, rfl, rfl, rfl, rfl, rfl, rfl, rfl⟩, _⟩ := hs.lens
  unfold stArr
  obtain ⟨w2, hw2⟩ : ∃ w2, w2 = (w1.alloc (.cells (s00 0 z0 z0 nS nS nS nS nS nS nS 0 0) 39)).setRow w1.heap.size (xA x a1 n1 c1 a2 n2 c2 a3 n3 c3 a4 n4 c4 a5 n5 c5 a6 n6 c6 a7 n7 c7 a8 n8 c8 a9 n9 c9) := ⟨_, rfl⟩
  have hb2 : Below w1.heap.size w1 w2 := by rw [hw2]; exact Below.laid (Below.refl _ _) (Nat.le_refl _) _ _
  have HX : Hid (w2.heap[w1.heap.size]? = some (.cells (xA x a1 n1 c1 a2 n2 c2 a3 n3 c3 a4 n4 c4 a5 n5 c5 a6 n6 c6 a7 n7 c7 a8 n8 c8 a9 n9 c9) 39 (0, 0))) := Lib.hid (by rw [hw2]; exact setRow_heap _ _ _ _ _ _ (heap_alloc_new _ _))
  have HB2 := Lib.hid (hb.trans (hb2.mono hb.size))
  have hq := check_may x (.slice a1 n1 c1) (.slice a2 n2 c2) (.slice a3 n3 c3) (.slice a4 n4 c4) (.slice a5 n5 c5) (.slice a6 n6 c6) (.slice a7 n7 c7) (.slice a8 n8 c8) (.slice a9 n9 c9) w2 (HS.out.kept hb2.size (fun k _ hk => hb2.block k hk)) hall
  rw [hchk] at hq
  unfold stArr at hq
  clear hs hb hb2 hC hx
  go_wp2_with (first
    | (refine wpList_store_row rfl 39 _ _ rfl w1.heap.size (xA x a1 n1 c1 a2 n2 c2 a3 n3 c3 a4 n4 c4 a5 n5 c5 a6 n6 c6 a7 n7 c7 a8 n8 c8 a9 n9 c9) rfl rfl _ _ (heap_alloc_new _ _) (by kernel_rfl) rfl (by simp [Value.oneCell']) ?_; rw [← hw2]; clear hw2)
    | (refine wpListG_load_row rfl 39 _ rfl w1.heap.size rfl _ (xA x a1 n1 c1 a2 n2 c2 a3 n3 c3 a4 n4 c4 a5 n5 c5 a6 n6 c6 a7 n7 c7 a8 n8 c8 a9 n9 c9) (0, 0) _ HX.out Tryz.underlying39 rfl (by kernel_rfl) ?_))
  refine hq.mono ?_
  rintro e w3 ⟨rfl, hb3⟩
  have HB3 := Lib.hid (HB2.out.trans (hb3.mono HB2.out.size))
  clear hb3 hq
  go_wp2_with fail
  go_ret
  exact ⟨rfl, HB3.out⟩
set_option maxRecDepth 100000 in
set_option maxHeartbeats 8000000 in
theorem may_no (s : ByteArray) (hx : stmtB s.data.toList = .bad 0 3) (w : World) (hw : Wo w) :
    Calls Tryz.prog 27 #[.string s, .bool false] w fun e w' => e = .returned (.bool true) ∧ Below w.heap.size w w' := by
  have hC := stmt_any s w hw
  rw [hx] at hC
  unfold TellsS stZero at hC
  go_enter Tryz.func27, Tryz.ntmps27
  go_wp2_with fail
  refine hC.mono ?_
  rintro e w1 ⟨⟨_, rfl⟩, hb⟩
  obtain ⟨w2, hw2⟩ : ∃ w2, w2 = (w1.alloc (.cells (s00 0 z0 z0 nS nS nS nS nS nS nS 0 0) 39)).setRow w1.heap.size (s00 0 z0 z0 nS nS nS nS nS nS nS 0 0) := ⟨_, rfl⟩
  have hb2 : Below w1.heap.size w1 w2 := by rw [hw2]; exact Below.laid (Below.refl _ _) (Nat.le_refl _) _ _
  have HX : Hid (w2.heap[w1.heap.size]? = some (.cells (s00 0 z0 z0 nS nS nS nS nS nS nS 0 0) 39 (0, 0))) := Lib.hid (by rw [hw2]; exact setRow_heap _ _ _ _ _ _ (heap_alloc_new _ _))
  have HB2 := Lib.hid (hb.trans (hb2.mono hb.size))
  have hq : Calls Tryz.prog 25 #[.agg (s00 0 z0 z0 nS nS nS nS nS nS nS 0 0), .agg (s00 0 z0 z0 nS nS nS nS nS nS nS 0 0)] w2 fun e w' => e = .returned (.bool true) ∧ Below w2.heap.size w2 w' := same_stmt noS _ _ _ _ _ _ _ _ _ _ _ _ _ _ _ _ _ _ w2 (noS_held w2) (noS_held w2)
  clear hb hb2 hC hx
  go_wp2_with (first
    | (refine wpList_store_row rfl 39 _ _ rfl w1.heap.size (s00 0 z0 z0 nS nS nS nS nS nS nS 0 0) rfl rfl _ _ (heap_alloc_new _ _) (by kernel_rfl) rfl (by simp [Value.oneCell']) ?_; rw [← hw2]; clear hw2)
    | (refine wpListG_load_row rfl 39 _ rfl w1.heap.size rfl _ (s00 0 z0 z0 nS nS nS nS nS nS nS 0 0) (0, 0) _ HX.out Tryz.underlying39 rfl (by kernel_rfl) ?_))
  refine hq.mono ?_
  rintro e w3 ⟨rfl, hb3⟩
  have HB3 := Lib.hid (HB2.out.trans (hb3.mono HB2.out.size))
  clear hb3 hq
  go_wp2_with fail
  go_ret
  exact ⟨rfl, HB3.out⟩
theorem may_yes (s : ByteArray) (ok : Bool) (h : mayB s.data.toList ok = true) (w : World) (hw : Wo w) :
    Calls Tryz.prog 27 #[.string s, .bool ok] w fun e w' => e = .returned (.bool true) ∧ Below w.heap.size w w' := by
  unfold mayB at h
  cases hs : stmtB s.data.toList with
  | ok x =>
    rw [hs] at h
    have : ok = true := h
    subst this
    exact may_ok s x hs w hw
  | bad p e =>
    rw [hs] at h
    simp only [Bool.and_eq_true, beq_iff_eq, Bool.not_eq_true'] at h
    obtain ⟨h1, h2, h3⟩ := h
    subst h1 h2 h3
    exact may_no s hs w hw
set_option maxRecDepth 100000 in
set_option maxHeartbeats 16000000 in
theorem lists_walk (N M P I J K a b c : Nat) (w : World) (hw : Wo w) (hN : N ≤ 255) (hM : M ≤ 255) (hP : P ≤ 255) (hI : N % 6 = I) (hJ : M % 5 = J) (hK : P % 6 = K) (ha : a = 13 + I) (hb0 : b = 1 + J) (hc : c = 61 + K) (hI6 : I < 6) (hJ5 : J < 5) (hK6 : K < 6) :
    Calls Tryz.prog 10 #[.agg #[.int .u8 (N : Int), .int .u8 (M : Int), .int .u8 (P : Int)]] w fun e w' => e = .returned (.bool true) ∧ Below w.heap.size w w' := by
  have e1 : (13 : Int) + ((N : Int) % 6) = (a : Int) := by omega
  have e2 : (1 : Int) + ((M : Int) % 5) = (b : Int) := by omega
  have e3 : (61 : Int) + ((P : Int) % 6) = (c : Int) := by omega
  have m0 : mayB (listT0 a) (decide ((a : Int) ≤ 16)) = true := by
    have q := list_at0 hI6
    rw [← ha] at q
    rw [show decide ((a : Int) ≤ 16) = decide (a ≤ 16) from decide_eq_decide.2 (by omega)]; exact q
  have m1 : mayB (listT1 b) (decide ((b : Int) ≤ 3)) = true := by
    have q := list_at1 hJ5
    rw [← hb0] at q
    rw [show decide ((b : Int) ≤ 3) = decide (b ≤ 3) from decide_eq_decide.2 (by omega)]; exact q
  have m2 : mayB (listT2 c) (decide ((c : Int) ≤ 64)) = true := by
    have q := list_at2 hK6
    rw [← hc] at q
    rw [show decide ((c : Int) ≤ 64) = decide (c ≤ 64) from decide_eq_decide.2 (by omega)]; exact q
  have m3 : mayB (listT3 c) (decide ((c : Int) ≤ 64)) = true := by
    have q := list_at3 hK6
    rw [← hc] at q
    rw [show decide ((c : Int) ≤ 64) = decide (c ≤ 64) from decide_eq_decide.2 (by omega)]; exact q
  have m4 : mayB (listT4 c) (decide ((c : Int) ≤ 64)) = true := by
    have q := list_at4 hK6
    rw [← hc] at q
    rw [show decide ((c : Int) ≤ 64) = decide (c ≤ 64) from decide_eq_decide.2 (by omega)]; exact q
  have m5 : mayB (listT5 c) (decide ((c : Int) ≤ 64)) = true := by
    have q := list_at5 hK6
    rw [← hc] at q
    rw [show decide ((c : Int) ≤ 64) = decide (c ≤ 64) from decide_eq_decide.2 (by omega)]; exact q
  have m6 : mayB (listT6 c) (decide ((c : Int) ≤ 64)) = true := by
    have q := list_at6 hK6
    rw [← hc] at q
    rw [show decide ((c : Int) ≤ 64) = decide (c ≤ 64) from decide_eq_decide.2 (by omega)]; exact q
  have m7 : mayB (listT7 c) (decide ((c : Int) ≤ 64)) = true := by
    have q := list_at7 hK6
    rw [← hc] at q
    rw [show decide ((c : Int) ≤ 64) = decide (c ≤ 64) from decide_eq_decide.2 (by omega)]; exact q
  have hab : a ≤ 18 ∧ b ≤ 5 ∧ c ≤ 66 ∧ 1 ≤ a ∧ 1 ≤ b ∧ 1 ≤ c := by omega
  obtain ⟨ha1, hb1, hc1, ha2, hb2, hc2⟩ := hab
  clear hI hJ hK ha hb0 hc hI6 hJ5 hK6
  go_enter Tryz.func10, Tryz.ntmps10
  go_wp2_with fail
  go_loop [6, 7] (fun sv iv => ∃ j : Nat, 1 ≤ j ∧ j ≤ a ∧ iv = .int .i64 j ∧ sv = .string (strU (colsT j))) (fun _ iv => a - (intOf iv).toNat)
  case atStart => exact ⟨1, by omega, by omega, rfl, rfl⟩
  case round =>
    obtain ⟨j, hj1, hj, rfl, rfl⟩ := hrel
    by_cases hlt : j < a
    · have hz : ¬ 9223372036854775807 < (strU (colsT j)).size + 8 := by rw [strU_size]; unfold colsT; rw [List.length_append, repB_len]; simp; omega
      have ez : strU (colsT j) ++ ⟨#[44, 32, 99, 32, 84, 69, 88, 84]⟩ = strU (colsT (j + 1)) := by
        rw [show (⟨#[44, 32, 99, 32, 84, 69, 88, 84]⟩ : ByteArray) = strU [44, 32, 99, 32, 84, 69, 88, 84] from rfl, strU_cat7]
        unfold colsT
        rw [show j + 1 - 1 = (j - 1) + 1 by omega, repB, List.append_assoc]
      go_wp2_with fail
      go_round
      case rel => exact ⟨j + 1, by omega, by omega, by go_num, rfl⟩
      case measure => simp [intOf]; omega
    · obtain rfl : a = j := by omega
      go_wp2_with fail
      go_loop [8, 9] (fun sv iv => ∃ j : Nat, 1 ≤ j ∧ j ≤ b ∧ iv = .int .i64 j ∧ sv = .string (strU (fromT j))) (fun _ iv => b - (intOf iv).toNat)
      case atStart => exact ⟨1, by omega, by omega, rfl, rfl⟩
      case round =>
        obtain ⟨j, hj1, hj, rfl, rfl⟩ := hrel
        by_cases hlt : j < b
        · have hz : ¬ 9223372036854775807 < (strU (fromT j)).size + 12 := by rw [strU_size]; unfold fromT; rw [List.length_append, repB_len]; simp; omega
          have ez : strU (fromT j) ++ ⟨#[32, 74, 79, 73, 78, 32, 116, 32, 79, 78, 32, 49]⟩ = strU (fromT (j + 1)) := by
            rw [show (⟨#[32, 74, 79, 73, 78, 32, 116, 32, 79, 78, 32, 49]⟩ : ByteArray) = strU [32, 74, 79, 73, 78, 32, 116, 32, 79, 78, 32, 49] from rfl, strU_cat7]
            unfold fromT
            rw [show j + 1 - 1 = (j - 1) + 1 by omega, repB, List.append_assoc]
          go_wp2_with fail
          go_round
          case rel => exact ⟨j + 1, by omega, by omega, by go_num, rfl⟩
          case measure => simp [intOf]; omega
        · obtain rfl : b = j := by omega
          go_wp2_with fail
          go_loop [10, 11] (fun sv iv => ∃ j : Nat, 1 ≤ j ∧ j ≤ c ∧ iv = .int .i64 j ∧ sv = .string (strU (listT j))) (fun _ iv => c - (intOf iv).toNat)
          case atStart => exact ⟨1, by omega, by omega, rfl, rfl⟩
          case round =>
            obtain ⟨j, hj1, hj, rfl, rfl⟩ := hrel
            by_cases hlt : j < c
            · have hz : ¬ 9223372036854775807 < (strU (listT j)).size + 3 := by rw [strU_size]; unfold listT; rw [List.length_append, repB_len]; simp; omega
              have ez : strU (listT j) ++ ⟨#[44, 32, 49]⟩ = strU (listT (j + 1)) := by
                rw [show (⟨#[44, 32, 49]⟩ : ByteArray) = strU [44, 32, 49] from rfl, strU_cat7]
                unfold listT
                rw [show j + 1 - 1 = (j - 1) + 1 by omega, repB, List.append_assoc]
              go_wp2_with fail
              go_round
              case rel => exact ⟨j + 1, by omega, by omega, by go_num, rfl⟩
              case measure => simp [intOf]; omega
            · obtain rfl : c = j := by omega
              obtain ⟨p, hp⟩ : ∃ p, (strU (colsT a)).size = p := ⟨_, rfl⟩
              obtain ⟨q, hq⟩ : ∃ q, (strU (fromT b)).size = q := ⟨_, rfl⟩
              obtain ⟨r, hr⟩ : ∃ r, (strU (listT c)).size = r := ⟨_, rfl⟩
              have hp2 : p ≤ 1000 := by rw [strU_size] at hp; unfold colsT at hp; rw [List.length_append, repB_len] at hp; simp at hp; omega
              have hq2 : q ≤ 1000 := by rw [strU_size] at hq; unfold fromT at hq; rw [List.length_append, repB_len] at hq; simp at hq; omega
              have hr2 : r ≤ 1000 := by rw [strU_size] at hr; unfold listT at hr; rw [List.length_append, repB_len] at hr; simp at hr; omega
              have y0 : (⟨#[67, 82, 69, 65, 84, 69, 32, 84, 65, 66, 76, 69, 32, 116, 32, 40]⟩ : ByteArray) ++ strU (colsT a) ++ ⟨#[41]⟩ = strU (listT0 a) := by
                rw [show (⟨#[67, 82, 69, 65, 84, 69, 32, 84, 65, 66, 76, 69, 32, 116, 32, 40]⟩ : ByteArray) = strU [67, 82, 69, 65, 84, 69, 32, 84, 65, 66, 76, 69, 32, 116, 32, 40] from rfl, strU_cat7]
                rw [show (⟨#[41]⟩ : ByteArray) = strU [41] from rfl, strU_cat7]
                rfl
              have x0 : ¬ 9223372036854775807 < 16 + p := by omega
              have u0 : ¬ 9223372036854775807 < 16 + p + 1 := by omega
              have y1 : (⟨#[83, 69, 76, 69, 67, 84, 32, 97, 32, 70, 82, 79, 77, 32]⟩ : ByteArray) ++ strU (fromT b) = strU (listT1 b) := by
                rw [show (⟨#[83, 69, 76, 69, 67, 84, 32, 97, 32, 70, 82, 79, 77, 32]⟩ : ByteArray) = strU [83, 69, 76, 69, 67, 84, 32, 97, 32, 70, 82, 79, 77, 32] from rfl, strU_cat7]
                rfl
              have x1 : ¬ 9223372036854775807 < 14 + q := by omega
              have y2 : (⟨#[83, 69, 76, 69, 67, 84, 32]⟩ : ByteArray) ++ strU (listT c) ++ ⟨#[32, 70, 82, 79, 77, 32, 116]⟩ = strU (listT2 c) := by
                rw [show (⟨#[83, 69, 76, 69, 67, 84, 32]⟩ : ByteArray) = strU [83, 69, 76, 69, 67, 84, 32] from rfl, strU_cat7]
                rw [show (⟨#[32, 70, 82, 79, 77, 32, 116]⟩ : ByteArray) = strU [32, 70, 82, 79, 77, 32, 116] from rfl, strU_cat7]
                rfl
              have x2 : ¬ 9223372036854775807 < 7 + r := by omega
              have u2 : ¬ 9223372036854775807 < 7 + r + 7 := by omega
              have y3 : (⟨#[73, 78, 83, 69, 82, 84, 32, 73, 78, 84, 79, 32, 116, 32, 86, 65, 76, 85, 69, 83, 32, 40]⟩ : ByteArray) ++ strU (listT c) ++ ⟨#[41]⟩ = strU (listT3 c) := by
                rw [show (⟨#[73, 78, 83, 69, 82, 84, 32, 73, 78, 84, 79, 32, 116, 32, 86, 65, 76, 85, 69, 83, 32, 40]⟩ : ByteArray) = strU [73, 78, 83, 69, 82, 84, 32, 73, 78, 84, 79, 32, 116, 32, 86, 65, 76, 85, 69, 83, 32, 40] from rfl, strU_cat7]
                rw [show (⟨#[41]⟩ : ByteArray) = strU [41] from rfl, strU_cat7]
                rfl
              have x3 : ¬ 9223372036854775807 < 22 + r := by omega
              have u3 : ¬ 9223372036854775807 < 22 + r + 1 := by omega
              have y4 : (⟨#[83, 69, 76, 69, 67, 84, 32, 97, 32, 70, 82, 79, 77, 32, 116, 32, 71, 82, 79, 85, 80, 32, 66, 89, 32]⟩ : ByteArray) ++ strU (listT c) = strU (listT4 c) := by
                rw [show (⟨#[83, 69, 76, 69, 67, 84, 32, 97, 32, 70, 82, 79, 77, 32, 116, 32, 71, 82, 79, 85, 80, 32, 66, 89, 32]⟩ : ByteArray) = strU [83, 69, 76, 69, 67, 84, 32, 97, 32, 70, 82, 79, 77, 32, 116, 32, 71, 82, 79, 85, 80, 32, 66, 89, 32] from rfl, strU_cat7]
                rfl
              have x4 : ¬ 9223372036854775807 < 25 + r := by omega
              have y5 : (⟨#[83, 69, 76, 69, 67, 84, 32, 97, 32, 70, 82, 79, 77, 32, 116, 32, 79, 82, 68, 69, 82, 32, 66, 89, 32]⟩ : ByteArray) ++ strU (listT c) = strU (listT5 c) := by
                rw [show (⟨#[83, 69, 76, 69, 67, 84, 32, 97, 32, 70, 82, 79, 77, 32, 116, 32, 79, 82, 68, 69, 82, 32, 66, 89, 32]⟩ : ByteArray) = strU [83, 69, 76, 69, 67, 84, 32, 97, 32, 70, 82, 79, 77, 32, 116, 32, 79, 82, 68, 69, 82, 32, 66, 89, 32] from rfl, strU_cat7]
                rfl
              have x5 : ¬ 9223372036854775807 < 25 + r := by omega
              have y6 : (⟨#[68, 69, 76, 69, 84, 69, 32, 70, 82, 79, 77, 32, 116, 32, 87, 72, 69, 82, 69, 32, 97, 32, 73, 78, 32, 40]⟩ : ByteArray) ++ strU (listT c) ++ ⟨#[41]⟩ = strU (listT6 c) := by
                rw [show (⟨#[68, 69, 76, 69, 84, 69, 32, 70, 82, 79, 77, 32, 116, 32, 87, 72, 69, 82, 69, 32, 97, 32, 73, 78, 32, 40]⟩ : ByteArray) = strU [68, 69, 76, 69, 84, 69, 32, 70, 82, 79, 77, 32, 116, 32, 87, 72, 69, 82, 69, 32, 97, 32, 73, 78, 32, 40] from rfl, strU_cat7]
                rw [show (⟨#[41]⟩ : ByteArray) = strU [41] from rfl, strU_cat7]
                rfl
              have x6 : ¬ 9223372036854775807 < 26 + r := by omega
              have u6 : ¬ 9223372036854775807 < 26 + r + 1 := by omega
              have y7 : (⟨#[68, 69, 76, 69, 84, 69, 32, 70, 82, 79, 77, 32, 116, 32, 87, 72, 69, 82, 69, 32, 102, 40]⟩ : ByteArray) ++ strU (listT c) ++ ⟨#[41]⟩ = strU (listT7 c) := by
                rw [show (⟨#[68, 69, 76, 69, 84, 69, 32, 70, 82, 79, 77, 32, 116, 32, 87, 72, 69, 82, 69, 32, 102, 40]⟩ : ByteArray) = strU [68, 69, 76, 69, 84, 69, 32, 70, 82, 79, 77, 32, 116, 32, 87, 72, 69, 82, 69, 32, 102, 40] from rfl, strU_cat7]
                rw [show (⟨#[41]⟩ : ByteArray) = strU [41] from rfl, strU_cat7]
                rfl
              have x7 : ¬ 9223372036854775807 < 22 + r := by omega
              have u7 : ¬ 9223372036854775807 < 22 + r + 1 := by omega
              go_wp2_with fail
              refine (alive_yes7 _ (hw.kept (below_alloc _ _))).mono ?_
              rintro e w1 ⟨rfl, hb⟩
              have HB1 := Lib.hid ((below_alloc w _).trans (hb.mono (by simp)))
              clear hb
              go_wp2_with fail
              refine (may_yes (strU (listT0 a)) _ (by rw [strU_data]; exact m0) w1 (hw.kept HB1.out)).mono ?_
              rintro e w2 ⟨rfl, hb⟩
              have HB2 := Lib.hid (HB1.out.trans (hb.mono HB1.out.size))
              clear hb y0 x0 u0
              go_wp2_with fail
              refine (may_yes (strU (listT1 b)) _ (by rw [strU_data]; exact m1) w2 (hw.kept HB2.out)).mono ?_
              rintro e w3 ⟨rfl, hb⟩
              have HB3 := Lib.hid (HB2.out.trans (hb.mono HB2.out.size))
              clear hb y1 x1
              go_wp2_with fail
              refine (may_yes (strU (listT2 c)) _ (by rw [strU_data]; exact m2) w3 (hw.kept HB3.out)).mono ?_
              rintro e w4 ⟨rfl, hb⟩
              have HB4 := Lib.hid (HB3.out.trans (hb.mono HB3.out.size))
              clear hb y2 x2 u2
              go_wp2_with fail
              refine (may_yes (strU (listT3 c)) _ (by rw [strU_data]; exact m3) w4 (hw.kept HB4.out)).mono ?_
              rintro e w5 ⟨rfl, hb⟩
              have HB5 := Lib.hid (HB4.out.trans (hb.mono HB4.out.size))
              clear hb y3 x3 u3
              go_wp2_with fail
              refine (may_yes (strU (listT4 c)) _ (by rw [strU_data]; exact m4) w5 (hw.kept HB5.out)).mono ?_
              rintro e w6 ⟨rfl, hb⟩
              have HB6 := Lib.hid (HB5.out.trans (hb.mono HB5.out.size))
              clear hb y4 x4
              go_wp2_with fail
              refine (may_yes (strU (listT5 c)) _ (by rw [strU_data]; exact m5) w6 (hw.kept HB6.out)).mono ?_
              rintro e w7 ⟨rfl, hb⟩
              have HB7 := Lib.hid (HB6.out.trans (hb.mono HB6.out.size))
              clear hb y5 x5
              go_wp2_with fail
              refine (may_yes (strU (listT6 c)) _ (by rw [strU_data]; exact m6) w7 (hw.kept HB7.out)).mono ?_
              rintro e w8 ⟨rfl, hb⟩
              have HB8 := Lib.hid (HB7.out.trans (hb.mono HB7.out.size))
              clear hb y6 x6 u6
              go_wp2_with fail
              refine (may_yes (strU (listT7 c)) _ (by rw [strU_data]; exact m7) w8 (hw.kept HB8.out)).mono ?_
              rintro e w9 ⟨rfl, hb⟩
              have HB9 := Lib.hid (HB8.out.trans (hb.mono HB8.out.size))
              clear hb y7 x7 u7
              go_wp2_with fail
              go_ret
              exact ⟨rfl, HB9.out⟩
theorem walk_TreesLists (n m p : Int) (hn : (Lit.int .u8 n).wf = true) (hm : (Lit.int .u8 m).wf = true) (hp : (Lit.int .u8 p).wf = true) {w : World} (hw : Wo w) :
    Calls Tryz.prog 10 #[.agg #[.int .u8 n, .int .u8 m, .int .u8 p]] w fun e w' => e = .returned (.bool true) ∧ Below w.heap.size w w' := by
  have h1 := wf_u8 hn
  have h2 := wf_u8 hm
  have h3 := wf_u8 hp
  obtain ⟨N, rfl⟩ := Int.eq_ofNat_of_zero_le h1.1
  obtain ⟨M, rfl⟩ := Int.eq_ofNat_of_zero_le h2.1
  obtain ⟨P, rfl⟩ := Int.eq_ofNat_of_zero_le h3.1
  exact lists_walk N M P _ _ _ _ _ _ w hw (by omega) (by omega) (by omega) rfl rfl rfl rfl rfl rfl (Nat.mod_lt _ (by decide)) (Nat.mod_lt _ (by decide)) (Nat.mod_lt _ (by decide))
end Go.Proofs.YtenmnpbjnbdeaaaGreatDoor
