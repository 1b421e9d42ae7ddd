/-
  WHAT IS PROVED: the walk of the statement WordsMany.
-/
import Derived.Test.YtfdjeaieddcgdaaDoorWoO
import Derived.Test.YtfdjeaieddcgdaaDoorWoLaw
namespace Go.Proofs.YtfdjeaieddcgdaaDoor
open Go.RowKit Go.Shelf
set_option linter.unusedVariables false

def tenS : List UInt8 := [40, 41, 44, 46, 42, 43, 45, 47, 37, 61]
theorem tenS_fine (d : Nat) (h : d < 10) : ∃ c, tenS[d]? = some c ∧ FineW ⟨4, [c], 0, 0⟩ := by
  have : d = 0 ∨ d = 1 ∨ d = 2 ∨ d = 3 ∨ d = 4 ∨ d = 5 ∨ d = 6 ∨ d = 7 ∨ d = 8 ∨ d = 9 := by omega
  have F : ∀ c : UInt8, [c] ∈ signsB → FineW ⟨4, [c], 0, 0⟩ := fun c h1 => ⟨(fun h : (4 : Nat) = 1 => absurd h (by decide)), (fun h : (4 : Nat) = 2 => absurd h (by decide)), (fun h : (4 : Nat) = 3 => absurd h (by decide)), fun _ => ⟨h1, rfl⟩, .inr (.inr (.inr rfl))⟩
  rcases this with rfl | rfl | rfl | rfl | rfl | rfl | rfl | rfl | rfl | rfl <;> exact ⟨_, rfl, F _ (by decide)⟩
theorem tenS_ext (d : Nat) (c : UInt8) (h : tenS[d]? = some c) : (⟨#[40, 41, 44, 46, 42, 43, 45, 47, 37, 61]⟩ : ByteArray).extract d (d + 1) = strU [c] := strU_at tenS d c h

set_option maxRecDepth 100000 in
set_option maxHeartbeats 8000000 in
theorem many_1 (N G : Nat) (w : World) (hw : Wo w) (hN : N ≤ 255) (hG : G ≤ 255) (hs : N % 8 ≤ 3) :
    Calls Tryd.prog 5 #[.int .u8 (N : Int), .int .u8 (G : Int)] w fun e w' => e = .returned (.bool true) ∧ Below w.heap.size w w' := by
  obtain ⟨r, hr⟩ : ∃ r, N % 8 = r := ⟨_, rfl⟩
  rw [hr] at hs
  have hr8 : r < 8 := by omega
  obtain ⟨c, hc, hf⟩ := tenS_fine (G % 10) (Nat.mod_lt _ (by decide))
  have HD := Lib.hid (tenS_ext (G % 10) c hc)
  obtain ⟨m, hm, hml⟩ := (pairs_lex c hf (1021 + r) 0 0 (by omega)).1 (by omega)
  have C1 := fun w hw => of_ok (strU (pairs c (1021 + r))) m (by rw [strU_data, ofB_lex, if_neg (by rw [pairs_len]; omega)]; exact hm) w hw
  have C2 := fun w hw => of_ok (strU (List.replicate (4093 + r) 32)) [] (by rw [strU_data]; exact blanks_lex _ (by omega)) w hw
  clear hm hf hc
  have HB0 := Lib.hid (Below.refl w.heap.size w)
  have HW0 := Lib.hid hw
  clear hw
  go_enter Tryd.func5, Tryd.ntmps5
  go_wp2_with fail
  rw [HD.out]
  go_loop [7, 8] (fun sv iv => ∃ i : Nat, i ≤ 1021 + r ∧ iv = .int .i64 i ∧ sv = .string (strU (pairs c i))) (fun _ iv => 1021 + r - (intOf iv).toNat)
  case atStart => exact ⟨0, by omega, rfl, rfl⟩
  case round =>
    obtain ⟨i, hi, rfl, rfl⟩ := hrel
    by_cases hlt : i < 1021 + r
    · have hz : ¬ 9223372036854775807 < (strU (pairs c i)).size + (strU [c]).size := by rw [strU_size, strU_size, pairs_len]; simp; omega
      have hz2 : ¬ 9223372036854775807 < (strU (pairs c i)).size + (strU [c]).size + 1 := by rw [strU_size, strU_size, pairs_len]; simp; omega
      have ez : strU (pairs c i) ++ strU [c] ++ ⟨#[32]⟩ = strU (pairs c (i + 1)) := by
        rw [show (⟨#[32]⟩ : ByteArray) = strU [32] from rfl, strU_append, strU_append, pairs, List.append_assoc]; rfl
      have EZ := Lib.hid ez
      clear ez
      go_wp2_with fail
      go_round
      case rel => exact ⟨i + 1, by omega, by go_num, by rw [EZ.out]⟩
      case measure => simp [intOf]; omega
    · obtain rfl : i = 1021 + r := by omega
      go_wp2_with fail
      refine (C1 _ HW0.out).mono ?_
      rintro e w1 ⟨va, rfl, hra, hb1⟩
      have HB1 := Lib.hid (HB0.out.trans (hb1.mono HB0.out.size))
      have HW1 := Lib.hid (HW0.out.kept hb1)
      clear hb1
      obtain ⟨oa, ca, rfl, hna, hma⟩ := hra.slice
      have Ra := Lib.hid hra
      clear hra
      rw [hml]
      go_wp2_with fail
      go_loop [12, 13] (fun sv iv => ∃ j : Nat, j ≤ 4093 + r ∧ iv = .int .i64 j ∧ sv = .string (strU (List.replicate j 32))) (fun _ iv => 4093 + r - (intOf iv).toNat)
      case atStart => exact ⟨0, by omega, rfl, rfl⟩
      case round =>
        obtain ⟨j, hj, rfl, rfl⟩ := hrel
        by_cases hlt2 : j < 4093 + r
        · have hz : ¬ 9223372036854775807 < (strU (List.replicate j 32)).size + 1 := by rw [strU_size]; simp; omega
          have ez : strU (List.replicate j 32) ++ ⟨#[32]⟩ = strU (List.replicate (j + 1) 32) := by
            rw [List.replicate_succ']; exact strU_append _ [32]
          go_wp2_with fail
          go_round
          case rel => exact ⟨j + 1, by omega, by go_num, rfl⟩
          case measure => simp [intOf]; omega
        · obtain rfl : j = 4093 + r := by omega
          have hbs : (strU (List.replicate (4093 + r) 32)).size = 4093 + r := by rw [strU_size, List.length_replicate]
          go_wp2_with fail
          refine (C2 _ HW1.out).mono ?_
          rintro e w2 ⟨vb, rfl, hrb, hb2⟩
          have HB2 := Lib.hid (HB1.out.trans (hb2.mono HB1.out.size))
          have HW2 := Lib.hid (HW1.out.kept hb2)
          have Ra' := Lib.hid (Ra.out.kept hb2)
          clear hb2
          obtain ⟨ob, cb, rfl, hnb, hmb⟩ := hrb.slice
          have Rb := Lib.hid hrb
          clear hrb
          go_wp2_with fail
          refine (alive_yes6 _ HW2.out).mono ?_
          rintro e w3 ⟨rfl, hb3⟩
          have HB3 := Lib.hid (HB2.out.trans (hb3.mono HB2.out.size))
          have HW3 := Lib.hid (HW2.out.kept hb3)
          have Ra'' := Lib.hid (Ra'.out.kept hb3)
          have Rb' := Lib.hid (Rb.out.kept hb3)
          clear hb3
          go_wp2_with fail
          go_ret
          exact ⟨congrArg (fun b => Ending.returned (Value.bool b)) (beq_iff_eq.2 (by omega : (1021 : Int) + (r : Int) = 1021 + (N : Int) % 8)), HB3.out⟩

set_option maxRecDepth 100000 in
set_option maxHeartbeats 8000000 in
theorem many_2 (N G : Nat) (w : World) (hw : Wo w) (hN : N ≤ 255) (hG : G ≤ 255) (hs : ¬ N % 8 ≤ 3) :
    Calls Tryd.prog 5 #[.int .u8 (N : Int), .int .u8 (G : Int)] w fun e w' => e = .returned (.bool true) ∧ Below w.heap.size w w' := by
  obtain ⟨r, hr⟩ : ∃ r, N % 8 = r := ⟨_, rfl⟩
  rw [hr] at hs
  have hr8 : r < 8 := by omega
  obtain ⟨c, hc, hf⟩ := tenS_fine (G % 10) (Nat.mod_lt _ (by decide))
  have HD := Lib.hid (tenS_ext (G % 10) c hc)
  have hm := (pairs_lex c hf (1021 + r) 0 0 (by omega)).2 (by omega)
  have C1 := fun w hw => of_bad (strU (pairs c (1021 + r))) 2048 3 (by rw [strU_data, ofB_lex, if_neg (by rw [pairs_len]; omega)]; exact hm) w hw
  have C2 := fun w hw => of_bad (strU (List.replicate (4093 + r) 32)) 0 3 (by rw [strU_data]; exact ofB_long _ (by rw [List.length_replicate]; omega)) w hw
  clear hm hf hc
  have HB0 := Lib.hid (Below.refl w.heap.size w)
  have HW0 := Lib.hid hw
  clear hw
  go_enter Tryd.func5, Tryd.ntmps5
  go_wp2_with fail
  rw [HD.out]
  go_loop [7, 8] (fun sv iv => ∃ i : Nat, i ≤ 1021 + r ∧ iv = .int .i64 i ∧ sv = .string (strU (pairs c i))) (fun _ iv => 1021 + r - (intOf iv).toNat)
  case atStart => exact ⟨0, by omega, rfl, rfl⟩
  case round =>
    obtain ⟨i, hi, rfl, rfl⟩ := hrel
    by_cases hlt : i < 1021 + r
    · have hz : ¬ 9223372036854775807 < (strU (pairs c i)).size + (strU [c]).size := by rw [strU_size, strU_size, pairs_len]; simp; omega
      have hz2 : ¬ 9223372036854775807 < (strU (pairs c i)).size + (strU [c]).size + 1 := by rw [strU_size, strU_size, pairs_len]; simp; omega
      have ez : strU (pairs c i) ++ strU [c] ++ ⟨#[32]⟩ = strU (pairs c (i + 1)) := by
        rw [show (⟨#[32]⟩ : ByteArray) = strU [32] from rfl, strU_append, strU_append, pairs, List.append_assoc]; rfl
      have EZ := Lib.hid ez
      clear ez
      go_wp2_with fail
      go_round
      case rel => exact ⟨i + 1, by omega, by go_num, by rw [EZ.out]⟩
      case measure => simp [intOf]; omega
    · obtain rfl : i = 1021 + r := by omega
      go_wp2_with fail
      refine (C1 _ HW0.out).mono ?_
      rintro e w1 ⟨oa, ca, rfl, hb1⟩
      have HB1 := Lib.hid (HB0.out.trans (hb1.mono HB0.out.size))
      have HW1 := Lib.hid (HW0.out.kept hb1)
      clear hb1
      go_wp2_with fail
      go_loop [12, 13] (fun sv iv => ∃ j : Nat, j ≤ 4093 + r ∧ iv = .int .i64 j ∧ sv = .string (strU (List.replicate j 32))) (fun _ iv => 4093 + r - (intOf iv).toNat)
      case atStart => exact ⟨0, by omega, rfl, rfl⟩
      case round =>
        obtain ⟨j, hj, rfl, rfl⟩ := hrel
        by_cases hlt2 : j < 4093 + r
        · have hz : ¬ 9223372036854775807 < (strU (List.replicate j 32)).size + 1 := by rw [strU_size]; simp; omega
          have ez : strU (List.replicate j 32) ++ ⟨#[32]⟩ = strU (List.replicate (j + 1) 32) := by
            rw [List.replicate_succ']; exact strU_append _ [32]
          go_wp2_with fail
          go_round
          case rel => exact ⟨j + 1, by omega, by go_num, rfl⟩
          case measure => simp [intOf]; omega
        · obtain rfl : j = 4093 + r := by omega
          have hbs : (strU (List.replicate (4093 + r) 32)).size = 4093 + r := by rw [strU_size, List.length_replicate]
          go_wp2_with fail
          refine (C2 _ HW1.out).mono ?_
          rintro e w2 ⟨ob, cb, rfl, hb2⟩
          have HB2 := Lib.hid (HB1.out.trans (hb2.mono HB1.out.size))
          have HW2 := Lib.hid (HW1.out.kept hb2)
          clear hb2
          go_wp2_with fail
          refine (alive_yes6 _ HW2.out).mono ?_
          rintro e w3 ⟨rfl, hb3⟩
          have HB3 := Lib.hid (HB2.out.trans (hb3.mono HB2.out.size))
          have HW3 := Lib.hid (HW2.out.kept hb3)
          clear hb3
          go_wp2_with fail
          go_ret
          exact ⟨rfl, HB3.out⟩

theorem walk_WordsMany (n : Int) (hn : (Lit.int .u8 n).wf = true) (k : Int) (hk : (Lit.int .u8 k).wf = true) {w : World} (hw : Wo w) :
    Calls Tryd.prog 5 #[.int .u8 n, .int .u8 k] w fun e w' => e = .returned (.bool true) ∧ Below w.heap.size w w' := by
  have h1 := wf_u8 hn
  have h2 := wf_u8 hk
  obtain ⟨N, rfl⟩ := Int.eq_ofNat_of_zero_le h1.1
  obtain ⟨G, rfl⟩ := Int.eq_ofNat_of_zero_le h2.1
  by_cases hs : N % 8 ≤ 3
  · exact many_1 N G w hw (by omega) (by omega) hs
  · exact many_2 N G w hw (by omega) (by omega) hs
end Go.Proofs.YtfdjeaieddcgdaaDoor
