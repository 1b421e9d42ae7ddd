/-
  WHAT IS PROVED: of three names with two signs between the tighter sign takes the name between, or the left one: the walk.
-/
import Derived.Test.YtenmnpbjnbdeaaaGreatDoorNf
import Derived.Test.YtenmnpbjnbdeaaaGreatDoorQTrTg
namespace Go.Proofs.YtenmnpbjnbdeaaaGreatDoor
open Go.RowKit Go.Shelf
set_option linter.unusedVariables false

theorem strU_append (a b : List UInt8) : strU a ++ strU b = strU (a ++ b) := by
  have h : ∀ x y : ByteArray, x.data.toList = y.data.toList → x = y := by
    intro x y h
    rw [← strU_of x, ← strU_of y, h]
  apply h
  rw [ByteArray.data_append, Array.toList_append]
  simp [strU_data]
set_option maxRecDepth 100000 in
set_option maxHeartbeats 8000000 in
theorem tight_1 (N M I K : Nat) (w : World) (hw : Wo w) (hN : N ≤ 255) (hM : M ≤ 255) (hNI : N % 14 = I) (hMK : M % 14 = K) (hI14 : I < 14) (hK14 : K < 14) (h1 : tgt I = 3) (h2 : tgt K = 3) :
    Calls Tryz.prog 5 #[.agg #[.int .u8 (N : Int), .int .u8 (M : Int)]] w fun e w' => e = .returned (.bool true) ∧ Below w.heap.size w w' := by
  have hI : ((N : Int) % 14) = (I : Int) := by omega
  have hK : ((M : Int) % 14) = (K : Int) := by omega
  have hI0 : (0 : Int) ≤ (I : Int) := by omega
  have hK0 : (0 : Int) ≤ (K : Int) := by omega
  have hIi : (I : Int) < 14 := by omega
  have hKi : (K : Int) < 14 := by omega
  obtain ⟨w3, hw3⟩ : ∃ w3, w3 = ((((w.alloc (.cells #[.int .u8 (N : Int), .int .u8 (M : Int)] 59)).alloc (.cells #[.string ⟨#[43]⟩, .string ⟨#[45]⟩, .string ⟨#[42]⟩, .string ⟨#[47]⟩, .string ⟨#[37]⟩, .string ⟨#[124, 124]⟩, .string ⟨#[61]⟩, .string ⟨#[60, 62]⟩, .string ⟨#[60]⟩, .string ⟨#[60, 61]⟩, .string ⟨#[62]⟩, .string ⟨#[62, 61]⟩, .string ⟨#[65, 78, 68]⟩, .string ⟨#[79, 82]⟩] 52)).alloc (.cells #[.int .i64 4, .int .i64 4, .int .i64 5, .int .i64 5, .int .i64 5, .int .i64 4, .int .i64 3, .int .i64 3, .int .i64 3, .int .i64 3, .int .i64 3, .int .i64 3, .int .i64 2, .int .i64 1] 60))) := ⟨_, rfl⟩
  have HB3 : Hid (Below w.heap.size w w3) := Lib.hid (by rw [hw3]; exact below_three _ _ _ _)
  have HS3 : Hid (w3.heap[w.heap.size + 1]? = some (.cells #[.string ⟨#[43]⟩, .string ⟨#[45]⟩, .string ⟨#[42]⟩, .string ⟨#[47]⟩, .string ⟨#[37]⟩, .string ⟨#[124, 124]⟩, .string ⟨#[61]⟩, .string ⟨#[60, 62]⟩, .string ⟨#[60]⟩, .string ⟨#[60, 61]⟩, .string ⟨#[62]⟩, .string ⟨#[62, 61]⟩, .string ⟨#[65, 78, 68]⟩, .string ⟨#[79, 82]⟩] 52 (0, 0)) ∧ w3.heap[w.heap.size + 2]? = some (.cells #[.int .i64 4, .int .i64 4, .int .i64 5, .int .i64 5, .int .i64 5, .int .i64 4, .int .i64 3, .int .i64 3, .int .i64 3, .int .i64 3, .int .i64 3, .int .i64 3, .int .i64 2, .int .i64 1] 60 (0, 0))) := Lib.hid (by
    rw [hw3]
    exact ⟨(heap_alloc_old _ _ (by simp)).trans (alloc_at (by simp)), alloc_at (by simp)⟩)
  obtain ⟨hsI, hlI⟩ := sgns_at hI14
  obtain ⟨hsK, hlK⟩ := sgns_at hK14
  have key : ∀ (j : Nat) (s : List UInt8), sgns[j]? = some s → (#[.string ⟨#[43]⟩, .string ⟨#[45]⟩, .string ⟨#[42]⟩, .string ⟨#[47]⟩, .string ⟨#[37]⟩, .string ⟨#[124, 124]⟩, .string ⟨#[61]⟩, .string ⟨#[60, 62]⟩, .string ⟨#[60]⟩, .string ⟨#[60, 61]⟩, .string ⟨#[62]⟩, .string ⟨#[62, 61]⟩, .string ⟨#[65, 78, 68]⟩, .string ⟨#[79, 82]⟩] : Array Value)[j]? = some (.string (strU s)) := by
    intro j s h
    have e : (#[.string ⟨#[43]⟩, .string ⟨#[45]⟩, .string ⟨#[42]⟩, .string ⟨#[47]⟩, .string ⟨#[37]⟩, .string ⟨#[124, 124]⟩, .string ⟨#[61]⟩, .string ⟨#[60, 62]⟩, .string ⟨#[60]⟩, .string ⟨#[60, 61]⟩, .string ⟨#[62]⟩, .string ⟨#[62, 61]⟩, .string ⟨#[65, 78, 68]⟩, .string ⟨#[79, 82]⟩] : Array Value) = (sgns.map fun s => Value.string (strU s)).toArray := rfl
    rw [e, List.getElem?_toArray, List.getElem?_map, h]; rfl
  have keyT : ∀ (j : Nat) (t : Nat), (tgts[j]? : Option Nat) = some t → (#[.int .i64 4, .int .i64 4, .int .i64 5, .int .i64 5, .int .i64 5, .int .i64 4, .int .i64 3, .int .i64 3, .int .i64 3, .int .i64 3, .int .i64 3, .int .i64 3, .int .i64 2, .int .i64 1] : Array Value)[j]? = some (.int .i64 (t : Int)) := by
    intro j t h
    have e : (#[.int .i64 4, .int .i64 4, .int .i64 5, .int .i64 5, .int .i64 5, .int .i64 4, .int .i64 3, .int .i64 3, .int .i64 3, .int .i64 3, .int .i64 3, .int .i64 3, .int .i64 2, .int .i64 1] : Array Value) = (tgts.map fun (t : Nat) => Value.int .i64 (t : Int)).toArray := rfl
    rw [e, List.getElem?_toArray, List.getElem?_map, h]; rfl
  have CI : Hid ((#[.string ⟨#[43]⟩, .string ⟨#[45]⟩, .string ⟨#[42]⟩, .string ⟨#[47]⟩, .string ⟨#[37]⟩, .string ⟨#[124, 124]⟩, .string ⟨#[61]⟩, .string ⟨#[60, 62]⟩, .string ⟨#[60]⟩, .string ⟨#[60, 61]⟩, .string ⟨#[62]⟩, .string ⟨#[62, 61]⟩, .string ⟨#[65, 78, 68]⟩, .string ⟨#[79, 82]⟩] : Array Value)[I]? = some (.string (strU (sgn I)))) := Lib.hid (key I _ hsI)
  have CK : Hid ((#[.string ⟨#[43]⟩, .string ⟨#[45]⟩, .string ⟨#[42]⟩, .string ⟨#[47]⟩, .string ⟨#[37]⟩, .string ⟨#[124, 124]⟩, .string ⟨#[61]⟩, .string ⟨#[60, 62]⟩, .string ⟨#[60]⟩, .string ⟨#[60, 61]⟩, .string ⟨#[62]⟩, .string ⟨#[62, 61]⟩, .string ⟨#[65, 78, 68]⟩, .string ⟨#[79, 82]⟩] : Array Value)[K]? = some (.string (strU (sgn K)))) := Lib.hid (key K _ hsK)
  have GI : Hid ((#[.int .i64 4, .int .i64 4, .int .i64 5, .int .i64 5, .int .i64 5, .int .i64 4, .int .i64 3, .int .i64 3, .int .i64 3, .int .i64 3, .int .i64 3, .int .i64 3, .int .i64 2, .int .i64 1] : Array Value)[I]? = some (.int .i64 (tgt I : Int))) := Lib.hid (keyT I _ (tgts_at hI14))
  have GK : Hid ((#[.int .i64 4, .int .i64 4, .int .i64 5, .int .i64 5, .int .i64 5, .int .i64 4, .int .i64 3, .int .i64 3, .int .i64 3, .int .i64 3, .int .i64 3, .int .i64 3, .int .i64 2, .int .i64 1] : Array Value)[K]? = some (.int .i64 (tgt K : Int))) := Lib.hid (keyT K _ (tgts_at hK14))
  clear key keyT hsI hsK
  go_enter Tryz.func5, Tryz.ntmps5
  go_wp2_with fail
  rw [← hw3]
  clear hw3
  have q0 := bwOf_cell w3 ⟨w.heap.size + 1, I, none⟩ (.string (strU (sgn I))) ((bk_cell HS3.out.1 I).trans CI.out)
  have q1 := bwOf_cell w3 ⟨w.heap.size + 1, K, none⟩ (.string (strU (sgn K))) ((bk_cell HS3.out.1 K).trans CK.out)
  obtain ⟨p, hp⟩ : ∃ p, (strU (sgn I)).size = p := ⟨_, rfl⟩
  obtain ⟨q, hq⟩ : ∃ q, (strU (sgn K)).size = q := ⟨_, rfl⟩
  have z1 : ¬ 9223372036854775807 < 2 + p := by rw [strU_size] at hp; omega
  have z2 : ¬ 9223372036854775807 < 2 + p + 3 := by rw [strU_size] at hp; omega
  have z3 : ¬ 9223372036854775807 < 2 + p + 3 + q := by rw [strU_size] at hp hq; omega
  have z4 : ¬ 9223372036854775807 < 2 + p + 3 + q + 2 := by rw [strU_size] at hp hq; omega
  refine wp_region_bw (w := w3) (by kernel_rfl) (by kernel_rfl) ?_
  iterate 11 (go_big_quiet_step (fail))
  refine wpQuiet_nil ?_
  rintro w4 ⟨m4, rfl⟩
  have HB4 := Lib.hid (HB3.out.trans ((bwOf_below w3 m4).mono HB3.out.size))
  have HT4 := Lib.hid (bwOf_below w3 m4)
  obtain ⟨w5, hw5⟩ : ∃ w5, w5 = bwOf w3 m4 := ⟨_, rfl⟩
  rw [← hw5] at HB4 HT4 ⊢
  clear hw5 q0 q1
  have g0 : w5.cell? ⟨w.heap.size + 1 + 1, I, none⟩ = some (.int .i64 (tgt I : Int)) := (World.cell?_of_block (HT4.out.block _ (bk_lt HS3.out.2))).trans ((bk_cell HS3.out.2 I).trans GI.out)
  have g1 : w5.cell? ⟨w.heap.size + 1 + 1, K, none⟩ = some (.int .i64 (tgt K : Int)) := (World.cell?_of_block (HT4.out.block _ (bk_lt HS3.out.2))).trans ((bk_cell HS3.out.2 K).trans GK.out)
  have HG2 : Hid (w5.cell? ⟨w.heap.size + 1, I, none⟩ = some (.string (strU (sgn I)))) := Lib.hid ((World.cell?_of_block (HT4.out.block _ (bk_lt HS3.out.1))).trans ((bk_cell HS3.out.1 I).trans CI.out))
  have HLT : Hid (w.heap.size + 1 < w5.heap.size) := Lib.hid (Nat.lt_of_lt_of_le (bk_lt HS3.out.1) HT4.out.size)
  have hst : ((⟨#[97, 32]⟩ : ByteArray) ++ strU (sgn I) ++ ⟨#[32, 98, 32]⟩ ++ strU (sgn K) ++ ⟨#[32, 99]⟩) = strU (tightT I K) := by
    rw [show (⟨#[97, 32]⟩ : ByteArray) = strU [97, 32] from rfl, show (⟨#[32, 98, 32]⟩ : ByteArray) = strU [32, 98, 32] from rfl, show (⟨#[32, 99]⟩ : ByteArray) = strU [32, 99] from rfl, strU_append, strU_append, strU_append, strU_append]
    rfl
  rw [hst]
  clear hst
  have t0 : ((tgt I : Int) == 3) = true := by rw [h1]; rfl
  have t1 : ((tgt K : Int) == 3) = true := by rw [h2]; rfl
  have hC := expr_any (strU (tightT I K)) w5 (hw.kept HB4.out)
  rw [strU_data, tight_a hI14 hK14 h1 h2] at hC
  unfold TellsX exVal noA at hC
  clear h1 h2
  go_wp2_with fail
  refine hC.mono ?_
  rintro e w6 ⟨⟨_, rfl⟩, hb⟩
  obtain ⟨w7, hw7⟩ : ∃ w7, w7 = w6.alloc (.cells #[.int .u8 0, .int .u8 0, .string (strU []), .string (strU []), .int .u8 0, .int .i64 0, .string (strU []), .bool false, .slice none 0 0] 36) := ⟨_, rfl⟩
  have hb7 : Below w6.heap.size w6 w7 := by rw [hw7]; exact below_alloc _ _
  have hb57 := hb.trans (hb7.mono hb.size)
  have HB7 := Lib.hid (HB4.out.trans (hb57.mono HB4.out.size))
  have HG7 : Hid (w7.cell? ⟨w.heap.size + 1, I, none⟩ = some (.string (strU (sgn I)))) := Lib.hid ((World.cell?_of_block (hb57.block _ HLT.out)).trans HG2.out)
  have HL7 : Hid (w.heap.size + 1 < w7.heap.size) := Lib.hid (Nat.lt_of_lt_of_le HLT.out hb57.size)
  have HA := alive_yes7 w7 (hw.kept HB7.out)
  clear hb hb7 hb57 hC g0 g1
  go_wp2_with (rw [← hw7])
  refine HA.mono ?_
  rintro e w8 ⟨rfl, hb⟩
  have HB8 := Lib.hid (HB7.out.trans (hb.mono HB7.out.size))
  have g2 : w8.cell? ⟨w.heap.size + 1, I, none⟩ = some (.string (strU (sgn I))) := (World.cell?_of_block (hb.block _ HL7.out)).trans HG7.out
  have heq : ((5 + ((sgn I).length : Int)) == 2 + (p : Int) + 3) = true := by rw [strU_size] at hp; rw [beq_iff_eq]; omega
  have heq2 : 5 + ((sgn I).length : Int) = 2 + (p : Int) + 3 := by rw [strU_size] at hp; omega
  clear hb HA
  go_wp2_with fail
  go_ret
  refine ⟨?_, HB8.out⟩
  simp [*]
set_option maxRecDepth 100000 in
set_option maxHeartbeats 8000000 in
theorem tight_b0 (N M I K : Nat) (w : World) (hw : Wo w) (hN : N ≤ 255) (hM : M ≤ 255) (hNI : N % 14 = I) (hMK : M % 14 = K) (hI14 : I < 14) (hK14 : K < 14) (h1 : ¬ (tgt I = 3 ∧ tgt K = 3)) (h2 : tgt K > tgt I) (h3 : tgt I ≠ 3) :
    Calls Tryz.prog 5 #[.agg #[.int .u8 (N : Int), .int .u8 (M : Int)]] w fun e w' => e = .returned (.bool true) ∧ Below w.heap.size w w' := by
  have hI : ((N : Int) % 14) = (I : Int) := by omega
  have hK : ((M : Int) % 14) = (K : Int) := by omega
  have hI0 : (0 : Int) ≤ (I : Int) := by omega
  have hK0 : (0 : Int) ≤ (K : Int) := by omega
  have hIi : (I : Int) < 14 := by omega
  have hKi : (K : Int) < 14 := by omega
  obtain ⟨w3, hw3⟩ : ∃ w3, w3 = ((((w.alloc (.cells #[.int .u8 (N : Int), .int .u8 (M : Int)] 59)).alloc (.cells #[.string ⟨#[43]⟩, .string ⟨#[45]⟩, .string ⟨#[42]⟩, .string ⟨#[47]⟩, .string ⟨#[37]⟩, .string ⟨#[124, 124]⟩, .string ⟨#[61]⟩, .string ⟨#[60, 62]⟩, .string ⟨#[60]⟩, .string ⟨#[60, 61]⟩, .string ⟨#[62]⟩, .string ⟨#[62, 61]⟩, .string ⟨#[65, 78, 68]⟩, .string ⟨#[79, 82]⟩] 52)).alloc (.cells #[.int .i64 4, .int .i64 4, .int .i64 5, .int .i64 5, .int .i64 5, .int .i64 4, .int .i64 3, .int .i64 3, .int .i64 3, .int .i64 3, .int .i64 3, .int .i64 3, .int .i64 2, .int .i64 1] 60))) := ⟨_, rfl⟩
  have HB3 : Hid (Below w.heap.size w w3) := Lib.hid (by rw [hw3]; exact below_three _ _ _ _)
  have HS3 : Hid (w3.heap[w.heap.size + 1]? = some (.cells #[.string ⟨#[43]⟩, .string ⟨#[45]⟩, .string ⟨#[42]⟩, .string ⟨#[47]⟩, .string ⟨#[37]⟩, .string ⟨#[124, 124]⟩, .string ⟨#[61]⟩, .string ⟨#[60, 62]⟩, .string ⟨#[60]⟩, .string ⟨#[60, 61]⟩, .string ⟨#[62]⟩, .string ⟨#[62, 61]⟩, .string ⟨#[65, 78, 68]⟩, .string ⟨#[79, 82]⟩] 52 (0, 0)) ∧ w3.heap[w.heap.size + 2]? = some (.cells #[.int .i64 4, .int .i64 4, .int .i64 5, .int .i64 5, .int .i64 5, .int .i64 4, .int .i64 3, .int .i64 3, .int .i64 3, .int .i64 3, .int .i64 3, .int .i64 3, .int .i64 2, .int .i64 1] 60 (0, 0))) := Lib.hid (by
    rw [hw3]
    exact ⟨(heap_alloc_old _ _ (by simp)).trans (alloc_at (by simp)), alloc_at (by simp)⟩)
  obtain ⟨hsI, hlI⟩ := sgns_at hI14
  obtain ⟨hsK, hlK⟩ := sgns_at hK14
  have key : ∀ (j : Nat) (s : List UInt8), sgns[j]? = some s → (#[.string ⟨#[43]⟩, .string ⟨#[45]⟩, .string ⟨#[42]⟩, .string ⟨#[47]⟩, .string ⟨#[37]⟩, .string ⟨#[124, 124]⟩, .string ⟨#[61]⟩, .string ⟨#[60, 62]⟩, .string ⟨#[60]⟩, .string ⟨#[60, 61]⟩, .string ⟨#[62]⟩, .string ⟨#[62, 61]⟩, .string ⟨#[65, 78, 68]⟩, .string ⟨#[79, 82]⟩] : Array Value)[j]? = some (.string (strU s)) := by
    intro j s h
    have e : (#[.string ⟨#[43]⟩, .string ⟨#[45]⟩, .string ⟨#[42]⟩, .string ⟨#[47]⟩, .string ⟨#[37]⟩, .string ⟨#[124, 124]⟩, .string ⟨#[61]⟩, .string ⟨#[60, 62]⟩, .string ⟨#[60]⟩, .string ⟨#[60, 61]⟩, .string ⟨#[62]⟩, .string ⟨#[62, 61]⟩, .string ⟨#[65, 78, 68]⟩, .string ⟨#[79, 82]⟩] : Array Value) = (sgns.map fun s => Value.string (strU s)).toArray := rfl
    rw [e, List.getElem?_toArray, List.getElem?_map, h]; rfl
  have keyT : ∀ (j : Nat) (t : Nat), (tgts[j]? : Option Nat) = some t → (#[.int .i64 4, .int .i64 4, .int .i64 5, .int .i64 5, .int .i64 5, .int .i64 4, .int .i64 3, .int .i64 3, .int .i64 3, .int .i64 3, .int .i64 3, .int .i64 3, .int .i64 2, .int .i64 1] : Array Value)[j]? = some (.int .i64 (t : Int)) := by
    intro j t h
    have e : (#[.int .i64 4, .int .i64 4, .int .i64 5, .int .i64 5, .int .i64 5, .int .i64 4, .int .i64 3, .int .i64 3, .int .i64 3, .int .i64 3, .int .i64 3, .int .i64 3, .int .i64 2, .int .i64 1] : Array Value) = (tgts.map fun (t : Nat) => Value.int .i64 (t : Int)).toArray := rfl
    rw [e, List.getElem?_toArray, List.getElem?_map, h]; rfl
  have CI : Hid ((#[.string ⟨#[43]⟩, .string ⟨#[45]⟩, .string ⟨#[42]⟩, .string ⟨#[47]⟩, .string ⟨#[37]⟩, .string ⟨#[124, 124]⟩, .string ⟨#[61]⟩, .string ⟨#[60, 62]⟩, .string ⟨#[60]⟩, .string ⟨#[60, 61]⟩, .string ⟨#[62]⟩, .string ⟨#[62, 61]⟩, .string ⟨#[65, 78, 68]⟩, .string ⟨#[79, 82]⟩] : Array Value)[I]? = some (.string (strU (sgn I)))) := Lib.hid (key I _ hsI)
  have CK : Hid ((#[.string ⟨#[43]⟩, .string ⟨#[45]⟩, .string ⟨#[42]⟩, .string ⟨#[47]⟩, .string ⟨#[37]⟩, .string ⟨#[124, 124]⟩, .string ⟨#[61]⟩, .string ⟨#[60, 62]⟩, .string ⟨#[60]⟩, .string ⟨#[60, 61]⟩, .string ⟨#[62]⟩, .string ⟨#[62, 61]⟩, .string ⟨#[65, 78, 68]⟩, .string ⟨#[79, 82]⟩] : Array Value)[K]? = some (.string (strU (sgn K)))) := Lib.hid (key K _ hsK)
  have GI : Hid ((#[.int .i64 4, .int .i64 4, .int .i64 5, .int .i64 5, .int .i64 5, .int .i64 4, .int .i64 3, .int .i64 3, .int .i64 3, .int .i64 3, .int .i64 3, .int .i64 3, .int .i64 2, .int .i64 1] : Array Value)[I]? = some (.int .i64 (tgt I : Int))) := Lib.hid (keyT I _ (tgts_at hI14))
  have GK : Hid ((#[.int .i64 4, .int .i64 4, .int .i64 5, .int .i64 5, .int .i64 5, .int .i64 4, .int .i64 3, .int .i64 3, .int .i64 3, .int .i64 3, .int .i64 3, .int .i64 3, .int .i64 2, .int .i64 1] : Array Value)[K]? = some (.int .i64 (tgt K : Int))) := Lib.hid (keyT K _ (tgts_at hK14))
  clear key keyT hsI hsK
  go_enter Tryz.func5, Tryz.ntmps5
  go_wp2_with fail
  rw [← hw3]
  clear hw3
  have q0 := bwOf_cell w3 ⟨w.heap.size + 1, I, none⟩ (.string (strU (sgn I))) ((bk_cell HS3.out.1 I).trans CI.out)
  have q1 := bwOf_cell w3 ⟨w.heap.size + 1, K, none⟩ (.string (strU (sgn K))) ((bk_cell HS3.out.1 K).trans CK.out)
  obtain ⟨p, hp⟩ : ∃ p, (strU (sgn I)).size = p := ⟨_, rfl⟩
  obtain ⟨q, hq⟩ : ∃ q, (strU (sgn K)).size = q := ⟨_, rfl⟩
  have z1 : ¬ 9223372036854775807 < 2 + p := by rw [strU_size] at hp; omega
  have z2 : ¬ 9223372036854775807 < 2 + p + 3 := by rw [strU_size] at hp; omega
  have z3 : ¬ 9223372036854775807 < 2 + p + 3 + q := by rw [strU_size] at hp hq; omega
  have z4 : ¬ 9223372036854775807 < 2 + p + 3 + q + 2 := by rw [strU_size] at hp hq; omega
  refine wp_region_bw (w := w3) (by kernel_rfl) (by kernel_rfl) ?_
  iterate 11 (go_big_quiet_step (fail))
  refine wpQuiet_nil ?_
  rintro w4 ⟨m4, rfl⟩
  have HB4 := Lib.hid (HB3.out.trans ((bwOf_below w3 m4).mono HB3.out.size))
  have HT4 := Lib.hid (bwOf_below w3 m4)
  obtain ⟨w5, hw5⟩ : ∃ w5, w5 = bwOf w3 m4 := ⟨_, rfl⟩
  rw [← hw5] at HB4 HT4 ⊢
  clear hw5 q0 q1
  have g0 : w5.cell? ⟨w.heap.size + 1 + 1, I, none⟩ = some (.int .i64 (tgt I : Int)) := (World.cell?_of_block (HT4.out.block _ (bk_lt HS3.out.2))).trans ((bk_cell HS3.out.2 I).trans GI.out)
  have g1 : w5.cell? ⟨w.heap.size + 1 + 1, K, none⟩ = some (.int .i64 (tgt K : Int)) := (World.cell?_of_block (HT4.out.block _ (bk_lt HS3.out.2))).trans ((bk_cell HS3.out.2 K).trans GK.out)
  have HG2 : Hid (w5.cell? ⟨w.heap.size + 1, I, none⟩ = some (.string (strU (sgn I)))) := Lib.hid ((World.cell?_of_block (HT4.out.block _ (bk_lt HS3.out.1))).trans ((bk_cell HS3.out.1 I).trans CI.out))
  have HLT : Hid (w.heap.size + 1 < w5.heap.size) := Lib.hid (Nat.lt_of_lt_of_le (bk_lt HS3.out.1) HT4.out.size)
  have hst : ((⟨#[97, 32]⟩ : ByteArray) ++ strU (sgn I) ++ ⟨#[32, 98, 32]⟩ ++ strU (sgn K) ++ ⟨#[32, 99]⟩) = strU (tightT I K) := by
    rw [show (⟨#[97, 32]⟩ : ByteArray) = strU [97, 32] from rfl, show (⟨#[32, 98, 32]⟩ : ByteArray) = strU [32, 98, 32] from rfl, show (⟨#[32, 99]⟩ : ByteArray) = strU [32, 99] from rfl, strU_append, strU_append, strU_append, strU_append]
    rfl
  rw [hst]
  clear hst
  have t0 : ((tgt I : Int) == 3) = false := by rw [beq_eq_false_iff_ne]; omega
  have t2 : ((tgt I : Int) < (tgt K : Int)) := by omega
  have hX := tight_b hI14 hK14 h1 h2
  have r0 := bwOf_cell w5 _ _ g0
  have r1 := bwOf_cell w5 _ _ g1
  clear h1 h2 h3
  go_wp2_with fail
  refine wp_region_bw (w := w5) (by kernel_rfl) (by kernel_rfl) ?_
  iterate 7 (go_big_quiet_step (fail))
  refine wpQuiet_nil ?_
  rintro w6 ⟨m6, rfl⟩
  have HB6 := Lib.hid (HB4.out.trans ((bwOf_below w5 m6).mono HB4.out.size))
  obtain ⟨w7, hw7⟩ : ∃ w7, w7 = bwOf w5 m6 := ⟨_, rfl⟩
  rw [← hw7] at HB6 ⊢
  clear hw7 r0 r1 g0 g1
  have HA := alive_yes7 w7 (hw.kept HB6.out)
  go_wp2_with fail
  refine HA.mono ?_
  rintro e w8 ⟨rfl, hb⟩
  have HB8 := Lib.hid (HB6.out.trans (hb.mono HB6.out.size))
  clear hb HA
  go_wp2_with fail
  refine (col_any [97] w8).mono ?_
  rintro e w9 ⟨rfl, hb⟩
  have HB9 := Lib.hid (HB8.out.trans (hb.mono HB8.out.size))
  clear hb
  go_wp2_with fail
  refine (col_any [98] w9).mono ?_
  rintro e w10 ⟨rfl, hb⟩
  have HB10 := Lib.hid (HB9.out.trans (hb.mono HB9.out.size))
  clear hb
  go_wp2_with fail
  refine (col_any [99] w10).mono ?_
  rintro e w11 ⟨rfl, hb⟩
  have HB11 := Lib.hid (HB10.out.trans (hb.mono HB10.out.size))
  clear hb
  have hC := two_any7 (5 + K) (nmE 98) (nmE 99) (.slice none 0 0) (.slice none 0 0) w11 (REs.nil _ _) (REs.nil _ _)
  rw [show ((5 + K : Nat) : Int) = 5 + (K : Int) by omega] at hC
  go_wp2_with fail
  refine hC.mono ?_
  rintro e w12 ⟨v1, rfl, hs, hb⟩
  have HB12 := Lib.hid (HB11.out.trans (hb.mono HB11.out.size))
  have Hv1 := Lib.hid hs
  clear hb hs hC
  have hC := two_any7 (5 + I) (nmE 97) (twoE (5 + K) (nmE 98) (nmE 99)) (.slice none 0 0) v1 w12 (REs.nil _ _) Hv1.out
  rw [show ((5 + I : Nat) : Int) = 5 + (I : Int) by omega] at hC
  go_wp2_with fail
  refine hC.mono ?_
  rintro e w13 ⟨v2, rfl, hs, hb⟩
  have HB13 := Lib.hid (HB12.out.trans (hb.mono HB12.out.size))
  have Hv2 := Lib.hid hs
  clear hb hs hC
  have hC := is_yes (strU (tightT I K)) _ (by rw [strU_data]; exact hX) v2 w13 (hw.kept HB13.out) Hv2.out
  go_wp2_with fail
  refine hC.mono ?_
  rintro e w14 ⟨rfl, hb⟩
  have HB14 := Lib.hid (HB13.out.trans (hb.mono HB13.out.size))
  clear hb hC
  go_wp2_with fail
  go_ret
  exact ⟨rfl, HB14.out⟩
set_option maxRecDepth 100000 in
set_option maxHeartbeats 8000000 in
theorem tight_b1 (N M I K : Nat) (w : World) (hw : Wo w) (hN : N ≤ 255) (hM : M ≤ 255) (hNI : N % 14 = I) (hMK : M % 14 = K) (hI14 : I < 14) (hK14 : K < 14) (h1 : ¬ (tgt I = 3 ∧ tgt K = 3)) (h2 : tgt K > tgt I) (h3 : tgt I = 3) (h4 : tgt K ≠ 3) :
    Calls Tryz.prog 5 #[.agg #[.int .u8 (N : Int), .int .u8 (M : Int)]] w fun e w' => e = .returned (.bool true) ∧ Below w.heap.size w w' := by
  have hI : ((N : Int) % 14) = (I : Int) := by omega
  have hK : ((M : Int) % 14) = (K : Int) := by omega
  have hI0 : (0 : Int) ≤ (I : Int) := by omega
  have hK0 : (0 : Int) ≤ (K : Int) := by omega
  have hIi : (I : Int) < 14 := by omega
  have hKi : (K : Int) < 14 := by omega
  obtain ⟨w3, hw3⟩ : ∃ w3, w3 = ((((w.alloc (.cells #[.int .u8 (N : Int), .int .u8 (M : Int)] 59)).alloc (.cells #[.string ⟨#[43]⟩, .string ⟨#[45]⟩, .string ⟨#[42]⟩, .string ⟨#[47]⟩, .string ⟨#[37]⟩, .string ⟨#[124, 124]⟩, .string ⟨#[61]⟩, .string ⟨#[60, 62]⟩, .string ⟨#[60]⟩, .string ⟨#[60, 61]⟩, .string ⟨#[62]⟩, .string ⟨#[62, 61]⟩, .string ⟨#[65, 78, 68]⟩, .string ⟨#[79, 82]⟩] 52)).alloc (.cells #[.int .i64 4, .int .i64 4, .int .i64 5, .int .i64 5, .int .i64 5, .int .i64 4, .int .i64 3, .int .i64 3, .int .i64 3, .int .i64 3, .int .i64 3, .int .i64 3, .int .i64 2, .int .i64 1] 60))) := ⟨_, rfl⟩
  have HB3 : Hid (Below w.heap.size w w3) := Lib.hid (by rw [hw3]; exact below_three _ _ _ _)
  have HS3 : Hid (w3.heap[w.heap.size + 1]? = some (.cells #[.string ⟨#[43]⟩, .string ⟨#[45]⟩, .string ⟨#[42]⟩, .string ⟨#[47]⟩, .string ⟨#[37]⟩, .string ⟨#[124, 124]⟩, .string ⟨#[61]⟩, .string ⟨#[60, 62]⟩, .string ⟨#[60]⟩, .string ⟨#[60, 61]⟩, .string ⟨#[62]⟩, .string ⟨#[62, 61]⟩, .string ⟨#[65, 78, 68]⟩, .string ⟨#[79, 82]⟩] 52 (0, 0)) ∧ w3.heap[w.heap.size + 2]? = some (.cells #[.int .i64 4, .int .i64 4, .int .i64 5, .int .i64 5, .int .i64 5, .int .i64 4, .int .i64 3, .int .i64 3, .int .i64 3, .int .i64 3, .int .i64 3, .int .i64 3, .int .i64 2, .int .i64 1] 60 (0, 0))) := Lib.hid (by
    rw [hw3]
    exact ⟨(heap_alloc_old _ _ (by simp)).trans (alloc_at (by simp)), alloc_at (by simp)⟩)
  obtain ⟨hsI, hlI⟩ := sgns_at hI14
  obtain ⟨hsK, hlK⟩ := sgns_at hK14
  have key : ∀ (j : Nat) (s : List UInt8), sgns[j]? = some s → (#[.string ⟨#[43]⟩, .string ⟨#[45]⟩, .string ⟨#[42]⟩, .string ⟨#[47]⟩, .string ⟨#[37]⟩, .string ⟨#[124, 124]⟩, .string ⟨#[61]⟩, .string ⟨#[60, 62]⟩, .string ⟨#[60]⟩, .string ⟨#[60, 61]⟩, .string ⟨#[62]⟩, .string ⟨#[62, 61]⟩, .string ⟨#[65, 78, 68]⟩, .string ⟨#[79, 82]⟩] : Array Value)[j]? = some (.string (strU s)) := by
    intro j s h
    have e : (#[.string ⟨#[43]⟩, .string ⟨#[45]⟩, .string ⟨#[42]⟩, .string ⟨#[47]⟩, .string ⟨#[37]⟩, .string ⟨#[124, 124]⟩, .string ⟨#[61]⟩, .string ⟨#[60, 62]⟩, .string ⟨#[60]⟩, .string ⟨#[60, 61]⟩, .string ⟨#[62]⟩, .string ⟨#[62, 61]⟩, .string ⟨#[65, 78, 68]⟩, .string ⟨#[79, 82]⟩] : Array Value) = (sgns.map fun s => Value.string (strU s)).toArray := rfl
    rw [e, List.getElem?_toArray, List.getElem?_map, h]; rfl
  have keyT : ∀ (j : Nat) (t : Nat), (tgts[j]? : Option Nat) = some t → (#[.int .i64 4, .int .i64 4, .int .i64 5, .int .i64 5, .int .i64 5, .int .i64 4, .int .i64 3, .int .i64 3, .int .i64 3, .int .i64 3, .int .i64 3, .int .i64 3, .int .i64 2, .int .i64 1] : Array Value)[j]? = some (.int .i64 (t : Int)) := by
    intro j t h
    have e : (#[.int .i64 4, .int .i64 4, .int .i64 5, .int .i64 5, .int .i64 5, .int .i64 4, .int .i64 3, .int .i64 3, .int .i64 3, .int .i64 3, .int .i64 3, .int .i64 3, .int .i64 2, .int .i64 1] : Array Value) = (tgts.map fun (t : Nat) => Value.int .i64 (t : Int)).toArray := rfl
    rw [e, List.getElem?_toArray, List.getElem?_map, h]; rfl
  have CI : Hid ((#[.string ⟨#[43]⟩, .string ⟨#[45]⟩, .string ⟨#[42]⟩, .string ⟨#[47]⟩, .string ⟨#[37]⟩, .string ⟨#[124, 124]⟩, .string ⟨#[61]⟩, .string ⟨#[60, 62]⟩, .string ⟨#[60]⟩, .string ⟨#[60, 61]⟩, .string ⟨#[62]⟩, .string ⟨#[62, 61]⟩, .string ⟨#[65, 78, 68]⟩, .string ⟨#[79, 82]⟩] : Array Value)[I]? = some (.string (strU (sgn I)))) := Lib.hid (key I _ hsI)
  have CK : Hid ((#[.string ⟨#[43]⟩, .string ⟨#[45]⟩, .string ⟨#[42]⟩, .string ⟨#[47]⟩, .string ⟨#[37]⟩, .string ⟨#[124, 124]⟩, .string ⟨#[61]⟩, .string ⟨#[60, 62]⟩, .string ⟨#[60]⟩, .string ⟨#[60, 61]⟩, .string ⟨#[62]⟩, .string ⟨#[62, 61]⟩, .string ⟨#[65, 78, 68]⟩, .string ⟨#[79, 82]⟩] : Array Value)[K]? = some (.string (strU (sgn K)))) := Lib.hid (key K _ hsK)
  have GI : Hid ((#[.int .i64 4, .int .i64 4, .int .i64 5, .int .i64 5, .int .i64 5, .int .i64 4, .int .i64 3, .int .i64 3, .int .i64 3, .int .i64 3, .int .i64 3, .int .i64 3, .int .i64 2, .int .i64 1] : Array Value)[I]? = some (.int .i64 (tgt I : Int))) := Lib.hid (keyT I _ (tgts_at hI14))
  have GK : Hid ((#[.int .i64 4, .int .i64 4, .int .i64 5, .int .i64 5, .int .i64 5, .int .i64 4, .int .i64 3, .int .i64 3, .int .i64 3, .int .i64 3, .int .i64 3, .int .i64 3, .int .i64 2, .int .i64 1] : Array Value)[K]? = some (.int .i64 (tgt K : Int))) := Lib.hid (keyT K _ (tgts_at hK14))
  clear key keyT hsI hsK
  go_enter Tryz.func5, Tryz.ntmps5
  go_wp2_with fail
  rw [← hw3]
  clear hw3
  have q0 := bwOf_cell w3 ⟨w.heap.size + 1, I, none⟩ (.string (strU (sgn I))) ((bk_cell HS3.out.1 I).trans CI.out)
  have q1 := bwOf_cell w3 ⟨w.heap.size + 1, K, none⟩ (.string (strU (sgn K))) ((bk_cell HS3.out.1 K).trans CK.out)
  obtain ⟨p, hp⟩ : ∃ p, (strU (sgn I)).size = p := ⟨_, rfl⟩
  obtain ⟨q, hq⟩ : ∃ q, (strU (sgn K)).size = q := ⟨_, rfl⟩
  have z1 : ¬ 9223372036854775807 < 2 + p := by rw [strU_size] at hp; omega
  have z2 : ¬ 9223372036854775807 < 2 + p + 3 := by rw [strU_size] at hp; omega
  have z3 : ¬ 9223372036854775807 < 2 + p + 3 + q := by rw [strU_size] at hp hq; omega
  have z4 : ¬ 9223372036854775807 < 2 + p + 3 + q + 2 := by rw [strU_size] at hp hq; omega
  refine wp_region_bw (w := w3) (by kernel_rfl) (by kernel_rfl) ?_
  iterate 11 (go_big_quiet_step (fail))
  refine wpQuiet_nil ?_
  rintro w4 ⟨m4, rfl⟩
  have HB4 := Lib.hid (HB3.out.trans ((bwOf_below w3 m4).mono HB3.out.size))
  have HT4 := Lib.hid (bwOf_below w3 m4)
  obtain ⟨w5, hw5⟩ : ∃ w5, w5 = bwOf w3 m4 := ⟨_, rfl⟩
  rw [← hw5] at HB4 HT4 ⊢
  clear hw5 q0 q1
  have g0 : w5.cell? ⟨w.heap.size + 1 + 1, I, none⟩ = some (.int .i64 (tgt I : Int)) := (World.cell?_of_block (HT4.out.block _ (bk_lt HS3.out.2))).trans ((bk_cell HS3.out.2 I).trans GI.out)
  have g1 : w5.cell? ⟨w.heap.size + 1 + 1, K, none⟩ = some (.int .i64 (tgt K : Int)) := (World.cell?_of_block (HT4.out.block _ (bk_lt HS3.out.2))).trans ((bk_cell HS3.out.2 K).trans GK.out)
  have HG2 : Hid (w5.cell? ⟨w.heap.size + 1, I, none⟩ = some (.string (strU (sgn I)))) := Lib.hid ((World.cell?_of_block (HT4.out.block _ (bk_lt HS3.out.1))).trans ((bk_cell HS3.out.1 I).trans CI.out))
  have HLT : Hid (w.heap.size + 1 < w5.heap.size) := Lib.hid (Nat.lt_of_lt_of_le (bk_lt HS3.out.1) HT4.out.size)
  have hst : ((⟨#[97, 32]⟩ : ByteArray) ++ strU (sgn I) ++ ⟨#[32, 98, 32]⟩ ++ strU (sgn K) ++ ⟨#[32, 99]⟩) = strU (tightT I K) := by
    rw [show (⟨#[97, 32]⟩ : ByteArray) = strU [97, 32] from rfl, show (⟨#[32, 98, 32]⟩ : ByteArray) = strU [32, 98, 32] from rfl, show (⟨#[32, 99]⟩ : ByteArray) = strU [32, 99] from rfl, strU_append, strU_append, strU_append, strU_append]
    rfl
  rw [hst]
  clear hst
  have t0 : ((tgt I : Int) == 3) = true := by rw [h3]; rfl
  have t1 : ((tgt K : Int) == 3) = false := by rw [beq_eq_false_iff_ne]; omega
  have t2 : ((tgt I : Int) < (tgt K : Int)) := by omega
  have hX := tight_b hI14 hK14 h1 h2
  have r0 := bwOf_cell w5 _ _ g0
  have r1 := bwOf_cell w5 _ _ g1
  clear h1 h2 h3 h4
  go_wp2_with fail
  refine wp_region_bw (w := w5) (by kernel_rfl) (by kernel_rfl) ?_
  iterate 7 (go_big_quiet_step (fail))
  refine wpQuiet_nil ?_
  rintro w6 ⟨m6, rfl⟩
  have HB6 := Lib.hid (HB4.out.trans ((bwOf_below w5 m6).mono HB4.out.size))
  obtain ⟨w7, hw7⟩ : ∃ w7, w7 = bwOf w5 m6 := ⟨_, rfl⟩
  rw [← hw7] at HB6 ⊢
  clear hw7 r0 r1 g0 g1
  have HA := alive_yes7 w7 (hw.kept HB6.out)
  go_wp2_with fail
  refine HA.mono ?_
  rintro e w8 ⟨rfl, hb⟩
  have HB8 := Lib.hid (HB6.out.trans (hb.mono HB6.out.size))
  clear hb HA
  go_wp2_with fail
  refine (col_any [97] w8).mono ?_
  rintro e w9 ⟨rfl, hb⟩
  have HB9 := Lib.hid (HB8.out.trans (hb.mono HB8.out.size))
  clear hb
  go_wp2_with fail
  refine (col_any [98] w9).mono ?_
  rintro e w10 ⟨rfl, hb⟩
  have HB10 := Lib.hid (HB9.out.trans (hb.mono HB9.out.size))
  clear hb
  go_wp2_with fail
  refine (col_any [99] w10).mono ?_
  rintro e w11 ⟨rfl, hb⟩
  have HB11 := Lib.hid (HB10.out.trans (hb.mono HB10.out.size))
  clear hb
  have hC := two_any7 (5 + K) (nmE 98) (nmE 99) (.slice none 0 0) (.slice none 0 0) w11 (REs.nil _ _) (REs.nil _ _)
  rw [show ((5 + K : Nat) : Int) = 5 + (K : Int) by omega] at hC
  go_wp2_with fail
  refine hC.mono ?_
  rintro e w12 ⟨v1, rfl, hs, hb⟩
  have HB12 := Lib.hid (HB11.out.trans (hb.mono HB11.out.size))
  have Hv1 := Lib.hid hs
  clear hb hs hC
  have hC := two_any7 (5 + I) (nmE 97) (twoE (5 + K) (nmE 98) (nmE 99)) (.slice none 0 0) v1 w12 (REs.nil _ _) Hv1.out
  rw [show ((5 + I : Nat) : Int) = 5 + (I : Int) by omega] at hC
  go_wp2_with fail
  refine hC.mono ?_
  rintro e w13 ⟨v2, rfl, hs, hb⟩
  have HB13 := Lib.hid (HB12.out.trans (hb.mono HB12.out.size))
  have Hv2 := Lib.hid hs
  clear hb hs hC
  have hC := is_yes (strU (tightT I K)) _ (by rw [strU_data]; exact hX) v2 w13 (hw.kept HB13.out) Hv2.out
  go_wp2_with fail
  refine hC.mono ?_
  rintro e w14 ⟨rfl, hb⟩
  have HB14 := Lib.hid (HB13.out.trans (hb.mono HB13.out.size))
  clear hb hC
  go_wp2_with fail
  go_ret
  exact ⟨rfl, HB14.out⟩
set_option maxRecDepth 100000 in
set_option maxHeartbeats 8000000 in
theorem tight_c0 (N M I K : Nat) (w : World) (hw : Wo w) (hN : N ≤ 255) (hM : M ≤ 255) (hNI : N % 14 = I) (hMK : M % 14 = K) (hI14 : I < 14) (hK14 : K < 14) (h1 : ¬ (tgt I = 3 ∧ tgt K = 3)) (h2 : ¬ tgt K > tgt I) (h3 : tgt I ≠ 3) :
    Calls Tryz.prog 5 #[.agg #[.int .u8 (N : Int), .int .u8 (M : Int)]] w fun e w' => e = .returned (.bool true) ∧ Below w.heap.size w w' := by
  have hI : ((N : Int) % 14) = (I : Int) := by omega
  have hK : ((M : Int) % 14) = (K : Int) := by omega
  have hI0 : (0 : Int) ≤ (I : Int) := by omega
  have hK0 : (0 : Int) ≤ (K : Int) := by omega
  have hIi : (I : Int) < 14 := by omega
  have hKi : (K : Int) < 14 := by omega
  obtain ⟨w3, hw3⟩ : ∃ w3, w3 = ((((w.alloc (.cells #[.int .u8 (N : Int), .int .u8 (M : Int)] 59)).alloc (.cells #[.string ⟨#[43]⟩, .string ⟨#[45]⟩, .string ⟨#[42]⟩, .string ⟨#[47]⟩, .string ⟨#[37]⟩, .string ⟨#[124, 124]⟩, .string ⟨#[61]⟩, .string ⟨#[60, 62]⟩, .string ⟨#[60]⟩, .string ⟨#[60, 61]⟩, .string ⟨#[62]⟩, .string ⟨#[62, 61]⟩, .string ⟨#[65, 78, 68]⟩, .string ⟨#[79, 82]⟩] 52)).alloc (.cells #[.int .i64 4, .int .i64 4, .int .i64 5, .int .i64 5, .int .i64 5, .int .i64 4, .int .i64 3, .int .i64 3, .int .i64 3, .int .i64 3, .int .i64 3, .int .i64 3, .int .i64 2, .int .i64 1] 60))) := ⟨_, rfl⟩
  have HB3 : Hid (Below w.heap.size w w3) := Lib.hid (by rw [hw3]; exact below_three _ _ _ _)
  have HS3 : Hid (w3.heap[w.heap.size + 1]? = some (.cells #[.string ⟨#[43]⟩, .string ⟨#[45]⟩, .string ⟨#[42]⟩, .string ⟨#[47]⟩, .string ⟨#[37]⟩, .string ⟨#[124, 124]⟩, .string ⟨#[61]⟩, .string ⟨#[60, 62]⟩, .string ⟨#[60]⟩, .string ⟨#[60, 61]⟩, .string ⟨#[62]⟩, .string ⟨#[62, 61]⟩, .string ⟨#[65, 78, 68]⟩, .string ⟨#[79, 82]⟩] 52 (0, 0)) ∧ w3.heap[w.heap.size + 2]? = some (.cells #[.int .i64 4, .int .i64 4, .int .i64 5, .int .i64 5, .int .i64 5, .int .i64 4, .int .i64 3, .int .i64 3, .int .i64 3, .int .i64 3, .int .i64 3, .int .i64 3, .int .i64 2, .int .i64 1] 60 (0, 0))) := Lib.hid (by
    rw [hw3]
    exact ⟨(heap_alloc_old _ _ (by simp)).trans (alloc_at (by simp)), alloc_at (by simp)⟩)
  obtain ⟨hsI, hlI⟩ := sgns_at hI14
  obtain ⟨hsK, hlK⟩ := sgns_at hK14
  have key : ∀ (j : Nat) (s : List UInt8), sgns[j]? = some s → (#[.string ⟨#[43]⟩, .string ⟨#[45]⟩, .string ⟨#[42]⟩, .string ⟨#[47]⟩, .string ⟨#[37]⟩, .string ⟨#[124, 124]⟩, .string ⟨#[61]⟩, .string ⟨#[60, 62]⟩, .string ⟨#[60]⟩, .string ⟨#[60, 61]⟩, .string ⟨#[62]⟩, .string ⟨#[62, 61]⟩, .string ⟨#[65, 78, 68]⟩, .string ⟨#[79, 82]⟩] : Array Value)[j]? = some (.string (strU s)) := by
    intro j s h
    have e : (#[.string ⟨#[43]⟩, .string ⟨#[45]⟩, .string ⟨#[42]⟩, .string ⟨#[47]⟩, .string ⟨#[37]⟩, .string ⟨#[124, 124]⟩, .string ⟨#[61]⟩, .string ⟨#[60, 62]⟩, .string ⟨#[60]⟩, .string ⟨#[60, 61]⟩, .string ⟨#[62]⟩, .string ⟨#[62, 61]⟩, .string ⟨#[65, 78, 68]⟩, .string ⟨#[79, 82]⟩] : Array Value) = (sgns.map fun s => Value.string (strU s)).toArray := rfl
    rw [e, List.getElem?_toArray, List.getElem?_map, h]; rfl
  have keyT : ∀ (j : Nat) (t : Nat), (tgts[j]? : Option Nat) = some t → (#[.int .i64 4, .int .i64 4, .int .i64 5, .int .i64 5, .int .i64 5, .int .i64 4, .int .i64 3, .int .i64 3, .int .i64 3, .int .i64 3, .int .i64 3, .int .i64 3, .int .i64 2, .int .i64 1] : Array Value)[j]? = some (.int .i64 (t : Int)) := by
    intro j t h
    have e : (#[.int .i64 4, .int .i64 4, .int .i64 5, .int .i64 5, .int .i64 5, .int .i64 4, .int .i64 3, .int .i64 3, .int .i64 3, .int .i64 3, .int .i64 3, .int .i64 3, .int .i64 2, .int .i64 1] : Array Value) = (tgts.map fun (t : Nat) => Value.int .i64 (t : Int)).toArray := rfl
    rw [e, List.getElem?_toArray, List.getElem?_map, h]; rfl
  have CI : Hid ((#[.string ⟨#[43]⟩, .string ⟨#[45]⟩, .string ⟨#[42]⟩, .string ⟨#[47]⟩, .string ⟨#[37]⟩, .string ⟨#[124, 124]⟩, .string ⟨#[61]⟩, .string ⟨#[60, 62]⟩, .string ⟨#[60]⟩, .string ⟨#[60, 61]⟩, .string ⟨#[62]⟩, .string ⟨#[62, 61]⟩, .string ⟨#[65, 78, 68]⟩, .string ⟨#[79, 82]⟩] : Array Value)[I]? = some (.string (strU (sgn I)))) := Lib.hid (key I _ hsI)
  have CK : Hid ((#[.string ⟨#[43]⟩, .string ⟨#[45]⟩, .string ⟨#[42]⟩, .string ⟨#[47]⟩, .string ⟨#[37]⟩, .string ⟨#[124, 124]⟩, .string ⟨#[61]⟩, .string ⟨#[60, 62]⟩, .string ⟨#[60]⟩, .string ⟨#[60, 61]⟩, .string ⟨#[62]⟩, .string ⟨#[62, 61]⟩, .string ⟨#[65, 78, 68]⟩, .string ⟨#[79, 82]⟩] : Array Value)[K]? = some (.string (strU (sgn K)))) := Lib.hid (key K _ hsK)
  have GI : Hid ((#[.int .i64 4, .int .i64 4, .int .i64 5, .int .i64 5, .int .i64 5, .int .i64 4, .int .i64 3, .int .i64 3, .int .i64 3, .int .i64 3, .int .i64 3, .int .i64 3, .int .i64 2, .int .i64 1] : Array Value)[I]? = some (.int .i64 (tgt I : Int))) := Lib.hid (keyT I _ (tgts_at hI14))
  have GK : Hid ((#[.int .i64 4, .int .i64 4, .int .i64 5, .int .i64 5, .int .i64 5, .int .i64 4, .int .i64 3, .int .i64 3, .int .i64 3, .int .i64 3, .int .i64 3, .int .i64 3, .int .i64 2, .int .i64 1] : Array Value)[K]? = some (.int .i64 (tgt K : Int))) := Lib.hid (keyT K _ (tgts_at hK14))
  clear key keyT hsI hsK
  go_enter Tryz.func5, Tryz.ntmps5
  go_wp2_with fail
  rw [← hw3]
  clear hw3
  have q0 := bwOf_cell w3 ⟨w.heap.size + 1, I, none⟩ (.string (strU (sgn I))) ((bk_cell HS3.out.1 I).trans CI.out)
  have q1 := bwOf_cell w3 ⟨w.heap.size + 1, K, none⟩ (.string (strU (sgn K))) ((bk_cell HS3.out.1 K).trans CK.out)
  obtain ⟨p, hp⟩ : ∃ p, (strU (sgn I)).size = p := ⟨_, rfl⟩
  obtain ⟨q, hq⟩ : ∃ q, (strU (sgn K)).size = q := ⟨_, rfl⟩
  have z1 : ¬ 9223372036854775807 < 2 + p := by rw [strU_size] at hp; omega
  have z2 : ¬ 9223372036854775807 < 2 + p + 3 := by rw [strU_size] at hp; omega
  have z3 : ¬ 9223372036854775807 < 2 + p + 3 + q := by rw [strU_size] at hp hq; omega
  have z4 : ¬ 9223372036854775807 < 2 + p + 3 + q + 2 := by rw [strU_size] at hp hq; omega
  refine wp_region_bw (w := w3) (by kernel_rfl) (by kernel_rfl) ?_
  iterate 11 (go_big_quiet_step (fail))
  refine wpQuiet_nil ?_
  rintro w4 ⟨m4, rfl⟩
  have HB4 := Lib.hid (HB3.out.trans ((bwOf_below w3 m4).mono HB3.out.size))
  have HT4 := Lib.hid (bwOf_below w3 m4)
  obtain ⟨w5, hw5⟩ : ∃ w5, w5 = bwOf w3 m4 := ⟨_, rfl⟩
  rw [← hw5] at HB4 HT4 ⊢
  clear hw5 q0 q1
  have g0 : w5.cell? ⟨w.heap.size + 1 + 1, I, none⟩ = some (.int .i64 (tgt I : Int)) := (World.cell?_of_block (HT4.out.block _ (bk_lt HS3.out.2))).trans ((bk_cell HS3.out.2 I).trans GI.out)
  have g1 : w5.cell? ⟨w.heap.size + 1 + 1, K, none⟩ = some (.int .i64 (tgt K : Int)) := (World.cell?_of_block (HT4.out.block _ (bk_lt HS3.out.2))).trans ((bk_cell HS3.out.2 K).trans GK.out)
  have HG2 : Hid (w5.cell? ⟨w.heap.size + 1, I, none⟩ = some (.string (strU (sgn I)))) := Lib.hid ((World.cell?_of_block (HT4.out.block _ (bk_lt HS3.out.1))).trans ((bk_cell HS3.out.1 I).trans CI.out))
  have HLT : Hid (w.heap.size + 1 < w5.heap.size) := Lib.hid (Nat.lt_of_lt_of_le (bk_lt HS3.out.1) HT4.out.size)
  have hst : ((⟨#[97, 32]⟩ : ByteArray) ++ strU (sgn I) ++ ⟨#[32, 98, 32]⟩ ++ strU (sgn K) ++ ⟨#[32, 99]⟩) = strU (tightT I K) := by
    rw [show (⟨#[97, 32]⟩ : ByteArray) = strU [97, 32] from rfl, show (⟨#[32, 98, 32]⟩ : ByteArray) = strU [32, 98, 32] from rfl, show (⟨#[32, 99]⟩ : ByteArray) = strU [32, 99] from rfl, strU_append, strU_append, strU_append, strU_append]
    rfl
  rw [hst]
  clear hst
  have t0 : ((tgt I : Int) == 3) = false := by rw [beq_eq_false_iff_ne]; omega
  have t2 : ¬ ((tgt I : Int) < (tgt K : Int)) := by omega
  have hX := tight_c hI14 hK14 h1 h2
  have r0 := bwOf_cell w5 _ _ g0
  have r1 := bwOf_cell w5 _ _ g1
  clear h1 h2 h3
  go_wp2_with fail
  refine wp_region_bw (w := w5) (by kernel_rfl) (by kernel_rfl) ?_
  iterate 7 (go_big_quiet_step (fail))
  refine wpQuiet_nil ?_
  rintro w6 ⟨m6, rfl⟩
  have HB6 := Lib.hid (HB4.out.trans ((bwOf_below w5 m6).mono HB4.out.size))
  obtain ⟨w7, hw7⟩ : ∃ w7, w7 = bwOf w5 m6 := ⟨_, rfl⟩
  rw [← hw7] at HB6 ⊢
  clear hw7 r0 r1 g0 g1
  have HA := alive_yes7 w7 (hw.kept HB6.out)
  go_wp2_with fail
  refine HA.mono ?_
  rintro e w8 ⟨rfl, hb⟩
  have HB8 := Lib.hid (HB6.out.trans (hb.mono HB6.out.size))
  clear hb HA
  go_wp2_with fail
  refine (col_any [97] w8).mono ?_
  rintro e w9 ⟨rfl, hb⟩
  have HB9 := Lib.hid (HB8.out.trans (hb.mono HB8.out.size))
  clear hb
  go_wp2_with fail
  refine (col_any [98] w9).mono ?_
  rintro e w10 ⟨rfl, hb⟩
  have HB10 := Lib.hid (HB9.out.trans (hb.mono HB9.out.size))
  clear hb
  have hC := two_any7 (5 + I) (nmE 97) (nmE 98) (.slice none 0 0) (.slice none 0 0) w10 (REs.nil _ _) (REs.nil _ _)
  rw [show ((5 + I : Nat) : Int) = 5 + (I : Int) by omega] at hC
  go_wp2_with fail
  refine hC.mono ?_
  rintro e w11 ⟨v1, rfl, hs, hb⟩
  have HB11 := Lib.hid (HB10.out.trans (hb.mono HB10.out.size))
  have Hv1 := Lib.hid hs
  clear hb hs hC
  go_wp2_with fail
  refine (col_any [99] w11).mono ?_
  rintro e w12 ⟨rfl, hb⟩
  have HB12 := Lib.hid (HB11.out.trans (hb.mono HB11.out.size))
  have Hv1 := Lib.hid (Hv1.out.below hb)
  clear hb
  have hC := two_any7 (5 + K) (twoE (5 + I) (nmE 97) (nmE 98)) (nmE 99) v1 (.slice none 0 0) w12 Hv1.out (REs.nil _ _)
  rw [show ((5 + K : Nat) : Int) = 5 + (K : Int) by omega] at hC
  go_wp2_with fail
  refine hC.mono ?_
  rintro e w13 ⟨v2, rfl, hs, hb⟩
  have HB13 := Lib.hid (HB12.out.trans (hb.mono HB12.out.size))
  have Hv2 := Lib.hid hs
  clear hb hs hC
  have hC := is_yes (strU (tightT I K)) _ (by rw [strU_data]; exact hX) v2 w13 (hw.kept HB13.out) Hv2.out
  go_wp2_with fail
  refine hC.mono ?_
  rintro e w14 ⟨rfl, hb⟩
  have HB14 := Lib.hid (HB13.out.trans (hb.mono HB13.out.size))
  clear hb hC
  go_wp2_with fail
  go_ret
  exact ⟨rfl, HB14.out⟩
set_option maxRecDepth 100000 in
set_option maxHeartbeats 8000000 in
theorem tight_c1 (N M I K : Nat) (w : World) (hw : Wo w) (hN : N ≤ 255) (hM : M ≤ 255) (hNI : N % 14 = I) (hMK : M % 14 = K) (hI14 : I < 14) (hK14 : K < 14) (h1 : ¬ (tgt I = 3 ∧ tgt K = 3)) (h2 : ¬ tgt K > tgt I) (h3 : tgt I = 3) (h4 : tgt K ≠ 3) :
    Calls Tryz.prog 5 #[.agg #[.int .u8 (N : Int), .int .u8 (M : Int)]] w fun e w' => e = .returned (.bool true) ∧ Below w.heap.size w w' := by
  have hI : ((N : Int) % 14) = (I : Int) := by omega
  have hK : ((M : Int) % 14) = (K : Int) := by omega
  have hI0 : (0 : Int) ≤ (I : Int) := by omega
  have hK0 : (0 : Int) ≤ (K : Int) := by omega
  have hIi : (I : Int) < 14 := by omega
  have hKi : (K : Int) < 14 := by omega
  obtain ⟨w3, hw3⟩ : ∃ w3, w3 = ((((w.alloc (.cells #[.int .u8 (N : Int), .int .u8 (M : Int)] 59)).alloc (.cells #[.string ⟨#[43]⟩, .string ⟨#[45]⟩, .string ⟨#[42]⟩, .string ⟨#[47]⟩, .string ⟨#[37]⟩, .string ⟨#[124, 124]⟩, .string ⟨#[61]⟩, .string ⟨#[60, 62]⟩, .string ⟨#[60]⟩, .string ⟨#[60, 61]⟩, .string ⟨#[62]⟩, .string ⟨#[62, 61]⟩, .string ⟨#[65, 78, 68]⟩, .string ⟨#[79, 82]⟩] 52)).alloc (.cells #[.int .i64 4, .int .i64 4, .int .i64 5, .int .i64 5, .int .i64 5, .int .i64 4, .int .i64 3, .int .i64 3, .int .i64 3, .int .i64 3, .int .i64 3, .int .i64 3, .int .i64 2, .int .i64 1] 60))) := ⟨_, rfl⟩
  have HB3 : Hid (Below w.heap.size w w3) := Lib.hid (by rw [hw3]; exact below_three _ _ _ _)
  have HS3 : Hid (w3.heap[w.heap.size + 1]? = some (.cells #[.string ⟨#[43]⟩, .string ⟨#[45]⟩, .string ⟨#[42]⟩, .string ⟨#[47]⟩, .string ⟨#[37]⟩, .string ⟨#[124, 124]⟩, .string ⟨#[61]⟩, .string ⟨#[60, 62]⟩, .string ⟨#[60]⟩, .string ⟨#[60, 61]⟩, .string ⟨#[62]⟩, .string ⟨#[62, 61]⟩, .string ⟨#[65, 78, 68]⟩, .string ⟨#[79, 82]⟩] 52 (0, 0)) ∧ w3.heap[w.heap.size + 2]? = some (.cells #[.int .i64 4, .int .i64 4, .int .i64 5, .int .i64 5, .int .i64 5, .int .i64 4, .int .i64 3, .int .i64 3, .int .i64 3, .int .i64 3, .int .i64 3, .int .i64 3, .int .i64 2, .int .i64 1] 60 (0, 0))) := Lib.hid (by
    rw [hw3]
    exact ⟨(heap_alloc_old _ _ (by simp)).trans (alloc_at (by simp)), alloc_at (by simp)⟩)
  obtain ⟨hsI, hlI⟩ := sgns_at hI14
  obtain ⟨hsK, hlK⟩ := sgns_at hK14
  have key : ∀ (j : Nat) (s : List UInt8), sgns[j]? = some s → (#[.string ⟨#[43]⟩, .string ⟨#[45]⟩, .string ⟨#[42]⟩, .string ⟨#[47]⟩, .string ⟨#[37]⟩, .string ⟨#[124, 124]⟩, .string ⟨#[61]⟩, .string ⟨#[60, 62]⟩, .string ⟨#[60]⟩, .string ⟨#[60, 61]⟩, .string ⟨#[62]⟩, .string ⟨#[62, 61]⟩, .string ⟨#[65, 78, 68]⟩, .string ⟨#[79, 82]⟩] : Array Value)[j]? = some (.string (strU s)) := by
    intro j s h
    have e : (#[.string ⟨#[43]⟩, .string ⟨#[45]⟩, .string ⟨#[42]⟩, .string ⟨#[47]⟩, .string ⟨#[37]⟩, .string ⟨#[124, 124]⟩, .string ⟨#[61]⟩, .string ⟨#[60, 62]⟩, .string ⟨#[60]⟩, .string ⟨#[60, 61]⟩, .string ⟨#[62]⟩, .string ⟨#[62, 61]⟩, .string ⟨#[65, 78, 68]⟩, .string ⟨#[79, 82]⟩] : Array Value) = (sgns.map fun s => Value.string (strU s)).toArray := rfl
    rw [e, List.getElem?_toArray, List.getElem?_map, h]; rfl
  have keyT : ∀ (j : Nat) (t : Nat), (tgts[j]? : Option Nat) = some t → (#[.int .i64 4, .int .i64 4, .int .i64 5, .int .i64 5, .int .i64 5, .int .i64 4, .int .i64 3, .int .i64 3, .int .i64 3, .int .i64 3, .int .i64 3, .int .i64 3, .int .i64 2, .int .i64 1] : Array Value)[j]? = some (.int .i64 (t : Int)) := by
    intro j t h
    have e : (#[.int .i64 4, .int .i64 4, .int .i64 5, .int .i64 5, .int .i64 5, .int .i64 4, .int .i64 3, .int .i64 3, .int .i64 3, .int .i64 3, .int .i64 3, .int .i64 3, .int .i64 2, .int .i64 1] : Array Value) = (tgts.map fun (t : Nat) => Value.int .i64 (t : Int)).toArray := rfl
    rw [e, List.getElem?_toArray, List.getElem?_map, h]; rfl
  have CI : Hid ((#[.string ⟨#[43]⟩, .string ⟨#[45]⟩, .string ⟨#[42]⟩, .string ⟨#[47]⟩, .string ⟨#[37]⟩, .string ⟨#[124, 124]⟩, .string ⟨#[61]⟩, .string ⟨#[60, 62]⟩, .string ⟨#[60]⟩, .string ⟨#[60, 61]⟩, .string ⟨#[62]⟩, .string ⟨#[62, 61]⟩, .string ⟨#[65, 78, 68]⟩, .string ⟨#[79, 82]⟩] : Array Value)[I]? = some (.string (strU (sgn I)))) := Lib.hid (key I _ hsI)
  have CK : Hid ((#[.string ⟨#[43]⟩, .string ⟨#[45]⟩, .string ⟨#[42]⟩, .string ⟨#[47]⟩, .string ⟨#[37]⟩, .string ⟨#[124, 124]⟩, .string ⟨#[61]⟩, .string ⟨#[60, 62]⟩, .string ⟨#[60]⟩, .string ⟨#[60, 61]⟩, .string ⟨#[62]⟩, .string ⟨#[62, 61]⟩, .string ⟨#[65, 78, 68]⟩, .string ⟨#[79, 82]⟩] : Array Value)[K]? = some (.string (strU (sgn K)))) := Lib.hid (key K _ hsK)
  have GI : Hid ((#[.int .i64 4, .int .i64 4, .int .i64 5, .int .i64 5, .int .i64 5, .int .i64 4, .int .i64 3, .int .i64 3, .int .i64 3, .int .i64 3, .int .i64 3, .int .i64 3, .int .i64 2, .int .i64 1] : Array Value)[I]? = some (.int .i64 (tgt I : Int))) := Lib.hid (keyT I _ (tgts_at hI14))
  have GK : Hid ((#[.int .i64 4, .int .i64 4, .int .i64 5, .int .i64 5, .int .i64 5, .int .i64 4, .int .i64 3, .int .i64 3, .int .i64 3, .int .i64 3, .int .i64 3, .int .i64 3, .int .i64 2, .int .i64 1] : Array Value)[K]? = some (.int .i64 (tgt K : Int))) := Lib.hid (keyT K _ (tgts_at hK14))
  clear key keyT hsI hsK
  go_enter Tryz.func5, Tryz.ntmps5
  go_wp2_with fail
  rw [← hw3]
  clear hw3
  have q0 := bwOf_cell w3 ⟨w.heap.size + 1, I, none⟩ (.string (strU (sgn I))) ((bk_cell HS3.out.1 I).trans CI.out)
  have q1 := bwOf_cell w3 ⟨w.heap.size + 1, K, none⟩ (.string (strU (sgn K))) ((bk_cell HS3.out.1 K).trans CK.out)
  obtain ⟨p, hp⟩ : ∃ p, (strU (sgn I)).size = p := ⟨_, rfl⟩
  obtain ⟨q, hq⟩ : ∃ q, (strU (sgn K)).size = q := ⟨_, rfl⟩
  have z1 : ¬ 9223372036854775807 < 2 + p := by rw [strU_size] at hp; omega
  have z2 : ¬ 9223372036854775807 < 2 + p + 3 := by rw [strU_size] at hp; omega
  have z3 : ¬ 9223372036854775807 < 2 + p + 3 + q := by rw [strU_size] at hp hq; omega
  have z4 : ¬ 9223372036854775807 < 2 + p + 3 + q + 2 := by rw [strU_size] at hp hq; omega
  refine wp_region_bw (w := w3) (by kernel_rfl) (by kernel_rfl) ?_
  iterate 11 (go_big_quiet_step (fail))
  refine wpQuiet_nil ?_
  rintro w4 ⟨m4, rfl⟩
  have HB4 := Lib.hid (HB3.out.trans ((bwOf_below w3 m4).mono HB3.out.size))
  have HT4 := Lib.hid (bwOf_below w3 m4)
  obtain ⟨w5, hw5⟩ : ∃ w5, w5 = bwOf w3 m4 := ⟨_, rfl⟩
  rw [← hw5] at HB4 HT4 ⊢
  clear hw5 q0 q1
  have g0 : w5.cell? ⟨w.heap.size + 1 + 1, I, none⟩ = some (.int .i64 (tgt I : Int)) := (World.cell?_of_block (HT4.out.block _ (bk_lt HS3.out.2))).trans ((bk_cell HS3.out.2 I).trans GI.out)
  have g1 : w5.cell? ⟨w.heap.size + 1 + 1, K, none⟩ = some (.int .i64 (tgt K : Int)) := (World.cell?_of_block (HT4.out.block _ (bk_lt HS3.out.2))).trans ((bk_cell HS3.out.2 K).trans GK.out)
  have HG2 : Hid (w5.cell? ⟨w.heap.size + 1, I, none⟩ = some (.string (strU (sgn I)))) := Lib.hid ((World.cell?_of_block (HT4.out.block _ (bk_lt HS3.out.1))).trans ((bk_cell HS3.out.1 I).trans CI.out))
  have HLT : Hid (w.heap.size + 1 < w5.heap.size) := Lib.hid (Nat.lt_of_lt_of_le (bk_lt HS3.out.1) HT4.out.size)
  have hst : ((⟨#[97, 32]⟩ : ByteArray) ++ strU (sgn I) ++ ⟨#[32, 98, 32]⟩ ++ strU (sgn K) ++ ⟨#[32, 99]⟩) = strU (tightT I K) := by
    rw [show (⟨#[97, 32]⟩ : ByteArray) = strU [97, 32] from rfl, show (⟨#[32, 98, 32]⟩ : ByteArray) = strU [32, 98, 32] from rfl, show (⟨#[32, 99]⟩ : ByteArray) = strU [32, 99] from rfl, strU_append, strU_append, strU_append, strU_append]
    rfl
  rw [hst]
  clear hst
  have t0 : ((tgt I : Int) == 3) = true := by rw [h3]; rfl
  have t1 : ((tgt K : Int) == 3) = false := by rw [beq_eq_false_iff_ne]; omega
  have t2 : ¬ ((tgt I : Int) < (tgt K : Int)) := by omega
  have hX := tight_c hI14 hK14 h1 h2
  have r0 := bwOf_cell w5 _ _ g0
  have r1 := bwOf_cell w5 _ _ g1
  clear h1 h2 h3 h4
  go_wp2_with fail
  refine wp_region_bw (w := w5) (by kernel_rfl) (by kernel_rfl) ?_
  iterate 7 (go_big_quiet_step (fail))
  refine wpQuiet_nil ?_
  rintro w6 ⟨m6, rfl⟩
  have HB6 := Lib.hid (HB4.out.trans ((bwOf_below w5 m6).mono HB4.out.size))
  obtain ⟨w7, hw7⟩ : ∃ w7, w7 = bwOf w5 m6 := ⟨_, rfl⟩
  rw [← hw7] at HB6 ⊢
  clear hw7 r0 r1 g0 g1
  have HA := alive_yes7 w7 (hw.kept HB6.out)
  go_wp2_with fail
  refine HA.mono ?_
  rintro e w8 ⟨rfl, hb⟩
  have HB8 := Lib.hid (HB6.out.trans (hb.mono HB6.out.size))
  clear hb HA
  go_wp2_with fail
  refine (col_any [97] w8).mono ?_
  rintro e w9 ⟨rfl, hb⟩
  have HB9 := Lib.hid (HB8.out.trans (hb.mono HB8.out.size))
  clear hb
  go_wp2_with fail
  refine (col_any [98] w9).mono ?_
  rintro e w10 ⟨rfl, hb⟩
  have HB10 := Lib.hid (HB9.out.trans (hb.mono HB9.out.size))
  clear hb
  have hC := two_any7 (5 + I) (nmE 97) (nmE 98) (.slice none 0 0) (.slice none 0 0) w10 (REs.nil _ _) (REs.nil _ _)
  rw [show ((5 + I : Nat) : Int) = 5 + (I : Int) by omega] at hC
  go_wp2_with fail
  refine hC.mono ?_
  rintro e w11 ⟨v1, rfl, hs, hb⟩
  have HB11 := Lib.hid (HB10.out.trans (hb.mono HB10.out.size))
  have Hv1 := Lib.hid hs
  clear hb hs hC
  go_wp2_with fail
  refine (col_any [99] w11).mono ?_
  rintro e w12 ⟨rfl, hb⟩
  have HB12 := Lib.hid (HB11.out.trans (hb.mono HB11.out.size))
  have Hv1 := Lib.hid (Hv1.out.below hb)
  clear hb
  have hC := two_any7 (5 + K) (twoE (5 + I) (nmE 97) (nmE 98)) (nmE 99) v1 (.slice none 0 0) w12 Hv1.out (REs.nil _ _)
  rw [show ((5 + K : Nat) : Int) = 5 + (K : Int) by omega] at hC
  go_wp2_with fail
  refine hC.mono ?_
  rintro e w13 ⟨v2, rfl, hs, hb⟩
  have HB13 := Lib.hid (HB12.out.trans (hb.mono HB12.out.size))
  have Hv2 := Lib.hid hs
  clear hb hs hC
  have hC := is_yes (strU (tightT I K)) _ (by rw [strU_data]; exact hX) v2 w13 (hw.kept HB13.out) Hv2.out
  go_wp2_with fail
  refine hC.mono ?_
  rintro e w14 ⟨rfl, hb⟩
  have HB14 := Lib.hid (HB13.out.trans (hb.mono HB13.out.size))
  clear hb hC
  go_wp2_with fail
  go_ret
  exact ⟨rfl, HB14.out⟩
theorem walk_TreesTight (n m : Int) (hn : (Lit.int .u8 n).wf = true) (hm : (Lit.int .u8 m).wf = true) {w : World} (hw : Wo w) :
    Calls Tryz.prog 5 #[.agg #[.int .u8 n, .int .u8 m]] w fun e w' => e = .returned (.bool true) ∧ Below w.heap.size w w' := by
  have h1 := wf_u8 hn
  have h2 := wf_u8 hm
  obtain ⟨N, rfl⟩ := Int.eq_ofNat_of_zero_le h1.1
  obtain ⟨M, rfl⟩ := Int.eq_ofNat_of_zero_le h2.1
  have hI : N % 14 < 14 := Nat.mod_lt _ (by decide)
  have hK : M % 14 < 14 := Nat.mod_lt _ (by decide)
  by_cases a : tgt (N % 14) = 3 ∧ tgt (M % 14) = 3
  · exact tight_1 N M _ _ w hw (by omega) (by omega) rfl rfl hI hK a.1 a.2
  · by_cases b : tgt (M % 14) > tgt (N % 14)
    · by_cases c : tgt (N % 14) = 3
      · exact tight_b1 N M _ _ w hw (by omega) (by omega) rfl rfl hI hK a b c (fun d => a ⟨c, d⟩)
      · exact tight_b0 N M _ _ w hw (by omega) (by omega) rfl rfl hI hK a b c
    · by_cases c : tgt (N % 14) = 3
      · exact tight_c1 N M _ _ w hw (by omega) (by omega) rfl rfl hI hK a b c (fun d => a ⟨c, d⟩)
      · exact tight_c0 N M _ _ w hw (by omega) (by omega) rfl rfl hI hK a b c
end Go.Proofs.YtenmnpbjnbdeaaaGreatDoor
