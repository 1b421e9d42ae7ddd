/-
  WHAT IS PROVED: the walk of the statement WordsNumbers.
-/
import Derived.Test.YtfdjeaieddcgdaaDoorWoO
import Derived.Test.YtfdjeaieddcgdaaDoorWoLss
import Derived.Test.YtfdjeaieddcgdaaDoorWoLaw
namespace Go.Proofs.YtfdjeaieddcgdaaDoor
open Go.RowKit Go.Shelf
set_option linter.unusedVariables false

theorem zeros_dig (k : Nat) (D : List UInt8) (h : ∀ c ∈ D, digitB c = true) : ∀ c ∈ List.replicate k 48 ++ D, digitB c = true := by
  intro c hc
  rcases List.mem_append.1 hc with hc | hc
  · rw [List.eq_of_mem_replicate hc]; decide
  · exact h c hc
theorem valB_snoc (l : List UInt8) (c : UInt8) : valB 0 (l ++ [c]) = valB 0 l * 10 + (c.toNat - 48) := by rw [valB_app]; rfl
def tooBig : List UInt8 := [57, 50, 50, 51, 51, 55, 50, 48, 51, 54, 56, 53, 52, 55, 55, 53, 56, 48, 56]
theorem tooBig_val : valB 0 tooBig = 9223372036854775808 := by decide +kernel
theorem tooBig_dig : ∀ c ∈ tooBig, digitB c = true := by decide +kernel
theorem numbers_big (k : Nat) (hk : k ≤ 255) : ofB (strU (List.replicate k 48 ++ tooBig)).data.toList = .bad 0 12 := by
  have hl : (List.replicate k 48 ++ tooBig).length ≤ 4096 := by rw [List.length_append, List.length_replicate]; have : tooBig.length = 19 := rfl; omega
  have hn : List.replicate k 48 ++ tooBig ≠ [] := by simp [tooBig]
  rw [strU_data, ofB_digits _ hn (zeros_dig k tooBig tooBig_dig) hl, valB_zeros, tooBig_val, if_neg (Nat.lt_irrefl _)]
theorem numbers_ok (N k : Nat) (hN : N < 9223372036854775808) (hk : k ≤ 255) : ofB (strU (List.replicate k 48 ++ digitsB N)).data.toList = .ok [⟨2, [], N, 0⟩] := by
  have hdl := digitsB_len N
  have hl : (List.replicate k 48 ++ digitsB N).length ≤ 4096 := by rw [List.length_append, List.length_replicate]; omega
  have hn : List.replicate k 48 ++ digitsB N ≠ [] := by simp [digitsB_ne N]
  rw [strU_data, ofB_digits _ hn (zeros_dig k _ (digitsB_dig N)) hl, valB_zeros, digitsB_val N (by omega), if_pos hN]
theorem numbers_ten (N : Nat) (hN : N < 9223372036854775808) (h : 1000000000000000000 ≤ N) : ofB (strU (digitsB N ++ [48])).data.toList = .bad 0 12 := by
  have hdl := digitsB_len N
  have hl : (digitsB N ++ [48]).length ≤ 4096 := by rw [List.length_append, List.length_singleton]; omega
  have hd : ∀ c ∈ digitsB N ++ [48], digitB c = true := fun c hc => by
    rcases List.mem_append.1 hc with hc | hc
    · exact digitsB_dig N c hc
    · rw [List.mem_singleton.1 hc]; decide
  have hv : valB 0 (digitsB N ++ [48]) = N * 10 := by rw [valB_snoc, digitsB_val N (by omega)]; rfl
  rw [strU_data, ofB_digits _ (by simp) hd hl, hv, if_neg (by omega)]
theorem lss_yes {N : Nat} (h : N < 1000000000000000000) : decide ((N : Int) < 1000000000000000000) = true := by simp; omega
theorem lss_no {N : Nat} (h : ¬ N < 1000000000000000000) : decide ((N : Int) < 1000000000000000000) = false := by simp; omega

set_option maxRecDepth 100000 in
set_option maxHeartbeats 8000000 in
theorem numbers_sp (N k : Nat) (w : World) (hw : Wo w) (hN : N < 9223372036854775808) (hk : k ≤ 255) (hs : N < 1000000000000000000) :
    Calls Tryd.prog 9 #[.int .i64 (N : Int), .int .u8 (k : Int)] w fun e w' => e = .returned (.bool true) ∧ Below w.heap.size w w' := by
  have hdl := digitsB_len N
  have C1 := fun w hw => of_ok (strU (List.replicate k 48 ++ digitsB N)) [⟨2, [], N, 0⟩] (numbers_ok N k hN hk) w hw
  have C2 := fun w hw => bad_yes (strU (List.replicate k 48 ++ tooBig)) 0 12 (numbers_big k hk) w hw
  have DG := digits_any N hN
  obtain ⟨D, hD⟩ : ∃ D, digitsB N = D := ⟨_, rfl⟩
  rw [hD] at hdl DG C1
  clear hD
  have HS := Lib.hid hs
  clear hs
  have HB0 := Lib.hid (Below.refl w.heap.size w)
  have HW0 := Lib.hid hw
  clear hw
  go_enter Tryd.func9, Tryd.ntmps9
  go_wp2_with fail
  go_loop [5, 6] (fun sv iv => ∃ i : Nat, i ≤ k ∧ iv = .int .i64 i ∧ sv = .string (strU (List.replicate i 48))) (fun _ iv => k - (intOf iv).toNat)
  case atStart => exact ⟨0, by omega, rfl, rfl⟩
  case round =>
    obtain ⟨i, hi, rfl, rfl⟩ := hrel
    by_cases hlt : i < k
    · have hz : ¬ 9223372036854775807 < (strU (List.replicate i 48)).size + 1 := by rw [strU_size]; simp; omega
      have ez : strU (List.replicate i 48) ++ ⟨#[48]⟩ = strU (List.replicate (i + 1) 48) := by
        rw [List.replicate_succ']; exact strU_append _ [48]
      go_wp2_with fail
      go_round
      case rel => exact ⟨i + 1, by omega, by go_num, rfl⟩
      case measure => simp [intOf]; omega
    · obtain rfl : i = k := by omega
      have hz : ¬ 9223372036854775807 < (strU (List.replicate i 48)).size + (strU D).size := by rw [strU_size, strU_size]; simp; omega
      have ez : strU (List.replicate i 48) ++ strU D = strU (List.replicate i 48 ++ D) := strU_append _ _
      have hz2 : ¬ 9223372036854775807 < (strU (List.replicate i 48)).size + 19 := by rw [strU_size]; simp; omega
      have ez2 : strU (List.replicate i 48) ++ ⟨#[57, 50, 50, 51, 51, 55, 50, 48, 51, 54, 56, 53, 52, 55, 55, 53, 56, 48, 56]⟩ = strU (List.replicate i 48 ++ tooBig) := strU_append _ tooBig
      go_wp2_with fail
      refine (DG _).mono ?_
      rintro e w0 ⟨rfl, rfl⟩
      go_wp2_with fail
      refine (C1 _ HW0.out).mono ?_
      rintro e w1 ⟨va, rfl, hra, hb1⟩
      have HB1 := Lib.hid (HB0.out.trans (hb1.mono HB0.out.size))
      have HW1 := Lib.hid (HW0.out.kept hb1)
      clear hb1
      obtain ⟨oa, ca, rfl, hna, hma⟩ := hra.slice
      have Ra := Lib.hid hra
      clear hra
      obtain ⟨g1, q1, e1, p0, p1, p2, p3⟩ := Ra.out.lies (k := 0) (x := ⟨2, [], N, 0⟩) rfl
      rw [show strU [] = ⟨#[]⟩ from rfl] at p1
      cases e1
      simp only [Nat.zero_mul, Nat.zero_add] at p0 p1 p2 p3
      go_wp2_with fail
      refine (alive_yes6 _ HW1.out).mono ?_
      rintro e w2 ⟨rfl, hb2⟩
      have HB2 := Lib.hid (HB1.out.trans (hb2.mono HB1.out.size))
      have HW2 := Lib.hid (HW1.out.kept hb2)
      have Ra' := Lib.hid (Ra.out.kept hb2)
      clear hb2
      go_wp2_with fail
      refine (C2 _ HW2.out).mono ?_
      rintro e w3 ⟨rfl, hb3⟩
      have HB3 := Lib.hid (HB2.out.trans (hb3.mono HB2.out.size))
      have HW3 := Lib.hid (HW2.out.kept hb3)
      have Ra'' := Lib.hid (Ra'.out.kept hb3)
      clear hb3
      go_wp2_with (refine wpList_lss _ rfl _ _ _ _ rfl _ _ _ _ rfl rfl (lss_yes HS.out) (fun _ _ => rfl) ?_)
      go_ret
      exact ⟨rfl, HB3.out⟩

set_option maxRecDepth 100000 in
set_option maxHeartbeats 8000000 in
theorem numbers_bp (N k : Nat) (w : World) (hw : Wo w) (hN : N < 9223372036854775808) (hk : k ≤ 255) (hs : ¬ N < 1000000000000000000) :
    Calls Tryd.prog 9 #[.int .i64 (N : Int), .int .u8 (k : Int)] w fun e w' => e = .returned (.bool true) ∧ Below w.heap.size w w' := by
  have hdl := digitsB_len N
  have C1 := fun w hw => of_ok (strU (List.replicate k 48 ++ digitsB N)) [⟨2, [], N, 0⟩] (numbers_ok N k hN hk) w hw
  have C2 := fun w hw => bad_yes (strU (List.replicate k 48 ++ tooBig)) 0 12 (numbers_big k hk) w hw
  have DG := digits_any N hN
  have hz9 : ¬ 9223372036854775807 < (strU (digitsB N)).size + 1 := by rw [strU_size]; omega
  have ez9 : strU (digitsB N) ++ ⟨#[48]⟩ = strU (digitsB N ++ [48]) := strU_append _ [48]
  have C3 := fun w hw => bad_yes (strU (digitsB N ++ [48])) 0 12 (numbers_ten N hN (by omega)) w hw
  obtain ⟨D, hD⟩ : ∃ D, digitsB N = D := ⟨_, rfl⟩
  rw [hD] at hdl DG C1 C3 ez9 hz9
  clear hD
  have HS := Lib.hid hs
  clear hs
  have HB0 := Lib.hid (Below.refl w.heap.size w)
  have HW0 := Lib.hid hw
  clear hw
  go_enter Tryd.func9, Tryd.ntmps9
  go_wp2_with fail
  go_loop [5, 6] (fun sv iv => ∃ i : Nat, i ≤ k ∧ iv = .int .i64 i ∧ sv = .string (strU (List.replicate i 48))) (fun _ iv => k - (intOf iv).toNat)
  case atStart => exact ⟨0, by omega, rfl, rfl⟩
  case round =>
    obtain ⟨i, hi, rfl, rfl⟩ := hrel
    by_cases hlt : i < k
    · have hz : ¬ 9223372036854775807 < (strU (List.replicate i 48)).size + 1 := by rw [strU_size]; simp; omega
      have ez : strU (List.replicate i 48) ++ ⟨#[48]⟩ = strU (List.replicate (i + 1) 48) := by
        rw [List.replicate_succ']; exact strU_append _ [48]
      go_wp2_with fail
      go_round
      case rel => exact ⟨i + 1, by omega, by go_num, rfl⟩
      case measure => simp [intOf]; omega
    · obtain rfl : i = k := by omega
      have hz : ¬ 9223372036854775807 < (strU (List.replicate i 48)).size + (strU D).size := by rw [strU_size, strU_size]; simp; omega
      have ez : strU (List.replicate i 48) ++ strU D = strU (List.replicate i 48 ++ D) := strU_append _ _
      have hz2 : ¬ 9223372036854775807 < (strU (List.replicate i 48)).size + 19 := by rw [strU_size]; simp; omega
      have ez2 : strU (List.replicate i 48) ++ ⟨#[57, 50, 50, 51, 51, 55, 50, 48, 51, 54, 56, 53, 52, 55, 55, 53, 56, 48, 56]⟩ = strU (List.replicate i 48 ++ tooBig) := strU_append _ tooBig
      go_wp2_with fail
      refine (DG _).mono ?_
      rintro e w0 ⟨rfl, rfl⟩
      go_wp2_with fail
      refine (C1 _ HW0.out).mono ?_
      rintro e w1 ⟨va, rfl, hra, hb1⟩
      have HB1 := Lib.hid (HB0.out.trans (hb1.mono HB0.out.size))
      have HW1 := Lib.hid (HW0.out.kept hb1)
      clear hb1
      obtain ⟨oa, ca, rfl, hna, hma⟩ := hra.slice
      have Ra := Lib.hid hra
      clear hra
      obtain ⟨g1, q1, e1, p0, p1, p2, p3⟩ := Ra.out.lies (k := 0) (x := ⟨2, [], N, 0⟩) rfl
      rw [show strU [] = ⟨#[]⟩ from rfl] at p1
      cases e1
      simp only [Nat.zero_mul, Nat.zero_add] at p0 p1 p2 p3
      go_wp2_with fail
      refine (alive_yes6 _ HW1.out).mono ?_
      rintro e w2 ⟨rfl, hb2⟩
      have HB2 := Lib.hid (HB1.out.trans (hb2.mono HB1.out.size))
      have HW2 := Lib.hid (HW1.out.kept hb2)
      have Ra' := Lib.hid (Ra.out.kept hb2)
      clear hb2
      go_wp2_with fail
      refine (C2 _ HW2.out).mono ?_
      rintro e w3 ⟨rfl, hb3⟩
      have HB3 := Lib.hid (HB2.out.trans (hb3.mono HB2.out.size))
      have HW3 := Lib.hid (HW2.out.kept hb3)
      have Ra'' := Lib.hid (Ra'.out.kept hb3)
      clear hb3
      go_wp2_with (refine wpList_lss _ rfl _ _ _ _ rfl _ _ _ _ rfl rfl (lss_no HS.out) (fun _ _ => rfl) ?_)
      refine (DG _).mono ?_
      rintro e w9 ⟨rfl, rfl⟩
      go_wp2_with fail
      refine (C3 _ HW3.out).mono ?_
      rintro e w4 ⟨rfl, hb4⟩
      have HB4 := Lib.hid (HB3.out.trans (hb4.mono HB3.out.size))
      have HW4 := Lib.hid (HW3.out.kept hb4)
      have Ra''' := Lib.hid (Ra''.out.kept hb4)
      clear hb4
      go_wp2_with fail
      go_ret
      exact ⟨rfl, HB4.out⟩

set_option maxRecDepth 100000 in
set_option maxHeartbeats 8000000 in
theorem numbers_sn (N k : Nat) (w : World) (hw : Wo w) (hN : N < 9223372036854775808) (hk : k ≤ 255) (hs : N < 1000000000000000000) :
    Calls Tryd.prog 9 #[.int .i64 (-(N : Int) - 1), .int .u8 (k : Int)] w fun e w' => e = .returned (.bool true) ∧ Below w.heap.size w w' := by
  have hdl := digitsB_len N
  have C1 := fun w hw => of_ok (strU (List.replicate k 48 ++ digitsB N)) [⟨2, [], N, 0⟩] (numbers_ok N k hN hk) w hw
  have C2 := fun w hw => bad_yes (strU (List.replicate k 48 ++ tooBig)) 0 12 (numbers_big k hk) w hw
  have DG := digits_any N hN
  obtain ⟨D, hD⟩ : ∃ D, digitsB N = D := ⟨_, rfl⟩
  rw [hD] at hdl DG C1
  clear hD
  have HS := Lib.hid hs
  clear hs
  have HB0 := Lib.hid (Below.refl w.heap.size w)
  have HW0 := Lib.hid hw
  clear hw
  go_enter Tryd.func9, Tryd.ntmps9
  go_wp2_with fail
  go_loop [5, 6] (fun sv iv => ∃ i : Nat, i ≤ k ∧ iv = .int .i64 i ∧ sv = .string (strU (List.replicate i 48))) (fun _ iv => k - (intOf iv).toNat)
  case atStart => exact ⟨0, by omega, rfl, rfl⟩
  case round =>
    obtain ⟨i, hi, rfl, rfl⟩ := hrel
    by_cases hlt : i < k
    · have hz : ¬ 9223372036854775807 < (strU (List.replicate i 48)).size + 1 := by rw [strU_size]; simp; omega
      have ez : strU (List.replicate i 48) ++ ⟨#[48]⟩ = strU (List.replicate (i + 1) 48) := by
        rw [List.replicate_succ']; exact strU_append _ [48]
      go_wp2_with fail
      go_round
      case rel => exact ⟨i + 1, by omega, by go_num, rfl⟩
      case measure => simp [intOf]; omega
    · obtain rfl : i = k := by omega
      have hz : ¬ 9223372036854775807 < (strU (List.replicate i 48)).size + (strU D).size := by rw [strU_size, strU_size]; simp; omega
      have ez : strU (List.replicate i 48) ++ strU D = strU (List.replicate i 48 ++ D) := strU_append _ _
      have hz2 : ¬ 9223372036854775807 < (strU (List.replicate i 48)).size + 19 := by rw [strU_size]; simp; omega
      have ez2 : strU (List.replicate i 48) ++ ⟨#[57, 50, 50, 51, 51, 55, 50, 48, 51, 54, 56, 53, 52, 55, 55, 53, 56, 48, 56]⟩ = strU (List.replicate i 48 ++ tooBig) := strU_append _ tooBig
      go_wp2_with fail
      refine (DG _).mono ?_
      rintro e w0 ⟨rfl, rfl⟩
      go_wp2_with fail
      refine (C1 _ HW0.out).mono ?_
      rintro e w1 ⟨va, rfl, hra, hb1⟩
      have HB1 := Lib.hid (HB0.out.trans (hb1.mono HB0.out.size))
      have HW1 := Lib.hid (HW0.out.kept hb1)
      clear hb1
      obtain ⟨oa, ca, rfl, hna, hma⟩ := hra.slice
      have Ra := Lib.hid hra
      clear hra
      obtain ⟨g1, q1, e1, p0, p1, p2, p3⟩ := Ra.out.lies (k := 0) (x := ⟨2, [], N, 0⟩) rfl
      rw [show strU [] = ⟨#[]⟩ from rfl] at p1
      cases e1
      simp only [Nat.zero_mul, Nat.zero_add] at p0 p1 p2 p3
      go_wp2_with fail
      refine (alive_yes6 _ HW1.out).mono ?_
      rintro e w2 ⟨rfl, hb2⟩
      have HB2 := Lib.hid (HB1.out.trans (hb2.mono HB1.out.size))
      have HW2 := Lib.hid (HW1.out.kept hb2)
      have Ra' := Lib.hid (Ra.out.kept hb2)
      clear hb2
      go_wp2_with fail
      refine (C2 _ HW2.out).mono ?_
      rintro e w3 ⟨rfl, hb3⟩
      have HB3 := Lib.hid (HB2.out.trans (hb3.mono HB2.out.size))
      have HW3 := Lib.hid (HW2.out.kept hb3)
      have Ra'' := Lib.hid (Ra'.out.kept hb3)
      clear hb3
      go_wp2_with (refine wpList_lss _ rfl _ _ _ _ rfl _ _ _ _ rfl rfl (lss_yes HS.out) (fun _ _ => rfl) ?_)
      go_ret
      exact ⟨rfl, HB3.out⟩

set_option maxRecDepth 100000 in
set_option maxHeartbeats 8000000 in
theorem numbers_bn (N k : Nat) (w : World) (hw : Wo w) (hN : N < 9223372036854775808) (hk : k ≤ 255) (hs : ¬ N < 1000000000000000000) :
    Calls Tryd.prog 9 #[.int .i64 (-(N : Int) - 1), .int .u8 (k : Int)] w fun e w' => e = .returned (.bool true) ∧ Below w.heap.size w w' := by
  have hdl := digitsB_len N
  have C1 := fun w hw => of_ok (strU (List.replicate k 48 ++ digitsB N)) [⟨2, [], N, 0⟩] (numbers_ok N k hN hk) w hw
  have C2 := fun w hw => bad_yes (strU (List.replicate k 48 ++ tooBig)) 0 12 (numbers_big k hk) w hw
  have DG := digits_any N hN
  have hz9 : ¬ 9223372036854775807 < (strU (digitsB N)).size + 1 := by rw [strU_size]; omega
  have ez9 : strU (digitsB N) ++ ⟨#[48]⟩ = strU (digitsB N ++ [48]) := strU_append _ [48]
  have C3 := fun w hw => bad_yes (strU (digitsB N ++ [48])) 0 12 (numbers_ten N hN (by omega)) w hw
  obtain ⟨D, hD⟩ : ∃ D, digitsB N = D := ⟨_, rfl⟩
  rw [hD] at hdl DG C1 C3 ez9 hz9
  clear hD
  have HS := Lib.hid hs
  clear hs
  have HB0 := Lib.hid (Below.refl w.heap.size w)
  have HW0 := Lib.hid hw
  clear hw
  go_enter Tryd.func9, Tryd.ntmps9
  go_wp2_with fail
  go_loop [5, 6] (fun sv iv => ∃ i : Nat, i ≤ k ∧ iv = .int .i64 i ∧ sv = .string (strU (List.replicate i 48))) (fun _ iv => k - (intOf iv).toNat)
  case atStart => exact ⟨0, by omega, rfl, rfl⟩
  case round =>
    obtain ⟨i, hi, rfl, rfl⟩ := hrel
    by_cases hlt : i < k
    · have hz : ¬ 9223372036854775807 < (strU (List.replicate i 48)).size + 1 := by rw [strU_size]; simp; omega
      have ez : strU (List.replicate i 48) ++ ⟨#[48]⟩ = strU (List.replicate (i + 1) 48) := by
        rw [List.replicate_succ']; exact strU_append _ [48]
      go_wp2_with fail
      go_round
      case rel => exact ⟨i + 1, by omega, by go_num, rfl⟩
      case measure => simp [intOf]; omega
    · obtain rfl : i = k := by omega
      have hz : ¬ 9223372036854775807 < (strU (List.replicate i 48)).size + (strU D).size := by rw [strU_size, strU_size]; simp; omega
      have ez : strU (List.replicate i 48) ++ strU D = strU (List.replicate i 48 ++ D) := strU_append _ _
      have hz2 : ¬ 9223372036854775807 < (strU (List.replicate i 48)).size + 19 := by rw [strU_size]; simp; omega
      have ez2 : strU (List.replicate i 48) ++ ⟨#[57, 50, 50, 51, 51, 55, 50, 48, 51, 54, 56, 53, 52, 55, 55, 53, 56, 48, 56]⟩ = strU (List.replicate i 48 ++ tooBig) := strU_append _ tooBig
      go_wp2_with fail
      refine (DG _).mono ?_
      rintro e w0 ⟨rfl, rfl⟩
      go_wp2_with fail
      refine (C1 _ HW0.out).mono ?_
      rintro e w1 ⟨va, rfl, hra, hb1⟩
      have HB1 := Lib.hid (HB0.out.trans (hb1.mono HB0.out.size))
      have HW1 := Lib.hid (HW0.out.kept hb1)
      clear hb1
      obtain ⟨oa, ca, rfl, hna, hma⟩ := hra.slice
      have Ra := Lib.hid hra
      clear hra
      obtain ⟨g1, q1, e1, p0, p1, p2, p3⟩ := Ra.out.lies (k := 0) (x := ⟨2, [], N, 0⟩) rfl
      rw [show strU [] = ⟨#[]⟩ from rfl] at p1
      cases e1
      simp only [Nat.zero_mul, Nat.zero_add] at p0 p1 p2 p3
      go_wp2_with fail
      refine (alive_yes6 _ HW1.out).mono ?_
      rintro e w2 ⟨rfl, hb2⟩
      have HB2 := Lib.hid (HB1.out.trans (hb2.mono HB1.out.size))
      have HW2 := Lib.hid (HW1.out.kept hb2)
      have Ra' := Lib.hid (Ra.out.kept hb2)
      clear hb2
      go_wp2_with fail
      refine (C2 _ HW2.out).mono ?_
      rintro e w3 ⟨rfl, hb3⟩
      have HB3 := Lib.hid (HB2.out.trans (hb3.mono HB2.out.size))
      have HW3 := Lib.hid (HW2.out.kept hb3)
      have Ra'' := Lib.hid (Ra'.out.kept hb3)
      clear hb3
      go_wp2_with (refine wpList_lss _ rfl _ _ _ _ rfl _ _ _ _ rfl rfl (lss_no HS.out) (fun _ _ => rfl) ?_)
      refine (DG _).mono ?_
      rintro e w9 ⟨rfl, rfl⟩
      go_wp2_with fail
      refine (C3 _ HW3.out).mono ?_
      rintro e w4 ⟨rfl, hb4⟩
      have HB4 := Lib.hid (HB3.out.trans (hb4.mono HB3.out.size))
      have HW4 := Lib.hid (HW3.out.kept hb4)
      have Ra''' := Lib.hid (Ra''.out.kept hb4)
      clear hb4
      go_wp2_with fail
      go_ret
      exact ⟨rfl, HB4.out⟩

theorem walk_WordsNumbers (n : Int) (hn : (Lit.int .i64 n).wf = true) (k : Int) (hk : (Lit.int .u8 k).wf = true) {w : World} (hw : Wo w) :
    Calls Tryd.prog 9 #[.int .i64 n, .int .u8 k] w fun e w' => e = .returned (.bool true) ∧ Below w.heap.size w w' := by
  have h1 := wf_i64 hn
  have h2 := wf_u8 hk
  obtain ⟨j, rfl⟩ := Int.eq_ofNat_of_zero_le h2.1
  by_cases h0 : 0 ≤ n
  · obtain ⟨N, rfl⟩ := Int.eq_ofNat_of_zero_le h0
    by_cases hs : N < 1000000000000000000
    · exact numbers_sp N j w hw (by omega) (by omega) hs
    · exact numbers_bp N j w hw (by omega) (by omega) hs
  · obtain ⟨N, hN⟩ := Int.eq_ofNat_of_zero_le (a := -(n + 1)) (by omega)
    have : n = -(N : Int) - 1 := by omega
    subst this
    by_cases hs : N < 1000000000000000000
    · exact numbers_sn N j w hw (by omega) (by omega) hs
    · exact numbers_bn N j w hw (by omega) (by omega) hs
end Go.Proofs.YtfdjeaieddcgdaaDoor
