/-
  WHAT IS PROVED: plain mathematics of numbers' operations: taken off, divided again. No program is named here.
-/
import Derived.Test.YtjjfmmimmfihgabGreatDoorValMath
namespace Go.Proofs.YtjjfmmimmfihgabGreatDoor
namespace Val
theorem fits_of {n : Int} (h0 : -9223372036854775808 ≤ n) (h1 : n ≤ 9223372036854775807) : fits n = true := by unfold fits; simp; omega
theorem fits_out {n : Int} (h : fits n = true) : -9223372036854775808 ≤ n ∧ n ≤ 9223372036854775807 := by unfold fits at h; simpa using h
theorem fits_not {n : Int} (h : fits n = false) : ¬ (-9223372036854775808 ≤ n ∧ n ≤ 9223372036854775807) := by unfold fits at h; simpa using h
theorem reckon5 (a b : Int) : reckon 5 a b = if fits (a + b) then (a + b, 0) else (0, 12) := rfl
theorem reckon6 (a b : Int) : reckon 6 a b = if fits (a - b) then (a - b, 0) else (0, 12) := rfl
theorem reckon7 (a b : Int) : reckon 7 a b = if fits (a * b) then (a * b, 0) else (0, 12) := rfl
theorem reckon8 (a b : Int) : reckon 8 a b = if b = 0 then (0, 13) else if fits (a.tdiv b) then (a.tdiv b, 0) else (0, 12) := rfl
theorem reckon9 (a b : Int) : reckon 9 a b = if b = 0 then (0, 13) else (a.tmod b, 0) := rfl

theorem natAbs_tdiv_le (a b : Int) : (a.tdiv b).natAbs ≤ a.natAbs := by
  rw [Int.natAbs_tdiv]; exact Nat.div_le_self _ _
/-- a quotient fits but for the least number by one below nothing -/
theorem fits_tdiv {a b : Int} (h0 : -9223372036854775808 ≤ a) (h1 : a ≤ 9223372036854775807) (hb : b ≠ 0) (h : fits (a.tdiv b) = false) : a = -9223372036854775808 ∧ b = -1 := by
  have h2 := fits_not h
  have h3 := natAbs_tdiv_le a b
  have h4 : a.tdiv b = 9223372036854775808 := by omega
  have h5 : a = -9223372036854775808 := by
    have : a.natAbs = 9223372036854775808 := by omega
    omega
  refine ⟨h5, ?_⟩
  subst h5
  have h6 := Int.mul_tdiv_add_tmod (-9223372036854775808) b
  have h8 := Int.natAbs_tdiv (-9223372036854775808) b
  rw [h4] at h8
  have h9 : (9223372036854775808 : Nat) = 9223372036854775808 / b.natAbs := h8
  have h10 : b.natAbs = 1 := by
    rcases Nat.lt_or_ge b.natAbs 2 with h | h
    · have : b.natAbs ≠ 0 := by omega
      omega
    · have : 9223372036854775808 / b.natAbs ≤ 9223372036854775808 / 2 := Nat.div_le_div_left h (by omega)
      omega
  rcases Int.natAbs_eq b with e | e
  · rw [h10] at e
    subst e
    simp at h4
  · rw [h10] at e; exact e
theorem natAbs_mul_tdiv (a b : Int) : (a.tdiv b * b).natAbs ≤ a.natAbs := by
  rw [Int.natAbs_mul, Int.natAbs_tdiv]; exact Nat.div_mul_le_self _ _
theorem tdiv_mul_add (a b : Int) : a.tdiv b * b + a.tmod b = a := by
  have := Int.mul_tdiv_add_tmod a b
  rw [Int.mul_comm] at this; exact this
/-- what is left has the first one's sign -/
theorem tmod_sign (a b : Int) : a.tmod b = 0 ∨ (a.tmod b < 0 ↔ a < 0) := by
  rcases Int.lt_or_le a 0 with h | h
  · by_cases h0 : a.tmod b = 0
    · exact .inl h0
    · right
      have h1 : (-a).tmod b = - a.tmod b := Int.neg_tmod ..
      have h2 : 0 ≤ (-a).tmod b := Int.tmod_nonneg b (by omega)
      constructor
      · intro _; exact h
      · intro _; omega
  · right
    have h2 : 0 ≤ a.tmod b := Int.tmod_nonneg b h
    constructor <;> intro _ <;> omega
theorem tmod_bound {a : Int} (b : Int) (h0 : -9223372036854775808 ≤ a) (h1 : a ≤ 9223372036854775807) : -9223372036854775808 ≤ a.tmod b ∧ a.tmod b ≤ 9223372036854775807 := by
  have h2 : (a.tmod b).natAbs ≤ a.natAbs := by rw [Int.natAbs_tmod]; exact Nat.mod_le _ _
  have h3 := tmod_sign a b
  omega
end Val
end Go.Proofs.YtjjfmmimmfihgabGreatDoor
