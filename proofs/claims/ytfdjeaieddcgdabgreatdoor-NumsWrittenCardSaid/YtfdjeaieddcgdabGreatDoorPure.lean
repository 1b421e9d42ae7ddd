/-
  WHAT IS PROVED: plain facts on the digits of numbers to the base 128, on lists of bytes, and what a reading of them comes to. No program is named here.
-/
namespace Go.Proofs.YtfdjeaieddcgdabGreatDoor

/-- a number's bytes -/
def vb (n : Nat) : List Nat := if n < 128 then [n] else (n % 128 + 128) :: vb (n / 128)
termination_by n
decreasing_by omega

theorem vb_low {n : Nat} (h : n < 128) : vb n = [n] := by rw [vb, if_pos h]
theorem vb_more {n : Nat} (h : 128 ≤ n) : vb n = (n % 128 + 128) :: vb (n / 128) := by rw [vb, if_neg (by omega)]

theorem vb_ne (n : Nat) : vb n ≠ [] := by
  by_cases h : n < 128
  · rw [vb_low h]; simp
  · rw [vb_more (by omega)]; simp

theorem vb_pos (n : Nat) : 0 < (vb n).length := List.length_pos_iff.2 (vb_ne n)

theorem vb_byte (n : Nat) : ∀ x ∈ vb n, x < 256 := by
  induction n using Nat.strongRecOn with
  | _ n ih =>
    by_cases h : n < 128
    · rw [vb_low h]; intro x hx; simp at hx; omega
    · rw [vb_more (by omega)]
      intro x hx
      rcases List.mem_cons.1 hx with rfl | hx
      · omega
      · exact ih _ (by omega) x hx

theorem vb_len (k : Nat) : ∀ n, n < 128 ^ (k + 1) → (vb n).length ≤ k + 1 := by
  induction k with
  | zero => intro n h; rw [vb_low (by simpa using h)]; simp
  | succ k ih =>
    intro n h
    by_cases h1 : n < 128
    · rw [vb_low h1]; simp
    · rw [vb_more (by omega)]
      have := ih (n / 128) (by rw [Nat.div_lt_iff_lt_mul (by omega)]; rw [Nat.pow_succ] at h; exact h)
      simp; omega

theorem vb_len64 {n : Nat} (h : n < 18446744073709551616) : (vb n).length ≤ 10 := vb_len 9 n (by omega)

end Go.Proofs.YtfdjeaieddcgdabGreatDoor
