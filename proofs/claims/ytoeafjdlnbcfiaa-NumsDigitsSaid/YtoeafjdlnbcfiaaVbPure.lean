/-
  WHAT IS PROVED: plain facts on a number's bytes: what stands at each place, that they are read back, that no number's bytes begin with another one's. No program is named here.
-/
import Derived.Test.YtoeafjdlnbcfiaaGetPure
namespace Go.Proofs.Ytoeafjdlnbcfiaa

/-- what stands at place k -/
theorem vb_get (k : Nat) : ∀ n c, (vb n)[k]? = some c → c % 128 = n / 128 ^ k % 128 ∧ (128 ≤ c ↔ k + 1 < (vb n).length) ∧ (k + 1 = (vb n).length → c = n / 128 ^ k ∧ (c = 0 → k = 0)) := by
  induction k with
  | zero =>
    intro n c h
    by_cases hn : n < 128
    · rw [vb_low hn] at h ⊢
      simp at h ⊢
      omega
    · rw [vb_more (by omega)] at h ⊢
      have hp := vb_pos (n / 128)
      simp only [List.getElem?_cons_zero, Option.some.injEq] at h
      simp only [Nat.pow_zero, Nat.div_one, List.length_cons]
      refine ⟨by omega, by omega, by omega⟩
  | succ k ih =>
    intro n c h
    by_cases hn : n < 128
    · rw [vb_low hn] at h; simp at h
    · have hne : n / 128 ≠ 0 := by omega
      rw [vb_more (by omega)] at h ⊢
      simp only [List.getElem?_cons_succ] at h
      obtain ⟨h1, h2, h3⟩ := ih _ c h
      have e : n / 128 ^ (k + 1) = n / 128 / 128 ^ k := by rw [Nat.div_div_eq_div_mul, Nat.pow_succ, Nat.mul_comm]
      rw [e]
      refine ⟨h1, by simp; omega, fun hl => ?_⟩
      simp at hl
      obtain ⟨h4, h5⟩ := h3 hl
      refine ⟨h4, fun hc => ?_⟩
      obtain rfl := h5 hc
      simp at h4
      omega

theorem vb_bound (n : Nat) : n < 128 ^ (vb n).length := by
  induction n using Nat.strongRecOn with
  | _ n ih =>
    by_cases h : n < 128
    · rw [vb_low h]; simpa using h
    · rw [vb_more (by omega)]
      have := ih (n / 128) (by omega)
      rw [List.length_cons, Nat.pow_succ]
      omega

theorem mod_next (n k : Nat) : n % 128 ^ (k + 1) = n % 128 ^ k + n / 128 ^ k % 128 * 128 ^ k := by
  rw [Nat.pow_succ, Nat.mod_mul, Nat.mul_comm (128 ^ k) _]

theorem getGo_vb (m : Nat) : ∀ k acc r, k < 10 → m * 128 ^ k < 18446744073709551616 → (0 < k → 0 < m) → getGo (10 - k) k acc (vb m ++ r) = (acc + m * 128 ^ k, k + (vb m).length, 0) := by
  induction m using Nat.strongRecOn with
  | _ m ih =>
    intro k acc r hk hm h0
    have hstep : ∀ c rest, getGo (10 - k) k acc (c :: rest) =
      if k = 9 ∧ 1 < c % 128 then (0, 0, 4)
      else if 0 < k ∧ c % 128 = 0 ∧ c < 128 then (0, 0, 4)
      else if c < 128 then (acc + c % 128 * 128 ^ k, k + 1, 0)
      else getGo (10 - (k + 1)) (k + 1) (acc + c % 128 * 128 ^ k) rest := by
      intro c rest
      rw [show 10 - k = (10 - (k + 1)) + 1 by omega]; rfl
    by_cases h : m < 128
    · rw [vb_low h, List.cons_append, hstep]
      have e : m % 128 = m := Nat.mod_eq_of_lt h
      rw [e, if_neg, if_neg, if_pos h]
      · simp
      · omega
      · rintro ⟨rfl, h1⟩
        have := Nat.mul_le_mul_right (128 ^ 9) (show 2 ≤ m by omega)
        omega
    · rw [vb_more (by omega), List.cons_append, hstep]
      have hk8 : k ≤ 8 := by
        rcases Nat.lt_or_ge k 9 with h9 | h9
        · omega
        · obtain rfl : k = 9 := by omega
          have := Nat.mul_le_mul_right (128 ^ 9) (show 128 ≤ m by omega)
          omega
      have e : (m % 128 + 128) % 128 = m % 128 := by omega
      rw [e, if_neg (by omega), if_neg (by omega), if_neg (by omega)]
      have e2 : m * 128 ^ k = m % 128 * 128 ^ k + m / 128 * 128 ^ (k + 1) := by
        rw [Nat.pow_succ, Nat.mul_comm (128 ^ k) 128, ← Nat.mul_assoc, ← Nat.add_mul]
        congr 1
        omega
      rw [ih (m / 128) (by omega) (k + 1) _ r (by omega) (by omega) (by omega), e2]
      simp only [List.length_cons, Prod.mk.injEq, and_true]
      omega

/-- what was written is read, whatever stands behind -/
theorem getL_vb (n : Nat) (hn : n < 18446744073709551616) (r : List Nat) : getL (vb n ++ r) = (n, (vb n).length, 0) := by
  have := getGo_vb n 0 0 r (by omega) (by simpa using hn) (by omega)
  unfold getL
  simpa using this

/-- no number's bytes begin with another one's -/
theorem vb_apart (m : Nat) : ∀ n (r s : List Nat), vb m ++ r = vb n ++ s → m = n := by
  induction m using Nat.strongRecOn with
  | _ m ih =>
    intro n r s h
    by_cases hm : m < 128 <;> by_cases hn : n < 128
    · rw [vb_low hm, vb_low hn] at h; simp at h; exact h.1
    · rw [vb_low hm, vb_more (n := n) (by omega)] at h; simp at h; omega
    · rw [vb_low hn, vb_more (n := m) (by omega)] at h; simp at h; omega
    · rw [vb_more (n := m) (by omega), vb_more (n := n) (by omega)] at h
      simp only [List.cons_append, List.cons.injEq] at h
      have := ih (m / 128) (by omega) (n / 128) r s h.2
      omega

end Go.Proofs.Ytoeafjdlnbcfiaa
