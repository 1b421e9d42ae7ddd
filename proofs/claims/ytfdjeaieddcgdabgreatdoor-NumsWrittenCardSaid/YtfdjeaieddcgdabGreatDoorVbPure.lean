/-
  WHAT IS PROVED: plain facts on a number's bytes: what stands at each place, that they are read back, that no number's bytes begin with another one's. No program is named here.
-/
import Derived.Test.YtfdjeaieddcgdabGreatDoorGetPure
namespace Go.Proofs.YtfdjeaieddcgdabGreatDoor

/-- what stands at place k -/
theorem vb_get (k : Nat) : ∀ n c, (vb n)[k]? = some c → c % 128 = n / 128 ^ k % 128 ∧ (128 ≤ c ↔ k + 1 < (vb n).length) ∧ (k + 1 = (vb n).length → c = n / 128 ^ k ∧ (c = 0 → k = 0)) := by
  induction k with
  | zero =>
    intro n c h
    by_cases hn : n < 128
    · rw [vb_low hn] at h ⊢
      simp at h ⊢
      omega
    · rw [vb_more (by omega)] at h ⊢
      have hp := vb_pos (n / 128)
      simp only [List.getElem?_cons_zero, Option.some.injEq] at h
      simp only [Nat.pow_zero, Nat.div_one, List.length_cons]
      refine ⟨by omega, by omega, by omega⟩
  | succ k ih =>
    intro n c h
    by_cases hn : n < 128
    · rw [vb_low hn] at h; simp at h
    · have hne : n / 128 ≠ 0 := by omega
      rw [vb_more (by omega)] at h ⊢
      simp only [List.getElem?_cons_succ] at h
      obtain ⟨h1, h2, h3⟩ := ih _ c h
      have e : n / 128 ^ (k + 1) = n / 128 / 128 ^ k := by rw [Nat.div_div_eq_div_mul, Nat.pow_succ, Nat.mul_comm]
      rw [e]
      refine ⟨h1, by simp; omega, fun hl => ?_⟩
      simp at hl
      obtain ⟨h4, h5⟩ := h3 hl
      refine ⟨h4, fun hc => ?_⟩
      obtain rfl := h5 hc
      simp at h4
      omega

theorem vb_bound (n : Nat) : n < 128 ^ (vb n).length := by
  induction n using Nat.strongRecOn with
  | _ n ih =>
    by_cases h : n < 128
    · rw [vb_low h]; simpa using h
    · rw [vb_more (by omega)]
      have := ih (n / 128) (by omega)
      rw [List.length_cons, Nat.pow_succ]
      omega

theorem mod_next (n k : Nat) : n % 128 ^ (k + 1) = n % 128 ^ k + n / 128 ^ k % 128 * 128 ^ k := by
  rw [Nat.pow_succ, Nat.mod_mul, Nat.mul_comm (128 ^ k) _]

theorem getGo_vb (m : Nat) : ∀ k acc r, k < 10 → m * 128 ^ k < 18446744073709551616 → (0 < k → 0 < m) → getGo (10 - k) k acc (vb m ++ r) = (acc + m * 128 ^ k, k + (vb m).length, 0) := by
  induction m using Nat.strongRecOn with
  | _ m ih =>
    intro k acc r hk hm h0
    have hstep : ∀ c rest, getGo (10 - k) k acc (c :: rest) =
      if k = 9 ∧ 1 < c % 128 then (0, 0, 4)
      else if 0 < k ∧ c % 128 = 0 ∧ c < 128 then (0, 0, 4)
      else if c < 128 then (acc + c % 128 * 128 ^ k, k + 1, 0)
      else getGo (10 - (k + 1)) (k + 1) (acc + c % 128 * 128 ^ k) rest := by
      intro c rest
      rw [show 10 - k = (10 - (k + 1)) + 1 by omega]; rfl
    by_cases h : m < 128
    · rw [vb_low h, List.cons_append, hstep]
      have e : m % 128 = m := Nat.mod_eq_of_lt h
      rw [e, if_neg, if_neg, if_pos h]
      · simp
      · omega
      · rintro ⟨rfl, h1⟩
        have := Nat.mul_le_mul_right (128 ^ 9) (show 2 ≤ m by omega)
        omega
    · rw [vb_more (by omega), List.cons_append, hstep]
      have hk8 : k ≤ 8 := by
        rcases Nat.lt_or_ge k 9 with h9 | h9
        · omega
        · obtain rfl : k = 9 := by omega
          have := Nat.mul_le_mul_right (128 ^ 9) (show 128 ≤ m by omega)
          omega
      have e : (m % 128 + 128) % 128 = m % 128 := by omega
      rw [e, if_neg (by omega), if_neg (by omega), if_neg (by omega)]
      have e2 : m * 128 ^ k = m % 128 * 128 ^ k + m / 128 * 128 ^ (k + 1) := by
        rw [Nat.pow_succ, Nat.mul_comm (128 ^ k) 128, ← Nat.mul_assoc, ← Nat.add_mul]
        congr 1
        omega
      rw [ih (m / 128) (by omega) (k + 1) _ r (by omega) (by omega) (by omega), e2]
      simp only [List.length_cons, Prod.mk.injEq, and_true]
      omega

/-- what was written is read, whatever stands behind -/
theorem getL_vb (n : Nat) (hn : n < 18446744073709551616) (r : List Nat) : getL (vb n ++ r) = (n, (vb n).length, 0) := by
  have := getGo_vb n 0 0 r (by omega) (by simpa using hn) (by omega)
  unfold getL
  simpa using this

/-- no number's bytes begin with another one's -/
theorem vb_apart (m : Nat) : ∀ n (r s : List Nat), vb m ++ r = vb n ++ s → m = n := by
  induction m using Nat.strongRecOn with
  | _ m ih =>
    intro n r s h
    by_cases hm : m < 128 <;> by_cases hn : n < 128
    · rw [vb_low hm, vb_low hn] at h; simp at h; exact h.1
    · rw [vb_low hm, vb_more (n := n) (by omega)] at h; simp at h; omega
    · rw [vb_low hn, vb_more (n := m) (by omega)] at h; simp at h; omega
    · rw [vb_more (n := m) (by omega), vb_more (n := n) (by omega)] at h
      simp only [List.cons_append, List.cons.injEq] at h
      have := ih (m / 128) (by omega) (n / 128) r s h.2
      omega

/-- one more: a carry over the places that are full -/
theorem vb_carry (n : Nat) : ∃ i, i ≤ (vb n).length ∧ (∀ j c, j < i → (vb n)[j]? = some c → c % 128 = 127 ∧ ∃ d, (vb (n + 1))[j]? = some d ∧ d % 128 = 0) ∧
    (i = (vb n).length → (vb (n + 1)).length = (vb n).length + 1 ∧ (vb (n + 1))[i]? = some 1) ∧
    (∀ c, (vb n)[i]? = some c → c % 128 ≠ 127 ∧ (vb (n + 1)).length = (vb n).length ∧ (vb (n + 1))[i]? = some (c + 1) ∧ (vb n).drop (i + 1) = (vb (n + 1)).drop (i + 1)) := by
  induction n using Nat.strongRecOn with
  | _ n ih =>
    by_cases h1 : n < 127
    · refine ⟨0, Nat.zero_le _, by omega, ?_, ?_⟩
      · rw [vb_low (n := n) (by omega)]; simp
      · intro c hc
        rw [vb_low (n := n) (by omega)] at hc ⊢
        rw [vb_low (n := n + 1) (by omega)]
        simp at hc ⊢
        omega
    · by_cases h2 : n = 127
      · subst h2
        refine ⟨1, ?_, ?_, ?_, ?_⟩
        · rw [vb_low (n := 127) (by omega)]; simp
        · intro j c hj hc
          obtain rfl : j = 0 := by omega
          rw [vb_low (n := 127) (by omega)] at hc
          simp at hc; subst hc
          refine ⟨by omega, 128, ?_, by omega⟩
          rw [vb_more (n := 127 + 1) (by omega)]; rfl
        · intro _
          rw [vb_low (n := 127) (by omega), vb_more (n := 127 + 1) (by omega), vb_low (n := (127 + 1) / 128) (by omega)]
          simp
        · intro c hc
          rw [vb_low (n := 127) (by omega)] at hc; simp at hc
      · have ha := vb_more (n := n) (by omega)
        have hb := vb_more (n := n + 1) (by omega)
        by_cases h3 : n % 128 = 127
        · have e1 : (n + 1) / 128 = n / 128 + 1 := by omega
          have e2 : (n + 1) % 128 = 0 := by omega
          rw [e1, e2] at hb
          obtain ⟨i, g1, g2, g3, g4⟩ := ih (n / 128) (by omega)
          refine ⟨i + 1, by rw [ha]; simp; omega, ?_, ?_, ?_⟩
          · intro j c hj hc
            rw [ha] at hc
            rw [hb]
            cases j with
            | zero => simp at hc; subst hc; exact ⟨by omega, 128, rfl, by omega⟩
            | succ j => exact g2 j c (by omega) hc
          · intro he
            rw [ha] at he ⊢
            rw [hb]
            have := g3 (by simp at he; omega)
            simpa using this
          · intro c hc
            rw [ha] at hc ⊢
            rw [hb]
            have := g4 c (by simpa using hc)
            simpa using this
        · have e1 : (n + 1) / 128 = n / 128 := by omega
          have e2 : (n + 1) % 128 = n % 128 + 1 := by omega
          rw [e1, e2] at hb
          refine ⟨0, Nat.zero_le _, by omega, ?_, ?_⟩
          · intro he; rw [ha] at he; simp at he
          · intro c hc
            rw [ha] at hc ⊢
            rw [hb]
            simp at hc; subst hc
            refine ⟨by omega, by simp, by simp, by simp⟩

theorem getGo_on (f k acc c : Nat) (r : List Nat) (hk : k < 9) (hc : 128 ≤ c) : getGo (f + 1) k acc (c :: r) = getGo f (k + 1) (acc + c % 128 * 128 ^ k) r := by
  simp only [getGo]
  rw [if_neg (by omega), if_neg (by omega), if_neg (by omega)]

/-- nine bytes that go on, and a tenth one -/
theorem getL_long (y0 y1 y2 y3 y4 y5 y6 y7 y8 x : Nat) (h0 : 128 ≤ y0) (h1 : 128 ≤ y1) (h2 : 128 ≤ y2) (h3 : 128 ≤ y3) (h4 : 128 ≤ y4) (h5 : 128 ≤ y5) (h6 : 128 ≤ y6) (h7 : 128 ≤ y7) (h8 : 128 ≤ y8) :
    ∃ v t er, getL [y0, y1, y2, y3, y4, y5, y6, y7, y8, x] = (v, t, er) ∧ (x = 1 → t = 10 ∧ er = 0) ∧ (x ≠ 1 → t = 0 ∧ er = 4) := by
  unfold getL
  rw [getGo_on 9 0 _ _ _ (by omega) h0, getGo_on 8 _ _ _ _ (by omega) h1, getGo_on 7 _ _ _ _ (by omega) h2, getGo_on 6 _ _ _ _ (by omega) h3, getGo_on 5 _ _ _ _ (by omega) h4,
    getGo_on 4 _ _ _ _ (by omega) h5, getGo_on 3 _ _ _ _ (by omega) h6, getGo_on 2 _ _ _ _ (by omega) h7, getGo_on 1 _ _ _ _ (by omega) h8]
  by_cases hx : x = 1
  · subst hx
    refine ⟨_, _, _, rfl, fun _ => ⟨?_, ?_⟩, fun h => absurd rfl h⟩
    · simp
    · simp
  · by_cases h9 : 1 < x % 128
    · refine ⟨0, 0, 4, ?_, fun h => absurd h hx, fun _ => ⟨rfl, rfl⟩⟩
      simp only [getGo]
      rw [if_pos (by simpa using h9)]
    · refine ⟨0, 0, 4, ?_, fun h => absurd h hx, fun _ => ⟨rfl, rfl⟩⟩
      simp only [getGo]
      rw [if_neg (by omega)]
      by_cases hz : x < 128
      · rw [if_pos (by omega)]
      · rw [if_neg (by omega), if_neg hz]

theorem getL_nine (y0 y1 y2 y3 y4 y5 y6 y7 y8 : Nat) (h0 : 128 ≤ y0) (h1 : 128 ≤ y1) (h2 : 128 ≤ y2) (h3 : 128 ≤ y3) (h4 : 128 ≤ y4) (h5 : 128 ≤ y5) (h6 : 128 ≤ y6) (h7 : 128 ≤ y7) (h8 : 128 ≤ y8) :
    getL [y0, y1, y2, y3, y4, y5, y6, y7, y8] = (0, 0, 5) := by
  unfold getL
  rw [getGo_on 9 0 _ _ _ (by omega) h0, getGo_on 8 _ _ _ _ (by omega) h1, getGo_on 7 _ _ _ _ (by omega) h2, getGo_on 6 _ _ _ _ (by omega) h3, getGo_on 5 _ _ _ _ (by omega) h4,
    getGo_on 4 _ _ _ _ (by omega) h5, getGo_on 3 _ _ _ _ (by omega) h6, getGo_on 2 _ _ _ _ (by omega) h7, getGo_on 1 _ _ _ _ (by omega) h8]
  rfl

end Go.Proofs.YtfdjeaieddcgdabGreatDoor
