/-
  WHAT IS PROVED: plain facts on what the bytes at the head of a list tell as a number. No program is named here.
-/
import Derived.Test.YtfdjeaieddcgdabGreatDoorPure
namespace Go.Proofs.YtfdjeaieddcgdabGreatDoor

/-- what is read from the place 'at' on, so much being gathered: the number, how many bytes it took, the error -/
def getGo : Nat → Nat → Nat → List Nat → Nat × Nat × Nat
  | 0, _, _, _ => (0, 0, 4)
  | _ + 1, _, _, [] => (0, 0, 5)
  | f + 1, k, acc, c :: r =>
    if k = 9 ∧ 1 < c % 128 then (0, 0, 4)
    else if 0 < k ∧ c % 128 = 0 ∧ c < 128 then (0, 0, 4)
    else if c < 128 then (acc + c % 128 * 128 ^ k, k + 1, 0)
    else getGo f (k + 1) (acc + c % 128 * 128 ^ k) r

/-- what the bytes at the head of l tell -/
def getL (l : List Nat) : Nat × Nat × Nat := getGo 10 0 0 l

theorem getGo_or (acc d k : Nat) (h : acc < 128 ^ k) : acc ||| d * 128 ^ k = acc + d * 128 ^ k := by
  have e : (128 : Nat) ^ k = 2 ^ (7 * k) := by rw [show (128 : Nat) = 2 ^ 7 from rfl, ← Nat.pow_mul]
  rw [e] at h ⊢
  have := Nat.two_pow_add_eq_or_of_lt h d
  rw [Nat.mul_comm d, Nat.or_comm, ← this, Nat.add_comm]

theorem getGo_next (c k acc : Nat) (h : acc < 128 ^ k) : acc + c % 128 * 128 ^ k < 128 ^ (k + 1) := by
  have h1 : c % 128 * 128 ^ k ≤ 127 * 128 ^ k := Nat.mul_le_mul_right _ (by omega)
  rw [Nat.pow_succ]; omega

theorem getGo_fit (d k : Nat) (hd : d < 128) (hk : k < 10) (h9 : ¬ (k = 9 ∧ 1 < d)) : d * 128 ^ k < 18446744073709551616 := by
  by_cases h : k = 9
  · subst h
    have : d ≤ 1 := by omega
    have := Nat.mul_le_mul_right (128 ^ 9) this
    omega
  · have h1 : 128 ^ k ≤ 128 ^ 8 := Nat.pow_le_pow_right (by omega) (by omega)
    have h2 : d * 128 ^ k ≤ 127 * 128 ^ 8 := Nat.mul_le_mul (by omega) h1
    omega

theorem getGo_took (f : Nat) : ∀ k acc l, (getGo f k acc l).2.1 ≤ k + l.length := by
  induction f with
  | zero => intro k acc l; simp [getGo]
  | succ f ih =>
    intro k acc l
    cases l with
    | nil => simp [getGo]
    | cons c r =>
      simp only [getGo]
      split
      · simp
      · split
        · simp
        · split
          · simp
          · have := ih (k + 1) (acc + c % 128 * 128 ^ k) r
            simp; omega

theorem getL_took (l : List Nat) : (getL l).2.1 ≤ l.length := by have := getGo_took 10 0 0 l; unfold getL; omega

theorem getGo_facts (f : Nat) : ∀ k acc l v t er, acc < 128 ^ k → k + f = 10 → getGo f k acc l = (v, t, er) →
    (er = 0 ∧ k < t ∧ v < 18446744073709551616) ∨ (v = 0 ∧ t = 0 ∧ (er = 4 ∨ er = 5)) := by
  induction f with
  | zero => intro k acc l v t er _ _ h; simp [getGo] at h; omega
  | succ f ih =>
    intro k acc l v t er ha hk h
    cases l with
    | nil => simp [getGo] at h; omega
    | cons c r =>
      simp only [getGo] at h
      split at h
      · simp at h; omega
      · rename_i h9
        split at h
        · simp at h; omega
        · split at h
          · rename_i hc
            simp only [Prod.mk.injEq] at h
            obtain ⟨rfl, rfl, rfl⟩ := h
            refine .inl ⟨rfl, by omega, ?_⟩
            have h1 := getGo_fit (c % 128) k (Nat.mod_lt _ (by omega)) (by omega) h9
            rw [← getGo_or _ _ _ ha]
            have h2 : acc < 2 ^ 64 := by
              have : 128 ^ k ≤ 128 ^ 9 := Nat.pow_le_pow_right (by omega) (by omega)
              omega
            have h3 : acc ||| c % 128 * 128 ^ k < 2 ^ 64 := Nat.or_lt_two_pow h2 (by omega)
            omega
          · rcases ih _ _ _ v t er (getGo_next c k acc ha) (by omega) h with h1 | h1
            · exact .inl ⟨h1.1, by omega, h1.2.2⟩
            · exact .inr h1

theorem getL_facts {l : List Nat} {v t er : Nat} (h : getL l = (v, t, er)) : (er = 0 ∧ 0 < t ∧ t ≤ l.length ∧ v < 18446744073709551616) ∨ (v = 0 ∧ t = 0 ∧ (er = 4 ∨ er = 5)) := by
  have h1 := getL_took l
  rw [h] at h1
  rcases getGo_facts 10 0 0 l v t er (by simp) rfl h with h2 | h2
  · exact .inl ⟨h2.1, h2.2.1, h1, h2.2.2⟩
  · exact .inr h2

/-- what the bytes at the head of l tell as a text -/
def gtL (l : List Nat) : List Nat × Nat × Nat :=
  if (getL l).2.2 ≠ 0 then ([], 0, (getL l).2.2)
  else if l.length - (getL l).2.1 < (getL l).1 then ([], 0, 5)
  else ((l.drop (getL l).2.1).take (getL l).1, (getL l).2.1 + (getL l).1, 0)

end Go.Proofs.YtfdjeaieddcgdabGreatDoor
