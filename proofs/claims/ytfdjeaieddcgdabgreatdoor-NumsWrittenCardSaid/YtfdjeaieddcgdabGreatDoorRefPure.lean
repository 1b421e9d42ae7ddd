/-
  WHAT IS PROVED: plain facts on what the bytes at the head of a list tell, told by definition: the number of which they are the bytes.
-/
import Derived.Test.YtfdjeaieddcgdabGreatDoorVbPure
namespace Go.Proofs.YtfdjeaieddcgdabGreatDoor

/-- a number's digits -/
def dg (n : Nat) : List Nat := if n < 128 then [n] else n % 128 :: dg (n / 128)
termination_by n
decreasing_by omega
theorem dg_low {n : Nat} (h : n < 128) : dg n = [n] := by rw [dg, if_pos h]
theorem dg_more {n : Nat} (h : 128 ≤ n) : dg n = n % 128 :: dg (n / 128) := by rw [dg, if_neg (by omega)]

theorem dg_len (n : Nat) : (dg n).length = (vb n).length := by
  induction n using Nat.strongRecOn with
  | _ n ih =>
    by_cases h : n < 128
    · rw [dg_low h, vb_low h]
    · rw [dg_more (by omega), vb_more (by omega)]
      simp [ih (n / 128) (by omega)]

theorem dg_get (n : Nat) : ∀ i d, (dg n)[i]? = some d → d < 128 ∧ (i + 1 < (dg n).length → (vb n)[i]? = some (d + 128)) ∧ (¬ i + 1 < (dg n).length → (vb n)[i]? = some d) := by
  induction n using Nat.strongRecOn with
  | _ n ih =>
    intro i d hd
    by_cases h : n < 128
    · rw [dg_low h] at hd ⊢
      rw [vb_low h]
      cases i with
      | zero => simp at hd; subst hd; exact ⟨h, by simp, by simp⟩
      | succ i => simp at hd
    · have h1 := dg_more (n := n) (by omega)
      have h2 := vb_more (n := n) (by omega)
      have hl := dg_len (n / 128)
      have hp := vb_pos (n / 128)
      rw [h1] at hd ⊢
      rw [h2]
      cases i with
      | zero =>
        simp only [List.getElem?_cons_zero, Option.some.injEq] at hd
        subst hd
        refine ⟨by omega, fun _ => rfl, fun hn => ?_⟩
        simp only [List.length_cons] at hn
        omega
      | succ i =>
        simp only [List.getElem?_cons_succ] at hd
        have := ih (n / 128) (by omega) i d hd
        simp only [List.length_cons, List.getElem?_cons_succ]
        refine ⟨this.1, fun h => this.2.1 (by omega), fun h => this.2.2 (by omega)⟩

theorem set_step (a b : List Nat) (i x : Nat) (hi : i < b.length) (hab : a.length = b.length) (hx : a[i]? = some x) : (a.take i ++ b.drop i).set i x = a.take (i + 1) ++ b.drop (i + 1) := by
  have hl : (a.take i).length = i := by simp; omega
  rw [List.set_append_right _ _ (by omega), hl, Nat.sub_self, List.drop_eq_getElem_cons hi, List.set_cons_zero, List.take_add_one, hx]
  simp

theorem getGo_sound (f : Nat) : ∀ k acc l v t, (∀ x ∈ l, x < 256) → getGo f k acc l = (v, t, 0) → ∃ m r, v = acc + m * 128 ^ k ∧ t = k + (vb m).length ∧ l = vb m ++ r ∧ (0 < k → 0 < m) := by
  induction f with
  | zero => intro k acc l v t _ h; simp [getGo] at h
  | succ f ih =>
    intro k acc l v t hl h
    cases l with
    | nil => simp [getGo] at h
    | cons c r =>
      simp only [getGo] at h
      split at h
      · simp at h
      · split at h
        · simp at h
        · rename_i hz
          split at h
          · rename_i hc
            simp only [Prod.mk.injEq] at h
            have e : c % 128 = c := Nat.mod_eq_of_lt hc
            refine ⟨c, r, by rw [← h.1, e], by rw [vb_low hc]; simp; omega, by rw [vb_low hc]; rfl, by omega⟩
          · rename_i hc
            obtain ⟨m, s, h1, h2, h3, h4⟩ := ih (k + 1) _ r v t (fun x hx => hl x (by simp [hx])) h
            have hm := h4 (by omega)
            have hcb := hl c (by simp)
            have hge : 128 ≤ c % 128 + 128 * m := by omega
            refine ⟨c % 128 + 128 * m, s, ?_, ?_, ?_, fun _ => by omega⟩
            · rw [h1, Nat.add_mul, Nat.pow_succ, Nat.mul_comm (128 ^ k) 128, ← Nat.mul_assoc, Nat.mul_comm m 128]; omega
            · rw [vb_more hge, List.length_cons, show (c % 128 + 128 * m) / 128 = m by omega]; omega
            · rw [vb_more hge, show (c % 128 + 128 * m) / 128 = m by omega, show (c % 128 + 128 * m) % 128 + 128 = c by omega, h3]; rfl

theorem getL_sound {l : List Nat} {v t : Nat} (hl : ∀ x ∈ l, x < 256) (h : getL l = (v, t, 0)) : ∃ r, l = vb v ++ r ∧ t = (vb v).length := by
  obtain ⟨m, r, h1, h2, h3, _⟩ := getGo_sound 10 0 0 l v t hl h
  have : v = m := by simpa using h1
  subst this
  exact ⟨r, h3, by omega⟩

theorem getGo_five (f : Nat) : ∀ k acc l v t, getGo f k acc l = (v, t, 5) → l.length < f ∧ ∀ x ∈ l, 128 ≤ x := by
  induction f with
  | zero => intro k acc l v t h; simp [getGo] at h
  | succ f ih =>
    intro k acc l v t h
    cases l with
    | nil => exact ⟨by simp, fun x hx => by simp at hx⟩
    | cons c r =>
      simp only [getGo] at h
      split at h
      · simp at h
      · split at h
        · simp at h
        · split at h
          · simp at h
          · have := ih _ _ _ _ _ h
            refine ⟨by simp; omega, fun x hx => ?_⟩
            rcases List.mem_cons.1 hx with rfl | hx
            · omega
            · exact this.2 x hx

theorem getGo_short (f : Nat) : ∀ k acc l, f + k = 10 → l.length < f → (∀ x ∈ l, 128 ≤ x) → getGo f k acc l = (0, 0, 5) := by
  induction f with
  | zero => intro k acc l _ h; omega
  | succ f ih =>
    intro k acc l hk hl h
    cases l with
    | nil => rfl
    | cons c r =>
      simp only [List.length_cons] at hl
      rw [getGo_on f k acc c r (by omega) (h c (by simp))]
      exact ih _ _ _ (by omega) (by omega) (fun x hx => h x (by simp [hx]))

/-- the digits that stand in bytes, put together -/
def hv : List Nat → Nat
  | [] => 0
  | c :: r => c % 128 + 128 * hv r

theorem hv_vb (n : Nat) : hv (vb n) = n := by
  induction n using Nat.strongRecOn with
  | _ n ih =>
    by_cases h : n < 128
    · rw [vb_low h]; simp [hv]; omega
    · rw [vb_more (by omega), hv, ih (n / 128) (by omega)]; omega

/-- where the first byte below 128 stands -/
theorem vb_ends (v : Nat) (r : List Nat) (m : Nat) (hm : ∀ i c, i < m → (vb v ++ r)[i]? = some c → 128 ≤ c) (c : Nat) (hc : (vb v ++ r)[m]? = some c) (hlt : c < 128) : m + 1 = (vb v).length := by
  have hp := vb_pos v
  rcases Nat.lt_trichotomy (m + 1) (vb v).length with h | h | h
  · rw [List.getElem?_append_left (by omega)] at hc
    have := (vb_get m v c hc).2.1.2 h
    omega
  · exact h
  · exfalso
    obtain ⟨d, hd⟩ : ∃ d, (vb v)[(vb v).length - 1]? = some d := ⟨(vb v)[(vb v).length - 1]'(by omega), by rw [List.getElem?_eq_getElem]⟩
    have h1 := (vb_get _ v d hd).2.1
    have h2 := hm ((vb v).length - 1) d (by omega) (by rw [List.getElem?_append_left (by omega)]; exact hd)
    omega

/-- the three ways -/
theorem getL_many {l : List Nat} (hl : ∀ x ∈ l, x < 256) (h10 : 10 ≤ l.length) (hm : ∀ i c, i < 10 → l[i]? = some c → 128 ≤ c) : getL l = (0, 0, 4) := by
  obtain ⟨v, t, er, h⟩ : ∃ v t er, getL l = (v, t, er) := ⟨_, _, _, rfl⟩
  rcases getL_facts h with ⟨rfl, h1, h2, h3⟩ | ⟨rfl, rfl, h1 | h1⟩
  · exfalso
    obtain ⟨r, rfl, ht⟩ := getL_sound hl h
    have hp := vb_pos v
    have h4 := vb_len64 h3
    obtain ⟨d, hd⟩ : ∃ d, (vb v)[(vb v).length - 1]? = some d := ⟨(vb v)[(vb v).length - 1]'(by omega), by rw [List.getElem?_eq_getElem]⟩
    have h5 := (vb_get _ v d hd).2.1
    have h6 := hm ((vb v).length - 1) d (by omega) (by rw [List.getElem?_append_left (by omega)]; exact hd)
    omega
  · rw [h, h1]
  · exfalso
    subst h1
    have := (getGo_five 10 0 0 l 0 0 h).1
    omega

theorem getL_ends {l : List Nat} (hl : ∀ x ∈ l, x < 256) (m : Nat) (hm : ∀ i c, i < m → l[i]? = some c → 128 ≤ c) (c : Nat) (hc : l[m]? = some c) (hlt : c < 128) (N : Nat) (hN : N = hv (l.take (m + 1)) % 18446744073709551616) :
    getL l = if vb N = l.take (m + 1) then (N, m + 1, 0) else (0, 0, 4) := by
  have hNlt : N < 18446744073709551616 := by omega
  have hml := (List.getElem?_eq_some_iff.1 hc).1
  split
  · rename_i he
    have h := getL_vb N hNlt (l.drop (m + 1))
    rw [he, List.take_append_drop] at h
    rw [h]
    simp
    omega
  · rename_i he
    obtain ⟨v, t, er, h⟩ : ∃ v t er, getL l = (v, t, er) := ⟨_, _, _, rfl⟩
    rcases getL_facts h with ⟨rfl, h1, h2, h3⟩ | ⟨rfl, rfl, h1 | h1⟩
    · exfalso
      obtain ⟨r, hr, ht⟩ := getL_sound hl h
      have := vb_ends v r m (by rw [← hr]; exact hm) c (by rw [← hr]; exact hc) hlt
      have e : l.take (m + 1) = vb v := by rw [hr, this, List.take_left]
      rw [e, hv_vb, Nat.mod_eq_of_lt h3] at hN
      rw [e, hN] at he
      exact he rfl
    · rw [h, h1]
    · exfalso
      subst h1
      have := (getGo_five 10 0 0 l 0 0 h).2 c (List.mem_of_getElem? hc)
      omega

theorem getL_short {l : List Nat} (h : l.length < 10) (hm : ∀ i c, i < l.length → l[i]? = some c → 128 ≤ c) : getL l = (0, 0, 5) :=
  getGo_short 10 0 0 l rfl h (fun x hx => by
    obtain ⟨i, hi, rfl⟩ := List.mem_iff_getElem.1 hx
    exact hm i _ hi (List.getElem?_eq_getElem hi))

end Go.Proofs.YtfdjeaieddcgdabGreatDoor
