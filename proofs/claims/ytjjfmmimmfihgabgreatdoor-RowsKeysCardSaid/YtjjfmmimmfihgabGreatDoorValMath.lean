/-
  WHAT IS PROVED: plain mathematics of values: their order is total; no two have one text. No program is named here.
-/
import Derived.Test.YtjjfmmimmfihgabGreatDoorValPure
namespace Go.Proofs.YtjjfmmimmfihgabGreatDoor
open Go.Lib

theorem cmpB_range : ∀ (a b : List UInt8), compareBytes a b = -1 ∨ compareBytes a b = 0 ∨ compareBytes a b = 1
  | [], [] => .inr (.inl rfl)
  | [], _ :: _ => .inl rfl
  | _ :: _, [] => .inr (.inr rfl)
  | x :: a, y :: b => by
    rw [compareBytes]
    split
    · exact .inl rfl
    · split
      · exact .inr (.inr rfl)
      · exact cmpB_range a b
theorem cmpS_range (a b : ByteArray) : cmpS a b = -1 ∨ cmpS a b = 0 ∨ cmpS a b = 1 := cmpB_range _ _

namespace Val
theorem cmp_range (a b : Val) : cmp a b = -1 ∨ cmp a b = 0 ∨ cmp a b = 1 := by
  have := cmpS_range a.s b.s
  unfold cmp
  repeat' split
  all_goals simp_all
theorem cmp_flip (a b : Val) : cmp b a = - cmp a b := by
  have h := cmpS_flip a.s b.s
  unfold cmp
  by_cases h1 : a.k < b.k
  · simp [h1, show ¬ b.k < a.k by omega]
  · by_cases h2 : b.k < a.k
    · simp [h1, h2]
    · by_cases h3 : a.i < b.i
      · simp [h1, h2, h3, show ¬ b.i < a.i by omega]
      · by_cases h4 : b.i < a.i
        · simp [h1, h2, h3, h4]
        · simp [h1, h2, h3, h4, h]
theorem cmp_self (a : Val) : cmp a a = 0 := by unfold cmp; simp [cmpS_self]
theorem cmp_eq {a b : Val} (h : cmp a b = 0) : a = b := by
  unfold cmp at h
  by_cases h1 : a.k < b.k
  · rw [if_pos h1] at h; simp at h
  · by_cases h2 : b.k < a.k
    · rw [if_neg h1, if_pos h2] at h; simp at h
    · by_cases h3 : a.i < b.i
      · rw [if_neg h1, if_neg h2, if_pos h3] at h; simp at h
      · by_cases h4 : b.i < a.i
        · rw [if_neg h1, if_neg h2, if_neg h3, if_pos h4] at h; simp at h
        · rw [if_neg h1, if_neg h2, if_neg h3, if_neg h4] at h
          have := cmpS_eq h
          obtain ⟨k, i, s⟩ := a
          obtain ⟨k', i', s'⟩ := b
          simp only at *
          obtain rfl : k = k' := by omega
          obtain rfl : i = i' := by omega
          rw [this]
/-- the order, said without cases -/
theorem cmp_lt {a b : Val} : cmp a b < 0 ↔ a.k < b.k ∨ a.k = b.k ∧ (a.i < b.i ∨ a.i = b.i ∧ cmpS a.s b.s < 0) := by
  have := cmpS_range a.s b.s
  unfold cmp
  by_cases h1 : a.k < b.k
  · simp [h1]
  · by_cases h2 : b.k < a.k
    · simp [h1, h2]; omega
    · by_cases h3 : a.i < b.i
      · simp [h1, h2, h3]; omega
      · by_cases h4 : b.i < a.i
        · simp [h1, h2, h3, h4]; omega
        · simp [h1, h2, h3, h4]; omega
theorem cmp_trans {a b c : Val} (h1 : cmp a b < 0) (h2 : cmp b c < 0) : cmp a c < 0 := by
  have h := @cmpS_trans a.s b.s c.s
  rw [cmp_lt] at *
  omega
theorem cmp_kind {a b : Val} (h : a.k < b.k) : cmp a b = -1 := by unfold cmp; rw [if_pos h]
end Val

/-! ### texts -/
theorem dbl_cons (c : UInt8) (l : List UInt8) : Val.dbl (c :: l) = (if c = 39 then [39, 39] else [c]) ++ Val.dbl l := rfl
theorem dbl_inj : ∀ (a b : List UInt8), Val.dbl a = Val.dbl b → a = b
  | [], [], _ => rfl
  | [], c :: b, h => by rw [dbl_cons] at h; split at h <;> simp [Val.dbl] at h
  | c :: a, [], h => by rw [dbl_cons] at h; split at h <;> simp [Val.dbl] at h
  | c :: a, d :: b, h => by
    rw [dbl_cons, dbl_cons] at h
    split at h
    · split at h
      · rename_i h1 h2
        simp at h
        rw [h1, h2, dbl_inj a b h]
      · rename_i h1 h2
        simp at h
        exact absurd h.1.symm h2
    · split at h
      · rename_i h1 h2
        simp at h
        exact absurd h.1 h1
      · simp at h
        rw [h.1, dbl_inj a b h.2]
theorem dbl_length : ∀ (a : List UInt8), (Val.dbl a).length = a.length + a.count 39
  | [] => rfl
  | c :: a => by
    rw [dbl_cons, List.length_append, dbl_length a, List.count_cons]
    split <;> simp_all <;> omega

/-- what digits are worth -/
def worth (l : List UInt8) : Nat := l.foldl (fun a c => a * 10 + (c.toNat - 48)) 0
theorem worth_snoc (l : List UInt8) (c : UInt8) : worth (l ++ [c]) = worth l * 10 + (c.toNat - 48) := by unfold worth; rw [List.foldl_append]; rfl
theorem digit_nat (d : Nat) (h : d < 10) : (UInt8.ofNat (48 + d)).toNat = 48 + d := by simp; omega
theorem worth_dec (u : Nat) : worth (decDigits u) = u := by
  induction u using Nat.strongRecOn with
  | _ u ih =>
    rw [decDigits]
    split
    · rename_i h
      show 0 * 10 + ((UInt8.ofNat (48 + u)).toNat - 48) = u
      rw [digit_nat _ h]; omega
    · rw [worth_snoc, ih (u / 10) (by omega), digit_nat _ (by omega)]; omega
theorem dec_digit (u : Nat) : ∀ c ∈ decDigits u, 48 ≤ c.toNat ∧ c.toNat ≤ 57 := by
  induction u using Nat.strongRecOn with
  | _ u ih =>
    rw [decDigits]
    split
    · rename_i h
      intro c hc
      simp only [List.mem_singleton] at hc
      rw [hc, digit_nat _ h]; omega
    · intro c hc
      rcases List.mem_append.1 hc with h | h
      · exact ih (u / 10) (by omega) c h
      · simp only [List.mem_singleton] at h
        rw [h, digit_nat _ (by omega)]; omega
theorem dec_ne (u : Nat) : decDigits u ≠ [] := by
  rw [decDigits]
  split <;> simp
theorem dec_head (u : Nat) : ∃ c r, decDigits u = c :: r ∧ 48 ≤ c.toNat ∧ c.toNat ≤ 57 := by
  obtain ⟨c, r, h⟩ := List.exists_cons_of_ne_nil (dec_ne u)
  exact ⟨c, r, h, dec_digit u c (by rw [h]; simp)⟩
theorem itoa_head (n : Int) : ∃ c r, itoa n = c :: r ∧ 45 ≤ c.toNat ∧ c.toNat ≤ 57 := by
  unfold itoa
  split
  · exact ⟨45, _, rfl, by decide, by decide⟩
  · obtain ⟨c, r, h, h1, h2⟩ := dec_head n.toNat
    exact ⟨c, r, h, by omega, h2⟩
theorem itoa_inj {m n : Int} (h : itoa m = itoa n) : m = n := by
  unfold itoa at h
  split at h
  · split at h
    · simp only [List.cons.injEq, true_and] at h
      have := congrArg worth h
      rw [worth_dec, worth_dec] at this
      omega
    · obtain ⟨c, r, h1, h2, h3⟩ := dec_head n.toNat
      rw [h1] at h
      simp only [List.cons.injEq] at h
      rw [← h.1] at h2
      exact absurd h2 (by decide)
  · split at h
    · obtain ⟨c, r, h1, h2, h3⟩ := dec_head m.toNat
      rw [h1] at h
      simp only [List.cons.injEq] at h
      rw [h.1] at h2
      exact absurd h2 (by decide)
    · have := congrArg worth h
      rw [worth_dec, worth_dec] at this
      omega

namespace Val
/-- the first byte of a text, by kinds -/
theorem text_nil : text nil = ⟨#[78, 85, 76, 76]⟩ := rfl
theorem text_txt (s : ByteArray) (h : s.size ≤ 512) : text (txt s) = ⟨(39 :: dbl s.data.toList ++ [39]).toArray⟩ := by
  unfold text
  rw [fine_txt, if_neg (by simpa using h), if_neg (by show ¬ (2 = 0); decide), if_pos (by rfl)]; rfl
theorem text_min : text (num (-9223372036854775808)) = "(-9223372036854775807 - 1)".toUTF8 := by unfold text; rfl
theorem text_num (n : Int) (h : n ≠ -9223372036854775808) : text (num n) = ⟨(itoa n).toArray⟩ := by
  unfold text
  rw [fine_num, if_neg (by decide), if_neg (by show ¬ (1 = 0); decide), if_neg (by show ¬ (1 = 2); decide), if_neg (by exact h)]; rfl
def headOf (s : ByteArray) : Nat := match s.data.toList with | [] => 0 | c :: _ => c.toNat
theorem head_num (n : Int) (h : n ≠ -9223372036854775808) : 45 ≤ headOf (text (num n)) ∧ headOf (text (num n)) ≤ 57 := by
  rw [text_num n h]
  obtain ⟨c, r, h1, h2, h3⟩ := itoa_head n
  unfold headOf
  simp only [h1]
  exact ⟨h2, h3⟩
theorem head_txt (s : ByteArray) (h : s.size ≤ 512) : headOf (text (txt s)) = 39 := by rw [text_txt s h]; rfl
theorem head_nil : headOf (text nil) = 78 := rfl
theorem head_min : headOf (text (num (-9223372036854775808))) = 40 := by rw [text_min]; decide +kernel
theorem text_ne {x : Val} (h : x.fine = true) : (text x).size ≠ 0 := by
  intro e
  have h0 : headOf (text x) = 0 := by rw [noS_of e]; rfl
  rcases fine_cases h with rfl | ⟨n, rfl⟩ | ⟨s, rfl, hs⟩
  · rw [head_nil] at h0; omega
  · by_cases hn : n = -9223372036854775808
    · subst hn; rw [head_min] at h0; omega
    · have := head_num n hn; omega
  · rw [head_txt s hs] at h0; omega
theorem text_inj {x y : Val} (hx : x.fine = true) (hy : y.fine = true) (h : text x = text y) : x = y := by
  have h0 : headOf (text x) = headOf (text y) := by rw [h]
  rcases fine_cases hx with rfl | ⟨n, rfl⟩ | ⟨s, rfl, hs⟩ <;> rcases fine_cases hy with rfl | ⟨m, rfl⟩ | ⟨t, rfl, ht⟩
  · rfl
  · rw [head_nil] at h0
    by_cases hm : m = -9223372036854775808
    · subst hm; rw [head_min] at h0; omega
    · have := head_num m hm; omega
  · rw [head_nil, head_txt t ht] at h0; omega
  · rw [head_nil] at h0
    by_cases hm : n = -9223372036854775808
    · subst hm; rw [head_min] at h0; omega
    · have := head_num n hm; omega
  · by_cases hn : n = -9223372036854775808
    · by_cases hm : m = -9223372036854775808
      · rw [hn, hm]
      · subst hn; rw [head_min] at h0
        have := head_num m hm; omega
    · by_cases hm : m = -9223372036854775808
      · subst hm; rw [head_min] at h0
        have := head_num n hn; omega
      · rw [text_num n hn, text_num m hm] at h
        have h1 : itoa n = itoa m := by simpa using h
        rw [itoa_inj h1]
  · rw [head_txt t ht] at h0
    by_cases hm : n = -9223372036854775808
    · subst hm; rw [head_min] at h0; omega
    · have := head_num n hm; omega
  · rw [head_nil, head_txt s hs] at h0; omega
  · rw [head_txt s hs] at h0
    by_cases hm : m = -9223372036854775808
    · subst hm; rw [head_min] at h0; omega
    · have := head_num m hm; omega
  · rw [text_txt s hs, text_txt t ht] at h
    have h1 : dbl s.data.toList = dbl t.data.toList := by simpa using h
    have h2 := dbl_inj _ _ h1
    obtain ⟨⟨l⟩⟩ := s
    obtain ⟨⟨m⟩⟩ := t
    simp at h2
    rw [h2]
theorem text_size (s : ByteArray) (h : s.size ≤ 512) : (text (txt s)).size = s.size + 2 + s.data.toList.count 39 := by
  rw [text_txt s h]
  show ((39 :: dbl s.data.toList ++ [39]).toArray).size = _
  have : s.data.toList.length = s.size := rfl
  simp [dbl_length]; omega
end Val
end Go.Proofs.YtjjfmmimmfihgabGreatDoor
