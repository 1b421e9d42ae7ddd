/-
  WHAT IS PROVED: plain facts on texts as bytes, one behind the other: each is read back, and a beginning that ends within one is too short there.
-/
import Derived.Test.YtoeafjdlnbcfiaaTexts
import Derived.Test.YtoeafjdlnbcfiaaVbPure
namespace Go.Proofs.Ytoeafjdlnbcfiaa

/-- too few of a number's bytes -/
theorem getGo_cut (n : Nat) : ∀ k acc e, k + (vb n).length ≤ 10 → e < (vb n).length → getGo (10 - k) k acc ((vb n).take e) = (0, 0, 5) := by
  induction n using Nat.strongRecOn with
  | _ n ih =>
    intro k acc e hk he
    have hp := vb_pos n
    cases e with
    | zero =>
      rw [List.take_zero, show 10 - k = (10 - (k + 1)) + 1 by omega]; rfl
    | succ e =>
      by_cases h : n < 128
      · rw [vb_low h] at he; simp at he
      · have hv := vb_more (n := n) (by omega)
        have hp2 := vb_pos (n / 128)
        rw [hv] at he hk ⊢
        simp only [List.length_cons] at he hk
        rw [List.take_succ_cons, show 10 - k = (10 - (k + 1)) + 1 by omega, getGo_on _ k _ _ _ (by omega) (by omega)]
        exact ih _ (by omega) (k + 1) _ e (by omega) (by omega)

theorem getL_cut (n e : Nat) (hn : n < 18446744073709551616) (he : e < (vb n).length) : getL ((vb n).take e) = (0, 0, 5) :=
  getGo_cut n 0 0 e (by have := vb_len64 hn; omega) he

/-- a text's bytes -/
def tb (s : ByteArray) : List Nat := vb s.size ++ strN s
theorem strN_length (s : ByteArray) : (strN s).length = s.size := by simp [strN]
theorem tb_length (s : ByteArray) : (tb s).length = (vb s.size).length + s.size := by simp [tb, strN_length]

theorem gtL_text (s : ByteArray) (hs : s.size < 18446744073709551616) (r : List Nat) : gtL (tb s ++ r) = (strN s, (tb s).length, 0) := by
  have h := getL_vb s.size hs (strN s ++ r)
  rw [← List.append_assoc] at h
  have hl := strN_length s
  unfold tb
  unfold gtL
  rw [h]
  simp only [ne_eq, not_true_eq_false, if_false]
  rw [if_neg (by simp; omega)]
  rw [List.append_assoc, List.drop_left, ← hl, List.take_left]
  simp [hl]

theorem gtL_cut (s : ByteArray) (hs : s.size < 18446744073709551616) (r : List Nat) (e : Nat) (he : e < (tb s).length) : gtL ((tb s ++ r).take e) = ([], 0, 5) := by
  rw [List.take_append_of_le_length (by omega)]
  rw [tb_length] at he
  have hl := strN_length s
  unfold tb
  by_cases h : e < (vb s.size).length
  · rw [List.take_append_of_le_length (by omega)]
    unfold gtL
    rw [getL_cut _ _ hs h]
    rfl
  · have e2 : (vb s.size ++ strN s).take e = vb s.size ++ (strN s).take (e - (vb s.size).length) := by
      rw [List.take_append, List.take_of_length_le (by omega)]
    rw [e2]
    unfold gtL
    rw [getL_vb s.size hs]
    simp only [ne_eq, not_true_eq_false, if_false]
    rw [if_pos (by simp; omega)]

theorem strB_strN (s : ByteArray) : strB (strN s) = s := by
  unfold strB strN
  have : (s.data.toList.map UInt8.toNat).map UInt8.ofNat = s.data.toList := by
    rw [List.map_map]
    conv => rhs; rw [← List.map_id s.data.toList]
    apply List.map_congr_left
    intro x _
    simp
  rw [this]

/-- texts, one behind the other -/
def tbs (ss : List ByteArray) : List Nat := (ss.map tb).flatten
theorem tbs_next (ss : List ByteArray) (k : Nat) (s : ByteArray) (h : ss[k]? = some s) : tbs (ss.take (k + 1)) = tbs (ss.take k) ++ tb s := by
  unfold tbs
  rw [List.take_add_one, h]; simp
theorem tbs_drop (ss : List ByteArray) (k : Nat) (s : ByteArray) (h : ss[k]? = some s) : ∃ r, tbs ss = tbs (ss.take k) ++ (tb s ++ r) := by
  refine ⟨tbs (ss.drop (k + 1)), ?_⟩
  have hk := (List.getElem?_eq_some_iff.1 h).1
  have hd : ss.drop k = s :: ss.drop (k + 1) := by
    rw [List.drop_eq_getElem_cons hk]; congr 1; exact (List.getElem?_eq_some_iff.1 h).2
  have e : tbs ss = tbs (ss.take k ++ ss.drop k) := by rw [List.take_append_drop]
  rw [e]
  unfold tbs
  rw [hd]; simp
theorem tbs_len (ss : List ByteArray) (h : ∀ s ∈ ss, s.size < 18446744073709551616) : (tbs ss).length ≤ 10 * ss.length + letters ss := by
  induction ss with
  | nil => simp [tbs, letters]
  | cons s r ih =>
    have h1 := ih (fun x hx => h x (by simp [hx]))
    have h2 := tb_length s
    have h3 := vb_len64 (h s (by simp))
    unfold tbs letters at h1 ⊢
    simp only [List.map_cons, List.flatten_cons, List.length_append, List.sum_cons, List.length_cons]
    omega
theorem tbs_take_len (ss : List ByteArray) (k : Nat) : (tbs (ss.take k)).length ≤ (tbs ss).length := by
  have e : tbs ss = tbs (ss.take k ++ ss.drop k) := by rw [List.take_append_drop]
  rw [e]
  unfold tbs
  rw [List.map_append, List.flatten_append, List.length_append]
  omega

end Go.Proofs.Ytoeafjdlnbcfiaa
