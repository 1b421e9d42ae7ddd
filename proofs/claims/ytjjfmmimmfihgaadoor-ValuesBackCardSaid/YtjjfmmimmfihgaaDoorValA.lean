/-
  WHAT IS PROVED: contracts of package values: Check, and small ones.
-/
import Derived.Test.YtjjfmmimmfihgaaDoorKit
import Derived.Test.YtjjfmmimmfihgaaDoorValBack
namespace Go.Proofs.YtjjfmmimmfihgaaDoor
open Go.RowKit Go.Lib

theorem bcell {W w1 : World} (hb : Below W.heap.size W w1) : (∀ b o, b < W.heap.size → w1.cell? ⟨b, o, none⟩ = W.cell? ⟨b, o, none⟩) ∧ (∀ b o, b < W.heap.size → w1.frozen? ⟨b, o, none⟩ = W.frozen? ⟨b, o, none⟩) :=
  ⟨fun b o h => hb.cell (p := ⟨b, o, none⟩) h, fun b o h => hb.frozen (p := ⟨b, o, none⟩) h⟩
theorem cell_of_block {w : World} {b : Nat} {cs : Array Value} {t : TypeId} {fr : Nat × Nat} (h : w.heap[b]? = some (.cells cs t fr)) (j : Nat) : w.cell? ⟨b, j, none⟩ = cs[j]? := cell_of_row w b j cs t fr h
theorem toList_nil (s : ByteArray) : s.toList = [] ↔ s.size = 0 := by
  rw [ByteArray.toList_eq]
  exact Array.toList_eq_nil_iff.trans ⟨fun h => by show s.data.size = 0; rw [h]; rfl, fun h => by have := noS_of h; rw [this]; rfl⟩
theorem isEmpty_size (s : ByteArray) : s.toList.isEmpty = (s.size == 0) := by
  rw [Bool.eq_iff_iff, List.isEmpty_iff, toList_nil]; simp
theorem ret_bool {a b : Bool} (h : a = b) : Ending.returned (.bool a) = .returned (.bool b) := by rw [h]

set_option maxHeartbeats 1000000 in
theorem check_any (k : Nat) (i : Int) (s : ByteArray) (w : World) (hk : k < 256) :
    Calls Tryd.prog 32 #[.agg #[.int .u8 (k : Int), .int .i64 i, .string s]] w fun e w' => e = .returned (.bool (Val.fine ⟨k, i, s⟩)) ∧ Below w.heap.size w w' := by
  have hs : s.data.size = s.size := rfl
  rcases (show k = 0 ∨ k = 1 ∨ k = 2 ∨ 2 < k by omega) with rfl | rfl | rfl | h
  · go_enter Tryd.func32, Tryd.ntmps32
    go_wp2
    all_goals go_ret
    all_goals refine ⟨ret_bool ?_, below_alloc _ _⟩
    all_goals simp_all [Val.fine, toList_nil]
  · go_enter Tryd.func32, Tryd.ntmps32
    go_wp2
    all_goals go_ret
    all_goals refine ⟨ret_bool ?_, below_alloc _ _⟩
    all_goals simp_all [Val.fine, isEmpty_size]
  · go_enter Tryd.func32, Tryd.ntmps32
    go_wp2
    all_goals go_ret
    all_goals refine ⟨ret_bool ?_, below_alloc _ _⟩
    all_goals simp_all [Val.fine]
    all_goals omega
  · have h0 : ((k : Int) == 0) = false := by rw [beq_eq_false_iff_ne]; omega
    have h1 : ((k : Int) == 1) = false := by rw [beq_eq_false_iff_ne]; omega
    have h2 : ((k : Int) == 2) = false := by rw [beq_eq_false_iff_ne]; omega
    go_enter Tryd.func32, Tryd.ntmps32
    go_wp2
    all_goals go_ret
    all_goals refine ⟨ret_bool ?_, below_alloc _ _⟩
    have e0 : (k == 0) = false := by rw [beq_eq_false_iff_ne]; omega
    have e1 : (k == 1) = false := by rw [beq_eq_false_iff_ne]; omega
    have e2 : (k == 2) = false := by rw [beq_eq_false_iff_ne]; omega
    simp [Val.fine, e0, e1, e2]

theorem anyNull_any (k : Nat) (i : Int) (s : ByteArray) (l : Nat) (j : Int) (t : ByteArray) (w : World) (_hk : k < 256) (_hl : l < 256) :
    Calls Tryd.prog 47 #[.agg #[.int .u8 (k : Int), .int .i64 i, .string s], .agg #[.int .u8 (l : Int), .int .i64 j, .string t]] w fun e w' => e = .returned (.bool (decide (k = 0 ∨ l = 0))) ∧ Below w.heap.size w w' := by
  by_cases h : k = 0
  · subst h
    go_enter Tryd.func47, Tryd.ntmps47
    go_wp2
    go_ret
    exact ⟨ret_bool (by simp), (below_alloc _ _).alloc (by simp) _⟩
  · have h0 : ((k : Int) == 0) = false := by rw [beq_eq_false_iff_ne]; omega
    go_enter Tryd.func47, Tryd.ntmps47
    go_wp2
    go_ret
    exact ⟨ret_bool (by simp [h]; rw [Bool.eq_iff_iff]; simp), (below_alloc _ _).alloc (by simp) _⟩

theorem anyText_any (k : Nat) (i : Int) (s : ByteArray) (l : Nat) (j : Int) (t : ByteArray) (w : World) (_hk : k < 256) (_hl : l < 256) :
    Calls Tryd.prog 48 #[.agg #[.int .u8 (k : Int), .int .i64 i, .string s], .agg #[.int .u8 (l : Int), .int .i64 j, .string t]] w fun e w' => e = .returned (.bool (decide (k = 2 ∨ l = 2))) ∧ Below w.heap.size w w' := by
  by_cases h : k = 2
  · subst h
    go_enter Tryd.func48, Tryd.ntmps48
    go_wp2
    go_ret
    exact ⟨ret_bool (by simp), (below_alloc _ _).alloc (by simp) _⟩
  · have h0 : ((k : Int) == 2) = false := by rw [beq_eq_false_iff_ne]; omega
    go_enter Tryd.func48, Tryd.ntmps48
    go_wp2
    go_ret
    exact ⟨ret_bool (by simp [h]; rw [Bool.eq_iff_iff]; simp; omega), (below_alloc _ _).alloc (by simp) _⟩

theorem integer_any (n : Int) (w : World) :
    Calls Tryd.prog 49 #[.int .i64 n] w fun e w' => e = .returned (.agg #[.int .u8 1, .int .i64 n, .string ⟨#[]⟩]) ∧ Below w.heap.size w w' := by
  go_enter Tryd.func49, Tryd.ntmps49
  go_wp2
  exact bodyPost_ret (v := .agg #[.int .u8 1, .int .i64 n, .string ⟨#[]⟩]) (by simp [results, go_sem]) rfl ⟨rfl, below_alloc _ _⟩

theorem truth_any (b : Bool) (w : World) :
    Calls Tryd.prog 52 #[.bool b] w fun e w' => e = .returned (.agg #[.int .u8 1, .int .i64 (bitI b), .string ⟨#[]⟩]) ∧ Below w.heap.size w w' := by
  cases b
  · go_enter Tryd.func52, Tryd.ntmps52
    go_wp2_with (go_at_call 49; refine (integer_any _ _).mono ?_; rintro e w1 ⟨rfl, hb⟩; obtain ⟨hc, hf⟩ := bcell hb; have hz := hb.size)
    refine bodyPost_ret (v := .agg #[.int .u8 1, .int .i64 0, .string ⟨#[]⟩]) (by simp [results, go_sem, hc]) rfl ⟨rfl, ?_⟩
    exact (((below_step (Below.refl _ _) hb).setCell (Nat.le_refl _) _).setCell (Nat.le_refl _) _).setCell (Nat.le_refl _) _
  · go_enter Tryd.func52, Tryd.ntmps52
    go_wp2_with (go_at_call 49; refine (integer_any _ _).mono ?_; rintro e w1 ⟨rfl, hb⟩; obtain ⟨hc, hf⟩ := bcell hb; have hz := hb.size)
    refine bodyPost_ret (v := .agg #[.int .u8 1, .int .i64 1, .string ⟨#[]⟩]) (by simp [results, go_sem, hc]) rfl ⟨rfl, ?_⟩
    exact (((below_step (Below.refl _ _) hb).setCell (Nat.le_refl _) _).setCell (Nat.le_refl _) _).setCell (Nat.le_refl _) _

theorem wrap_sum {a b : Int} (a0 : -9223372036854775808 ≤ a) (a1 : a ≤ 9223372036854775807) (b0 : -9223372036854775808 ≤ b) (b1 : b ≤ 9223372036854775807) :
    (decide (a < wrap64 (a + b)) == decide (0 < b)) = Val.fits (a + b) := by
  unfold wrap64 Val.fits
  rw [Bool.eq_iff_iff]
  simp only [beq_iff_eq, decide_eq_decide, decide_eq_true_eq]
  omega
theorem wrap_dif {a b : Int} (a0 : -9223372036854775808 ≤ a) (a1 : a ≤ 9223372036854775807) (b0 : -9223372036854775808 ≤ b) (b1 : b ≤ 9223372036854775807) :
    (decide (wrap64 (a - b) < a) == decide (0 < b)) = Val.fits (a - b) := by
  unfold wrap64 Val.fits
  rw [Bool.eq_iff_iff]
  simp only [beq_iff_eq, decide_eq_decide, decide_eq_true_eq]
  omega

theorem sum_any (a b : Int) (w : World) (a0 : -9223372036854775808 ≤ a) (a1 : a ≤ 9223372036854775807) (b0 : -9223372036854775808 ≤ b) (b1 : b ≤ 9223372036854775807) :
    Calls Tryd.prog 18 #[.int .i64 a, .int .i64 b] w fun e w' => e = .returned (.tuple #[.int .i64 (Val.reckon 5 a b).1, .int .i64 ((Val.reckon 5 a b).2 : Int)]) ∧ w = w' := by
  have ht := wrap_sum a0 a1 b0 b1
  rw [Val.reckon5]
  by_cases hf : Val.fits (a + b) = true
  · rw [hf] at ht
    have h := Val.fits_out hf
    rw [IntWalk.wrap64_in _ h] at ht
    obtain ⟨h0, h1⟩ := h
    rw [if_pos hf]
    clear hf
    go_enter Tryd.func18, Tryd.ntmps18
    go_wp2
    go_ret2
    exact ⟨rfl, rfl⟩
  · rw [Bool.not_eq_true] at hf
    rw [hf] at ht
    rw [hf, if_neg (by simp)]
    clear hf
    go_enter Tryd.func18, Tryd.ntmps18
    go_wp2
    go_ret2
    exact ⟨rfl, rfl⟩
theorem difference_any (a b : Int) (w : World) (a0 : -9223372036854775808 ≤ a) (a1 : a ≤ 9223372036854775807) (b0 : -9223372036854775808 ≤ b) (b1 : b ≤ 9223372036854775807) :
    Calls Tryd.prog 19 #[.int .i64 a, .int .i64 b] w fun e w' => e = .returned (.tuple #[.int .i64 (Val.reckon 6 a b).1, .int .i64 ((Val.reckon 6 a b).2 : Int)]) ∧ w = w' := by
  have ht := wrap_dif a0 a1 b0 b1
  rw [Val.reckon6]
  by_cases hf : Val.fits (a - b) = true
  · rw [hf] at ht
    have h := Val.fits_out hf
    rw [IntWalk.wrap64_in _ h] at ht
    obtain ⟨h0, h1⟩ := h
    rw [if_pos hf]
    clear hf
    go_enter Tryd.func19, Tryd.ntmps19
    go_wp2
    go_ret2
    exact ⟨rfl, rfl⟩
  · rw [Bool.not_eq_true] at hf
    rw [hf] at ht
    rw [hf, if_neg (by simp)]
    clear hf
    go_enter Tryd.func19, Tryd.ntmps19
    go_wp2
    go_ret2
    exact ⟨rfl, rfl⟩
theorem quotient_any (a b : Int) (w : World) (a0 : -9223372036854775808 ≤ a) (a1 : a ≤ 9223372036854775807) (b0 : -9223372036854775808 ≤ b) (b1 : b ≤ 9223372036854775807) :
    Calls Tryd.prog 21 #[.int .i64 a, .int .i64 b] w fun e w' => e = .returned (.tuple #[.int .i64 (Val.reckon 8 a b).1, .int .i64 ((Val.reckon 8 a b).2 : Int)]) ∧ w = w' := by
  rw [Val.reckon8]
  by_cases hb : b = 0
  · subst hb
    go_enter Tryd.func21, Tryd.ntmps21
    go_wp2
    go_ret2
    exact ⟨rfl, rfl⟩
  · have hb' : (b == 0) = false := by simpa using hb
    rw [if_neg hb]
    by_cases hm : a = -9223372036854775808 ∧ b = -1
    · obtain ⟨rfl, rfl⟩ := hm
      go_enter Tryd.func21, Tryd.ntmps21
      go_wp2
      go_ret2
      exact ⟨rfl, rfl⟩
    · have hf : Val.fits (a.tdiv b) = true := by
        by_cases h : Val.fits (a.tdiv b) = true
        · exact h
        · exact absurd (Val.fits_tdiv a0 a1 hb (by simpa using h)) hm
      have h := Val.fits_out hf
      rw [if_pos hf]
      obtain ⟨h0, h1⟩ := h
      clear hf
      by_cases ha : a = -9223372036854775808
      · have hb2 : (b == -1) = false := by rw [beq_eq_false_iff_ne]; omega
        have ha2 : (a == -9223372036854775808) = true := by rw [ha]; rfl
        clear hm ha
        go_enter Tryd.func21, Tryd.ntmps21
        go_wp2
        go_ret2
        exact ⟨rfl, rfl⟩
      · have ha2 : (a == -9223372036854775808) = false := by rw [beq_eq_false_iff_ne]; omega
        clear hm ha
        go_enter Tryd.func21, Tryd.ntmps21
        go_wp2
        go_ret2
        exact ⟨rfl, rfl⟩
/-- a product that went round is not undone by a quotient -/
theorem wrap_mul {a b : Int} (h : Val.fits (a * b) = false) (b0 : -9223372036854775808 ≤ b) (b1 : b ≤ 9223372036854775807) : (wrap64 (a * b)).tdiv b ≠ a := by
  intro e
  have h1 := Int.mul_tdiv_add_tmod (wrap64 (a * b)) b
  rw [e, Int.mul_comm] at h1
  have h2 : ((wrap64 (a * b)).tmod b).natAbs ≤ 9223372036854775808 := by
    rw [Int.natAbs_tmod]
    by_cases hb : b = 0
    · subst hb
      rw [Int.mul_zero] at h
      exact absurd h (by decide)
    · have := Nat.mod_lt (wrap64 (a * b)).natAbs (show 0 < b.natAbs by omega)
      omega
  have h3 := Val.fits_not h
  generalize a * b = p at *
  generalize hq : (wrap64 p).tmod b = q at *
  unfold wrap64 at h1
  omega
theorem product_any (a b : Int) (w : World) (a0 : -9223372036854775808 ≤ a) (a1 : a ≤ 9223372036854775807) (b0 : -9223372036854775808 ≤ b) (b1 : b ≤ 9223372036854775807) :
    Calls Tryd.prog 20 #[.int .i64 a, .int .i64 b] w fun e w' => e = .returned (.tuple #[.int .i64 (Val.reckon 7 a b).1, .int .i64 ((Val.reckon 7 a b).2 : Int)]) ∧ w = w' := by
  rw [Val.reckon7]
  by_cases hb : b = 0
  · subst hb
    rw [Int.mul_zero]
    go_enter Tryd.func20, Tryd.ntmps20
    go_wp2
    go_ret2
    exact ⟨rfl, rfl⟩
  · have hb' : (b == 0) = false := by simpa using hb
    by_cases hf : Val.fits (a * b) = true
    · rw [if_pos hf]
      have h := Val.fits_out hf
      have hq := fun w => quotient_any (a * b) b w h.1 h.2 b0 b1
      rw [Val.reckon8, if_neg hb, Int.mul_tdiv_cancel _ hb, if_pos (Val.fits_of a0 a1)] at hq
      have hw := IntWalk.wrap64_in _ h
      clear hf h
      have haa : (a == a) = true := by simp
      go_enter Tryd.func20, Tryd.ntmps20
      go_wp2_with (go_at_call 21; refine (hq _).mono ?_; rintro e w' ⟨rfl, rfl⟩)
      go_ret2
      exact ⟨rfl, rfl⟩
    · rw [Bool.not_eq_true] at hf
      rw [if_neg (by rw [hf]; simp)]
      have hne := wrap_mul hf b0 b1
      have h0 : -9223372036854775808 ≤ wrap64 (a * b) ∧ wrap64 (a * b) ≤ 9223372036854775807 := by unfold wrap64; omega
      have hq := fun w => quotient_any (wrap64 (a * b)) b w h0.1 h0.2 b0 b1
      rw [Val.reckon8, if_neg hb] at hq
      clear h0 hf
      by_cases hf2 : Val.fits ((wrap64 (a * b)).tdiv b) = true
      · rw [if_pos hf2] at hq
        have hne2 : ((wrap64 (a * b)).tdiv b == a) = false := by simpa using hne
        clear hne hf2
        go_enter Tryd.func20, Tryd.ntmps20
        go_wp2_with (go_at_call 21; refine (hq _).mono ?_; rintro e w' ⟨rfl, rfl⟩)
        go_ret2
        exact ⟨rfl, rfl⟩
      · rw [if_neg hf2] at hq
        clear hne hf2
        go_enter Tryd.func20, Tryd.ntmps20
        go_wp2_with (go_at_call 21; refine (hq _).mono ?_; rintro e w' ⟨rfl, rfl⟩)
        go_ret2
        exact ⟨rfl, rfl⟩
theorem remainder_any (a b : Int) (w : World) (a0 : -9223372036854775808 ≤ a) (a1 : a ≤ 9223372036854775807) (b0 : -9223372036854775808 ≤ b) (b1 : b ≤ 9223372036854775807) :
    Calls Tryd.prog 22 #[.int .i64 a, .int .i64 b] w fun e w' => e = .returned (.tuple #[.int .i64 (Val.reckon 9 a b).1, .int .i64 ((Val.reckon 9 a b).2 : Int)]) ∧ w = w' := by
  rw [Val.reckon9]
  by_cases hb : b = 0
  · subst hb
    go_enter Tryd.func22, Tryd.ntmps22
    go_wp2
    go_ret2
    exact ⟨rfl, rfl⟩
  · have hb' : (b == 0) = false := by simpa using hb
    rw [if_neg hb]
    have h := Val.tmod_bound b a0 a1
    obtain ⟨h0, h1⟩ := h
    go_enter Tryd.func22, Tryd.ntmps22
    go_wp2
    go_ret2
    exact ⟨rfl, rfl⟩
end Go.Proofs.YtjjfmmimmfihgaaDoor
