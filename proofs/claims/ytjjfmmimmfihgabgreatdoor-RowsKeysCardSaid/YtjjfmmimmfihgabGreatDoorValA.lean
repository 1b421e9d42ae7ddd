/-
  WHAT IS PROVED: contracts of package values: Check, and small ones.
-/
import Derived.Test.YtjjfmmimmfihgabGreatDoorKit
import Derived.Test.YtjjfmmimmfihgabGreatDoorValBack
namespace Go.Proofs.YtjjfmmimmfihgabGreatDoor
open Go.RowKit Go.Lib

theorem bcell {W w1 : World} (hb : Below W.heap.size W w1) : (∀ b o, b < W.heap.size → w1.cell? ⟨b, o, none⟩ = W.cell? ⟨b, o, none⟩) ∧ (∀ b o, b < W.heap.size → w1.frozen? ⟨b, o, none⟩ = W.frozen? ⟨b, o, none⟩) :=
  ⟨fun b o h => hb.cell (p := ⟨b, o, none⟩) h, fun b o h => hb.frozen (p := ⟨b, o, none⟩) h⟩
theorem cell_of_block {w : World} {b : Nat} {cs : Array Value} {t : TypeId} {fr : Nat × Nat} (h : w.heap[b]? = some (.cells cs t fr)) (j : Nat) : w.cell? ⟨b, j, none⟩ = cs[j]? := cell_of_row w b j cs t fr h
theorem toList_nil (s : ByteArray) : s.toList = [] ↔ s.size = 0 := by
  rw [ByteArray.toList_eq]
  exact Array.toList_eq_nil_iff.trans ⟨fun h => by show s.data.size = 0; rw [h]; rfl, fun h => by have := noS_of h; rw [this]; rfl⟩
theorem isEmpty_size (s : ByteArray) : s.toList.isEmpty = (s.size == 0) := by
  rw [Bool.eq_iff_iff, List.isEmpty_iff, toList_nil]; simp
theorem ret_bool {a b : Bool} (h : a = b) : Ending.returned (.bool a) = .returned (.bool b) := by rw [h]

set_option maxHeartbeats 1000000 in
theorem check_any (k : Nat) (i : Int) (s : ByteArray) (w : World) (hk : k < 256) :
    Calls Tryz.prog 8 #[.agg #[.int .u8 (k : Int), .int .i64 i, .string s]] w fun e w' => e = .returned (.bool (Val.fine ⟨k, i, s⟩)) ∧ Below w.heap.size w w' := by
  have hs : s.data.size = s.size := rfl
  rcases (show k = 0 ∨ k = 1 ∨ k = 2 ∨ 2 < k by omega) with rfl | rfl | rfl | h
  · go_enter Tryz.func8, Tryz.ntmps8
    go_wp2
    all_goals go_ret
    all_goals refine ⟨ret_bool ?_, below_alloc _ _⟩
    all_goals simp_all [Val.fine, toList_nil]
  · go_enter Tryz.func8, Tryz.ntmps8
    go_wp2
    all_goals go_ret
    all_goals refine ⟨ret_bool ?_, below_alloc _ _⟩
    all_goals simp_all [Val.fine, isEmpty_size]
  · go_enter Tryz.func8, Tryz.ntmps8
    go_wp2
    all_goals go_ret
    all_goals refine ⟨ret_bool ?_, below_alloc _ _⟩
    all_goals simp_all [Val.fine]
    all_goals omega
  · have h0 : ((k : Int) == 0) = false := by rw [beq_eq_false_iff_ne]; omega
    have h1 : ((k : Int) == 1) = false := by rw [beq_eq_false_iff_ne]; omega
    have h2 : ((k : Int) == 2) = false := by rw [beq_eq_false_iff_ne]; omega
    go_enter Tryz.func8, Tryz.ntmps8
    go_wp2
    all_goals go_ret
    all_goals refine ⟨ret_bool ?_, below_alloc _ _⟩
    have e0 : (k == 0) = false := by rw [beq_eq_false_iff_ne]; omega
    have e1 : (k == 1) = false := by rw [beq_eq_false_iff_ne]; omega
    have e2 : (k == 2) = false := by rw [beq_eq_false_iff_ne]; omega
    simp [Val.fine, e0, e1, e2]

theorem wrap_sum {a b : Int} (a0 : -9223372036854775808 ≤ a) (a1 : a ≤ 9223372036854775807) (b0 : -9223372036854775808 ≤ b) (b1 : b ≤ 9223372036854775807) :
    (decide (a < wrap64 (a + b)) == decide (0 < b)) = Val.fits (a + b) := by
  unfold wrap64 Val.fits
  rw [Bool.eq_iff_iff]
  simp only [beq_iff_eq, decide_eq_decide, decide_eq_true_eq]
  omega
theorem wrap_dif {a b : Int} (a0 : -9223372036854775808 ≤ a) (a1 : a ≤ 9223372036854775807) (b0 : -9223372036854775808 ≤ b) (b1 : b ≤ 9223372036854775807) :
    (decide (wrap64 (a - b) < a) == decide (0 < b)) = Val.fits (a - b) := by
  unfold wrap64 Val.fits
  rw [Bool.eq_iff_iff]
  simp only [beq_iff_eq, decide_eq_decide, decide_eq_true_eq]
  omega

/-- a product that went round is not undone by a quotient -/
theorem wrap_mul {a b : Int} (h : Val.fits (a * b) = false) (b0 : -9223372036854775808 ≤ b) (b1 : b ≤ 9223372036854775807) : (wrap64 (a * b)).tdiv b ≠ a := by
  intro e
  have h1 := Int.mul_tdiv_add_tmod (wrap64 (a * b)) b
  rw [e, Int.mul_comm] at h1
  have h2 : ((wrap64 (a * b)).tmod b).natAbs ≤ 9223372036854775808 := by
    rw [Int.natAbs_tmod]
    by_cases hb : b = 0
    · subst hb
      rw [Int.mul_zero] at h
      exact absurd h (by decide)
    · have := Nat.mod_lt (wrap64 (a * b)).natAbs (show 0 < b.natAbs by omega)
      omega
  have h3 := Val.fits_not h
  generalize a * b = p at *
  generalize hq : (wrap64 p).tmod b = q at *
  unfold wrap64 at h1
  omega
end Go.Proofs.YtjjfmmimmfihgabGreatDoor
