/-
  WHAT IS PROVED: contracts of the document's own functions on values: Check, Yes, Int, Truth, Cmp.
-/
import Derived.Test.YtnnimngbocabbaaDoorLawD
import Derived.IntWalk
namespace Go.Proofs.YtnnimngbocabbaaDoor
open Go.RowKit Go.Lib
set_option linter.unusedVariables false

theorem rcheck_any (k : Nat) (i : Int) (s : ByteArray) (w : World) (hk : k < 256) :
    Calls Tryd.prog 15 #[.agg #[.int .u8 (k : Int), .int .i64 i, .string s]] w fun e w' => e = .returned (.bool (Val.fine ⟨k, i, s⟩)) ∧ Below w.heap.size w w' := by
  have hs : s.data.size = s.size := rfl
  rcases (show k = 0 ∨ k = 1 ∨ k = 2 ∨ 2 < k by omega) with rfl | rfl | rfl | h
  · go_enter Tryd.func15, Tryd.ntmps15
    go_wp2
    all_goals go_ret
    all_goals refine ⟨ret_bool ?_, below_alloc _ _⟩
    all_goals simp_all [Val.fine, isEmpty_size]
  · go_enter Tryd.func15, Tryd.ntmps15
    go_wp2
    all_goals go_ret
    all_goals refine ⟨ret_bool ?_, below_alloc _ _⟩
    all_goals simp_all [Val.fine, isEmpty_size]
  · go_enter Tryd.func15, Tryd.ntmps15
    go_wp2
    all_goals go_ret
    all_goals refine ⟨ret_bool ?_, below_alloc _ _⟩
    all_goals simp_all [Val.fine]
    all_goals omega
  · have h0 : ((k : Int) == 0) = false := by rw [beq_eq_false_iff_ne]; omega
    have h1 : ((k : Int) == 1) = false := by rw [beq_eq_false_iff_ne]; omega
    have h2 : ((k : Int) == 2) = false := by rw [beq_eq_false_iff_ne]; omega
    go_enter Tryd.func15, Tryd.ntmps15
    go_wp2
    all_goals go_ret
    all_goals refine ⟨ret_bool ?_, below_alloc _ _⟩
    have e0 : (k == 0) = false := by rw [beq_eq_false_iff_ne]; omega
    have e1 : (k == 1) = false := by rw [beq_eq_false_iff_ne]; omega
    have e2 : (k == 2) = false := by rw [beq_eq_false_iff_ne]; omega
    simp [Val.fine, e0, e1, e2]
theorem rint_any (i : Int) (w : World) :
    Calls Tryd.prog 51 #[.int .i64 i] w fun e w' => e = .returned (.agg #[.int .u8 1, .int .i64 i, .string ⟨#[]⟩]) ∧ Below w.heap.size w w' := by
  go_enter Tryd.func51, Tryd.ntmps51
  go_wp2
  exact bodyPost_ret (v := .agg #[.int .u8 1, .int .i64 i, .string ⟨#[]⟩]) (by simp [results, go_sem]) rfl ⟨rfl, below_alloc _ _⟩
theorem ryes_any (b : Bool) (w : World) :
    Calls Tryd.prog 52 #[.bool b] w fun e w' => e = .returned (.agg #[.int .u8 1, .int .i64 (bitI b), .string ⟨#[]⟩]) ∧ Below w.heap.size w w' := by
  cases b
  · go_enter Tryd.func52, Tryd.ntmps52
    go_wp2_with (go_at_call 51; refine (rint_any _ _).mono ?_; rintro e w1 ⟨rfl, hb⟩; obtain ⟨hc, hf⟩ := bcell hb; have hz := hb.size)
    refine bodyPost_ret (v := .agg #[.int .u8 1, .int .i64 0, .string ⟨#[]⟩]) (by simp [results, go_sem, hc]) rfl ⟨rfl, ?_⟩
    exact (((below_step (Below.refl _ _) hb).setCell (Nat.le_refl _) _).setCell (Nat.le_refl _) _).setCell (Nat.le_refl _) _
  · go_enter Tryd.func52, Tryd.ntmps52
    go_wp2_with (go_at_call 51; refine (rint_any _ _).mono ?_; rintro e w1 ⟨rfl, hb⟩; obtain ⟨hc, hf⟩ := bcell hb; have hz := hb.size)
    refine bodyPost_ret (v := .agg #[.int .u8 1, .int .i64 1, .string ⟨#[]⟩]) (by simp [results, go_sem, hc]) rfl ⟨rfl, ?_⟩
    exact (((below_step (Below.refl _ _) hb).setCell (Nat.le_refl _) _).setCell (Nat.le_refl _) _).setCell (Nat.le_refl _) _

theorem rtruth_any (k : Nat) (i : Int) (s : ByteArray) (w : World) (hk : k < 256) :
    Calls Tryd.prog 13 #[.agg #[.int .u8 (k : Int), .int .i64 i, .string s]] w (Tells (Val.truth ⟨k, i, s⟩) w) := by
  by_cases hf : Val.fine ⟨k, i, s⟩ = true
  · have hr : Val.truth ⟨k, i, s⟩ = if k = 2 then (false, false, 11) else (!decide (i = 0), k == 1, 0) := if_neg (by rw [hf]; simp)
    rw [hr]
    clear hr
    by_cases h2 : k = 2
    · subst h2
      rw [if_pos rfl]
      go_enter Tryd.func13, Tryd.ntmps13
      go_wp2_with (go_at_call 15; refine (rcheck_any _ _ _ _ hk).mono ?_; rw [hf]; rintro e w1 ⟨rfl, hb⟩; obtain ⟨hc, hg⟩ := bcell hb)
      go_ret3
      exact ⟨rfl, below_step (Below.refl _ _) hb⟩
    · have h2' : ((k : Int) == 2) = false := by rw [beq_eq_false_iff_ne]; omega
      rw [if_neg h2]
      go_enter Tryd.func13, Tryd.ntmps13
      go_wp2_with (go_at_call 15; refine (rcheck_any _ _ _ _ hk).mono ?_; rw [hf]; rintro e w1 ⟨rfl, hb⟩; obtain ⟨hc, hg⟩ := bcell hb)
      have c0 := (hc w.heap.size 0 (by simp)).trans (cell_of_block (heap_alloc_new w (.cells #[.int .u8 (k : Int), .int .i64 i, .string s] 24)) 0)
      have c1 := (hc w.heap.size 1 (by simp)).trans (cell_of_block (heap_alloc_new w (.cells #[.int .u8 (k : Int), .int .i64 i, .string s] 24)) 1)
      simp at c0 c1
      clear hc hg
      go_quiet (fail)
      go_wp2
      go_ret3
      refine ⟨?_, below_drewN (below_step (Below.refl _ _) hb) _⟩
      have e1 : (i != 0) = !decide (i = 0) := by rw [Bool.eq_iff_iff]; simp
      have e2 : ((k : Int) == 1) = (k == 1) := by rw [Bool.eq_iff_iff]; simp; omega
      simp [e1, e2]
  · rw [Bool.not_eq_true] at hf
    have hr : Val.truth ⟨k, i, s⟩ = (false, false, 1) := if_pos hf
    rw [hr]
    clear hr
    go_enter Tryd.func13, Tryd.ntmps13
    go_wp2_with (go_at_call 15; refine (rcheck_any _ _ _ _ hk).mono ?_; rw [hf]; rintro e w1 ⟨rfl, hb⟩; obtain ⟨hc, hg⟩ := bcell hb)
    go_ret3
    exact ⟨rfl, below_step (Below.refl _ _) hb⟩

theorem cmp_less : ∀ (a b : List UInt8), compareBytes a b = if Op.bytesLess a b = true then -1 else if a = b then 0 else 1
  | [], [] => rfl
  | [], _ :: _ => rfl
  | _ :: _, [] => by simp [compareBytes, Op.bytesLess]
  | a :: x, b :: y => by
    unfold compareBytes Op.bytesLess
    rw [cmp_less x y]
    by_cases h1 : a < b
    · simp [h1]
    · by_cases h2 : b < a
      · have h3 : ¬ a = b := fun h => by subst h; exact h1 h2
        simp [h1, h2, h3]
      · have h3 : a = b := UInt8.le_antisymm (UInt8.not_lt.1 h2) (UInt8.not_lt.1 h1)
        subst h3
        simp [h1]
theorem cmpS_less (s t : ByteArray) : cmpS s t = if Op.bytesLess s.toList t.toList = true then -1 else if s.toList = t.toList then 0 else 1 := by
  rw [ByteArray.toList_eq, ByteArray.toList_eq]
  exact cmp_less _ _
set_option maxRecDepth 100000 in
set_option maxHeartbeats 2000000 in
theorem rcmp_any (k : Nat) (i : Int) (s : ByteArray) (l : Nat) (j : Int) (t : ByteArray) (w : World) :
    Calls Tryd.prog 17 #[.agg #[.int .u8 (k : Int), .int .i64 i, .string s], .agg #[.int .u8 (l : Int), .int .i64 j, .string t]] w fun e w' => e = .returned (.int .i64 (Val.cmp ⟨k, i, s⟩ ⟨l, j, t⟩)) ∧ Below w.heap.size w w' := by
  have hr : Val.cmp ⟨k, i, s⟩ ⟨l, j, t⟩ = if k < l then -1 else if l < k then 1 else if i < j then -1 else if j < i then 1 else cmpS s t := rfl
  by_cases h1 : k < l
  · rw [if_pos h1] at hr
    rw [hr]
    clear hr
    have e1 : decide ((k : Int) < (l : Int)) = true := by rw [decide_eq_true_iff]; omega
    go_enter Tryd.func17, Tryd.ntmps17
    go_wp2
    go_ret
    exact ⟨rfl, (below_alloc _ _).alloc (by simp) _⟩
  · rw [if_neg h1] at hr
    by_cases h2 : l < k
    · rw [if_pos h2] at hr
      rw [hr]
      clear hr
      have e1 : decide ((k : Int) < (l : Int)) = false := by rw [decide_eq_false_iff_not]; omega
      have e2 : ((k : Int) == (l : Int)) = false := by rw [beq_eq_false_iff_ne]; omega
      go_enter Tryd.func17, Tryd.ntmps17
      go_wp2
      go_ret
      exact ⟨rfl, (below_alloc _ _).alloc (by simp) _⟩
    · obtain rfl : k = l := by omega
      rw [if_neg h2] at hr
      by_cases h3 : i < j
      · rw [if_pos h3] at hr
        rw [hr]
        clear hr
        have e3 : decide (i < j) = true := by rw [decide_eq_true_iff]; omega
        go_enter Tryd.func17, Tryd.ntmps17
        go_wp2
        go_ret
        exact ⟨rfl, (below_alloc _ _).alloc (by simp) _⟩
      · rw [if_neg h3] at hr
        by_cases h4 : j < i
        · rw [if_pos h4] at hr
          rw [hr]
          clear hr
          have e3 : decide (i < j) = false := by rw [decide_eq_false_iff_not]; omega
          have e4 : (i == j) = false := by rw [beq_eq_false_iff_ne]; omega
          go_enter Tryd.func17, Tryd.ntmps17
          go_wp2
          go_ret
          exact ⟨rfl, (below_alloc _ _).alloc (by simp) _⟩
        · obtain rfl : i = j := by omega
          rw [if_neg h4] at hr
          rw [hr]
          clear hr
          go_enter Tryd.func17, Tryd.ntmps17
          go_wp2
          all_goals go_ret
          all_goals refine ⟨?_, (below_alloc _ _).alloc (by simp) _⟩
          all_goals rw [cmpS_less]
          all_goals simp_all
end Go.Proofs.YtnnimngbocabbaaDoor
