/-
  WHAT IS PROVED: contract of values.Cmp, where the library's decimal digits are not asked.
-/
import Derived.Test.YtjjfmmimmfihgabGreatDoorRowE
import Derived.StillTailTactics
import Derived.Lib.Small
namespace Go.Proofs.YtjjfmmimmfihgabGreatDoor
open Go.RowKit Go.Lib

theorem cmpK_any (a b : Int) (w : World) :
    Calls Tryz.prog 44 #[.int .u8 a, .int .u8 b] w fun e w' => e = .returned (.int .i64 (compareInt a b)) ∧ w = w' := by
  unfold compareInt
  rcases (show a < b ∨ a = b ∨ b < a by omega) with h | h | h
  · rw [if_pos h]
    go_enter Tryz.func44, Tryz.ntmps44
    go_wp2
    go_ret
    exact ⟨rfl, rfl⟩
  · subst h
    rw [if_neg (by omega), if_neg (by omega)]
    go_enter Tryz.func44, Tryz.ntmps44
    go_wp2
    go_ret
    exact ⟨rfl, rfl⟩
  · rw [if_neg (by omega), if_pos h]
    have h' : ¬ a < b := by omega
    go_enter Tryz.func44, Tryz.ntmps44
    go_wp2
    go_ret
    exact ⟨rfl, rfl⟩
theorem cmpI_any (a b : Int) (w : World) :
    Calls Tryz.prog 45 #[.int .i64 a, .int .i64 b] w fun e w' => e = .returned (.int .i64 (compareInt a b)) ∧ w = w' := by
  unfold compareInt
  rcases (show a < b ∨ a = b ∨ b < a by omega) with h | h | h
  · rw [if_pos h]
    go_enter Tryz.func45, Tryz.ntmps45
    go_wp2
    go_ret
    exact ⟨rfl, rfl⟩
  · subst h
    rw [if_neg (by omega), if_neg (by omega)]
    go_enter Tryz.func45, Tryz.ntmps45
    go_wp2
    go_ret
    exact ⟨rfl, rfl⟩
  · rw [if_neg (by omega), if_pos h]
    have h' : ¬ a < b := by omega
    go_enter Tryz.func45, Tryz.ntmps45
    go_wp2
    go_ret
    exact ⟨rfl, rfl⟩
def orI (a b c : Int) : Int := if a = 0 then (if b = 0 then c else b) else a
theorem or_any (B : Nat) (a b c : Int) (w : World) (h0 : w.cell? ⟨B, 0, none⟩ = some (.int .i64 a)) (h1 : w.cell? ⟨B, 1, none⟩ = some (.int .i64 b)) (h2 : w.cell? ⟨B, 2, none⟩ = some (.int .i64 c)) :
    Calls Tryz.prog 43 #[.slice (some ⟨B, 0, none⟩) 3 3] w fun e w' => e = .returned (.int .i64 (orI a b c)) ∧ w = w' := by
  unfold orI
  by_cases ha : a = 0
  · subst ha
    rw [if_pos rfl]
    by_cases hb : b = 0
    · subst hb
      rw [if_pos rfl]
      by_cases hc : c = 0
      · subst hc
        go_enter Tryz.func43, Tryz.ntmps43
        go_wp2
        refine wp_loop_rounds 4 ?_
        rw [rounds_succ]; go_wp2
        rw [rounds_succ]; go_wp2
        rw [rounds_succ]; go_wp2
        rw [rounds_succ]; go_wp2
        go_ret
        exact ⟨rfl, rfl⟩
      · have hc' : (c == 0) = false := by simpa using hc
        go_enter Tryz.func43, Tryz.ntmps43
        go_wp2
        refine wp_loop_rounds 3 ?_
        rw [rounds_succ]; go_wp2
        rw [rounds_succ]; go_wp2
        rw [rounds_succ]; go_wp2
        go_ret
        exact ⟨rfl, rfl⟩
    · rw [if_neg hb]
      have hb' : (b == 0) = false := by simpa using hb
      go_enter Tryz.func43, Tryz.ntmps43
      go_wp2
      refine wp_loop_rounds 2 ?_
      rw [rounds_succ]; go_wp2
      rw [rounds_succ]; go_wp2
      go_ret
      exact ⟨rfl, rfl⟩
  · rw [if_neg ha]
    have ha' : (a == 0) = false := by simpa using ha
    go_enter Tryz.func43, Tryz.ntmps43
    go_wp2
    refine wp_loop_rounds 1 ?_
    rw [rounds_succ]; go_wp2
    go_ret
    exact ⟨rfl, rfl⟩
theorem cmp_or (k : Nat) (i : Int) (s : ByteArray) (l : Nat) (j : Int) (t : ByteArray) : orI (compareInt k l) (compareInt i j) (compareBytes s.data.toList t.data.toList) = Val.cmp ⟨k, i, s⟩ ⟨l, j, t⟩ := by
  unfold orI compareInt Val.cmp cmpS
  by_cases h1 : k < l
  · simp [h1]
  · by_cases h2 : l < k
    · simp [h1, h2]
    · by_cases h3 : i < j
      · simp [h1, h2, h3]
      · by_cases h4 : j < i
        · simp [h1, h2, h3, h4]
        · simp [h1, h2, h3, h4]

theorem compare_any (a b : ByteArray) (w : World) :
    Calls Tryz.prog 46 #[.string a, .string b] w fun e w' => e = .returned (.int .i64 (compareBytes a.data.toList b.data.toList)) ∧ w = w' :=
  (Tryz.strings_Compare a b w).mono fun _ _ ⟨h, h'⟩ => ⟨h, h'.symm⟩

theorem block_two (w : World) (o o' : Obj) : ((w.alloc o).alloc o').heap[w.heap.size]? = some o ∧ ((w.alloc o).alloc o').heap[w.heap.size + 1]? = some o' := by
  refine ⟨by rw [Below.heap_alloc _ _ _ (by simp)]; exact heap_alloc_new w _, ?_⟩
  have h := heap_alloc_new (w.alloc o) o'
  rw [show (w.alloc o).heap.size = w.heap.size + 1 by simp] at h
  exact h
set_option maxRecDepth 100000 in
set_option maxHeartbeats 2000000 in
theorem cmp_any (k : Nat) (i : Int) (s : ByteArray) (l : Nat) (j : Int) (t : ByteArray) (w : World) :
    Calls Tryz.prog 17 #[.agg #[.int .u8 (k : Int), .int .i64 i, .string s], .agg #[.int .u8 (l : Int), .int .i64 j, .string t]] w fun e w' => e = .returned (.int .i64 (Val.cmp ⟨k, i, s⟩ ⟨l, j, t⟩)) ∧ Below w.heap.size w w' := by
  rw [← cmp_or]
  go_enter Tryz.func17, Tryz.ntmps17
  go_wp2
  obtain ⟨W, hW⟩ : ∃ W, W = (w.alloc (.cells #[.int .u8 (k : Int), .int .i64 i, .string s] 25)).alloc (.cells #[.int .u8 (l : Int), .int .i64 j, .string t] 25) := ⟨_, rfl⟩
  rw [← hW]
  refine wp_region_still_tail 15 (by kernel_rfl) (by kernel_rfl) ?_
  simp only [List.take_succ_cons, List.take_zero, List.drop_succ_cons, List.drop_zero]
  obtain ⟨W', hW'⟩ : ∃ W' : World, W' = { W with drawn := W.drawn + 1 } := ⟨_, rfl⟩
  rw [← hW']
  have hb : Below w.heap.size w W' := by rw [hW', hW]; exact ((below_alloc w _).alloc (by simp) _).drew
  have hc : W'.heap[w.heap.size]? = some (.cells #[.int .u8 (k : Int), .int .i64 i, .string s] 25 (0, 0)) ∧ W'.heap[w.heap.size + 1]? = some (.cells #[.int .u8 (l : Int), .int .i64 j, .string t] 25 (0, 0)) := by
    rw [hW']
    show W.heap[w.heap.size]? = _ ∧ W.heap[w.heap.size + 1]? = _
    rw [hW]
    exact block_two w _ _
  have c0 := cell_of_block hc.1 0
  have c1 := cell_of_block hc.1 1
  have c2 := cell_of_block hc.1 2
  have d0 := cell_of_block hc.2 0
  have d1 := cell_of_block hc.2 1
  have d2 := cell_of_block hc.2 2
  simp at c0 c1 c2 d0 d1 d2
  clear hW' hW hc
  iterate 4 still_step
  still_call ((cmpK_any _ _ _).mono fun _ _ ⟨h, h'⟩ => ⟨h, h'.symm⟩)
  iterate 4 still_step
  still_call ((cmpI_any _ _ _).mono fun _ _ ⟨h, h'⟩ => ⟨h, h'.symm⟩)
  iterate 4 still_step
  still_call ((compare_any _ _ _).mono fun _ _ ⟨h, h'⟩ => ⟨h, h'.symm⟩)
  refine wpStill_nil ?_
  have hnew := heap_alloc_new W' (.cells #[.int .i64 (compareInt k l), .int .i64 (compareInt i j), .int .i64 (compareBytes s.data.toList t.data.toList)] 3)
  go_wp2_with (go_at_call 43; refine (or_any _ _ _ _ _ (cell_of_block hnew 0) (cell_of_block hnew 1) (cell_of_block hnew 2)).mono ?_; rintro e w1 ⟨rfl, rfl⟩)
  go_ret
  exact ⟨rfl, hb.alloc hb.size _⟩
theorem cmp5_is (k : Nat) (i : Int) (s : ByteArray) (l : Nat) (j : Int) (t : ByteArray) (c : Int) (h : Val.cmp ⟨k, i, s⟩ ⟨l, j, t⟩ = c) (w : World) :
    Calls Tryz.prog 17 #[.agg #[.int .u8 (k : Int), .int .i64 i, .string s], .agg #[.int .u8 (l : Int), .int .i64 j, .string t]] w fun e w' => e = .returned (.int .i64 c) ∧ Below w.heap.size w w' := by
  rw [← h]; exact cmp_any k i s l j t w
end Go.Proofs.YtjjfmmimmfihgabGreatDoor
