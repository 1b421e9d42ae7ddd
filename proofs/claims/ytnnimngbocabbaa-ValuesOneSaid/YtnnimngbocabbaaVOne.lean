/-
  WHAT IS PROVED: ValuesOne's walk: the document's own One, and what the program's One tells, are one.
-/
import Derived.Test.YtnnimngbocabbaaOne
import Derived.IntWalk
namespace Go.Proofs.Ytnnimngbocabbaa
open Go.RowKit Go.Lib
set_option linter.unusedVariables false

theorem gives_of {r : Val × Nat} {w w' : World} {e : Ending} (he : e = .returned (.tuple #[.agg #[.int .u8 (r.1.k : Int), .int .i64 r.1.i, .string r.1.s], .int .i64 (r.2 : Int)])) (hb : Below w.heap.size w w') : Gives r w e w' := ⟨he, hb⟩
theorem fam_n1 (w : World) (a : Obj) : Fam w [(w.heap.size, a)] (w.alloc a) :=
  Fam.add (L := []) (w := w) ⟨Below.refl _ _, fun _ h => by cases h⟩ (below_alloc w a) (Nat.le_refl _) (heap_alloc_new w a)
theorem duo_below {W w' w'' : World} (h : Below W.heap.size W w') (h2 : Below w'.heap.size w' w'') : Below W.heap.size W w'' := h.trans (h2.mono h.size)
theorem rcheck_any (k : Nat) (i : Int) (s : ByteArray) (w : World) (hk : k < 256) :
    Calls Try.prog 16 #[.agg #[.int .u8 (k : Int), .int .i64 i, .string s]] w fun e w' => e = .returned (.bool (Val.fine ⟨k, i, s⟩)) ∧ Below w.heap.size w w' := by
  have hs : s.data.size = s.size := rfl
  rcases (show k = 0 ∨ k = 1 ∨ k = 2 ∨ 2 < k by omega) with rfl | rfl | rfl | h
  · go_enter Try.func16, Try.ntmps16
    go_wp2
    all_goals go_ret
    all_goals refine ⟨ret_bool ?_, below_alloc _ _⟩
    all_goals simp_all [Val.fine, toList_nil, isEmpty_size]
  · go_enter Try.func16, Try.ntmps16
    go_wp2
    all_goals go_ret
    all_goals refine ⟨ret_bool ?_, below_alloc _ _⟩
    all_goals simp_all [Val.fine, isEmpty_size]
  · go_enter Try.func16, Try.ntmps16
    go_wp2
    all_goals go_ret
    all_goals refine ⟨ret_bool ?_, below_alloc _ _⟩
    all_goals simp_all [Val.fine]
    all_goals omega
  · have h0 : ((k : Int) == 0) = false := by rw [beq_eq_false_iff_ne]; omega
    have h1 : ((k : Int) == 1) = false := by rw [beq_eq_false_iff_ne]; omega
    have h2 : ((k : Int) == 2) = false := by rw [beq_eq_false_iff_ne]; omega
    go_enter Try.func16, Try.ntmps16
    go_wp2
    all_goals go_ret
    all_goals refine ⟨ret_bool ?_, below_alloc _ _⟩
    have e0 : (k == 0) = false := by rw [beq_eq_false_iff_ne]; omega
    have e1 : (k == 1) = false := by rw [beq_eq_false_iff_ne]; omega
    have e2 : (k == 2) = false := by rw [beq_eq_false_iff_ne]; omega
    simp [Val.fine, e0, e1, e2]
theorem rint_any (i : Int) (w : World) :
    Calls Try.prog 18 #[.int .i64 i] w fun e w' => e = .returned (.agg #[.int .u8 1, .int .i64 i, .string ⟨#[]⟩]) ∧ Below w.heap.size w w' := by
  go_enter Try.func18, Try.ntmps18
  go_wp2
  exact bodyPost_ret (v := .agg #[.int .u8 1, .int .i64 i, .string ⟨#[]⟩]) (by simp [results, go_sem]) rfl ⟨rfl, below_alloc _ _⟩
theorem ryes_any (b : Bool) (w : World) :
    Calls Try.prog 17 #[.bool b] w fun e w' => e = .returned (.agg #[.int .u8 1, .int .i64 (bitI b), .string ⟨#[]⟩]) ∧ Below w.heap.size w w' := by
  cases b
  · go_enter Try.func17, Try.ntmps17
    go_wp2_with (go_at_call 18; refine (rint_any _ _).mono ?_; rintro e w1 ⟨rfl, hb⟩; obtain ⟨hc, hf⟩ := bcell hb; have hz := hb.size)
    refine bodyPost_ret (v := .agg #[.int .u8 1, .int .i64 0, .string ⟨#[]⟩]) (by simp [results, go_sem, hc]) rfl ⟨rfl, ?_⟩
    exact (((below_step (Below.refl _ _) hb).setCell (Nat.le_refl _) _).setCell (Nat.le_refl _) _).setCell (Nat.le_refl _) _
  · go_enter Try.func17, Try.ntmps17
    go_wp2_with (go_at_call 18; refine (rint_any _ _).mono ?_; rintro e w1 ⟨rfl, hb⟩; obtain ⟨hc, hf⟩ := bcell hb; have hz := hb.size)
    refine bodyPost_ret (v := .agg #[.int .u8 1, .int .i64 1, .string ⟨#[]⟩]) (by simp [results, go_sem, hc]) rfl ⟨rfl, ?_⟩
    exact (((below_step (Below.refl _ _) hb).setCell (Nat.le_refl _) _).setCell (Nat.le_refl _) _).setCell (Nat.le_refl _) _
theorem long1 (B : Nat) (a : ByteArray) (ba : a.size ≤ 140737488351232) (w : World) (ha : w.cell? ⟨B, 2, none⟩ = some (.string a)) :
    Calls Try.prog 4 #[.slice (some ⟨B, 0, none⟩) 1 1] w fun e w' => e = .returned (.bool (decide ((20000 : Int) < (a.size : Int)))) ∧ w = w' := by
  go_enter Try.func4, Try.ntmps4
  go_wp2
  refine wp_loop_rounds 2 ?_
  rw [rounds_succ]; go_wp2
  rw [rounds_succ]; go_wp2
  go_ret
  exact ⟨rfl, rfl⟩
theorem long1_new (x0 x1 : Value) (s : ByteArray) (hs : s.size ≤ 140737488351232) (w : World) (r : Bool) (hr : decide ((20000 : Int) < (s.size : Int)) = r) :
    Calls Try.prog 4 #[.slice (some ⟨w.heap.size, 0, none⟩) 1 1] (w.alloc (.cells #[x0, x1, .string s] 25)) fun e w' => e = .returned (.bool r) ∧ Below w.heap.size w w' := by
  subst hr
  have h := heap_alloc_new w (.cells #[x0, x1, .string s] 25)
  exact (long1 w.heap.size s hs _ (cell_of_block h 2)).mono fun _ _ ⟨he, hw⟩ => ⟨he, by subst hw; exact below_alloc _ _⟩
set_option maxRecDepth 100000 in
set_option maxHeartbeats 4000000 in
theorem rone1_not (k : Nat) (i : Int) (s : ByteArray) (hk : k < 256) (w : World) (hfa : Val.fine ⟨k, i, s⟩ = false) (hr : Val.one 1 ⟨k, i, s⟩ = (⟨0, 0, ⟨#[]⟩⟩, 1)) :
    Calls Try.prog 6 #[.int .u8 1, .agg #[.int .u8 (k : Int), .int .i64 i, .string s]] w (Gives (Val.one 1 ⟨k, i, s⟩) w) := by
  rw [hr]
  clear hr
  obtain ⟨W, hW⟩ : ∃ W, W = (w.alloc (.cells #[.int .u8 (k : Int), .int .i64 i, .string s] 25)).alloc (.cells #[.int .u8 0, .int .i64 0, .string ⟨#[]⟩] 25) := ⟨_, rfl⟩
  have hD : ∀ w', Below W.heap.size W w' → _ := fun w' h => duo_cells (w := w) (w' := w') (by rw [hW] at h; exact h) rfl rfl
  have HD := Lib.hid hD
  have HB : Hid (∀ w', Below W.heap.size W w' → Below w.heap.size w w') := Lib.hid (fun w' h => below_two (by rw [hW] at h; exact h))
  clear hD
  go_enter Try.func6, Try.ntmps6
  go_wp2_with fail
  rw [← hW]
  clear hW
  refine (rcheck_any k i s _ hk).mono ?_
  rw [hfa]
  rintro e v1 ⟨rfl, hb⟩
  have H1 := Lib.hid hb
  clear hb
  obtain ⟨⟨s0, s1, s2⟩, ⟨r0, r1, r2⟩, ⟨f0, f1, f2⟩, y2⟩ := HD.out _ H1.out
  go_wp2_with (fail)
  exact bodyPost_ret (v := .tuple #[.agg #[.int .u8 0, .int .i64 0, .string ⟨#[]⟩], .int .i64 1]) (by simp [results, go_sem, r0, r1, r2]) rfl (gives_of rfl (below_set3 (b := w.heap.size + 1) (HB.out _ H1.out) (by omega) _ _ _))
set_option maxRecDepth 100000 in
set_option maxHeartbeats 4000000 in
theorem rone1_nil  (w : World) (hfa : Val.fine ⟨0, 0, ⟨#[]⟩⟩ = true) (hr : Val.one 1 ⟨0, 0, ⟨#[]⟩⟩ = (⟨0, 0, ⟨#[]⟩⟩, 0)) :
    Calls Try.prog 6 #[.int .u8 1, .agg #[.int .u8 0, .int .i64 0, .string ⟨#[]⟩]] w (Gives (Val.one 1 ⟨0, 0, ⟨#[]⟩⟩) w) := by
  rw [hr]
  clear hr
  obtain ⟨W, hW⟩ : ∃ W, W = (w.alloc (.cells #[.int .u8 0, .int .i64 0, .string ⟨#[]⟩] 25)).alloc (.cells #[.int .u8 0, .int .i64 0, .string ⟨#[]⟩] 25) := ⟨_, rfl⟩
  have hD : ∀ w', Below W.heap.size W w' → _ := fun w' h => duo_cells (w := w) (w' := w') (by rw [hW] at h; exact h) rfl rfl
  have HD := Lib.hid hD
  have HB : Hid (∀ w', Below W.heap.size W w' → Below w.heap.size w w') := Lib.hid (fun w' h => below_two (by rw [hW] at h; exact h))
  clear hD
  go_enter Try.func6, Try.ntmps6
  go_wp2_with fail
  rw [← hW]
  clear hW
  refine (rcheck_any 0 0 ⟨#[]⟩ _ (by omega)).mono ?_
  rw [hfa]
  rintro e v1 ⟨rfl, hb⟩
  have H1 := Lib.hid hb
  clear hb
  obtain ⟨⟨s0, s1, s2⟩, ⟨r0, r1, r2⟩, ⟨f0, f1, f2⟩, y2⟩ := HD.out _ H1.out
  go_wp2_with (fail)
  exact bodyPost_ret (v := .tuple #[.agg #[.int .u8 0, .int .i64 0, .string ⟨#[]⟩], .int .i64 0]) (by simp [results, go_sem, r0, r1, r2]) rfl (gives_of rfl (below_set3 (b := w.heap.size + 1) (HB.out _ H1.out) (by omega) _ _ _))
set_option maxRecDepth 100000 in
set_option maxHeartbeats 4000000 in
theorem rone1_txt (s : ByteArray) (w : World) (hfa : Val.fine ⟨2, 0, s⟩ = true) (hr : Val.one 1 ⟨2, 0, s⟩ = (⟨0, 0, ⟨#[]⟩⟩, 11)) :
    Calls Try.prog 6 #[.int .u8 1, .agg #[.int .u8 2, .int .i64 0, .string s]] w (Gives (Val.one 1 ⟨2, 0, s⟩) w) := by
  rw [hr]
  clear hr
  obtain ⟨W, hW⟩ : ∃ W, W = (w.alloc (.cells #[.int .u8 2, .int .i64 0, .string s] 25)).alloc (.cells #[.int .u8 0, .int .i64 0, .string ⟨#[]⟩] 25) := ⟨_, rfl⟩
  have hD : ∀ w', Below W.heap.size W w' → _ := fun w' h => duo_cells (w := w) (w' := w') (by rw [hW] at h; exact h) rfl rfl
  have HD := Lib.hid hD
  have HB : Hid (∀ w', Below W.heap.size W w' → Below w.heap.size w w') := Lib.hid (fun w' h => below_two (by rw [hW] at h; exact h))
  clear hD
  go_enter Try.func6, Try.ntmps6
  go_wp2_with fail
  rw [← hW]
  clear hW
  refine (rcheck_any 2 0 s _ (by omega)).mono ?_
  rw [hfa]
  rintro e v1 ⟨rfl, hb⟩
  have H1 := Lib.hid hb
  clear hb
  obtain ⟨⟨s0, s1, s2⟩, ⟨r0, r1, r2⟩, ⟨f0, f1, f2⟩, y2⟩ := HD.out _ H1.out
  go_wp2_with (fail)
  exact bodyPost_ret (v := .tuple #[.agg #[.int .u8 0, .int .i64 0, .string ⟨#[]⟩], .int .i64 11]) (by simp [results, go_sem, r0, r1, r2]) rfl (gives_of rfl (below_set3 (b := w.heap.size + 1) (HB.out _ H1.out) (by omega) _ _ _))
set_option maxRecDepth 100000 in
set_option maxHeartbeats 4000000 in
theorem rone1_least  (w : World) (hfa : Val.fine ⟨1, (-9223372036854775808), ⟨#[]⟩⟩ = true) (hr : Val.one 1 ⟨1, (-9223372036854775808), ⟨#[]⟩⟩ = (⟨0, 0, ⟨#[]⟩⟩, 12)) :
    Calls Try.prog 6 #[.int .u8 1, .agg #[.int .u8 1, .int .i64 (-9223372036854775808), .string ⟨#[]⟩]] w (Gives (Val.one 1 ⟨1, (-9223372036854775808), ⟨#[]⟩⟩) w) := by
  rw [hr]
  clear hr
  obtain ⟨W, hW⟩ : ∃ W, W = (w.alloc (.cells #[.int .u8 1, .int .i64 (-9223372036854775808), .string ⟨#[]⟩] 25)).alloc (.cells #[.int .u8 0, .int .i64 0, .string ⟨#[]⟩] 25) := ⟨_, rfl⟩
  have hD : ∀ w', Below W.heap.size W w' → _ := fun w' h => duo_cells (w := w) (w' := w') (by rw [hW] at h; exact h) rfl rfl
  have HD := Lib.hid hD
  have HB : Hid (∀ w', Below W.heap.size W w' → Below w.heap.size w w') := Lib.hid (fun w' h => below_two (by rw [hW] at h; exact h))
  clear hD
  go_enter Try.func6, Try.ntmps6
  go_wp2_with fail
  rw [← hW]
  clear hW
  refine (rcheck_any 1 (-9223372036854775808) ⟨#[]⟩ _ (by omega)).mono ?_
  rw [hfa]
  rintro e v1 ⟨rfl, hb⟩
  have H1 := Lib.hid hb
  clear hb
  obtain ⟨⟨s0, s1, s2⟩, ⟨r0, r1, r2⟩, ⟨f0, f1, f2⟩, y2⟩ := HD.out _ H1.out
  go_wp2_with (fail)
  exact bodyPost_ret (v := .tuple #[.agg #[.int .u8 0, .int .i64 0, .string ⟨#[]⟩], .int .i64 12]) (by simp [results, go_sem, r0, r1, r2]) rfl (gives_of rfl (below_set3 (b := w.heap.size + 1) (HB.out _ H1.out) (by omega) _ _ _))
set_option maxRecDepth 100000 in
set_option maxHeartbeats 4000000 in
theorem rone1_num (i : Int) (hne : (i == -9223372036854775808) = false) (hw : IntKind.i64.wrap (-i) = -i) (w : World) (hfa : Val.fine ⟨1, i, ⟨#[]⟩⟩ = true) (hr : Val.one 1 ⟨1, i, ⟨#[]⟩⟩ = (⟨1, (-i), ⟨#[]⟩⟩, 0)) :
    Calls Try.prog 6 #[.int .u8 1, .agg #[.int .u8 1, .int .i64 i, .string ⟨#[]⟩]] w (Gives (Val.one 1 ⟨1, i, ⟨#[]⟩⟩) w) := by
  rw [hr]
  clear hr
  obtain ⟨W, hW⟩ : ∃ W, W = (w.alloc (.cells #[.int .u8 1, .int .i64 i, .string ⟨#[]⟩] 25)).alloc (.cells #[.int .u8 0, .int .i64 0, .string ⟨#[]⟩] 25) := ⟨_, rfl⟩
  have hD : ∀ w', Below W.heap.size W w' → _ := fun w' h => duo_cells (w := w) (w' := w') (by rw [hW] at h; exact h) rfl rfl
  have HD := Lib.hid hD
  have HB : Hid (∀ w', Below W.heap.size W w' → Below w.heap.size w w') := Lib.hid (fun w' h => below_two (by rw [hW] at h; exact h))
  clear hD
  go_enter Try.func6, Try.ntmps6
  go_wp2_with fail
  rw [← hW]
  clear hW
  refine (rcheck_any 1 i ⟨#[]⟩ _ (by omega)).mono ?_
  rw [hfa]
  rintro e v1 ⟨rfl, hb⟩
  have H1 := Lib.hid hb
  clear hb
  obtain ⟨⟨s0, s1, s2⟩, ⟨r0, r1, r2⟩, ⟨f0, f1, f2⟩, y2⟩ := HD.out _ H1.out
  go_wp2_with ((go_at_call 18; refine (rint_any _ _).mono ?_; rintro e v2 ⟨rfl, hb⟩; have H2 := Lib.hid (duo_below H1.out hb); clear hb s0 s1 s2 r0 r1 r2 f0 f1 f2 y2; obtain ⟨⟨s0, s1, s2⟩, ⟨r0, r1, r2⟩, ⟨f0, f1, f2⟩, y2⟩ := HD.out _ H2.out))
  exact bodyPost_ret (v := .tuple #[.agg #[.int .u8 1, .int .i64 (-i), .string ⟨#[]⟩], .int .i64 0]) (by simp [results, go_sem, r0, r1, r2]) rfl (gives_of rfl (below_set3 (b := w.heap.size + 1) (HB.out _ H2.out) (by omega) _ _ _))
set_option maxRecDepth 100000 in
set_option maxHeartbeats 4000000 in
theorem rone2_not (k : Nat) (i : Int) (s : ByteArray) (hk : k < 256) (w : World) (hfa : Val.fine ⟨k, i, s⟩ = false) (hr : Val.one 2 ⟨k, i, s⟩ = (⟨0, 0, ⟨#[]⟩⟩, 1)) :
    Calls Try.prog 6 #[.int .u8 2, .agg #[.int .u8 (k : Int), .int .i64 i, .string s]] w (Gives (Val.one 2 ⟨k, i, s⟩) w) := by
  rw [hr]
  clear hr
  obtain ⟨W, hW⟩ : ∃ W, W = (w.alloc (.cells #[.int .u8 (k : Int), .int .i64 i, .string s] 25)).alloc (.cells #[.int .u8 0, .int .i64 0, .string ⟨#[]⟩] 25) := ⟨_, rfl⟩
  have hD : ∀ w', Below W.heap.size W w' → _ := fun w' h => duo_cells (w := w) (w' := w') (by rw [hW] at h; exact h) rfl rfl
  have HD := Lib.hid hD
  have HB : Hid (∀ w', Below W.heap.size W w' → Below w.heap.size w w') := Lib.hid (fun w' h => below_two (by rw [hW] at h; exact h))
  clear hD
  go_enter Try.func6, Try.ntmps6
  go_wp2_with fail
  rw [← hW]
  clear hW
  refine (rcheck_any k i s _ hk).mono ?_
  rw [hfa]
  rintro e v1 ⟨rfl, hb⟩
  have H1 := Lib.hid hb
  clear hb
  obtain ⟨⟨s0, s1, s2⟩, ⟨r0, r1, r2⟩, ⟨f0, f1, f2⟩, y2⟩ := HD.out _ H1.out
  go_wp2_with (fail)
  exact bodyPost_ret (v := .tuple #[.agg #[.int .u8 0, .int .i64 0, .string ⟨#[]⟩], .int .i64 1]) (by simp [results, go_sem, r0, r1, r2]) rfl (gives_of rfl (below_set3 (b := w.heap.size + 1) (HB.out _ H1.out) (by omega) _ _ _))
set_option maxRecDepth 100000 in
set_option maxHeartbeats 4000000 in
theorem rone2_nil  (w : World) (hfa : Val.fine ⟨0, 0, ⟨#[]⟩⟩ = true) (hr : Val.one 2 ⟨0, 0, ⟨#[]⟩⟩ = (⟨0, 0, ⟨#[]⟩⟩, 0)) :
    Calls Try.prog 6 #[.int .u8 2, .agg #[.int .u8 0, .int .i64 0, .string ⟨#[]⟩]] w (Gives (Val.one 2 ⟨0, 0, ⟨#[]⟩⟩) w) := by
  rw [hr]
  clear hr
  obtain ⟨W, hW⟩ : ∃ W, W = (w.alloc (.cells #[.int .u8 0, .int .i64 0, .string ⟨#[]⟩] 25)).alloc (.cells #[.int .u8 0, .int .i64 0, .string ⟨#[]⟩] 25) := ⟨_, rfl⟩
  have hD : ∀ w', Below W.heap.size W w' → _ := fun w' h => duo_cells (w := w) (w' := w') (by rw [hW] at h; exact h) rfl rfl
  have HD := Lib.hid hD
  have HB : Hid (∀ w', Below W.heap.size W w' → Below w.heap.size w w') := Lib.hid (fun w' h => below_two (by rw [hW] at h; exact h))
  clear hD
  go_enter Try.func6, Try.ntmps6
  go_wp2_with fail
  rw [← hW]
  clear hW
  refine (rcheck_any 0 0 ⟨#[]⟩ _ (by omega)).mono ?_
  rw [hfa]
  rintro e v1 ⟨rfl, hb⟩
  have H1 := Lib.hid hb
  clear hb
  obtain ⟨⟨s0, s1, s2⟩, ⟨r0, r1, r2⟩, ⟨f0, f1, f2⟩, y2⟩ := HD.out _ H1.out
  go_wp2_with (fail)
  exact bodyPost_ret (v := .tuple #[.agg #[.int .u8 0, .int .i64 0, .string ⟨#[]⟩], .int .i64 0]) (by simp [results, go_sem, r0, r1, r2]) rfl (gives_of rfl (below_set3 (b := w.heap.size + 1) (HB.out _ H1.out) (by omega) _ _ _))
set_option maxRecDepth 100000 in
set_option maxHeartbeats 4000000 in
theorem rone2_txt (s : ByteArray) (w : World) (hfa : Val.fine ⟨2, 0, s⟩ = true) (hr : Val.one 2 ⟨2, 0, s⟩ = (⟨0, 0, ⟨#[]⟩⟩, 11)) :
    Calls Try.prog 6 #[.int .u8 2, .agg #[.int .u8 2, .int .i64 0, .string s]] w (Gives (Val.one 2 ⟨2, 0, s⟩) w) := by
  rw [hr]
  clear hr
  obtain ⟨W, hW⟩ : ∃ W, W = (w.alloc (.cells #[.int .u8 2, .int .i64 0, .string s] 25)).alloc (.cells #[.int .u8 0, .int .i64 0, .string ⟨#[]⟩] 25) := ⟨_, rfl⟩
  have hD : ∀ w', Below W.heap.size W w' → _ := fun w' h => duo_cells (w := w) (w' := w') (by rw [hW] at h; exact h) rfl rfl
  have HD := Lib.hid hD
  have HB : Hid (∀ w', Below W.heap.size W w' → Below w.heap.size w w') := Lib.hid (fun w' h => below_two (by rw [hW] at h; exact h))
  clear hD
  go_enter Try.func6, Try.ntmps6
  go_wp2_with fail
  rw [← hW]
  clear hW
  refine (rcheck_any 2 0 s _ (by omega)).mono ?_
  rw [hfa]
  rintro e v1 ⟨rfl, hb⟩
  have H1 := Lib.hid hb
  clear hb
  obtain ⟨⟨s0, s1, s2⟩, ⟨r0, r1, r2⟩, ⟨f0, f1, f2⟩, y2⟩ := HD.out _ H1.out
  go_wp2_with (fail)
  exact bodyPost_ret (v := .tuple #[.agg #[.int .u8 0, .int .i64 0, .string ⟨#[]⟩], .int .i64 11]) (by simp [results, go_sem, r0, r1, r2]) rfl (gives_of rfl (below_set3 (b := w.heap.size + 1) (HB.out _ H1.out) (by omega) _ _ _))
set_option maxRecDepth 100000 in
set_option maxHeartbeats 4000000 in
theorem rone2_num (i : Int) (w : World) (hfa : Val.fine ⟨1, i, ⟨#[]⟩⟩ = true) (hr : Val.one 2 ⟨1, i, ⟨#[]⟩⟩ = (⟨1, (bitI (i == 0)), ⟨#[]⟩⟩, 0)) :
    Calls Try.prog 6 #[.int .u8 2, .agg #[.int .u8 1, .int .i64 i, .string ⟨#[]⟩]] w (Gives (Val.one 2 ⟨1, i, ⟨#[]⟩⟩) w) := by
  rw [hr]
  clear hr
  obtain ⟨W, hW⟩ : ∃ W, W = (w.alloc (.cells #[.int .u8 1, .int .i64 i, .string ⟨#[]⟩] 25)).alloc (.cells #[.int .u8 0, .int .i64 0, .string ⟨#[]⟩] 25) := ⟨_, rfl⟩
  have hD : ∀ w', Below W.heap.size W w' → _ := fun w' h => duo_cells (w := w) (w' := w') (by rw [hW] at h; exact h) rfl rfl
  have HD := Lib.hid hD
  have HB : Hid (∀ w', Below W.heap.size W w' → Below w.heap.size w w') := Lib.hid (fun w' h => below_two (by rw [hW] at h; exact h))
  clear hD
  go_enter Try.func6, Try.ntmps6
  go_wp2_with fail
  rw [← hW]
  clear hW
  refine (rcheck_any 1 i ⟨#[]⟩ _ (by omega)).mono ?_
  rw [hfa]
  rintro e v1 ⟨rfl, hb⟩
  have H1 := Lib.hid hb
  clear hb
  obtain ⟨⟨s0, s1, s2⟩, ⟨r0, r1, r2⟩, ⟨f0, f1, f2⟩, y2⟩ := HD.out _ H1.out
  go_wp2_with ((go_at_call 17; refine (ryes_any _ _).mono ?_; rintro e v2 ⟨rfl, hb⟩; have H2 := Lib.hid (duo_below H1.out hb); clear hb s0 s1 s2 r0 r1 r2 f0 f1 f2 y2; obtain ⟨⟨s0, s1, s2⟩, ⟨r0, r1, r2⟩, ⟨f0, f1, f2⟩, y2⟩ := HD.out _ H2.out))
  exact bodyPost_ret (v := .tuple #[.agg #[.int .u8 1, .int .i64 (bitI (i == 0)), .string ⟨#[]⟩], .int .i64 0]) (by simp [results, go_sem, r0, r1, r2]) rfl (gives_of rfl (below_set3 (b := w.heap.size + 1) (HB.out _ H2.out) (by omega) _ _ _))
set_option maxRecDepth 100000 in
set_option maxHeartbeats 4000000 in
theorem rone3_not (k : Nat) (i : Int) (s : ByteArray) (hk : k < 256) (w : World) (hfa : Val.fine ⟨k, i, s⟩ = false) (hr : Val.one 3 ⟨k, i, s⟩ = (⟨0, 0, ⟨#[]⟩⟩, 1)) :
    Calls Try.prog 6 #[.int .u8 3, .agg #[.int .u8 (k : Int), .int .i64 i, .string s]] w (Gives (Val.one 3 ⟨k, i, s⟩) w) := by
  rw [hr]
  clear hr
  obtain ⟨W, hW⟩ : ∃ W, W = (w.alloc (.cells #[.int .u8 (k : Int), .int .i64 i, .string s] 25)).alloc (.cells #[.int .u8 0, .int .i64 0, .string ⟨#[]⟩] 25) := ⟨_, rfl⟩
  have hD : ∀ w', Below W.heap.size W w' → _ := fun w' h => duo_cells (w := w) (w' := w') (by rw [hW] at h; exact h) rfl rfl
  have HD := Lib.hid hD
  have HB : Hid (∀ w', Below W.heap.size W w' → Below w.heap.size w w') := Lib.hid (fun w' h => below_two (by rw [hW] at h; exact h))
  clear hD
  go_enter Try.func6, Try.ntmps6
  go_wp2_with fail
  rw [← hW]
  clear hW
  refine (rcheck_any k i s _ hk).mono ?_
  rw [hfa]
  rintro e v1 ⟨rfl, hb⟩
  have H1 := Lib.hid hb
  clear hb
  obtain ⟨⟨s0, s1, s2⟩, ⟨r0, r1, r2⟩, ⟨f0, f1, f2⟩, y2⟩ := HD.out _ H1.out
  go_wp2_with (fail)
  exact bodyPost_ret (v := .tuple #[.agg #[.int .u8 0, .int .i64 0, .string ⟨#[]⟩], .int .i64 1]) (by simp [results, go_sem, r0, r1, r2]) rfl (gives_of rfl (below_set3 (b := w.heap.size + 1) (HB.out _ H1.out) (by omega) _ _ _))
set_option maxRecDepth 100000 in
set_option maxHeartbeats 4000000 in
theorem rone3_nil  (w : World) (hfa : Val.fine ⟨0, 0, ⟨#[]⟩⟩ = true) (hr : Val.one 3 ⟨0, 0, ⟨#[]⟩⟩ = (⟨1, 1, ⟨#[]⟩⟩, 0)) :
    Calls Try.prog 6 #[.int .u8 3, .agg #[.int .u8 0, .int .i64 0, .string ⟨#[]⟩]] w (Gives (Val.one 3 ⟨0, 0, ⟨#[]⟩⟩) w) := by
  rw [hr]
  clear hr
  obtain ⟨W, hW⟩ : ∃ W, W = (w.alloc (.cells #[.int .u8 0, .int .i64 0, .string ⟨#[]⟩] 25)).alloc (.cells #[.int .u8 0, .int .i64 0, .string ⟨#[]⟩] 25) := ⟨_, rfl⟩
  have hD : ∀ w', Below W.heap.size W w' → _ := fun w' h => duo_cells (w := w) (w' := w') (by rw [hW] at h; exact h) rfl rfl
  have HD := Lib.hid hD
  have HB : Hid (∀ w', Below W.heap.size W w' → Below w.heap.size w w') := Lib.hid (fun w' h => below_two (by rw [hW] at h; exact h))
  clear hD
  go_enter Try.func6, Try.ntmps6
  go_wp2_with fail
  rw [← hW]
  clear hW
  refine (rcheck_any 0 0 ⟨#[]⟩ _ (by omega)).mono ?_
  rw [hfa]
  rintro e v1 ⟨rfl, hb⟩
  have H1 := Lib.hid hb
  clear hb
  obtain ⟨⟨s0, s1, s2⟩, ⟨r0, r1, r2⟩, ⟨f0, f1, f2⟩, y2⟩ := HD.out _ H1.out
  go_wp2_with ((go_at_call 17; refine (ryes_any _ _).mono ?_; rintro e v2 ⟨rfl, hb⟩; have H2 := Lib.hid (duo_below H1.out hb); clear hb s0 s1 s2 r0 r1 r2 f0 f1 f2 y2; obtain ⟨⟨s0, s1, s2⟩, ⟨r0, r1, r2⟩, ⟨f0, f1, f2⟩, y2⟩ := HD.out _ H2.out))
  exact bodyPost_ret (v := .tuple #[.agg #[.int .u8 1, .int .i64 1, .string ⟨#[]⟩], .int .i64 0]) (by simp [results, go_sem, r0, r1, r2, bitI]) rfl (gives_of rfl (below_set3 (b := w.heap.size + 1) (HB.out _ H2.out) (by omega) _ _ _))
set_option maxRecDepth 100000 in
set_option maxHeartbeats 4000000 in
theorem rone3_txt (s : ByteArray) (w : World) (hfa : Val.fine ⟨2, 0, s⟩ = true) (hr : Val.one 3 ⟨2, 0, s⟩ = (⟨1, 0, ⟨#[]⟩⟩, 0)) :
    Calls Try.prog 6 #[.int .u8 3, .agg #[.int .u8 2, .int .i64 0, .string s]] w (Gives (Val.one 3 ⟨2, 0, s⟩) w) := by
  rw [hr]
  clear hr
  obtain ⟨W, hW⟩ : ∃ W, W = (w.alloc (.cells #[.int .u8 2, .int .i64 0, .string s] 25)).alloc (.cells #[.int .u8 0, .int .i64 0, .string ⟨#[]⟩] 25) := ⟨_, rfl⟩
  have hD : ∀ w', Below W.heap.size W w' → _ := fun w' h => duo_cells (w := w) (w' := w') (by rw [hW] at h; exact h) rfl rfl
  have HD := Lib.hid hD
  have HB : Hid (∀ w', Below W.heap.size W w' → Below w.heap.size w w') := Lib.hid (fun w' h => below_two (by rw [hW] at h; exact h))
  clear hD
  go_enter Try.func6, Try.ntmps6
  go_wp2_with fail
  rw [← hW]
  clear hW
  refine (rcheck_any 2 0 s _ (by omega)).mono ?_
  rw [hfa]
  rintro e v1 ⟨rfl, hb⟩
  have H1 := Lib.hid hb
  clear hb
  obtain ⟨⟨s0, s1, s2⟩, ⟨r0, r1, r2⟩, ⟨f0, f1, f2⟩, y2⟩ := HD.out _ H1.out
  go_wp2_with ((go_at_call 17; refine (ryes_any _ _).mono ?_; rintro e v2 ⟨rfl, hb⟩; have H2 := Lib.hid (duo_below H1.out hb); clear hb s0 s1 s2 r0 r1 r2 f0 f1 f2 y2; obtain ⟨⟨s0, s1, s2⟩, ⟨r0, r1, r2⟩, ⟨f0, f1, f2⟩, y2⟩ := HD.out _ H2.out))
  exact bodyPost_ret (v := .tuple #[.agg #[.int .u8 1, .int .i64 0, .string ⟨#[]⟩], .int .i64 0]) (by simp [results, go_sem, r0, r1, r2, bitI]) rfl (gives_of rfl (below_set3 (b := w.heap.size + 1) (HB.out _ H2.out) (by omega) _ _ _))
set_option maxRecDepth 100000 in
set_option maxHeartbeats 4000000 in
theorem rone3_num (i : Int) (w : World) (hfa : Val.fine ⟨1, i, ⟨#[]⟩⟩ = true) (hr : Val.one 3 ⟨1, i, ⟨#[]⟩⟩ = (⟨1, 0, ⟨#[]⟩⟩, 0)) :
    Calls Try.prog 6 #[.int .u8 3, .agg #[.int .u8 1, .int .i64 i, .string ⟨#[]⟩]] w (Gives (Val.one 3 ⟨1, i, ⟨#[]⟩⟩) w) := by
  rw [hr]
  clear hr
  obtain ⟨W, hW⟩ : ∃ W, W = (w.alloc (.cells #[.int .u8 1, .int .i64 i, .string ⟨#[]⟩] 25)).alloc (.cells #[.int .u8 0, .int .i64 0, .string ⟨#[]⟩] 25) := ⟨_, rfl⟩
  have hD : ∀ w', Below W.heap.size W w' → _ := fun w' h => duo_cells (w := w) (w' := w') (by rw [hW] at h; exact h) rfl rfl
  have HD := Lib.hid hD
  have HB : Hid (∀ w', Below W.heap.size W w' → Below w.heap.size w w') := Lib.hid (fun w' h => below_two (by rw [hW] at h; exact h))
  clear hD
  go_enter Try.func6, Try.ntmps6
  go_wp2_with fail
  rw [← hW]
  clear hW
  refine (rcheck_any 1 i ⟨#[]⟩ _ (by omega)).mono ?_
  rw [hfa]
  rintro e v1 ⟨rfl, hb⟩
  have H1 := Lib.hid hb
  clear hb
  obtain ⟨⟨s0, s1, s2⟩, ⟨r0, r1, r2⟩, ⟨f0, f1, f2⟩, y2⟩ := HD.out _ H1.out
  go_wp2_with ((go_at_call 17; refine (ryes_any _ _).mono ?_; rintro e v2 ⟨rfl, hb⟩; have H2 := Lib.hid (duo_below H1.out hb); clear hb s0 s1 s2 r0 r1 r2 f0 f1 f2 y2; obtain ⟨⟨s0, s1, s2⟩, ⟨r0, r1, r2⟩, ⟨f0, f1, f2⟩, y2⟩ := HD.out _ H2.out))
  exact bodyPost_ret (v := .tuple #[.agg #[.int .u8 1, .int .i64 0, .string ⟨#[]⟩], .int .i64 0]) (by simp [results, go_sem, r0, r1, r2, bitI]) rfl (gives_of rfl (below_set3 (b := w.heap.size + 1) (HB.out _ H2.out) (by omega) _ _ _))
set_option maxRecDepth 100000 in
set_option maxHeartbeats 4000000 in
theorem rone4_not (k : Nat) (i : Int) (s : ByteArray) (hk : k < 256) (w : World) (hfa : Val.fine ⟨k, i, s⟩ = false) (hr : Val.one 4 ⟨k, i, s⟩ = (⟨0, 0, ⟨#[]⟩⟩, 1)) :
    Calls Try.prog 6 #[.int .u8 4, .agg #[.int .u8 (k : Int), .int .i64 i, .string s]] w (Gives (Val.one 4 ⟨k, i, s⟩) w) := by
  rw [hr]
  clear hr
  obtain ⟨W, hW⟩ : ∃ W, W = (w.alloc (.cells #[.int .u8 (k : Int), .int .i64 i, .string s] 25)).alloc (.cells #[.int .u8 0, .int .i64 0, .string ⟨#[]⟩] 25) := ⟨_, rfl⟩
  have hD : ∀ w', Below W.heap.size W w' → _ := fun w' h => duo_cells (w := w) (w' := w') (by rw [hW] at h; exact h) rfl rfl
  have HD := Lib.hid hD
  have HB : Hid (∀ w', Below W.heap.size W w' → Below w.heap.size w w') := Lib.hid (fun w' h => below_two (by rw [hW] at h; exact h))
  clear hD
  go_enter Try.func6, Try.ntmps6
  go_wp2_with fail
  rw [← hW]
  clear hW
  refine (rcheck_any k i s _ hk).mono ?_
  rw [hfa]
  rintro e v1 ⟨rfl, hb⟩
  have H1 := Lib.hid hb
  clear hb
  obtain ⟨⟨s0, s1, s2⟩, ⟨r0, r1, r2⟩, ⟨f0, f1, f2⟩, y2⟩ := HD.out _ H1.out
  go_wp2_with (fail)
  exact bodyPost_ret (v := .tuple #[.agg #[.int .u8 0, .int .i64 0, .string ⟨#[]⟩], .int .i64 1]) (by simp [results, go_sem, r0, r1, r2]) rfl (gives_of rfl (below_set3 (b := w.heap.size + 1) (HB.out _ H1.out) (by omega) _ _ _))
set_option maxRecDepth 100000 in
set_option maxHeartbeats 4000000 in
theorem rone4_nil  (w : World) (hfa : Val.fine ⟨0, 0, ⟨#[]⟩⟩ = true) (hr : Val.one 4 ⟨0, 0, ⟨#[]⟩⟩ = (⟨1, 0, ⟨#[]⟩⟩, 0)) :
    Calls Try.prog 6 #[.int .u8 4, .agg #[.int .u8 0, .int .i64 0, .string ⟨#[]⟩]] w (Gives (Val.one 4 ⟨0, 0, ⟨#[]⟩⟩) w) := by
  rw [hr]
  clear hr
  obtain ⟨W, hW⟩ : ∃ W, W = (w.alloc (.cells #[.int .u8 0, .int .i64 0, .string ⟨#[]⟩] 25)).alloc (.cells #[.int .u8 0, .int .i64 0, .string ⟨#[]⟩] 25) := ⟨_, rfl⟩
  have hD : ∀ w', Below W.heap.size W w' → _ := fun w' h => duo_cells (w := w) (w' := w') (by rw [hW] at h; exact h) rfl rfl
  have HD := Lib.hid hD
  have HB : Hid (∀ w', Below W.heap.size W w' → Below w.heap.size w w') := Lib.hid (fun w' h => below_two (by rw [hW] at h; exact h))
  clear hD
  go_enter Try.func6, Try.ntmps6
  go_wp2_with fail
  rw [← hW]
  clear hW
  refine (rcheck_any 0 0 ⟨#[]⟩ _ (by omega)).mono ?_
  rw [hfa]
  rintro e v1 ⟨rfl, hb⟩
  have H1 := Lib.hid hb
  clear hb
  obtain ⟨⟨s0, s1, s2⟩, ⟨r0, r1, r2⟩, ⟨f0, f1, f2⟩, y2⟩ := HD.out _ H1.out
  go_wp2_with ((go_at_call 17; refine (ryes_any _ _).mono ?_; rintro e v2 ⟨rfl, hb⟩; have H2 := Lib.hid (duo_below H1.out hb); clear hb s0 s1 s2 r0 r1 r2 f0 f1 f2 y2; obtain ⟨⟨s0, s1, s2⟩, ⟨r0, r1, r2⟩, ⟨f0, f1, f2⟩, y2⟩ := HD.out _ H2.out))
  exact bodyPost_ret (v := .tuple #[.agg #[.int .u8 1, .int .i64 0, .string ⟨#[]⟩], .int .i64 0]) (by simp [results, go_sem, r0, r1, r2, bitI]) rfl (gives_of rfl (below_set3 (b := w.heap.size + 1) (HB.out _ H2.out) (by omega) _ _ _))
set_option maxRecDepth 100000 in
set_option maxHeartbeats 4000000 in
theorem rone4_txt (s : ByteArray) (w : World) (hfa : Val.fine ⟨2, 0, s⟩ = true) (hr : Val.one 4 ⟨2, 0, s⟩ = (⟨1, 1, ⟨#[]⟩⟩, 0)) :
    Calls Try.prog 6 #[.int .u8 4, .agg #[.int .u8 2, .int .i64 0, .string s]] w (Gives (Val.one 4 ⟨2, 0, s⟩) w) := by
  rw [hr]
  clear hr
  obtain ⟨W, hW⟩ : ∃ W, W = (w.alloc (.cells #[.int .u8 2, .int .i64 0, .string s] 25)).alloc (.cells #[.int .u8 0, .int .i64 0, .string ⟨#[]⟩] 25) := ⟨_, rfl⟩
  have hD : ∀ w', Below W.heap.size W w' → _ := fun w' h => duo_cells (w := w) (w' := w') (by rw [hW] at h; exact h) rfl rfl
  have HD := Lib.hid hD
  have HB : Hid (∀ w', Below W.heap.size W w' → Below w.heap.size w w') := Lib.hid (fun w' h => below_two (by rw [hW] at h; exact h))
  clear hD
  go_enter Try.func6, Try.ntmps6
  go_wp2_with fail
  rw [← hW]
  clear hW
  refine (rcheck_any 2 0 s _ (by omega)).mono ?_
  rw [hfa]
  rintro e v1 ⟨rfl, hb⟩
  have H1 := Lib.hid hb
  clear hb
  obtain ⟨⟨s0, s1, s2⟩, ⟨r0, r1, r2⟩, ⟨f0, f1, f2⟩, y2⟩ := HD.out _ H1.out
  go_wp2_with ((go_at_call 17; refine (ryes_any _ _).mono ?_; rintro e v2 ⟨rfl, hb⟩; have H2 := Lib.hid (duo_below H1.out hb); clear hb s0 s1 s2 r0 r1 r2 f0 f1 f2 y2; obtain ⟨⟨s0, s1, s2⟩, ⟨r0, r1, r2⟩, ⟨f0, f1, f2⟩, y2⟩ := HD.out _ H2.out))
  exact bodyPost_ret (v := .tuple #[.agg #[.int .u8 1, .int .i64 1, .string ⟨#[]⟩], .int .i64 0]) (by simp [results, go_sem, r0, r1, r2, bitI]) rfl (gives_of rfl (below_set3 (b := w.heap.size + 1) (HB.out _ H2.out) (by omega) _ _ _))
set_option maxRecDepth 100000 in
set_option maxHeartbeats 4000000 in
theorem rone4_num (i : Int) (w : World) (hfa : Val.fine ⟨1, i, ⟨#[]⟩⟩ = true) (hr : Val.one 4 ⟨1, i, ⟨#[]⟩⟩ = (⟨1, 1, ⟨#[]⟩⟩, 0)) :
    Calls Try.prog 6 #[.int .u8 4, .agg #[.int .u8 1, .int .i64 i, .string ⟨#[]⟩]] w (Gives (Val.one 4 ⟨1, i, ⟨#[]⟩⟩) w) := by
  rw [hr]
  clear hr
  obtain ⟨W, hW⟩ : ∃ W, W = (w.alloc (.cells #[.int .u8 1, .int .i64 i, .string ⟨#[]⟩] 25)).alloc (.cells #[.int .u8 0, .int .i64 0, .string ⟨#[]⟩] 25) := ⟨_, rfl⟩
  have hD : ∀ w', Below W.heap.size W w' → _ := fun w' h => duo_cells (w := w) (w' := w') (by rw [hW] at h; exact h) rfl rfl
  have HD := Lib.hid hD
  have HB : Hid (∀ w', Below W.heap.size W w' → Below w.heap.size w w') := Lib.hid (fun w' h => below_two (by rw [hW] at h; exact h))
  clear hD
  go_enter Try.func6, Try.ntmps6
  go_wp2_with fail
  rw [← hW]
  clear hW
  refine (rcheck_any 1 i ⟨#[]⟩ _ (by omega)).mono ?_
  rw [hfa]
  rintro e v1 ⟨rfl, hb⟩
  have H1 := Lib.hid hb
  clear hb
  obtain ⟨⟨s0, s1, s2⟩, ⟨r0, r1, r2⟩, ⟨f0, f1, f2⟩, y2⟩ := HD.out _ H1.out
  go_wp2_with ((go_at_call 17; refine (ryes_any _ _).mono ?_; rintro e v2 ⟨rfl, hb⟩; have H2 := Lib.hid (duo_below H1.out hb); clear hb s0 s1 s2 r0 r1 r2 f0 f1 f2 y2; obtain ⟨⟨s0, s1, s2⟩, ⟨r0, r1, r2⟩, ⟨f0, f1, f2⟩, y2⟩ := HD.out _ H2.out))
  exact bodyPost_ret (v := .tuple #[.agg #[.int .u8 1, .int .i64 1, .string ⟨#[]⟩], .int .i64 0]) (by simp [results, go_sem, r0, r1, r2, bitI]) rfl (gives_of rfl (below_set3 (b := w.heap.size + 1) (HB.out _ H2.out) (by omega) _ _ _))
set_option maxRecDepth 100000 in
set_option maxHeartbeats 4000000 in
theorem rone_zero (k : Nat) (i : Int) (s : ByteArray) (w : World) :
    Calls Try.prog 6 #[.int .u8 0, .agg #[.int .u8 (k : Int), .int .i64 i, .string s]] w (Gives (Val.one 0 ⟨k, i, s⟩) w) := by
  have hr : Val.one 0 ⟨k, i, s⟩ = (Val.nil, 1) := nil_one (by omega)
  go_enter Try.func6, Try.ntmps6
  go_wp2_with fail
  exact bodyPost_ret (v := .tuple #[.agg #[.int .u8 0, .int .i64 0, .string ⟨#[]⟩], .int .i64 1]) (by simp [results, go_sem]) rfl (nil_gives hr ((below_alloc w _).alloc (by simp) _))
set_option maxRecDepth 100000 in
set_option maxHeartbeats 4000000 in
theorem rone_big (op : Nat) (hop : 4 < op) (k : Nat) (i : Int) (s : ByteArray) (w : World) :
    Calls Try.prog 6 #[.int .u8 (op : Int), .agg #[.int .u8 (k : Int), .int .i64 i, .string s]] w (Gives (Val.one op ⟨k, i, s⟩) w) := by
  have hr : Val.one op ⟨k, i, s⟩ = (Val.nil, 1) := nil_one (by omega)
  rw [hr]
  clear hr
  have h5 : decide ((4 : Int) < (op : Int)) = true := by rw [decide_eq_true_iff]; omega
  have h6 : (4 : Int) < (op : Int) := by omega
  have h7 : (1 : Int) ≤ (op : Int) := by omega
  have h8 : ¬ ((op : Int) < 1) := by omega
  have h9 : decide ((op : Int) < 1) = false := by rw [decide_eq_false_iff_not]; omega
  go_enter Try.func6, Try.ntmps6
  go_wp2_with fail
  exact bodyPost_ret (v := .tuple #[.agg #[.int .u8 0, .int .i64 0, .string ⟨#[]⟩], .int .i64 1]) (by simp [results, go_sem]) rfl (nil_gives rfl ((below_alloc w _).alloc (by simp) _))
theorem rone_any (op k : Nat) (i : Int) (s : ByteArray) (w : World) (hk : k < 256) (i0 : -9223372036854775808 ≤ i) (i1 : i ≤ 9223372036854775807) :
    Calls Try.prog 6 #[.int .u8 (op : Int), .agg #[.int .u8 (k : Int), .int .i64 i, .string s]] w (Gives (Val.one op ⟨k, i, s⟩) w) := by
  by_cases h : 4 < op
  · exact rone_big op h k i s w
  · cases hfa : Val.fine ⟨k, i, s⟩ with
    | false =>
      have hr : Val.one op ⟨k, i, s⟩ = (⟨0, 0, ⟨#[]⟩⟩, 1) := nil_one (by rw [hfa]; simp)
      rcases (show op = 0 ∨ op = 1 ∨ op = 2 ∨ op = 3 ∨ op = 4 by omega) with rfl | rfl | rfl | rfl | rfl
      · exact rone_zero k i s w
      · exact rone1_not k i s hk w hfa hr
      · exact rone2_not k i s hk w hfa hr
      · exact rone3_not k i s hk w hfa hr
      · exact rone4_not k i s hk w hfa hr
    | true =>
      rcases Val.fine_cases hfa with h | ⟨n, h⟩ | ⟨t, h, _⟩
      · obtain ⟨rfl, rfl, rfl⟩ := Val.mk.inj h
        rcases (show op = 0 ∨ op = 1 ∨ op = 2 ∨ op = 3 ∨ op = 4 by omega) with rfl | rfl | rfl | rfl | rfl
        · exact rone_zero _ _ _ w
        · exact rone1_nil w hfa rfl
        · exact rone2_nil w hfa rfl
        · exact rone3_nil w hfa rfl
        · exact rone4_nil w hfa rfl
      · obtain ⟨rfl, rfl, rfl⟩ := Val.mk.inj h
        rcases (show op = 0 ∨ op = 1 ∨ op = 2 ∨ op = 3 ∨ op = 4 by omega) with rfl | rfl | rfl | rfl | rfl
        · exact rone_zero _ _ _ w
        · have e2 : Val.one 1 ⟨1, i, ⟨#[]⟩⟩ = if i = -9223372036854775808 then (Val.nil, 12) else (Val.num (-i), 0) := rfl
          by_cases hn : i = -9223372036854775808
          · subst hn
            exact rone1_least w hfa rfl
          · rw [if_neg hn] at e2
            exact rone1_num i (by simpa using hn) (IntWalk.i64_in _ (by omega)) w hfa e2
        · exact rone2_num i w hfa rfl
        · exact rone3_num i w hfa rfl
        · exact rone4_num i w hfa rfl
      · obtain ⟨rfl, rfl, rfl⟩ := Val.mk.inj h
        rcases (show op = 0 ∨ op = 1 ∨ op = 2 ∨ op = 3 ∨ op = 4 by omega) with rfl | rfl | rfl | rfl | rfl
        · exact rone_zero _ _ _ w
        · exact rone1_txt s w hfa (by unfold Val.one; rw [hfa]; rfl)
        · exact rone2_txt s w hfa (by unfold Val.one; rw [hfa]; rfl)
        · exact rone3_txt s w hfa (by unfold Val.one; rw [hfa]; rfl)
        · exact rone4_txt s w hfa (by unfold Val.one; rw [hfa]; rfl)
theorem one_r (op k : Nat) (i : Int) (s : ByteArray) (r : Val × Nat) (hop : op < 256) (hk : k < 256) (i0 : -9223372036854775808 ≤ i) (i1 : i ≤ 9223372036854775807) (h : Val.one op ⟨k, i, s⟩ = r) (w : World) :
    Calls Try.prog 5 #[.int .u8 (op : Int), .agg #[.int .u8 (k : Int), .int .i64 i, .string s]] w
      fun e w' => e = .returned (.tuple #[.agg #[.int .u8 (r.1.k : Int), .int .i64 r.1.i, .string r.1.s], .int .i64 (r.2 : Int)]) ∧ Below w.heap.size w w' := by
  subst h
  exact one_any op k i s w hop hk i0 i1
theorem rone_r (op k : Nat) (i : Int) (s : ByteArray) (r : Val × Nat) (hk : k < 256) (i0 : -9223372036854775808 ≤ i) (i1 : i ≤ 9223372036854775807) (h : Val.one op ⟨k, i, s⟩ = r) (w : World) :
    Calls Try.prog 6 #[.int .u8 (op : Int), .agg #[.int .u8 (k : Int), .int .i64 i, .string s]] w
      fun e w' => e = .returned (.tuple #[.agg #[.int .u8 (r.1.k : Int), .int .i64 r.1.i, .string r.1.s], .int .i64 (r.2 : Int)]) ∧ Below w.heap.size w w' := by
  subst h
  exact rone_any op k i s w hk i0 i1
set_option maxRecDepth 100000 in
set_option maxHeartbeats 8000000 in
theorem vone_long (ak : Nat) (akb : ak < 256) (ai : Int) (ai0 : -9223372036854775808 ≤ ai) (ai1 : ai ≤ 9223372036854775807) (az : ByteArray) (azb : az.size ≤ 140737488351232) (op : Nat) (hop : op < 256) (hbig : decide ((20000 : Int) < (az.size : Int)) = true) (w : World) (hw : Wd w) :
    Calls Try.prog 3 #[.int .u8 (op : Int), .agg #[.int .u8 (ak : Int), .int .i64 ai, .string az]] w fun e w' => e = .returned (.bool true) ∧ Below w.heap.size w w' := by
  obtain ⟨w0, hW⟩ : ∃ w0, w0 = (w.alloc (.cells #[.int .u8 (ak : Int), .int .i64 ai, .string az] 25)) := ⟨_, rfl⟩
  have H0 : Hid (Fam w [(w.heap.size, .cells #[.int .u8 (ak : Int), .int .i64 ai, .string az] 25 (0, 0))] w0) := Lib.hid (by rw [hW]; exact fam_n1 ..)
  have HW : Hid (∀ x, Below w.heap.size w x → Wd x) := Lib.hid (fun _ h => hw.kept h)
  clear hw
  go_enter Try.func3, Try.ntmps3
  go_wp2_with fail
  rw [← hW]
  rw [show w.heap.size + 1 = w0.heap.size by rw [hW]; simp]
  clear hW
  refine (long1_new _ _ az azb _ true hbig).mono ?_
  rintro e w1 ⟨rfl, hb⟩
  have H1 := Lib.hid (H0.out.kept hb)
  clear hb 
  go_wp2_with fail
  go_ret
  exact ⟨rfl, H1.out.below⟩
set_option maxRecDepth 100000 in
set_option maxHeartbeats 8000000 in
theorem vone_body (ak : Nat) (akb : ak < 256) (ai : Int) (ai0 : -9223372036854775808 ≤ ai) (ai1 : ai ≤ 9223372036854775807) (az : ByteArray) (azb : az.size ≤ 140737488351232) (op : Nat) (hop : op < 256) (hbig : decide ((20000 : Int) < (az.size : Int)) = false) (r : Val × Nat) (hr : Val.one op ⟨ak, ai, az⟩ = r) (w : World) (hw : Wd w) :
    Calls Try.prog 3 #[.int .u8 (op : Int), .agg #[.int .u8 (ak : Int), .int .i64 ai, .string az]] w fun e w' => e = .returned (.bool true) ∧ Below w.heap.size w w' := by
  have HR := Lib.hid hr
  clear hr
  obtain ⟨w0, hW⟩ : ∃ w0, w0 = (w.alloc (.cells #[.int .u8 (ak : Int), .int .i64 ai, .string az] 25)) := ⟨_, rfl⟩
  have H0 : Hid (Fam w [(w.heap.size, .cells #[.int .u8 (ak : Int), .int .i64 ai, .string az] 25 (0, 0))] w0) := Lib.hid (by rw [hW]; exact fam_n1 ..)
  have HW : Hid (∀ x, Below w.heap.size w x → Wd x) := Lib.hid (fun _ h => hw.kept h)
  clear hw
  go_enter Try.func3, Try.ntmps3
  go_wp2_with fail
  rw [← hW]
  rw [show w.heap.size + 1 = w0.heap.size by rw [hW]; simp]
  clear hW
  refine (long1_new _ _ az azb _ false hbig).mono ?_
  rintro e w1 ⟨rfl, hb⟩
  have H1 := Lib.hid (H0.out.kept hb)
  clear hb 
  have f0_0 : w1.cell? ⟨w.heap.size, 0, none⟩ = some (.int .u8 (ak : Int)) := H1.out.cell (b := w.heap.size) (cs := #[.int .u8 (ak : Int), .int .i64 ai, .string az]) (t := 25) (fr := (0, 0)) (List.mem_cons_self ..) 0
  have f0_1 : w1.cell? ⟨w.heap.size, 1, none⟩ = some (.int .i64 ai) := H1.out.cell (b := w.heap.size) (cs := #[.int .u8 (ak : Int), .int .i64 ai, .string az]) (t := 25) (fr := (0, 0)) (List.mem_cons_self ..) 1
  have f0_2 : w1.cell? ⟨w.heap.size, 2, none⟩ = some (.string az) := H1.out.cell (b := w.heap.size) (cs := #[.int .u8 (ak : Int), .int .i64 ai, .string az]) (t := 25) (fr := (0, 0)) (List.mem_cons_self ..) 2
  have z0 : w.heap.size < w1.heap.size := lt_of_block (H1.out.get (b := w.heap.size) (o := .cells #[.int .u8 (ak : Int), .int .i64 ai, .string az] 25 (0, 0)) (List.mem_cons_self ..))
  go_wp2_with fail
  refine (one_r op ak ai az r hop akb ai0 ai1 HR.out _).mono ?_
  rintro e w2 ⟨rfl, hb⟩
  have H2 := Lib.hid (H1.out.kept hb)
  clear f0_0 f0_1 f0_2 z0
  clear hb 
  have f0_0 : w2.cell? ⟨w.heap.size, 0, none⟩ = some (.int .u8 (ak : Int)) := H2.out.cell (b := w.heap.size) (cs := #[.int .u8 (ak : Int), .int .i64 ai, .string az]) (t := 25) (fr := (0, 0)) (List.mem_cons_self ..) 0
  have f0_1 : w2.cell? ⟨w.heap.size, 1, none⟩ = some (.int .i64 ai) := H2.out.cell (b := w.heap.size) (cs := #[.int .u8 (ak : Int), .int .i64 ai, .string az]) (t := 25) (fr := (0, 0)) (List.mem_cons_self ..) 1
  have f0_2 : w2.cell? ⟨w.heap.size, 2, none⟩ = some (.string az) := H2.out.cell (b := w.heap.size) (cs := #[.int .u8 (ak : Int), .int .i64 ai, .string az]) (t := 25) (fr := (0, 0)) (List.mem_cons_self ..) 2
  have z0 : w.heap.size < w2.heap.size := lt_of_block (H2.out.get (b := w.heap.size) (o := .cells #[.int .u8 (ak : Int), .int .i64 ai, .string az] 25 (0, 0)) (List.mem_cons_self ..))
  go_wp2_with fail
  have HA0 := Lib.hid (H2.out.add (below_alloc w2 (.cells #[.int .u8 (r.1.k : Int), .int .i64 r.1.i, .string r.1.s] 25)) (Nat.le_refl _) (heap_alloc_new _ _))
  refine (rone_r op ak ai az r akb ai0 ai1 HR.out _).mono ?_
  rintro e w3 ⟨rfl, hb⟩
  have H3 := Lib.hid (HA0.out.kept hb)
  clear f0_0 f0_1 f0_2 z0
  clear hb HA0
  have f0_0 : w3.cell? ⟨w2.heap.size, 0, none⟩ = some (.int .u8 (r.1.k : Int)) := H3.out.cell (b := w2.heap.size) (cs := #[.int .u8 (r.1.k : Int), .int .i64 r.1.i, .string r.1.s]) (t := 25) (fr := (0, 0)) (List.mem_cons_self ..) 0
  have f0_1 : w3.cell? ⟨w2.heap.size, 1, none⟩ = some (.int .i64 r.1.i) := H3.out.cell (b := w2.heap.size) (cs := #[.int .u8 (r.1.k : Int), .int .i64 r.1.i, .string r.1.s]) (t := 25) (fr := (0, 0)) (List.mem_cons_self ..) 1
  have f0_2 : w3.cell? ⟨w2.heap.size, 2, none⟩ = some (.string r.1.s) := H3.out.cell (b := w2.heap.size) (cs := #[.int .u8 (r.1.k : Int), .int .i64 r.1.i, .string r.1.s]) (t := 25) (fr := (0, 0)) (List.mem_cons_self ..) 2
  have z0 : w2.heap.size < w3.heap.size := lt_of_block (H3.out.get (b := w2.heap.size) (o := .cells #[.int .u8 (r.1.k : Int), .int .i64 r.1.i, .string r.1.s] 25 (0, 0)) (List.mem_cons_self ..))
  have f1_0 : w3.cell? ⟨w.heap.size, 0, none⟩ = some (.int .u8 (ak : Int)) := H3.out.cell (b := w.heap.size) (cs := #[.int .u8 (ak : Int), .int .i64 ai, .string az]) (t := 25) (fr := (0, 0)) (List.mem_cons_of_mem _ (List.mem_cons_self ..)) 0
  have f1_1 : w3.cell? ⟨w.heap.size, 1, none⟩ = some (.int .i64 ai) := H3.out.cell (b := w.heap.size) (cs := #[.int .u8 (ak : Int), .int .i64 ai, .string az]) (t := 25) (fr := (0, 0)) (List.mem_cons_of_mem _ (List.mem_cons_self ..)) 1
  have f1_2 : w3.cell? ⟨w.heap.size, 2, none⟩ = some (.string az) := H3.out.cell (b := w.heap.size) (cs := #[.int .u8 (ak : Int), .int .i64 ai, .string az]) (t := 25) (fr := (0, 0)) (List.mem_cons_of_mem _ (List.mem_cons_self ..)) 2
  have z1 : w.heap.size < w3.heap.size := lt_of_block (H3.out.get (b := w.heap.size) (o := .cells #[.int .u8 (ak : Int), .int .i64 ai, .string az] 25 (0, 0)) (List.mem_cons_of_mem _ (List.mem_cons_self ..)))
  go_wp2_with fail
  go_ret
  exact ⟨rfl, (H3.out.below).alloc H3.out.below.size _⟩
theorem walk_ValuesOne (op : Int) (hop : (Lit.int .u8 op).wf = true) (ak : Int) (ai : Int) (az : ByteArray) (hak : (Lit.int .u8 ak).wf = true) (hai : (Lit.int .i64 ai).wf = true) (haz : az.size ≤ 140737488351232) {w : World} :
    Calls Try.prog 3 #[.int .u8 op, .agg #[.int .u8 ak, .int .i64 ai, .string az]] w fun e w' => e = .returned (.bool true) ∧ Below w.heap.size w w' := by
  have k0 := wf_u8 hak
  have k1 := wf_u8 hop
  have i0 := wf_i64 hai
  obtain ⟨ak, rfl⟩ := Int.eq_ofNat_of_zero_le k0.1
  obtain ⟨op, rfl⟩ := Int.eq_ofNat_of_zero_le k1.1
  cases hbig : decide ((20000 : Int) < (az.size : Int)) with
  | true => exact vone_long ak (by omega) ai i0.1 i0.2 az haz op (by omega) hbig w ⟨rfl⟩
  | false => exact vone_body ak (by omega) ai i0.1 i0.2 az haz op (by omega) hbig _ rfl w ⟨rfl⟩
end Go.Proofs.Ytnnimngbocabbaa
