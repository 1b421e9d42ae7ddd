/-
  WHAT IS PROVED: the walk of FilesNil.
-/
import Derived.Test.YtdeggklfjdgfjaaNil
import Derived.BigQuiet
namespace Go.Proofs.Ytdeggklfjdgfjaa
open Go.RowKit

theorem same_below {P : Program} {f : FuncId} {args : Array Value} {w : World} {v : Value} (h : Calls P f args w fun e w' => e = .returned v ∧ w = w') : Calls P f args w fun e w' => e = .returned v ∧ Below w.heap.size w w' :=
  h.mono fun e w' ⟨he, hw⟩ => ⟨he, by subst hw; exact Below.refl _ _⟩

theorem NoDisk.kept {w w' : World} {p : Value} (h : NoDisk w p) (hb : Below w.heap.size w w') : NoDisk w' p := by
  rcases h with rfl | ⟨d, rfl, h⟩
  · exact .inl rfl
  · exact .inr ⟨d, rfl, (hb.cell (p := ⟨d, 0, none⟩) (World.block_lt_of_cell? w _ h)).trans h⟩

/-- where the loop of the statement reads -/
structure NilAt (w : World) (A L D : Nat) (k : Int) (nm to : ByteArray) (b : Value) (a n : Int) (names : Bool) : Prop where
  act : w.heap[A]? = some (.cells #[.int .u8 k, .string nm, .string to, b, .int .i64 a, .int .i64 n, .bool names] 24 (0, 0))
  list : w.heap[L]? = some (.cells #[.pointer none, .pointer (some ⟨D, 0, none⟩)] 29 (0, 0))
  zero : w.heap[D]? = some (.cells #[.int .i64 0, .slice none 0 0, .slice none 0 0] 28 (0, 0))
theorem NilAt.kept {w w' : World} {A L D : Nat} {k : Int} {nm to : ByteArray} {b : Value} {a n : Int} {names : Bool} (h : NilAt w A L D k nm to b a n names) (hb : Below w.heap.size w w') : NilAt w' A L D k nm to b a n names :=
  ⟨(hb.block _ (lt_of_block h.act)).trans h.act, (hb.block _ (lt_of_block h.list)).trans h.list, (hb.block _ (lt_of_block h.zero)).trans h.zero⟩

/-- the pointer at a place of the list -/
def nilP (D : Nat) : Nat → Value
  | 0 => .pointer none
  | _ => .pointer (some ⟨D, 0, none⟩)
theorem NilAt.no {w : World} {A L D : Nat} {k : Int} {nm to : ByteArray} {b : Value} {a n : Int} {names : Bool} (h : NilAt w A L D k nm to b a n names) (i : Nat) : NoDisk w (nilP D i) := by
  cases i with
  | zero => exact .inl rfl
  | succ i => exact .inr ⟨D, rfl, cell_of_block h.zero 0⟩
theorem NilAt.cells {w : World} {A L D : Nat} {k : Int} {nm to : ByteArray} {b : Value} {a n : Int} {names : Bool} (h : NilAt w A L D k nm to b a n names) (i : Nat) (hi : i < 2) :
    w.cell? ⟨L, i, none⟩ = some (nilP D i) ∧ w.cell? ⟨A, 1, none⟩ = some (.string nm) ∧ w.cell? ⟨A, 2, none⟩ = some (.string to) ∧ w.cell? ⟨A, 3, none⟩ = some b ∧ w.cell? ⟨A, 4, none⟩ = some (.int .i64 a) ∧ w.cell? ⟨A, 5, none⟩ = some (.int .i64 n) ∧ w.cell? ⟨A, 6, none⟩ = some (.bool names) := by
  refine ⟨?_, cell_of_block h.act 1, cell_of_block h.act 2, cell_of_block h.act 3, cell_of_block h.act 4, cell_of_block h.act 5, cell_of_block h.act 6⟩
  rw [cell_of_block h.list]
  match i, hi with
  | 0, _ => rfl
  | 1, _ => rfl

theorem nil_loads {w : World} {A L D : Nat} {k : Int} {nm to : ByteArray} {b : Value} {a n : Int} {names : Bool} (h : NilAt w A L D k nm to b a n names) {i : Nat} (hi : i < 2) {p : Value} (hp : nilP D i = p) :
    w.cell? ⟨L, i, none⟩ = some p ∧ w.cell? ⟨A, 1, none⟩ = some (.string nm) ∧ w.cell? ⟨A, 2, none⟩ = some (.string to) ∧ w.cell? ⟨A, 3, none⟩ = some b := by
  obtain ⟨x0, x1, x2, x3, _⟩ := h.cells i hi
  exact ⟨hp ▸ x0, x1, x2, x3⟩

set_option maxRecDepth 100000 in
set_option maxHeartbeats 8000000 in
theorem walkN_FilesNil (k : Int) (nm to : ByteArray) (ao : Option Addr) (bn bc : Nat) (a n : Int) (names : Bool) (w : World) :
    Calls Try.prog 3 #[.agg #[.int .u8 k, .string nm, .string to, .slice ao bn bc, .int .i64 a, .int .i64 n, .bool names]] w fun e w' => e = .returned (.bool true) ∧ Below w.heap.size w w' := by
  go_enter Try.func3, Try.ntmps3
  go_wp2
  obtain ⟨W, hW⟩ : ∃ W, W = ((w.alloc (.cells #[.int .u8 k, .string nm, .string to, .slice ao bn bc, .int .i64 a, .int .i64 n, .bool names] 24)).alloc (.cells #[.int .i64 0, .slice none 0 0, .slice none 0 0] 28)).alloc (.cells #[.pointer none, .pointer (some ⟨w.heap.size + 1, 0, none⟩)] 29) := ⟨_, rfl⟩
  have hN : NilAt W w.heap.size (w.heap.size + 1 + 1) (w.heap.size + 1) k nm to (.slice ao bn bc) a n names := by
    rw [hW]
    refine ⟨?_, ?_, ?_⟩
    · rw [Below.heap_alloc _ _ _ (by simp; omega), Below.heap_alloc _ _ _ (by simp)]; exact heap_alloc_new w _
    · have := heap_alloc_new ((w.alloc (.cells #[.int .u8 k, .string nm, .string to, .slice ao bn bc, .int .i64 a, .int .i64 n, .bool names] 24)).alloc (.cells #[.int .i64 0, .slice none 0 0, .slice none 0 0] 28)) (.cells #[.pointer none, .pointer (some ⟨w.heap.size + 1, 0, none⟩)] 29)
      simpa using this
    · rw [Below.heap_alloc _ _ _ (by simp)]
      have := heap_alloc_new (w.alloc (.cells #[.int .u8 k, .string nm, .string to, .slice ao bn bc, .int .i64 a, .int .i64 n, .bool names] 24)) (.cells #[.int .i64 0, .slice none 0 0, .slice none 0 0] 28)
      simpa using this
  have hB : Below w.heap.size w W := by
    rw [hW]
    exact (((Below.refl _ w).alloc (Nat.le_refl _) _).alloc (by simp) _).alloc (by simp; omega) _
  have HN := Lib.hid hN
  have HB := Lib.hid hB
  obtain ⟨A, hA⟩ : ∃ A, A = w.heap.size := ⟨_, rfl⟩
  obtain ⟨D, hD⟩ : ∃ D, D = w.heap.size + 1 := ⟨_, rfl⟩
  obtain ⟨L, hL⟩ : ∃ L, L = w.heap.size + 1 + 1 := ⟨_, rfl⟩
  rw [← hW, ← hL]
  rw [← hD] at hL
  have HN : Hid (NilAt W A L D k nm to (.slice ao bn bc) a n names) := by rw [hA, hD, hL, hD]; exact hN
  rw [← hA]
  have HAQ := Lib.hid hA
  clear hA hD hL hN hB hW
  go_loopw [5] (fun i wr => ∃ i' : Nat, i' ≤ 2 ∧ i = .int .i64 i' ∧ Hid (Below W.heap.size W wr)) (fun i _ => 2 - (RowKit.intOf i).toNat)
  case atStart => exact ⟨0, by omega, rfl, Lib.hid (Below.refl _ _)⟩
  case round =>
    obtain ⟨i, hi, rfl, HR⟩ := hrel
    by_cases hlt : i < 2
    · obtain ⟨p, hp⟩ : ∃ p, nilP D i = p := ⟨_, rfl⟩
      have HP := Lib.hid hp
      clear hp
      have NP : Hid (∀ w', Below wr.heap.size wr w' → NoDisk w' p) := fun w' h => by rw [← HP.out]; exact ((HN.out.kept HR.out).kept h).no i
      obtain ⟨x0, x1, x2, x3, x4, x5, x6⟩ := (HN.out.kept HR.out).cells i hlt
      rw [HP.out] at x0
      have q0 := bwOf_cell wr _ _ x0
      have q1 := bwOf_cell wr _ _ x1
      have q2 := bwOf_cell wr _ _ x4
      have q3 := bwOf_cell wr _ _ x5
      have q4 := bwOf_cell wr _ _ x6
      clear x1 x2 x3 x4 x5 x6 x0
      go_wp2_with fail
      refine wp_region_bw (w := wr) (by kernel_rfl) (by kernel_rfl) ?_
      repeat (go_big_quiet_step ((first | (go_at_call 10; exact below_of (same_below (read_no _ _ _ _ _ (NP.out _ (bwOf_below _ _))))))))
      refine wpQuiet_nil ?_
      rintro w1 ⟨m1, hm1⟩
      have HR1 : Hid (Below W.heap.size W w1) := by show Below _ _ _; rw [hm1]; exact below_next HR.out (bwOf_below _ _)
      clear NP q0 q1 q2 q3 q4 hm1 m1
      have NP : Hid (∀ w', Below w1.heap.size w1 w' → NoDisk w' p) := fun w' h => by rw [← HP.out]; exact ((HN.out.kept HR1.out).kept h).no i
      obtain ⟨x0, x1, x2, x3, x4, x5, x6⟩ := (HN.out.kept HR1.out).cells i hlt
      rw [HP.out] at x0
      have q0 := bwOf_cell w1 _ _ x0
      have q1 := bwOf_cell w1 _ _ x1
      have q2 := bwOf_cell w1 _ _ x4
      have q3 := bwOf_cell w1 _ _ x5
      have q4 := bwOf_cell w1 _ _ x6
      clear x1 x2 x3 x4 x5 x6 x0
      go_wp2_with fail
      refine wp_region_bw (w := w1) (by kernel_rfl) (by kernel_rfl) ?_
      repeat (go_big_quiet_step ((first | (go_at_call 11; exact below_of (same_below (size_no _ _ _ (NP.out _ (bwOf_below _ _))))))))
      refine wpQuiet_nil ?_
      rintro w2 ⟨m2, hm2⟩
      have HR2 : Hid (Below W.heap.size W w2) := by show Below _ _ _; rw [hm2]; exact below_next HR1.out (bwOf_below _ _)
      clear NP q0 q1 q2 q3 q4 hm2 m2
      have NP : Hid (∀ w', Below w2.heap.size w2 w' → NoDisk w' p) := fun w' h => by rw [← HP.out]; exact ((HN.out.kept HR2.out).kept h).no i
      obtain ⟨x0, x1, x2, x3, x4, x5, x6⟩ := (HN.out.kept HR2.out).cells i hlt
      rw [HP.out] at x0
      have q0 := bwOf_cell w2 _ _ x0
      have q1 := bwOf_cell w2 _ _ x1
      have q2 := bwOf_cell w2 _ _ x4
      have q3 := bwOf_cell w2 _ _ x5
      have q4 := bwOf_cell w2 _ _ x6
      clear x1 x2 x3 x4 x5 x6 x0
      go_wp2_with fail
      refine wp_region_bw (w := w2) (by kernel_rfl) (by kernel_rfl) ?_
      repeat (go_big_quiet_step ((first | (go_at_call 12; exact below_of (same_below (fail_no _ _ _ _ (NP.out _ (bwOf_below _ _))))))))
      refine wpQuiet_nil ?_
      rintro w3 ⟨m3, hm3⟩
      have HR3 : Hid (Below W.heap.size W w3) := by show Below _ _ _; rw [hm3]; exact below_next HR2.out (bwOf_below _ _)
      clear NP q0 q1 q2 q3 q4 hm3 m3
      have NP : Hid (∀ w', Below w3.heap.size w3 w' → NoDisk w' p) := fun w' h => by rw [← HP.out]; exact ((HN.out.kept HR3.out).kept h).no i
      obtain ⟨x0, x1, x2, x3, x4, x5, x6⟩ := (HN.out.kept HR3.out).cells i hlt
      rw [HP.out] at x0
      have q0 := bwOf_cell w3 _ _ x0
      have q1 := bwOf_cell w3 _ _ x1
      have q2 := bwOf_cell w3 _ _ x4
      have q3 := bwOf_cell w3 _ _ x5
      have q4 := bwOf_cell w3 _ _ x6
      clear x1 x2 x3 x4 x5 x6 x0
      go_wp2_with fail
      refine wp_region_bw (w := w3) (by kernel_rfl) (by kernel_rfl) ?_
      repeat (go_big_quiet_step ((first | (go_at_call 13; exact below_of (same_below (list_no _ _ (NP.out _ (bwOf_below _ _))))) | (go_at_call 14; exact below_of (same_below (left_no _ _ (NP.out _ (bwOf_below _ _))))))))
      refine wpQuiet_nil ?_
      rintro w4 ⟨m4, hm4⟩
      have HR4 : Hid (Below W.heap.size W w4) := by show Below _ _ _; rw [hm4]; exact below_next HR3.out (bwOf_below _ _)
      clear NP q0 q1 q2 q3 q4 hm4 m4
      obtain ⟨x0, x1, x2, x3, x4, x5, x6⟩ := (HN.out.kept HR4.out).cells i hlt
      rw [HP.out] at x0
      have NP : Hid (∀ w', Below w4.heap.size w4 w' → NoDisk w' p) := fun w' h => by rw [← HP.out]; exact ((HN.out.kept HR4.out).kept h).no i
      have mixed : Try.prog.follows .mixedOrders = true := by kernel_rfl
      go_wp2_with fail
      go_region_held3 (fun x => x.cell? ⟨L, i, none⟩ = some p ∧ x.cell? ⟨A, 1, none⟩ = some (.string nm) ∧ x.cell? ⟨A, 2, none⟩ = some (.string to) ∧ x.cell? ⟨A, 3, none⟩ = some (.slice ao bn bc))
        (first | (guard_hyp S5; exact S5.out) | go_keep)
        ((first
        | (go_at_call 15; refine (create_no _ _ _ (NP.out _ (Below.refl _ _).drew)).mono ?_; rintro e5 w5 ⟨rfl, rfl⟩)
        | (go_at_call 16; refine (remove_no _ _ _ (NP.out _ (Below.refl _ _).drew)).mono ?_; rintro e5 w5 ⟨rfl, rfl⟩)
        | (go_at_call 17; refine (rename_no _ _ _ _ (NP.out _ (Below.refl _ _).drew)).mono ?_; rintro e5 w5 ⟨rfl, b5⟩; have B5 := Lib.hid (Below.trans (Below.refl _ _).drew b5 : Below w4.heap.size w4 w5); have S5 := Lib.hid (nil_loads (HN.out.kept (below_next HR4.out B5.out)) hlt HP.out); clear b5)
        | (go_at_call 18; refine (append_no _ _ _ _ (NP.out _ B5.out)).mono ?_; rintro e6 w6 ⟨rfl, rfl⟩)
        | (go_at_call 19; refine (sync_no _ _ _ (NP.out _ B5.out)).mono ?_; rintro e6 w6 ⟨rfl, rfl⟩)
        | (go_at_call 20; refine (names_no _ _ (NP.out _ B5.out)).mono ?_; rintro e6 w6 ⟨rfl, rfl⟩)))
      go_wp2_with fail
      obtain ⟨W6, hW6⟩ : ∃ W6, W6 = w5.alloc (.cells #[.int .i64 2, .int .i64 2, .int .i64 2, .int .i64 2, .int .i64 2, .int .i64 2] 31) := ⟨_, rfl⟩
      have hc6 : ∀ j, j < 6 → W6.cell? ⟨w5.heap.size, j, none⟩ = some (.int .i64 2) := by
        intro j hj
        rw [hW6, cell_of_block (heap_alloc_new w5 _)]
        match j, hj with
        | 0, _ => rfl
        | 1, _ => rfl
        | 2, _ => rfl
        | 3, _ => rfl
        | 4, _ => rfl
        | 5, _ => rfl
      have hb6 : Below W.heap.size W W6 := by rw [hW6]; exact below_next HR4.out (B5.out.trans ((Below.refl _ w5).alloc B5.out.size _))
      have HC6 := Lib.hid hc6
      have HB6 := Lib.hid hb6
      rw [← hW6]
      obtain ⟨B, hBq⟩ : ∃ B, B = w5.heap.size := ⟨_, rfl⟩
      rw [← hBq] at HC6
      rw [← hBq]
      clear hc6 hb6 hW6 hBq S5 B5 NP
      go_loop [13] (fun j => ∃ j' : Nat, j' ≤ 6 ∧ j = .int .i64 j') (fun j => 6 - (RowKit.intOf j).toNat)
      case atStart => exact ⟨0, by omega, rfl⟩
      case round =>
        obtain ⟨j, hj, rfl⟩ := hrel
        by_cases hlt6 : j < 6
        · have hc := HC6.out j hlt6
          go_wp2
          go_round
          case rel => exact ⟨j + 1, by omega, by go_num⟩
          case measure => simp [RowKit.intOf]; omega
        · obtain rfl : j = 6 := by omega
          go_wp2
          go_roundw
          case rel => exact ⟨i + 1, by omega, by go_num, HB6⟩
          case measure => simp [RowKit.intOf]; omega
    · obtain rfl : i = 2 := by omega
      go_wp2
      go_ret
      exact ⟨rfl, HB.out.trans (HR.out.mono HB.out.size)⟩
theorem walk_FilesNil (k : Int) (nm to : ByteArray) (ao : Option Addr) (bn bc : Nat) (z : List Nat) (a n : Int) (names : Bool) (w : World) (_ : (Lit.int .u8 k).wf = true) (_ : nm.size ≤ 140737488351232) (_ : to.size ≤ 140737488351232) (_ : Row8 w ao bn bc z) (_ : (Lit.int .i64 a).wf = true) (_ : (Lit.int .i64 n).wf = true) :
    Calls Try.prog 3 #[.agg #[.int .u8 k, .string nm, .string to, .slice ao bn bc, .int .i64 a, .int .i64 n, .bool names]] w fun e w' => e = .returned (.bool true) ∧ Below w.heap.size w w' :=
  walkN_FilesNil k nm to ao bn bc a n names w
end Go.Proofs.Ytdeggklfjdgfjaa
