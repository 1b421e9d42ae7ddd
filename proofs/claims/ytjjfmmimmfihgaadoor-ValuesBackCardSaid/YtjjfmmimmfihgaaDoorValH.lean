/-
  WHAT IS PROVED: contracts of Truth, NOT, and the operators of one value.
-/
import Derived.Test.YtjjfmmimmfihgaaDoorValG
namespace Go.Proofs.YtjjfmmimmfihgaaDoor
open Go.RowKit Go.Lib

theorem below_drewN {w w' : World} {B : Nat} (h : Below B w w') (n : Nat) : Below B w (w'.drewN n) := ⟨h.os, h.tape, h.output, h.size, h.block⟩

def Tells (r : Bool × Bool × Nat) (w : World) (e : Ending) (w' : World) : Prop :=
  e = .returned (.tuple #[.bool r.1, .bool r.2.1, .int .i64 (r.2.2 : Int)]) ∧ Below w.heap.size w w'

set_option maxHeartbeats 1000000 in
theorem truthOf_any (k : Nat) (i : Int) (s : ByteArray) (w : World) (hk : k < 256) :
    Calls Tryd.prog 42 #[.agg #[.int .u8 (k : Int), .int .i64 i, .string s]] w (Tells (Val.truth ⟨k, i, s⟩) w) := by
  by_cases hf : Val.fine ⟨k, i, s⟩ = true
  · have hr : Val.truth ⟨k, i, s⟩ = if k = 2 then (false, false, 11) else (!decide (i = 0), k == 1, 0) := if_neg (by rw [hf]; simp)
    rw [hr]
    clear hr
    by_cases h2 : k = 2
    · subst h2
      rw [if_pos rfl]
      go_enter Tryd.func42, Tryd.ntmps42
      go_wp2_with (go_at_call 32; refine (check_any _ _ _ _ hk).mono ?_; rw [hf]; rintro e w1 ⟨rfl, hb⟩; obtain ⟨hc, hg⟩ := bcell hb)
      go_ret3
      exact ⟨rfl, below_step (Below.refl _ _) hb⟩
    · have h2' : ((k : Int) == 2) = false := by rw [beq_eq_false_iff_ne]; omega
      rw [if_neg h2]
      go_enter Tryd.func42, Tryd.ntmps42
      go_wp2_with (go_at_call 32; refine (check_any _ _ _ _ hk).mono ?_; rw [hf]; rintro e w1 ⟨rfl, hb⟩; obtain ⟨hc, hg⟩ := bcell hb)
      have c0 := (hc w.heap.size 0 (by simp)).trans (cell_of_block (heap_alloc_new w (.cells #[.int .u8 (k : Int), .int .i64 i, .string s] 25)) 0)
      have c1 := (hc w.heap.size 1 (by simp)).trans (cell_of_block (heap_alloc_new w (.cells #[.int .u8 (k : Int), .int .i64 i, .string s] 25)) 1)
      simp at c0 c1
      clear hc hg
      go_quiet (fail)
      go_wp2
      go_ret3
      refine ⟨?_, below_drewN (below_step (Below.refl _ _) hb) _⟩
      have e1 : (i != 0) = !decide (i = 0) := by rw [Bool.eq_iff_iff]; simp
      have e2 : ((k : Int) == 1) = (k == 1) := by rw [Bool.eq_iff_iff]; simp; omega
      simp [e1, e2]
  · rw [Bool.not_eq_true] at hf
    have hr : Val.truth ⟨k, i, s⟩ = (false, false, 1) := if_pos hf
    rw [hr]
    clear hr
    go_enter Tryd.func42, Tryd.ntmps42
    go_wp2_with (go_at_call 32; refine (check_any _ _ _ _ hk).mono ?_; rw [hf]; rintro e w1 ⟨rfl, hb⟩; obtain ⟨hc, hg⟩ := bcell hb)
    go_ret3
    exact ⟨rfl, below_step (Below.refl _ _) hb⟩

theorem below_size2 {w w' : World} {a b : Obj} (h : Below ((w.alloc a).alloc b).heap.size ((w.alloc a).alloc b) w') : w.heap.size < w'.heap.size ∧ w.heap.size + 1 < w'.heap.size := by
  have := h.size
  simp at this
  omega

set_option maxRecDepth 100000 in
set_option maxHeartbeats 2000000 in
theorem not_any (k : Nat) (i : Int) (s : ByteArray) (w : World) (hk : k < 256) (hf : Val.fine ⟨k, i, s⟩ = true) :
    Calls Tryd.prog 61 #[.agg #[.int .u8 (k : Int), .int .i64 i, .string s]] w (Gives (Val.one 2 ⟨k, i, s⟩) w) := by
  have ht := fun w => truthOf_any k i s w hk
  rcases Val.fine_cases hf with h | ⟨n, h⟩ | ⟨t, h, _⟩
  · obtain ⟨rfl, rfl, rfl⟩ := Val.mk.inj h
    have hr : Val.one 2 ⟨0, 0, noS⟩ = (Val.nil, 0) := rfl
    have hr2 : Val.truth ⟨0, 0, noS⟩ = (false, false, 0) := rfl
    rw [hr]
    rw [hr2] at ht
    clear hr hr2 hf
    go_enter Tryd.func61, Tryd.ntmps61
    go_wp2_with (go_at_call 42; refine (ht _).mono ?_; rintro e w1 ⟨rfl, hb⟩; obtain ⟨hc, hg⟩ := bcell hb; obtain ⟨z0, z1⟩ := below_size2 hb)
    exact bodyPost_ret (v := .tuple #[.agg #[.int .u8 0, .int .i64 0, .string ⟨#[]⟩], .int .i64 0]) (by simp [results, go_sem, hc]) rfl ⟨rfl, below_set3 (b := w.heap.size + 1) (below_two hb) (by omega) _ _ _⟩
  · obtain ⟨rfl, rfl, rfl⟩ := Val.mk.inj h
    have hr : Val.one 2 ⟨1, i, noS⟩ = (Val.yes (decide (i = 0)), 0) := rfl
    have hr2 : Val.truth ⟨1, i, noS⟩ = (!decide (i = 0), true, 0) := rfl
    rw [hr]
    rw [hr2] at ht
    clear hr hr2 hf h
    generalize decide (i = 0) = y at *
    go_enter Tryd.func61, Tryd.ntmps61
    go_wp2_with (first | (go_at_call 42; refine (ht _).mono ?_; rintro e w1 ⟨rfl, hb⟩; obtain ⟨hc, hg⟩ := bcell hb; obtain ⟨z0, z1⟩ := below_size2 hb) | (go_at_call 52; refine (truth_any _ _).mono ?_; rintro e w2 ⟨rfl, hb2⟩; obtain ⟨hc2, hg2⟩ := bcell hb2; have y1 := Nat.lt_of_lt_of_le z1 hb2.size))
    exact bodyPost_ret (v := .tuple #[.agg #[.int .u8 1, .int .i64 (bitI y), .string ⟨#[]⟩], .int .i64 0]) (by simp [results, go_sem, hc, z1, hc2]) rfl ⟨rfl, below_set3 (b := w.heap.size + 1) (below_next (below_two hb) hb2) (by omega) _ _ _⟩
  · obtain ⟨rfl, rfl, rfl⟩ := Val.mk.inj h
    have hr : Val.one 2 ⟨2, 0, s⟩ = (Val.nil, 11) := by unfold Val.one; rw [hf]; rfl
    have hr2 : Val.truth ⟨2, 0, s⟩ = (false, false, 11) := by unfold Val.truth; rw [hf]; rfl
    rw [hr]
    rw [hr2] at ht
    clear hr hr2 hf
    go_enter Tryd.func61, Tryd.ntmps61
    go_wp2_with (go_at_call 42; refine (ht _).mono ?_; rintro e w1 ⟨rfl, hb⟩; obtain ⟨hc, hg⟩ := bcell hb; obtain ⟨z0, z1⟩ := below_size2 hb)
    exact bodyPost_ret (v := .tuple #[.agg #[.int .u8 0, .int .i64 0, .string ⟨#[]⟩], .int .i64 11]) (by simp [results, go_sem, hc]) rfl ⟨rfl, below_set3 (b := w.heap.size + 1) (below_two hb) (by omega) _ _ _⟩

set_option maxRecDepth 100000 in
set_option maxHeartbeats 2000000 in
theorem isNull_any (k : Nat) (i : Int) (s : ByteArray) (w : World) (_hk : k < 256) (hf : Val.fine ⟨k, i, s⟩ = true) :
    Calls Tryd.prog 62 #[.agg #[.int .u8 (k : Int), .int .i64 i, .string s]] w (Gives (Val.one 3 ⟨k, i, s⟩) w) := by
  have hr : Val.one 3 ⟨k, i, s⟩ = (Val.yes (k == 0), 0) := by unfold Val.one; rw [hf]; rfl
  rw [hr]
  clear hr hf
  have hk0 : ((k : Int) == 0) = (k == 0) := by rw [Bool.eq_iff_iff]; simp
  rw [← hk0]
  clear hk0
  go_enter Tryd.func62, Tryd.ntmps62
  go_wp2_with (go_at_call 52; refine (truth_any _ _).mono ?_; rintro e w1 ⟨rfl, hb⟩; obtain ⟨hc, hg⟩ := bcell hb; obtain ⟨z0, z1⟩ := below_size2 hb)
  exact bodyPost_ret (v := .tuple #[.agg #[.int .u8 1, .int .i64 (bitI ((k : Int) == 0)), .string ⟨#[]⟩], .int .i64 0]) (by simp [results, go_sem, hc]) rfl ⟨rfl, below_set3 (b := w.heap.size + 1) (below_two hb) (by omega) _ _ _⟩
set_option maxRecDepth 100000 in
set_option maxHeartbeats 2000000 in
theorem notNull_any (k : Nat) (i : Int) (s : ByteArray) (w : World) (_hk : k < 256) (hf : Val.fine ⟨k, i, s⟩ = true) :
    Calls Tryd.prog 63 #[.agg #[.int .u8 (k : Int), .int .i64 i, .string s]] w (Gives (Val.one 4 ⟨k, i, s⟩) w) := by
  have hr : Val.one 4 ⟨k, i, s⟩ = (Val.yes (k != 0), 0) := by unfold Val.one; rw [hf]; rfl
  rw [hr]
  clear hr hf
  have hk0 : ((k : Int) != 0) = (k != 0) := by rw [Bool.eq_iff_iff]; simp
  rw [← hk0]
  clear hk0
  go_enter Tryd.func63, Tryd.ntmps63
  go_wp2_with (go_at_call 52; refine (truth_any _ _).mono ?_; rintro e w1 ⟨rfl, hb⟩; obtain ⟨hc, hg⟩ := bcell hb; obtain ⟨z0, z1⟩ := below_size2 hb)
  exact bodyPost_ret (v := .tuple #[.agg #[.int .u8 1, .int .i64 (bitI ((k : Int) != 0)), .string ⟨#[]⟩], .int .i64 0]) (by simp [results, go_sem, hc]) rfl ⟨rfl, below_set3 (b := w.heap.size + 1) (below_two hb) (by omega) _ _ _⟩
end Go.Proofs.YtjjfmmimmfihgaaDoor
