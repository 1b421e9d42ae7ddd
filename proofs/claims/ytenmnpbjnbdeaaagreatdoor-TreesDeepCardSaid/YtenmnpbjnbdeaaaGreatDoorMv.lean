/-
  WHAT IS PROVED: which expressions may be: the parts of the check. what an expression has beside the fields of its kind. which expressions may be, so deep at most.
-/
import Derived.Test.YtenmnpbjnbdeaaaGreatDoorMt
namespace Go.Proofs.YtenmnpbjnbdeaaaGreatDoor
section
open Go.RowKit Go.Shelf
set_option linter.unusedVariables false

def noneA (a : Atom) (n : Nat) : Bool := a.kind == 0 && a.op == 0 && a.table == [] && a.name == [] && a.plain && !a.star && n == 0
theorem noneE_is (x : Ex) : noneE x = noneA x.a x.l.len := rfl
theorem strU_T (l : List UInt8) : (strU l).toList = l := by rw [Lib.toList_data]; rfl
set_option maxRecDepth 100000 in
set_option maxHeartbeats 4000000 in
theorem noExpr_tr (a : Atom) (ao : Option Addr) (n c : Nat) (w : World) :
    Calls Tryz.prog 70 #[exVal a (.slice ao n c)] w fun e w' => e = .returned (.bool (noneA a n)) ∧ Below w.heap.size w w' := by
  unfold exVal
  go_enter Tryz.func70, Tryz.ntmps70
  go_wp2
  all_goals go_ret
  all_goals (refine ⟨?_, below_alloc _ _⟩)
  all_goals (simp_all [noneA, Atom.plain, strU_T] <;> (rw [Bool.eq_iff_iff]; simp))
set_option maxRecDepth 100000 in
set_option maxHeartbeats 4000000 in
theorem literal_1 (a : Atom) (w : World) (hk : a.vk = 1) :
    Calls Tryz.prog 148 #[.agg #[.int .u8 (a.vk : Int), .int .i64 a.vi, .string (strU a.vs)]] w fun e w' => e = .returned (.bool (litB a)) ∧ Below w.heap.size w w' := by
  have hsz : (strU a.vs).size = a.vs.length := rfl
  have hd : decide ((a.vs.length : Int) ≤ 512) = decide (a.vs.length ≤ 512) := decide_eq_decide.2 (by omega)
  have k1 : ((a.vk : Int) == 1) = true := by rw [hk]; rfl
  have k2 : ((a.vk : Int) == 2) = false := by rw [beq_eq_false_iff_ne]; omega
  go_enter Tryz.func148, Tryz.ntmps148
  go_wp2
  all_goals go_ret
  all_goals (refine ⟨?_, below_alloc _ _⟩)
  all_goals clear k1 k2
  all_goals (simp_all [litB, Atom.plain, strU_T] <;> (intros; omega))
set_option maxRecDepth 100000 in
set_option maxHeartbeats 4000000 in
theorem literal_2 (a : Atom) (w : World) (hk : a.vk = 2) :
    Calls Tryz.prog 148 #[.agg #[.int .u8 (a.vk : Int), .int .i64 a.vi, .string (strU a.vs)]] w fun e w' => e = .returned (.bool (litB a)) ∧ Below w.heap.size w w' := by
  have hsz : (strU a.vs).size = a.vs.length := rfl
  have hd : decide ((a.vs.length : Int) ≤ 512) = decide (a.vs.length ≤ 512) := decide_eq_decide.2 (by omega)
  have k1 : ((a.vk : Int) == 1) = false := by rw [beq_eq_false_iff_ne]; omega
  have k2 : ((a.vk : Int) == 2) = true := by rw [hk]; rfl
  go_enter Tryz.func148, Tryz.ntmps148
  go_wp2
  all_goals go_ret
  all_goals (refine ⟨?_, below_alloc _ _⟩)
  all_goals clear k1 k2
  all_goals (simp_all [litB, Atom.plain, strU_T] <;> (intros; omega))
set_option maxRecDepth 100000 in
set_option maxHeartbeats 4000000 in
theorem literal_3 (a : Atom) (w : World) (hk : a.vk ≠ 1) (hk2 : a.vk ≠ 2) :
    Calls Tryz.prog 148 #[.agg #[.int .u8 (a.vk : Int), .int .i64 a.vi, .string (strU a.vs)]] w fun e w' => e = .returned (.bool (litB a)) ∧ Below w.heap.size w w' := by
  have hsz : (strU a.vs).size = a.vs.length := rfl
  have hd : decide ((a.vs.length : Int) ≤ 512) = decide (a.vs.length ≤ 512) := decide_eq_decide.2 (by omega)
  have k1 : ((a.vk : Int) == 1) = false := by rw [beq_eq_false_iff_ne]; omega
  have k2 : ((a.vk : Int) == 2) = false := by rw [beq_eq_false_iff_ne]; omega
  go_enter Tryz.func148, Tryz.ntmps148
  go_wp2
  all_goals go_ret
  all_goals (refine ⟨?_, below_alloc _ _⟩)
  all_goals clear k1 k2
  all_goals (simp_all [litB, Atom.plain, strU_T] <;> (intros; omega))
theorem literal_may (a : Atom) (w : World) :
    Calls Tryz.prog 148 #[.agg #[.int .u8 (a.vk : Int), .int .i64 a.vi, .string (strU a.vs)]] w fun e w' => e = .returned (.bool (litB a)) ∧ Below w.heap.size w w' := by
  by_cases h1 : a.vk = 1
  · exact literal_1 a w h1
  · by_cases h2 : a.vk = 2
    · exact literal_2 a w h2
    · exact literal_3 a w h1 h2
set_option maxRecDepth 100000 in
set_option maxHeartbeats 4000000 in
theorem alias_may (l : List UInt8) (w : World) (hl : l.length ≤ 9223372036854775000) :
    Calls Tryz.prog 149 #[.string (strU l)] w fun e w' => e = .returned (.bool (aliasB l)) ∧ Below w.heap.size w w' := by
  have hN := fun w => name_is (strU l) w (by rw [strU_size]; exact hl)
  rw [strU_data] at hN
  go_enter Tryz.func149, Tryz.ntmps149
  go_wp2_with (go_at_call 22; refine (hN _).mono ?_; rintro e w1 ⟨rfl, hb⟩)
  all_goals go_ret
  all_goals (first | (refine ⟨?_, Below.refl _ _⟩; simp_all [aliasB, strU_T]; done) | (refine ⟨?_, hb⟩; simp_all [aliasB, strU_T]; done))
set_option maxRecDepth 100000 in
set_option maxHeartbeats 4000000 in
theorem shape_0 (a : Atom) (ao : Option Addr) (n c : Nat) (w : World) (ht : a.table.length ≤ 9223372036854775000) (hm : a.name.length ≤ 9223372036854775000) (hk : a.kind = 0) :
    Calls Tryz.prog 120 #[exVal a (.slice ao n c)] w fun e w' => e = .returned (.bool (shapeB a n)) ∧ Below w.heap.size w w' := by
  have hN := fun w => name_is (strU a.name) w (by rw [strU_size]; exact hm)
  rw [strU_data] at hN
  have hA := fun w => alias_may a.table w ht
  have hL := fun w => literal_may a w
  have k1 : ((a.kind : Int) == 1) = false := by rw [beq_eq_false_iff_ne]; omega
  have k2 : ((a.kind : Int) == 2) = false := by rw [beq_eq_false_iff_ne]; omega
  have k3 : ((a.kind : Int) == 3) = false := by rw [beq_eq_false_iff_ne]; omega
  have k4 : ((a.kind : Int) == 4) = false := by rw [beq_eq_false_iff_ne]; omega
  have k5 : ((a.kind : Int) == 5) = false := by rw [beq_eq_false_iff_ne]; omega
  have k6 : ((a.kind : Int) == 6) = false := by rw [beq_eq_false_iff_ne]; omega
  unfold exVal
  go_enter Tryz.func120, Tryz.ntmps120
  go_wp2_with (first
    | (go_at_call 22; refine (hN _).mono ?_; rintro e w1 ⟨rfl, hb⟩; (try have q7 : w1.cell? ⟨w.heap.size, 7, none⟩ = some (.bool a.star) := (World.cell?_of_block (hb.block w.heap.size (by simp))).trans (bk_cell (heap_alloc_new w _) 7)); (try have q8 : w1.cell? ⟨w.heap.size, 8, none⟩ = some (.slice ao n c) := (World.cell?_of_block (hb.block w.heap.size (by simp))).trans (bk_cell (heap_alloc_new w _) 8)))
    | (go_at_call 149; refine (hA _).mono ?_; rintro e w2 ⟨rfl, hb2⟩; have q3 : w2.cell? ⟨w.heap.size, 3, none⟩ = some (.string (strU a.name)) := (World.cell?_of_block (hb2.block w.heap.size (by simp))).trans (bk_cell (heap_alloc_new w _) 3))
    | (go_at_call 148; refine (hL _).mono ?_; rintro e w3 ⟨rfl, hb3⟩))
  all_goals go_ret
  all_goals (clear k1 k2 k3 k4 k5 k6 hN hA hL)
  all_goals (first
    | (refine ⟨?_, below_alloc _ _⟩)
    | (refine ⟨?_, (below_alloc _ _).trans (hb.mono (by simp))⟩)
    | (refine ⟨?_, (below_alloc _ _).trans (hb3.mono (by simp))⟩)
    | (refine ⟨?_, ((below_alloc _ _).trans (hb2.mono (by simp))).trans (hb.mono (Nat.le_trans (by simp) hb2.size))⟩)
    | (refine ⟨?_, (below_alloc _ _).trans (hb2.mono (by simp))⟩))
  all_goals (simp_all [shapeB, strU_T] <;> (first | (intros; omega) | (intros; exfalso; omega) | (rw [Bool.eq_iff_iff]; simp; omega)))
set_option maxRecDepth 100000 in
set_option maxHeartbeats 4000000 in
theorem shape_1 (a : Atom) (ao : Option Addr) (n c : Nat) (w : World) (ht : a.table.length ≤ 9223372036854775000) (hm : a.name.length ≤ 9223372036854775000) (hk : a.kind = 1) :
    Calls Tryz.prog 120 #[exVal a (.slice ao n c)] w fun e w' => e = .returned (.bool (shapeB a n)) ∧ Below w.heap.size w w' := by
  have hN := fun w => name_is (strU a.name) w (by rw [strU_size]; exact hm)
  rw [strU_data] at hN
  have hA := fun w => alias_may a.table w ht
  have hL := fun w => literal_may a w
  have k1 : ((a.kind : Int) == 1) = true := by rw [hk]; rfl
  have k2 : ((a.kind : Int) == 2) = false := by rw [beq_eq_false_iff_ne]; omega
  have k3 : ((a.kind : Int) == 3) = false := by rw [beq_eq_false_iff_ne]; omega
  have k4 : ((a.kind : Int) == 4) = false := by rw [beq_eq_false_iff_ne]; omega
  have k5 : ((a.kind : Int) == 5) = false := by rw [beq_eq_false_iff_ne]; omega
  have k6 : ((a.kind : Int) == 6) = false := by rw [beq_eq_false_iff_ne]; omega
  unfold exVal
  go_enter Tryz.func120, Tryz.ntmps120
  go_wp2_with (first
    | (go_at_call 22; refine (hN _).mono ?_; rintro e w1 ⟨rfl, hb⟩; (try have q7 : w1.cell? ⟨w.heap.size, 7, none⟩ = some (.bool a.star) := (World.cell?_of_block (hb.block w.heap.size (by simp))).trans (bk_cell (heap_alloc_new w _) 7)); (try have q8 : w1.cell? ⟨w.heap.size, 8, none⟩ = some (.slice ao n c) := (World.cell?_of_block (hb.block w.heap.size (by simp))).trans (bk_cell (heap_alloc_new w _) 8)))
    | (go_at_call 149; refine (hA _).mono ?_; rintro e w2 ⟨rfl, hb2⟩; have q3 : w2.cell? ⟨w.heap.size, 3, none⟩ = some (.string (strU a.name)) := (World.cell?_of_block (hb2.block w.heap.size (by simp))).trans (bk_cell (heap_alloc_new w _) 3))
    | (go_at_call 148; refine (hL _).mono ?_; rintro e w3 ⟨rfl, hb3⟩))
  all_goals go_ret
  all_goals (clear k1 k2 k3 k4 k5 k6 hN hA hL)
  all_goals (first
    | (refine ⟨?_, below_alloc _ _⟩)
    | (refine ⟨?_, (below_alloc _ _).trans (hb.mono (by simp))⟩)
    | (refine ⟨?_, (below_alloc _ _).trans (hb3.mono (by simp))⟩)
    | (refine ⟨?_, ((below_alloc _ _).trans (hb2.mono (by simp))).trans (hb.mono (Nat.le_trans (by simp) hb2.size))⟩)
    | (refine ⟨?_, (below_alloc _ _).trans (hb2.mono (by simp))⟩))
  all_goals (simp_all [shapeB, strU_T] <;> (first | (intros; omega) | (intros; exfalso; omega) | (rw [Bool.eq_iff_iff]; simp; omega)))
set_option maxRecDepth 100000 in
set_option maxHeartbeats 4000000 in
theorem shape_2 (a : Atom) (ao : Option Addr) (n c : Nat) (w : World) (ht : a.table.length ≤ 9223372036854775000) (hm : a.name.length ≤ 9223372036854775000) (hk : a.kind = 2) :
    Calls Tryz.prog 120 #[exVal a (.slice ao n c)] w fun e w' => e = .returned (.bool (shapeB a n)) ∧ Below w.heap.size w w' := by
  have hN := fun w => name_is (strU a.name) w (by rw [strU_size]; exact hm)
  rw [strU_data] at hN
  have hA := fun w => alias_may a.table w ht
  have hL := fun w => literal_may a w
  have k1 : ((a.kind : Int) == 1) = false := by rw [beq_eq_false_iff_ne]; omega
  have k2 : ((a.kind : Int) == 2) = true := by rw [hk]; rfl
  have k3 : ((a.kind : Int) == 3) = false := by rw [beq_eq_false_iff_ne]; omega
  have k4 : ((a.kind : Int) == 4) = false := by rw [beq_eq_false_iff_ne]; omega
  have k5 : ((a.kind : Int) == 5) = false := by rw [beq_eq_false_iff_ne]; omega
  have k6 : ((a.kind : Int) == 6) = false := by rw [beq_eq_false_iff_ne]; omega
  unfold exVal
  go_enter Tryz.func120, Tryz.ntmps120
  go_wp2_with (first
    | (go_at_call 22; refine (hN _).mono ?_; rintro e w1 ⟨rfl, hb⟩; (try have q7 : w1.cell? ⟨w.heap.size, 7, none⟩ = some (.bool a.star) := (World.cell?_of_block (hb.block w.heap.size (by simp))).trans (bk_cell (heap_alloc_new w _) 7)); (try have q8 : w1.cell? ⟨w.heap.size, 8, none⟩ = some (.slice ao n c) := (World.cell?_of_block (hb.block w.heap.size (by simp))).trans (bk_cell (heap_alloc_new w _) 8)))
    | (go_at_call 149; refine (hA _).mono ?_; rintro e w2 ⟨rfl, hb2⟩; have q3 : w2.cell? ⟨w.heap.size, 3, none⟩ = some (.string (strU a.name)) := (World.cell?_of_block (hb2.block w.heap.size (by simp))).trans (bk_cell (heap_alloc_new w _) 3))
    | (go_at_call 148; refine (hL _).mono ?_; rintro e w3 ⟨rfl, hb3⟩))
  all_goals go_ret
  all_goals (clear k1 k2 k3 k4 k5 k6 hN hA hL)
  all_goals (first
    | (refine ⟨?_, below_alloc _ _⟩)
    | (refine ⟨?_, (below_alloc _ _).trans (hb.mono (by simp))⟩)
    | (refine ⟨?_, (below_alloc _ _).trans (hb3.mono (by simp))⟩)
    | (refine ⟨?_, ((below_alloc _ _).trans (hb2.mono (by simp))).trans (hb.mono (Nat.le_trans (by simp) hb2.size))⟩)
    | (refine ⟨?_, (below_alloc _ _).trans (hb2.mono (by simp))⟩))
  all_goals (simp_all [shapeB, strU_T] <;> (first | (intros; omega) | (intros; exfalso; omega) | (rw [Bool.eq_iff_iff]; simp; omega)))
set_option maxRecDepth 100000 in
set_option maxHeartbeats 4000000 in
theorem shape_3 (a : Atom) (ao : Option Addr) (n c : Nat) (w : World) (ht : a.table.length ≤ 9223372036854775000) (hm : a.name.length ≤ 9223372036854775000) (hk : a.kind = 3) :
    Calls Tryz.prog 120 #[exVal a (.slice ao n c)] w fun e w' => e = .returned (.bool (shapeB a n)) ∧ Below w.heap.size w w' := by
  have hN := fun w => name_is (strU a.name) w (by rw [strU_size]; exact hm)
  rw [strU_data] at hN
  have hA := fun w => alias_may a.table w ht
  have hL := fun w => literal_may a w
  have k1 : ((a.kind : Int) == 1) = false := by rw [beq_eq_false_iff_ne]; omega
  have k2 : ((a.kind : Int) == 2) = false := by rw [beq_eq_false_iff_ne]; omega
  have k3 : ((a.kind : Int) == 3) = true := by rw [hk]; rfl
  have k4 : ((a.kind : Int) == 4) = false := by rw [beq_eq_false_iff_ne]; omega
  have k5 : ((a.kind : Int) == 5) = false := by rw [beq_eq_false_iff_ne]; omega
  have k6 : ((a.kind : Int) == 6) = false := by rw [beq_eq_false_iff_ne]; omega
  unfold exVal
  go_enter Tryz.func120, Tryz.ntmps120
  go_wp2_with (first
    | (go_at_call 22; refine (hN _).mono ?_; rintro e w1 ⟨rfl, hb⟩; (try have q7 : w1.cell? ⟨w.heap.size, 7, none⟩ = some (.bool a.star) := (World.cell?_of_block (hb.block w.heap.size (by simp))).trans (bk_cell (heap_alloc_new w _) 7)); (try have q8 : w1.cell? ⟨w.heap.size, 8, none⟩ = some (.slice ao n c) := (World.cell?_of_block (hb.block w.heap.size (by simp))).trans (bk_cell (heap_alloc_new w _) 8)))
    | (go_at_call 149; refine (hA _).mono ?_; rintro e w2 ⟨rfl, hb2⟩; have q3 : w2.cell? ⟨w.heap.size, 3, none⟩ = some (.string (strU a.name)) := (World.cell?_of_block (hb2.block w.heap.size (by simp))).trans (bk_cell (heap_alloc_new w _) 3))
    | (go_at_call 148; refine (hL _).mono ?_; rintro e w3 ⟨rfl, hb3⟩))
  all_goals go_ret
  all_goals (clear k1 k2 k3 k4 k5 k6 hN hA hL)
  all_goals (first
    | (refine ⟨?_, below_alloc _ _⟩)
    | (refine ⟨?_, (below_alloc _ _).trans (hb.mono (by simp))⟩)
    | (refine ⟨?_, (below_alloc _ _).trans (hb3.mono (by simp))⟩)
    | (refine ⟨?_, ((below_alloc _ _).trans (hb2.mono (by simp))).trans (hb.mono (Nat.le_trans (by simp) hb2.size))⟩)
    | (refine ⟨?_, (below_alloc _ _).trans (hb2.mono (by simp))⟩))
  all_goals (simp_all [shapeB, strU_T] <;> (first | (intros; omega) | (intros; exfalso; omega) | (rw [Bool.eq_iff_iff]; simp; omega)))
set_option maxRecDepth 100000 in
set_option maxHeartbeats 4000000 in
theorem shape_4 (a : Atom) (ao : Option Addr) (n c : Nat) (w : World) (ht : a.table.length ≤ 9223372036854775000) (hm : a.name.length ≤ 9223372036854775000) (hk : a.kind = 4) :
    Calls Tryz.prog 120 #[exVal a (.slice ao n c)] w fun e w' => e = .returned (.bool (shapeB a n)) ∧ Below w.heap.size w w' := by
  have hN := fun w => name_is (strU a.name) w (by rw [strU_size]; exact hm)
  rw [strU_data] at hN
  have hA := fun w => alias_may a.table w ht
  have hL := fun w => literal_may a w
  have k1 : ((a.kind : Int) == 1) = false := by rw [beq_eq_false_iff_ne]; omega
  have k2 : ((a.kind : Int) == 2) = false := by rw [beq_eq_false_iff_ne]; omega
  have k3 : ((a.kind : Int) == 3) = false := by rw [beq_eq_false_iff_ne]; omega
  have k4 : ((a.kind : Int) == 4) = true := by rw [hk]; rfl
  have k5 : ((a.kind : Int) == 5) = false := by rw [beq_eq_false_iff_ne]; omega
  have k6 : ((a.kind : Int) == 6) = false := by rw [beq_eq_false_iff_ne]; omega
  unfold exVal
  go_enter Tryz.func120, Tryz.ntmps120
  go_wp2_with (first
    | (go_at_call 22; refine (hN _).mono ?_; rintro e w1 ⟨rfl, hb⟩; (try have q7 : w1.cell? ⟨w.heap.size, 7, none⟩ = some (.bool a.star) := (World.cell?_of_block (hb.block w.heap.size (by simp))).trans (bk_cell (heap_alloc_new w _) 7)); (try have q8 : w1.cell? ⟨w.heap.size, 8, none⟩ = some (.slice ao n c) := (World.cell?_of_block (hb.block w.heap.size (by simp))).trans (bk_cell (heap_alloc_new w _) 8)))
    | (go_at_call 149; refine (hA _).mono ?_; rintro e w2 ⟨rfl, hb2⟩; have q3 : w2.cell? ⟨w.heap.size, 3, none⟩ = some (.string (strU a.name)) := (World.cell?_of_block (hb2.block w.heap.size (by simp))).trans (bk_cell (heap_alloc_new w _) 3))
    | (go_at_call 148; refine (hL _).mono ?_; rintro e w3 ⟨rfl, hb3⟩))
  all_goals go_ret
  all_goals (clear k1 k2 k3 k4 k5 k6 hN hA hL)
  all_goals (first
    | (refine ⟨?_, below_alloc _ _⟩)
    | (refine ⟨?_, (below_alloc _ _).trans (hb.mono (by simp))⟩)
    | (refine ⟨?_, (below_alloc _ _).trans (hb3.mono (by simp))⟩)
    | (refine ⟨?_, ((below_alloc _ _).trans (hb2.mono (by simp))).trans (hb.mono (Nat.le_trans (by simp) hb2.size))⟩)
    | (refine ⟨?_, (below_alloc _ _).trans (hb2.mono (by simp))⟩))
  all_goals (simp_all [shapeB, strU_T] <;> (first | (intros; omega) | (intros; exfalso; omega) | (rw [Bool.eq_iff_iff]; simp; omega)))
set_option maxRecDepth 100000 in
set_option maxHeartbeats 4000000 in
theorem shape_5 (a : Atom) (ao : Option Addr) (n c : Nat) (w : World) (ht : a.table.length ≤ 9223372036854775000) (hm : a.name.length ≤ 9223372036854775000) (hk : a.kind = 5) :
    Calls Tryz.prog 120 #[exVal a (.slice ao n c)] w fun e w' => e = .returned (.bool (shapeB a n)) ∧ Below w.heap.size w w' := by
  have hN := fun w => name_is (strU a.name) w (by rw [strU_size]; exact hm)
  rw [strU_data] at hN
  have hA := fun w => alias_may a.table w ht
  have hL := fun w => literal_may a w
  have k1 : ((a.kind : Int) == 1) = false := by rw [beq_eq_false_iff_ne]; omega
  have k2 : ((a.kind : Int) == 2) = false := by rw [beq_eq_false_iff_ne]; omega
  have k3 : ((a.kind : Int) == 3) = false := by rw [beq_eq_false_iff_ne]; omega
  have k4 : ((a.kind : Int) == 4) = false := by rw [beq_eq_false_iff_ne]; omega
  have k5 : ((a.kind : Int) == 5) = true := by rw [hk]; rfl
  have k6 : ((a.kind : Int) == 6) = false := by rw [beq_eq_false_iff_ne]; omega
  unfold exVal
  go_enter Tryz.func120, Tryz.ntmps120
  go_wp2_with (first
    | (go_at_call 22; refine (hN _).mono ?_; rintro e w1 ⟨rfl, hb⟩; (try have q7 : w1.cell? ⟨w.heap.size, 7, none⟩ = some (.bool a.star) := (World.cell?_of_block (hb.block w.heap.size (by simp))).trans (bk_cell (heap_alloc_new w _) 7)); (try have q8 : w1.cell? ⟨w.heap.size, 8, none⟩ = some (.slice ao n c) := (World.cell?_of_block (hb.block w.heap.size (by simp))).trans (bk_cell (heap_alloc_new w _) 8)))
    | (go_at_call 149; refine (hA _).mono ?_; rintro e w2 ⟨rfl, hb2⟩; have q3 : w2.cell? ⟨w.heap.size, 3, none⟩ = some (.string (strU a.name)) := (World.cell?_of_block (hb2.block w.heap.size (by simp))).trans (bk_cell (heap_alloc_new w _) 3))
    | (go_at_call 148; refine (hL _).mono ?_; rintro e w3 ⟨rfl, hb3⟩))
  all_goals go_ret
  all_goals (clear k1 k2 k3 k4 k5 k6 hN hA hL)
  all_goals (first
    | (refine ⟨?_, below_alloc _ _⟩)
    | (refine ⟨?_, (below_alloc _ _).trans (hb.mono (by simp))⟩)
    | (refine ⟨?_, (below_alloc _ _).trans (hb3.mono (by simp))⟩)
    | (refine ⟨?_, ((below_alloc _ _).trans (hb2.mono (by simp))).trans (hb.mono (Nat.le_trans (by simp) hb2.size))⟩)
    | (refine ⟨?_, (below_alloc _ _).trans (hb2.mono (by simp))⟩))
  all_goals (simp_all [shapeB, strU_T] <;> (first | (intros; omega) | (intros; exfalso; omega) | (rw [Bool.eq_iff_iff]; simp; omega)))
set_option maxRecDepth 100000 in
set_option maxHeartbeats 4000000 in
theorem shape_6 (a : Atom) (ao : Option Addr) (n c : Nat) (w : World) (ht : a.table.length ≤ 9223372036854775000) (hm : a.name.length ≤ 9223372036854775000) (hk : a.kind = 6) :
    Calls Tryz.prog 120 #[exVal a (.slice ao n c)] w fun e w' => e = .returned (.bool (shapeB a n)) ∧ Below w.heap.size w w' := by
  have hN := fun w => name_is (strU a.name) w (by rw [strU_size]; exact hm)
  rw [strU_data] at hN
  have hA := fun w => alias_may a.table w ht
  have hL := fun w => literal_may a w
  have k1 : ((a.kind : Int) == 1) = false := by rw [beq_eq_false_iff_ne]; omega
  have k2 : ((a.kind : Int) == 2) = false := by rw [beq_eq_false_iff_ne]; omega
  have k3 : ((a.kind : Int) == 3) = false := by rw [beq_eq_false_iff_ne]; omega
  have k4 : ((a.kind : Int) == 4) = false := by rw [beq_eq_false_iff_ne]; omega
  have k5 : ((a.kind : Int) == 5) = false := by rw [beq_eq_false_iff_ne]; omega
  have k6 : ((a.kind : Int) == 6) = true := by rw [hk]; rfl
  unfold exVal
  go_enter Tryz.func120, Tryz.ntmps120
  go_wp2_with (first
    | (go_at_call 22; refine (hN _).mono ?_; rintro e w1 ⟨rfl, hb⟩; (try have q7 : w1.cell? ⟨w.heap.size, 7, none⟩ = some (.bool a.star) := (World.cell?_of_block (hb.block w.heap.size (by simp))).trans (bk_cell (heap_alloc_new w _) 7)); (try have q8 : w1.cell? ⟨w.heap.size, 8, none⟩ = some (.slice ao n c) := (World.cell?_of_block (hb.block w.heap.size (by simp))).trans (bk_cell (heap_alloc_new w _) 8)))
    | (go_at_call 149; refine (hA _).mono ?_; rintro e w2 ⟨rfl, hb2⟩; have q3 : w2.cell? ⟨w.heap.size, 3, none⟩ = some (.string (strU a.name)) := (World.cell?_of_block (hb2.block w.heap.size (by simp))).trans (bk_cell (heap_alloc_new w _) 3))
    | (go_at_call 148; refine (hL _).mono ?_; rintro e w3 ⟨rfl, hb3⟩))
  all_goals go_ret
  all_goals (clear k1 k2 k3 k4 k5 k6 hN hA hL)
  all_goals (first
    | (refine ⟨?_, below_alloc _ _⟩)
    | (refine ⟨?_, (below_alloc _ _).trans (hb.mono (by simp))⟩)
    | (refine ⟨?_, (below_alloc _ _).trans (hb3.mono (by simp))⟩)
    | (refine ⟨?_, ((below_alloc _ _).trans (hb2.mono (by simp))).trans (hb.mono (Nat.le_trans (by simp) hb2.size))⟩)
    | (refine ⟨?_, (below_alloc _ _).trans (hb2.mono (by simp))⟩))
  all_goals (simp_all [shapeB, strU_T] <;> (first | (intros; omega) | (intros; exfalso; omega) | (rw [Bool.eq_iff_iff]; simp; omega)))
set_option maxRecDepth 100000 in
set_option maxHeartbeats 4000000 in
theorem shape_7 (a : Atom) (ao : Option Addr) (n c : Nat) (w : World) (ht : a.table.length ≤ 9223372036854775000) (hm : a.name.length ≤ 9223372036854775000) (hk : 7 ≤ a.kind) :
    Calls Tryz.prog 120 #[exVal a (.slice ao n c)] w fun e w' => e = .returned (.bool (shapeB a n)) ∧ Below w.heap.size w w' := by
  have hN := fun w => name_is (strU a.name) w (by rw [strU_size]; exact hm)
  rw [strU_data] at hN
  have hA := fun w => alias_may a.table w ht
  have hL := fun w => literal_may a w
  have k1 : ((a.kind : Int) == 1) = false := by rw [beq_eq_false_iff_ne]; omega
  have k2 : ((a.kind : Int) == 2) = false := by rw [beq_eq_false_iff_ne]; omega
  have k3 : ((a.kind : Int) == 3) = false := by rw [beq_eq_false_iff_ne]; omega
  have k4 : ((a.kind : Int) == 4) = false := by rw [beq_eq_false_iff_ne]; omega
  have k5 : ((a.kind : Int) == 5) = false := by rw [beq_eq_false_iff_ne]; omega
  have k6 : ((a.kind : Int) == 6) = false := by rw [beq_eq_false_iff_ne]; omega
  have m1 : ¬ a.kind = 1 := by omega
  have m2 : ¬ a.kind = 2 := by omega
  have m3 : ¬ a.kind = 3 := by omega
  have m4 : ¬ a.kind = 4 := by omega
  have m5 : ¬ a.kind = 5 := by omega
  have m6 : ¬ a.kind = 6 := by omega
  unfold exVal
  go_enter Tryz.func120, Tryz.ntmps120
  go_wp2_with (first
    | (go_at_call 22; refine (hN _).mono ?_; rintro e w1 ⟨rfl, hb⟩; (try have q7 : w1.cell? ⟨w.heap.size, 7, none⟩ = some (.bool a.star) := (World.cell?_of_block (hb.block w.heap.size (by simp))).trans (bk_cell (heap_alloc_new w _) 7)); (try have q8 : w1.cell? ⟨w.heap.size, 8, none⟩ = some (.slice ao n c) := (World.cell?_of_block (hb.block w.heap.size (by simp))).trans (bk_cell (heap_alloc_new w _) 8)))
    | (go_at_call 149; refine (hA _).mono ?_; rintro e w2 ⟨rfl, hb2⟩; have q3 : w2.cell? ⟨w.heap.size, 3, none⟩ = some (.string (strU a.name)) := (World.cell?_of_block (hb2.block w.heap.size (by simp))).trans (bk_cell (heap_alloc_new w _) 3))
    | (go_at_call 148; refine (hL _).mono ?_; rintro e w3 ⟨rfl, hb3⟩))
  all_goals go_ret
  all_goals (clear k1 k2 k3 k4 k5 k6 hN hA hL)
  all_goals (first
    | (refine ⟨?_, below_alloc _ _⟩)
    | (refine ⟨?_, (below_alloc _ _).trans (hb.mono (by simp))⟩)
    | (refine ⟨?_, (below_alloc _ _).trans (hb3.mono (by simp))⟩)
    | (refine ⟨?_, ((below_alloc _ _).trans (hb2.mono (by simp))).trans (hb.mono (Nat.le_trans (by simp) hb2.size))⟩)
    | (refine ⟨?_, (below_alloc _ _).trans (hb2.mono (by simp))⟩))
  all_goals (simp_all [shapeB, strU_T] <;> (first | (intros; omega) | (intros; exfalso; omega) | (rw [Bool.eq_iff_iff]; simp; omega)))
theorem shape_may (a : Atom) (ao : Option Addr) (n c : Nat) (w : World) (ht : a.table.length ≤ 9223372036854775000) (hm : a.name.length ≤ 9223372036854775000) :
    Calls Tryz.prog 120 #[exVal a (.slice ao n c)] w fun e w' => e = .returned (.bool (shapeB a n)) ∧ Below w.heap.size w w' := by
  rcases Nat.lt_or_ge a.kind 7 with h | h
  · have hh : a.kind = 0 ∨ a.kind = 1 ∨ a.kind = 2 ∨ a.kind = 3 ∨ a.kind = 4 ∨ a.kind = 5 ∨ a.kind = 6 := by omega
    rcases hh with h | h | h | h | h | h | h
    · exact shape_0 a ao n c w ht hm h
    · exact shape_1 a ao n c w ht hm h
    · exact shape_2 a ao n c w ht hm h
    · exact shape_3 a ao n c w ht hm h
    · exact shape_4 a ao n c w ht hm h
    · exact shape_5 a ao n c w ht hm h
    · exact shape_6 a ao n c w ht hm h
  · exact shape_7 a ao n c w ht hm h
end
section
open Go.RowKit Go.Shelf
set_option linter.unusedVariables false

theorem alloc2_new (w : World) (p q : Obj) : ((w.alloc p).alloc q).heap[w.heap.size + 1]? = some q := by
  have hs : (w.alloc p).heap.size = w.heap.size + 1 := by simp
  rw [← hs]; exact heap_alloc_new _ _
def RestV (a : Atom) (n : Nat) (w : World) (e : Ending) (w' : World) : Prop := ∃ a' ao' n' c', e = .returned (exVal a' (.slice ao' n' c')) ∧ noneA a' n' = leftB a n ∧ Below w.heap.size w w'
set_option maxRecDepth 100000 in
set_option maxHeartbeats 4000000 in
theorem rest_0 (a : Atom) (ao : Option Addr) (n c : Nat) (w : World) (hk : a.kind = 0) :
    Calls Tryz.prog 121 #[exVal a (.slice ao n c)] w (RestV a n w) := by
  have k1 : ((a.kind : Int) == 1) = false := by rw [beq_eq_false_iff_ne]; omega
  have k2 : ((a.kind : Int) == 2) = false := by rw [beq_eq_false_iff_ne]; omega
  have k3 : ((a.kind : Int) == 3) = false := by rw [beq_eq_false_iff_ne]; omega
  have k4 : ((a.kind : Int) == 4) = false := by rw [beq_eq_false_iff_ne]; omega
  have k5 : ((a.kind : Int) == 5) = false := by rw [beq_eq_false_iff_ne]; omega
  have k6 : ((a.kind : Int) == 6) = false := by rw [beq_eq_false_iff_ne]; omega
  unfold exVal
  go_enter Tryz.func121, Tryz.ntmps121
  go_wp2
  refine bodyPost_ret (results_cell_row Tryz.results121 _ _ (w.heap.size + 1) 36 #[.int .u8 0, .int .u8 (a.op : Int), .string (strU a.table), .string (strU a.name), .int .u8 (a.vk : Int), .int .i64 a.vi, .string (strU a.vs), .bool a.star, .slice ao n c] (0, 0) _ rfl (alloc2_new _ _ _) Tryz.underlying36 rfl (by kernel_rfl)) rfl ?_
  refine ⟨⟨0, a.op, a.table, a.name, a.vk, a.vi, a.vs, a.star⟩, ao, n, c, rfl, ?_, (below_alloc _ _).trans ((below_alloc _ _).mono (by simp))⟩
  simp [noneA, leftB, hk, Atom.plain]
set_option maxRecDepth 100000 in
set_option maxHeartbeats 4000000 in
theorem rest_1 (a : Atom) (ao : Option Addr) (n c : Nat) (w : World) (hk : a.kind = 1) :
    Calls Tryz.prog 121 #[exVal a (.slice ao n c)] w (RestV a n w) := by
  have k1 : ((a.kind : Int) == 1) = true := by rw [hk]; rfl
  have k2 : ((a.kind : Int) == 2) = false := by rw [beq_eq_false_iff_ne]; omega
  have k3 : ((a.kind : Int) == 3) = false := by rw [beq_eq_false_iff_ne]; omega
  have k4 : ((a.kind : Int) == 4) = false := by rw [beq_eq_false_iff_ne]; omega
  have k5 : ((a.kind : Int) == 5) = false := by rw [beq_eq_false_iff_ne]; omega
  have k6 : ((a.kind : Int) == 6) = false := by rw [beq_eq_false_iff_ne]; omega
  unfold exVal
  go_enter Tryz.func121, Tryz.ntmps121
  go_wp2
  refine bodyPost_ret (results_cell_row Tryz.results121 _ _ (w.heap.size + 1) 36 #[.int .u8 0, .int .u8 (a.op : Int), .string (strU a.table), .string (strU a.name), .int .u8 0, .int .i64 0, .string ⟨#[]⟩, .bool a.star, .slice ao n c] (0, 0) _ rfl (alloc2_new _ _ _) Tryz.underlying36 rfl (by kernel_rfl)) rfl ?_
  refine ⟨⟨0, a.op, a.table, a.name, 0, 0, [], a.star⟩, ao, n, c, rfl, ?_, (below_alloc _ _).trans ((below_alloc _ _).mono (by simp))⟩
  simp [noneA, leftB, hk, Atom.plain]
set_option maxRecDepth 100000 in
set_option maxHeartbeats 4000000 in
theorem rest_2 (a : Atom) (ao : Option Addr) (n c : Nat) (w : World) (hk : a.kind = 2) :
    Calls Tryz.prog 121 #[exVal a (.slice ao n c)] w (RestV a n w) := by
  have k1 : ((a.kind : Int) == 1) = false := by rw [beq_eq_false_iff_ne]; omega
  have k2 : ((a.kind : Int) == 2) = true := by rw [hk]; rfl
  have k3 : ((a.kind : Int) == 3) = false := by rw [beq_eq_false_iff_ne]; omega
  have k4 : ((a.kind : Int) == 4) = false := by rw [beq_eq_false_iff_ne]; omega
  have k5 : ((a.kind : Int) == 5) = false := by rw [beq_eq_false_iff_ne]; omega
  have k6 : ((a.kind : Int) == 6) = false := by rw [beq_eq_false_iff_ne]; omega
  unfold exVal
  go_enter Tryz.func121, Tryz.ntmps121
  go_wp2
  refine bodyPost_ret (results_cell_row Tryz.results121 _ _ (w.heap.size + 1) 36 #[.int .u8 0, .int .u8 (a.op : Int), .string ⟨#[]⟩, .string ⟨#[]⟩, .int .u8 (a.vk : Int), .int .i64 a.vi, .string (strU a.vs), .bool a.star, .slice ao n c] (0, 0) _ rfl (alloc2_new _ _ _) Tryz.underlying36 rfl (by kernel_rfl)) rfl ?_
  refine ⟨⟨0, a.op, [], [], a.vk, a.vi, a.vs, a.star⟩, ao, n, c, rfl, ?_, (below_alloc _ _).trans ((below_alloc _ _).mono (by simp))⟩
  simp [noneA, leftB, hk, Atom.plain]
set_option maxRecDepth 100000 in
set_option maxHeartbeats 4000000 in
theorem rest_3 (a : Atom) (ao : Option Addr) (n c : Nat) (w : World) (hk : a.kind = 3) :
    Calls Tryz.prog 121 #[exVal a (.slice ao n c)] w (RestV a n w) := by
  have k1 : ((a.kind : Int) == 1) = false := by rw [beq_eq_false_iff_ne]; omega
  have k2 : ((a.kind : Int) == 2) = false := by rw [beq_eq_false_iff_ne]; omega
  have k3 : ((a.kind : Int) == 3) = true := by rw [hk]; rfl
  have k4 : ((a.kind : Int) == 4) = false := by rw [beq_eq_false_iff_ne]; omega
  have k5 : ((a.kind : Int) == 5) = false := by rw [beq_eq_false_iff_ne]; omega
  have k6 : ((a.kind : Int) == 6) = false := by rw [beq_eq_false_iff_ne]; omega
  unfold exVal
  go_enter Tryz.func121, Tryz.ntmps121
  go_wp2
  refine bodyPost_ret (results_cell_row Tryz.results121 _ _ (w.heap.size + 1) 36 #[.int .u8 0, .int .u8 0, .string (strU a.table), .string (strU a.name), .int .u8 (a.vk : Int), .int .i64 a.vi, .string (strU a.vs), .bool a.star, .slice none 0 0] (0, 0) _ rfl (alloc2_new _ _ _) Tryz.underlying36 rfl (by kernel_rfl)) rfl ?_
  refine ⟨⟨0, 0, a.table, a.name, a.vk, a.vi, a.vs, a.star⟩, none, 0, 0, rfl, ?_, (below_alloc _ _).trans ((below_alloc _ _).mono (by simp))⟩
  simp [noneA, leftB, hk, Atom.plain]
set_option maxRecDepth 100000 in
set_option maxHeartbeats 4000000 in
theorem rest_4 (a : Atom) (ao : Option Addr) (n c : Nat) (w : World) (hk : a.kind = 4) :
    Calls Tryz.prog 121 #[exVal a (.slice ao n c)] w (RestV a n w) := by
  have k1 : ((a.kind : Int) == 1) = false := by rw [beq_eq_false_iff_ne]; omega
  have k2 : ((a.kind : Int) == 2) = false := by rw [beq_eq_false_iff_ne]; omega
  have k3 : ((a.kind : Int) == 3) = false := by rw [beq_eq_false_iff_ne]; omega
  have k4 : ((a.kind : Int) == 4) = true := by rw [hk]; rfl
  have k5 : ((a.kind : Int) == 5) = false := by rw [beq_eq_false_iff_ne]; omega
  have k6 : ((a.kind : Int) == 6) = false := by rw [beq_eq_false_iff_ne]; omega
  unfold exVal
  go_enter Tryz.func121, Tryz.ntmps121
  go_wp2
  refine bodyPost_ret (results_cell_row Tryz.results121 _ _ (w.heap.size + 1) 36 #[.int .u8 0, .int .u8 0, .string (strU a.table), .string (strU a.name), .int .u8 (a.vk : Int), .int .i64 a.vi, .string (strU a.vs), .bool a.star, .slice none 0 0] (0, 0) _ rfl (alloc2_new _ _ _) Tryz.underlying36 rfl (by kernel_rfl)) rfl ?_
  refine ⟨⟨0, 0, a.table, a.name, a.vk, a.vi, a.vs, a.star⟩, none, 0, 0, rfl, ?_, (below_alloc _ _).trans ((below_alloc _ _).mono (by simp))⟩
  simp [noneA, leftB, hk, Atom.plain]
set_option maxRecDepth 100000 in
set_option maxHeartbeats 4000000 in
theorem rest_5 (a : Atom) (ao : Option Addr) (n c : Nat) (w : World) (hk : a.kind = 5) :
    Calls Tryz.prog 121 #[exVal a (.slice ao n c)] w (RestV a n w) := by
  have k1 : ((a.kind : Int) == 1) = false := by rw [beq_eq_false_iff_ne]; omega
  have k2 : ((a.kind : Int) == 2) = false := by rw [beq_eq_false_iff_ne]; omega
  have k3 : ((a.kind : Int) == 3) = false := by rw [beq_eq_false_iff_ne]; omega
  have k4 : ((a.kind : Int) == 4) = false := by rw [beq_eq_false_iff_ne]; omega
  have k5 : ((a.kind : Int) == 5) = true := by rw [hk]; rfl
  have k6 : ((a.kind : Int) == 6) = false := by rw [beq_eq_false_iff_ne]; omega
  unfold exVal
  go_enter Tryz.func121, Tryz.ntmps121
  go_wp2
  refine bodyPost_ret (results_cell_row Tryz.results121 _ _ (w.heap.size + 1) 36 #[.int .u8 0, .int .u8 (a.op : Int), .string (strU a.table), .string (strU a.name), .int .u8 (a.vk : Int), .int .i64 a.vi, .string (strU a.vs), .bool a.star, .slice none 0 0] (0, 0) _ rfl (alloc2_new _ _ _) Tryz.underlying36 rfl (by kernel_rfl)) rfl ?_
  refine ⟨⟨0, a.op, a.table, a.name, a.vk, a.vi, a.vs, a.star⟩, none, 0, 0, rfl, ?_, (below_alloc _ _).trans ((below_alloc _ _).mono (by simp))⟩
  simp [noneA, leftB, hk, Atom.plain]
set_option maxRecDepth 100000 in
set_option maxHeartbeats 4000000 in
theorem rest_6 (a : Atom) (ao : Option Addr) (n c : Nat) (w : World) (hk : a.kind = 6) :
    Calls Tryz.prog 121 #[exVal a (.slice ao n c)] w (RestV a n w) := by
  have k1 : ((a.kind : Int) == 1) = false := by rw [beq_eq_false_iff_ne]; omega
  have k2 : ((a.kind : Int) == 2) = false := by rw [beq_eq_false_iff_ne]; omega
  have k3 : ((a.kind : Int) == 3) = false := by rw [beq_eq_false_iff_ne]; omega
  have k4 : ((a.kind : Int) == 4) = false := by rw [beq_eq_false_iff_ne]; omega
  have k5 : ((a.kind : Int) == 5) = false := by rw [beq_eq_false_iff_ne]; omega
  have k6 : ((a.kind : Int) == 6) = true := by rw [hk]; rfl
  unfold exVal
  go_enter Tryz.func121, Tryz.ntmps121
  go_wp2
  refine bodyPost_ret (results_cell_row Tryz.results121 _ _ (w.heap.size + 1) 36 #[.int .u8 0, .int .u8 (a.op : Int), .string (strU a.table), .string ⟨#[]⟩, .int .u8 (a.vk : Int), .int .i64 a.vi, .string (strU a.vs), .bool false, .slice none 0 0] (0, 0) _ rfl (alloc2_new _ _ _) Tryz.underlying36 rfl (by kernel_rfl)) rfl ?_
  refine ⟨⟨0, a.op, a.table, [], a.vk, a.vi, a.vs, false⟩, none, 0, 0, rfl, ?_, (below_alloc _ _).trans ((below_alloc _ _).mono (by simp))⟩
  simp [noneA, leftB, hk, Atom.plain]
set_option maxRecDepth 100000 in
set_option maxHeartbeats 4000000 in
theorem rest_7 (a : Atom) (ao : Option Addr) (n c : Nat) (w : World) (hk : 7 ≤ a.kind) :
    Calls Tryz.prog 121 #[exVal a (.slice ao n c)] w (RestV a n w) := by
  have k1 : ((a.kind : Int) == 1) = false := by rw [beq_eq_false_iff_ne]; omega
  have k2 : ((a.kind : Int) == 2) = false := by rw [beq_eq_false_iff_ne]; omega
  have k3 : ((a.kind : Int) == 3) = false := by rw [beq_eq_false_iff_ne]; omega
  have k4 : ((a.kind : Int) == 4) = false := by rw [beq_eq_false_iff_ne]; omega
  have k5 : ((a.kind : Int) == 5) = false := by rw [beq_eq_false_iff_ne]; omega
  have k6 : ((a.kind : Int) == 6) = false := by rw [beq_eq_false_iff_ne]; omega
  unfold exVal
  go_enter Tryz.func121, Tryz.ntmps121
  go_wp2
  refine bodyPost_ret (results_cell_row Tryz.results121 _ _ (w.heap.size + 1) 36 #[.int .u8 0, .int .u8 (a.op : Int), .string (strU a.table), .string (strU a.name), .int .u8 (a.vk : Int), .int .i64 a.vi, .string (strU a.vs), .bool a.star, .slice ao n c] (0, 0) _ rfl (alloc2_new _ _ _) Tryz.underlying36 rfl (by kernel_rfl)) rfl ?_
  refine ⟨⟨0, a.op, a.table, a.name, a.vk, a.vi, a.vs, a.star⟩, ao, n, c, rfl, ?_, (below_alloc _ _).trans ((below_alloc _ _).mono (by simp))⟩
  have m1 : ¬ a.kind = 1 := by omega
  have m2 : ¬ a.kind = 2 := by omega
  have m3 : ¬ a.kind = 3 := by omega
  have m4 : ¬ a.kind = 4 := by omega
  have m5 : ¬ a.kind = 5 := by omega
  have m6 : ¬ a.kind = 6 := by omega
  simp [noneA, leftB, Atom.plain, m1, m2, m3, m4, m5, m6]
theorem rest_may (a : Atom) (ao : Option Addr) (n c : Nat) (w : World) : Calls Tryz.prog 121 #[exVal a (.slice ao n c)] w (RestV a n w) := by
  rcases Nat.lt_or_ge a.kind 7 with h | h
  · have hh : a.kind = 0 ∨ a.kind = 1 ∨ a.kind = 2 ∨ a.kind = 3 ∨ a.kind = 4 ∨ a.kind = 5 ∨ a.kind = 6 := by omega
    rcases hh with h | h | h | h | h | h | h
    · exact rest_0 a ao n c w h
    · exact rest_1 a ao n c w h
    · exact rest_2 a ao n c w h
    · exact rest_3 a ao n c w h
    · exact rest_4 a ao n c w h
    · exact rest_5 a ao n c w h
    · exact rest_6 a ao n c w h
  · exact rest_7 a ao n c w h
end
section
open Go.RowKit Go.Shelf
set_option linter.unusedVariables false

/-- texts that a machine can hold -/
def Exs.short : Exs → Prop
  | .nil => True
  | .cons a l r => (a.table.length ≤ 9223372036854775000 ∧ a.name.length ≤ 9223372036854775000) ∧ l.short ∧ r.short
theorem withinB_cons (d : Nat) (a : Atom) (l r : Exs) : withinB d (.cons a l r) = (withinB d (.cons a l .nil) && withinB d r) := by
  show (_ && withinB d r) = ((_ && true) && withinB d r)
  rw [Bool.and_true]
theorem RE.range {P : Nat → Prop} {w : World} {a : Atom} {l r : Exs} {b o : Nat} (h : RE P w (.cons a l r) b o) : ∃ v, w.rangeAt b o (exCells a v) ∧ REs P w v l ∧ RE P w r b (o + 9) := by
  obtain ⟨h1, ⟨v, h2, h3⟩, h4⟩ := h
  refine ⟨v, fun j u hj => ?_, h3, h4⟩
  unfold exCells at hj
  by_cases hlt : j < 8
  · rw [List.getElem?_append_left (by show j < 8; exact hlt)] at hj
    exact h1 j u hj
  · rw [List.getElem?_append_right (by show 8 ≤ j; omega)] at hj
    have hj8 : j = 8 := by
      rcases Nat.lt_or_ge j 9 with h | h
      · omega
      · rw [List.getElem?_eq_none (by show 1 ≤ j - 8; omega)] at hj; cases hj
    subst hj8
    have : v = u := by injection hj
    rw [← this]; exact h2
theorem REs.len {P : Nat → Prop} {w : World} {v : Value} {l : Exs} (h : REs P w v l) : ∃ ao c, v = .slice ao l.len c ∧ l.len ≤ c ∧ c ≤ 9223372036854775807 ∧ (l ≠ .nil → ∃ g, ao = some ⟨g, 0, none⟩ ∧ g < w.heap.size ∧ RE P w l g 0) := by
  rcases h with ⟨rfl, rfl⟩ | ⟨g, cap, rfl, h1, h2, h3, h4, h5⟩
  · exact ⟨_, _, rfl, Nat.le_refl _, by omega, fun h => absurd rfl h⟩
  · exact ⟨_, _, rfl, h1, h2, fun _ => ⟨g, rfl, h4, h5⟩⟩
set_option maxRecDepth 100000 in
set_option maxHeartbeats 8000000 in
theorem within_0 (a : Atom) (ao : Option Addr) (n c : Nat) (w : World)  :
    Calls Tryz.prog 73 #[exVal a (.slice ao n c), .int .i64 0] w fun e w' => e = .returned (.bool false) ∧ Below w.heap.size w w' := by
  unfold exVal
  go_enter Tryz.func73, Tryz.ntmps73
  go_wp2
  go_ret
  exact ⟨rfl, below_alloc _ _⟩
set_option maxRecDepth 100000 in
set_option maxHeartbeats 8000000 in
theorem within_1 (a : Atom) (ao : Option Addr) (n c : Nat) (w : World) (ht : a.table.length ≤ 9223372036854775000) (hm : a.name.length ≤ 9223372036854775000) (d : Nat) (hd : d ≤ 1000) (hs : shapeB a n = false) :
    Calls Tryz.prog 73 #[exVal a (.slice ao n c), .int .i64 ((d : Int) + 1)] w fun e w' => e = .returned (.bool false) ∧ Below w.heap.size w w' := by
  have hS := fun w => shape_may a ao n c w ht hm
  rw [hs] at hS
  have hne : ((d : Int) + 1 == 0) = false := by rw [beq_eq_false_iff_ne]; omega
  unfold exVal at hS ⊢
  go_enter Tryz.func73, Tryz.ntmps73
  go_wp2_with (go_at_call 120; refine (hS _).mono ?_; rintro e w1 ⟨rfl, hb1⟩; have hX1 : ExB w1 w.heap.size a (.slice ao n c) := ExB.kept (heap_alloc_new w _) hb1; have HB1 := Lib.hid ((below_alloc w _).trans (hb1.mono (by simp))); have HX1 := Lib.hid hX1; obtain ⟨q0, q1, q2, q3, q4, q5, q6, q7, q8⟩ := hX1.cells; clear hb1 hX1)
  go_ret
  exact ⟨rfl, HB1.out⟩
set_option maxRecDepth 100000 in
set_option maxHeartbeats 8000000 in
theorem within_2 (a : Atom) (ao : Option Addr) (n c : Nat) (w : World) (ht : a.table.length ≤ 9223372036854775000) (hm : a.name.length ≤ 9223372036854775000) (d : Nat) (hd : d ≤ 1000) (hs : shapeB a n = true) (hl : leftB a n = false) :
    Calls Tryz.prog 73 #[exVal a (.slice ao n c), .int .i64 ((d : Int) + 1)] w fun e w' => e = .returned (.bool false) ∧ Below w.heap.size w w' := by
  have hS := fun w => shape_may a ao n c w ht hm
  rw [hs] at hS
  have hR := fun w => rest_may a ao n c w
  unfold RestV at hR
  have hne : ((d : Int) + 1 == 0) = false := by rw [beq_eq_false_iff_ne]; omega
  unfold exVal at hS ⊢
  go_enter Tryz.func73, Tryz.ntmps73
  go_wp2_with (first
    | (go_at_call 120; refine (hS _).mono ?_; rintro e w1 ⟨rfl, hb1⟩; have hX1 : ExB w1 w.heap.size a (.slice ao n c) := ExB.kept (heap_alloc_new w _) hb1; have HB1 := Lib.hid ((below_alloc w _).trans (hb1.mono (by simp))); have HX1 := Lib.hid hX1; obtain ⟨q0, q1, q2, q3, q4, q5, q6, q7, q8⟩ := hX1.cells; clear hb1 hX1)
    | (go_at_call 121; refine (hR _).mono ?_; rintro e w2 ⟨a', ao', n', c', rfl, hnn, hb2⟩; have HNN := Lib.hid hnn; have hX2 := HX1.out.kept hb2; have HB2 := Lib.hid (HB1.out.trans (hb2.mono HB1.out.size)); have HX2 := Lib.hid hX2; obtain ⟨r0, r1, r2, r3, r4, r5, r6, r7, r8⟩ := hX2.cells; clear hb2 hX2 hnn q0 q1 q2 q3 q4 q5 q6 q7 q8)
    | (go_at_call 70; have hN := noExpr_tr a' ao' n' c' w2; rw [HNN.out, hl] at hN; refine hN.mono ?_; clear hN; rintro e w3 ⟨rfl, hb3⟩; have hX3 := HX2.out.kept hb3; have HB3 := Lib.hid (HB2.out.trans (hb3.mono HB2.out.size)); obtain ⟨s0, s1, s2, s3, s4, s5, s6, s7, s8⟩ := hX3.cells; clear hb3 hX3 r0 r1 r2 r3 r4 r5 r6 r7 r8))
  go_ret
  exact ⟨rfl, HB3.out⟩
set_option maxRecDepth 100000 in
set_option maxHeartbeats 8000000 in
theorem within_3 (a : Atom) (ao : Option Addr) (n c : Nat) (w : World) (ht : a.table.length ≤ 9223372036854775000) (hm : a.name.length ≤ 9223372036854775000) (d : Nat) (hd : d ≤ 1000) (hs : shapeB a n = true) (hl : leftB a n = true) (l : Exs) (hn : 0 + l.len = n) (hc : n ≤ c) (hc2 : c ≤ 9223372036854775807) (hv : l ≠ .nil → ∃ g, ao = some ⟨g, 0, none⟩ ∧ g < w.heap.size ∧ RE (fun _ => True) w l g (0 * 9)) (hsh : Exs.short l)
    (ih : ∀ (a2 : Atom) (v2 : Value) (l2 : Exs) (w2 : World), REs (fun _ => True) w2 v2 l2 → Exs.short (.cons a2 l2 .nil) → Calls Tryz.prog 73 #[exVal a2 v2, .int .i64 (d : Int)] w2 fun e w' => e = .returned (.bool (withinB d (.cons a2 l2 .nil))) ∧ Below w2.heap.size w2 w') :
    Calls Tryz.prog 73 #[exVal a (.slice ao n c), .int .i64 ((d : Int) + 1)] w fun e w' => e = .returned (.bool (withinB d l)) ∧ Below w.heap.size w w' := by
  have hS := fun w => shape_may a ao n c w ht hm
  rw [hs] at hS
  have hR := fun w => rest_may a ao n c w
  unfold RestV at hR
  have hne : ((d : Int) + 1 == 0) = false := by rw [beq_eq_false_iff_ne]; omega
  have HN := Lib.hid hn
  have HV := Lib.hid hv
  have HSH := Lib.hid hsh
  clear hn hv hsh
  unfold exVal at hS ⊢
  go_enter Tryz.func73, Tryz.ntmps73
  go_wp2_with (first
    | (go_at_call 120; refine (hS _).mono ?_; rintro e w1 ⟨rfl, hb1⟩; have hX1 : ExB w1 w.heap.size a (.slice ao n c) := ExB.kept (heap_alloc_new w _) hb1; have HB1 := Lib.hid ((below_alloc w _).trans (hb1.mono (by simp))); have HX1 := Lib.hid hX1; obtain ⟨q0, q1, q2, q3, q4, q5, q6, q7, q8⟩ := hX1.cells; clear hb1 hX1)
    | (go_at_call 121; refine (hR _).mono ?_; rintro e w2 ⟨a', ao', n', c', rfl, hnn, hb2⟩; have HNN := Lib.hid hnn; have hX2 := HX1.out.kept hb2; have HB2 := Lib.hid (HB1.out.trans (hb2.mono HB1.out.size)); have HX2 := Lib.hid hX2; obtain ⟨r0, r1, r2, r3, r4, r5, r6, r7, r8⟩ := hX2.cells; clear hb2 hX2 hnn q0 q1 q2 q3 q4 q5 q6 q7 q8)
    | (go_at_call 70; have hN := noExpr_tr a' ao' n' c' w2; rw [HNN.out, hl] at hN; refine hN.mono ?_; clear hN; rintro e w3 ⟨rfl, hb3⟩; have hX3 := HX2.out.kept hb3; have HB3 := Lib.hid (HB2.out.trans (hb3.mono HB2.out.size)); obtain ⟨s0, s1, s2, s3, s4, s5, s6, s7, s8⟩ := hX3.cells; clear hb3 hX3 r0 r1 r2 r3 r4 r5 r6 r7 r8))
  go_loopw [23] (fun iv wr => ∃ (i : Nat) (rm : Exs), iv = .int .i64 (i : Int) ∧ Hid (i + rm.len = n) ∧ Hid (Below w.heap.size w wr) ∧ Hid (rm ≠ .nil → ∃ g, ao = some ⟨g, 0, none⟩ ∧ g < w.heap.size ∧ RE (fun _ => True) w rm g (i * 9)) ∧ Hid (Exs.short rm) ∧ Hid (withinB d l = withinB d rm)) (fun iv _ => n - (RowKit.intOf iv).toNat)
  case atStart => exact ⟨0, l, rfl, HN, HB3, HV, HSH, Lib.hid rfl⟩
  case round =>
    obtain ⟨i, rm, rfl, HI, HB, HRM, HRS, HW⟩ := hrel
    clear s0 s1 s2 s3 s4 s5 s6 s7 s8
    cases rm with
    | nil =>
      have hge : ¬ i < n := by have h := HI.out; unfold Exs.len at h; omega
      go_wp2_with fail
      go_ret
      exact ⟨by rw [HW.out]; unfold withinB; rfl, HB.out⟩
    | cons a2 l2 rm2 =>
      have hlt : i < n := by have h := HI.out; unfold Exs.len at h; omega
      have hI2 : i + 1 + rm2.len = n := by have h := HI.out; unfold Exs.len at h; omega
      obtain ⟨gb, hao, hgb, hre⟩ := HRM.out (by intro h; cases h)
      subst hao
      obtain ⟨v2, hrg, hrs, hnext⟩ := hre.range
      obtain ⟨ao2, n2, c2, hv2⟩ := hrs.slice
      subst hv2
      have hc3 := fun W (h : Below w.heap.size w W) => ih a2 (.slice ao2 n2 c2) l2 W (hrs.below h) ⟨HRS.out.1, HRS.out.2.1, trivial⟩
      have HRG : Hid (wr.rangeAt gb (i * 9) (eL a2 (.slice ao2 n2 c2))) := Lib.hid (fun j v hj => (World.cell?_of_block (HB.out.block gb hgb)).trans (hrg j v hj))
      have HNX := Lib.hid hnext
      have hwc : withinB d (.cons a2 l2 rm2) = (withinB d (.cons a2 l2 .nil) && withinB d rm2) := withinB_cons _ _ _ _
      have HGB := Lib.hid hgb
      clear hrg hrs hnext hre hgb
      cases hb : withinB d (.cons a2 l2 .nil) with
      | false =>
        rw [hb, Bool.false_and] at hwc
        have HWC := Lib.hid (HW.out.trans hwc)
        clear hwc
        rw [hb] at hc3
        clear hb
        unfold exVal at hc3
        go_wp2_with (first
          | (refine wpList_load_mid rfl 36 _ rfl gb (i * 9) rfl _ _ HRG.out Tryz.underlying36 rfl (by kernel_rfl) ?_)
          | (go_at_call 73; refine (hc3 _ (HB.out.trans ((below_alloc _ _).mono HB.out.size))).mono ?_; rintro e w5 ⟨rfl, hb5⟩; have HB5 := Lib.hid ((HB.out.trans ((below_alloc _ _).mono HB.out.size)).trans (hb5.mono (by have := HB.out.size; simp; omega))); clear hb5))
        go_ret
        exact ⟨by rw [HWC.out]; rfl, HB5.out⟩
      | true =>
        rw [hb, Bool.true_and] at hwc
        have HWC := Lib.hid (HW.out.trans hwc)
        clear hwc
        rw [hb] at hc3
        clear hb
        unfold exVal at hc3
        go_wp2_with (first
          | (refine wpList_load_mid rfl 36 _ rfl gb (i * 9) rfl _ _ HRG.out Tryz.underlying36 rfl (by kernel_rfl) ?_)
          | (go_at_call 73; refine (hc3 _ (HB.out.trans ((below_alloc _ _).mono HB.out.size))).mono ?_; rintro e w5 ⟨rfl, hb5⟩; have HB5 := Lib.hid ((HB.out.trans ((below_alloc _ _).mono HB.out.size)).trans (hb5.mono (by have := HB.out.size; simp; omega))); clear hb5))
        go_roundw
        case rel => exact ⟨i + 1, rm2, rfl, Lib.hid hI2, HB5, Lib.hid (fun _ => ⟨gb, rfl, HGB.out, by rw [Nat.succ_mul]; exact HNX.out⟩), Lib.hid HRS.out.2.2, HWC⟩
        case measure => simp only [RowKit.intOf]; omega
theorem within_tr : ∀ (d : Nat), d ≤ 1000 → ∀ (a : Atom) (v : Value) (l : Exs) (w : World), REs (fun _ => True) w v l → Exs.short (.cons a l .nil) →
    Calls Tryz.prog 73 #[exVal a v, .int .i64 (d : Int)] w fun e w' => e = .returned (.bool (withinB d (.cons a l .nil))) ∧ Below w.heap.size w w' := by
  intro d
  induction d with
  | zero =>
    intro _ a v l w hv hs
    obtain ⟨ao, c, rfl, _⟩ := hv.len
    exact (within_0 a ao l.len c w).mono fun e w' h => ⟨by rw [h.1]; rfl, h.2⟩
  | succ d ih =>
    intro hd a v l w hv hs
    obtain ⟨ao, c, rfl, h1, h2, h3⟩ := hv.len
    have hw : withinB (d + 1) (.cons a l .nil) = (shapeB a l.len && (leftB a l.len && withinB d l)) := by
      show ((decide (d + 1 ≠ 0) && (shapeB a l.len && (leftB a l.len && withinB (d + 1 - 1) l))) && true) = _
      simp
    rw [hw]
    cases e1 : shapeB a l.len with
    | false => exact within_1 a ao l.len c w hs.1.1 hs.1.2 d (by omega) e1
    | true =>
      cases e2 : leftB a l.len with
      | false => exact within_2 a ao l.len c w hs.1.1 hs.1.2 d (by omega) e1 e2
      | true => exact within_3 a ao l.len c w hs.1.1 hs.1.2 d (by omega) e1 e2 l (Nat.zero_add _) h1 h2 (fun h => by rw [Nat.zero_mul]; exact h3 h) hs.2.1 (ih (by omega))
theorem expr_may (a : Atom) (v : Value) (l : Exs) (w : World) (hv : REs (fun _ => True) w v l) (hs : Exs.short (.cons a l .nil)) :
    Calls Tryz.prog 36 #[exVal a v] w fun e w' => e = .returned (.bool (fineE ⟨a, l⟩)) ∧ Below w.heap.size w w' := by
  obtain ⟨ao, c, rfl, _⟩ := hv.len
  have hC := fun W (h : Below w.heap.size w W) => within_tr 24 (by decide) a (.slice ao l.len c) l W (hv.below h) hs
  unfold exVal at hC ⊢
  go_enter Tryz.func36, Tryz.ntmps36
  go_wp2_with (go_at_call 73; refine (hC _ (below_alloc _ _)).mono ?_; rintro e w1 ⟨rfl, hb⟩; have HB := Lib.hid ((below_alloc w _).trans (hb.mono (by simp))); clear hb)
  go_ret
  exact ⟨rfl, HB.out⟩
end
end Go.Proofs.YtenmnpbjnbdeaaaGreatDoor
