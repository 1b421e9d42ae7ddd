/-
  WHAT IS PROVED: lists of near as many parts as there may be: what the texts are read as.
-/
import Derived.Test.YtenmnpbjnbdeaaaGreatDoorQTrTg
namespace Go.Proofs.YtenmnpbjnbdeaaaGreatDoor
set_option linter.unusedVariables false

/-- x, so many times -/
def repB (x : List UInt8) : Nat → List UInt8
  | 0 => []
  | n + 1 => repB x n ++ x
theorem repB_len (x : List UInt8) : ∀ n, (repB x n).length = n * x.length
  | 0 => by simp [repB]
  | n + 1 => by rw [repB, List.length_append, repB_len x n, Nat.succ_mul]
def colsT (n : Nat) : List UInt8 := [99, 32, 73, 78, 84] ++ repB [44, 32, 99, 32, 84, 69, 88, 84] (n - 1)
def fromT (n : Nat) : List UInt8 := [116] ++ repB [32, 74, 79, 73, 78, 32, 116, 32, 79, 78, 32, 49] (n - 1)
def listT (n : Nat) : List UInt8 := [49] ++ repB [44, 32, 49] (n - 1)
/-- it is a statement, or it is above a limit -/
def mayB (s : List UInt8) (ok : Bool) : Bool := match stmtB s with
  | .ok _ => ok
  | .bad p e => !ok && (p == 0 && e == 3)
def listT0 (n : Nat) : List UInt8 := [67, 82, 69, 65, 84, 69, 32, 84, 65, 66, 76, 69, 32, 116, 32, 40] ++ colsT n ++ [41]
set_option maxRecDepth 100000 in
theorem list_all0 : ((List.range 6).all fun j => mayB (listT0 (13 + j)) (decide (13 + j ≤ 16))) = true := by kernel_rfl
theorem list_at0 {j : Nat} (h : j < 6) : mayB (listT0 (13 + j)) (decide (13 + j ≤ 16)) = true := by
  have q := list_all0
  rw [List.all_eq_true] at q
  exact q j (List.mem_range.2 h)
def listT1 (n : Nat) : List UInt8 := [83, 69, 76, 69, 67, 84, 32, 97, 32, 70, 82, 79, 77, 32] ++ fromT n
set_option maxRecDepth 100000 in
theorem list_all1 : ((List.range 5).all fun j => mayB (listT1 (1 + j)) (decide (1 + j ≤ 3))) = true := by kernel_rfl
theorem list_at1 {j : Nat} (h : j < 5) : mayB (listT1 (1 + j)) (decide (1 + j ≤ 3)) = true := by
  have q := list_all1
  rw [List.all_eq_true] at q
  exact q j (List.mem_range.2 h)
def listT2 (n : Nat) : List UInt8 := [83, 69, 76, 69, 67, 84, 32] ++ listT n ++ [32, 70, 82, 79, 77, 32, 116]
set_option maxRecDepth 100000 in
theorem list_all2 : ((List.range 6).all fun j => mayB (listT2 (61 + j)) (decide (61 + j ≤ 64))) = true := by kernel_rfl
theorem list_at2 {j : Nat} (h : j < 6) : mayB (listT2 (61 + j)) (decide (61 + j ≤ 64)) = true := by
  have q := list_all2
  rw [List.all_eq_true] at q
  exact q j (List.mem_range.2 h)
def listT3 (n : Nat) : List UInt8 := [73, 78, 83, 69, 82, 84, 32, 73, 78, 84, 79, 32, 116, 32, 86, 65, 76, 85, 69, 83, 32, 40] ++ listT n ++ [41]
set_option maxRecDepth 100000 in
theorem list_all3 : ((List.range 6).all fun j => mayB (listT3 (61 + j)) (decide (61 + j ≤ 64))) = true := by kernel_rfl
theorem list_at3 {j : Nat} (h : j < 6) : mayB (listT3 (61 + j)) (decide (61 + j ≤ 64)) = true := by
  have q := list_all3
  rw [List.all_eq_true] at q
  exact q j (List.mem_range.2 h)
def listT4 (n : Nat) : List UInt8 := [83, 69, 76, 69, 67, 84, 32, 97, 32, 70, 82, 79, 77, 32, 116, 32, 71, 82, 79, 85, 80, 32, 66, 89, 32] ++ listT n
set_option maxRecDepth 100000 in
theorem list_all4 : ((List.range 6).all fun j => mayB (listT4 (61 + j)) (decide (61 + j ≤ 64))) = true := by kernel_rfl
theorem list_at4 {j : Nat} (h : j < 6) : mayB (listT4 (61 + j)) (decide (61 + j ≤ 64)) = true := by
  have q := list_all4
  rw [List.all_eq_true] at q
  exact q j (List.mem_range.2 h)
def listT5 (n : Nat) : List UInt8 := [83, 69, 76, 69, 67, 84, 32, 97, 32, 70, 82, 79, 77, 32, 116, 32, 79, 82, 68, 69, 82, 32, 66, 89, 32] ++ listT n
set_option maxRecDepth 100000 in
theorem list_all5 : ((List.range 6).all fun j => mayB (listT5 (61 + j)) (decide (61 + j ≤ 64))) = true := by kernel_rfl
theorem list_at5 {j : Nat} (h : j < 6) : mayB (listT5 (61 + j)) (decide (61 + j ≤ 64)) = true := by
  have q := list_all5
  rw [List.all_eq_true] at q
  exact q j (List.mem_range.2 h)
def listT6 (n : Nat) : List UInt8 := [68, 69, 76, 69, 84, 69, 32, 70, 82, 79, 77, 32, 116, 32, 87, 72, 69, 82, 69, 32, 97, 32, 73, 78, 32, 40] ++ listT n ++ [41]
set_option maxRecDepth 100000 in
theorem list_all6 : ((List.range 6).all fun j => mayB (listT6 (61 + j)) (decide (61 + j ≤ 64))) = true := by kernel_rfl
theorem list_at6 {j : Nat} (h : j < 6) : mayB (listT6 (61 + j)) (decide (61 + j ≤ 64)) = true := by
  have q := list_all6
  rw [List.all_eq_true] at q
  exact q j (List.mem_range.2 h)
def listT7 (n : Nat) : List UInt8 := [68, 69, 76, 69, 84, 69, 32, 70, 82, 79, 77, 32, 116, 32, 87, 72, 69, 82, 69, 32, 102, 40] ++ listT n ++ [41]
set_option maxRecDepth 100000 in
theorem list_all7 : ((List.range 6).all fun j => mayB (listT7 (61 + j)) (decide (61 + j ≤ 64))) = true := by kernel_rfl
theorem list_at7 {j : Nat} (h : j < 6) : mayB (listT7 (61 + j)) (decide (61 + j ≤ 64)) = true := by
  have q := list_all7
  rw [List.all_eq_true] at q
  exact q j (List.mem_range.2 h)
end Go.Proofs.YtenmnpbjnbdeaaaGreatDoor
