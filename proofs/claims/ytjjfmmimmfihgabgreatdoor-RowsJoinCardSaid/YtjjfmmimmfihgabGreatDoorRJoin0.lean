/-
  WHAT IS PROVED: the walk of RowsJoin: the key of values behind one another is their keys behind one another; so are their bytes.
-/
import Derived.Test.YtjjfmmimmfihgabGreatDoorRowM
import Derived.Deep.RegionLaw
namespace Go.Proofs.YtjjfmmimmfihgabGreatDoor
open Go.RowKit Go.Lib
set_option linter.unusedVariables false

theorem rowV_empty (w : World) (ao : Option Addr) (cap : Nat) (h : ao = none → cap = 0) (hm : cap ≤ 9223372036854775807) : RowV w ao 0 cap [] :=
  ⟨rfl, Nat.zero_le _, hm, h, fun a ha i x hx => by simp at hx, fun x hx => by cases hx⟩
theorem RowV.upto {w : World} {ao : Option Addr} {n cap : Nat} {l : List Val} (h : RowV w ao n cap l) (k : Nat) (hk : k ≤ n) : RowV w ao k cap (l.take k) := by
  refine ⟨by have := h.len; simp; omega, by have := h.room; omega, h.most, h.nil, fun a ha i x hx j v hv => ?_, fun x hx => h.each x (List.mem_of_mem_take hx)⟩
  have hi : i < k := by have := (List.getElem?_eq_some_iff.1 hx).1; simp at this; omega
  rw [List.getElem?_take_of_lt hi] at hx
  exact h.cell a ha i x hx j v hv
theorem RowV.from {w : World} {b off n cap : Nat} {l : List Val} (h : RowV w (some ⟨b, off, none⟩) n cap l) (k : Nat) (hk : k ≤ n) : RowV w (some ⟨b, off + k * 3, none⟩) (n - k) (cap - k) (l.drop k) := by
  refine ⟨by have := h.len; simp; omega, by have := h.room; omega, by have := h.most; omega, (fun h => by cases h), fun a ha i x hx j v hv => ?_, fun x hx => h.each x (List.mem_of_mem_drop hx)⟩
  obtain rfl := Option.some.inj ha
  rw [List.getElem?_drop] at hx
  have h1 := h.cell _ rfl (k + i) x hx j v hv
  rw [Addr.add_lit] at h1 ⊢
  rw [show off + k * 3 + (i * 3 + j) = off + ((k + i) * 3 + j) by rw [Nat.add_mul]; omega]
  exact h1
theorem chkV_sub {l : List Val} (h : chkV l = 0) (m : List Val) (hm : ∀ x ∈ m, x ∈ l) (hl : m.length ≤ l.length) : chkV m = 0 := by
  have h1 := chkV_ok h
  unfold chkV
  rw [if_neg (by omega), if_neg]
  rw [Bool.not_eq_false]
  exact List.all_eq_true.2 (fun x hx => h1.2 x (hm x hx))
theorem encL_two {vs : List Val} (h : 0 < vs.length) : 2 ≤ (encL vs).length := by
  have h1 := vb_pos vs.length
  unfold encL
  cases vs with
  | nil => simp at h
  | cons x r =>
    have h2 : (encV x).length ≠ 0 := by unfold encV; simp
    simp only [List.flatMap_cons, List.length_append]
    omega
def restV (vs : List Val) : List Nat := vs.flatMap encV
theorem encL_small {vs : List Val} (h : vs.length ≤ 16) : encL vs = vs.length :: restV vs := by
  unfold encL restV
  rw [vb_low (by omega)]
  rfl
theorem restV_parts (vs : List Val) (k : Nat) : restV (vs.take k) ++ restV (vs.drop k) = restV vs := by
  unfold restV
  rw [← List.flatMap_append, List.take_append_drop]
theorem keyL_parts (vs : List Val) (k : Nat) : keyL (vs.take k) ++ keyL (vs.drop k) = keyL vs := by
  unfold keyL
  rw [← List.flatMap_append, List.take_append_drop]
end Go.Proofs.YtjjfmmimmfihgabGreatDoor
