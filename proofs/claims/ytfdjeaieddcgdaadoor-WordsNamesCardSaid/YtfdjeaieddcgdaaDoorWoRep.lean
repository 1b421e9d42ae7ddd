/-
  WHAT IS PROVED: each two signs that end a text replaced by one: as the library's function says it; what a whole piece is.
-/
import Derived.Test.YtfdjeaieddcgdaaDoorWoAgain
namespace Go.Proofs.YtfdjeaieddcgdaaDoor
open Go.Lib

theorem undbl_other (b : UInt8) (r : List UInt8) (h : [39, 39].isPrefixOf (b :: r) = false) : undbl (b :: r) = b :: undbl r := by
  cases r with
  | nil => rfl
  | cons d r =>
    rw [undbl, if_neg]
    rintro ⟨rfl, rfl⟩
    revert h; simp [List.isPrefixOf]
theorem replaceK_undbl : ∀ (n : Nat) (l : List UInt8), l.length ≤ n → replaceK [39, 39] [39] (count l [39, 39]) l = undbl l
  | _, [], _ => rfl
  | 0, b :: r, h => by simp at h
  | n + 1, b :: r, h => by
    have hr : r.length ≤ n := by simpa using h
    cases hp : ([39, 39] : List UInt8).isPrefixOf (b :: r) with
    | true =>
      have hi : index (b :: r) [39, 39] = ((0 : Nat) : Int) := by unfold index; rw [if_pos hp]; rfl
      obtain ⟨t, ht⟩ := List.isPrefixOf_iff_prefix.1 hp
      rw [count_hit (by simp) hi, Nat.add_comm, replaceK_hit _ _ _ _ 0 hi]
      rw [← ht]
      show [] ++ [39] ++ replaceK [39, 39] [39] (count t [39, 39]) t = undbl (39 :: 39 :: t)
      have htl : t.length ≤ n := by have := congrArg List.length ht; simp at this h; omega
      rw [replaceK_undbl n t htl, undbl, if_pos ⟨rfl, rfl⟩]; rfl
    | false =>
      rw [undbl_other b r hp, ← replaceK_undbl n r hr]
      have hge := index_ge r [39, 39]
      by_cases hi : index r [39, 39] = -1
      · have h1 : index (b :: r) [39, 39] = -1 := by unfold index; rw [hp, hi]; rfl
        rw [count_miss h1, count_miss hi]; rfl
      · obtain ⟨i, hi'⟩ : ∃ i : Nat, index r [39, 39] = i := ⟨(index r [39, 39]).toNat, by omega⟩
        have h1 : index (b :: r) [39, 39] = ((i + 1 : Nat) : Int) := by
          unfold index
          rw [hp, hi']
          have : ((i : Int) == -1) = false := by rw [beq_eq_false_iff_ne]; omega
          rw [this]; rfl
        rw [count_hit (by simp) h1, count_hit (by simp) hi', Nat.add_comm 1, Nat.add_comm 1, replaceK_hit _ _ _ _ (i + 1) h1, replaceK_hit _ _ _ _ i hi']
        have : (b :: r).drop (i + 1 + ([39, 39] : List UInt8).length) = r.drop (i + ([39, 39] : List UInt8).length) := by
          rw [show i + 1 + ([39, 39] : List UInt8).length = i + ([39, 39] : List UInt8).length + 1 by simp, List.drop_succ_cons]
        rw [this]
        simp
theorem replace_undbl (l : List UInt8) : replaceAll l [39, 39] [39] = undbl l := by
  unfold replaceAll replace replaceNum
  rw [if_neg (by decide), if_pos (by left; decide)]
  exact replaceK_undbl l.length l (Nat.le_refl _)

/-- what a text's beginning may be -/
structure WholeP (p : List UInt8) : Prop where
  name : ∀ c r, p = c :: r → letter c = true → ∀ x ∈ p, follow x = true
  num : ∀ c r, p = c :: r → digitB c = true → ∀ x ∈ p, digitB x = true
  text : ∀ r, p = 39 :: r → 2 ≤ p.length
theorem whole_of (l : List UInt8) : WholeP (l.take (extentB l)) := by
  cases l with
  | nil => exact ⟨(fun c r h => by cases h), (fun c r h => by cases h), (fun r h => by cases h)⟩
  | cons d s =>
    obtain ⟨z, hz⟩ : ∃ z, extentB (d :: s) = z := ⟨_, rfl⟩
    rw [hz]
    cases z with
    | zero => exact ⟨(fun c r h => by cases h), (fun c r h => by cases h), (fun r h => by cases h)⟩
    | succ z =>
      have hz' := hz
      simp only [extentB] at hz
      refine ⟨fun c r h hl => ?_, fun c r h hd => ?_, fun r h => ?_⟩
      · rw [List.take_succ_cons] at h
        obtain rfl : d = c := by cases h; rfl
        rw [if_pos hl] at hz
        rw [← hz]
        exact run_all follow _
      · rw [List.take_succ_cons] at h
        obtain rfl : d = c := by cases h; rfl
        rw [if_neg (by rw [(digit_not d hd).2]; simp), if_pos hd] at hz
        rw [← hz]
        exact run_all digitB _
      · rw [List.take_succ_cons] at h
        obtain rfl : d = 39 := by cases h; rfl
        rw [if_neg (by decide), if_neg (by decide), if_pos rfl] at hz
        have hle := extentB_le (39 :: s)
        rw [hz'] at hle
        rw [List.length_take, Nat.min_eq_left hle]
        unfold quotedB at hz
        rw [List.tail_cons] at hz
        cases hc : closeB s with
        | none => rw [hc] at hz; cases hz
        | some k =>
          rw [hc] at hz
          have := (closeB_le s k hc).1
          have hz2 : k + 1 = z + 1 := hz
          omega
end Go.Proofs.YtfdjeaieddcgdaaDoor
