/-
  WHAT IS PROVED: expressions near as deep as they may be: what the texts are read as.
-/
import Derived.Test.YtenmnpbjnbdeaaaGreatDoorQTrTg
import Derived.Test.YtenmnpbjnbdeaaaGreatDoorMi
namespace Go.Proofs.YtenmnpbjnbdeaaaGreatDoor
set_option linter.unusedVariables false

def deepT (c : Nat) : Nat → List UInt8
  | 0 => [97]
  | n + 1 => if c = 0 then [78, 79, 84, 32] ++ deepT c n else if c = 1 then [45, 32] ++ deepT c n else if c = 2 then deepT c n ++ [32, 43, 32, 49] else if c = 3 then [102, 40] ++ deepT c n ++ [41] else [40, 49, 32, 42, 32, 40, 40, 40] ++ deepT c n ++ [41, 41, 41, 41]
def deepX (c : Nat) : Nat → Ex
  | 0 => nmE 97
  | n + 1 => if c = 0 then oneE 2 (deepX c n) else if c = 1 then oneE 1 (deepX c n) else if c = 2 then twoE 5 (deepX c n) (litE 1 1 []) else if c = 3 then callE [102] false [deepX c n] else twoE 7 (litE 1 1 []) (deepX c n)
/-- a delete where that holds -/
def delS (x : Ex) : StM := ⟨6, [], [116], [], [], [], [], [], x, [], noE, [], 0, 0⟩
def deepOk (c j : Nat) : Bool :=
  if 18 + j ≤ 24 then (exprB (deepT c (17 + j))).isX (deepX c (17 + j)) && checkB (delS (deepX c (17 + j)))
  else (exprB (deepT c (17 + j))).isBad 0 3 && ((stmtB ([68, 69, 76, 69, 84, 69, 32, 70, 82, 79, 77, 32, 116, 32, 87, 72, 69, 82, 69, 32] ++ deepT c (17 + j))).isBad 0 3 && !checkB (delS (deepX c (17 + j))))
set_option maxRecDepth 100000 in
theorem deep_all : ((List.range 5).all fun c => (List.range 10).all fun j => deepOk c j) = true := by kernel_rfl
theorem deep_at {c j : Nat} (hc : c < 5) (hj : j < 10) : deepOk c j = true := by
  have h := deep_all
  rw [List.all_eq_true] at h
  have h1 := h c (List.mem_range.2 hc)
  rw [List.all_eq_true] at h1
  exact h1 j (List.mem_range.2 hj)
theorem deep_yes {c j : Nat} (hc : c < 5) (hj : j < 10) (h : 18 + j ≤ 24) : exprB (deepT c (17 + j)) = .ok (deepX c (17 + j)) ∧ checkB (delS (deepX c (17 + j))) = true := by
  have q := deep_at hc hj
  unfold deepOk at q
  rw [if_pos h, Bool.and_eq_true] at q
  exact ⟨Out.ok_of q.1, q.2⟩
theorem deep_no {c j : Nat} (hc : c < 5) (hj : j < 10) (h : ¬ 18 + j ≤ 24) : exprB (deepT c (17 + j)) = .bad 0 3 ∧ stmtB ([68, 69, 76, 69, 84, 69, 32, 70, 82, 79, 77, 32, 116, 32, 87, 72, 69, 82, 69, 32] ++ deepT c (17 + j)) = .bad 0 3 ∧ checkB (delS (deepX c (17 + j))) = false := by
  have q := deep_at hc hj
  unfold deepOk at q
  rw [if_neg h, Bool.and_eq_true, Bool.and_eq_true] at q
  exact ⟨Out.bad_of q.1, Out.bad_of q.2.1, by simpa using q.2.2⟩
theorem deepT_len (c : Nat) : ∀ n, (deepT c n).length ≤ 1 + 12 * n
  | 0 => by simp [deepT]
  | n + 1 => by
    have := deepT_len c n
    unfold deepT
    split
    · simp; omega
    · split
      · simp; omega
      · split
        · simp; omega
        · split
          · simp; omega
          · simp; omega
theorem deepX_all {Q : List UInt8 → Prop} (h0 : Q []) (h1 : Q [97]) (h2 : Q [102]) (c : Nat) : ∀ n, (deepX c n).all Q
  | 0 => colE_all h0 h0 h1
  | n + 1 => by
    have := deepX_all h0 h1 h2 c n
    unfold deepX
    split
    · exact oneE_all h0 this
    · split
      · exact oneE_all h0 this
      · split
        · exact twoE_all h0 this (litE_all h0 h0)
        · split
          · exact callE_all h0 h2 (fun y hy => by rw [List.mem_singleton.1 hy]; exact this)
          · exact twoE_all h0 (litE_all h0 h0) this
theorem delS_all {Q : List UInt8 → Prop} (h0 : Q []) (h1 : Q [116]) {x : Ex} (h : x.all Q) : (delS x).all Q :=
  ⟨h0, h1, fun c hc => (by cases hc), fun c hc => (by cases hc), fun c hc => (by cases hc), fun c hc => (by cases hc), fun c hc => (by cases hc), h, fun c hc => (by cases hc), noE_all h0, fun c hc => (by cases hc)⟩
end Go.Proofs.YtenmnpbjnbdeaaaGreatDoor
