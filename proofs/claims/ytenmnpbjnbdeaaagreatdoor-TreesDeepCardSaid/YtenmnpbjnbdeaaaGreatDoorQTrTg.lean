/-
  WHAT IS PROVED: three names with two signs between: what the text is read as, for each two signs.
-/
import Derived.Test.YtenmnpbjnbdeaaaGreatDoorMi
namespace Go.Proofs.YtenmnpbjnbdeaaaGreatDoor
set_option linter.unusedVariables false

/-! ### Whether two trees are the same, reckoned -/
def Atom.eqb (a b : Atom) : Bool := a.kind == b.kind && (a.op == b.op && (a.table == b.table && (a.name == b.name && (a.vk == b.vk && (a.vi == b.vi && (a.vs == b.vs && a.star == b.star))))))
def Exs.eqb : Exs → Exs → Bool
  | .nil, .nil => true
  | .cons a l r, .cons b m s => a.eqb b && (l.eqb m && r.eqb s)
  | _, _ => false
def Ex.eqb (x y : Ex) : Bool := x.a.eqb y.a && x.l.eqb y.l
theorem Atom.eq_of {a b : Atom} (h : a.eqb b = true) : a = b := by
  unfold Atom.eqb at h
  simp only [Bool.and_eq_true, beq_iff_eq] at h
  obtain ⟨h1, h2, h3, h4, h5, h6, h7, h8⟩ := h
  cases a; cases b
  simp only at h1 h2 h3 h4 h5 h6 h7 h8
  subst h1 h2 h3 h4 h5 h6 h7 h8
  rfl
theorem Exs.eq_of : ∀ {l m : Exs}, l.eqb m = true → l = m
  | .nil, .nil, _ => rfl
  | .cons a l r, .cons b m s, h => by
    unfold Exs.eqb at h
    simp only [Bool.and_eq_true] at h
    rw [Atom.eq_of h.1, Exs.eq_of h.2.1, Exs.eq_of h.2.2]
  | .nil, .cons _ _ _, h => by cases h
  | .cons _ _ _, .nil, h => by cases h
theorem Ex.eq_of {x y : Ex} (h : x.eqb y = true) : x = y := by
  unfold Ex.eqb at h
  rw [Bool.and_eq_true] at h
  cases x; cases y
  simp only at h
  rw [Atom.eq_of h.1, Exs.eq_of h.2]
def Out.isX : Out Ex → Ex → Bool
  | .ok x, y => x.eqb y
  | .bad _ _, _ => false
def Out.isBad {α : Type} : Out α → Nat → Nat → Bool
  | .bad p e, q, f => p == q && e == f
  | .ok _, _, _ => false
theorem Out.ok_of {o : Out Ex} {x : Ex} (h : o.isX x = true) : o = .ok x := by
  cases o with
  | ok y => rw [Ex.eq_of (show y.eqb x = true from h)]
  | bad p e => cases h
theorem Out.bad_of {α : Type} {o : Out α} {p e : Nat} (h : o.isBad p e = true) : o = .bad p e := by
  cases o with
  | ok y => cases h
  | bad q f =>
    have h' : (q == p && f == e) = true := h
    rw [Bool.and_eq_true, beq_iff_eq, beq_iff_eq] at h'
    rw [h'.1, h'.2]

/-! ### Two signs between three names -/
def sgns : List (List UInt8) := [[43], [45], [42], [47], [37], [124, 124], [61], [60, 62], [60], [60, 61], [62], [62, 61], [65, 78, 68], [79, 82]]
def tgts : List Nat := [4, 4, 5, 5, 5, 4, 3, 3, 3, 3, 3, 3, 2, 1]
def sgn (i : Nat) : List UInt8 := sgns.getD i []
def tgt (i : Nat) : Nat := tgts.getD i 0
def nmE (c : UInt8) : Ex := colE [] [c]
def tightT (i k : Nat) : List UInt8 := [97, 32] ++ sgn i ++ [32, 98, 32] ++ sgn k ++ [32, 99]
def tightOk (i k : Nat) : Bool :=
  if tgt i = 3 ∧ tgt k = 3 then (exprB (tightT i k)).isBad (5 + (sgn i).length) 4
  else if tgt k > tgt i then (exprB (tightT i k)).isX (twoE (5 + i) (nmE 97) (twoE (5 + k) (nmE 98) (nmE 99)))
  else (exprB (tightT i k)).isX (twoE (5 + k) (twoE (5 + i) (nmE 97) (nmE 98)) (nmE 99))
set_option maxRecDepth 100000 in
theorem tight_all : ((List.range 14).all fun i => (List.range 14).all fun k => tightOk i k) = true := by kernel_rfl
theorem tight_at {i k : Nat} (hi : i < 14) (hk : k < 14) : tightOk i k = true := by
  have h := tight_all
  rw [List.all_eq_true] at h
  have h1 := h i (List.mem_range.2 hi)
  rw [List.all_eq_true] at h1
  exact h1 k (List.mem_range.2 hk)
theorem tight_a {i k : Nat} (hi : i < 14) (hk : k < 14) (h1 : tgt i = 3) (h2 : tgt k = 3) : exprB (tightT i k) = .bad (5 + (sgn i).length) 4 := by
  have h := tight_at hi hk
  unfold tightOk at h
  rw [if_pos ⟨h1, h2⟩] at h
  exact Out.bad_of h
theorem tight_b {i k : Nat} (hi : i < 14) (hk : k < 14) (h1 : ¬ (tgt i = 3 ∧ tgt k = 3)) (h2 : tgt k > tgt i) : exprB (tightT i k) = .ok (twoE (5 + i) (nmE 97) (twoE (5 + k) (nmE 98) (nmE 99))) := by
  have h := tight_at hi hk
  unfold tightOk at h
  rw [if_neg h1, if_pos h2] at h
  exact Out.ok_of h
theorem tight_c {i k : Nat} (hi : i < 14) (hk : k < 14) (h1 : ¬ (tgt i = 3 ∧ tgt k = 3)) (h2 : ¬ tgt k > tgt i) : exprB (tightT i k) = .ok (twoE (5 + k) (twoE (5 + i) (nmE 97) (nmE 98)) (nmE 99)) := by
  have h := tight_at hi hk
  unfold tightOk at h
  rw [if_neg h1, if_neg h2] at h
  exact Out.ok_of h
theorem sgns_at {i : Nat} (hi : i < 14) : sgns[i]? = some (sgn i) ∧ (sgn i).length ≤ 3 := by
  have key : ∀ i < 14, sgns[i]? = some (sgn i) ∧ (sgn i).length ≤ 3 := by decide +kernel
  exact key i hi
theorem tgts_at {i : Nat} (hi : i < 14) : tgts[i]? = some (tgt i) := by
  have key : ∀ i < 14, tgts[i]? = some (tgt i) := by decide +kernel
  exact key i hi
end Go.Proofs.YtenmnpbjnbdeaaaGreatDoor
