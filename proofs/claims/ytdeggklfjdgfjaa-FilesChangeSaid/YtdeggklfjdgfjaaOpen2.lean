/-
  WHAT IS PROVED: an array of arrays opened.
-/
import Derived.Test.YtdeggklfjdgfjaaOpen
namespace Go.Proofs.Ytdeggklfjdgfjaa
open Go.RowKit Go.ChangeShapes Go.WideShapes Go.Deep

section
variable {H : Type} {enc : TypeId × Value → H} {P : Program} {w : World} {base : Nat} {spare : Nat → Bool} {held : Bool}
theorem open_nest {r : Reach} {b0 : Nat} {t e f : TypeId} {k m : Nat} {v : Value} {d : DataW H} {p : List MemPlace} (hs : P.underlying t = some (.array k e)) (hs2 : P.underlying e = some (.array m f)) (hone : P.cellsOf f = 1) (hCe : P.cellsOf e = m) (hC : P.cellsOf t = k * m)
    (hv : Value.okWide P w r b0 t v) (h : DataW.Trod enc P w base spare held t v d p) :
    ∃ (l : List Value) (ds : List (DataW H)), v = .agg l.toArray ∧ d = .agg ds ∧ l.length = k * m ∧ ∀ i j, i < k → j < m → ∃ c xs x ps n, l[i * m + j]? = some c ∧ ds[i]? = some (.agg xs) ∧ xs[j]? = some x ∧ DataW.trod enc P w base spare held n f [c] = some (x, ps) := by
  unfold Value.okWide at hv
  rw [hs] at hv
  obtain ⟨cs, rfl, hsz, _⟩ := hv
  obtain ⟨fuel, hf⟩ := h
  obtain ⟨xs, q, _, hd, hl, hx, hi⟩ := Go.DataW.trod_array hs hf
  rw [hC] at hl
  have hl' : cs.toList.length = k * m := hl
  refine ⟨cs.toList, xs.map (·.1), by simp, by simpa using congrArg Prod.fst hd, hl', fun i j hik hjm => ?_⟩
  have h1 := hi i hik
  have hxi : xs[i]? = some (xs[i]'(by omega)) := List.getElem?_eq_getElem _
  rw [hCe, hxi] at h1
  obtain ⟨ys, q2, _, hd2, hl2, hx2, hi2⟩ := Go.DataW.trod_array hs2 h1
  have h2 := hi2 j hjm
  have hyj : ys[j]? = some (ys[j]'(by omega)) := List.getElem?_eq_getElem _
  have hlt : i * m + j < cs.toList.length := by
    rw [hl']
    calc i * m + j < i * m + m := by omega
      _ = (i + 1) * m := by rw [Nat.add_mul, Nat.one_mul]
      _ ≤ k * m := Nat.mul_le_mul_right _ (by omega)
  have hlj : cs.toList[i * m + j]? = some (cs.toList[i * m + j]'hlt) := List.getElem?_eq_getElem _
  have e1 : ((((Value.agg cs).cells.toList.drop (i * m)).take m).drop j).take 1 = [cs.toList[i * m + j]'hlt] := by
    show (((cs.toList.drop (i * m)).take m).drop j).take 1 = _
    apply List.ext_getElem?
    intro n
    rcases n with _ | n
    · rw [List.getElem?_take_of_lt (by omega), List.getElem?_drop, List.getElem?_take_of_lt (by omega), List.getElem?_drop, Nat.add_zero, hlj]; rfl
    · rw [List.getElem?_take_eq_none (by omega)]; rfl
  rw [hone, Nat.mul_one, e1, hyj] at h2
  refine ⟨_, ys.map (·.1), _, (ys[j]'(by omega)).2, q2, hlj, ?_, by rw [List.getElem?_map, hyj]; rfl, h2⟩
  rw [List.getElem?_map, hxi]
  exact congrArg some (by simpa using congrArg Prod.fst hd2)

theorem four_of {l : List Value} {a b c d : Value} (hl : l.length = 4) (h0 : l[0]? = some a) (h1 : l[1]? = some b) (h2 : l[2]? = some c) (h3 : l[3]? = some d) : l = [a, b, c, d] := by
  match l, hl with
  | [x, y, z, u], _ => simp at h0 h1 h2 h3; rw [h0, h1, h2, h3]
end
end Go.Proofs.Ytdeggklfjdgfjaa
