/-
  WHAT IS PROVED: a slice of records opened.
-/
import Derived.Test.YtkmanpmaflpgoaaOpen3
import Derived.Test.YtkmanpmaflpgoaaJMany
namespace Go.Proofs.Ytkmanpmaflpgoaa
open Go.RowKit Go.ChangeShapes Go.WideShapes Go.Deep

section
variable {H : Type} {enc : TypeId × Value → H} {w : World} {base : Nat} {held : Bool}

theorem records_most {R fuel : Nat} {cs : List Value} {d : DataW H} {ps : List MemPlace} {ao : Option Addr} {k cap : Nat} (h : DataW.trod enc Try.prog w base (fun _ => true) held fuel 33 cs = some (d, ps)) (hcs : cs = [.slice ao k cap])
    (hw : Within Try.prog R 33 d) : k ≤ R := by
  rcases DataW.trod_slice Try.underlying33 h with ⟨h0, _⟩ | ⟨a, len, cap', elems, rest, n, _, h1, h2, _, _, _, hlen, _⟩
  · rw [hcs] at h0; simp at h0; omega
  · rw [hcs] at h1
    simp only [List.cons.injEq, Value.slice.injEq, and_true] at h1
    simp only [Prod.mk.injEq] at h2
    rw [h2.1] at hw
    have := hw _ (by simp only [DataW.weights, Try.underlying33]; exact List.mem_cons_self)
    rw [show Try.prog.bytesOf 22 = 24 by kernel_rfl] at this
    simp at this
    omega

theorem records_row {fuel : Nat} {d : DataW H} {ps : List MemPlace} {ao : Option Addr} {n cap : Nat} (h : DataW.trod enc Try.prog w base (fun _ => true) held fuel 33 [.slice ao n cap] = some (d, ps))
    (hz : Within Try.prog reachBytes 33 d) : ∃ rs, RowB w ao n cap rs := by
  have hmost := records_most h rfl hz
  rcases open_slice Try.underlying33 h with ⟨hcs, _⟩ | ⟨a, len, cap', m, q, D, Pl, hcs, _, hl, hm, hmm, hx, hi⟩
  · simp only [List.cons.injEq, Value.slice.injEq, and_true] at hcs
    obtain ⟨rfl, rfl, rfl⟩ := hcs
    exact ⟨[], ⟨rfl, Nat.le_refl _, by omega, fun _ => rfl, fun a ha => by simp at ha⟩, by omega, fun x hx => by simp at hx⟩
  · simp only [List.cons.injEq, Value.slice.injEq, and_true] at hcs
    obtain ⟨rfl, rfl, rfl⟩ := hcs
    simp only [Prod.mk.injEq] at hx
    obtain ⟨rfl, _⟩ := hx
    have hC : Try.prog.cellsOf 22 = 1 := by kernel_rfl
    rw [hC] at hi
    obtain ⟨l, hlen, hp⟩ := list_of n (fun i (x : List Nat) => ∃ aj cj, w.cell? (a.add i) = some (.slice aj x.length cj) ∧ Row8 w aj x.length cj x ∧ x.length ≤ 140737488351232) (fun i hin => by
      obtain ⟨cs', hc, ht⟩ := hi i (by simp at hmm; omega)
      have hD : D i ∈ (List.range n).map D := List.mem_map.2 ⟨i, List.mem_range.2 hin, rfl⟩
      have zi := within_item hz Try.underlying33 hD
      obtain ⟨hcl, _, hcc2⟩ := World.cells?_some hc
      obtain ⟨c0, hc0⟩ : ∃ c0, cs' = [c0] := by
        match cs', hcl with
        | [x], _ => exact ⟨x, rfl⟩
      subst hc0
      obtain ⟨aj, k, cj, z, e1, e2⟩ := bytes_row ht
      subst e1
      have hk := bytes_most ht rfl zi
      obtain rfl := e2.len
      refine ⟨z, aj, cj, ?_, e2, hk⟩
      have h0 := hcc2 0 (by omega)
      rw [add_add, Nat.mul_one, Nat.add_zero] at h0
      exact h0)
    refine ⟨l, ⟨hlen, hl, by unfold maxLen at hm; exact hm, fun h => by simp at h, fun b hb j r hr => ?_⟩, hmost, fun r hr => ?_⟩
    · obtain rfl := Option.some.inj hb
      obtain ⟨aj, cj, h1, h2, _⟩ := hp j r hr
      exact ⟨aj, cj, h1, h2⟩
    · obtain ⟨i, hi⟩ := List.getElem?_of_mem hr
      obtain ⟨_, _, _, _, h3⟩ := hp i r hi
      exact h3

set_option maxRecDepth 100000 in
theorem records_arg {r : Reach} {b0 : Nat} {v : Value} {d : DataW H} {p : List MemPlace} (hv : Value.okWide Try.prog w r b0 33 v) (h : DataW.Trod enc Try.prog w base (fun _ => true) held 33 v d p) (hz : Within Try.prog reachBytes 33 d) :
    ∃ ao n cap rs, v = .slice ao n cap ∧ RowB w ao n cap rs := by
  obtain ⟨ao, n, cap, rfl⟩ := okWide_slice Try.underlying33 hv
  obtain ⟨fuel, hf⟩ := h
  obtain ⟨rs, hr⟩ := records_row hf hz
  exact ⟨ao, n, cap, rs, rfl, hr⟩
set_option maxRecDepth 100000 in
theorem bytes_arg {r : Reach} {b0 : Nat} {v : Value} {d : DataW H} {p : List MemPlace} (hv : Value.okWide Try.prog w r b0 22 v) (h : DataW.Trod enc Try.prog w base (fun _ => true) held 22 v d p) :
    ∃ ao n cap z, v = .slice ao n cap ∧ Row8 w ao n cap z := by
  obtain ⟨ao, n, cap, rfl⟩ := okWide_slice Try.underlying22 hv
  obtain ⟨fuel, hf⟩ := h
  exact bytes_row hf
end
end Go.Proofs.Ytkmanpmaflpgoaa
