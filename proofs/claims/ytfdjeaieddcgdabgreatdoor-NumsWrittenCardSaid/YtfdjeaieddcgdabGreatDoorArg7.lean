/-
  WHAT IS PROVED: a slice of bytes opened, its length bounded.
-/
import Derived.Test.YtfdjeaieddcgdabGreatDoorOpen
namespace Go.Proofs.YtfdjeaieddcgdabGreatDoor
open Go.RowKit Go.ChangeShapes Go.WideShapes Go.Deep

section
variable {H : Type} {enc : TypeId × Value → H} {w : World} {base : Nat} {held : Bool}
theorem bytes_most7 {R fuel : Nat} {cs : List Value} {d : DataW H} {ps : List MemPlace} {ao : Option Addr} {k cap : Nat} (h : DataW.trod enc Tryz.prog w base (fun _ => true) held fuel 29 cs = some (d, ps)) (hcs : cs = [.slice ao k cap])
    (hw : Within Tryz.prog R 29 d) : k ≤ R := by
  rcases DataW.trod_slice Tryz.underlying29 h with ⟨h0, _⟩ | ⟨a, len, cap', elems, rest, n, _, h1, h2, _, _, _, hlen, _⟩
  · rw [hcs] at h0; simp at h0; omega
  · rw [hcs] at h1
    simp only [List.cons.injEq, Value.slice.injEq, and_true] at h1
    simp only [Prod.mk.injEq] at h2
    rw [h2.1] at hw
    have := hw _ (by simp only [DataW.weights, Tryz.underlying29]; exact List.mem_cons_self)
    rw [show Tryz.prog.bytesOf 5 = 1 by kernel_rfl] at this
    simp at this
    omega


set_option maxRecDepth 100000 in
theorem bytes_arg7 {r : Reach} {b0 : Nat} {v : Value} {d : DataW H} {p : List MemPlace} (hv : Value.okWide Tryz.prog w r b0 29 v) (h : DataW.Trod enc Tryz.prog w base (fun _ => true) held 29 v d p) (hz : Within Tryz.prog reachBytes 29 d) :
    ∃ ao n cap z, v = .slice ao n cap ∧ Row8 w ao n cap z ∧ n ≤ 140737488355328 := by
  obtain ⟨ao, n, cap, rfl⟩ := okWide_slice Tryz.underlying29 hv
  obtain ⟨fuel, hf⟩ := h
  have hm := bytes_most7 hf rfl hz
  obtain ⟨ao2, n2, cap2, z, e, hr⟩ := bytes_row hf
  cases e
  exact ⟨_, _, _, z, rfl, hr, by have h2 : _ ≤ 140737488351232 := hm; exact Nat.le_trans h2 (of_decide_eq_true rfl)⟩
end
end Go.Proofs.YtfdjeaieddcgdabGreatDoor
