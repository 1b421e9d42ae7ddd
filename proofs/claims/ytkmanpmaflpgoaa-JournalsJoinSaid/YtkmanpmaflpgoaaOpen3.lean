/-
  WHAT IS PROVED: a slice of acts opened.
-/
import Derived.Test.YtkmanpmaflpgoaaOpen
import Derived.Test.YtkmanpmaflpgoaaActs
namespace Go.Proofs.Ytkmanpmaflpgoaa
open Go.RowKit Go.ChangeShapes Go.WideShapes Go.Deep

theorem list_of {α : Type} (n : Nat) (p : Nat → α → Prop) (h : ∀ i, i < n → ∃ x, p i x) : ∃ l : List α, l.length = n ∧ ∀ i x, l[i]? = some x → p i x := by
  induction n with
  | zero => exact ⟨[], rfl, fun i x hx => by simp at hx⟩
  | succ n ih =>
    obtain ⟨l, hl, hp⟩ := ih (fun i hi => h i (by omega))
    obtain ⟨x, hx⟩ := h n (by omega)
    refine ⟨l ++ [x], by simp [hl], fun i y hy => ?_⟩
    by_cases hi : i < n
    · rw [List.getElem?_append_left (by omega)] at hy; exact hp i y hy
    · rw [List.getElem?_append_right (by omega), hl] at hy
      have hin : i - n = 0 := by
        have := (List.getElem?_eq_some_iff.1 hy).1
        simp at this; omega
      rw [hin] at hy
      simp at hy
      subst hy
      rw [show i = n by omega]; exact hx

theorem add_add (a : Addr) (m n : Nat) : (a.add m).add n = a.add (m + n) := by
  unfold Addr.add
  by_cases h1 : m = 0
  · subst h1; simp
  · by_cases h2 : n = 0
    · subst h2; simp
    · simp [h1, h2, Nat.add_assoc]

section
variable {H : Type} {enc : TypeId × Value → H} {w : World} {base : Nat} {held : Bool}

theorem bytes_most {R fuel : Nat} {cs : List Value} {d : DataW H} {ps : List MemPlace} {ao : Option Addr} {k cap : Nat} (h : DataW.trod enc Try.prog w base (fun _ => true) held fuel 22 cs = some (d, ps)) (hcs : cs = [.slice ao k cap])
    (hw : Within Try.prog R 22 d) : k ≤ R := by
  rcases DataW.trod_slice Try.underlying22 h with ⟨h0, _⟩ | ⟨a, len, cap', elems, rest, n, _, h1, h2, _, _, _, hlen, _⟩
  · rw [hcs] at h0; simp at h0; omega
  · rw [hcs] at h1
    simp only [List.cons.injEq, Value.slice.injEq, and_true] at h1
    simp only [Prod.mk.injEq] at h2
    rw [h2.1] at hw
    have := hw _ (by simp only [DataW.weights, Try.underlying22]; exact List.mem_cons_self)
    rw [show Try.prog.bytesOf 5 = 1 by kernel_rfl] at this
    simp at this
    omega

end
end Go.Proofs.Ytkmanpmaflpgoaa
