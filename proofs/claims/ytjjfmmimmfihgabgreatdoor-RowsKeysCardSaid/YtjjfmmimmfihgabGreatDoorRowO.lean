/-
  WHAT IS PROVED: a slice of values that came in, opened.
-/
import Derived.Test.YtjjfmmimmfihgabGreatDoorOpen
import Derived.Test.YtjjfmmimmfihgabGreatDoorRowL
namespace Go.Proofs.YtjjfmmimmfihgabGreatDoor
open Go.RowKit Go.ChangeShapes Go.WideShapes Go.Deep
set_option linter.unusedVariables false

theorem list_of {α : Type} (n : Nat) (p : Nat → α → Prop) (h : ∀ i, i < n → ∃ x, p i x) : ∃ l : List α, l.length = n ∧ ∀ i x, l[i]? = some x → p i x := by
  induction n with
  | zero => exact ⟨[], rfl, fun i x hx => by simp at hx⟩
  | succ n ih =>
    obtain ⟨l, hl, hp⟩ := ih (fun i hi => h i (by omega))
    obtain ⟨x, hx⟩ := h n (by omega)
    refine ⟨l ++ [x], by simp [hl], fun i y hy => ?_⟩
    by_cases hi : i < n
    · rw [List.getElem?_append_left (by omega)] at hy; exact hp i y hy
    · rw [List.getElem?_append_right (by omega), hl] at hy
      have hin : i - n = 0 := by
        have := (List.getElem?_eq_some_iff.1 hy).1
        simp at this; omega
      rw [hin] at hy
      simp at hy
      subst hy
      rw [show i = n by omega]; exact hx

theorem add_add (a : Addr) (m n : Nat) : (a.add m).add n = a.add (m + n) := by
  unfold Addr.add
  by_cases h1 : m = 0
  · subst h1; simp
  · by_cases h2 : n = 0
    · subst h2; simp
    · simp [h1, h2, Nat.add_assoc]

section
variable {H : Type} {enc : TypeId × Value → H} {w : World} {base : Nat} {held : Bool}

set_option maxRecDepth 100000 in
theorem values_row {fuel : Nat} {d : DataW H} {ps : List MemPlace} {ao : Option Addr} {n cap : Nat} (h : DataW.trod enc Tryz.prog w base (fun _ => true) held fuel 28 [.slice ao n cap] = some (d, ps))
    (hz : Within Tryz.prog reachBytes 28 d) : ∃ l, RowV w ao n cap l := by
  rcases open_slice Tryz.underlying28 h with ⟨hcs, _⟩ | ⟨a, len, cap', m, q, D, Pl, hcs, _, hl, hm, hmm, hx, hi⟩
  · simp only [List.cons.injEq, Value.slice.injEq, and_true] at hcs
    obtain ⟨rfl, rfl, rfl⟩ := hcs
    exact ⟨[], rowV_nil w⟩
  · simp only [List.cons.injEq, Value.slice.injEq, and_true] at hcs
    obtain ⟨rfl, rfl, rfl⟩ := hcs
    simp only [Prod.mk.injEq] at hx
    obtain ⟨rfl, _⟩ := hx
    have hC : Tryz.prog.cellsOf 25 = 3 := by kernel_rfl
    rw [hC] at hi
    obtain ⟨l, hlen, hp⟩ := list_of n (fun i (x : Val) => (∀ j v, x.cells3[j]? = some v → w.cell? (a.add (i * 3 + j)) = some v) ∧ x.In) (fun i hin => by
      obtain ⟨cs', hc, ht⟩ := hi i (by simp at hmm; omega)
      obtain ⟨ds, hd, F⟩ := fielded_of Tryz.underlying25 (by kernel_rfl) (by kernel_rfl) ht
      have hD : D i ∈ (List.range n).map D := List.mem_map.2 ⟨i, List.mem_range.2 hin, rfl⟩
      have zi := within_item hz Tryz.underlying28 hD
      simp only at hd
      rw [hd] at zi
      obtain ⟨a0, c0, w0⟩ := F.int (j := 0) rfl Tryz.underlying23
      obtain ⟨a1, c1, w1⟩ := F.int (j := 1) rfl Tryz.underlying2
      obtain ⟨a2, c2, g2, _⟩ := F.str (j := 2) rfl Tryz.underlying9
      have w2 := within_string (within_field zi Tryz.underlying25 (j := 2) rfl g2)
      have hcs := three_of F.len c0 c1 c2
      have hw0 := wf_u8 w0
      have hw1 := wf_i64 w1
      obtain ⟨a0, rfl⟩ := Int.eq_ofNat_of_zero_le hw0.1
      refine ⟨⟨a0, a1, a2⟩, fun j v hj => ?_, ⟨by show a0 < 256; omega, hw1.1, hw1.2, w2⟩⟩
      have hj3 : j < 3 := (List.getElem?_eq_some_iff.1 hj).1
      obtain ⟨_, _, hcc2⟩ := World.cells?_some hc
      rw [← add_add, hcc2 j hj3, hcs]
      exact hj)
    refine ⟨l, hlen, hl, by unfold maxLen at hm; exact hm, (fun h => by simp at h), fun b hb i x hx j v hv => ?_, fun x hx => ?_⟩
    · obtain rfl := Option.some.inj hb
      exact (hp i x hx).1 j v hv
    · obtain ⟨i, hi⟩ := List.getElem?_of_mem hx
      exact (hp i x hi).2
set_option maxRecDepth 100000 in
theorem values_arg {r : Reach} {b0 : Nat} {v : Value} {d : DataW H} {p : List MemPlace} (hv : Value.okWide Tryz.prog w r b0 28 v) (h : DataW.Trod enc Tryz.prog w base (fun _ => true) held 28 v d p) (hz : Within Tryz.prog reachBytes 28 d) :
    ∃ ao n cap l, v = .slice ao n cap ∧ RowV w ao n cap l := by
  obtain ⟨ao, n, cap, rfl⟩ := okWide_slice Tryz.underlying28 hv
  obtain ⟨fuel, hf⟩ := h
  obtain ⟨l, hl⟩ := values_row hf hz
  exact ⟨ao, n, cap, l, rfl, hl⟩
end
end Go.Proofs.YtjjfmmimmfihgabGreatDoor
