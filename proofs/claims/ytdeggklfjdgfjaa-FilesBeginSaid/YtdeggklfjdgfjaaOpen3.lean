/-
  WHAT IS PROVED: a slice of acts opened.
-/
import Derived.Test.YtdeggklfjdgfjaaOpen
import Derived.Test.YtdeggklfjdgfjaaActs
namespace Go.Proofs.Ytdeggklfjdgfjaa
open Go.RowKit Go.ChangeShapes Go.WideShapes Go.Deep

theorem list_of {α : Type} (n : Nat) (p : Nat → α → Prop) (h : ∀ i, i < n → ∃ x, p i x) : ∃ l : List α, l.length = n ∧ ∀ i x, l[i]? = some x → p i x := by
  induction n with
  | zero => exact ⟨[], rfl, fun i x hx => by simp at hx⟩
  | succ n ih =>
    obtain ⟨l, hl, hp⟩ := ih (fun i hi => h i (by omega))
    obtain ⟨x, hx⟩ := h n (by omega)
    refine ⟨l ++ [x], by simp [hl], fun i y hy => ?_⟩
    by_cases hi : i < n
    · rw [List.getElem?_append_left (by omega)] at hy; exact hp i y hy
    · rw [List.getElem?_append_right (by omega), hl] at hy
      have hin : i - n = 0 := by
        have := (List.getElem?_eq_some_iff.1 hy).1
        simp at this; omega
      rw [hin] at hy
      simp at hy
      subst hy
      rw [show i = n by omega]; exact hx

theorem add_add (a : Addr) (m n : Nat) : (a.add m).add n = a.add (m + n) := by
  unfold Addr.add
  by_cases h1 : m = 0
  · subst h1; simp
  · by_cases h2 : n = 0
    · subst h2; simp
    · simp [h1, h2, Nat.add_assoc]

section
variable {H : Type} {enc : TypeId × Value → H} {w : World} {base : Nat} {held : Bool}

theorem bytes_most {R fuel : Nat} {cs : List Value} {d : DataW H} {ps : List MemPlace} {ao : Option Addr} {k cap : Nat} (h : DataW.trod enc Try.prog w base (fun _ => true) held fuel 22 cs = some (d, ps)) (hcs : cs = [.slice ao k cap])
    (hw : Within Try.prog R 22 d) : k ≤ R := by
  rcases DataW.trod_slice Try.underlying22 h with ⟨h0, _⟩ | ⟨a, len, cap', elems, rest, n, _, h1, h2, _, _, _, hlen, _⟩
  · rw [hcs] at h0; simp at h0; omega
  · rw [hcs] at h1
    simp only [List.cons.injEq, Value.slice.injEq, and_true] at h1
    simp only [Prod.mk.injEq] at h2
    rw [h2.1] at hw
    have := hw _ (by simp only [DataW.weights, Try.underlying22]; exact List.mem_cons_self)
    rw [show Try.prog.bytesOf 5 = 1 by kernel_rfl] at this
    simp at this
    omega

theorem acts_row {fuel : Nat} {d : DataW H} {ps : List MemPlace} {ao : Option Addr} {n cap : Nat} (h : DataW.trod enc Try.prog w base (fun _ => true) held fuel 57 [.slice ao n cap] = some (d, ps))
    (hz : Within Try.prog reachBytes 57 d) : ∃ l, RowAct w ao n cap l := by
  rcases open_slice Try.underlying57 h with ⟨hcs, _⟩ | ⟨a, len, cap', m, q, D, Pl, hcs, _, hl, hm, hmm, hx, hi⟩
  · simp only [List.cons.injEq, Value.slice.injEq, and_true] at hcs
    obtain ⟨rfl, rfl, rfl⟩ := hcs
    exact ⟨[], rfl, Nat.le_refl _, by omega, fun _ => rfl, fun a ha => by simp at ha, fun x hx => by simp at hx⟩
  · simp only [List.cons.injEq, Value.slice.injEq, and_true] at hcs
    obtain ⟨rfl, rfl, rfl⟩ := hcs
    simp only [Prod.mk.injEq] at hx
    obtain ⟨rfl, _⟩ := hx
    have hC : Try.prog.cellsOf 24 = 7 := by kernel_rfl
    rw [hC] at hi
    obtain ⟨l, hlen, hp⟩ := list_of n (fun i (x : ActM) => (∀ j v, x.cells[j]? = some v → w.cell? (a.add (i * 7 + j)) = some v) ∧ Row8 w x.bo x.bn x.bc x.z ∧ x.kind < 256 ∧ x.bn ≤ 140737488351232 ∧ x.nm.size ≤ 140737488351232 ∧ x.to.size ≤ 140737488351232) (fun i hin => by
      obtain ⟨cs', hc, ht⟩ := hi i (by simp at hmm; omega)
      obtain ⟨ds, hd, F⟩ := fielded_of Try.underlying24 (by kernel_rfl) (by kernel_rfl) ht
      have hD : D i ∈ (List.range n).map D := List.mem_map.2 ⟨i, List.mem_range.2 hin, rfl⟩
      have zi := within_item hz Try.underlying57 hD
      simp only at hd
      rw [hd] at zi
      obtain ⟨a0, c0, w0⟩ := F.int (j := 0) rfl Try.underlying5
      obtain ⟨a1, c1, g1, _⟩ := F.str (j := 1) rfl Try.underlying9
      have w1 := within_string (within_field zi Try.underlying24 (j := 1) rfl g1)
      obtain ⟨a2, c2, g2, _⟩ := F.str (j := 2) rfl Try.underlying9
      have w2 := within_string (within_field zi Try.underlying24 (j := 2) rfl g2)
      obtain ⟨o3, m3, b3, y3, c3, w3⟩ := F.bytes (j := 3) rfl rfl
      obtain ⟨cc, dd, pp, nn, k1, k2, k3⟩ := F.field 3 _ rfl
      have hcc : cc = .slice o3 m3 b3 := by rw [c3] at k1; exact (Option.some.inj k1).symm
      have w3b := bytes_most k3 (by rw [hcc]) (within_field zi Try.underlying24 (j := 3) rfl k2)
      obtain ⟨a4, c4, w4⟩ := F.int (j := 4) rfl Try.underlying3
      obtain ⟨a5, c5, w5⟩ := F.int (j := 5) rfl Try.underlying3
      obtain ⟨a6, c6⟩ := F.bool (j := 6) rfl Try.underlying4
      have hcs := seven_of F.len c0 c1 c2 c3 c4 c5 c6
      have hw0 := wf_u8 w0
      obtain ⟨a0, rfl⟩ := Int.eq_ofNat_of_zero_le hw0.1
      refine ⟨⟨a0, a1, a2, o3, m3, b3, y3, a4, a5, a6⟩, fun j v hj => ?_, w3, by show a0 < 256; omega, w3b, w1, w2⟩
      have hj7 : j < 7 := (List.getElem?_eq_some_iff.1 hj).1
      obtain ⟨_, _, hcc2⟩ := World.cells?_some hc
      rw [← add_add, hcc2 j hj7, hcs]
      exact hj)
    refine ⟨l, hlen, hl, by unfold maxLen at hm; exact hm, fun h => by simp at h, fun b hb i x hx j v hv => ?_, fun x hx => ?_⟩
    · obtain rfl := Option.some.inj hb
      exact (hp i x hx).1 j v hv
    · obtain ⟨i, hi⟩ := List.getElem?_of_mem hx
      exact (hp i x hi).2
end
end Go.Proofs.Ytdeggklfjdgfjaa
