/-
  WHAT IS PROVED: slices of words: what they read as; that two that read alike are the same.
-/
import Derived.Test.YtfdjeaieddcgdaaDoorWoJ
namespace Go.Proofs.YtfdjeaieddcgdaaDoor
open Go.RowKit Go.Shelf
set_option linter.unusedVariables false

/-- THE SLICE v READS AS THE WORDS l -/
def RowW (w : World) (v : Value) (l : List WordM) : Prop :=
  (v = .slice none 0 0 ∧ l = []) ∨ ∃ g cap, v = .slice (some ⟨g, 0, none⟩) l.length cap ∧ l.length ≤ cap ∧ cap ≤ 9223372036854775807 ∧ g < w.heap.size ∧ ∀ (j : Nat) (u : Value), (cellsW l)[j]? = some u → w.cell? ⟨g, j, none⟩ = some u
theorem RowW.kept {w w' : World} {v : Value} {l : List WordM} (h : RowW w v l) (hb : Below w.heap.size w w') : RowW w' v l := by
  rcases h with h | ⟨g, cap, h1, h2, h3, h4, h5⟩
  · exact .inl h
  · exact .inr ⟨g, cap, h1, h2, h3, Nat.lt_of_lt_of_le h4 hb.size, fun j u hu => (hb.cell (p := ⟨g, j, none⟩) h4).trans (h5 j u hu)⟩
theorem RowW.of_own {w : World} {base : Nat} {v : Value} {l : List WordM} (h : w.ownsRow base 29 4 v l.length (cellsW l)) : RowW w v l := by
  have hc := fun g => @World.ownsRow.cells w base 29 4 v l.length (cellsW l) h g
  rcases h.2 with ⟨h1, h2⟩ | ⟨g, cap, cur, h1, hg, hh, hn, hm, _⟩
  · exact .inl ⟨h1, List.eq_nil_of_length_eq_zero h2⟩
  · refine .inr ⟨g, cap, h1, hn, by unfold maxLen at hm; exact hm, (Array.getElem?_eq_some_iff.1 hh).1, fun j u hu => ?_⟩
    have := hc g (by rw [h1]; rfl) j u hu
    rwa [show (⟨g, 0, none⟩ : Addr).add j = ⟨g, j, none⟩ by unfold Addr.add; split <;> simp_all] at this
theorem RowW.of_lit {w : World} {B : Nat} {l : List WordM} {cs : Array Value} {fr : Nat × Nat} (h : w.heap[B]? = some (.cells cs 29 fr)) (hc : cs.toList = cellsW l) (hl : l.length ≤ 1000000) (n : Nat) (hn : l.length = n) : RowW w (.slice (some ⟨B, 0, none⟩) n n) l := by
  subst hn
  refine .inr ⟨B, l.length, rfl, Nat.le_refl _, by omega, (Array.getElem?_eq_some_iff.1 h).1, fun j u hu => ?_⟩
  rw [cell_of_row w B j cs _ _ h, ← Array.getElem?_toList, hc]; exact hu
theorem RowW.slice {w : World} {v : Value} {l : List WordM} (h : RowW w v l) : ∃ ao cap, v = .slice ao l.length cap ∧ l.length ≤ cap ∧ cap ≤ 9223372036854775807 := by
  rcases h with ⟨rfl, rfl⟩ | ⟨g, cap, h1, h2, h3, _⟩
  · exact ⟨_, _, rfl, Nat.le_refl _, by omega⟩
  · exact ⟨_, _, h1, h2, h3⟩
theorem cellsW_at : ∀ (l : List WordM) (k : Nat) (x : WordM) (j : Nat), l[k]? = some x → j < 4 → (cellsW l)[k * 4 + j]? = x.cells4[j]?
  | [], k, x, j, h, _ => by simp at h
  | y :: l, 0, x, j, h, hj => by
    cases h
    show (y.cells4 ++ cellsW l)[0 * 4 + j]? = _
    rw [List.getElem?_append_left (by simp [WordM.cells4]; omega)]
    congr 1; omega
  | y :: l, k + 1, x, j, h, hj => by
    show (y.cells4 ++ cellsW l)[(k + 1) * 4 + j]? = _
    rw [List.getElem?_append_right (by simp [WordM.cells4]; omega), show (k + 1) * 4 + j - y.cells4.length = k * 4 + j by simp [WordM.cells4]; omega]
    exact cellsW_at l k x j (by simpa using h) hj
/-- where the words of a slice lie -/
theorem RowW.lies {w : World} {v : Value} {l : List WordM} (h : RowW w v l) {k : Nat} {x : WordM} (hx : l[k]? = some x) : ∃ g cap, v = .slice (some ⟨g, 0, none⟩) l.length cap ∧
    w.cell? ⟨g, k * 4, none⟩ = some (.int .u8 (x.kind : Int)) ∧ w.cell? ⟨g, k * 4 + 1, none⟩ = some (.string (strU x.s)) ∧ w.cell? ⟨g, k * 4 + 2, none⟩ = some (.int .i64 (x.i : Int)) ∧ w.cell? ⟨g, k * 4 + 3, none⟩ = some (.int .i64 (x.pos : Int)) := by
  rcases h with ⟨_, rfl⟩ | ⟨g, cap, h1, h2, h3, h4, h5⟩
  · simp at hx
  · exact ⟨g, cap, h1, h5 _ _ ((cellsW_at l k x 0 hx (by omega)).trans rfl), h5 _ _ ((cellsW_at l k x 1 hx (by omega)).trans rfl), h5 _ _ ((cellsW_at l k x 2 hx (by omega)).trans rfl), h5 _ _ ((cellsW_at l k x 3 hx (by omega)).trans rfl)⟩

set_option maxRecDepth 100000 in
set_option maxHeartbeats 2000000 in
theorem sameWords_same (v u : Value) (l : List WordM) (w : World) (hv : RowW w v l) (hu : RowW w u l) :
    Calls Tryd.prog 16 #[v, u] w fun e w' => e = .returned (.bool true) ∧ Below w.heap.size w w' := by
  obtain ⟨ao, cap, rfl, hr1, hm1⟩ := hv.slice
  obtain ⟨bo, cap2, rfl, hr2, hm2⟩ := hu.slice
  have HV := Lib.hid hv
  have HU := Lib.hid hu
  obtain ⟨n, hn⟩ : ∃ n, l.length = n := ⟨_, rfl⟩
  rw [hn] at hr1 hr2 HV HU ⊢
  have HN := Lib.hid hn
  clear hv hu hn
  go_enter Tryd.func16, Tryd.ntmps16
  go_wp2_with fail
  go_loopw [5] (fun i wr => ∃ k : Nat, k ≤ n ∧ i = .int .i64 k ∧ Hid (Below w.heap.size w wr)) (fun i _ => n - (RowKit.intOf i).toNat)
  case atStart => exact ⟨0, by omega, rfl, Lib.hid (Below.refl _ _)⟩
  case round =>
    obtain ⟨k, hk, rfl, HK⟩ := hrel
    by_cases hlt : k < n
    · obtain ⟨x, hx⟩ : ∃ x, l[k]? = some x := ⟨l[k]'(by rw [HN.out]; exact hlt), by simp [HN.out, hlt]⟩
      obtain ⟨g1, c1, e1, p0, p1, p2, p3⟩ := (HV.out.kept HK.out).lies hx
      obtain ⟨g2, c2, e2, r0, r1, r2, r3⟩ := (HU.out.kept HK.out).lies hx
      cases e1
      cases e2
      rw [HN.out]
      have q0 := bwOf_cell wr _ _ p0
      have q1 := bwOf_cell wr _ _ p1
      have q2 := bwOf_cell wr _ _ p2
      have q3 := bwOf_cell wr _ _ p3
      have s0 := bwOf_cell wr _ _ r0
      have s1 := bwOf_cell wr _ _ r1
      have s2 := bwOf_cell wr _ _ r2
      have s3 := bwOf_cell wr _ _ r3
      clear hx p0 p1 p2 p3 r0 r1 r2 r3
      have mixed : Tryd.prog.follows .mixedOrders = true := by kernel_rfl
      go_wp2_with fail
      refine wp_region_bw (w := wr) (by kernel_rfl) (by kernel_rfl) ?_
      repeat (go_big_quiet_step (fail))
      refine wpQuiet_nil ?_
      rintro w7 ⟨m7, h7⟩
      have B7 : Hid (Below wr.heap.size wr w7) := by rw [h7]; exact bwOf_below wr m7
      clear h7
      go_wp2_with fail
      go_roundw
      case rel => exact ⟨k + 1, by omega, by go_num, Lib.hid (below_next HK.out B7.out)⟩
      case measure => simp [RowKit.intOf]; omega
    · obtain rfl : k = n := by omega
      go_wp2_with fail
      go_ret
      exact ⟨rfl, HK.out⟩
end Go.Proofs.YtfdjeaieddcgdaaDoor
