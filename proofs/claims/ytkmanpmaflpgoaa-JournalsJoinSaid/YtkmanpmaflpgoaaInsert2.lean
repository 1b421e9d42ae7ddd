/-
  WHAT IS PROVED: contracts: slices.Insert of one entry, slices.Delete of one entry, slices.Clone, at directories.
-/
import Derived.Test.YtkmanpmaflpgoaaInsert
namespace Go.Proofs.Ytkmanpmaflpgoaa
open Go.RowKit Go.Lib

set_option maxRecDepth 100000 in
set_option maxHeartbeats 4000000 in
/-- in the middle, where there is room -/
theorem insert_room (base g n cap i : Nat) (xs : List Value) (nm : ByteArray) (p : Value) (vb : Nat) (w : World) (hown : w.ownsRow base 72 2 (.slice (some ⟨g, 0, none⟩) n cap) n xs) (hl : n ≤ 1000) (hx : ∀ u ∈ xs, u.oneCell' = true)
    (hi : i < n) (hroom : n + 1 ≤ cap) (hb : w.heap[vb]? = some (.cells #[.string nm, p] 72 (0, 0))) (hp : p.oneCell' = true) (hne : vb ≠ g) (hm : cap ≤ 9223372036854775807) :
    Calls Try.prog 51 #[.slice (some ⟨g, 0, none⟩) n cap, .int .i64 i, .slice (some ⟨vb, 0, none⟩) 1 1] w (Rowed base (.slice (some ⟨g, 0, none⟩) n cap) (n + 1) (xs.take (i * 2) ++ [.string nm, p] ++ xs.drop (i * 2)) w) := by
  have HO := Lib.hid hown
  obtain ⟨hlen, ⟨h0, _⟩ | ⟨g', cap', cur, he, hbase, hg, hnc, hcm, hcs, htake⟩⟩ := hown
  · simp at h0
  simp only [Value.slice.injEq, Option.some.injEq, Addr.mk.injEq, and_true, true_and] at he
  obtain ⟨rfl, rfl⟩ := he
  have hov : ∀ lb cb, (callFunc 59 #[.slice (some ⟨vb, 0, none⟩) 1 1, .slice (some ⟨g, (i + 1) * 2, none⟩) lb cb]).run Try.prog w = .ok (.value (.bool false)) w := fun lb cb => by
    rw [run_callFunc_extern Try.func59 (by kernel_rfl) (by kernel_rfl) (by kernel_rfl) (e := Extern.SlicesOverlaps.overlaps #[26, 26] #[4]) (by kernel_rfl),
      Lib.run_overlaps_apart w 26 4 72 u25 2 (by intro w; kernel_rfl) ⟨vb, 0, none⟩ ⟨g, (i + 1) * 2, none⟩ 1 1 lb cb hne 72 72 2 cur.size (by simp [World.shape?, hb]) (by simp [World.shape?, hg]) (by omega) (by simp [World.frozen?, hb]) (by simp [World.frozen?, hb])]
    rfl
  have hsz : (Try.prog.info? 72).map (·.size) = some 2 := by kernel_rfl
  have hdl : (xs.drop (i * 2)).length = (n - i) * 2 := by rw [List.length_drop, hlen]; omega
  have hxc : ∀ j u, xs[j]? = some u → w.cell? ⟨g, j, none⟩ = some u := fun j u hu => by
    have := HO.out.cells (g := g) rfl j u hu
    rwa [Addr.add_lit, Nat.zero_add] at this
  obtain ⟨c1, hc1⟩ : ∃ c1, c1 = (cur.toList.take ((i + 1) * 2) ++ xs.drop (i * 2) ++ cur.toList.drop ((i + 1) * 2 + (xs.drop (i * 2)).length)).toArray := ⟨_, rfl⟩
  have hcp1 : ∀ ty dc sc, (Builtin.copy_ #[27, 27] ty #[.slice (some ⟨g, (i + 1) * 2, none⟩) (n - i) dc, .slice (some ⟨g, i * 2, none⟩) (n + 1 - i) sc]).run Try.prog w.drew = .ok (goInt (n - i)) (w.drew.setRow g c1) := fun ty dc sc => by
    have := copy_rowN (P := Try.prog) w.drew 27 27 ty 72 2 g ((i + 1) * 2) (n - i) dc ⟨g, i * 2, none⟩ (n + 1 - i) sc cur 72 (xs.drop (i * 2)) u26 hsz hg (by rw [hdl]; congr 1; simp only [Nat.min_def]; split <;> omega)
      (fun j v hj => by rw [Addr.add_lit]; rw [List.getElem?_drop] at hj; exact hxc _ v hj) (by rw [hdl, hcs]; omega) (fun v hv => hx v (List.mem_of_mem_drop hv))
    rw [this, hc1]
    congr 2
    simp only [Nat.min_def]; split <;> omega
  have hc1s : c1.size = cur.size := by rw [hc1]; simp [hdl, hcs]; omega
  have hg1 : (w.drew.setRow g c1).heap[g]? = some (.cells c1 72 (0, 0)) := setRow_heap w.drew g cur c1 72 _ hg
  obtain ⟨c2, hc2⟩ : ∃ c2, c2 = (c1.toList.take (i * 2) ++ [.string nm, p] ++ c1.toList.drop (i * 2 + 2)).toArray := ⟨_, rfl⟩
  obtain ⟨W1, hW1⟩ : ∃ W1, W1 = w.drew.setRow g c1 := ⟨_, rfl⟩
  have hvb1 : W1.heap[vb]? = some (.cells #[.string nm, p] 72 (0, 0)) := by rw [hW1, setRow_other w.drew g vb c1 hne]; exact hb
  rw [← hW1] at hcp1 hg1
  have hcp2 : ∀ ty dc, (Builtin.copy_ #[27, 26] ty #[.slice (some ⟨g, i * 2, none⟩) (n + 1 - i) dc, .slice (some ⟨vb, 0, none⟩) 1 1]).run Try.prog W1 = .ok (goInt 1) (W1.setRow g c2) := fun ty dc => by
    have := copy_rowN (P := Try.prog) W1 27 26 ty 72 2 g (i * 2) (n + 1 - i) dc ⟨vb, 0, none⟩ 1 1 c1 72 [.string nm, p] u26 hsz hg1 (by simp only [Nat.min_def]; split <;> simp; omega)
      (two_cells hvb1) (by rw [hc1s, hcs]; simp; omega) (fun u hu => by simp at hu; rcases hu with rfl | rfl; rfl; exact hp)
    rw [this, hc2]
    congr 2
    simp only [Nat.min_def]; split <;> omega
  have hfin : Rowed base (.slice (some ⟨g, 0, none⟩) n cap) (n + 1) (xs.take (i * 2) ++ [.string nm, p] ++ xs.drop (i * 2)) w (.returned (.slice (some ⟨g, 0, none⟩) (n + 1) cap)) (W1.setRow g c2) := by
    refine ⟨_, rfl, ⟨by simp [hlen]; omega, .inr ⟨g, cap, c2, rfl, hbase, setRow_heap W1 g c1 c2 _ _ hg1, hroom, hcm, ?_, ?_⟩⟩, ⟨by rw [hW1]; rfl, by rw [hW1]; rfl, by rw [hW1]; rfl, by rw [hW1]; simp, fun k hk hkg => ?_⟩, .inl rfl⟩
    · rw [hc2]; simp [hc1s, hcs]; omega
    · have e1 : c1.toList.take (i * 2) = xs.take (i * 2) := by
        rw [hc1]
        simp only [List.append_assoc]
        rw [List.take_append_of_le_length (by simp; omega), List.take_take, ← htake, List.take_take]
        congr 1; omega
      have e2 : (c1.toList.drop (i * 2 + 2)).take ((n - i) * 2) = xs.drop (i * 2) := by
        rw [hc1]
        simp only [List.append_assoc]
        rw [List.drop_append_of_le_length (by simp; omega), List.drop_eq_nil_of_le (by simp; omega), List.nil_append, List.take_append_of_le_length (by rw [hdl]; exact Nat.le_refl _), List.take_of_length_le (by rw [hdl]; exact Nat.le_refl _)]
      rw [hc2]
      show ((c1.toList.take (i * 2) ++ [.string nm, p] ++ c1.toList.drop (i * 2 + 2))).take ((n + 1) * 2) = _
      rw [List.take_append, e1, List.take_of_length_le (by simp; omega)]
      congr 1
      rw [← e2]
      congr 1
      simp [hlen]; omega
    · have hkg2 : k ≠ g := fun h => hkg (by rw [h]; rfl)
      rw [setRow_other W1 g k c2 hkg2, hW1, setRow_other w.drew g k c1 hkg2]; rfl
  have HF := Lib.hid hfin
  clear hfin hc1 hc2 hW1 hvb1 hg1 hc1s hxc hdl htake hlen
  go_enter Try.func51, Try.ntmps51
  go_wp2_with fail
  have mixed : Try.prog.follows .mixedOrders = true := by kernel_rfl
  have hw1 : IntKind.i64.wrap ((i : Int) + 1) = (i : Int) + 1 := by rw [IntKind.wrap_i64]; omega
  have hb1 : (0 : Int) ≤ (i : Int) + 1 := by omega
  have htn : ((i : Int) + 1).toNat = i + 1 := by omega
  have hb2 : ¬ (cap = i + 1) := by omega
  have hb3 : (i : Int) + 1 ≤ (n : Int) + 1 := by omega
  have hb4 : ¬ (cap = i) := by omega
  have hb5 : (i : Int) ≤ (n : Int) + 1 := by omega
  go_region_law_o (refine step_copy_runI rfl _ _ 27 27 rfl _ _ (by simp [Act.eval, Act.put]) (by simp [Act.eval, Act.put]) (hcp1 _ _ _) ?_)
  go_wp2_with (at_builtin; refine wpList_copy_runI _ rfl _ _ 27 26 rfl _ _ rfl rfl (hcp2 _ _) ?_)
  go_ret
  exact HF.out

theorem ownBlock_slice (g n cap : Nat) : Value.ownBlock (.slice (some ⟨g, 0, none⟩) n cap) = some g := rfl

set_option maxRecDepth 100000 in
set_option maxHeartbeats 4000000 in
/-- in the middle, where there is no room -/
theorem insert_grow (base g n cap i : Nat) (xs : List Value) (nm : ByteArray) (p : Value) (vb : Nat) (w : World) (hown : w.ownsRow base 72 2 (.slice (some ⟨g, 0, none⟩) n cap) n xs) (hl : n ≤ 1000) (hx : ∀ u ∈ xs, u.oneCell' = true)
    (hi : i < n) (hroom : cap < n + 1) (hb : w.heap[vb]? = some (.cells #[.string nm, p] 72 (0, 0))) (hp : p.oneCell' = true) (hbw : base ≤ w.heap.size) :
    Calls Try.prog 51 #[.slice (some ⟨g, 0, none⟩) n cap, .int .i64 i, .slice (some ⟨vb, 0, none⟩) 1 1] w (Rowed base (.slice (some ⟨g, 0, none⟩) n cap) (n + 1) (xs.take (i * 2) ++ [.string nm, p] ++ xs.drop (i * 2)) w) := by
  have HO := Lib.hid hown
  obtain ⟨hlen, ⟨h0, _⟩ | ⟨g', cap', cur, he, hbase, hg, hnc, hcm, hcs, htake⟩⟩ := hown
  · simp at h0
  simp only [Value.slice.injEq, Option.some.injEq, Addr.mk.injEq, and_true, true_and] at he
  obtain ⟨rfl, rfl⟩ := he
  obtain ⟨i0, hi0, hz0, hz1, hz2⟩ := info_parts Try.info70
  have hsz : (Try.prog.info? 72).map (·.size) = some 2 := by kernel_rfl
  have hxc : ∀ j u, xs[j]? = some u → w.cell? ⟨g, j, none⟩ = some u := fun j u hu => by
    have := HO.out.cells (g := g) rfl j u hu
    rwa [Addr.add_lit, Nat.zero_add] at this
  have hgl := lt_of_block hg
  have hvl := lt_of_block hb
  have hkk : i + (n + 1 - i) = n + 1 := by omega
  obtain ⟨gc, hgc⟩ : ∃ gc, gc = grownCap w (n + 1) cap 72 := ⟨_, rfl⟩
  have hge : n + 1 ≤ gc := by rw [hgc]; exact grownCap_ge w _ _ _
  have hgm : gc ≤ maxLen := by rw [hgc]; exact grownCap_le_maxLen w _ _ _ (by unfold maxLen; omega)
  obtain ⟨c0, hc0⟩ : ∃ c0, c0 = (xs.take (i * 2)).toArray ++ Builtin.zeroCells (Value.cells (.agg #[.string ⟨#[]⟩, .pointer none])) (n + 1 - i) ++ Builtin.zeroCells (Value.cells (.agg #[.string ⟨#[]⟩, .pointer none])) (gc - (n + 1)) := ⟨_, rfl⟩
  have hlt : (xs.take (i * 2)).length = i * 2 := by rw [List.length_take, hlen]; omega
  have hc0s : c0.size = gc * 2 := by
    rw [hc0]
    simp only [Array.size_append, List.size_toArray, size_zeroCells, hlt]
    show i * 2 + (n + 1 - i) * 2 + (gc - (n + 1)) * 2 = gc * 2
    omega
  obtain ⟨B, hB⟩ : ∃ B, B = w.heap.size := ⟨_, rfl⟩
  obtain ⟨W1, hW1⟩ : ∃ W1, W1 = w.drew.alloc (.cells c0 72) := ⟨_, rfl⟩
  have hap : ∀ ty, (Builtin.append_ #[27, 3] ty #[.slice (some ⟨g, 0, none⟩) i cap, .int .i64 ((n : Int) + 1 - (i : Int))]).run Try.prog w = .ok (.slice (some ⟨B, 0, none⟩) (n + 1) gc) W1 := fun ty => by
    have hq : ((n : Int) + 1 - (i : Int)) = ((n + 1 - i : Nat) : Int) := by omega
    have := run_append_grow_zeros (P := Try.prog) w 27 3 ty 72 i0 _ .i64 .i64 u26 (by kernel_rfl) hi0 hz0 (some ⟨g, 0, none⟩) i cap (xs.take (i * 2))
      (run_firstCells_some (P := Try.prog) w.drew i0.size i ⟨g, 0, none⟩ i cap _ (by rw [hz1, hlt]) (fun j v hj => by
        rw [Addr.add_lit, Nat.zero_add]
        rw [List.getElem?_take] at hj
        split at hj
        · exact hxc j v hj
        · simp at hj)) (n + 1 - i) (by omega) (by omega) (by omega) (by omega) (by rw [hz2]; omega) (by rw [hz2]; exact growslice_fits (by omega) (by omega))
    rw [hq, this, hkk, hW1, hc0, hgc, hB]
  have hgB : W1.heap[B]? = some (.cells c0 72 (0, 0)) := by rw [hW1, hB]; exact heap_alloc_new w.drew _
  have hold : ∀ k, k < w.heap.size → W1.heap[k]? = w.heap[k]? := fun k hk => by rw [hW1]; exact Below.heap_alloc w.drew _ k hk
  have hvb1 : W1.heap[vb]? = some (.cells #[.string nm, p] 72 (0, 0)) := (hold vb hvl).trans hb
  obtain ⟨c1, hc1⟩ : ∃ c1, c1 = (c0.toList.take (i * 2) ++ [.string nm, p] ++ c0.toList.drop (i * 2 + 2)).toArray := ⟨_, rfl⟩
  have hc1s : c1.size = gc * 2 := by rw [hc1]; simp [hc0s]; omega
  have hcp1 : ∀ ty dc, (Builtin.copy_ #[27, 26] ty #[.slice (some ⟨B, i * 2, none⟩) (n + 1 - i) dc, .slice (some ⟨vb, 0, none⟩) 1 1]).run Try.prog W1 = .ok (goInt 1) (W1.setRow B c1) := fun ty dc => by
    have := copy_rowN (P := Try.prog) W1 27 26 ty 72 2 B (i * 2) (n + 1 - i) dc ⟨vb, 0, none⟩ 1 1 c0 72 [.string nm, p] u26 hsz hgB (by simp only [Nat.min_def]; split <;> simp; omega)
      (two_cells hvb1) (by rw [hc0s]; simp; omega) (fun u hu => by simp at hu; rcases hu with rfl | rfl; rfl; exact hp)
    rw [this, hc1]
    congr 2
    simp only [Nat.min_def]; split <;> omega
  obtain ⟨W2, hW2⟩ : ∃ W2, W2 = W1.setRow B c1 := ⟨_, rfl⟩
  have hgB2 : W2.heap[B]? = some (.cells c1 72 (0, 0)) := by rw [hW2]; exact setRow_heap W1 B c0 c1 _ _ hgB
  have hgg2 : ∀ k, k < w.heap.size → W2.heap[k]? = w.heap[k]? := fun k hk => by rw [hW2, setRow_other W1 B k c1 (by omega)]; exact hold k hk
  have hdl : (xs.drop (i * 2)).length = (n - i) * 2 := by rw [List.length_drop, hlen]; omega
  obtain ⟨c2, hc2⟩ : ∃ c2, c2 = (c1.toList.take ((i + 1) * 2) ++ xs.drop (i * 2) ++ c1.toList.drop ((i + 1) * 2 + (xs.drop (i * 2)).length)).toArray := ⟨_, rfl⟩
  have hcp2 : ∀ ty dc sc, (Builtin.copy_ #[27, 27] ty #[.slice (some ⟨B, (i + 1) * 2, none⟩) (n - i) dc, .slice (some ⟨g, i * 2, none⟩) (n - i) sc]).run Try.prog W2.drew = .ok (goInt (n - i)) (W2.drew.setRow B c2) := fun ty dc sc => by
    have := copy_rowN (P := Try.prog) W2.drew 27 27 ty 72 2 B ((i + 1) * 2) (n - i) dc ⟨g, i * 2, none⟩ (n - i) sc c1 72 (xs.drop (i * 2)) u26 hsz hgB2 (by rw [hdl]; congr 1; simp only [Nat.min_def]; split <;> omega)
      (fun j v hj => by
        rw [Addr.add_lit]; rw [List.getElem?_drop] at hj
        have h1 := hxc _ v hj
        rw [← h1]
        exact World.cell?_of_block (w := w) (w' := W2.drew) (a := ⟨g, i * 2 + j, none⟩) (hgg2 g hgl)) (by rw [hdl, hc1s]; omega) (fun v hv => hx v (List.mem_of_mem_drop hv))
    rw [this, hc2]
    congr 2
    simp only [Nat.min_def]; split <;> omega
  rw [← hW2] at hcp1
  have hfin : Rowed base (.slice (some ⟨g, 0, none⟩) n cap) (n + 1) (xs.take (i * 2) ++ [.string nm, p] ++ xs.drop (i * 2)) w (.returned (.slice (some ⟨B, 0, none⟩) (n + 1) gc)) (W2.drew.setRow B c2) := by
    refine ⟨_, rfl, ⟨by simp [hlen]; omega, .inr ⟨B, gc, c2, rfl, by omega, setRow_heap W2.drew B c1 c2 _ _ hgB2, hge, hgm, ?_, ?_⟩⟩, ⟨by rw [hW2, hW1]; rfl, by rw [hW2, hW1]; rfl, by rw [hW2, hW1]; rfl, by rw [hW2, hW1]; simp, fun k hk hkg => ?_⟩, .inr ⟨B, rfl, by omega⟩⟩
    · rw [hc2]; simp [hc1s, hdl]; omega
    · have e1 : c1.toList.take ((i + 1) * 2) = xs.take (i * 2) ++ [.string nm, p] := by
        rw [hc1]
        show ((c0.toList.take (i * 2) ++ [.string nm, p] ++ c0.toList.drop (i * 2 + 2))).take ((i + 1) * 2) = _
        rw [List.take_append_of_le_length (by simp [hc0s]; omega), List.take_of_length_le (by simp [hc0s]; omega)]
        congr 1
        rw [hc0]
        simp only [Array.toList_append, List.append_assoc]
        rw [List.take_append_of_le_length (by simp [hlen]; omega), List.take_of_length_le (by simp; omega)]
      rw [hc2]
      show ((c1.toList.take ((i + 1) * 2) ++ xs.drop (i * 2) ++ c1.toList.drop ((i + 1) * 2 + (xs.drop (i * 2)).length))).take ((n + 1) * 2) = _
      rw [e1, List.take_append_of_le_length (by simp [hlen]; omega), List.take_of_length_le (by simp [hlen]; omega)]
    · rw [setRow_other W2.drew B k c2 (by omega)]; exact hgg2 k hk
  have HF := Lib.hid hfin
  have hW2s : W2.drew.heap.size = W2.heap.size := rfl
  clear hfin hc1 hc2 hW1 hvb1 hgB hgB2 hgg2 hold hc0 hc0s hc1s hxc hdl htake hlen hlt hkk hgc hW2 hW2s hgm hB
  go_enter Try.func51, Try.ntmps51
  go_wp2_with (at_builtin; refine wpList_append_run _ rfl _ _ _ _ rfl _ _ rfl rfl _ _ (hap _) ?_)
  go_wp2_with (at_builtin; refine wpList_copy_runI _ rfl _ _ 27 26 rfl _ _ rfl rfl (hcp1 _ _) ?_)
  have mixed : Try.prog.follows .mixedOrders = true := by kernel_rfl
  have hw1 : IntKind.i64.wrap ((i : Int) + 1) = (i : Int) + 1 := by rw [IntKind.wrap_i64]; omega
  have hb1 : (0 : Int) ≤ (i : Int) + 1 := by omega
  have htn : ((i : Int) + 1).toNat = i + 1 := by omega
  have hb2 : ¬ (gc = i + 1) := by omega
  have hb3 : (i : Int) + 1 ≤ (n : Int) + 1 := by omega
  have hb4 : ¬ (cap = i) := by omega
  have hb5 : (i : Int) ≤ (n : Int) := by omega
  go_region_law_o (refine step_copy_runI rfl _ _ 27 27 rfl _ _ (by simp [Act.eval, Act.put]) (by simp [Act.eval, Act.put]) (hcp2 _ _ _) ?_)
  go_wp2
  go_ret
  exact HF.out
end Go.Proofs.Ytkmanpmaflpgoaa
