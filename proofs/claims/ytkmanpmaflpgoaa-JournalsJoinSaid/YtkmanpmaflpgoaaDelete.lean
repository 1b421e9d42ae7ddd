/-
  WHAT IS PROVED: contracts: slices.Insert at any place, slices.Delete of one entry, slices.Clone and bytes.Clone, strings.Clone.
-/
import Derived.Test.YtkmanpmaflpgoaaInsert2
namespace Go.Proofs.Ytkmanpmaflpgoaa
open Go.RowKit Go.Lib

/-- what stands where there is nothing -/
def zeroE : List Value := [.string ⟨#[]⟩, .pointer none]
theorem zeroE_length : zeroE.length = 2 := rfl

theorem insert_any (base : Nat) (vn : Value) (n i : Nat) (xs : List Value) (nm : ByteArray) (p : Value) (vb : Nat) (w : World) (hown : w.ownsRow base 72 2 vn n xs) (hl : n ≤ 1000) (hx : ∀ u ∈ xs, u.oneCell' = true)
    (hi : i ≤ n) (hb : w.heap[vb]? = some (.cells #[.string nm, p] 72 (0, 0))) (hp : p.oneCell' = true) (hne : vn.ownBlock ≠ some vb) (hbw : base ≤ w.heap.size) :
    Calls Try.prog 51 #[vn, .int .i64 i, .slice (some ⟨vb, 0, none⟩) 1 1] w (Rowed base vn (n + 1) (xs.take (i * 2) ++ [.string nm, p] ++ xs.drop (i * 2)) w) := by
  have hlen := hown.1
  rcases Nat.lt_or_eq_of_le hi with hlt | rfl
  · rcases hown.2 with ⟨rfl, h0⟩ | ⟨g, cap, cur, rfl, hbg, hg, hnc, hcm, hr⟩
    · omega
    · have hm : cap ≤ 9223372036854775807 := by unfold maxLen at hcm; exact hcm
      by_cases hroom : n + 1 ≤ cap
      · exact insert_room base g n cap i xs nm p vb w hown hl hx hlt hroom hb hp (fun h => hne (by rw [h]; rfl)) hm
      · exact insert_grow base g n cap i xs nm p vb w hown hl hx hlt (by omega) hb hp hbw
  · have := insert_end base vn i xs nm p vb w hown hl hb hp hbw
    rw [List.take_of_length_le (by omega), List.drop_eq_nil_of_le (by omega), List.append_nil]
    exact this

theorem clear_row {P : Program} (w : World) (t ty e : TypeId) (z : Value) (size g o n c : Nat) (cur : Array Value) (tt : TypeId) (ht : P.underlying t = some (.slice e)) (hv : ∀ w, (zeroValue e).run P w = .ok z w) (hzs : z.cells.size = size)
    (_ : ∀ v ∈ z.cells.toList, v.oneCell' = true) (hn : n ≠ 0) (hg : w.heap[g]? = some (.cells cur tt (0, 0))) (hfit : o + n * size ≤ cur.size) (h1z : ∀ v ∈ (Builtin.zeroCells z.cells n).toList, v.oneCell' = true) :
    (Builtin.clear_ #[t] ty #[.slice (some ⟨g, o, none⟩) n c]).run P w = .ok (.tuple #[]) (w.setRow g (cur.toList.take o ++ (Builtin.zeroCells z.cells n).toList ++ cur.toList.drop (o + (Builtin.zeroCells z.cells n).toList.length)).toArray) := by
  have hst := run_storeCells_at P g o tt (Builtin.zeroCells z.cells n).toList 0 cur w hg (by simp [size_zeroCells, hzs]; exact hfit) h1z
  simp only [Nat.add_zero] at hst
  cases n with
  | zero => exact absurd rfl hn
  | succ n => simp [Builtin.clear_, run_underlying ht, hv, hst]

theorem step_append_runI {P : Program} {ops : Array Oper} {o : Oper} {a : Act} {w : World} {K : Act → World → Prop} {Q : Exit → Act → World → Prop} {E : Prop}
    (hg : o.guard = none) (d x : Operand) (dT sT : TypeId) (hop : o.op = Op.call { callee := Callee.builtin Builtin.append, args := #[d, x], argTypes := #[dT, sT] })
    (v u : Value) (hd : a.eval d = v) (hx : a.eval x = u) {v' : Value} {w' : World} (hr : (Builtin.append_ #[dT, sT] o.type #[v, u]).run P w = .ok v' w') (hK : K (a.put o.dst v') w') :
    if Region.wanted o (yielded ops a.tmps) = true then Oper.wp P o a w K Q else E := by
  have hw : Region.wanted o (yielded ops a.tmps) = true := by simp [Region.wanted, hg]
  rw [if_pos hw]
  exact wp_append_run w d x dT sT hop v u hd hx v' w' hr hK

set_option maxRecDepth 100000 in
set_option maxHeartbeats 4000000 in
theorem delete_any (base g n cap i : Nat) (xs : List Value) (w : World) (hown : w.ownsRow base 72 2 (.slice (some ⟨g, 0, none⟩) n cap) n xs) (hl : n ≤ 1000) (hx : ∀ u ∈ xs, u.oneCell' = true) (hi : i < n) :
    Calls Try.prog 52 #[.slice (some ⟨g, 0, none⟩) n cap, .int .i64 i, .int .i64 ((i : Int) + 1)] w (Rowed base (.slice (some ⟨g, 0, none⟩) n cap) (n - 1) (xs.take (i * 2) ++ xs.drop ((i + 1) * 2)) w) := by
  have HO := Lib.hid hown
  obtain ⟨hlen, ⟨h0, _⟩ | ⟨g', cap', cur, he, hbase, hg, hnc, hcm, hcs, htake⟩⟩ := hown
  · simp at h0
  simp only [Value.slice.injEq, Option.some.injEq, Addr.mk.injEq, and_true, true_and] at he
  obtain ⟨rfl, rfl⟩ := he
  obtain ⟨i0, hi0, hz0, hz1, hz2⟩ := info_parts Try.info70
  have hxc : ∀ j u, xs[j]? = some u → w.cell? ⟨g, j, none⟩ = some u := fun j u hu => by
    have := HO.out.cells (g := g) rfl j u hu
    rwa [Addr.add_lit, Nat.zero_add] at this
  have hm : cap ≤ 9223372036854775807 := by unfold maxLen at hcm; exact hcm
  have hdl : (xs.drop ((i + 1) * 2)).length = (n - (i + 1)) * 2 := by rw [List.length_drop, hlen]; omega
  have hlt : (xs.take (i * 2)).length = i * 2 := by rw [List.length_take, hlen]; omega
  obtain ⟨ad, had⟩ : ∃ ad : Addr, ad = if cap = i + 1 then ⟨g, 0, none⟩ else ⟨g, (i + 1) * 2, none⟩ := ⟨_, rfl⟩
  obtain ⟨c1, hc1⟩ : ∃ c1, c1 = (cur.toList.take (i * 2) ++ xs.drop ((i + 1) * 2) ++ cur.toList.drop (i * 2 + (xs.drop ((i + 1) * 2)).length)).toArray := ⟨_, rfl⟩
  have hc1s : c1.size = cap * 2 := by rw [hc1]; simp [hdl, hcs]; omega
  obtain ⟨W1, hW1⟩ : ∃ W1, W1 = w.drew.setRow g c1 := ⟨_, rfl⟩
  have hap : ∀ ty dc, (Builtin.append_ #[27, 27] ty #[.slice (some ⟨g, 0, none⟩) i cap, .slice (some ad) (n - (i + 1)) dc]).run Try.prog w.drew = .ok (.slice (some ⟨g, 0, none⟩) (n - 1) cap) W1 := fun ty dc => by
    have := run_append_room (P := Try.prog) w.drew 27 ty 72 i0 u26 hi0 g i cap cur hg ad (n - (i + 1)) dc (xs.drop ((i + 1) * 2)) (by rw [hdl, hz1]) (fun j u hu => by
        have hj := (List.getElem?_eq_some_iff.1 hu).1
        rw [hdl] at hj
        rw [had, if_neg (by omega), Addr.add_lit]
        rw [List.getElem?_drop] at hu
        exact hxc _ u hu) (fun u hu => hx u (List.mem_of_mem_drop hu)) (by omega) (by rw [hz1, hdl, hcs]; omega)
    rw [this, hW1, hc1, hz1]
    congr 2
    omega
  have hg1 : W1.heap[g]? = some (.cells c1 72 (0, 0)) := by rw [hW1]; exact setRow_heap w.drew g cur c1 72 _ hg
  have hzv : ∀ w, (zeroValue 72).run Try.prog w = .ok (.agg #[.string ⟨#[]⟩, .pointer none]) w := by intro w; kernel_rfl
  have hzl : (Builtin.zeroCells (Value.cells (.agg #[.string ⟨#[]⟩, .pointer none])) 1).toList = zeroE := by kernel_rfl
  obtain ⟨c2, hc2⟩ : ∃ c2, c2 = (c1.toList.take ((n - 1) * 2) ++ zeroE ++ c1.toList.drop ((n - 1) * 2 + 2)).toArray := ⟨_, rfl⟩
  have hcl : ∀ ty c, (Builtin.clear_ #[27] ty #[.slice (some ⟨g, (n - 1) * 2, none⟩) 1 c]).run Try.prog W1 = .ok (.tuple #[]) (W1.setRow g c2) := fun ty c => by
    have := clear_row (P := Try.prog) W1 27 ty 72 (.agg #[.string ⟨#[]⟩, .pointer none]) 2 g ((n - 1) * 2) 1 c c1 72 u26 hzv rfl (by decide) (by decide) hg1 (by rw [hc1s]; omega) (by rw [hzl]; decide)
    rw [this, hzl, hc2]; rfl
  have hfin : Rowed base (.slice (some ⟨g, 0, none⟩) n cap) (n - 1) (xs.take (i * 2) ++ xs.drop ((i + 1) * 2)) w (.returned (.slice (some ⟨g, 0, none⟩) (n - 1) cap)) (W1.setRow g c2) := by
    refine ⟨_, rfl, ⟨by simp [hlen]; omega, .inr ⟨g, cap, c2, rfl, hbase, setRow_heap W1 g c1 c2 _ _ hg1, by omega, hcm, ?_, ?_⟩⟩, ⟨by rw [hW1]; rfl, by rw [hW1]; rfl, by rw [hW1]; rfl, by rw [hW1]; simp, fun k hk hkg => ?_⟩, .inl rfl⟩
    · rw [hc2]; simp [hc1s, zeroE_length]; omega
    · rw [hc2]
      show ((c1.toList.take ((n - 1) * 2) ++ zeroE ++ c1.toList.drop ((n - 1) * 2 + 2))).take ((n - 1) * 2) = _
      rw [List.append_assoc, List.take_append_of_le_length (by simp [hc1s]; omega), List.take_take, Nat.min_self, hc1]
      show ((cur.toList.take (i * 2) ++ xs.drop ((i + 1) * 2) ++ cur.toList.drop (i * 2 + (xs.drop ((i + 1) * 2)).length))).take ((n - 1) * 2) = _
      rw [List.take_append_of_le_length (by simp [hcs, hlen]; omega), List.take_of_length_le (by simp [hcs, hlen]; omega)]
      congr 1
      rw [← htake, List.take_take]
      congr 1; omega
    · have hkg2 : k ≠ g := fun h => hkg (by rw [h]; rfl)
      rw [setRow_other W1 g k c2 hkg2, hW1, setRow_other w.drew g k c1 hkg2]; rfl
  have HF := Lib.hid hfin
  have mixed : Try.prog.follows .mixedOrders = true := by kernel_rfl
  have hnn : ((n : Int) - 1).toNat = n - 1 := by omega
  clear hfin hc1 hc2 hW1 hg1 hc1s hxc hdl htake hlen hlt hzl hcm
  by_cases hcap : cap = i + 1
  · rw [if_pos hcap] at had
    subst had
    obtain rfl : n = i + 1 := by omega
    subst hcap
    go_enter Try.func52, Try.ntmps52
    go_wp2_with fail
    have hb3 : (i : Int) ≤ (i : Int) + 1 := by omega
    have hic2 : i ≤ i + 1 := by omega
    have hb1 : (0 : Int) ≤ (i : Int) + 1 := by omega
    have htn : ((i : Int) + 1).toNat = i + 1 := by omega
    simp only [Nat.sub_self, Nat.add_sub_cancel] at hap hcl
    have hic : i ≤ i + 1 := by omega
    go_region_law_o (refine step_append_runI ?_ (.tmp 22) (.tmp 25) 27 27 ?_ (.slice (some ⟨g, 0, none⟩) i (i + 1)) (.slice (some ⟨g, 0, none⟩) 0 0) ?_ ?_ (hap _ _) ?_; rfl; rfl; rfl; rfl)
    go_wp2
    go_ret
    exact HF.out
  · rw [if_neg hcap] at had
    subst had
    obtain ⟨m, rfl⟩ : ∃ m, n = m + 1 := ⟨n - 1, by omega⟩
    simp only [Nat.add_sub_cancel, Nat.add_sub_add_right] at hap hcl hnn
    clear hnn
    go_enter Try.func52, Try.ntmps52
    go_wp2_with fail
    have hb3 : (i : Int) + 1 ≤ (m : Int) + 1 := by omega
    have hb4 : (i : Int) ≤ (m : Int) := by omega
    have hb5 : ¬ (cap = m) := by omega
    have hb6 : i ≤ m := by omega
    have hb1 : (0 : Int) ≤ (i : Int) + 1 := by omega
    have htn : ((i : Int) + 1).toNat = i + 1 := by omega
    have hic : i ≤ cap := by omega
    go_region_law_o (refine step_append_runI ?_ (.tmp 22) (.tmp 25) 27 27 ?_ (.slice (some ⟨g, 0, none⟩) i cap) (.slice (some ⟨g, (i + 1) * 2, none⟩) (m - i) (cap - (i + 1))) ?_ ?_ (hap _ _) ?_; rfl; rfl; rfl; rfl)
    go_wp2_with fail
    go_ret
    exact HF.out
end Go.Proofs.Ytkmanpmaflpgoaa
