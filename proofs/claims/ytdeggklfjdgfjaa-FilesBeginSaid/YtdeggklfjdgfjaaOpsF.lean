/-
  WHAT IS PROVED: contracts of a disk's calls: List; all calls on a disk that is not there.
-/
import Derived.Test.YtdeggklfjdgfjaaOpsE
namespace Go.Proofs.Ytdeggklfjdgfjaa
open Go.RowKit Go.Lib

theorem Try.info9 : (Try.prog.info? 9).map (fun i => (i.zero, i.size, i.bytes)) = some (some (.string ⟨#[]⟩), 1, 16) := by kernel_rfl
theorem u38 : Try.prog.underlying 38 = some (.slice 9) := by kernel_rfl

def cellsS (l : List ByteArray) : List Value := l.map Value.string
theorem cellsS_append (l m : List ByteArray) : cellsS l ++ cellsS m = cellsS (l ++ m) := by simp [cellsS]

theorem rowS_of_owns {w : World} {base : Nat} {v : Value} {l : List ByteArray} (h : w.ownsRow base 9 1 v l.length (cellsS l)) (hs : ∀ s ∈ l, s.size ≤ 140737488351232) :
    ∃ ao cap, v = .slice ao l.length cap ∧ RowS w ao l.length cap l ∧ (∀ a, ao = some a → base ≤ a.block) := by
  rcases h.2 with ⟨rfl, hn⟩ | ⟨g, cap, cur, rfl, hg, hh, hc, hm, hcs, ht⟩
  · obtain rfl : l = [] := List.eq_nil_of_length_eq_zero hn
    exact ⟨none, 0, rfl, rowS_nil w, fun a ha => by simp at ha⟩
  · refine ⟨some ⟨g, 0, none⟩, cap, rfl, ⟨rfl, hc, hm, fun h => by simp at h, fun a ha j hj => ?_, hs⟩, fun a ha => by simp at ha; subst ha; exact hg⟩
    obtain rfl := Option.some.inj ha
    refine h.cells (g := g) rfl j _ ?_
    simp [cellsS, List.getD, hj]

/-- names in new memory -/
def Listed (ns : List ByteArray) (w : World) (e : Ending) (w' : World) : Prop :=
  ∃ ao cap, e = .returned (.slice ao ns.length cap) ∧ RowS w' ao ns.length cap ns ∧ (∀ a, ao = some a → w.heap.size ≤ a.block) ∧ Below w.heap.size w w'

def LiRel (M : DiskM) (w : World) (k : Nat) (v : Value) (wr : World) : Prop :=
  wr.ownsRow w.heap.size 9 1 v k (cellsS ((M.now.take k).map (·.1))) ∧ Below w.heap.size w wr

set_option maxRecDepth 100000 in
set_option maxHeartbeats 4000000 in
theorem list_any (L : LayD) (M : DiskM) (w : World) (h : DiskAt w L M) : Calls Try.prog 13 #[.pointer (some ⟨L.d, 0, none⟩)] w (Listed (M.now.map (·.1)) w) := by
  obtain ⟨i0, hi, hz0, hz1, hz2⟩ := info_parts Try.info9
  have H := Lib.hid h
  have hc := h.cell0
  have hsz := h.fine.size.1
  have hc1 := h.cell1
  have hfew := h.fine.few.1
  obtain ⟨ao, cap, hvn⟩ := own_slice h.now
  rw [hvn] at hc1
  have HV := Lib.hid hvn
  have HC1 := Lib.hid hc1
  clear h hvn
  go_enter Try.func13, Try.ntmps13
  go_wp2_with fail
  refine (none_no L.d M.size w hc hsz).mono ?_
  rintro e w' ⟨rfl, rfl⟩
  go_wp2_with (at_make; refine wpList_make_own _ rfl _ _ 38 rfl w.heap.size 9 i0 (.string ⟨#[]⟩) 1 u38 hi hz0 hz1 _ _ _ M.now.length rfl rfl rfl (by rw [hz2]; omega) (by unfold maxLen; omega) (Nat.le_refl _) ?_)
  intro w1 hown1 hg1
  have hb1 : Below w.heap.size w w1 := (Below.refl w.heap.size w).grown hg1 (Nat.le_refl _) (fun k hk => by cases hk)
  have hc2 := (hb1.cell (p := ⟨L.d, 1, none⟩) (World.block_lt_of_cell? w _ HC1.out)).trans HC1.out
  have HO := Lib.hid hown1
  have HB1 := Lib.hid hb1
  clear hown1 hg1 hb1 hc hc1
  go_wp2
  go_loopw [3, 5, 19] (fun v _ i wr => ∃ k : Nat, k ≤ M.now.length ∧ i = .int .i64 k ∧ Hid (LiRel M w k v wr)) (fun _ _ i _ => M.now.length - (RowKit.intOf i).toNat)
  case atStart => exact ⟨0, by omega, rfl, Lib.hid ⟨by simpa [cellsS] using HO.out, HB1.out⟩⟩
  case round =>
    obtain ⟨k, hk, rfl, HL⟩ := hrel
    obtain ⟨hown, hB⟩ := HL.out
    have HOWN := Lib.hid hown
    have HB := Lib.hid hB
    clear hown hB
    by_cases hlt : k < M.now.length
    · obtain ⟨e, he⟩ : ∃ e, M.now[k]? = some e := ⟨M.now[k], by simp [hlt]⟩
      have H1 := H.out.below HB.out
      obtain ⟨g, cap', hv, hc3, hc4, hcell⟩ := (rowE_of H1.now).lies (by omega)
      rw [HV.out] at hv
      simp only [Value.slice.injEq, true_and] at hv
      obtain ⟨rfl, rfl⟩ := hv
      obtain ⟨hx1, hx2⟩ := hcell _ e he
      have HT : Hid ((M.now.take (k + 1)).map (·.1) = (M.now.take k).map (·.1) ++ [e.1]) := by
        show _ = _
        rw [List.take_add_one, he]; simp
      obtain ⟨en, ei⟩ := e
      generalize L.fb.getD ei 0 = fbi at *
      have hsz1 := HB.out.size
      have hb2 : Below w.heap.size w (wr.alloc (.cells #[.string en, .pointer (some ⟨fbi, 0, none⟩)] 70)) := HB.out.trans ((Below.refl _ _).alloc hsz1 _)
      have HB2 := Lib.hid hb2
      have hs2 : (wr.alloc (.cells #[.string en, .pointer (some ⟨fbi, 0, none⟩)] 70)).heap.size = wr.heap.size + 1 := by simp
      have hnews : ∀ j u, ([.string en] : List Value)[j]? = some u → ((wr.alloc (.cells #[.string en, .pointer (some ⟨fbi, 0, none⟩)] 70)).alloc (.cells #[.string en] 9)).cell? ((⟨wr.heap.size + 1, 0, none⟩ : Addr).add j) = some u := fun j u hu => by
        match j, hu with
        | 0, hu =>
          simp at hu; subst hu
          have := str_new (wr.alloc (.cells #[.string en, .pointer (some ⟨fbi, 0, none⟩)] 70)) en 9
          rw [hs2] at this
          exact this
      have HN := Lib.hid hnews
      have hone : ∀ u ∈ ([.string en] : List Value), u.oneCell' = true := fun u hu => by simp at hu; subst hu; rfl
      have H1c := Lib.hid hone
      have hbase : w.heap.size ≤ ((wr.alloc (.cells #[.string en, .pointer (some ⟨fbi, 0, none⟩)] 70)).alloc (.cells #[.string en] 9)).heap.size := by simp; omega
      have HBS := Lib.hid hbase
      clear hb2 hcell he H1 hnews hone hbase
      go_wp2_with (at_builtin; refine wpList_append_own _ rfl _ _ 38 rfl w.heap.size 9 i0 (.string ⟨#[]⟩) 1 16 u38 hi hz0 hz1 hz2 rfl (by decide) _ _ _ rfl ((HOWN.out.alloc _).alloc _) ⟨wr.heap.size + 1, 0, none⟩ 1 1 [.string en] rfl rfl HN.out H1c.out (by unfold maxLen; omega) (by omega) HBS.out ?_)
      intro v' w2 hown2 hg2 _
      have hR : Hid (LiRel M w (k + 1) v' w2) := by
        refine ⟨?_, ?_⟩
        · rw [HT.out, ← cellsS_append]
          first | exact hown2 | (rw [← List.map_take] at hown2; exact hown2)
        · exact (HB2.out.alloc (by simp; omega) _).grown hg2 (by simp; omega) (fun j hj => (HOWN.out.lt j hj).1)
      clear hown2 hg2 hs2
      go_wp2
      go_roundw
      case rel => exact ⟨k + 1, by omega, by go_num, hR⟩
      case measure => simp [RowKit.intOf]; omega
    · obtain rfl : k = M.now.length := by omega
      have hown := HOWN.out
      rw [List.take_length] at hown
      have hlen : M.now.length = (M.now.map (·.1)).length := by simp
      have hown' : wr.ownsRow w.heap.size 9 1 u3 (M.now.map (·.1)).length (cellsS (M.now.map (·.1))) := by rw [← hlen]; exact hown
      obtain ⟨ao3, cap3, rfl, hrow, hnew⟩ := rowS_of_owns hown' (fun s hs => by
        obtain ⟨e, he, rfl⟩ := List.mem_map.1 hs
        have := (H.out.fine.id e (.inl he)).2
        unfold okName at this
        simp at this
        omega)
      have HR := Lib.hid hrow
      clear hown hown' hrow hlen
      go_wp2
      go_ret
      refine ⟨ao3, cap3, ?_, HR.out, hnew, HB.out⟩
      rw [List.length_map]; rfl
end Go.Proofs.Ytdeggklfjdgfjaa
