/-
  WHAT IS PROVED: contracts of the statements' own helpers: TwinBytes, LeftBytes.
-/
import Derived.Test.YtfdjeaieddcgdabGreatDoorRefA
namespace Go.Proofs.YtfdjeaieddcgdabGreatDoor
open Go.RowKit

/-- what TwinBytes hands back: the same bytes in new memory, a mark in the spare room -/
def TwinOf (l : List Nat) (w : World) (e : Ending) (w' : World) : Prop :=
  ∃ g cap, e = .returned (.slice (some ⟨g, 0, none⟩) l.length cap) ∧ Row8 w' (some ⟨g, 0, none⟩) (l.length + 1) cap (l ++ [77]) ∧ w.heap.size ≤ g ∧ Below w.heap.size w w'

set_option maxRecDepth 100000 in
set_option maxHeartbeats 2000000 in
theorem twinBytes_any (ao : Option Addr) (n cap : Nat) (l : List Nat) (w : World) (hr : Row8 w ao n cap l) (hn : n ≤ 4294967296) :
    Calls Tryz.prog 29 #[.slice ao n cap] w (TwinOf l w) := by
  obtain ⟨i0, hi, hz0, hz1, hz2⟩ := info_parts Tryz.info8
  have HR := Lib.hid hr
  have hlen := Lib.hid hr.len
  have hbyte := Lib.hid hr.byte
  have hroom := hr.room
  have hmost := hr.most
  clear hr
  go_enter Tryz.func29, Tryz.ntmps29
  go_wp2_with (at_make; refine wpList_make_own _ rfl _ _ 29 rfl w.heap.size 5 i0 (.int .u8 0) 1 Tryz.underlying29 hi hz0 hz1 _ _ _ (n + 1) rfl rfl (by omega) (by rw [hz2]; omega) (by unfold maxLen; omega) (Nat.le_refl _) ?_)
  intro w1 hown1 hg1
  have hb1 : Below w.heap.size w w1 := (Below.refl w.heap.size w).grown hg1 (Nat.le_refl _) (fun k hk => by cases hk)
  have HO := Lib.hid hown1
  have HB1 := Lib.hid hb1
  clear hown1 hg1 hb1
  go_wp2
  go_loopw [3, 4] (fun v i wr => ∃ k : Nat, k ≤ n ∧ i = .int .i64 k ∧ Hid (wr.ownsRow w.heap.size 5 1 v k (cells8 (l.take k))) ∧ Hid (Below w.heap.size w wr)) (fun _ i _ => n - (intOf i).toNat)
  case atStart => exact ⟨0, by omega, rfl, HO, HB1⟩
  case round =>
    obtain ⟨k, hk, rfl, hO, hbel⟩ := hrel
    have hsz := hbel.out.size
    by_cases hlt : k < n
    · obtain ⟨b, off, rfl, hcell⟩ := (HR.out.kept hbel.out).lies (by omega)
      obtain ⟨c, hc⟩ : ∃ c, l[k]? = some c := ⟨l[k]'(by rw [hlen.out]; exact hlt), by rw [List.getElem?_eq_getElem]⟩
      have hck := hcell k c hc
      have hcb := hbyte.out c (List.mem_of_getElem? hc)
      have HN : Hid (l.take (k + 1) = l.take k ++ [c]) := by
        show _ = _
        rw [List.take_add_one, hc]; rfl
      have HRow := Lib.hid (row_new wr [c] 1 wr.heap.size (0, 0) rfl rfl (by intro x hx; simp at hx; omega) (by omega))
      clear hcell hc
      go_wp2_with (at_builtin; refine wpList_append_row rfl (.tmp 15) (.tmp 20) rfl w.heap.size _ _ _ rfl (hO.out.alloc _) (some ⟨wr.heap.size, 0, none⟩) 1 1 [c] rfl HRow.out (by omega) (by simp; omega) ?_)
      intro v' w2 hown2 hg2
      have hR : Hid (w2.ownsRow w.heap.size 5 1 v' (k + 1) (cells8 (l.take (k + 1)))) := by
        show World.ownsRow _ _ _ _ _ _ _
        rw [HN.out]; exact hown2
      have hB : Hid (Below w.heap.size w w2) := (hbel.out.alloc hsz _).grown hg2 (by simp; omega) (fun j hj => (hO.out.lt j hj).1)
      clear hown2 hg2
      go_wp2
      go_roundw
      case rel => exact ⟨k + 1, by omega, by go_num, hR, hB⟩
      case measure => simp [intOf]; omega
    · obtain rfl : k = n := by omega
      have HRow := Lib.hid (row_new wr [77] 1 wr.heap.size (0, 0) rfl rfl (by intro x hx; simp at hx; omega) (by omega))
      go_wp2_with (at_builtin; refine wpList_append_row rfl (.tmp 22) (.tmp 23) rfl w.heap.size _ _ _ rfl (hO.out.alloc _) (some ⟨wr.heap.size, 0, none⟩) 1 1 [77] rfl HRow.out (by omega) (by simp; omega) ?_)
      intro v' w2 hown2 hg2
      have hB : Hid (Below w.heap.size w w2) := (hbel.out.alloc hsz _).grown hg2 (by simp; omega) (fun j hj => (hO.out.lt j hj).1)
      have hfull : l.take k = l := List.take_of_length_le (by rw [hlen.out]; omega)
      rw [hfull] at hown2
      obtain ⟨g, cap2, rfl, hg, hc1, hc2⟩ := own_shape hown2 (by omega)
      have hll := hlen.out
      have hlen2 : (l ++ [77]).length = k + 1 := by simp [hll]
      have hrow2 : Row8 w2 (some ⟨g, 0, none⟩) (k + 1) cap2 (l ++ [77]) := by
        rw [← hlen2] at hown2
        obtain ⟨ao2, cap3, he, hr2, _⟩ := Row8.of_owns hown2 (by
          intro x hx
          rcases List.mem_append.1 hx with h | h
          · exact hbyte.out x h
          · simp at h; omega)
        simp only [Value.slice.injEq] at he
        obtain ⟨rfl, _, rfl⟩ := he
        rw [hlen2] at hr2
        exact hr2
      have HR2 := Lib.hid hrow2
      clear hown2 hg2 hrow2 hfull hll hlen2 HRow
      go_wp2
      go_ret
      refine ⟨g, cap2, by rw [hlen.out]; rfl, by rw [hlen.out]; exact HR2.out, hg, hB.out⟩

set_option maxRecDepth 100000 in
set_option maxHeartbeats 2000000 in
theorem leftBytes_yes (ao : Option Addr) (n cl g cap : Nat) (l : List Nat) (w : World) (ht : Row8 w (some ⟨g, 0, none⟩) (n + 1) cap (l ++ [77])) (hr : Row8 w ao n cl l) :
    Calls Tryz.prog 36 #[.slice (some ⟨g, 0, none⟩) n cap, .slice ao n cl] w fun e w' => e = .returned (.bool true) ∧ Below w.heap.size w w' := by
  have hlen := Lib.hid hr.len
  have h1 := hr.room
  have h2 := hr.most
  have h3 := ht.room
  have h4 := ht.most
  have hq : ∀ (j c : Nat), (l ++ [77])[j]? = some c → w.cell? ⟨g, j, none⟩ = some (.int .u8 (c : Int)) := by
    obtain ⟨b, off, he, hc⟩ := ht.lies (by omega)
    simp at he
    obtain ⟨rfl, rfl⟩ := he
    intro j c hj
    have := hc j c hj
    rwa [Nat.zero_add] at this
  have hend : w.cell? ⟨g, n, none⟩ = some (.int .u8 77) := hq n 77 (by rw [List.getElem?_append_right (by rw [hlen.out]; omega), hlen.out]; simp)
  have hle : decide ((cap : Int) ≤ (n : Int)) = false := by simp; omega
  have hle2 : decide (cap ≤ n) = false := by simp; omega
  have HQ := Lib.hid hq
  have HE := Lib.hid hend
  have HRr := Lib.hid hr
  clear hq ht hr hend
  go_enter Tryz.func36, Tryz.ntmps36
  go_wp2
  go_loopw [5] (fun i wr => ∃ k j : Nat, k ≤ n ∧ i = .int .i64 k ∧ wr = w.drewN j) (fun i _ => n - (intOf i).toNat)
  case atStart => exact ⟨0, 0, by omega, rfl, rfl⟩
  case round =>
    obtain ⟨k, j, hk, rfl, rfl⟩ := hrel
    by_cases hlt : k < n
    · obtain ⟨b, off, rfl, hcell⟩ := HRr.out.lies (by omega)
      obtain ⟨c, hc⟩ : ∃ c, l[k]? = some c := ⟨l[k]'(by rw [hlen.out]; exact hlt), by rw [List.getElem?_eq_getElem]⟩
      have hx1 := hcell k c hc
      have hx2 := HQ.out k c (by rw [List.getElem?_append_left (by rw [hlen.out]; exact hlt)]; exact hc)
      clear hcell hc
      go_wp2
      go_quiet (fail)
      go_wp2
      go_roundw
      case rel => exact ⟨k + 1, _, by omega, by go_num, rfl⟩
      case measure => simp [intOf]; omega
    · obtain rfl : k = n := by omega
      have hend := HE.out
      go_wp2
      go_ret
      exact ⟨rfl, ⟨rfl, rfl, rfl, Nat.le_refl _, fun _ _ => rfl⟩⟩
end Go.Proofs.YtfdjeaieddcgdabGreatDoor
