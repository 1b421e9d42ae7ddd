/-
  WHAT IS PROVED: TwinBytes, as memory of the call's own; SameBytes of what reads alike.
-/
import Derived.Test.YtfdjeaieddcgdabGreatDoorTwin
import Derived.Test.YtfdjeaieddcgdabGreatDoorBkBase
namespace Go.Proofs.YtfdjeaieddcgdabGreatDoor
open Go.RowKit
set_option linter.unusedVariables false

/-- what TwinBytes hands back: the same bytes in new memory, a mark in the spare room, all of it the call's own -/
def TwinO (l : List Nat) (w : World) (e : Ending) (w' : World) : Prop :=
  ∃ g cap, e = .returned (.slice (some ⟨g, 0, none⟩) l.length cap) ∧ w'.ownsRow w.heap.size 5 1 (.slice (some ⟨g, 0, none⟩) (l.length + 1) cap) (l.length + 1) (cells8 (l ++ [77])) ∧ Below w.heap.size w w'

set_option maxRecDepth 100000 in
set_option maxHeartbeats 2000000 in
theorem twinO_any (ao : Option Addr) (n cap : Nat) (l : List Nat) (w : World) (hr : Row8 w ao n cap l) (hn : n ≤ 4294967296) :
    Calls Tryz.prog 29 #[.slice ao n cap] w (TwinO l w) := by
  obtain ⟨i0, hi, hz0, hz1, hz2⟩ := info_parts Tryz.info8
  have HR := Lib.hid hr
  have hlen := Lib.hid hr.len
  have hbyte := Lib.hid hr.byte
  have hroom := hr.room
  have hmost := hr.most
  clear hr
  go_enter Tryz.func29, Tryz.ntmps29
  go_wp2_with (at_make; refine wpList_make_own _ rfl _ _ 29 rfl w.heap.size 5 i0 (.int .u8 0) 1 Tryz.underlying29 hi hz0 hz1 _ _ _ (n + 1) rfl rfl (by omega) (by rw [hz2]; omega) (by unfold maxLen; omega) (Nat.le_refl _) ?_)
  intro w1 hown1 hg1
  have hb1 : Below w.heap.size w w1 := (Below.refl w.heap.size w).grown hg1 (Nat.le_refl _) (fun k hk => by cases hk)
  have HO := Lib.hid hown1
  have HB1 := Lib.hid hb1
  clear hown1 hg1 hb1
  go_wp2
  go_loopw [3, 4] (fun v i wr => ∃ k : Nat, k ≤ n ∧ i = .int .i64 k ∧ Hid (wr.ownsRow w.heap.size 5 1 v k (cells8 (l.take k))) ∧ Hid (Below w.heap.size w wr)) (fun _ i _ => n - (intOf i).toNat)
  case atStart => exact ⟨0, by omega, rfl, HO, HB1⟩
  case round =>
    obtain ⟨k, hk, rfl, hO, hbel⟩ := hrel
    have hsz := hbel.out.size
    by_cases hlt : k < n
    · obtain ⟨b, off, rfl, hcell⟩ := (HR.out.kept hbel.out).lies (by omega)
      obtain ⟨c, hc⟩ : ∃ c, l[k]? = some c := ⟨l[k]'(by rw [hlen.out]; exact hlt), by rw [List.getElem?_eq_getElem]⟩
      have hck := hcell k c hc
      have hcb := hbyte.out c (List.mem_of_getElem? hc)
      have HN : Hid (l.take (k + 1) = l.take k ++ [c]) := by
        show _ = _
        rw [List.take_add_one, hc]; rfl
      have HRow := Lib.hid (row_new wr [c] 1 wr.heap.size (0, 0) rfl rfl (by intro x hx; simp at hx; omega) (by omega))
      clear hcell hc
      go_wp2_with (at_builtin; refine wpList_append_row rfl (.tmp 15) (.tmp 20) rfl w.heap.size _ _ _ rfl (hO.out.alloc _) (some ⟨wr.heap.size, 0, none⟩) 1 1 [c] rfl HRow.out (by omega) (by simp; omega) ?_)
      intro v' w2 hown2 hg2
      have hR : Hid (w2.ownsRow w.heap.size 5 1 v' (k + 1) (cells8 (l.take (k + 1)))) := by
        show World.ownsRow _ _ _ _ _ _ _
        rw [HN.out]; exact hown2
      have hB : Hid (Below w.heap.size w w2) := (hbel.out.alloc hsz _).grown hg2 (by simp; omega) (fun j hj => (hO.out.lt j hj).1)
      clear hown2 hg2
      go_wp2
      go_roundw
      case rel => exact ⟨k + 1, by omega, by go_num, hR, hB⟩
      case measure => simp [intOf]; omega
    · obtain rfl : k = n := by omega
      have HRow := Lib.hid (row_new wr [77] 1 wr.heap.size (0, 0) rfl rfl (by intro x hx; simp at hx; omega) (by omega))
      go_wp2_with (at_builtin; refine wpList_append_row rfl (.tmp 22) (.tmp 23) rfl w.heap.size _ _ _ rfl (hO.out.alloc _) (some ⟨wr.heap.size, 0, none⟩) 1 1 [77] rfl HRow.out (by omega) (by simp; omega) ?_)
      intro v' w2 hown2 hg2
      have hB : Hid (Below w.heap.size w w2) := (hbel.out.alloc hsz _).grown hg2 (by simp; omega) (fun j hj => (hO.out.lt j hj).1)
      have hfull : l.take k = l := List.take_of_length_le (by rw [hlen.out]; omega)
      rw [hfull] at hown2
      obtain ⟨g, cap2, rfl, hg, hc1, hc2⟩ := own_shape hown2 (by omega)
      have hll := hlen.out
      have hlen2 : (l ++ [77]).length = k + 1 := by simp [hll]
      have HO2 := Lib.hid hown2
      clear hown2 hg2 hfull hll hlen2 HRow
      go_wp2
      go_ret
      have hll := hlen.out
      refine ⟨g, cap2, by rw [hll]; rfl, ?_, hB.out⟩
      rw [hll]
      exact HO2.out

set_option maxRecDepth 100000 in
set_option maxHeartbeats 2000000 in
theorem sameBytes_same6 (ao bo : Option Addr) (n cap cap2 : Nat) (l : List Nat) (w : World) (ha : Row8 w ao n cap l) (hb : Row8 w bo n cap2 l) :
    Calls Tryz.prog 19 #[.slice ao n cap, .slice bo n cap2] w fun e w' => e = .returned (.bool true) ∧ Below w.heap.size w w' := by
  have hlen := Lib.hid ha.len
  have hroom := ha.room
  have hmost := ha.most
  have hroom2 := hb.room
  have hmost2 := hb.most
  have HA := Lib.hid ha
  have HB := Lib.hid hb
  clear ha hb
  go_enter Tryz.func19, Tryz.ntmps19
  go_wp2_with fail
  go_loopw [5] (fun i wr => ∃ k : Nat, k ≤ n ∧ i = .int .i64 k ∧ Hid (Below w.heap.size w wr)) (fun i _ => n - (RowKit.intOf i).toNat)
  case atStart => exact ⟨0, by omega, rfl, Lib.hid (Below.refl _ _)⟩
  case round =>
    obtain ⟨k, hk, rfl, HK⟩ := hrel
    by_cases hlt : k < n
    · obtain ⟨x, hx⟩ : ∃ x, l[k]? = some x := ⟨l[k]'(by rw [hlen.out]; exact hlt), by simp [hlen.out, hlt]⟩
      obtain ⟨b1, o1, rfl, hc1⟩ := (HA.out.kept HK.out).lies (by omega)
      obtain ⟨b2, o2, rfl, hc2⟩ := (HB.out.kept HK.out).lies (by omega)
      have q1 := bwOf_cell wr _ _ (hc1 k x hx)
      have q2 := bwOf_cell wr _ _ (hc2 k x hx)
      clear hc1 hc2 hx
      have mixed : Tryz.prog.follows .mixedOrders = true := by kernel_rfl
      go_wp2_with fail
      refine wp_region_bw (w := wr) (by kernel_rfl) (by kernel_rfl) ?_
      repeat (go_big_quiet_step (fail))
      refine wpQuiet_nil ?_
      rintro w7 ⟨m7, h7⟩
      have B7 : Hid (Below wr.heap.size wr w7) := by rw [h7]; exact bwOf_below wr m7
      clear h7
      go_wp2_with fail
      go_roundw
      case rel => exact ⟨k + 1, by omega, by go_num, Lib.hid (below_next HK.out B7.out)⟩
      case measure => simp [RowKit.intOf]; omega
    · obtain rfl : k = n := by omega
      go_wp2_with fail
      go_ret
      exact ⟨rfl, HK.out⟩
end Go.Proofs.YtfdjeaieddcgdabGreatDoor
