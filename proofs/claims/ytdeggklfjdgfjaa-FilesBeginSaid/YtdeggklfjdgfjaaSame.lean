/-
  WHAT IS PROVED: SameTexts of two rows that read alike.
-/
import Derived.Test.YtdeggklfjdgfjaaKit
namespace Go.Proofs.Ytdeggklfjdgfjaa
open Go.RowKit Go.Lib

set_option maxRecDepth 100000 in
set_option maxHeartbeats 2000000 in
theorem sameTexts_same (ao bo : Option Addr) (n cap cap2 : Nat) (ss : List ByteArray) (w : World) (ha : RowS w ao n cap ss) (hb : RowS w bo n cap2 ss) :
    Calls Try.prog 25 #[.slice ao n cap, .slice bo n cap2] w fun e w' => e = .returned (.bool true) ∧ Below w.heap.size w w' := by
  have hlen := Lib.hid ha.len
  have hroom := ha.room
  have hmost := ha.most
  have hroom2 := hb.room
  have hmost2 := hb.most
  have HA := Lib.hid ha
  have HB := Lib.hid hb
  clear ha hb
  go_enter Try.func25, Try.ntmps25
  go_wp2_with fail
  go_loopw [5] (fun i wr => ∃ k : Nat, k ≤ n ∧ i = .int .i64 k ∧ Hid (Below w.heap.size w wr)) (fun i _ => n - (RowKit.intOf i).toNat)
  case atStart => exact ⟨0, by omega, rfl, Lib.hid (Below.refl _ _)⟩
  case round =>
    obtain ⟨k, hk, rfl, HK⟩ := hrel
    by_cases hlt : k < n
    · obtain ⟨x, hx⟩ : ∃ x, ss[k]? = some x := ⟨ss[k]'(by rw [hlen.out]; exact hlt), by simp [hlen.out, hlt]⟩
      obtain ⟨b1, o1, rfl, hc1⟩ := (HA.out.kept HK.out).lies (by omega)
      obtain ⟨b2, o2, rfl, hc2⟩ := (HB.out.kept HK.out).lies (by omega)
      have q1 := bwOf_cell wr _ _ (hc1 k x hx)
      have q2 := bwOf_cell wr _ _ (hc2 k x hx)
      clear hc1 hc2 hx
      have mixed : Try.prog.follows .mixedOrders = true := by kernel_rfl
      go_wp2_with fail
      refine wp_region_bw (w := wr) (by kernel_rfl) (by kernel_rfl) ?_
      repeat (go_big_quiet_step (fail))
      refine wpQuiet_nil ?_
      rintro w7 ⟨m7, h7⟩
      have B7 : Hid (Below wr.heap.size wr w7) := by rw [h7]; exact bwOf_below wr m7
      clear h7
      go_wp2_with fail
      go_roundw
      case rel => exact ⟨k + 1, by omega, by go_num, Lib.hid (below_next HK.out B7.out)⟩
      case measure => simp [RowKit.intOf]; omega
    · obtain rfl : k = n := by omega
      go_wp2_with fail
      go_ret
      exact ⟨rfl, HK.out⟩
end Go.Proofs.Ytdeggklfjdgfjaa
