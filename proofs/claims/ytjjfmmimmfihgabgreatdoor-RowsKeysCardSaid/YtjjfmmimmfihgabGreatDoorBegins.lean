/-
  WHAT IS PROVED: contract of the statement's own begins: of bytes that do not begin the others it says no.
-/
import Derived.Test.YtjjfmmimmfihgabGreatDoorKeyPure
import Derived.Test.YtjjfmmimmfihgabGreatDoorRowL
namespace Go.Proofs.YtjjfmmimmfihgabGreatDoor
open Go.RowKit Go.Lib
set_option linter.unusedVariables false

set_option maxRecDepth 100000 in
set_option maxHeartbeats 4000000 in
theorem begins_no (a b : Option Addr) (n m ca cb : Nat) (l r : List Nat) (w : World) (ha : Row8 w a n ca l) (hb : Row8 w b m cb r) (h : r.take n ≠ l) :
    Calls Tryz.prog 18 #[.slice a n ca, .slice b m cb] w fun e w' => e = .returned (.bool false) ∧ Below w.heap.size w w' := by
  have h1 := ha.room
  have h2 := ha.most
  have h3 := hb.room
  have h4 := hb.most
  by_cases hnm : n ≤ m
  · have d1 : decide ((n : Int) ≤ (m : Int)) = true := by rw [decide_eq_true_iff]; omega
    have d2 : (n : Int) ≤ (m : Int) := by omega
    have d3 : (m : Int) ≤ (cb : Int) := by omega
    have d4 : (n : Int) ≤ (cb : Int) := by omega
    have ka := fun q : BW w => conv_row (bwOf_row ha q)
    have kb := fun q : BW w => conv_row (bwOf_row (hb.upto n hnm) q)
    have hne : strB (r.take n) ≠ strB l := fun e => h (strB_inj _ _ (fun x hx => hb.byte x (List.mem_of_mem_take hx)) ha.byte e)
    have hne2 : ((strB (r.take n)).toList == (strB l).toList) = false := by
      rw [beq_eq_false_iff_ne]
      intro e
      rw [ByteArray.toList_eq, ByteArray.toList_eq] at e
      exact hne (ByteArray.ext (Array.toList_inj.1 e))
    clear ha hb h hne hnm
    go_enter Tryz.func18, Tryz.ntmps18
    go_wp2_with fail
    refine wp_region_bw (w := w) (by kernel_rfl) (by kernel_rfl) ?_
    repeat (go_big_quiet_step (fail))
    refine wpQuiet_nil ?_
    rintro w1 ⟨q, rfl⟩
    have HB := Lib.hid (bwOf_below w q)
    go_wp2
    go_ret
    exact ⟨rfl, HB.out⟩
  · have d1 : decide ((n : Int) ≤ (m : Int)) = false := by rw [decide_eq_false_iff_not]; omega
    clear ha hb h
    go_enter Tryz.func18, Tryz.ntmps18
    go_wp2_with fail
    refine wp_region_bw (w := w) (by kernel_rfl) (by kernel_rfl) ?_
    repeat (go_big_quiet_step (fail))
    refine wpQuiet_nil ?_
    rintro w1 ⟨q, rfl⟩
    have HB := Lib.hid (bwOf_below w q)
    go_wp2
    go_ret
    exact ⟨rfl, HB.out⟩
end Go.Proofs.YtjjfmmimmfihgabGreatDoor
