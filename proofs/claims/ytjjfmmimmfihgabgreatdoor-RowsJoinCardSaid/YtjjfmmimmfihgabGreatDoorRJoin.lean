/-
  WHAT IS PROVED: the walk of RowsJoin, whatever the values and where they are parted.
-/
import Derived.Test.YtjjfmmimmfihgabGreatDoorRJoinA
import Derived.Test.YtjjfmmimmfihgabGreatDoorRJoinB
import Derived.Test.YtjjfmmimmfihgabGreatDoorRJoinC
import Derived.Test.YtjjfmmimmfihgabGreatDoorRJoinD
namespace Go.Proofs.YtjjfmmimmfihgabGreatDoor
open Go.RowKit Go.Lib
set_option linter.unusedVariables false

theorem walk_RowsJoin (ao : Option Addr) (n cap : Nat) (vs : List Val) {w : World} (hr : RowV w ao n cap vs) (c : Int) (hc : (Lit.int .u8 c).wf = true) (hw : Wm w) :
    Calls Tryz.prog 4 #[.slice ao n cap, .int .u8 c] w fun e w' => e = .returned (.bool true) ∧ Below w.heap.size w w' := by
  have k0 := wf_u8 hc
  obtain ⟨c, rfl⟩ := Int.eq_ofNat_of_zero_le k0.1
  have hwc : wrap64 (c : Int) = (c : Int) := by unfold wrap64; omega
  rcases Nat.eq_zero_or_pos n with rfl | hpos
  · obtain rfl : vs = [] := List.eq_nil_of_length_eq_zero hr.len
    have hmod : (c : Int) % 1 = 0 := by omega
    cases ao with
    | none =>
      obtain rfl := hr.nil rfl
      exact rjoin_none c w hw hr hmod hwc
    | some a => exact rjoin_zero a cap hr.most c w hw hr hmod hwc
  · obtain ⟨b, off, rfl, _, _⟩ := hr.lies hpos
    have hroom := hr.room
    have hmod : (c : Int) % ((n : Int) + 1) = ((c % (n + 1) : Nat) : Int) := by rw [Int.natCast_emod]; rfl
    have hlt : c % (n + 1) < n + 1 := Nat.mod_lt _ (by omega)
    generalize c % (n + 1) = k at hmod hlt
    by_cases hk : k < cap
    · exact rjoin_mid b off n cap k vs c w hw hr hpos (by omega) hk hmod (by omega) hwc
    · obtain rfl : k = n := by omega
      obtain rfl : cap = k := by omega
      exact rjoin_end b off cap vs c w hw hr hpos hmod (by omega) hwc
end Go.Proofs.YtjjfmmimmfihgabGreatDoor
