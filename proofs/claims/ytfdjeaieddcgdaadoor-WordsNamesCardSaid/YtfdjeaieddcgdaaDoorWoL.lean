/-
  WHAT IS PROVED: contracts of the statements' own functions on words: alive, bad.
-/
import Derived.Test.YtfdjeaieddcgdaaDoorWoK
namespace Go.Proofs.YtfdjeaieddcgdaaDoor
open Go.RowKit Go.Shelf
set_option linter.unusedVariables false

theorem of_ok (s : ByteArray) (l : List WordM) (h : ofB s.data.toList = .ok l) (w : World) (hw : Wo w) :
    Calls Tryd.prog 11 #[.string s] w fun e w' => ∃ v, e = .returned (.tuple #[v, .int .i64 0, .int .i64 0]) ∧ RowW w' v l ∧ Below w.heap.size w w' := by
  have := of_any s w hw
  rw [h] at this
  exact this.mono fun e w' ⟨v, h1, h2, h3⟩ => ⟨v, h1, RowW.of_own h2, h3⟩
theorem of_bad (s : ByteArray) (a f : Nat) (h : ofB s.data.toList = .bad a f) (w : World) (hw : Wo w) :
    Calls Tryd.prog 11 #[.string s] w fun e w' => ∃ ao cap, e = .returned (.tuple #[.slice ao 0 cap, .int .i64 (a : Int), .int .i64 (f : Int)]) ∧ Below w.heap.size w w' := by
  have := of_any s w hw
  rw [h] at this
  refine this.mono fun e w' ⟨v, h1, h2, h3⟩ => ?_
  obtain ⟨ao, cap, rfl⟩ := rowW_slice h2
  exact ⟨ao, cap, h1, h3⟩

set_option maxHeartbeats 1000000 in
theorem bad_yes (s : ByteArray) (a f : Nat) (h : ofB s.data.toList = .bad a f) (w : World) (hw : Wo w) :
    Calls Tryd.prog 14 #[.string s, .int .i64 (a : Int), .int .i64 (f : Int)] w fun e w' => e = .returned (.bool true) ∧ Below w.heap.size w w' := by
  have hC := of_bad s a f h w hw
  clear h
  go_enter Tryd.func14, Tryd.ntmps14
  go_wp2_with fail
  refine hC.mono ?_
  rintro e w1 ⟨ao, cap, rfl, hb1⟩
  have HB1 := Lib.hid hb1
  clear hb1
  go_wp2_with fail
  go_ret
  exact ⟨rfl, HB1.out⟩

theorem name_yes (s : ByteArray) (b : Bool) (h : nameB s.data.toList = b) (w : World) (hs : s.size ≤ 9223372036854775000) : Calls Tryd.prog 15 #[.string s] w fun e w' => e = .returned (.bool b) ∧ Below w.heap.size w w' := by
  rw [← h]; exact name_is s w hs

def aliveA : List WordM := [⟨1, [115, 101, 108, 101, 99, 116], 0, 0⟩, ⟨1, [97, 49], 0, 7⟩, ⟨4, [60, 61], 0, 9⟩, ⟨2, [], 2, 11⟩, ⟨4, [46], 0, 12⟩, ⟨2, [], 5, 13⟩]
def aliveC : List WordM := [⟨3, [105, 116, 39, 115], 0, 0⟩, ⟨1, [120], 0, 7⟩]

set_option maxRecDepth 100000 in
set_option maxHeartbeats 4000000 in
theorem alive_yes6 (w : World) (hw : Wo w) : Calls Tryd.prog 10 #[] w fun e w' => e = .returned (.bool true) ∧ Below w.heap.size w w' := by
  have a1 := fun w hw => of_ok ⟨#[83, 69, 76, 69, 67, 84, 32, 97, 49, 60, 61, 50, 46, 53]⟩ aliveA (by kernel_rfl) w hw
  have a2 := fun w hw => of_ok ⟨#[39, 105, 116, 39, 39, 115, 39, 120]⟩ aliveC (by kernel_rfl) w hw
  have b1 := fun w hw => bad_yes ⟨#[39, 97]⟩ 0 4 (by kernel_rfl) w hw
  have b2 := fun w hw => bad_yes ⟨#[97, 32, 59]⟩ 2 4 (by kernel_rfl) w hw
  have b3 := fun w hw => bad_yes ⟨#[57, 50, 50, 51, 51, 55, 50, 48, 51, 54, 56, 53, 52, 55, 55, 53, 56, 48, 56]⟩ 0 12 (by kernel_rfl) w hw
  have n1 := fun w => name_yes ⟨#[97, 95, 49]⟩ true (by kernel_rfl) w (by decide)
  have n2 := fun w => name_yes ⟨#[65]⟩ false (by kernel_rfl) w (by decide)
  have n3 := fun w => name_yes ⟨#[115, 101, 108, 101, 99, 116]⟩ false (by kernel_rfl) w (by decide)
  have n4 := fun w => name_yes ⟨#[49, 97]⟩ false (by kernel_rfl) w (by decide)
  have n5 := fun w => name_yes ⟨#[95, 97]⟩ false (by kernel_rfl) w (by decide)
  go_enter Tryd.func10, Tryd.ntmps10
  go_wp2_with fail
  refine (a1 _ hw).mono ?_
  rintro e w1 ⟨v1, rfl, hr1, hb1⟩
  have HB1 := Lib.hid hb1
  have HW1 := Lib.hid (hw.kept hb1)
  have HR1 := Lib.hid hr1
  clear hb1 hr1 hw
  go_wp2_with fail
  refine (a2 _ HW1.out).mono ?_
  rintro e w2 ⟨v2, rfl, hr2, hb2⟩
  have HB2 := Lib.hid (HB1.out.trans (hb2.mono HB1.out.size))
  have HW2 := Lib.hid (HW1.out.kept hb2)
  have HR2 := Lib.hid hr2
  have HR1' := Lib.hid (HR1.out.kept hb2)
  clear hb2 hr2
  go_wp2_with fail
  refine (sameWords_same _ _ aliveA _ (HR1'.out.kept (below_alloc _ _)) (RowW.of_lit (heap_alloc_new _ _) rfl (by simp [aliveA]) 6 rfl)).mono ?_
  rintro e w3 ⟨rfl, hb3⟩
  have HB3 := Lib.hid (HB2.out.trans (((below_alloc w2 _).trans (hb3.mono (by simp))).mono HB2.out.size))
  have HW3 := Lib.hid ((HW2.out.kept (below_alloc w2 _)).kept hb3)
  have HR3 := Lib.hid ((HR2.out.kept (below_alloc w2 _)).kept hb3)
  clear hb3
  go_wp2_with fail
  refine (sameWords_same _ _ aliveC _ (HR3.out.kept (below_alloc _ _)) (RowW.of_lit (heap_alloc_new _ _) rfl (by simp [aliveC]) 2 rfl)).mono ?_
  rintro e w4 ⟨rfl, hb4⟩
  have HB4 := Lib.hid (HB3.out.trans (((below_alloc w3 _).trans (hb4.mono (by simp))).mono HB3.out.size))
  have HW4 := Lib.hid ((HW3.out.kept (below_alloc w3 _)).kept hb4)
  clear hb4
  go_wp2_with fail
  refine (b1 _ HW4.out).mono ?_
  rintro e w5 ⟨rfl, hb5⟩
  have HB5 := Lib.hid (HB4.out.trans (hb5.mono HB4.out.size))
  have HW5 := Lib.hid (HW4.out.kept hb5)
  clear hb5
  go_wp2_with fail
  refine (b2 _ HW5.out).mono ?_
  rintro e w6 ⟨rfl, hb6⟩
  have HB6 := Lib.hid (HB5.out.trans (hb6.mono HB5.out.size))
  have HW6 := Lib.hid (HW5.out.kept hb6)
  clear hb6
  go_wp2_with fail
  refine (b3 _ HW6.out).mono ?_
  rintro e w7 ⟨rfl, hb7⟩
  have HB7 := Lib.hid (HB6.out.trans (hb7.mono HB6.out.size))
  clear hb7
  go_wp2_with fail
  refine (n1 _).mono ?_
  rintro e w8 ⟨rfl, hb8⟩
  have HB8 := Lib.hid (HB7.out.trans (hb8.mono HB7.out.size))
  clear hb8
  go_wp2_with fail
  refine (n2 _).mono ?_
  rintro e w9 ⟨rfl, hb9⟩
  have HB9 := Lib.hid (HB8.out.trans (hb9.mono HB8.out.size))
  clear hb9
  go_wp2_with fail
  refine (n3 _).mono ?_
  rintro e wa ⟨rfl, hba⟩
  have HBa := Lib.hid (HB9.out.trans (hba.mono HB9.out.size))
  clear hba
  go_wp2_with fail
  refine (n4 _).mono ?_
  rintro e wb ⟨rfl, hbb⟩
  have HBb := Lib.hid (HBa.out.trans (hbb.mono HBa.out.size))
  clear hbb
  go_wp2_with fail
  refine (n5 _).mono ?_
  rintro e wc ⟨rfl, hbc⟩
  have HBc := Lib.hid (HBb.out.trans (hbc.mono HBb.out.size))
  clear hbc
  go_wp2_with fail
  go_ret
  exact ⟨rfl, HBc.out⟩
end Go.Proofs.YtfdjeaieddcgdaaDoor
