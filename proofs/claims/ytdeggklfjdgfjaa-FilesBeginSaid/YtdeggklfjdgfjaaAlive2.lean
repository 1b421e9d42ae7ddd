/-
  WHAT IS PROVED: the chapter's answers, as the statements ask them (alive).
-/
import Derived.Test.YtdeggklfjdgfjaaHas
namespace Go.Proofs.Ytdeggklfjdgfjaa
open Go.RowKit Go.Lib

def al1 : DiskM := ⟨10, [(⟨#[97]⟩, 0)], [], [⟨[], 0⟩]⟩
def al2 : DiskM := ⟨10, [(⟨#[97]⟩, 0)], [], [⟨[97, 98, 99, 100, 101], 0⟩]⟩
def al3 : DiskM := ⟨10, [(⟨#[97]⟩, 0)], [], [⟨[97, 98, 99, 100, 101], 5⟩]⟩
def al4 : DiskM := ⟨10, [(⟨#[97]⟩, 0)], [], [⟨[97, 98, 99, 100, 101, 102, 103], 5⟩]⟩
def al5 : DiskM := ⟨10, [(⟨#[97]⟩, 0)], [(⟨#[97]⟩, 0)], [⟨[97, 98, 99, 100, 101, 102, 103], 5⟩]⟩
def al6 : DiskM := ⟨10, [(⟨#[98]⟩, 0)], [(⟨#[97]⟩, 0)], [⟨[97, 98, 99, 100, 101, 102, 103], 5⟩]⟩
def alX : DiskM := ⟨10, [(⟨#[97]⟩, 0)], [(⟨#[97]⟩, 0)], [⟨[97, 98, 99, 100, 101, 102], 6⟩]⟩
def alY : DiskM := ⟨10, [(⟨#[98]⟩, 0)], [(⟨#[98]⟩, 0)], [⟨[97, 98, 99, 100, 101], 5⟩]⟩
def al7 : DiskM := ⟨10, [(⟨#[98]⟩, 0)], [(⟨#[97]⟩, 0)], [⟨[97, 98, 99, 100, 101, 102, 103, 0, 0, 0], 5⟩]⟩

theorem al_s : strB [97, 98, 99, 100, 101, 102] = ⟨#[97, 98, 99, 100, 101, 102]⟩ := by kernel_rfl

set_option maxRecDepth 100000 in
set_option maxHeartbeats 8000000 in
theorem alive_yes (w : World) : Calls Try.prog 21 #[] w fun e w' => e = .returned (.bool true) ∧ Below w.heap.size w w' := by
  have kc := fun (w : World) (C : Array Value) (n c : Nat) => Lib.run_convert_bytes_const (P := Try.prog) w 22 5 C n c Try.underlying22 Try.underlying5
  have hm4 : ∀ w : World, (Instr.makeSlice 22 (.int .i64 4) (.int .i64 4)).run Try.prog w = .ok (.slice (some ⟨w.heap.size, 0, none⟩) 4 4) (w.alloc (.cells #[.int .u8 0, .int .u8 0, .int .u8 0, .int .u8 0] 5)) := fun _ => by kernel_rfl
  have hm3 : ∀ w : World, (Instr.makeSlice 22 (.int .i64 3) (.int .i64 3)).run Try.prog w = .ok (.slice (some ⟨w.heap.size, 0, none⟩) 3 3) (w.alloc (.cells #[.int .u8 0, .int .u8 0, .int .u8 0] 5)) := fun _ => by kernel_rfl
  go_enter Try.func21, Try.ntmps21
  go_wp2_with fail
  refine (new_h (M := newM 10) 10 w w (Below.refl _ _) (by omega) (by omega) rfl).mono ?_
  rintro e w1 ⟨d, rfl, h1, _⟩
  have H1 := Lib.hid h1
  clear h1
  go_wp2_with fail
  refine (create_h H1.out ⟨#[97]⟩ (by decide) (k := 0) (M' := al1) (by kernel_rfl) (by kernel_rfl)).mono ?_
  rintro e w2 ⟨rfl, h2⟩
  have H2 := Lib.hid h2
  clear h2
  go_wp2_with fail
  refine (append_h (H2.out.alloc _) ⟨#[97]⟩ (by decide) _ 5 5 [97, 98, 99, 100, 101] (row_new _ [97, 98, 99, 100, 101] 5 _ (5, 6) rfl rfl (by decide) (by omega)) (k := 0) (M' := al2) (by kernel_rfl) (by kernel_rfl)).mono ?_
  rintro e w3 ⟨rfl, h3⟩
  have H3 := Lib.hid h3
  clear h3
  go_wp2_with fail
  refine (sync_h H3.out ⟨#[97]⟩ (by decide) (k := 0) (M' := al3) (by kernel_rfl) (by kernel_rfl)).mono ?_
  rintro e w4 ⟨rfl, h4⟩
  have H4 := Lib.hid h4
  clear h4
  go_wp2_with fail
  refine (append_h (H4.out.alloc _) ⟨#[97]⟩ (by decide) _ 2 2 [102, 103] (row_new _ [102, 103] 2 _ (2, 3) rfl rfl (by decide) (by omega)) (k := 0) (M' := al4) (by kernel_rfl) (by kernel_rfl)).mono ?_
  rintro e w5 ⟨rfl, h5⟩
  have H5 := Lib.hid h5
  clear h5
  go_wp2_with fail
  refine (names_h H5.out (M' := al5) (by kernel_rfl)).mono ?_
  rintro e w6 ⟨rfl, h6⟩
  have H6 := Lib.hid h6
  clear h6
  go_wp2_with fail
  refine (rename_h H6.out ⟨#[97]⟩ ⟨#[98]⟩ (by decide) (by decide) (k := 0) (M' := al6) (by kernel_rfl) (by kernel_rfl)).mono ?_
  rintro e w7 ⟨rfl, h7⟩
  have H7 := Lib.hid h7
  clear h7
  go_wp2_with fail
  refine (room_h H7.out (k := 3) (by kernel_rfl)).mono ?_
  rintro e w8 ⟨rfl, b8⟩
  have H8 := Lib.hid (H7.out.kept b8)
  clear b8
  go_wp2_with fail
  refine (fail_h H8.out 1 false (by omega) (M' := alX) (by kernel_rfl)).mono ?_
  rintro e w9 ⟨dx, rfl, x9, b9⟩
  have X9 := Lib.hid x9
  have H9 := Lib.hid (H8.out.kept b9)
  clear x9 b9
  go_wp2_with fail
  refine (fail_h H9.out 0 true (by omega) (M' := alY) (by kernel_rfl)).mono ?_
  rintro e w10 ⟨dy, rfl, y10, b10⟩
  have Y10 := Lib.hid y10
  have X10 := Lib.hid (X9.out.kept b10)
  have H10 := Lib.hid (H9.out.kept b10)
  clear y10 b10
  go_wp2_with fail
  refine (size_h Y10.out ⟨#[98]⟩ (by decide) (n := 5) (k := 0) (by kernel_rfl) (by kernel_rfl)).mono ?_
  rintro e w11 ⟨rfl, b11⟩
  have X11 := Lib.hid (X10.out.kept b11)
  have H11 := Lib.hid (H10.out.kept b11)
  clear b11
  go_wp2_with fail
  refine (read_h H11.out ⟨#[98]⟩ (by decide) 5 3 (by omega) (by omega) (l := []) (k := 5) (by kernel_rfl) (by kernel_rfl)).mono ?_
  rintro e w12 ⟨ao12, c12, rfl, _, b12⟩
  have X12 := Lib.hid (X11.out.kept b12)
  have H12 := Lib.hid (H11.out.kept b12)
  clear b12
  go_wp2_with fail
  refine (read_h H12.out ⟨#[97]⟩ (by decide) 0 0 (by omega) (by omega) (l := []) (k := 7) (by kernel_rfl) (by kernel_rfl)).mono ?_
  rintro e w13 ⟨ao13, c13, rfl, _, b13⟩
  have X13 := Lib.hid (X12.out.kept b13)
  have H13 := Lib.hid (H12.out.kept b13)
  clear b13
  go_wp2_with fail
  refine (all_h X13.out ⟨#[97]⟩ (by decide) al_s).mono ?_
  rintro e w14 ⟨rfl, b14⟩
  have X14 := Lib.hid (X13.out.kept b14)
  have H14 := Lib.hid (H13.out.kept b14)
  clear b14
  go_wp2_with fail
  refine (list_h X14.out (l := [⟨#[97]⟩]) rfl).mono ?_
  rintro e w15 ⟨ao15, c15, rfl, _, _, b15⟩
  have H15 := Lib.hid (H14.out.kept b15)
  clear b15
  go_wp2_with fail
  refine (append_h (H15.out.alloc _) ⟨#[98]⟩ (by decide) _ 4 4 [0, 0, 0, 0] (row_new _ [0, 0, 0, 0] 4 _ (0, 0) rfl rfl (by decide) (by omega)) (k := 6) (M' := al6) (by kernel_rfl) (by kernel_rfl)).mono ?_
  rintro e w16 ⟨rfl, h16⟩
  have H16 := Lib.hid h16
  clear h16
  go_wp2_with fail
  refine (create_h H16.out ⟨#[65]⟩ (by decide) (k := 1) (M' := al6) (by kernel_rfl) (by kernel_rfl)).mono ?_
  rintro e w17 ⟨rfl, h17⟩
  have H17 := Lib.hid h17
  clear h17
  go_wp2_with fail
  refine (create_h H17.out ⟨#[98]⟩ (by decide) (k := 8) (M' := al6) (by kernel_rfl) (by kernel_rfl)).mono ?_
  rintro e w18 ⟨rfl, h18⟩
  have H18 := Lib.hid h18
  clear h18
  go_wp2_with fail
  refine (append_h (H18.out.alloc _) ⟨#[98]⟩ (by decide) _ 3 3 [0, 0, 0] (row_new _ [0, 0, 0] 3 _ (0, 0) rfl rfl (by decide) (by omega)) (k := 0) (M' := al7) (by kernel_rfl) (by kernel_rfl)).mono ?_
  rintro e w19 ⟨rfl, h19⟩
  have H19 := Lib.hid h19
  clear h19
  go_wp2
  go_ret
  exact ⟨rfl, H19.out.below⟩
end Go.Proofs.Ytdeggklfjdgfjaa
