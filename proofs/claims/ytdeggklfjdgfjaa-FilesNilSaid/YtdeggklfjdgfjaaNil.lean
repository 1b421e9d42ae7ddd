/-
  WHAT IS PROVED: a disk that is not there, or that no call made: contracts of all its calls; the walk of FilesNil.
-/
import Derived.Test.YtdeggklfjdgfjaaFail
namespace Go.Proofs.Ytdeggklfjdgfjaa
open Go.RowKit

/-- a receiver that is no disk -/
def NoDisk (w : World) (p : Value) : Prop := p = .pointer none ∨ ∃ d, p = .pointer (some ⟨d, 0, none⟩) ∧ w.cell? ⟨d, 0, none⟩ = some (.int .i64 0)

theorem missing_no (p nm x : Value) (w : World) (h : NoDisk w p) : Calls Try.prog 27 #[p, nm, x] w fun e w' => e = .returned (.tuple #[.int .i64 0, .int .i64 2]) ∧ w = w' := by
  rcases h with rfl | ⟨d, rfl, h⟩
  · exact missing_nil nm x w
  · exact missing_zero d nm x w h
theorem none_yes (p : Value) (w : World) (h : NoDisk w p) : Calls Try.prog 29 #[p] w fun e w' => e = .returned (.bool true) ∧ w = w' := by
  rcases h with rfl | ⟨d, rfl, h⟩
  · exact none_nil w
  · exact none_zero d w h

theorem create_no (p nm : Value) (w : World) (h : NoDisk w p) : Calls Try.prog 15 #[p, nm] w fun e w' => e = .returned (.int .i64 2) ∧ w = w' := by
  have H := Lib.hid h
  clear h
  go_enter Try.func15, Try.ntmps15
  go_wp2_with fail
  refine (missing_no _ _ _ w H.out).mono ?_
  rintro e w' ⟨rfl, rfl⟩
  go_wp2
  go_ret
  exact ⟨rfl, rfl⟩
theorem remove_no (p nm : Value) (w : World) (h : NoDisk w p) : Calls Try.prog 16 #[p, nm] w fun e w' => e = .returned (.int .i64 2) ∧ w = w' := by
  have H := Lib.hid h
  clear h
  go_enter Try.func16, Try.ntmps16
  go_wp2_with fail
  refine (missing_no _ _ _ w H.out).mono ?_
  rintro e w' ⟨rfl, rfl⟩
  go_wp2
  go_ret
  exact ⟨rfl, rfl⟩
theorem NoDisk.alloc {w : World} {p : Value} (h : NoDisk w p) (o : Obj) : NoDisk (w.alloc o) p := by
  rcases h with rfl | ⟨d, rfl, h⟩
  · exact .inl rfl
  · exact .inr ⟨d, rfl, ((below_alloc w o).cell (p := ⟨d, 0, none⟩) (World.block_lt_of_cell? w _ h)).trans h⟩
theorem rename_no (p nm : Value) (to : ByteArray) (w : World) (h : NoDisk w p) : Calls Try.prog 17 #[p, nm, .string to] w fun e w' => e = .returned (.int .i64 2) ∧ Below w.heap.size w w' := by
  have H := Lib.hid h
  clear h
  go_enter Try.func17, Try.ntmps17
  go_wp2_with fail
  refine (missing_no _ _ _ _ (H.out.alloc _)).mono ?_
  rintro e w' ⟨rfl, rfl⟩
  go_wp2
  go_ret
  exact ⟨rfl, below_alloc w _⟩
theorem append_no (p nm b : Value) (w : World) (h : NoDisk w p) : Calls Try.prog 18 #[p, nm, b] w fun e w' => e = .returned (.int .i64 2) ∧ w = w' := by
  have H := Lib.hid h
  clear h
  go_enter Try.func18, Try.ntmps18
  go_wp2_with fail
  refine (missing_no _ _ _ w H.out).mono ?_
  rintro e w' ⟨rfl, rfl⟩
  go_wp2
  go_ret
  exact ⟨rfl, rfl⟩
theorem sync_no (p nm : Value) (w : World) (h : NoDisk w p) : Calls Try.prog 19 #[p, nm] w fun e w' => e = .returned (.int .i64 2) ∧ w = w' := by
  have H := Lib.hid h
  clear h
  go_enter Try.func19, Try.ntmps19
  go_wp2_with fail
  refine (missing_no _ _ _ w H.out).mono ?_
  rintro e w' ⟨rfl, rfl⟩
  go_wp2
  go_ret
  exact ⟨rfl, rfl⟩
theorem names_no (p : Value) (w : World) (h : NoDisk w p) : Calls Try.prog 20 #[p] w fun e w' => e = .returned (.int .i64 2) ∧ w = w' := by
  rcases h with rfl | ⟨d, rfl, h⟩
  · exact names_nil w
  · exact names_zero d w h
theorem left_no (p : Value) (w : World) (h : NoDisk w p) : Calls Try.prog 14 #[p] w fun e w' => e = .returned (.int .i64 0) ∧ w = w' := by
  rcases h with rfl | ⟨d, rfl, h⟩
  · exact left_nil w
  · exact left_zero d w h
theorem fail_no (p a b : Value) (w : World) (h : NoDisk w p) : Calls Try.prog 12 #[p, a, b] w fun e w' => e = .returned (.tuple #[.pointer none, .int .i64 2]) ∧ w = w' := by
  rcases h with rfl | ⟨d, rfl, h⟩
  · exact fail_nil a b w
  · exact fail_zero d a b w h
theorem list_no (p : Value) (w : World) (h : NoDisk w p) : Calls Try.prog 13 #[p] w fun e w' => e = .returned (.slice none 0 0) ∧ w = w' := by
  have H := Lib.hid h
  clear h
  go_enter Try.func13, Try.ntmps13
  go_wp2_with fail
  refine (none_yes _ w H.out).mono ?_
  rintro e w' ⟨rfl, rfl⟩
  go_wp2
  go_ret
  exact ⟨rfl, rfl⟩
theorem size_no (p nm : Value) (w : World) (h : NoDisk w p) : Calls Try.prog 11 #[p, nm] w fun e w' => e = .returned (.tuple #[.int .i64 0, .int .i64 2]) ∧ w = w' := by
  have H := Lib.hid h
  clear h
  go_enter Try.func11, Try.ntmps11
  go_wp2_with fail
  refine (missing_no _ _ _ w H.out).mono ?_
  rintro e w' ⟨rfl, rfl⟩
  go_wp2
  go_ret2
  exact ⟨rfl, rfl⟩
theorem read_no (p nm : Value) (a n : Int) (w : World) (h : NoDisk w p) : Calls Try.prog 10 #[p, nm, .int .i64 a, .int .i64 n] w fun e w' => e = .returned (.tuple #[.slice none 0 0, .int .i64 2]) ∧ w = w' := by
  have H := Lib.hid h
  clear h
  by_cases h1 : a < 0
  · go_enter Try.func10, Try.ntmps10
    go_wp2_with fail
    refine (missing_no _ _ _ w H.out).mono ?_
    rintro e w' ⟨rfl, rfl⟩
    go_wp2
    go_ret2
    exact ⟨rfl, rfl⟩
  · by_cases h2 : n < 0
    · go_enter Try.func10, Try.ntmps10
      go_wp2_with fail
      refine (missing_no _ _ _ w H.out).mono ?_
      rintro e w' ⟨rfl, rfl⟩
      go_wp2
      go_ret2
      exact ⟨rfl, rfl⟩
    · go_enter Try.func10, Try.ntmps10
      go_wp2_with fail
      refine (missing_no _ _ _ w H.out).mono ?_
      rintro e w' ⟨rfl, rfl⟩
      go_wp2
      go_ret2
      exact ⟨rfl, rfl⟩
end Go.Proofs.Ytdeggklfjdgfjaa
