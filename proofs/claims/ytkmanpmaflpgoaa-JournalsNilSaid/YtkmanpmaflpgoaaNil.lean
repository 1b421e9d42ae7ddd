/-
  WHAT IS PROVED: a disk that is not there, or that no call made: contracts of all its calls; the walk of FilesNil.
-/
import Derived.Test.YtkmanpmaflpgoaaFail
namespace Go.Proofs.Ytkmanpmaflpgoaa
open Go.RowKit

/-- a receiver that is no disk -/
def NoDisk (w : World) (p : Value) : Prop := p = .pointer none ∨ ∃ d, p = .pointer (some ⟨d, 0, none⟩) ∧ w.cell? ⟨d, 0, none⟩ = some (.int .i64 0)

theorem missing_no (p nm x : Value) (w : World) (h : NoDisk w p) : Calls Try.prog 36 #[p, nm, x] w fun e w' => e = .returned (.tuple #[.int .i64 0, .int .i64 2]) ∧ w = w' := by
  rcases h with rfl | ⟨d, rfl, h⟩
  · exact missing_nil nm x w
  · exact missing_zero d nm x w h
theorem none_yes (p : Value) (w : World) (h : NoDisk w p) : Calls Try.prog 33 #[p] w fun e w' => e = .returned (.bool true) ∧ w = w' := by
  rcases h with rfl | ⟨d, rfl, h⟩
  · exact none_nil w
  · exact none_zero d w h

theorem create_no (p nm : Value) (w : World) (h : NoDisk w p) : Calls Try.prog 20 #[p, nm] w fun e w' => e = .returned (.int .i64 2) ∧ w = w' := by
  have H := Lib.hid h
  clear h
  go_enter Try.func20, Try.ntmps20
  go_wp2_with fail
  refine (missing_no _ _ _ w H.out).mono ?_
  rintro e w' ⟨rfl, rfl⟩
  go_wp2
  go_ret
  exact ⟨rfl, rfl⟩
theorem NoDisk.alloc {w : World} {p : Value} (h : NoDisk w p) (o : Obj) : NoDisk (w.alloc o) p := by
  rcases h with rfl | ⟨d, rfl, h⟩
  · exact .inl rfl
  · exact .inr ⟨d, rfl, ((below_alloc w o).cell (p := ⟨d, 0, none⟩) (World.block_lt_of_cell? w _ h)).trans h⟩
theorem rename_no (p nm : Value) (to : ByteArray) (w : World) (h : NoDisk w p) : Calls Try.prog 23 #[p, nm, .string to] w fun e w' => e = .returned (.int .i64 2) ∧ Below w.heap.size w w' := by
  have H := Lib.hid h
  clear h
  go_enter Try.func23, Try.ntmps23
  go_wp2_with fail
  refine (missing_no _ _ _ _ (H.out.alloc _)).mono ?_
  rintro e w' ⟨rfl, rfl⟩
  go_wp2
  go_ret
  exact ⟨rfl, below_alloc w _⟩
theorem append_no (p nm b : Value) (w : World) (h : NoDisk w p) : Calls Try.prog 21 #[p, nm, b] w fun e w' => e = .returned (.int .i64 2) ∧ w = w' := by
  have H := Lib.hid h
  clear h
  go_enter Try.func21, Try.ntmps21
  go_wp2_with fail
  refine (missing_no _ _ _ w H.out).mono ?_
  rintro e w' ⟨rfl, rfl⟩
  go_wp2
  go_ret
  exact ⟨rfl, rfl⟩
theorem sync_no (p nm : Value) (w : World) (h : NoDisk w p) : Calls Try.prog 30 #[p, nm] w fun e w' => e = .returned (.int .i64 2) ∧ w = w' := by
  have H := Lib.hid h
  clear h
  go_enter Try.func30, Try.ntmps30
  go_wp2_with fail
  refine (missing_no _ _ _ w H.out).mono ?_
  rintro e w' ⟨rfl, rfl⟩
  go_wp2
  go_ret
  exact ⟨rfl, rfl⟩
theorem names_no (p : Value) (w : World) (h : NoDisk w p) : Calls Try.prog 16 #[p] w fun e w' => e = .returned (.int .i64 2) ∧ w = w' := by
  rcases h with rfl | ⟨d, rfl, h⟩
  · exact names_nil w
  · exact names_zero d w h
theorem left_no (p : Value) (w : World) (h : NoDisk w p) : Calls Try.prog 38 #[p] w fun e w' => e = .returned (.int .i64 0) ∧ w = w' := by
  rcases h with rfl | ⟨d, rfl, h⟩
  · exact left_nil w
  · exact left_zero d w h
theorem fail_no (p a b : Value) (w : World) (h : NoDisk w p) : Calls Try.prog 22 #[p, a, b] w fun e w' => e = .returned (.tuple #[.pointer none, .int .i64 2]) ∧ w = w' := by
  rcases h with rfl | ⟨d, rfl, h⟩
  · exact fail_nil a b w
  · exact fail_zero d a b w h
theorem size_no (p nm : Value) (w : World) (h : NoDisk w p) : Calls Try.prog 28 #[p, nm] w fun e w' => e = .returned (.tuple #[.int .i64 0, .int .i64 2]) ∧ w = w' := by
  have H := Lib.hid h
  clear h
  go_enter Try.func28, Try.ntmps28
  go_wp2_with fail
  refine (missing_no _ _ _ w H.out).mono ?_
  rintro e w' ⟨rfl, rfl⟩
  go_wp2
  go_ret2
  exact ⟨rfl, rfl⟩
theorem read_no (p nm : Value) (a n : Int) (w : World) (h : NoDisk w p) : Calls Try.prog 35 #[p, nm, .int .i64 a, .int .i64 n] w fun e w' => e = .returned (.tuple #[.slice none 0 0, .int .i64 2]) ∧ w = w' := by
  have H := Lib.hid h
  clear h
  by_cases h1 : a < 0
  · go_enter Try.func35, Try.ntmps35
    go_wp2_with fail
    refine (missing_no _ _ _ w H.out).mono ?_
    rintro e w' ⟨rfl, rfl⟩
    go_wp2
    go_ret2
    exact ⟨rfl, rfl⟩
  · by_cases h2 : n < 0
    · go_enter Try.func35, Try.ntmps35
      go_wp2_with fail
      refine (missing_no _ _ _ w H.out).mono ?_
      rintro e w' ⟨rfl, rfl⟩
      go_wp2
      go_ret2
      exact ⟨rfl, rfl⟩
    · go_enter Try.func35, Try.ntmps35
      go_wp2_with fail
      refine (missing_no _ _ _ w H.out).mono ?_
      rintro e w' ⟨rfl, rfl⟩
      go_wp2
      go_ret2
      exact ⟨rfl, rfl⟩
end Go.Proofs.Ytkmanpmaflpgoaa
