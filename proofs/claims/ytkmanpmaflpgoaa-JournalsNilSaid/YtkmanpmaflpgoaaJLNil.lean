/-
  WHAT IS PROVED: the walk of JournalsNil.
-/
import Derived.Test.YtkmanpmaflpgoaaNil
import Derived.Test.YtkmanpmaflpgoaaJHelp
namespace Go.Proofs.Ytkmanpmaflpgoaa
open Go.RowKit Go.Lib

theorem contents_no (p nm : Value) (w : World) (h : NoDisk w p) : Calls Try.prog 24 #[p, nm] w fun e w' => e = .returned (.tuple #[.slice none 0 0, .int .i64 2]) ∧ w = w' := by
  have H := Lib.hid h
  clear h
  go_enter Try.func24, Try.ntmps24
  go_wp2_with fail
  refine (size_no _ _ w H.out).mono ?_
  rintro e w' ⟨rfl, rfl⟩
  go_wp2
  go_ret2
  exact ⟨rfl, rfl⟩
theorem open_no (p nm : Value) (w : World) (h : NoDisk w p) : Calls Try.prog 9 #[p, nm] w fun e w' => e = .returned (.tuple #[.pointer none, .slice none 0 0, .int .i64 2]) ∧ w = w' := by
  have H := Lib.hid h
  clear h
  go_enter Try.func9, Try.ntmps9
  go_wp2_with fail
  refine (contents_no _ _ w H.out).mono ?_
  rintro e w' ⟨rfl, rfl⟩
  go_wp2
  go_ret3
  exact ⟨rfl, rfl⟩

set_option maxRecDepth 100000 in
set_option maxHeartbeats 4000000 in
theorem walk_JournalsNil (ao : Option Addr) (n cap : Nat) (l : List Nat) {w : World} (_ : Row8 w ao n cap l) (nm : ByteArray) (_ : nm.size ≤ reachBytes) :
    Calls Try.prog 3 #[.slice ao n cap, .string nm] w fun e w' => e = .returned (.bool true) ∧ Below w.heap.size w w' := by
  obtain ⟨W, hW⟩ : ∃ W, W = (((w.alloc (.cells #[.pointer none, .string ⟨#[]⟩, .int .i64 0] 25)).alloc (.cells #[.int .i64 0, .slice none 0 0, .slice none 0 0] 29)).alloc (.cells #[.pointer none, .pointer (some ⟨w.heap.size, 0, none⟩)] 30)).alloc (.cells #[.pointer none, .pointer (some ⟨w.heap.size + 1, 0, none⟩)] 23) := ⟨_, rfl⟩
  have hJ : W.heap[w.heap.size]? = some (.cells #[.pointer none, .string ⟨#[]⟩, .int .i64 0] 25 (0, 0)) := by
    rw [hW, Below.heap_alloc _ _ _ (by simp; omega), Below.heap_alloc _ _ _ (by simp; omega), Below.heap_alloc _ _ _ (by simp)]
    exact heap_alloc_new w _
  have hD : W.heap[w.heap.size + 1]? = some (.cells #[.int .i64 0, .slice none 0 0, .slice none 0 0] 29 (0, 0)) := by
    rw [hW, Below.heap_alloc _ _ _ (by simp), Below.heap_alloc _ _ _ (by simp)]
    have := heap_alloc_new (w.alloc (.cells #[.pointer none, .string ⟨#[]⟩, .int .i64 0] 25)) (.cells #[.int .i64 0, .slice none 0 0, .slice none 0 0] 29)
    rwa [World.size_alloc] at this
  have hl0 : W.heap[w.heap.size + 2]? = some (.cells #[.pointer none, .pointer (some ⟨w.heap.size, 0, none⟩)] 30 (0, 0)) := by
    rw [hW, Below.heap_alloc _ _ _ (by simp)]
    have := heap_alloc_new ((w.alloc (.cells #[.pointer none, .string ⟨#[]⟩, .int .i64 0] 25)).alloc (.cells #[.int .i64 0, .slice none 0 0, .slice none 0 0] 29)) (.cells #[.pointer none, .pointer (some ⟨w.heap.size, 0, none⟩)] 30)
    rwa [World.size_alloc, World.size_alloc] at this
  have hd0 : W.heap[w.heap.size + 3]? = some (.cells #[.pointer none, .pointer (some ⟨w.heap.size + 1, 0, none⟩)] 23 (0, 0)) := by
    rw [hW]
    have := heap_alloc_new (((w.alloc (.cells #[.pointer none, .string ⟨#[]⟩, .int .i64 0] 25)).alloc (.cells #[.int .i64 0, .slice none 0 0, .slice none 0 0] 29)).alloc (.cells #[.pointer none, .pointer (some ⟨w.heap.size, 0, none⟩)] 30)) (.cells #[.pointer none, .pointer (some ⟨w.heap.size + 1, 0, none⟩)] 23)
    rwa [World.size_alloc, World.size_alloc, World.size_alloc] at this
  have hB : Hid (Below w.heap.size w W) := by show Below _ _ _; rw [hW]; exact below_step_a (below_step_a (below_step_a (below_alloc w _) _) _) _
  have l0 := cell_of_block hl0 0
  have l1 := cell_of_block hl0 1
  have k0 := cell_of_block hd0 0
  have k1 := cell_of_block hd0 1
  simp only [List.getElem?_toArray, List.getElem?_cons_zero, List.getElem?_cons_succ] at l0 l1 k0 k1
  clear hl0 hd0
  go_enter Try.func3, Try.ntmps3
  go_wp2
  rw [← hW]
  clear hW
  refine wp_loop_rounds 3 ?_
  rw [rounds_succ]
  go_wp2_with fail
  refine (open_no _ _ _ (.inl rfl)).mono ?_
  rintro e w' ⟨rfl, rfl⟩
  go_wp2_with fail
  refine (add_nil _ _).mono ?_
  rintro e w' ⟨rfl, rfl⟩
  go_wp2_with fail
  refine (jsync_nil _).mono ?_
  rintro e w' ⟨rfl, rfl⟩
  go_wp2
  rw [rounds_succ]
  go_wp2_with fail
  refine (open_no _ _ _ (.inr ⟨_, rfl, cell_of_block hD 0⟩)).mono ?_
  rintro e w' ⟨rfl, rfl⟩
  go_wp2_with fail
  refine (add_zero _ _ _ (cell_of_block hJ 0)).mono ?_
  rintro e w' ⟨rfl, rfl⟩
  go_wp2_with fail
  refine (jsync_zero _ _ (cell_of_block hJ 0)).mono ?_
  rintro e w' ⟨rfl, rfl⟩
  go_wp2
  rw [rounds_succ]
  go_wp2
  go_ret
  exact ⟨rfl, hB.out⟩
end Go.Proofs.Ytkmanpmaflpgoaa
