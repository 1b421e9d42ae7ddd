/-
  WHAT IS PROVED: plain facts on a disk with journals' files; slices of noughts; the chapter's answers, as the statements ask them (alive).
-/
import Derived.Test.YtkmanpmaflpgoaaJHelp
namespace Go.Proofs.Ytkmanpmaflpgoaa
open Go.RowKit Go.Lib

theorem append_eq (M : DiskM) (nm : ByteArray) (b : List Nat) (i : Nat) (f : FileM) (hm : M.miss nm = 0) (ho : M.of nm = i) (hf : M.file i = f) (hl : b.length ≤ M.left) (h20 : f.bytes.length + b.length ≤ 1048576) :
    M.appendE nm b.length = 0 ∧ M.appendM nm b = { M with files := M.files.set i { f with bytes := f.bytes ++ b } } := by
  have hE : M.appendE nm b.length = 0 := by
    unfold DiskM.appendE
    rw [if_pos hm, ho, hf, if_neg (by omega)]
  exact ⟨hE, by unfold DiskM.appendM; rw [hE, if_pos rfl, ho, hf]⟩

theorem add_eq (M : DiskM) (nm : ByteArray) (r : List Nat) (i : Nat) (f : FileM) (hm : M.miss nm = 0) (ho : M.of nm = i) (hf : M.file i = f) (hr : r.length ≤ 65536) (hl : (writtenB r f.bytes.length).length ≤ M.left) (h20 : f.bytes.length + (writtenB r f.bytes.length).length ≤ 1048576) :
    M.addE nm f.bytes.length r = 0 ∧ M.addM nm f.bytes.length r = { M with files := M.files.set i { f with bytes := f.bytes ++ writtenB r f.bytes.length } } ∧ M.addS nm f.bytes.length r = f.bytes.length + (writtenB r f.bytes.length).length := by
  obtain ⟨h1, h2⟩ := append_eq M nm (writtenB r f.bytes.length) i f hm ho hf hl h20
  have hs : M.sizeN nm = f.bytes.length := by unfold DiskM.sizeN; rw [if_pos hm, ho, hf]
  have hE : M.addE nm f.bytes.length r = 0 := by
    unfold DiskM.addE
    rw [if_neg (by omega), if_neg (by simp [hm]), if_neg (by simp [hs]), h1]
  refine ⟨hE, ?_, ?_⟩
  · unfold DiskM.addM; rw [if_pos hE, h2]
  · unfold DiskM.addS; rw [if_pos hE]

theorem jM_all (n : Nat) (b : List Nat) (s : Nat) : (jM n b s).all nJ = b := by kernel_rfl
theorem jM_miss (n : Nat) (b : List Nat) (s : Nat) : (jM n b s).miss nJ = 0 := by kernel_rfl
theorem jM_size (n : Nat) (b : List Nat) (s : Nat) : (jM n b s).sizeN nJ = b.length := by kernel_rfl
theorem jM_sync (n : Nat) (b : List Nat) (s : Nat) : (jM n b s).syncM nJ = jM n b b.length := by kernel_rfl
theorem jM_left (n : Nat) (b : List Nat) (s : Nat) : (jM n b s).left = n - b.length := by
  show n - (b.length + 0) = _
  rfl
theorem jM_append (n : Nat) (b c : List Nat) (s : Nat) (h : b.length + c.length ≤ n) (h2 : b.length + c.length ≤ 1048576) : (jM n b s).appendE nJ c.length = 0 ∧ (jM n b s).appendM nJ c = jM n (b ++ c) s :=
  append_eq (jM n b s) nJ c 0 ⟨b, s⟩ (by kernel_rfl) (by kernel_rfl) rfl (by rw [jM_left]; omega) h2
theorem jM_add (n : Nat) (l : List (List Nat)) (s : Nat) (r : List Nat) (hr : r.length ≤ 65536) (h : (allB 0 (l ++ [r])).length ≤ n) (h2 : (allB 0 (l ++ [r])).length ≤ 1048576) :
    (jM n (allB 0 l) s).addE nJ (allB 0 l).length r = 0 ∧ (jM n (allB 0 l) s).addM nJ (allB 0 l).length r = jM n (allB 0 (l ++ [r])) s ∧ (jM n (allB 0 l) s).addS nJ (allB 0 l).length r = (allB 0 (l ++ [r])).length := by
  rw [allB_snoc, Nat.zero_add, List.length_append] at h h2
  obtain ⟨h3, h4, h5⟩ := add_eq (jM n (allB 0 l) s) nJ r 0 ⟨allB 0 l, s⟩ (by kernel_rfl) (by kernel_rfl) rfl hr (by rw [jM_left]; simp only; omega) h2
  refine ⟨h3, ?_, ?_⟩
  · rw [allB_snoc, Nat.zero_add]; exact h4
  · rw [allB_snoc, Nat.zero_add, List.length_append]; exact h5
theorem jM_large (n : Nat) (b : List Nat) (s stop : Nat) (r : List Nat) (hr : 65536 < r.length) :
    (jM n b s).addE nJ stop r = 3 ∧ (jM n b s).addM nJ stop r = jM n b s ∧ (jM n b s).addS nJ stop r = stop := by
  have hE : (jM n b s).addE nJ stop r = 3 := by unfold DiskM.addE; rw [if_pos hr]
  refine ⟨hE, ?_, ?_⟩
  · unfold DiskM.addM; rw [hE]; rfl
  · unfold DiskM.addS; rw [hE]; rfl
theorem jM_stale (n : Nat) (b : List Nat) (s stop : Nat) (r : List Nat) (hr : r.length ≤ 65536) (h : b.length ≠ stop) :
    (jM n b s).addE nJ stop r = 9 ∧ (jM n b s).addM nJ stop r = jM n b s ∧ (jM n b s).addS nJ stop r = stop := by
  have hE : (jM n b s).addE nJ stop r = 9 := by unfold DiskM.addE; rw [if_neg (by omega), if_neg (by rw [jM_miss]; simp), if_pos (by rw [jM_size]; exact h)]
  refine ⟨hE, ?_, ?_⟩
  · unfold DiskM.addM; rw [hE]; rfl
  · unfold DiskM.addS; rw [hE]; rfl

/-- noughts as cells -/
def zeros8 (n : Nat) : Array Value := (cells8 (List.replicate n 0)).toArray
theorem run_make8 (n : Nat) (hn : n ≤ 140737488355328) (W : World) : (Instr.makeSlice 22 (.int .i64 (n : Int)) (.int .i64 (n : Int))).run Try.prog W = .ok (.slice (some ⟨W.heap.size, 0, none⟩) n n) (W.alloc (.cells (zeros8 n) 5)) := by
  obtain ⟨i0, hi, hz0, hz1, hz2⟩ := info_parts Try.info8
  have hmc : madeCells (Value.int .u8 0).cells (n * 1) = zeros8 n := by
    unfold zeros8
    rw [Nat.mul_one]
    apply Array.ext
    · simp [madeCells, cells8]
    · intro i h1 h2
      simp [madeCells, cells8, Nat.mod_one, Value.cells]
  have := run_make (P := Try.prog) W 22 5 i0 (.int .u8 0) Try.underlying22 hi hz0 .i64 .i64 (n : Int) (n : Int) (by omega) (by omega) (by rw [hz2]; omega) (by omega)
  rw [Int.toNat_natCast, hz1, hmc] at this
  exact this
theorem row_zeros (w : World) (n B : Nat) (fr : Nat × Nat) (hB : w.heap.size = B) (h : n ≤ 140737488355328) : Row8 (w.alloc (.cells (zeros8 n) 5 fr)) (some ⟨B, 0, none⟩) n n (List.replicate n 0) := by
  subst hB
  refine ⟨List.length_replicate, Nat.le_refl _, by omega, fun h => by simp at h, fun a ha j hj => ?_, fun x hx => by have := List.eq_of_mem_replicate hx; omega⟩
  obtain rfl := Option.some.inj ha
  have hadd : (⟨w.heap.size, 0, none⟩ : Addr).add j = ⟨w.heap.size, j, none⟩ := by unfold Addr.add; split <;> simp_all
  have hnew := heap_alloc_new w (.cells (zeros8 n) 5 fr)
  rw [hadd]
  refine (cell_of_row _ w.heap.size j _ _ _ hnew).trans ?_
  unfold zeros8
  rw [List.getElem?_toArray]
  exact cells8_getElem? _ j (by rw [List.length_replicate]; exact hj)

/-- two slices that are written out: a new block -/
theorem rowR_two (w : World) (r : List Nat) (a : Option Addr) (c : Nat) (fr : Nat × Nat) (B : Nat) (hB : w.heap.size = B) (hr : Row8 w a r.length c r) :
    RowR (w.alloc (.cells #[.slice none 0 0, .slice a r.length c] 22 fr)) (some ⟨B, 0, none⟩) 2 2 [[], r] := by
  subst hB
  refine ⟨rfl, Nat.le_refl _, by omega, fun h => by simp at h, fun x hx j y hy => ?_⟩
  obtain rfl := Option.some.inj hx
  have hnew := heap_alloc_new w (.cells #[.slice none 0 0, .slice a r.length c] 22 fr)
  have hadd : (⟨w.heap.size, 0, none⟩ : Addr).add j = ⟨w.heap.size, j, none⟩ := by unfold Addr.add; split <;> simp_all
  rw [hadd]
  match j, hy with
  | 0, hy => simp at hy; subst hy; exact ⟨none, 0, cell_of_row _ w.heap.size 0 _ _ _ hnew, row_nil _⟩
  | 1, hy => simp at hy; subst hy; exact ⟨a, c, cell_of_row _ w.heap.size 1 _ _ _ hnew, hr.alloc _⟩
  | j + 2, hy => simp at hy

/-! ### alive -/
def alA : List (List Nat) := [[], [97]]
def alZ : List Nat := List.replicate 200 0
theorem alZ_len : alZ.length = 200 := List.length_replicate
def alB : List (List Nat) := alA ++ [alZ]

theorem room_at (a k : Nat) (h : a % 128 = k) : roomN a = 128 - k := by unfold roomN; rw [h]
theorem al_1 : (allB 0 [[]]).length = 7 := by
  show (writtenB [] 0 ++ []).length = 7
  have e : startN 0 = 0 := rfl
  unfold writtenB
  rw [e, partsB_last true (by show 0 ≤ _; omega), List.append_nil, List.length_append, partB_length]; rfl
theorem al_2 : (allB 0 alA).length = 15 := by
  show (allB 0 ([[]] ++ [[97]])).length = 15
  rw [allB_snoc, List.length_append, al_1]
  unfold writtenB
  have e : startN 7 = 7 := rfl
  rw [e, partsB_last true (by show 1 ≤ 121 - 7; omega), List.length_append, partB_length]; rfl
theorem al_3 : (allB 0 alB).length = 229 := by
  unfold alB
  rw [allB_snoc, List.length_append, al_2]
  have hz := alZ_len
  generalize alZ = z at *
  unfold writtenB
  have e : startN (0 + 15) = 15 := by decide
  have e2 : roomN 15 = 113 := by decide
  have e3 : roomN (15 + 113) = 128 := by decide
  rw [e, partsB_more true (by rw [e2]; omega) (by rw [e2]; omega), e2, partsB_last false (by rw [e3, List.length_drop]; omega), List.length_append, List.length_append, partB_length, partB_length, List.length_take, List.length_drop, List.length_replicate]
  omega
/-- what is read where something else stands behind the records -/
theorem read_tail (l : List (List Nat)) (q : List Nat) (hl : l ≠ []) (h : (allB 0 l ++ q).length < startN (allB 0 l).length + 7) : (readM (allB 0 l ++ q)).recs = l ∧ (readM (allB 0 l ++ q)).stop = (allB 0 l).length := by
  obtain ⟨e, h1, h2, h3⟩ := recs_read l [] q ⟨[], 0, [], false⟩ rfl rfl
  have hs : startN ([] : List Nat).length = 0 := rfl
  rw [hs] at h3
  simp only [List.nil_append, List.length_nil, Nat.zero_add] at h3 h1
  rw [partsFrom_no (part_end h)] at h3
  unfold readM
  rw [h3, readL]
  exact ⟨rfl, h1 hl⟩
end Go.Proofs.Ytkmanpmaflpgoaa
