/-
  WHAT IS PROVED: contracts: bytes.Clone, slices.Clone of a directory, strings.Clone; a directory with an entry, and without one.
-/
import Derived.Test.YtkmanpmaflpgoaaDelete
import Derived.Test.YtkmanpmaflpgoaaDiskC
import Derived.Lib.LazyBuf
import Derived.Lib.UnsafeStr
import Derived.Lib.BufferWrite
import Derived.Lib.Strings
import Derived.Lib.Walk
namespace Go.Proofs.Ytkmanpmaflpgoaa
open Go.RowKit Go.Lib

/-- bytes in new memory -/
def Bytes8 (l : List Nat) (w : World) (e : Ending) (w' : World) : Prop :=
  ∃ v', e = .returned v' ∧ w'.ownsRow w.heap.size 5 1 v' l.length (cells8 l) ∧ Below w.heap.size w w'

theorem below_of_own {w w' : World} {v : Value} {base e size n : Nat} {xs : List Value} (hg : w.grownBy w' v.ownBlock) (hown : w.ownsRow base e size v n xs) (hB : base ≤ w.heap.size) : Below base w w' :=
  (Below.refl base w).grown hg hB (fun k hk => (hown.lt k hk).1)

set_option maxRecDepth 100000 in
set_option maxHeartbeats 1000000 in
theorem bytesClone_any (ao : Option Addr) (n cap : Nat) (l : List Nat) (w : World) (hr : Row8 w ao n cap l) (hn : n ≤ 4294967296) :
    Calls Try.prog 48 #[.slice ao n cap] w (Bytes8 l w) := by
  have HR := Lib.hid hr
  have hlen := Lib.hid hr.len
  have hroom := hr.room
  have hnil := hr.nil
  clear hr
  cases ao with
  | none =>
    obtain rfl : cap = 0 := hnil rfl
    obtain rfl : n = 0 := by omega
    have h0 : l = [] := List.eq_nil_of_length_eq_zero hlen.out
    subst h0
    clear hnil
    have hq := fun (w : World) (a : Option Addr) (l c : Nat) => _root_.Go.run_eql_slice_nil (P := Try.prog) w 22 5 a l c Try.underlying22
    go_enter Try.func48, Try.ntmps48
    go_wp2
    go_ret
    exact ⟨_, rfl, World.ownsRow_nil _ _ _ _, Below.refl _ _⟩
  | some ad =>
    clear hnil
    have h0 : (w.alloc (.cells #[] 5)).ownsRow w.heap.size 5 1 (.slice (some ⟨w.heap.size, 0, none⟩) 0 0) 0 (cells8 []) := World.ownsRow_made w #[] 0 (Nat.le_refl _) (by simp) rfl
    have H0 := Lib.hid h0
    clear h0
    have hq := fun (w : World) (a : Option Addr) (l c : Nat) => _root_.Go.run_eql_slice_nil (P := Try.prog) w 22 5 a l c Try.underlying22
    go_enter Try.func48, Try.ntmps48
    go_wp2_with (at_builtin; refine wpList_append_row rfl _ _ rfl w.heap.size _ 0 [] rfl H0.out _ _ _ l rfl (HR.out.alloc _) (by omega) (by simp) ?_)
    intro v' w' h2 h3
    have hb : Below w.heap.size w w' := (below_alloc w _).trans (below_of_own h3 H0.out (by simp))
    rw [← hlen.out] at h2
    have H2 := Lib.hid h2
    clear h2 h3
    go_wp2
    go_ret
    exact ⟨v', rfl, H2.out, hb⟩

/-- entries in new memory -/
def Ents (fb : List Nat) (l : Dir) (w : World) (e : Ending) (w' : World) : Prop :=
  ∃ v', e = .returned v' ∧ w'.ownsRow w.heap.size 72 2 v' l.length (ents fb l) ∧ Below w.heap.size w w'

theorem RowE.cells {w : World} {fb : List Nat} {g : Nat} {l : Dir} (h : ∀ (k : Nat) (e : ByteArray × Nat), l[k]? = some e → w.cell? ⟨g, k * 2, none⟩ = some (.string e.1) ∧ w.cell? ⟨g, k * 2 + 1, none⟩ = some (.pointer (some ⟨fb.getD e.2 0, 0, none⟩))) :
    ∀ j u, (ents fb l)[j]? = some u → w.cell? ⟨g, j, none⟩ = some u := by
  intro j u hu
  have hj := (List.getElem?_eq_some_iff.1 hu).1
  rw [ents_length] at hj
  have hk : j / 2 < l.length := by omega
  obtain ⟨h1, h2⟩ := h (j / 2) l[j / 2] (by simp)
  obtain ⟨h3, h4⟩ := ents_get fb l (j / 2) l[j / 2] (by simp)
  rcases Nat.mod_two_eq_zero_or_one j with hm | hm
  · have e : j / 2 * 2 = j := by omega
    rw [e] at h1 h3
    rw [h1, ← h3, hu]
  · have e : j / 2 * 2 + 1 = j := by omega
    rw [e] at h2 h4
    rw [h2, ← h4, hu]

set_option maxRecDepth 100000 in
set_option maxHeartbeats 1000000 in
theorem clone_any (fb : List Nat) (v : Value) (l : Dir) (w : World) (hE : RowE w fb v l) (hl : l.length ≤ 1000) :
    Calls Try.prog 34 #[v] w (Ents fb l w) := by
  obtain ⟨ao, cap, rfl, h1, h2, h3⟩ := hE
  rcases h3 with ⟨rfl, rfl⟩ | ⟨g, rfl, hc⟩
  · have h0 : l = [] := List.eq_nil_of_length_eq_zero (by omega)
    subst h0
    have hq := fun (w : World) (a : Option Addr) (l c : Nat) => _root_.Go.run_eql_slice_nil (P := Try.prog) w 27 72 a l c u26
    go_enter Try.func34, Try.ntmps34
    go_wp2
    go_ret
    exact ⟨_, rfl, World.ownsRow_nil _ _ _ _, Below.refl _ _⟩
  · have hcell : ∀ j u, (ents fb l)[j]? = some u → (w.alloc (.cells #[] 72)).cell? ((⟨g, 0, none⟩ : Addr).add j) = some u := fun j u hu => by
      have := RowE.cells hc j u hu
      rw [Addr.add_lit, Nat.zero_add]
      exact ((below_alloc w _).cell (p := ⟨g, j, none⟩) (World.block_lt_of_cell? w _ this)).trans this
    have HC := Lib.hid hcell
    have h0 : (w.alloc (.cells #[] 72)).ownsRow w.heap.size 72 2 (.slice (some ⟨w.heap.size, 0, none⟩) 0 0) 0 [] := World.ownsRow_made w #[] 0 (Nat.le_refl _) (by simp) rfl
    have H0 := Lib.hid h0
    clear h0 hc hcell
    have hq := fun (w : World) (a : Option Addr) (l c : Nat) => _root_.Go.run_eql_slice_nil (P := Try.prog) w 27 72 a l c u26
    go_enter Try.func34, Try.ntmps34
    go_wp2_with (at_builtin; refine wpList_append_ents rfl _ _ _ _ rfl u26 u26 w.heap.size _ 0 [] rfl H0.out (some ⟨g, 0, none⟩) l.length cap (ents fb l) rfl (ents_length _ _) (fun h => by simp at h) (fun ad had => by obtain rfl := Option.some.inj had; exact HC.out) (ents_one _ _) (by omega) (by simp) ?_)
    intro v' w' h2 h3 _
    have hb : Below w.heap.size w w' := (below_alloc w _).trans (below_of_own h3 H0.out (by simp))
    have H2 := Lib.hid h2
    clear h2 h3
    go_wp2
    go_ret
    exact ⟨v', rfl, H2.out, hb⟩

theorem u22 : Try.prog.underlying 22 = some (.slice 5) := by kernel_rfl

set_option maxRecDepth 100000 in
set_option maxHeartbeats 1000000 in
/-- a string's bytes once more: the same string -/
theorem liteClone_any (s : ByteArray) (w : World) (hs : s.size ≤ 4294967296) : Calls Try.prog 42 #[.string s] w fun e w' => e = .returned (.string s) ∧ Below w.heap.size w w' := by
  rcases Nat.eq_zero_or_pos s.size with h0 | hpos
  · obtain rfl : s = ⟨#[]⟩ := ByteArray.ext (Array.eq_empty_of_size_eq_zero h0)
    go_enter Try.func42, Try.ntmps42
    go_wp2
    go_ret
    exact ⟨rfl, Below.refl _ _⟩
  · obtain ⟨i0, hi, hz0, hz1, hz2⟩ := info_parts Try.info8
    have hone : (Try.prog.info? 5).map (·.size) = some 1 := by kernel_rfl
    obtain ⟨m, hm⟩ : ∃ m, m = madeCells (Value.int .u8 0).cells (((s.size : Nat) : Int).toNat * i0.size) := ⟨_, rfl⟩
    have hms : m.size = s.size := by rw [hm, size_madeCells, hz1]; simp
    have hmake : ∀ W : World, (Instr.makeSlice 22 (.int .i64 (s.size : Int)) (.int .i64 (s.size : Int))).run Try.prog W = .ok (.slice (some ⟨W.heap.size, 0, none⟩) s.size s.size) (W.alloc (.cells m 5)) := fun W => by
      have := run_make (P := Try.prog) W 22 5 i0 (.int .u8 0) u22 hi hz0 .i64 .i64 (s.size : Int) (s.size : Int) (by omega) (by omega) (by rw [hz2]; omega) (by omega)
      rw [← hm] at this
      simpa using this
    obtain ⟨c, hc⟩ : ∃ c, c = (m.toList.take 0 ++ Lib.byteCells s.data.toList ++ m.toList.drop (0 + s.size)).toArray := ⟨_, rfl⟩
    have hcopy := Lib.run_copy_row_string (P := Try.prog) (w.alloc (.cells m 5)) 22 9 3 5 w.heap.size 0 s.size s.size s m 5 u22 hone (heap_alloc_new w _) (Nat.le_refl _) (by omega)
    rw [← hc] at hcopy
    have hcl : c.toList = Lib.byteCells s.data.toList := by
      rw [hc, List.toList_toArray, List.take_zero, List.nil_append, List.drop_of_length_le (by rw [Array.length_toList]; omega), List.append_nil]
    have hcs : c.size = s.size := by rw [← Array.length_toList, hcl, Lib.byteCells_length]; exact Array.length_toList
    have hg : ((w.alloc (.cells m 5)).setRow w.heap.size c).heap[w.heap.size]? = some (.cells c 5 (0, 0)) := setRow_heap _ _ m _ 5 (0, 0) (heap_alloc_new w _)
    have hne : s.data.toList ≠ [] := fun e => by
      have : s.data.toList.length = s.size := Array.length_toList
      rw [e] at this; simp at this; omega
    have hsl : s.data.toList.length = s.size := Array.length_toList
    have hstr := Lib.run_unsafeString_row (P := Try.prog) ((w.alloc (.cells m 5)).setRow w.heap.size c) 99 3 9 5 (by kernel_rfl) (by kernel_rfl) w.heap.size c.size (by unfold World.shape?; rw [hg]) s.data.toList hne (by rw [hsl]; omega) (by rw [hsl]; omega)
      (fun j x hx => by
        rw [Addr.add_lit, Nat.zero_add, cell_of_block hg, ← Array.getElem?_toList, hcl]
        simp [Lib.byteCells, hx])
    rw [hsl] at hstr
    clear hc hm
    go_enter Try.func42, Try.ntmps42
    go_wp2
    go_ret
    have b1 := below_alloc w (.cells m 5)
    have b2 : Below w.heap.size (w.alloc (.cells m 5)) ((w.alloc (.cells m 5)).setRow w.heap.size c) := ⟨rfl, rfl, rfl, by simp, fun k hk => setRow_other _ _ _ _ (by omega)⟩
    exact ⟨rfl, Lib.below_freeze (b1.trans b2) (p := ⟨w.heap.size, 0, none⟩) (Nat.le_refl _) _⟩

theorem strClone_any (s : ByteArray) (w : World) (hs : s.size ≤ 4294967296) : Calls Try.prog 26 #[.string s] w fun e w' => e = .returned (.string s) ∧ Below w.heap.size w w' := by
  go_enter Try.func26, Try.ntmps26
  go_wp2_with fail
  refine (liteClone_any s w hs).mono ?_
  rintro e w' ⟨rfl, hb⟩
  go_wp2
  go_ret
  exact ⟨rfl, hb⟩
end Go.Proofs.Ytkmanpmaflpgoaa
