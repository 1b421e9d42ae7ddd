/-
  WHAT IS PROVED: a reader: parts that are taken off bytes, one by one; refused ones leave nothing.
-/
import Derived.Test.YtjjfmmimmfihgabGreatDoorRowI
namespace Go.Proofs.YtjjfmmimmfihgabGreatDoor
open Go.RowKit Go.Lib
set_option linter.unusedVariables false

/-- all but block R stands as it did -/
structure Skips (R : Nat) (w w' : World) : Prop where
  os : w'.os = w.os
  tape : w'.tape = w.tape
  output : w'.output = w.output
  size : w.heap.size ≤ w'.heap.size
  block : ∀ k, k < w.heap.size → k ≠ R → w'.heap[k]? = w.heap[k]?
theorem Skips.refl (R : Nat) (w : World) : Skips R w w := ⟨rfl, rfl, rfl, Nat.le_refl _, fun _ _ _ => rfl⟩
theorem Skips.trans {R : Nat} {w1 w2 w3 : World} (h : Skips R w1 w2) (h' : Skips R w2 w3) : Skips R w1 w3 :=
  ⟨h'.os.trans h.os, h'.tape.trans h.tape, h'.output.trans h.output, Nat.le_trans h.size h'.size, fun k hk hn => (h'.block k (Nat.lt_of_lt_of_le hk h.size) hn).trans (h.block k hk hn)⟩
theorem Skips.of {R : Nat} {w w' : World} (h : Below w.heap.size w w') : Skips R w w' := ⟨h.os, h.tape, h.output, h.size, fun k hk _ => h.block k hk⟩
theorem Skips.set {R : Nat} {w w' : World} (h : Skips R w w') (j : Nat) (u : Value) : Skips R w (w'.setCell ⟨R, j, none⟩ u) :=
  h.trans ⟨rfl, rfl, rfl, by simp [World.setCell], fun k hk hn => Below.heap_setCell _ _ _ _ hn⟩
theorem Skips.below {B R : Nat} {w w' : World} (h : Skips R w w') (hs : B ≤ w.heap.size) (hR : B ≤ R) : Below B w w' := ⟨h.os, h.tape, h.output, h.size, fun k hk => h.block k (by omega) (by omega)⟩
theorem Skips.row {R : Nat} {w w' : World} {ao : Option Addr} {n cap : Nat} {l : List Nat} (h : Skips R w w') (hr : Row8 w ao n cap l) (hn : ∀ a, ao = some a → a.block ≠ R) : Row8 w' ao n cap l := by
  refine ⟨hr.len, hr.room, hr.most, hr.nil, fun a ha j hj => ?_, hr.byte⟩
  have h1 := hr.cell a ha j hj
  have hlt : (a.add j).block < w.heap.size := World.block_lt_of_cell? w _ h1
  have hb : (a.add j).block = a.block := by unfold Addr.add; split <;> rfl
  have h2 : w'.heap[(a.add j).block]? = w.heap[(a.add j).block]? := h.block _ hlt (by rw [hb]; exact hn a ha)
  rw [← h1]
  exact World.cell?_of_block (w := w) h2
/-- a reader at R before l -/
structure Rd (R : Nat) (l : List Nat) (rf : Bool) (ao : Option Addr) (n cap : Nat) (w : World) : Prop where
  at_ : w.heap[R]? = some (.cells #[.slice ao n cap, .bool rf] 129 (0, 0))
  row : Row8 w ao n cap l
  ne : ∀ a, ao = some a → a.block ≠ R
theorem Rd.lt {R : Nat} {l : List Nat} {rf : Bool} {ao : Option Addr} {n cap : Nat} {w : World} (h : Rd R l rf ao n cap w) : R < w.heap.size := lt_of_block h.at_
theorem Rd.kept {R : Nat} {l : List Nat} {rf : Bool} {ao : Option Addr} {n cap : Nat} {w w' : World} (h : Rd R l rf ao n cap w) (hb : Below w.heap.size w w') : Rd R l rf ao n cap w' :=
  ⟨(hb.block _ h.lt).trans h.at_, h.row.kept hb, h.ne⟩
/-- what is left of a reader that has refused -/
def Gone (R : Nat) (w : World) : Prop := w.heap[R]? = some (.cells #[.slice none 0 0, .bool true] 129 (0, 0))
theorem Gone.rd {R : Nat} {w : World} (h : Gone R w) : Rd R [] true none 0 0 w := ⟨h, row_nil w, fun _ h => by cases h⟩
theorem set_at {w : World} {R : Nat} {a b u : Value} {t : TypeId} (h : w.heap[R]? = some (.cells #[a, b] t (0, 0))) : (w.setCell ⟨R, 0, none⟩ u).heap[R]? = some (.cells #[u, b] t (0, 0)) := by
  simp only [World.setCell, Array.getElem?_modify, if_pos]
  rw [h]; rfl
theorem set_at1 {w : World} {R : Nat} {a b u : Value} {t : TypeId} (h : w.heap[R]? = some (.cells #[a, b] t (0, 0))) : (w.setCell ⟨R, 1, none⟩ u).heap[R]? = some (.cells #[a, u] t (0, 0)) := by
  simp only [World.setCell, Array.getElem?_modify, if_pos]
  rw [h]; rfl
def Idle (w : World) (e : Ending) (w' : World) : Prop := e = .returned (.tuple #[]) ∧ w' = w
def Refused (R : Nat) (w : World) (e : Ending) (w' : World) : Prop := e = .returned (.tuple #[]) ∧ Gone R w' ∧ Skips R w w'
theorem need_yes (R : Nat) (w : World) :
    Calls Tryz.prog 83 #[.pointer (some ⟨R, 0, none⟩), .bool true] w (Idle w) := by
  go_enter Tryz.func83, Tryz.ntmps83
  go_wp2
  exact bodyPost_ret (v := .tuple #[]) (by simp [results, go_sem]) rfl ⟨rfl, rfl⟩
theorem need_no (R : Nat) (l : List Nat) (rf : Bool) (ao : Option Addr) (n cap : Nat) (w : World) (h : Rd R l rf ao n cap w) :
    Calls Tryz.prog 83 #[.pointer (some ⟨R, 0, none⟩), .bool false] w (Refused R w) := by
  have H := Lib.hid h
  have s0 : w.cell? ⟨R, 0, none⟩ = some (.slice ao n cap) := cell_of_block h.at_ 0
  have s1 : w.cell? ⟨R, 1, none⟩ = some (.bool rf) := cell_of_block h.at_ 1
  have f0 : w.frozen? ⟨R, 0, none⟩ = false := free_of_block h.at_ 0
  have f1 : w.frozen? ⟨R, 1, none⟩ = false := free_of_block h.at_ 1
  have z0 := h.lt
  clear h
  go_enter Tryz.func83, Tryz.ntmps83
  go_wp2
  exact bodyPost_ret (v := .tuple #[]) (by simp [results, go_sem]) rfl ⟨rfl, set_at1 (set_at H.out.at_), ((Skips.refl R w).set 0 _).set 1 _⟩
theorem byteAt_some (ao : Option Addr) (n cap c : Nat) (l : List Nat) (w : World) (hr : Row8 w ao n cap (c :: l)) :
    Calls Tryz.prog 114 #[.slice ao n cap] w fun e w' => e = .returned (.tuple #[.int .u8 (c : Int), .int .i64 1, .int .i64 0]) ∧ Below w.heap.size w w' := by
  have hlen := hr.len
  have hroom := hr.room
  have hmost := hr.most
  have hpos : 0 < n := by simp at hlen; omega
  have g0 : ((n : Int) == 0) = false := by rw [beq_eq_false_iff_ne]; omega
  obtain ⟨b, off, rfl, hcell⟩ := hr.lies hpos
  have c0 : w.cell? ⟨b, off, none⟩ = some (.int .u8 (c : Int)) := hcell 0 c rfl
  have q0 : (0 : Int) < (n : Int) := by omega
  clear hr hcell hlen
  go_enter Tryz.func114, Tryz.ntmps114
  go_wp2
  go_ret3
  exact ⟨rfl, Below.refl _ _⟩
theorem byteAt_none (w : World) :
    Calls Tryz.prog 114 #[.slice none 0 0] w fun e w' => e = .returned (.tuple #[.int .u8 0, .int .i64 0, .int .i64 5]) ∧ Below w.heap.size w w' := by
  go_enter Tryz.func114, Tryz.ntmps114
  go_wp2
  go_ret3
  exact ⟨rfl, Below.refl _ _⟩
theorem Rd.put {R : Nat} {l m : List Nat} {rf : Bool} {ao ao' : Option Addr} {n cap n' cap' : Nat} {w : World} (h : Rd R l rf ao n cap w) (hr : Row8 w ao' n' cap' m) (hn : ∀ a, ao' = some a → a.block ≠ R) :
    Rd R m rf ao' n' cap' (w.setCell ⟨R, 0, none⟩ (.slice ao' n' cap')) :=
  ⟨set_at h.at_, ((Skips.refl R w).set 0 _).row hr hn, hn⟩
/-- k bytes taken off a slice, as Go's slicing says it -/
theorem Row8.cut {w : World} {b off n cap : Nat} {l : List Nat} (h : Row8 w (some ⟨b, off, none⟩) n cap l) (k : Nat) (hk : k ≤ n) :
    (k < cap → Row8 w (some ⟨b, off + k, none⟩) (n - k) (cap - k) (l.drop k)) ∧ (k = cap → Row8 w (some ⟨b, off, none⟩) (n - k) (cap - k) (l.drop k)) := by
  have h1 := h.len
  have h2 := h.room
  refine ⟨fun hc => h.from k hk hc, fun hc => ?_⟩
  have e : l.drop k = [] := List.drop_of_length_le (by omega)
  rw [e, show n - k = 0 by omega]
  exact Row8.empty (fun h => by cases h) (by have := h.most; omega)
set_option maxRecDepth 100000 in
set_option maxHeartbeats 4000000 in
theorem takeB_some (R : Nat) (c : Nat) (l : List Nat) (rf : Bool) (ao : Option Addr) (n cap : Nat) (w : World) (h : Rd R (c :: l) rf ao n cap w) :
    Calls Tryz.prog 113 #[.pointer (some ⟨R, 0, none⟩), .func (.func 114) #[] #[]] w fun e w' => e = .returned (.int .u8 (c : Int)) ∧ (∃ ao' n' cap', Rd R l rf ao' n' cap' w') ∧ Skips R w w' := by
  have H := Lib.hid h
  have hlen := h.row.len
  have hroom := h.row.room
  have hmost := h.row.most
  have hpos : 0 < n := by simp at hlen; omega
  obtain ⟨b, off, rfl, hcell⟩ := h.row.lies hpos
  have hnR := h.ne _ rfl
  have hcut := Lib.hid (h.row.cut 1 hpos)
  have s0 : w.cell? ⟨R, 0, none⟩ = some (.slice (some ⟨b, off, none⟩) n cap) := cell_of_block h.at_ 0
  clear h hcell hlen
  by_cases hc : cap = 1
  · subst hc
    obtain rfl : n = 1 := by omega
    go_enter Tryz.func113, Tryz.ntmps113
    go_wp2_with fail
    refine (byteAt_some _ _ _ c l w H.out.row).mono ?_
    rintro e w1 ⟨rfl, hb⟩
    have H1 := Lib.hid (H.out.kept hb)
    have HB1 := Lib.hid hb
    have HS1 : Hid (Skips R w w1) := Lib.hid (Skips.of hb)
    clear hb s0
    go_wp2_with fail
    refine (need_yes R w1).mono ?_
    rintro e w2 ⟨rfl, rfl⟩
    have s0 : w2.cell? ⟨R, 0, none⟩ = some (.slice (some ⟨b, off, none⟩) 1 1) := cell_of_block H1.out.at_ 0
    have f0 : w2.frozen? ⟨R, 0, none⟩ = false := free_of_block H1.out.at_ 0
    have z0 := H1.out.lt
    go_wp2
    all_goals first | (exfalso; omega) | skip
    all_goals go_ret
    all_goals exact ⟨rfl, ⟨_, _, _, H1.out.put ((hcut.out.2 (by trivial)).kept HB1.out) (fun a ha => by cases ha; exact hnR)⟩, HS1.out.set 0 _⟩
  · have q1 : (1 : Int) ≤ (n : Int) := by omega
    have q2 : (n : Int) ≤ (cap : Int) := by omega
    have q4 : 1 < cap := by omega
    go_enter Tryz.func113, Tryz.ntmps113
    go_wp2_with fail
    refine (byteAt_some _ _ _ c l w H.out.row).mono ?_
    rintro e w1 ⟨rfl, hb⟩
    have H1 := Lib.hid (H.out.kept hb)
    have HB1 := Lib.hid hb
    have HS1 : Hid (Skips R w w1) := Lib.hid (Skips.of hb)
    clear hb s0
    go_wp2_with fail
    refine (need_yes R w1).mono ?_
    rintro e w2 ⟨rfl, rfl⟩
    have s0 : w2.cell? ⟨R, 0, none⟩ = some (.slice (some ⟨b, off, none⟩) n cap) := cell_of_block H1.out.at_ 0
    have f0 : w2.frozen? ⟨R, 0, none⟩ = false := free_of_block H1.out.at_ 0
    have z0 := H1.out.lt
    go_wp2
    all_goals first | (exfalso; omega) | skip
    all_goals go_ret
    all_goals exact ⟨rfl, ⟨_, _, _, H1.out.put ((hcut.out.1 q4).kept HB1.out) (fun a ha => by cases ha; exact hnR)⟩, HS1.out.set 0 _⟩
set_option maxRecDepth 100000 in
set_option maxHeartbeats 4000000 in
theorem takeU_one (R : Nat) (l : List Nat) (v : Nat) (rf : Bool) (ao : Option Addr) (n cap : Nat) (w : World) (h : Rd R l rf ao n cap w) (hg : getL l = (v, 1, 0)) (hl : 0 < l.length) :
    Calls Tryz.prog 111 #[.pointer (some ⟨R, 0, none⟩), .func (.func 112) #[] #[]] w fun e w' => e = .returned (.int .u64 (v : Int)) ∧ (∃ ao' n' cap', Rd R (l.drop 1) rf ao' n' cap' w') ∧ Skips R w w' := by
  have H := Lib.hid h
  have hlen := h.row.len
  have hroom := h.row.room
  have hmost := h.row.most
  have hpos : 0 < n := by omega
  clear hl
  obtain ⟨b, off, rfl, hcell⟩ := h.row.lies hpos
  have hnR := h.ne _ rfl
  have hcut := Lib.hid (h.row.cut 1 hpos)
  have s0 : w.cell? ⟨R, 0, none⟩ = some (.slice (some ⟨b, off, none⟩) n cap) := cell_of_block h.at_ 0
  clear h hcell hlen
  by_cases hc : cap = 1
  · subst hc
    obtain rfl : n = 1 := by omega
    go_enter Tryz.func111, Tryz.ntmps111
    go_wp2_with fail
    refine (get_at _ _ _ l w H.out.row v 1 0 hg).mono ?_
    rintro e w1 ⟨rfl, hb⟩
    have H1 := Lib.hid (H.out.kept hb)
    have HB1 := Lib.hid hb
    have HS1 : Hid (Skips R w w1) := Lib.hid (Skips.of hb)
    clear hb s0
    go_wp2_with fail
    refine (need_yes R w1).mono ?_
    rintro e w2 ⟨rfl, rfl⟩
    have s0 : w2.cell? ⟨R, 0, none⟩ = some (.slice (some ⟨b, off, none⟩) 1 1) := cell_of_block H1.out.at_ 0
    have f0 : w2.frozen? ⟨R, 0, none⟩ = false := free_of_block H1.out.at_ 0
    have z0 := H1.out.lt
    go_wp2
    all_goals first | (exfalso; omega) | skip
    all_goals go_ret
    all_goals exact ⟨rfl, ⟨_, _, _, H1.out.put ((hcut.out.2 (by trivial)).kept HB1.out) (fun a ha => by cases ha; exact hnR)⟩, HS1.out.set 0 _⟩
  · have q1 : (1 : Int) ≤ (n : Int) := by omega
    have q2 : (n : Int) ≤ (cap : Int) := by omega
    have q4 : 1 < cap := by omega
    go_enter Tryz.func111, Tryz.ntmps111
    go_wp2_with fail
    refine (get_at _ _ _ l w H.out.row v 1 0 hg).mono ?_
    rintro e w1 ⟨rfl, hb⟩
    have H1 := Lib.hid (H.out.kept hb)
    have HB1 := Lib.hid hb
    have HS1 : Hid (Skips R w w1) := Lib.hid (Skips.of hb)
    clear hb s0
    go_wp2_with fail
    refine (need_yes R w1).mono ?_
    rintro e w2 ⟨rfl, rfl⟩
    have s0 : w2.cell? ⟨R, 0, none⟩ = some (.slice (some ⟨b, off, none⟩) n cap) := cell_of_block H1.out.at_ 0
    have f0 : w2.frozen? ⟨R, 0, none⟩ = false := free_of_block H1.out.at_ 0
    have z0 := H1.out.lt
    go_wp2
    all_goals first | (exfalso; omega) | skip
    all_goals go_ret
    all_goals exact ⟨rfl, ⟨_, _, _, H1.out.put ((hcut.out.1 q4).kept HB1.out) (fun a ha => by cases ha; exact hnR)⟩, HS1.out.set 0 _⟩
end Go.Proofs.YtjjfmmimmfihgabGreatDoor
