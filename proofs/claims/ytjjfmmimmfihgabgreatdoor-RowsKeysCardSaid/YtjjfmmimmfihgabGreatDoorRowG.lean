/-
  WHAT IS PROVED: what a table looks like as bytes: PutTable, at a table that may be.
-/
import Derived.Test.YtjjfmmimmfihgabGreatDoorRowF
namespace Go.Proofs.YtjjfmmimmfihgabGreatDoor
open Go.RowKit Go.Lib
set_option linter.unusedVariables false

def markN (p q r : Bool) : Nat := (if p then 1 else 0) + (if q then 2 else 0) + (if r then 4 else 0)
theorem markN_lt (p q r : Bool) : markN p q r < 8 := by cases p <;> cases q <;> cases r <;> decide
set_option maxRecDepth 100000 in
set_option maxHeartbeats 4000000 in
theorem marks_any (s : ByteArray) (k : Nat) (p q r : Bool) (w : World) :
    Calls Tryz.prog 38 #[.agg #[.string s, .int .u8 (k : Int), .bool p, .bool q, .bool r]] w fun e w' => e = .returned (.int .u8 (markN p q r : Int)) ∧ Below w.heap.size w w' := by
  cases p <;> cases q <;> cases r
  all_goals go_enter Tryz.func38, Tryz.ntmps38
  all_goals go_wp2
  all_goals go_ret
  all_goals exact ⟨rfl, below_alloc _ _⟩
/-- where a closure finds its writer -/
def AtW (P B : Nat) (w : World) : Prop := w.heap[P]? = some (.cells #[.pointer (some ⟨B, 0, none⟩)] 68 (0, 0))
theorem AtW.kept {P B : Nat} {w w' : World} (h : AtW P B w) (hb : Below w.heap.size w w') : AtW P B w' := (hb.block _ (lt_of_block h)).trans h
theorem AtW.touch {base P B : Nat} {w w' : World} (h : AtW P B w) (ht : Touch base B w w') (hne : P ≠ B) : AtW P B w' := ht.rest _ _ h hne (notBytes_of (by decide))
def encC (x : ColM) : List Nat := (vb x.s.size ++ strN x.s) ++ [x.k, markN x.p x.q x.r]
def encI (x : IdxM) : List Nat := (vb x.s.size ++ strN x.s) ++ vb x.c.toNat
theorem keep_drew {w : World} {p : Addr} {v : Value} (h : w.cell? p = some v) : w.drew.cell? p = some v := h
theorem keep_alloc {w : World} {p : Addr} {v : Value} {o : Obj} (h : w.cell? p = some v) : (w.alloc o).cell? p = some v := ((below_alloc w o).cell (World.block_lt_of_cell? w p h)).trans h
set_option maxRecDepth 100000 in
set_option maxHeartbeats 8000000 in
theorem putCol_any (base B P : Nat) (l : List Nat) (v : Value) (s : ByteArray) (k : Nat) (p q r : Bool) (hs : s.size ≤ 16) (hk : k < 256) (w : World) (h : Wr base B l v w) (hP : AtW P B w) (hne : P ≠ B) (hroom : l.length + 100 ≤ 1099511627776) :
    Calls Tryz.prog 37 #[.agg #[.string s, .int .u8 (k : Int), .bool p, .bool q, .bool r], .pointer (some ⟨P, 0, none⟩)] w (Writes base B l (encC ⟨s, k, p, q, r⟩) w) := by
  have hv : (vb s.size).length ≤ 10 := vb_len64 (by omega)
  have hsl := strN_length s
  have hst : (vb s.size ++ strN s).length = (vb s.size).length + (strN s).length := by simp
  have hm8 := markN_lt p q r
  obtain ⟨w0, hW⟩ : ∃ w0, w0 = w.alloc (.cells #[.string s, .int .u8 (k : Int), .bool p, .bool q, .bool r] 56) := ⟨_, rfl⟩
  obtain ⟨bx, hbx⟩ : ∃ bx, bx = w.heap.size := ⟨_, rfl⟩
  have HX0 : Hid (w0.heap[bx]? = some (.cells #[.string s, .int .u8 (k : Int), .bool p, .bool q, .bool r] 56 (0, 0))) := Lib.hid (by rw [hW, hbx]; exact heap_alloc_new w _)
  have HP0 : Hid (AtW P B w0) := Lib.hid (by rw [hW]; exact hP.kept (below_alloc w _))
  have H0 : Hid (Wr base B l v w0) := Lib.hid (by rw [hW]; exact h.kept (below_alloc w _))
  have HT0 : Hid (Touch base B w w0) := Lib.hid (by rw [hW]; exact Touch.of (below_alloc w _) h.size)
  have hnx : bx ≠ B := by have := h.lt; omega
  have p0 : (w.alloc (.cells #[.string s, .int .u8 (k : Int), .bool p, .bool q, .bool r] 56)).cell? ⟨P, 0, none⟩ = some (.pointer (some ⟨B, 0, none⟩)) := keep_alloc (cell_of_block hP 0)
  clear h hP
  go_enter Tryz.func37, Tryz.ntmps37
  go_wp2_with fail
  rw [← hW, ← hbx]
  clear hW hbx p0
  refine (text_any base B l v s (by omega) w0 H0.out (by omega)).mono ?_
  rintro e w1 ⟨rfl, ht, v1, h1⟩
  have HT1 := Lib.hid (HT0.out.trans ht)
  have HX1 := Lib.hid (ht.rest _ _ HX0.out hnx (notBytes_of (by decide)))
  have HP1 := Lib.hid (HP0.out.touch ht hne)
  have H1 := Lib.hid h1
  clear ht h1 H0 HX0 HT0 HP0
  have p0 : w1.cell? ⟨P, 0, none⟩ = some (.pointer (some ⟨B, 0, none⟩)) := cell_of_block HP1.out 0
  have x0 : w1.cell? ⟨bx, 0, none⟩ = some (.string s) := cell_of_block HX1.out 0
  have x1 : w1.cell? ⟨bx, 1, none⟩ = some (.int .u8 (k : Int)) := cell_of_block HX1.out 1
  have x2 : w1.cell? ⟨bx, 2, none⟩ = some (.bool p) := cell_of_block HX1.out 2
  have x3 : w1.cell? ⟨bx, 3, none⟩ = some (.bool q) := cell_of_block HX1.out 3
  have x4 : w1.cell? ⟨bx, 4, none⟩ = some (.bool r) := cell_of_block HX1.out 4
  go_wp2_with fail
  go_region_held3 (fun x => x.cell? ⟨P, 0, none⟩ = some (.pointer (some ⟨B, 0, none⟩)) ∧ x.cell? ⟨bx, 0, none⟩ = some (.string s) ∧ x.cell? ⟨bx, 1, none⟩ = some (.int .u8 (k : Int)) ∧ x.cell? ⟨bx, 2, none⟩ = some (.bool p) ∧ x.cell? ⟨bx, 3, none⟩ = some (.bool q) ∧ x.cell? ⟨bx, 4, none⟩ = some (.bool r)) (first | with_reducible exact ⟨p0, x0, x1, x2, x3, x4⟩ | with_reducible exact ⟨keep_drew p0, keep_drew x0, keep_drew x1, keep_drew x2, keep_drew x3, keep_drew x4⟩ | with_reducible exact ⟨keep_drew (keep_alloc p0), keep_drew (keep_alloc x0), keep_drew (keep_alloc x1), keep_drew (keep_alloc x2), keep_drew (keep_alloc x3), keep_drew (keep_alloc x4)⟩ | with_reducible exact ⟨keep_alloc (keep_drew p0), keep_alloc (keep_drew x0), keep_alloc (keep_drew x1), keep_alloc (keep_drew x2), keep_alloc (keep_drew x3), keep_alloc (keep_drew x4)⟩ | with_reducible exact SS.out | with_reducible exact ⟨keep_alloc SS.out.1, keep_alloc SS.out.2.1, keep_alloc SS.out.2.2.1, keep_alloc SS.out.2.2.2.1, keep_alloc SS.out.2.2.2.2.1, keep_alloc SS.out.2.2.2.2.2⟩) ((first
    | (go_at_call 38; refine (marks_any s k p q r _).mono ?_; rintro e w2 ⟨rfl, hb⟩; have hb := below_drewB hb; have H2 := Lib.hid (H1.out.kept hb); have HT2 := Lib.hid (HT1.out.kept hb H1.out.size); have HX2 : Hid (w2.heap[bx]? = some (.cells #[.string s, .int .u8 (k : Int), .bool p, .bool q, .bool r] 56 (0, 0))) := Lib.hid ((hb.block _ (lt_of_block HX1.out)).trans HX1.out); have HP2 := Lib.hid (HP1.out.kept hb); have SS := Lib.hid (show (w2.cell? ⟨P, 0, none⟩ = some (.pointer (some ⟨B, 0, none⟩)) ∧ w2.cell? ⟨bx, 0, none⟩ = some (.string s) ∧ w2.cell? ⟨bx, 1, none⟩ = some (.int .u8 (k : Int)) ∧ w2.cell? ⟨bx, 2, none⟩ = some (.bool p) ∧ w2.cell? ⟨bx, 3, none⟩ = some (.bool q) ∧ w2.cell? ⟨bx, 4, none⟩ = some (.bool r)) from ⟨cell_of_block HP2.out 0, cell_of_block HX2.out 0, cell_of_block HX2.out 1, cell_of_block HX2.out 2, cell_of_block HX2.out 3, cell_of_block HX2.out 4⟩); clear hb)
    | (go_at_call 31; guard_hyp H2; refine (add_any base B _ [k, markN p q r] v1 (some ⟨w2.heap.size, 0, none⟩) 2 2 _ (H2.out.kept (below_alloc _ _)) (row_new w2 [k, markN p q r] 2 w2.heap.size (0, 0) rfl rfl (by intro y hy; simp at hy; omega) (by omega)) (by have e : (l ++ (vb s.size ++ strN s)).length = l.length + (vb s.size ++ strN s).length := List.length_append; omega)).mono ?_; rintro e w3 ⟨rfl, ht, v3, h3⟩; have H3 := Lib.hid h3; have HT3 := Lib.hid ((HT2.out.kept (below_alloc _ _) H2.out.size).trans ht); have HX3 : Hid (w3.heap[bx]? = some (.cells #[.string s, .int .u8 (k : Int), .bool p, .bool q, .bool r] 56 (0, 0))) := Lib.hid (ht.rest _ _ (((below_alloc w2 (.cells #[.int .u8 (k : Int), .int .u8 (markN p q r : Int)] 5)).block _ (lt_of_block HX2.out)).trans HX2.out) hnx (notBytes_of (by decide))); have HP3 := Lib.hid ((HP2.out.kept (below_alloc _ _)).touch ht hne); have SS := Lib.hid (show (w3.cell? ⟨P, 0, none⟩ = some (.pointer (some ⟨B, 0, none⟩)) ∧ w3.cell? ⟨bx, 0, none⟩ = some (.string s) ∧ w3.cell? ⟨bx, 1, none⟩ = some (.int .u8 (k : Int)) ∧ w3.cell? ⟨bx, 2, none⟩ = some (.bool p) ∧ w3.cell? ⟨bx, 3, none⟩ = some (.bool q) ∧ w3.cell? ⟨bx, 4, none⟩ = some (.bool r)) from ⟨cell_of_block HP3.out 0, cell_of_block HX3.out 0, cell_of_block HX3.out 1, cell_of_block HX3.out 2, cell_of_block HX3.out 3, cell_of_block HX3.out 4⟩); clear ht h3)))
  all_goals go_wp2
  all_goals (rw [List.append_assoc] at H3)
  all_goals exact bodyPost_ret (v := .tuple #[]) (by simp [results, go_sem]) rfl ⟨rfl, HT3.out, _, H3.out⟩
set_option maxRecDepth 100000 in
set_option maxHeartbeats 8000000 in
theorem putIdx_any (base B P : Nat) (l : List Nat) (v : Value) (s : ByteArray) (c : Nat) (hs : s.size ≤ 16) (hc : c < 9223372036854775808) (w : World) (h : Wr base B l v w) (hP : AtW P B w) (hne : P ≠ B) (hroom : l.length + 100 ≤ 1099511627776) :
    Calls Tryz.prog 40 #[.agg #[.string s, .int .i64 (c : Int)], .pointer (some ⟨P, 0, none⟩)] w (Writes base B l (encI ⟨s, (c : Int)⟩) w) := by
  have hv : (vb s.size).length ≤ 10 := vb_len64 (by omega)
  have hv2 : (vb c).length ≤ 10 := vb_len64 (by omega)
  have hsl := strN_length s
  have hst : (vb s.size ++ strN s).length = (vb s.size).length + (strN s).length := by simp
  obtain ⟨w0, hW⟩ : ∃ w0, w0 = w.alloc (.cells #[.string s, .int .i64 (c : Int)] 58) := ⟨_, rfl⟩
  obtain ⟨bx, hbx⟩ : ∃ bx, bx = w.heap.size := ⟨_, rfl⟩
  have HX0 : Hid (w0.heap[bx]? = some (.cells #[.string s, .int .i64 (c : Int)] 58 (0, 0))) := Lib.hid (by rw [hW, hbx]; exact heap_alloc_new w _)
  have HP0 : Hid (AtW P B w0) := Lib.hid (by rw [hW]; exact hP.kept (below_alloc w _))
  have H0 : Hid (Wr base B l v w0) := Lib.hid (by rw [hW]; exact h.kept (below_alloc w _))
  have HT0 : Hid (Touch base B w w0) := Lib.hid (by rw [hW]; exact Touch.of (below_alloc w _) h.size)
  have hnx : bx ≠ B := by have := h.lt; omega
  have p0 : (w.alloc (.cells #[.string s, .int .i64 (c : Int)] 58)).cell? ⟨P, 0, none⟩ = some (.pointer (some ⟨B, 0, none⟩)) := keep_alloc (cell_of_block hP 0)
  clear h hP
  go_enter Tryz.func40, Tryz.ntmps40
  go_wp2_with fail
  rw [← hW, ← hbx]
  clear hW hbx p0
  refine (text_any base B l v s (by omega) w0 H0.out (by omega)).mono ?_
  rintro e w1 ⟨rfl, ht, v1, h1⟩
  have HT1 := Lib.hid (HT0.out.trans ht)
  have HX1 := Lib.hid (ht.rest _ _ HX0.out hnx (notBytes_of (by decide)))
  have HP1 := Lib.hid (HP0.out.touch ht hne)
  have H1 := Lib.hid h1
  clear ht h1 H0 HX0 HT0 HP0
  have p0 : w1.cell? ⟨P, 0, none⟩ = some (.pointer (some ⟨B, 0, none⟩)) := cell_of_block HP1.out 0
  have x1 : w1.cell? ⟨bx, 1, none⟩ = some (.int .i64 (c : Int)) := cell_of_block HX1.out 1
  go_wp2_with fail
  refine (putU_any base B _ v1 c (by omega) w1 H1.out (by have e : (l ++ (vb s.size ++ strN s)).length = l.length + (vb s.size ++ strN s).length := List.length_append; omega)).mono ?_
  rintro e w3 ⟨rfl, ht, v3, h3⟩
  rw [List.append_assoc] at h3
  have H3 := Lib.hid h3
  have HT3 := Lib.hid (HT1.out.trans ht)
  clear ht h3
  go_wp2
  exact bodyPost_ret (v := .tuple #[]) (by simp [results, go_sem]) rfl ⟨rfl, HT3.out, _, H3.out⟩
end Go.Proofs.YtjjfmmimmfihgabGreatDoor
