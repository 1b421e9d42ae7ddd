/-
  WHAT IS PROVED: the statement of any text; what the laws make their expressions of; is a text that expression; is it no statement.
-/
import Derived.Test.YtenmnpbjnbdeaaaGreatDoorNc
import Derived.Test.YtenmnpbjnbdeaaaGreatDoorNd
namespace Go.Proofs.YtenmnpbjnbdeaaaGreatDoor
section
open Go.RowKit Go.Shelf
set_option linter.unusedVariables false

set_option maxRecDepth 100000 in
set_option maxHeartbeats 8000000 in
theorem stmt_any (s : ByteArray) (w : World) (hw : Wo w) : Calls Tryz.prog 12 #[.string s] w (TellsS (stmtB s.data.toList) w) := by
  have hC := fun W (hb : Below w.heap.size w W) => parseSt_any s W (hw.kept hb)
  obtain ⟨o, ho⟩ : ∃ o, stmtB s.data.toList = o := ⟨_, rfl⟩
  rw [ho] at hC ⊢
  clear ho
  have hz : (w.alloc (.cells (s00 0 z0 z0 nS nS nS nS nS nS nS 0 0) 39)).heap[w.heap.size]? = some (.cells (s00 0 z0 z0 nS nS nS nS nS nS nS 0 0) 39 (0, 0)) := heap_alloc_new _ _
  go_enter Tryz.func12, Tryz.ntmps12
  go_wp2_with fail
  refine (hC _ (below_alloc _ _)).mono ?_
  rintro e w1 ⟨ht, hb⟩
  have HR := Lib.hid ((hb.block w.heap.size (by simp)).trans hz)
  have HB := Lib.hid ((below_alloc w _).trans (hb.mono (by simp)))
  clear hz hC
  cases o with
  | ok x =>
    obtain ⟨v1, v2, v3, v4, v5, v6, v7, v8, v9, rfl, hs⟩ := ht
    have HS := Lib.hid (hs.mono (Q := fun k => w.heap.size < k) (fun k hk _ => by have hk' : (w.alloc (.cells (s00 0 z0 z0 nS nS nS nS nS nS nS 0 0) 39)).heap.size ≤ k := hk; simp at hk'; omega))
    obtain ⟨a1, n1, c1, a2, n2, c2, a3, n3, c3, a4, n4, c4, a5, n5, c5, a6, n6, c6, a7, n7, c7, a8, n8, c8, a9, n9, c9, ⟨rfl, rfl, rfl, rfl, rfl, rfl, rfl, rfl, rfl⟩, _⟩ := hs.lens
    unfold stArr
    clear hs hb
    go_wp2_with (refine wpList_store_row rfl 39 _ _ rfl w.heap.size (xA x a1 n1 c1 a2 n2 c2 a3 n3 c3 a4 n4 c4 a5 n5 c5 a6 n6 c6 a7 n7 c7 a8 n8 c8 a9 n9 c9) rfl rfl _ _ HR.out (by kernel_rfl) rfl (by simp [Value.oneCell']) ?_)
    refine bodyPost_ret (row_results3 Tryz.results12 (setRow_heap _ _ _ _ _ _ HR.out) rfl rfl rfl rfl) rfl ⟨⟨_, _, _, _, _, _, _, _, _, rfl, ?_⟩, ?_⟩
    · exact (HS.out.turn (Turn.setRow (· = w.heap.size) _ _ _ rfl) (fun k hk e => by have hk' : w.heap.size < k := hk; omega)).mono (fun k hk _ => by have hk' : w.heap.size < k := hk; show w.heap.size ≤ k; omega)
    · exact ((Turn.of_below HB.out : Turn (· = w.heap.size) w w1).trans (Turn.setRow (· = w.heap.size) _ _ _ rfl)).below (fun k hk e => by omega)
  | bad p f =>
    obtain ⟨hf, rfl⟩ := ht
    unfold stZero
    clear hb
    go_wp2_with (refine wpList_store_row rfl 39 _ _ rfl w.heap.size (s00 0 z0 z0 nS nS nS nS nS nS nS 0 0) rfl rfl _ _ HR.out (by kernel_rfl) rfl (by simp [Value.oneCell']) ?_)
    refine bodyPost_ret (row_results3 Tryz.results12 (setRow_heap _ _ _ _ _ _ HR.out) rfl rfl rfl rfl) rfl ⟨⟨hf, rfl⟩, ?_⟩
    exact ((Turn.of_below HB.out : Turn (· = w.heap.size) w w1).trans (Turn.setRow (· = w.heap.size) _ _ _ rfl)).below (fun k hk e => by omega)

/-! ### What the laws make their expressions of -/
set_option maxHeartbeats 1000000 in
theorem col_any (l : List UInt8) (w : World) : Calls Tryz.prog 21 #[.string (strU l)] w fun e w' => e = .returned (exVal (colE [] l).a nS) ∧ Below w.heap.size w w' := by
  go_enter Tryz.func21, Tryz.ntmps21
  go_wp2
  exact bodyPost_ret (ex_results (R := w.heap.size) (a := (colE [] l).a) (u := .slice none 0 0) Tryz.results21 (alloc_at (by simp)) rfl) rfl ⟨rfl, below_alloc _ _⟩
set_option maxHeartbeats 1000000 in
theorem num_any (i : Int) (w : World) : Calls Tryz.prog 26 #[.int .i64 i] w fun e w' => e = .returned (exVal (litE 1 i []).a nS) ∧ Below w.heap.size w w' := by
  go_enter Tryz.func26, Tryz.ntmps26
  go_wp2
  exact bodyPost_ret (ex_results (R := w.heap.size) (a := (litE 1 i []).a) (u := .slice none 0 0) Tryz.results26 (alloc_at (by simp)) rfl) rfl ⟨rfl, below_alloc _ _⟩
set_option maxHeartbeats 1000000 in
theorem one_any7 (op : Nat) (x : Ex) (u : Value) (w : World) (hs : REs (fun _ => True) w u x.l) : Calls Tryz.prog 23 #[.int .u8 (op : Int), exVal x.a u] w fun e w' => ∃ v, e = .returned (exVal (oneE op x).a v) ∧ REs (fun _ => True) w' v (oneE op x).l ∧ Below w.heap.size w w' := by
  have h1 := hs.one
  have HS := Lib.hid hs
  unfold exVal
  clear hs
  go_enter Tryz.func23, Tryz.ntmps23
  go_wp2
  refine bodyPost_ret (ex_results (R := w.heap.size + 1) (a := (oneE op x).a) (u := .slice (some ⟨w.heap.size + 1 + 1, 0, none⟩) 1 1) Tryz.results23 ((heap_alloc_old _ _ (by simp)).trans (alloc_at (by simp))) rfl) rfl ⟨_, rfl, ?_, below_three _ _ _ _⟩
  exact REs.of_block (us := [u]) (l := [x]) (alloc_at (by simp)) rfl ⟨HS.out.below (below_three _ _ _ _), trivial⟩ trivial (by simp) 1 rfl
set_option maxHeartbeats 1000000 in
theorem two_any7 (op : Nat) (x y : Ex) (u v : Value) (w : World) (hs : REs (fun _ => True) w u x.l) (hv : REs (fun _ => True) w v y.l) : Calls Tryz.prog 17 #[.int .u8 (op : Int), exVal x.a u, exVal y.a v] w fun e w' => ∃ z, e = .returned (exVal (twoE op x y).a z) ∧ REs (fun _ => True) w' z (twoE op x y).l ∧ Below w.heap.size w w' := by
  have h1 := hs.one
  have h2 := hv.one
  have HS := Lib.hid hs
  have HV := Lib.hid hv
  unfold exVal
  clear hs hv
  go_enter Tryz.func17, Tryz.ntmps17
  go_wp2
  refine bodyPost_ret (ex_results (R := w.heap.size + 1 + 1) (a := (twoE op x y).a) (u := .slice (some ⟨w.heap.size + 1 + 1 + 1, 0, none⟩) 2 2) Tryz.results17 ((heap_alloc_old _ _ (by simp)).trans (alloc_at (by simp))) rfl) rfl ⟨_, rfl, ?_, below_four _ _ _ _ _⟩
  exact REs.of_block (us := [u, v]) (l := [x, y]) (alloc_at (by simp)) rfl ⟨HS.out.below (below_four _ _ _ _ _), HV.out.below (below_four _ _ _ _ _), trivial⟩ trivial (by simp) 2 rfl

/-! ### Is a text that expression? Is it no statement, from there on? -/
set_option maxRecDepth 100000 in
set_option maxHeartbeats 4000000 in
theorem is_yes (s : ByteArray) (x : Ex) (hx : exprB s.data.toList = .ok x) (u : Value) (w : World) (hw : Wo w) (hu : REs (fun _ => True) w u x.l) :
    Calls Tryz.prog 20 #[.string s, exVal x.a u] w fun e w' => e = .returned (.bool true) ∧ Below w.heap.size w w' := by
  have hC := fun W (hb : Below w.heap.size w W) => expr_any s W (hw.kept hb)
  rw [hx] at hC
  obtain ⟨a2, c2, rfl, _⟩ := hu.len
  obtain ⟨n, hn⟩ : ∃ n, x.l.len = n := ⟨_, rfl⟩
  rw [hn] at hu ⊢
  have HU := Lib.hid hu
  have hz : (w.alloc (.cells (eA x.a (.slice a2 n c2)) 36)).heap[w.heap.size]? = some (.cells (eA x.a (.slice a2 n c2)) 36 (0, 0)) := heap_alloc_new _ _
  unfold exVal
  clear hu
  go_enter Tryz.func20, Tryz.ntmps20
  go_wp2_with fail
  refine (hC _ (below_alloc _ _)).mono ?_
  rintro e w1 ⟨⟨v, rfl, hs⟩, hb⟩
  obtain ⟨a1, c1, rfl, _⟩ := hs.len
  rw [hn] at hs ⊢
  obtain ⟨w2, hw2⟩ : ∃ w2, w2 = w1.alloc (.cells (eA x.a (.slice a1 n c1)) 36) := ⟨_, rfl⟩
  have hb2 : Below w1.heap.size w1 w2 := by rw [hw2]; exact below_alloc _ _
  have HB := Lib.hid ((below_alloc w (.cells (eA x.a (.slice a2 n c2)) 36)).trans (hb.mono (by simp)))
  have HB2 := Lib.hid (HB.out.trans (hb2.mono HB.out.size))
  have HX : Hid (w2.heap[w1.heap.size]? = some (.cells (eA x.a (.slice a1 n c1)) 36 (0, 0))) := Lib.hid (by rw [hw2]; exact heap_alloc_new _ _)
  have HY : Hid (w2.heap[w.heap.size]? = some (.cells (eA x.a (.slice a2 n c2)) 36 (0, 0))) := Lib.hid ((hb2.block _ (Nat.lt_of_lt_of_le (by simp) hb.size)).trans ((hb.block w.heap.size (by simp)).trans hz))
  have hE := same_expr x.a x.l (.slice a1 n c1) (.slice a2 n c2) w2 ((hs.mono fun _ _ _ => trivial).below hb2) (HU.out.below HB2.out)
  have HW := Lib.hid hw2
  unfold exVal at hE ⊢
  clear hs hb hb2 hC hn hz hw2
  go_wp2_with (first
    | (rw [← HW.out])
    | (refine wpListG_load_row rfl 36 _ rfl w1.heap.size rfl _ (eA x.a (.slice a1 n c1)) (0, 0) _ HX.out Tryz.underlying36 rfl (by kernel_rfl) ?_)
    | (refine wpListG_load_row rfl 36 _ rfl w.heap.size rfl _ (eA x.a (.slice a2 n c2)) (0, 0) _ HY.out Tryz.underlying36 rfl (by kernel_rfl) ?_))
  refine hE.mono ?_
  rintro e w3 ⟨rfl, hb3⟩
  have HB3 := Lib.hid (HB2.out.trans (hb3.mono HB2.out.size))
  clear hb3 hE
  go_wp2_with fail
  go_ret
  exact ⟨rfl, HB3.out⟩
set_option maxRecDepth 100000 in
set_option maxHeartbeats 4000000 in
theorem bad_yes7 (s : ByteArray) (p : Nat) (hx : stmtB s.data.toList = .bad p 4) (w : World) (hw : Wo w) :
    Calls Tryz.prog 28 #[.string s, .int .i64 (p : Int)] w fun e w' => e = .returned (.bool true) ∧ Below w.heap.size w w' := by
  have hC := fun W (hb : Below w.heap.size w W) => stmt_any s W (hw.kept hb)
  rw [hx] at hC
  unfold TellsS stZero at hC
  go_enter Tryz.func28, Tryz.ntmps28
  go_wp2_with fail
  refine (hC _ (Below.refl _ _)).mono ?_
  rintro e w1 ⟨⟨hf, rfl⟩, hb⟩
  have HB := Lib.hid (hb.trans ((below_alloc w1 (.cells (s00 0 z0 z0 nS nS nS nS nS nS nS 0 0) 39)).mono hb.size))
  obtain ⟨w2, hw2⟩ : ∃ w2, w2 = (w1.alloc (.cells (s00 0 z0 z0 nS nS nS nS nS nS nS 0 0) 39)).setRow w1.heap.size (s00 0 z0 z0 nS nS nS nS nS nS nS 0 0) := ⟨_, rfl⟩
  have HB2 : Hid (Below w.heap.size w w2) := Lib.hid (by rw [hw2]; exact Below.laid hb hb.size _ _)
  clear hb hC hf
  go_wp2_with (refine wpList_store_row rfl 39 _ _ rfl w1.heap.size (s00 0 z0 z0 nS nS nS nS nS nS nS 0 0) rfl rfl _ _ (heap_alloc_new _ _) (by kernel_rfl) rfl (by simp [Value.oneCell']) ?_; rw [← hw2]; clear hw2)
  go_ret
  exact ⟨rfl, HB2.out⟩
end
end Go.Proofs.YtenmnpbjnbdeaaaGreatDoor
