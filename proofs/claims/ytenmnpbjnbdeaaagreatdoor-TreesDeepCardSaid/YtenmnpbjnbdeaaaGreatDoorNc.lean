/-
  WHAT IS PROVED: the statement of a text: each way that there is. the statement of a text: each way that there is. the expression, and the statement, of any text, or where there is none.
-/
import Derived.Test.YtenmnpbjnbdeaaaGreatDoorMw
import Derived.Test.YtenmnpbjnbdeaaaGreatDoorNb
import Derived.Test.YtenmnpbjnbdeaaaGreatDoorMu
namespace Go.Proofs.YtenmnpbjnbdeaaaGreatDoor
section
open Go.RowKit Go.Shelf
set_option linter.unusedVariables false

/-- what a function hands back whose first result lies in a block -/
theorem row_results3 {fn : Func} {tmps : Array Value} {W : World} {R k p q : Nat} {cs : Array Value} {v7 v8 : Value} (hres : fn.results = #[.cell k 39, .tmp p, .tmp q]) (h : W.heap[R]? = some (.cells cs 39 (0, 0))) (hz : cs.size = 30) (h2 : tmps[k]? = some (.pointer (some ⟨R, 0, none⟩))) (h7 : tmps[p]? = some v7) (h8 : tmps[q]? = some v8) :
    (results fn tmps).run Tryz.prog W = .ok (.tuple #[.agg cs, v7, v8]) W := by
  have hl := run_loadVar_row (P := Tryz.prog) W R 39 39 cs (0, 0) _ h Tryz.underlying39 rfl (by rw [hz]; kernel_rfl)
  simp [results, hres, h2, h7, h8, asAddr, hl]
set_option maxRecDepth 100000 in
set_option maxHeartbeats 4000000 in
theorem parseS_bad (s : ByteArray) (a f : Nat) (h : ofB s.data.toList = .bad a f) (hf : f ≠ 0) (w : World) (hw : Wo w) :
    Calls Tryz.prog 29 #[.string s, .func (.func 30) #[] #[], .func (.func 13) #[] #[]] w fun e w' => e = .returned (.tuple #[.agg stZero, .int .i64 (a : Int), .int .i64 (f : Int)]) ∧ Below w.heap.size w w' := by
  have hC := fun W (hb : Below w.heap.size w W) => of_bad s a f h W (hw.kept hb)
  have hne : ((f : Int) == 0) = false := by rw [beq_eq_false_iff_ne]; omega
  clear h
  go_enter Tryz.func29, Tryz.ntmps29
  go_wp2_with fail
  refine (hC _ ((below_alloc _ _).trans ((below_alloc _ _).mono (by simp)))).mono ?_
  rintro e w1 ⟨ao, cap, rfl, hb1⟩
  have hR : w1.heap[w.heap.size]? = some (.cells (s00 0 z0 z0 nS nS nS nS nS nS nS 0 0) 39 (0, 0)) := (hb1.block _ (by simp; omega)).trans ((heap_alloc_old _ _ (by simp)).trans (heap_alloc_new _ _))
  have hR2 : w1.heap[w.heap.size + 1]? = some (.cells (s00 0 z0 z0 nS nS nS nS nS nS nS 0 0) 39 (0, 0)) := (hb1.block _ (by simp)).trans (by rw [show w.heap.size + 1 = (w.alloc (.cells (s00 0 z0 z0 nS nS nS nS nS nS nS 0 0) 39)).heap.size by simp]; exact heap_alloc_new _ _)
  have HB1 := Lib.hid (((below_alloc w (.cells (s00 0 z0 z0 nS nS nS nS nS nS nS 0 0) 39)).trans ((below_alloc _ (.cells (s00 0 z0 z0 nS nS nS nS nS nS nS 0 0) 39)).mono (by simp))).trans (hb1.mono (by simp; omega)))
  have HR := Lib.hid hR
  have HR2 := Lib.hid hR2
  clear hb1 hR hR2
  go_wp2_with (first
    | (refine wpList_load_row rfl 39 _ rfl (w.heap.size + 1) rfl _ (s00 0 z0 z0 nS nS nS nS nS nS nS 0 0) (0, 0) _ HR2.out Tryz.underlying39 rfl (by kernel_rfl) ?_)
    | (refine wpList_store_row rfl 39 _ _ rfl w.heap.size (s00 0 z0 z0 nS nS nS nS nS nS nS 0 0) rfl rfl _ _ HR.out (by kernel_rfl) rfl (by simp [Value.oneCell']) ?_))
  refine bodyPost_ret (row_results3 Tryz.results29 (setRow_heap _ _ _ _ _ _ HR.out) rfl rfl rfl rfl) rfl ⟨rfl, ?_⟩
  exact ((Turn.of_below HB1.out : Turn (· = w.heap.size) w w1).trans (Turn.setRow (· = w.heap.size) _ _ _ rfl)).below (fun k hk e => by omega)
set_option maxRecDepth 100000 in
set_option maxHeartbeats 16000000 in
theorem parseS_wrong (s : ByteArray) (l : List WordM) (h : ofB s.data.toList = .ok l) (hsh : ∀ x ∈ l, x.s.length ≤ 5000) (hl : l.length ≤ 800000) (w : World) (hw : Wo w) (x : StM) (hx : statementP (exprN (l.length + 1)) ⟨l, false⟩ = (x, ⟨[], true⟩)) :
    Calls Tryz.prog 29 #[.string s, .func (.func 30) #[] #[], .func (.func 13) #[] #[]] w fun e w' => e = .returned (.tuple #[.agg stZero, .int .i64 (s.size : Int), .int .i64 4]) ∧ Below w.heap.size w w' := by
  have hC := fun W (hb : Below w.heap.size w W) => of_ok s l h W (hw.kept hb)
  clear h
  go_enter Tryz.func29, Tryz.ntmps29
  go_wp2_with fail
  refine (hC _ ((below_alloc _ _).trans ((below_alloc _ _).mono (by simp)))).mono ?_
  rintro e w1 ⟨v, rfl, hrow, hb1⟩
  obtain ⟨ao, cap, hvv⟩ := hrow.form
  subst hvv
  have hR : w1.heap[w.heap.size]? = some (.cells (s00 0 z0 z0 nS nS nS nS nS nS nS 0 0) 39 (0, 0)) := (hb1.block _ (by simp; omega)).trans ((heap_alloc_old _ _ (by simp)).trans (heap_alloc_new _ _))
  have hR2 : w1.heap[w.heap.size + 1]? = some (.cells (s00 0 z0 z0 nS nS nS nS nS nS nS 0 0) 39 (0, 0)) := (hb1.block _ (by simp)).trans (by rw [show w.heap.size + 1 = (w.alloc (.cells (s00 0 z0 z0 nS nS nS nS nS nS nS 0 0) 39)).heap.size by simp]; exact heap_alloc_new _ _)
  have HB1 := Lib.hid (((below_alloc w (.cells (s00 0 z0 z0 nS nS nS nS nS nS nS 0 0) 39)).trans ((below_alloc _ (.cells (s00 0 z0 z0 nS nS nS nS nS nS nS 0 0) 39)).mono (by simp))).trans (hb1.mono (by simp; omega)))
  have HR := Lib.hid hR
  have HR2 := Lib.hid hR2
  have HROW := Lib.hid hrow
  clear hb1 hR hR2 hC
  go_wp2_with fail
  refine (operators_tr w1).mono ?_
  rintro e w2 ⟨rfl, hmap, hb2⟩
  obtain ⟨w3, hw3⟩ : ∃ w3, w3 = w2.alloc (.cells #[.slice ao l.length cap, .bool false, .map (some w1.heap.size)] 107) := ⟨_, rfl⟩
  have hb3 : Below w2.heap.size w2 w3 := by rw [hw3]; exact below_alloc _ _
  have hs3 : w3.heap.size = w2.heap.size + 1 := by rw [hw3]; simp
  have HW3 := Lib.hid hw3
  have HRD : Hid (RdAt (w2.heap.size + 1) w3 w2.heap.size ⟨l, false⟩) := Lib.hid ⟨.slice ao l.length cap, w1.heap.size, ⟨by rw [hw3]; exact heap_alloc_new _ _, RowT.of_W HROW.out (hb2.trans (hb3.mono hb2.size)) hb2.size (Nat.le_trans hb2.size (Nat.le_succ _)), hmap.kept (hb3.block _ hmap.lt), Nat.ne_of_lt hmap.lt, ⟨Nat.lt_succ_self _, Nat.lt_succ_of_lt hmap.lt⟩, Nat.le_of_eq hs3.symm, hsh⟩⟩
  have HB3 := Lib.hid (HB1.out.trans ((hb2.trans (hb3.mono hb2.size)).mono HB1.out.size))
  have HR3 : Hid (w3.heap[w.heap.size]? = some (.cells (s00 0 z0 z0 nS nS nS nS nS nS nS 0 0) 39 (0, 0))) := Lib.hid (((hb2.trans (hb3.mono hb2.size)).block _ (bk_lt HR.out)).trans HR.out)
  have HR23 : Hid (w3.heap[w.heap.size + 1]? = some (.cells (s00 0 z0 z0 nS nS nS nS nS nS nS 0 0) 39 (0, 0))) := Lib.hid (((hb2.trans (hb3.mono hb2.size)).block _ (bk_lt HR2.out)).trans HR2.out)
  have hmle : w1.heap.size ≤ w2.heap.size := hb2.size
  clear hmap hb2 hb3 hw3 hs3
  go_wp2_with (rw [← HW3.out])
  have hE := statement_tr (w2.heap.size + 1) w2.heap.size l.length (by omega) (exprN (l.length + 1)) (expr_tr (w2.heap.size + 1) w2.heap.size (l.length + 1) l.length (Nat.lt_succ_self _) hl) (exprN_le _) ⟨l, false⟩ w3 HRD.out (Nat.le_refl _)
  rw [hx] at hE
  refine hE.mono ?_
  rintro e w4 ⟨v1, v2, v3, v4, v5, v6, v7, v8, v9, rfl, hs, hr, hq⟩
  obtain ⟨a1, c1, e1, _⟩ := hs.hc.slice
  obtain ⟨a2, c2, e2, _⟩ := hs.hn.slice
  obtain ⟨a3, c3, e3, _⟩ := hs.hr.slice
  obtain ⟨a4, c4, e4, _⟩ := hs.hi.slice
  obtain ⟨a5, c5, e5, _⟩ := hs.hf.slice
  obtain ⟨a6, n6, c6, e6⟩ := hs.hu.slice
  obtain ⟨a7, c7, e7, _⟩ := hs.hg.slice
  obtain ⟨a8, n8, c8, e8⟩ := hs.hh.slice
  obtain ⟨a9, c9, e9, _⟩ := hs.ho.slice
  dsimp only at hs e1 e2 e3 e4 e5 e6 e7 e8 e9 hr hq
  generalize hn1 : x.columns.length = n1 at e1
  generalize hn2 : x.names.length = n2 at e2
  generalize hn3 : x.rows.length = n3 at e3
  generalize hn4 : x.items.length = n4 at e4
  generalize hn5 : x.tables.length = n5 at e5
  generalize hn7 : x.group.length = n7 at e7
  generalize hn9 : x.order.length = n9 at e9
  subst e1 e2 e3 e4 e5 e6 e7 e8 e9
  clear hn1 hn2 hn3 hn4 hn5 hn7 hn9
  unfold stArr
  dsimp only
  obtain ⟨w5, hw5⟩ : ∃ w5, w5 = (w4.alloc (.cells (s00 0 z0 z0 nS nS nS nS nS nS nS 0 0) 39)).setRow w4.heap.size (xA x a1 n1 c1 a2 n2 c2 a3 n3 c3 a4 n4 c4 a5 n5 c5 a6 n6 c6 a7 n7 c7 a8 n8 c8 a9 n9 c9) := ⟨_, rfl⟩
  have hb5 : Below w4.heap.size w4 w5 := by rw [hw5]; exact Below.laid (Below.refl _ _) (Nat.le_refl _) _ _
  have HW5 := Lib.hid hw5
  obtain ⟨v', M', q⟩ := hr.kept hb5
  obtain ⟨ao', cap', hv', _⟩ := q.row
  subst hv'
  have kc0 : w5.cell? ⟨w2.heap.size, 0, none⟩ = some (.slice ao' 0 cap') := bk_cell q.at_ 0
  have kc1 := bk_cell q.at_ 1
  have hlow : w.heap.size + 1 < w2.heap.size := by have := bk_lt HR2.out; have := hmle; omega
  have HR5 : Hid (w5.heap[w.heap.size]? = some (.cells (s00 0 z0 z0 nS nS nS nS nS nS nS 0 0) 39 (0, 0))) := Lib.hid ((hb5.block _ (Nat.lt_of_lt_of_le (bk_lt HR3.out) hq.size)).trans ((hq.block _ (bk_lt HR3.out) (by omega)).trans HR3.out))
  have HR25 : Hid (w5.heap[w.heap.size + 1]? = some (.cells (s00 0 z0 z0 nS nS nS nS nS nS nS 0 0) 39 (0, 0))) := Lib.hid ((hb5.block _ (Nat.lt_of_lt_of_le (bk_lt HR23.out) hq.size)).trans ((hq.block _ (bk_lt HR23.out) (by omega)).trans HR23.out))
  have HT5 : Hid (Below w.heap.size w w5) := Lib.hid ((((Turn.of_below HB3.out : Turn (· = w2.heap.size) w w3).trans hq).trans (Turn.of_below hb5)).below (fun k hk e => by omega))
  have kc2 : w5.cell? ⟨w2.heap.size, 1, none⟩ = some (.bool true) := kc1
  clear hs hr hq hb5 hw5 q HRD hE kc1
  go_wp2_with (first
    | (refine wpList_store_row rfl 39 _ _ rfl w4.heap.size (xA x a1 n1 c1 a2 n2 c2 a3 n3 c3 a4 n4 c4 a5 n5 c5 a6 n6 c6 a7 n7 c7 a8 n8 c8 a9 n9 c9) rfl rfl _ _ (heap_alloc_new _ _) (by kernel_rfl) rfl (by simp [Value.oneCell']) ?_; rw [← HW5.out])
    | (refine wpList_load_row rfl 39 _ rfl (w.heap.size + 1) rfl _ (s00 0 z0 z0 nS nS nS nS nS nS nS 0 0) (0, 0) _ HR25.out Tryz.underlying39 rfl (by kernel_rfl) ?_)
    | (refine wpList_store_row rfl 39 _ _ rfl w.heap.size (s00 0 z0 z0 nS nS nS nS nS nS nS 0 0) rfl rfl _ _ HR5.out (by kernel_rfl) rfl (by simp [Value.oneCell']) ?_))
  refine bodyPost_ret (row_results3 Tryz.results29 (setRow_heap _ _ _ _ _ _ HR5.out) rfl rfl rfl rfl) rfl ⟨rfl, ?_⟩
  exact ((Turn.of_below HT5.out : Turn (· = w.heap.size) w w5).trans (Turn.setRow (· = w.heap.size) _ _ _ rfl)).below (fun k hk e => by omega)
set_option maxRecDepth 100000 in
set_option maxHeartbeats 16000000 in
theorem parseS_may (s : ByteArray) (l : List WordM) (h : ofB s.data.toList = .ok l) (hsh : ∀ x ∈ l, x.s.length ≤ 5000) (hl : l.length ≤ 800000) (w : World) (hw : Wo w) (x : StM) (hx : statementP (exprN (l.length + 1)) ⟨l, false⟩ = (x, ⟨[], false⟩)) (hshx : x.all Sh) (hfine : checkB x = false) :
    Calls Tryz.prog 29 #[.string s, .func (.func 30) #[] #[], .func (.func 13) #[] #[]] w fun e w' => e = .returned (.tuple #[.agg stZero, .int .i64 0, .int .i64 3]) ∧ Below w.heap.size w w' := by
  have hC := fun W (hb : Below w.heap.size w W) => of_ok s l h W (hw.kept hb)
  clear h
  go_enter Tryz.func29, Tryz.ntmps29
  go_wp2_with fail
  refine (hC _ ((below_alloc _ _).trans ((below_alloc _ _).mono (by simp)))).mono ?_
  rintro e w1 ⟨v, rfl, hrow, hb1⟩
  obtain ⟨ao, cap, hvv⟩ := hrow.form
  subst hvv
  have hR : w1.heap[w.heap.size]? = some (.cells (s00 0 z0 z0 nS nS nS nS nS nS nS 0 0) 39 (0, 0)) := (hb1.block _ (by simp; omega)).trans ((heap_alloc_old _ _ (by simp)).trans (heap_alloc_new _ _))
  have hR2 : w1.heap[w.heap.size + 1]? = some (.cells (s00 0 z0 z0 nS nS nS nS nS nS nS 0 0) 39 (0, 0)) := (hb1.block _ (by simp)).trans (by rw [show w.heap.size + 1 = (w.alloc (.cells (s00 0 z0 z0 nS nS nS nS nS nS nS 0 0) 39)).heap.size by simp]; exact heap_alloc_new _ _)
  have HB1 := Lib.hid (((below_alloc w (.cells (s00 0 z0 z0 nS nS nS nS nS nS nS 0 0) 39)).trans ((below_alloc _ (.cells (s00 0 z0 z0 nS nS nS nS nS nS nS 0 0) 39)).mono (by simp))).trans (hb1.mono (by simp; omega)))
  have HR := Lib.hid hR
  have HR2 := Lib.hid hR2
  have HROW := Lib.hid hrow
  clear hb1 hR hR2 hC
  go_wp2_with fail
  refine (operators_tr w1).mono ?_
  rintro e w2 ⟨rfl, hmap, hb2⟩
  obtain ⟨w3, hw3⟩ : ∃ w3, w3 = w2.alloc (.cells #[.slice ao l.length cap, .bool false, .map (some w1.heap.size)] 107) := ⟨_, rfl⟩
  have hb3 : Below w2.heap.size w2 w3 := by rw [hw3]; exact below_alloc _ _
  have hs3 : w3.heap.size = w2.heap.size + 1 := by rw [hw3]; simp
  have HW3 := Lib.hid hw3
  have HRD : Hid (RdAt (w2.heap.size + 1) w3 w2.heap.size ⟨l, false⟩) := Lib.hid ⟨.slice ao l.length cap, w1.heap.size, ⟨by rw [hw3]; exact heap_alloc_new _ _, RowT.of_W HROW.out (hb2.trans (hb3.mono hb2.size)) hb2.size (Nat.le_trans hb2.size (Nat.le_succ _)), hmap.kept (hb3.block _ hmap.lt), Nat.ne_of_lt hmap.lt, ⟨Nat.lt_succ_self _, Nat.lt_succ_of_lt hmap.lt⟩, Nat.le_of_eq hs3.symm, hsh⟩⟩
  have HB3 := Lib.hid (HB1.out.trans ((hb2.trans (hb3.mono hb2.size)).mono HB1.out.size))
  have HR3 : Hid (w3.heap[w.heap.size]? = some (.cells (s00 0 z0 z0 nS nS nS nS nS nS nS 0 0) 39 (0, 0))) := Lib.hid (((hb2.trans (hb3.mono hb2.size)).block _ (bk_lt HR.out)).trans HR.out)
  have HR23 : Hid (w3.heap[w.heap.size + 1]? = some (.cells (s00 0 z0 z0 nS nS nS nS nS nS nS 0 0) 39 (0, 0))) := Lib.hid (((hb2.trans (hb3.mono hb2.size)).block _ (bk_lt HR2.out)).trans HR2.out)
  have hmle : w1.heap.size ≤ w2.heap.size := hb2.size
  clear hmap hb2 hb3 hw3 hs3
  go_wp2_with (rw [← HW3.out])
  have hE := statement_tr (w2.heap.size + 1) w2.heap.size l.length (by omega) (exprN (l.length + 1)) (expr_tr (w2.heap.size + 1) w2.heap.size (l.length + 1) l.length (Nat.lt_succ_self _) hl) (exprN_le _) ⟨l, false⟩ w3 HRD.out (Nat.le_refl _)
  rw [hx] at hE
  refine hE.mono ?_
  rintro e w4 ⟨v1, v2, v3, v4, v5, v6, v7, v8, v9, rfl, hs, hr, hq⟩
  obtain ⟨a1, c1, e1, _⟩ := hs.hc.slice
  obtain ⟨a2, c2, e2, _⟩ := hs.hn.slice
  obtain ⟨a3, c3, e3, _⟩ := hs.hr.slice
  obtain ⟨a4, c4, e4, _⟩ := hs.hi.slice
  obtain ⟨a5, c5, e5, _⟩ := hs.hf.slice
  obtain ⟨a6, n6, c6, e6⟩ := hs.hu.slice
  obtain ⟨a7, c7, e7, _⟩ := hs.hg.slice
  obtain ⟨a8, n8, c8, e8⟩ := hs.hh.slice
  obtain ⟨a9, c9, e9, _⟩ := hs.ho.slice
  dsimp only at hs e1 e2 e3 e4 e5 e6 e7 e8 e9 hr hq
  generalize hn1 : x.columns.length = n1 at e1
  generalize hn2 : x.names.length = n2 at e2
  generalize hn3 : x.rows.length = n3 at e3
  generalize hn4 : x.items.length = n4 at e4
  generalize hn5 : x.tables.length = n5 at e5
  generalize hn7 : x.group.length = n7 at e7
  generalize hn9 : x.order.length = n9 at e9
  subst e1 e2 e3 e4 e5 e6 e7 e8 e9
  clear hn1 hn2 hn3 hn4 hn5 hn7 hn9
  unfold stArr
  dsimp only
  obtain ⟨w5, hw5⟩ : ∃ w5, w5 = (w4.alloc (.cells (s00 0 z0 z0 nS nS nS nS nS nS nS 0 0) 39)).setRow w4.heap.size (xA x a1 n1 c1 a2 n2 c2 a3 n3 c3 a4 n4 c4 a5 n5 c5 a6 n6 c6 a7 n7 c7 a8 n8 c8 a9 n9 c9) := ⟨_, rfl⟩
  have hb5 : Below w4.heap.size w4 w5 := by rw [hw5]; exact Below.laid (Below.refl _ _) (Nat.le_refl _) _ _
  have HW5 := Lib.hid hw5
  obtain ⟨v', M', q⟩ := hr.kept hb5
  obtain ⟨ao', cap', hv', _⟩ := q.row
  subst hv'
  have kc0 : w5.cell? ⟨w2.heap.size, 0, none⟩ = some (.slice ao' 0 cap') := bk_cell q.at_ 0
  have kc1 := bk_cell q.at_ 1
  have hlow : w.heap.size + 1 < w2.heap.size := by have := bk_lt HR2.out; have := hmle; omega
  have HR5 : Hid (w5.heap[w.heap.size]? = some (.cells (s00 0 z0 z0 nS nS nS nS nS nS nS 0 0) 39 (0, 0))) := Lib.hid ((hb5.block _ (Nat.lt_of_lt_of_le (bk_lt HR3.out) hq.size)).trans ((hq.block _ (bk_lt HR3.out) (by omega)).trans HR3.out))
  have HR25 : Hid (w5.heap[w.heap.size + 1]? = some (.cells (s00 0 z0 z0 nS nS nS nS nS nS nS 0 0) 39 (0, 0))) := Lib.hid ((hb5.block _ (Nat.lt_of_lt_of_le (bk_lt HR23.out) hq.size)).trans ((hq.block _ (bk_lt HR23.out) (by omega)).trans HR23.out))
  have HT5 : Hid (Below w.heap.size w w5) := Lib.hid ((((Turn.of_below HB3.out : Turn (· = w2.heap.size) w w3).trans hq).trans (Turn.of_below hb5)).below (fun k hk e => by omega))
  have kc2 : w5.cell? ⟨w2.heap.size, 1, none⟩ = some (.bool false) := kc1
  have hX5 : w5.heap[w4.heap.size]? = some (.cells (xA x a1 n1 c1 a2 n2 c2 a3 n3 c3 a4 n4 c4 a5 n5 c5 a6 n6 c6 a7 n7 c7 a8 n8 c8 a9 n9 c9) 39 (0, 0)) := by rw [hw5]; exact setRow_heap _ _ _ _ _ _ (heap_alloc_new _ _)
  have hs5 : StHeld (w3.heap.size ≤ ·) w5 x (.slice a1 n1 c1) (.slice a2 n2 c2) (.slice a3 n3 c3) (.slice a4 n4 c4) (.slice a5 n5 c5) (.slice a6 n6 c6) (.slice a7 n7 c7) (.slice a8 n8 c8) (.slice a9 n9 c9) := hs.kept hb5.size (fun k _ hk => hb5.block k hk)
  have hM := check_may x (.slice a1 n1 c1) (.slice a2 n2 c2) (.slice a3 n3 c3) (.slice a4 n4 c4) (.slice a5 n5 c5) (.slice a6 n6 c6) (.slice a7 n7 c7) (.slice a8 n8 c8) (.slice a9 n9 c9) w5 (hs5.mono fun _ _ _ => trivial) hshx
  rw [hfine] at hM
  unfold stArr at hM
  have HX5 := Lib.hid hX5
  have HSX := Lib.hid hs5
  have HGE : Hid (w2.heap.size ≤ w3.heap.size ∧ w3.heap.size ≤ w4.heap.size) := Lib.hid ⟨by have := bk_lt HR3.out; have := HB3.out.size; have := HRD.out.lt; omega, hq.size⟩
  clear hs hr hq hb5 hw5 q HRD hE kc1 hX5 hs5
  go_wp2_with (first
    | (refine wpList_store_row rfl 39 _ _ rfl w4.heap.size (xA x a1 n1 c1 a2 n2 c2 a3 n3 c3 a4 n4 c4 a5 n5 c5 a6 n6 c6 a7 n7 c7 a8 n8 c8 a9 n9 c9) rfl rfl _ _ (heap_alloc_new _ _) (by kernel_rfl) rfl (by simp [Value.oneCell']) ?_; rw [← HW5.out])
    | (refine wpList_load_row rfl 39 _ rfl w4.heap.size rfl _ (xA x a1 n1 c1 a2 n2 c2 a3 n3 c3 a4 n4 c4 a5 n5 c5 a6 n6 c6 a7 n7 c7 a8 n8 c8 a9 n9 c9) (0, 0) _ HX5.out Tryz.underlying39 rfl (by kernel_rfl) ?_))
  refine hM.mono ?_
  rintro e w6 ⟨rfl, hb6⟩
  have HR6 : Hid (w6.heap[w.heap.size]? = some (.cells (s00 0 z0 z0 nS nS nS nS nS nS nS 0 0) 39 (0, 0))) := Lib.hid ((hb6.block _ (bk_lt HR5.out)).trans HR5.out)
  have HR26 : Hid (w6.heap[w.heap.size + 1]? = some (.cells (s00 0 z0 z0 nS nS nS nS nS nS nS 0 0) 39 (0, 0))) := Lib.hid ((hb6.block _ (bk_lt HR25.out)).trans HR25.out)
  have HX6 : Hid (w6.heap[w4.heap.size]? = some (.cells (xA x a1 n1 c1 a2 n2 c2 a3 n3 c3 a4 n4 c4 a5 n5 c5 a6 n6 c6 a7 n7 c7 a8 n8 c8 a9 n9 c9) 39 (0, 0))) := Lib.hid ((hb6.block _ (bk_lt HX5.out)).trans HX5.out)
  have HT6 : Hid (Below w.heap.size w w6) := Lib.hid (HT5.out.trans (hb6.mono HT5.out.size))
  have HS6 : Hid (StHeld (w3.heap.size ≤ ·) w6 x (.slice a1 n1 c1) (.slice a2 n2 c2) (.slice a3 n3 c3) (.slice a4 n4 c4) (.slice a5 n5 c5) (.slice a6 n6 c6) (.slice a7 n7 c7) (.slice a8 n8 c8) (.slice a9 n9 c9)) := Lib.hid (HSX.out.kept hb6.size (fun k _ hk => hb6.block k hk))
  clear hb6 hM
  go_wp2_with (first
    | (refine wpList_load_row rfl 39 _ rfl w4.heap.size rfl _ (xA x a1 n1 c1 a2 n2 c2 a3 n3 c3 a4 n4 c4 a5 n5 c5 a6 n6 c6 a7 n7 c7 a8 n8 c8 a9 n9 c9) (0, 0) _ HX6.out Tryz.underlying39 rfl (by kernel_rfl) ?_)
    | (refine wpList_load_row rfl 39 _ rfl (w.heap.size + 1) rfl _ (s00 0 z0 z0 nS nS nS nS nS nS nS 0 0) (0, 0) _ HR26.out Tryz.underlying39 rfl (by kernel_rfl) ?_)
    | (refine wpList_store_row rfl 39 _ _ rfl w.heap.size (s00 0 z0 z0 nS nS nS nS nS nS nS 0 0) rfl rfl _ _ HR6.out (by kernel_rfl) rfl (by simp [Value.oneCell']) ?_))
  refine bodyPost_ret (row_results3 Tryz.results29 (setRow_heap _ _ _ _ _ _ HR6.out) rfl rfl rfl rfl) rfl ⟨rfl, ?_⟩
  exact ((Turn.of_below HT6.out : Turn (· = w.heap.size) w w6).trans (Turn.setRow (· = w.heap.size) _ _ _ rfl)).below (fun k hk e => by omega)
set_option maxRecDepth 100000 in
set_option maxHeartbeats 16000000 in
theorem parseS_ok (s : ByteArray) (l : List WordM) (h : ofB s.data.toList = .ok l) (hsh : ∀ x ∈ l, x.s.length ≤ 5000) (hl : l.length ≤ 800000) (w : World) (hw : Wo w) (x : StM) (hx : statementP (exprN (l.length + 1)) ⟨l, false⟩ = (x, ⟨[], false⟩)) (hshx : x.all Sh) (hfine : checkB x = true) :
    Calls Tryz.prog 29 #[.string s, .func (.func 30) #[] #[], .func (.func 13) #[] #[]] w fun e w' => (∃ v1 v2 v3 v4 v5 v6 v7 v8 v9, e = .returned (.tuple #[.agg (stArr x v1 v2 v3 v4 v5 v6 v7 v8 v9), .int .i64 0, .int .i64 0]) ∧ StHeld (w.heap.size ≤ ·) w' x v1 v2 v3 v4 v5 v6 v7 v8 v9) ∧ Below w.heap.size w w' := by
  have hC := fun W (hb : Below w.heap.size w W) => of_ok s l h W (hw.kept hb)
  clear h
  go_enter Tryz.func29, Tryz.ntmps29
  go_wp2_with fail
  refine (hC _ ((below_alloc _ _).trans ((below_alloc _ _).mono (by simp)))).mono ?_
  rintro e w1 ⟨v, rfl, hrow, hb1⟩
  obtain ⟨ao, cap, hvv⟩ := hrow.form
  subst hvv
  have hR : w1.heap[w.heap.size]? = some (.cells (s00 0 z0 z0 nS nS nS nS nS nS nS 0 0) 39 (0, 0)) := (hb1.block _ (by simp; omega)).trans ((heap_alloc_old _ _ (by simp)).trans (heap_alloc_new _ _))
  have hR2 : w1.heap[w.heap.size + 1]? = some (.cells (s00 0 z0 z0 nS nS nS nS nS nS nS 0 0) 39 (0, 0)) := (hb1.block _ (by simp)).trans (by rw [show w.heap.size + 1 = (w.alloc (.cells (s00 0 z0 z0 nS nS nS nS nS nS nS 0 0) 39)).heap.size by simp]; exact heap_alloc_new _ _)
  have HB1 := Lib.hid (((below_alloc w (.cells (s00 0 z0 z0 nS nS nS nS nS nS nS 0 0) 39)).trans ((below_alloc _ (.cells (s00 0 z0 z0 nS nS nS nS nS nS nS 0 0) 39)).mono (by simp))).trans (hb1.mono (by simp; omega)))
  have HR := Lib.hid hR
  have HR2 := Lib.hid hR2
  have HROW := Lib.hid hrow
  clear hb1 hR hR2 hC
  go_wp2_with fail
  refine (operators_tr w1).mono ?_
  rintro e w2 ⟨rfl, hmap, hb2⟩
  obtain ⟨w3, hw3⟩ : ∃ w3, w3 = w2.alloc (.cells #[.slice ao l.length cap, .bool false, .map (some w1.heap.size)] 107) := ⟨_, rfl⟩
  have hb3 : Below w2.heap.size w2 w3 := by rw [hw3]; exact below_alloc _ _
  have hs3 : w3.heap.size = w2.heap.size + 1 := by rw [hw3]; simp
  have HW3 := Lib.hid hw3
  have HRD : Hid (RdAt (w2.heap.size + 1) w3 w2.heap.size ⟨l, false⟩) := Lib.hid ⟨.slice ao l.length cap, w1.heap.size, ⟨by rw [hw3]; exact heap_alloc_new _ _, RowT.of_W HROW.out (hb2.trans (hb3.mono hb2.size)) hb2.size (Nat.le_trans hb2.size (Nat.le_succ _)), hmap.kept (hb3.block _ hmap.lt), Nat.ne_of_lt hmap.lt, ⟨Nat.lt_succ_self _, Nat.lt_succ_of_lt hmap.lt⟩, Nat.le_of_eq hs3.symm, hsh⟩⟩
  have HB3 := Lib.hid (HB1.out.trans ((hb2.trans (hb3.mono hb2.size)).mono HB1.out.size))
  have HR3 : Hid (w3.heap[w.heap.size]? = some (.cells (s00 0 z0 z0 nS nS nS nS nS nS nS 0 0) 39 (0, 0))) := Lib.hid (((hb2.trans (hb3.mono hb2.size)).block _ (bk_lt HR.out)).trans HR.out)
  have HR23 : Hid (w3.heap[w.heap.size + 1]? = some (.cells (s00 0 z0 z0 nS nS nS nS nS nS nS 0 0) 39 (0, 0))) := Lib.hid (((hb2.trans (hb3.mono hb2.size)).block _ (bk_lt HR2.out)).trans HR2.out)
  have hmle : w1.heap.size ≤ w2.heap.size := hb2.size
  clear hmap hb2 hb3 hw3 hs3
  go_wp2_with (rw [← HW3.out])
  have hE := statement_tr (w2.heap.size + 1) w2.heap.size l.length (by omega) (exprN (l.length + 1)) (expr_tr (w2.heap.size + 1) w2.heap.size (l.length + 1) l.length (Nat.lt_succ_self _) hl) (exprN_le _) ⟨l, false⟩ w3 HRD.out (Nat.le_refl _)
  rw [hx] at hE
  refine hE.mono ?_
  rintro e w4 ⟨v1, v2, v3, v4, v5, v6, v7, v8, v9, rfl, hs, hr, hq⟩
  obtain ⟨a1, c1, e1, _⟩ := hs.hc.slice
  obtain ⟨a2, c2, e2, _⟩ := hs.hn.slice
  obtain ⟨a3, c3, e3, _⟩ := hs.hr.slice
  obtain ⟨a4, c4, e4, _⟩ := hs.hi.slice
  obtain ⟨a5, c5, e5, _⟩ := hs.hf.slice
  obtain ⟨a6, n6, c6, e6⟩ := hs.hu.slice
  obtain ⟨a7, c7, e7, _⟩ := hs.hg.slice
  obtain ⟨a8, n8, c8, e8⟩ := hs.hh.slice
  obtain ⟨a9, c9, e9, _⟩ := hs.ho.slice
  dsimp only at hs e1 e2 e3 e4 e5 e6 e7 e8 e9 hr hq
  generalize hn1 : x.columns.length = n1 at e1
  generalize hn2 : x.names.length = n2 at e2
  generalize hn3 : x.rows.length = n3 at e3
  generalize hn4 : x.items.length = n4 at e4
  generalize hn5 : x.tables.length = n5 at e5
  generalize hn7 : x.group.length = n7 at e7
  generalize hn9 : x.order.length = n9 at e9
  subst e1 e2 e3 e4 e5 e6 e7 e8 e9
  clear hn1 hn2 hn3 hn4 hn5 hn7 hn9
  unfold stArr
  dsimp only
  obtain ⟨w5, hw5⟩ : ∃ w5, w5 = (w4.alloc (.cells (s00 0 z0 z0 nS nS nS nS nS nS nS 0 0) 39)).setRow w4.heap.size (xA x a1 n1 c1 a2 n2 c2 a3 n3 c3 a4 n4 c4 a5 n5 c5 a6 n6 c6 a7 n7 c7 a8 n8 c8 a9 n9 c9) := ⟨_, rfl⟩
  have hb5 : Below w4.heap.size w4 w5 := by rw [hw5]; exact Below.laid (Below.refl _ _) (Nat.le_refl _) _ _
  have HW5 := Lib.hid hw5
  obtain ⟨v', M', q⟩ := hr.kept hb5
  obtain ⟨ao', cap', hv', _⟩ := q.row
  subst hv'
  have kc0 : w5.cell? ⟨w2.heap.size, 0, none⟩ = some (.slice ao' 0 cap') := bk_cell q.at_ 0
  have kc1 := bk_cell q.at_ 1
  have hlow : w.heap.size + 1 < w2.heap.size := by have := bk_lt HR2.out; have := hmle; omega
  have HR5 : Hid (w5.heap[w.heap.size]? = some (.cells (s00 0 z0 z0 nS nS nS nS nS nS nS 0 0) 39 (0, 0))) := Lib.hid ((hb5.block _ (Nat.lt_of_lt_of_le (bk_lt HR3.out) hq.size)).trans ((hq.block _ (bk_lt HR3.out) (by omega)).trans HR3.out))
  have HR25 : Hid (w5.heap[w.heap.size + 1]? = some (.cells (s00 0 z0 z0 nS nS nS nS nS nS nS 0 0) 39 (0, 0))) := Lib.hid ((hb5.block _ (Nat.lt_of_lt_of_le (bk_lt HR23.out) hq.size)).trans ((hq.block _ (bk_lt HR23.out) (by omega)).trans HR23.out))
  have HT5 : Hid (Below w.heap.size w w5) := Lib.hid ((((Turn.of_below HB3.out : Turn (· = w2.heap.size) w w3).trans hq).trans (Turn.of_below hb5)).below (fun k hk e => by omega))
  have kc2 : w5.cell? ⟨w2.heap.size, 1, none⟩ = some (.bool false) := kc1
  have hX5 : w5.heap[w4.heap.size]? = some (.cells (xA x a1 n1 c1 a2 n2 c2 a3 n3 c3 a4 n4 c4 a5 n5 c5 a6 n6 c6 a7 n7 c7 a8 n8 c8 a9 n9 c9) 39 (0, 0)) := by rw [hw5]; exact setRow_heap _ _ _ _ _ _ (heap_alloc_new _ _)
  have hs5 : StHeld (w3.heap.size ≤ ·) w5 x (.slice a1 n1 c1) (.slice a2 n2 c2) (.slice a3 n3 c3) (.slice a4 n4 c4) (.slice a5 n5 c5) (.slice a6 n6 c6) (.slice a7 n7 c7) (.slice a8 n8 c8) (.slice a9 n9 c9) := hs.kept hb5.size (fun k _ hk => hb5.block k hk)
  have hM := check_may x (.slice a1 n1 c1) (.slice a2 n2 c2) (.slice a3 n3 c3) (.slice a4 n4 c4) (.slice a5 n5 c5) (.slice a6 n6 c6) (.slice a7 n7 c7) (.slice a8 n8 c8) (.slice a9 n9 c9) w5 (hs5.mono fun _ _ _ => trivial) hshx
  rw [hfine] at hM
  unfold stArr at hM
  have HX5 := Lib.hid hX5
  have HSX := Lib.hid hs5
  have HGE : Hid (w2.heap.size ≤ w3.heap.size ∧ w3.heap.size ≤ w4.heap.size) := Lib.hid ⟨by have := bk_lt HR3.out; have := HB3.out.size; have := HRD.out.lt; omega, hq.size⟩
  clear hs hr hq hb5 hw5 q HRD hE kc1 hX5 hs5
  go_wp2_with (first
    | (refine wpList_store_row rfl 39 _ _ rfl w4.heap.size (xA x a1 n1 c1 a2 n2 c2 a3 n3 c3 a4 n4 c4 a5 n5 c5 a6 n6 c6 a7 n7 c7 a8 n8 c8 a9 n9 c9) rfl rfl _ _ (heap_alloc_new _ _) (by kernel_rfl) rfl (by simp [Value.oneCell']) ?_; rw [← HW5.out])
    | (refine wpList_load_row rfl 39 _ rfl w4.heap.size rfl _ (xA x a1 n1 c1 a2 n2 c2 a3 n3 c3 a4 n4 c4 a5 n5 c5 a6 n6 c6 a7 n7 c7 a8 n8 c8 a9 n9 c9) (0, 0) _ HX5.out Tryz.underlying39 rfl (by kernel_rfl) ?_))
  refine hM.mono ?_
  rintro e w6 ⟨rfl, hb6⟩
  have HR6 : Hid (w6.heap[w.heap.size]? = some (.cells (s00 0 z0 z0 nS nS nS nS nS nS nS 0 0) 39 (0, 0))) := Lib.hid ((hb6.block _ (bk_lt HR5.out)).trans HR5.out)
  have HR26 : Hid (w6.heap[w.heap.size + 1]? = some (.cells (s00 0 z0 z0 nS nS nS nS nS nS nS 0 0) 39 (0, 0))) := Lib.hid ((hb6.block _ (bk_lt HR25.out)).trans HR25.out)
  have HX6 : Hid (w6.heap[w4.heap.size]? = some (.cells (xA x a1 n1 c1 a2 n2 c2 a3 n3 c3 a4 n4 c4 a5 n5 c5 a6 n6 c6 a7 n7 c7 a8 n8 c8 a9 n9 c9) 39 (0, 0))) := Lib.hid ((hb6.block _ (bk_lt HX5.out)).trans HX5.out)
  have HT6 : Hid (Below w.heap.size w w6) := Lib.hid (HT5.out.trans (hb6.mono HT5.out.size))
  have HS6 : Hid (StHeld (w3.heap.size ≤ ·) w6 x (.slice a1 n1 c1) (.slice a2 n2 c2) (.slice a3 n3 c3) (.slice a4 n4 c4) (.slice a5 n5 c5) (.slice a6 n6 c6) (.slice a7 n7 c7) (.slice a8 n8 c8) (.slice a9 n9 c9)) := Lib.hid (HSX.out.kept hb6.size (fun k _ hk => hb6.block k hk))
  clear hb6 hM
  go_wp2_with (first
    | (refine wpList_load_row rfl 39 _ rfl w4.heap.size rfl _ (xA x a1 n1 c1 a2 n2 c2 a3 n3 c3 a4 n4 c4 a5 n5 c5 a6 n6 c6 a7 n7 c7 a8 n8 c8 a9 n9 c9) (0, 0) _ HX6.out Tryz.underlying39 rfl (by kernel_rfl) ?_)
    | (refine wpList_load_row rfl 39 _ rfl (w.heap.size + 1) rfl _ (s00 0 z0 z0 nS nS nS nS nS nS nS 0 0) (0, 0) _ HR26.out Tryz.underlying39 rfl (by kernel_rfl) ?_)
    | (refine wpList_store_row rfl 39 _ _ rfl w.heap.size (xA x a1 n1 c1 a2 n2 c2 a3 n3 c3 a4 n4 c4 a5 n5 c5 a6 n6 c6 a7 n7 c7 a8 n8 c8 a9 n9 c9) rfl rfl _ _ HR6.out (by kernel_rfl) rfl (by simp [Value.oneCell']) ?_))
  refine bodyPost_ret (row_results3 Tryz.results29 (setRow_heap _ _ _ _ _ _ HR6.out) rfl rfl rfl rfl) rfl ⟨⟨.slice a1 n1 c1, .slice a2 n2 c2, .slice a3 n3 c3, .slice a4 n4 c4, .slice a5 n5 c5, .slice a6 n6 c6, .slice a7 n7 c7, .slice a8 n8 c8, .slice a9 n9 c9, rfl, ?_⟩, ?_⟩
  · exact (HS6.out.turn (Turn.setRow (· = w.heap.size) _ _ _ rfl) (fun k hk e => by have hk' : w3.heap.size ≤ k := hk; have := bk_lt HR3.out; omega)).mono (fun k hk _ => by have hk' : w3.heap.size ≤ k := hk; have := bk_lt HR3.out; show w.heap.size ≤ k; omega)
  · exact ((Turn.of_below HT6.out : Turn (· = w.heap.size) w w6).trans (Turn.setRow (· = w.heap.size) _ _ _ rfl)).below (fun k hk e => by omega)
end
section
open Go.RowKit Go.Shelf
set_option linter.unusedVariables false

/-- the load of a whole struct, in a region that draws its order -/
theorem quiet_load_row {P : Program} {o : Oper} {a : Act} {C : World → Prop} {K : Act → Prop} (ty : TypeId) (x : Operand) (ho : o.op = .load ty x)
    (g : Nat) (hx : a.eval x = .pointer (some ⟨g, 0, none⟩)) (t : TypeId) (cs : Array Value) (fr : Nat × Nat) (d : TypeDesc) (hg : ∀ w, C w → w.heap[g]? = some (.cells cs t fr))
    (hu : P.underlying ty = some d) (hd : (match d with | .struct _ | .array _ _ => true | _ => false) = true) (hi : (P.info? ty).map (·.size) = some cs.size)
    (hk : K (a.put o.dst (.agg cs))) : o.quiet P a C K :=
  ⟨.agg cs, fun w hw => by
    unfold Oper.quietAt execOp
    simp only [ho, hx, Instr.loadAt, Instr.sureAddr, Sem.run_bind, Sem.run_pure, Result.andThen_ok, run_loadVar_row w g t ty cs fr d (hg w hw) hu hd hi]
    exact ⟨rfl, rfl⟩, hk⟩
theorem setRow_same {w : World} {g : Nat} {cs : Array Value} {t : TypeId} {fr : Nat × Nat} (h : w.heap[g]? = some (.cells cs t fr)) : w.setRow g cs = w := by
  have hlt := bk_lt h
  have : (w.setRow g cs).heap = w.heap := by
    apply Array.ext_getElem?
    intro k
    by_cases hk : k = g
    · subst hk
      rw [setRow_heap w k _ _ _ _ h, h]
    · exact setRow_other w g k cs hk
  show ({ w with heap := (w.setRow g cs).heap } : World) = w
  rw [this]
/-- the store of what is there -/
theorem quiet_store_same {P : Program} {o : Oper} {a : Act} {C : World → Prop} {K : Act → Prop} (ty : TypeId) (x y : Operand) (ho : o.op = .store ty x y)
    (g : Nat) (cells : Array Value) (hx : a.eval x = .pointer (some ⟨g, 0, none⟩)) (hy : a.eval y = .agg cells)
    (t : TypeId) (hg : ∀ w, C w → w.heap[g]? = some (.cells cells t (0, 0))) (hi : (P.info? ty).map (·.size) = some cells.size)
    (h1 : cells.all (·.oneCell') = true) (hk : K (a.put o.dst undef)) : o.quiet P a C K :=
  ⟨undef, fun w hw => by
    unfold Oper.quietAt execOp
    simp only [ho, hx, hy, Instr.storeAt, Instr.sureAddr, Sem.run_bind, Sem.run_pure, Result.andThen_ok, run_storeVar_row w g t ty cells cells (hg w hw) hi rfl h1, setRow_same (hg w hw)]
    exact ⟨rfl, rfl⟩, hk⟩
set_option maxRecDepth 100000 in
set_option maxHeartbeats 16000000 in
theorem parseS_rest (s : ByteArray) (l : List WordM) (h : ofB s.data.toList = .ok l) (hsh : ∀ x ∈ l, x.s.length ≤ 5000) (hl : l.length ≤ 800000) (w : World) (hw : Wo w) (x : StM) (y : WordM) (r : List WordM) (wr : Bool) (hx : statementP (exprN (l.length + 1)) ⟨l, false⟩ = (x, ⟨y :: r, wr⟩)) :
    Calls Tryz.prog 29 #[.string s, .func (.func 30) #[] #[], .func (.func 13) #[] #[]] w fun e w' => e = .returned (.tuple #[.agg stZero, .int .i64 (y.pos : Int), .int .i64 4]) ∧ Below w.heap.size w w' := by
  have hC := fun W (hb : Below w.heap.size w W) => of_ok s l h W (hw.kept hb)
  clear h
  go_enter Tryz.func29, Tryz.ntmps29
  go_wp2_with fail
  refine (hC _ ((below_alloc _ _).trans ((below_alloc _ _).mono (by simp)))).mono ?_
  rintro e w1 ⟨v, rfl, hrow, hb1⟩
  obtain ⟨ao, cap, hvv⟩ := hrow.form
  subst hvv
  have hR : w1.heap[w.heap.size]? = some (.cells (s00 0 z0 z0 nS nS nS nS nS nS nS 0 0) 39 (0, 0)) := (hb1.block _ (by simp; omega)).trans ((heap_alloc_old _ _ (by simp)).trans (heap_alloc_new _ _))
  have hR2 : w1.heap[w.heap.size + 1]? = some (.cells (s00 0 z0 z0 nS nS nS nS nS nS nS 0 0) 39 (0, 0)) := (hb1.block _ (by simp)).trans (by rw [show w.heap.size + 1 = (w.alloc (.cells (s00 0 z0 z0 nS nS nS nS nS nS nS 0 0) 39)).heap.size by simp]; exact heap_alloc_new _ _)
  have HB1 := Lib.hid (((below_alloc w (.cells (s00 0 z0 z0 nS nS nS nS nS nS nS 0 0) 39)).trans ((below_alloc _ (.cells (s00 0 z0 z0 nS nS nS nS nS nS nS 0 0) 39)).mono (by simp))).trans (hb1.mono (by simp; omega)))
  have HR := Lib.hid hR
  have HR2 := Lib.hid hR2
  have HROW := Lib.hid hrow
  clear hb1 hR hR2 hC
  go_wp2_with fail
  refine (operators_tr w1).mono ?_
  rintro e w2 ⟨rfl, hmap, hb2⟩
  obtain ⟨w3, hw3⟩ : ∃ w3, w3 = w2.alloc (.cells #[.slice ao l.length cap, .bool false, .map (some w1.heap.size)] 107) := ⟨_, rfl⟩
  have hb3 : Below w2.heap.size w2 w3 := by rw [hw3]; exact below_alloc _ _
  have hs3 : w3.heap.size = w2.heap.size + 1 := by rw [hw3]; simp
  have HW3 := Lib.hid hw3
  have HRD : Hid (RdAt (w2.heap.size + 1) w3 w2.heap.size ⟨l, false⟩) := Lib.hid ⟨.slice ao l.length cap, w1.heap.size, ⟨by rw [hw3]; exact heap_alloc_new _ _, RowT.of_W HROW.out (hb2.trans (hb3.mono hb2.size)) hb2.size (Nat.le_trans hb2.size (Nat.le_succ _)), hmap.kept (hb3.block _ hmap.lt), Nat.ne_of_lt hmap.lt, ⟨Nat.lt_succ_self _, Nat.lt_succ_of_lt hmap.lt⟩, Nat.le_of_eq hs3.symm, hsh⟩⟩
  have HB3 := Lib.hid (HB1.out.trans ((hb2.trans (hb3.mono hb2.size)).mono HB1.out.size))
  have HR3 : Hid (w3.heap[w.heap.size]? = some (.cells (s00 0 z0 z0 nS nS nS nS nS nS nS 0 0) 39 (0, 0))) := Lib.hid (((hb2.trans (hb3.mono hb2.size)).block _ (bk_lt HR.out)).trans HR.out)
  have HR23 : Hid (w3.heap[w.heap.size + 1]? = some (.cells (s00 0 z0 z0 nS nS nS nS nS nS nS 0 0) 39 (0, 0))) := Lib.hid (((hb2.trans (hb3.mono hb2.size)).block _ (bk_lt HR2.out)).trans HR2.out)
  have hmle : w1.heap.size ≤ w2.heap.size := hb2.size
  clear hmap hb2 hb3 hw3 hs3
  go_wp2_with (rw [← HW3.out])
  have hE := statement_tr (w2.heap.size + 1) w2.heap.size l.length (by omega) (exprN (l.length + 1)) (expr_tr (w2.heap.size + 1) w2.heap.size (l.length + 1) l.length (Nat.lt_succ_self _) hl) (exprN_le _) ⟨l, false⟩ w3 HRD.out (Nat.le_refl _)
  rw [hx] at hE
  refine hE.mono ?_
  rintro e w4 ⟨v1, v2, v3, v4, v5, v6, v7, v8, v9, rfl, hs, hr, hq⟩
  obtain ⟨a1, c1, e1, _⟩ := hs.hc.slice
  obtain ⟨a2, c2, e2, _⟩ := hs.hn.slice
  obtain ⟨a3, c3, e3, _⟩ := hs.hr.slice
  obtain ⟨a4, c4, e4, _⟩ := hs.hi.slice
  obtain ⟨a5, c5, e5, _⟩ := hs.hf.slice
  obtain ⟨a6, n6, c6, e6⟩ := hs.hu.slice
  obtain ⟨a7, c7, e7, _⟩ := hs.hg.slice
  obtain ⟨a8, n8, c8, e8⟩ := hs.hh.slice
  obtain ⟨a9, c9, e9, _⟩ := hs.ho.slice
  dsimp only at hs e1 e2 e3 e4 e5 e6 e7 e8 e9 hr hq
  generalize hn1 : x.columns.length = n1 at e1
  generalize hn2 : x.names.length = n2 at e2
  generalize hn3 : x.rows.length = n3 at e3
  generalize hn4 : x.items.length = n4 at e4
  generalize hn5 : x.tables.length = n5 at e5
  generalize hn7 : x.group.length = n7 at e7
  generalize hn9 : x.order.length = n9 at e9
  subst e1 e2 e3 e4 e5 e6 e7 e8 e9
  clear hn1 hn2 hn3 hn4 hn5 hn7 hn9
  unfold stArr
  dsimp only
  obtain ⟨w5, hw5⟩ : ∃ w5, w5 = (w4.alloc (.cells (s00 0 z0 z0 nS nS nS nS nS nS nS 0 0) 39)).setRow w4.heap.size (xA x a1 n1 c1 a2 n2 c2 a3 n3 c3 a4 n4 c4 a5 n5 c5 a6 n6 c6 a7 n7 c7 a8 n8 c8 a9 n9 c9) := ⟨_, rfl⟩
  have hb5 : Below w4.heap.size w4 w5 := by rw [hw5]; exact Below.laid (Below.refl _ _) (Nat.le_refl _) _ _
  have HW5 := Lib.hid hw5
  obtain ⟨v', M', q⟩ := hr.kept hb5
  obtain ⟨g, o, cap', hv', p1, p2, p3, p4, q0, q1, q2, q3, _⟩ := q.row.first
  subst hv'
  have hpos : (0 : Int) < (r.length : Int) + 1 := by omega
  have kc0 : w5.cell? ⟨w2.heap.size, 0, none⟩ = some (.slice (some ⟨g, o, none⟩) (r.length + 1) cap') := bk_cell q.at_ 0
  have hlow : w.heap.size + 1 < w2.heap.size := by have := bk_lt HR2.out; have := hmle; omega
  have HR5 : Hid (w5.heap[w.heap.size]? = some (.cells (s00 0 z0 z0 nS nS nS nS nS nS nS 0 0) 39 (0, 0))) := Lib.hid ((hb5.block _ (Nat.lt_of_lt_of_le (bk_lt HR3.out) hq.size)).trans ((hq.block _ (bk_lt HR3.out) (by omega)).trans HR3.out))
  have HR25 : Hid (w5.heap[w.heap.size + 1]? = some (.cells (s00 0 z0 z0 nS nS nS nS nS nS nS 0 0) 39 (0, 0))) := Lib.hid ((hb5.block _ (Nat.lt_of_lt_of_le (bk_lt HR23.out) hq.size)).trans ((hq.block _ (bk_lt HR23.out) (by omega)).trans HR23.out))
  have HT5 : Hid (Below w.heap.size w w5) := Lib.hid ((((Turn.of_below HB3.out : Turn (· = w2.heap.size) w w3).trans hq).trans (Turn.of_below hb5)).below (fun k hk e => by omega))
  have hgR : ¬ g = w.heap.size := by
    intro e
    rw [e] at q0 q1 q2
    have e0 := (bk_cell HR5.out o).symm.trans q0
    have e1 := (bk_cell HR5.out (o + 1)).symm.trans q1
    have e2 := (bk_cell HR5.out (o + 2)).symm.trans q2
    have ho : o < 30 := by
      rcases Nat.lt_or_ge o 30 with h | h
      · exact h
      · rw [Array.getElem?_eq_none (by simpa using h)] at e0; cases e0
    have : o = 0 ∨ o = 1 ∨ o = 2 ∨ o = 3 ∨ o = 4 ∨ o = 5 ∨ o = 6 ∨ o = 7 ∨ o = 8 ∨ o = 9 ∨ o = 10 ∨ o = 11 ∨ o = 12 ∨ o = 13 ∨ o = 14 ∨ o = 15 ∨ o = 16 ∨ o = 17 ∨ o = 18 ∨ o = 19 ∨ o = 20 ∨ o = 21 ∨ o = 22 ∨ o = 23 ∨ o = 24 ∨ o = 25 ∨ o = 26 ∨ o = 27 ∨ o = 28 ∨ o = 29 := by omega
    clear q0 q1 q2
    rcases this with rfl | rfl | rfl | rfl | rfl | rfl | rfl | rfl | rfl | rfl | rfl | rfl | rfl | rfl | rfl | rfl | rfl | rfl | rfl | rfl | rfl | rfl | rfl | rfl | rfl | rfl | rfl | rfl | rfl | rfl <;> simp at e0 e1 e2
  clear hs hr hq hb5 hw5 q p1 p2 p3 p4 q0 q1 q2 HRD hE
  go_wp2_with (first
    | (refine wpList_store_row rfl 39 _ _ rfl w4.heap.size (xA x a1 n1 c1 a2 n2 c2 a3 n3 c3 a4 n4 c4 a5 n5 c5 a6 n6 c6 a7 n7 c7 a8 n8 c8 a9 n9 c9) rfl rfl _ _ (heap_alloc_new _ _) (by kernel_rfl) rfl (by simp [Value.oneCell']) ?_; rw [← HW5.out])
    | (refine wpList_load_row rfl 39 _ rfl (w.heap.size + 1) rfl _ (s00 0 z0 z0 nS nS nS nS nS nS nS 0 0) (0, 0) _ HR25.out Tryz.underlying39 rfl (by kernel_rfl) ?_)
    | (refine wpList_store_row rfl 39 _ _ rfl w.heap.size (s00 0 z0 z0 nS nS nS nS nS nS nS 0 0) rfl rfl _ _ HR5.out (by kernel_rfl) rfl (by simp [Value.oneCell']) ?_))
  have qc0 := bwOf_cell w5 _ _ kc0
  have qc3 := bwOf_cell w5 _ _ q3
  refine wp_region_bw (w := w5) (by kernel_rfl) (by kernel_rfl) ?_
  refine BigFrame.wpQuiet_want rfl (fun K hK => quiet_load_row 39 _ rfl (w.heap.size + 1) rfl 39 (s00 0 z0 z0 nS nS nS nS nS nS nS 0 0) (0, 0) _ (by rintro W ⟨n, rfl⟩; exact ((bwOf_below w5 n).block _ (bk_lt HR25.out)).trans HR25.out) Tryz.underlying39 rfl (by kernel_rfl) (hK _ ?_))
  simp only [Act.put, List.setIfInBounds_toArray, List.set_cons_zero, List.set_cons_succ]
  iterate 7 (go_big_quiet_step (fail))
  refine BigFrame.wpQuiet_want rfl (fun K hK => quiet_store_same 39 _ _ rfl w.heap.size (s00 0 z0 z0 nS nS nS nS nS nS nS 0 0) rfl rfl 39 (by rintro W ⟨n, rfl⟩; exact ((bwOf_below w5 n).block _ (bk_lt HR5.out)).trans HR5.out) (by kernel_rfl) (by simp [Value.oneCell']) (hK _ ?_))
  simp only [Act.put, List.setIfInBounds_toArray, List.set_cons_zero, List.set_cons_succ]
  iterate 2 (go_big_quiet_step (fail))
  refine wpQuiet_nil ?_
  rintro w6 ⟨m, rfl⟩
  go_wp2_with fail
  refine bodyPost_ret (row_results3 Tryz.results29 (((bwOf_below w5 m).block _ (bk_lt HR5.out)).trans HR5.out) rfl rfl rfl rfl) rfl ⟨rfl, ?_⟩
  exact HT5.out.trans ((bwOf_below w5 m).mono HT5.out.size)
end
section
open Go.RowKit Go.Shelf
set_option linter.unusedVariables false

theorem ofB_err {s : List UInt8} {a f : Nat} (h : ofB s = .bad a f) : f ≠ 0 := by
  rw [ofB_lex] at h
  split at h
  · injection h with _ h2; omega
  · exact lexB_err _ _ _ _ _ h
theorem sh_of_few {l : List UInt8} (h : Few l) : Sh l := Nat.le_trans h (by decide)
theorem Exs.all_imp {P Q : List UInt8 → Prop} (h : ∀ l, P l → Q l) : ∀ l : Exs, l.all P → l.all Q
  | .nil, _ => trivial
  | .cons a l r, q => ⟨⟨h _ q.1.1, h _ q.1.2.1, h _ q.1.2.2⟩, Exs.all_imp h l q.2.1, Exs.all_imp h r q.2.2⟩
theorem Ex.all_imp {P Q : List UInt8 → Prop} (h : ∀ l, P l → Q l) {x : Ex} (q : x.all P) : x.all Q := ⟨⟨h _ q.1.1, h _ q.1.2.1, h _ q.1.2.2⟩, Exs.all_imp h _ q.2⟩
theorem StM.all_imp {P Q : List UInt8 → Prop} (h : ∀ l, P l → Q l) {x : StM} (q : x.all P) : x.all Q :=
  ⟨h _ q.name, h _ q.table, fun c hc => h _ (q.columns c hc), fun c hc => h _ (q.names c hc), fun l hl y hy => Ex.all_imp h (q.rows l hl y hy), fun i hi => ⟨h _ (q.items i hi).1, Ex.all_imp h (q.items i hi).2⟩, fun f hf => ⟨h _ (q.tables f hf).1, h _ (q.tables f hf).2.1, Ex.all_imp h (q.tables f hf).2.2⟩, Ex.all_imp h q.cond, fun y hy => Ex.all_imp h (q.group y hy), Ex.all_imp h q.having_, fun y hy => Ex.all_imp h (q.order y hy)⟩
/-- what Expr tells -/
def TellsX (o : Out Ex) (w : World) (e : Ending) (w' : World) : Prop :=
  (match o with
    | .ok x => ∃ u, e = .returned (.tuple #[exVal x.a u, .int .i64 0, .int .i64 0]) ∧ REs (w.heap.size ≤ ·) w' u x.l
    | .bad p f => f ≠ 0 ∧ e = .returned (.tuple #[exVal noA nS, .int .i64 (p : Int), .int .i64 (f : Int)])) ∧ Below w.heap.size w w'
/-- what Of tells -/
def TellsS (o : Out StM) (w : World) (e : Ending) (w' : World) : Prop :=
  (match o with
    | .ok x => ∃ v1 v2 v3 v4 v5 v6 v7 v8 v9, e = .returned (.tuple #[.agg (stArr x v1 v2 v3 v4 v5 v6 v7 v8 v9), .int .i64 0, .int .i64 0]) ∧ StHeld (w.heap.size ≤ ·) w' x v1 v2 v3 v4 v5 v6 v7 v8 v9
    | .bad p f => f ≠ 0 ∧ e = .returned (.tuple #[.agg stZero, .int .i64 (p : Int), .int .i64 (f : Int)])) ∧ Below w.heap.size w w'
theorem parseX_any (s : ByteArray) (w : World) (hw : Wo w) :
    Calls Tryz.prog 34 #[.string s, .func (.func 35) #[] #[], .func (.func 36) #[] #[]] w (TellsX (exprB s.data.toList) w) := by
  unfold exprB outP
  cases h : ofB s.data.toList with
  | bad a f => exact (parseE_bad s a f h (ofB_err h) w hw).mono fun e w' q => ⟨⟨ofB_err h, q.1⟩, q.2⟩
  | ok l =>
    obtain ⟨hl, hsh⟩ := ofB_few h
    dsimp only
    obtain ⟨x, ⟨r, wr⟩⟩ : ∃ x : Ex × St, True := ⟨exprN (l.length + 1) ⟨l, false⟩, trivial⟩
    cases hx : exprN (l.length + 1) ⟨l, false⟩ with
    | mk x t =>
      obtain ⟨r, wr⟩ := t
      dsimp only
      cases r with
      | cons y r => exact (parseE_rest s l h hsh hl w hw x y r wr hx).mono fun e w' q => ⟨⟨by decide, q.1⟩, q.2⟩
      | nil =>
        dsimp only
        cases wr with
        | true =>
          rw [if_pos rfl]
          exact (parseE_wrong s l h hsh hl w hw x hx).mono fun e w' q => ⟨⟨by decide, by rw [str_len]; exact q.1⟩, q.2⟩
        | false =>
          rw [if_neg (by simp)]
          have hall : x.all Few := by
            have := (exprN_all few_nil (l.length + 1) ⟨l, false⟩ hsh).1
            rw [hx] at this; exact this
          have hS : Exs.short (.cons x.a x.l .nil) := Ex.short_of (Ex.all_imp (fun _ => sh_of_few) hall)
          cases hf : fineE x with
          | false =>
            rw [if_neg (by simp)]
            exact (parseE_may s l h hsh hl w hw x hx hS hf).mono fun e w' q => ⟨⟨by decide, q.1⟩, q.2⟩
          | true =>
            rw [if_pos rfl]
            exact (parseE_ok s l h hsh hl w hw x hx hS hf).mono fun e w' q => ⟨q.1, q.2⟩
theorem parseSt_any (s : ByteArray) (w : World) (hw : Wo w) :
    Calls Tryz.prog 29 #[.string s, .func (.func 30) #[] #[], .func (.func 13) #[] #[]] w (TellsS (stmtB s.data.toList) w) := by
  unfold stmtB outP
  cases h : ofB s.data.toList with
  | bad a f => exact (parseS_bad s a f h (ofB_err h) w hw).mono fun e w' q => ⟨⟨ofB_err h, q.1⟩, q.2⟩
  | ok l =>
    obtain ⟨hl, hsh⟩ := ofB_few h
    dsimp only
    cases hx : statementP (exprN (l.length + 1)) ⟨l, false⟩ with
    | mk x t =>
      obtain ⟨r, wr⟩ := t
      dsimp only
      cases r with
      | cons y r => exact (parseS_rest s l h hsh hl w hw x y r wr hx).mono fun e w' q => ⟨⟨by decide, q.1⟩, q.2⟩
      | nil =>
        dsimp only
        cases wr with
        | true =>
          rw [if_pos rfl]
          exact (parseS_wrong s l h hsh hl w hw x hx).mono fun e w' q => ⟨⟨by decide, by rw [str_len]; exact q.1⟩, q.2⟩
        | false =>
          rw [if_neg (by simp)]
          have hall : x.all Few := by
            have := (statementP_all few_nil (exprN_all few_nil (l.length + 1)) ⟨l, false⟩ hsh).1
            rw [hx] at this; exact this
          have hS : x.all Sh := StM.all_imp (fun _ => sh_of_few) hall
          cases hf : checkB x with
          | false =>
            rw [if_neg (by simp)]
            exact (parseS_may s l h hsh hl w hw x hx hS hf).mono fun e w' q => ⟨⟨by decide, q.1⟩, q.2⟩
          | true =>
            rw [if_pos rfl]
            exact (parseS_ok s l h hsh hl w hw x hx hS hf).mono fun e w' q => ⟨q.1, q.2⟩
/-- what is told of a text's statement is short -/
theorem stmtB_all {s : List UInt8} {x : StM} (h : stmtB s = .ok x) : x.all Sh ∧ checkB x = true := by
  unfold stmtB outP at h
  cases ho : ofB s with
  | bad a f => rw [ho] at h; cases h
  | ok l =>
    rw [ho] at h
    dsimp only at h
    obtain ⟨hl, hsh⟩ := ofB_few ho
    have hall := (statementP_all few_nil (exprN_all few_nil (l.length + 1)) ⟨l, false⟩ hsh).1
    split at h
    · cases h
    · split at h
      · cases h
      · split at h
        · rename_i hc
          injection h with h
          subst h
          exact ⟨StM.all_imp (fun _ => sh_of_few) hall, hc⟩
        · cases h
set_option maxRecDepth 100000 in
set_option maxHeartbeats 4000000 in
theorem expr_any (s : ByteArray) (w : World) (hw : Wo w) : Calls Tryz.prog 14 #[.string s] w (TellsX (exprB s.data.toList) w) := by
  have hC := fun W (hb : Below w.heap.size w W) => parseX_any s W (hw.kept hb)
  obtain ⟨o, ho⟩ : ∃ o, exprB s.data.toList = o := ⟨_, rfl⟩
  rw [ho] at hC ⊢
  clear ho
  have hz : (w.alloc (.cells zA 36)).heap[w.heap.size]? = some (.cells zA 36 (0, 0)) := heap_alloc_new _ _
  go_enter Tryz.func14, Tryz.ntmps14
  go_wp2_with fail
  refine (hC _ (below_alloc _ _)).mono ?_
  rintro e w1 ⟨ht, hb⟩
  have HR := Lib.hid ((hb.block w.heap.size (by simp)).trans hz)
  have HB := Lib.hid ((below_alloc w _).trans (hb.mono (by simp)))
  clear hz hC
  cases o with
  | ok x =>
    obtain ⟨u, rfl, hs⟩ := ht
    have HS := Lib.hid (hs.mono (Q := fun k => w.heap.size < k) (fun k hk _ => by have hk' : (w.alloc (.cells zA 36)).heap.size ≤ k := hk; simp at hk'; omega))
    obtain ⟨ao, n, c, rfl⟩ := hs.slice
    unfold exVal
    clear hs hb
    go_wp2_with (refine wpList_store_row rfl 36 _ _ rfl w.heap.size (eA x.a (.slice ao n c)) rfl rfl _ _ HR.out (by kernel_rfl) rfl (by simp [Value.oneCell']) ?_)
    refine bodyPost_ret (ex_results3 (a := x.a) (u := .slice ao n c) Tryz.results14 (show ExB _ w.heap.size x.a (.slice ao n c) from setRow_heap _ _ _ _ _ _ HR.out) rfl rfl rfl) rfl ⟨⟨_, rfl, ?_⟩, ?_⟩
    · exact (HS.out.turn (Turn.setRow (· = w.heap.size) _ _ _ rfl) (fun k hk e => by have hk' : w.heap.size < k := hk; omega)).mono (fun k hk _ => by have hk' : w.heap.size < k := hk; show w.heap.size ≤ k; omega)
    · exact ((Turn.of_below HB.out : Turn (· = w.heap.size) w w1).trans (Turn.setRow (· = w.heap.size) _ _ _ rfl)).below (fun k hk e => by omega)
  | bad p f =>
    obtain ⟨hf, rfl⟩ := ht
    unfold exVal noA
    dsimp only
    clear hb
    go_wp2_with (refine wpList_store_row rfl 36 _ _ rfl w.heap.size zA rfl rfl _ _ HR.out (by kernel_rfl) rfl (by simp [Value.oneCell']) ?_)
    refine bodyPost_ret (ex_results3 (a := noA) (u := .slice none 0 0) Tryz.results14 (show ExB _ w.heap.size noA nS from setRow_heap _ _ _ _ _ _ HR.out) rfl rfl rfl) rfl ⟨⟨hf, rfl⟩, ?_⟩
    exact ((Turn.of_below HB.out : Turn (· = w.heap.size) w w1).trans (Turn.setRow (· = w.heap.size) _ _ _ rfl)).below (fun k hk e => by omega)
end
end Go.Proofs.YtenmnpbjnbdeaaaGreatDoor
