/-
  WHAT IS PROVED: the expression of a text: where the text has no words.
-/
import Derived.Test.YtenmnpbjnbdeaaaGreatDoorMv
namespace Go.Proofs.YtenmnpbjnbdeaaaGreatDoor
section
open Go.RowKit Go.Shelf
set_option linter.unusedVariables false

/-- what a function hands back whose first result lies in a block -/
theorem ex_results3 {fn : Func} {tmps : Array Value} {W : World} {R k p q : Nat} {a : Atom} {u v7 v8 : Value} (hres : fn.results = #[.cell k 36, .tmp p, .tmp q]) (h : ExB W R a u) (h2 : tmps[k]? = some (.pointer (some ⟨R, 0, none⟩))) (h7 : tmps[p]? = some v7) (h8 : tmps[q]? = some v8) :
    (results fn tmps).run Tryz.prog W = .ok (.tuple #[exVal a u, v7, v8]) W := by
  obtain ⟨c0, c1, c2, c3, c4, c5, c6, c7, c8⟩ := h.cells
  simp [results, hres, h2, h7, h8, go_sem, c0, c1, c2, c3, c4, c5, c6, c7, c8, exVal]
set_option maxRecDepth 100000 in
set_option maxHeartbeats 4000000 in
theorem parseE_bad (s : ByteArray) (a f : Nat) (h : ofB s.data.toList = .bad a f) (hf : f ≠ 0) (w : World) (hw : Wo w) :
    Calls Tryz.prog 34 #[.string s, .func (.func 35) #[] #[], .func (.func 36) #[] #[]] w fun e w' => e = .returned (.tuple #[exVal noA nS, .int .i64 (a : Int), .int .i64 (f : Int)]) ∧ Below w.heap.size w w' := by
  have hC := fun W (hb : Below w.heap.size w W) => of_bad s a f h W (hw.kept hb)
  have hne : ((f : Int) == 0) = false := by rw [beq_eq_false_iff_ne]; omega
  clear h
  go_enter Tryz.func34, Tryz.ntmps34
  go_wp2_with fail
  refine (hC _ ((below_alloc _ _).trans ((below_alloc _ _).mono (by simp)))).mono ?_
  rintro e w1 ⟨ao, cap, rfl, hb1⟩
  have hR : w1.heap[w.heap.size]? = some (.cells zA 36 (0, 0)) := (hb1.block _ (by simp; omega)).trans ((heap_alloc_old _ _ (by simp)).trans (heap_alloc_new _ _))
  have hR2 : w1.heap[w.heap.size + 1]? = some (.cells zA 36 (0, 0)) := (hb1.block _ (by simp)).trans (by rw [show w.heap.size + 1 = (w.alloc (.cells zA 36)).heap.size by simp]; exact heap_alloc_new _ _)
  have HB1 := Lib.hid (((below_alloc w (.cells zA 36)).trans ((below_alloc _ (.cells zA 36)).mono (by simp))).trans (hb1.mono (by simp; omega)))
  have HR := Lib.hid hR
  have HR2 := Lib.hid hR2
  clear hb1 hR hR2
  go_wp2_with (first
    | (refine wpList_load_row rfl 36 _ rfl (w.heap.size + 1) rfl _ zA (0, 0) _ HR2.out Tryz.underlying36 rfl (by kernel_rfl) ?_)
    | (refine wpList_store_row rfl 36 _ _ rfl w.heap.size zA rfl rfl _ _ HR.out (by kernel_rfl) rfl (by simp [Value.oneCell']) ?_))
  refine bodyPost_ret (ex_results3 (a := noA) (u := .slice none 0 0) Tryz.results34 (show ExB (w1.setRow w.heap.size zA) w.heap.size noA nS from setRow_heap _ _ _ _ _ _ HR.out) rfl rfl rfl) rfl ⟨rfl, ?_⟩
  exact ((Turn.of_below HB1.out : Turn (· = w.heap.size) w w1).trans (Turn.setRow (· = w.heap.size) _ _ _ rfl)).below (fun k hk e => by omega)
theorem RowW.form {w : World} {v : Value} {l : List WordM} (h : RowW w v l) : ∃ ao cap, v = .slice ao l.length cap := by
  rcases h with ⟨rfl, rfl⟩ | ⟨g, cap, rfl, _⟩ <;> exact ⟨_, _, rfl⟩
theorem RowT.of_W {N B : Nat} {w w' : World} {v : Value} {l : List WordM} (h : RowW w v l) (hb : Below w.heap.size w w') (hB : w.heap.size ≤ B) (hN : w.heap.size ≤ N) : RowT N B w' v l := by
  rcases h with ⟨rfl, rfl⟩ | ⟨g, cap, rfl, h2, h3, h4, h5⟩
  · exact ⟨none, 0, rfl, Nat.le_refl _, by omega, .inl rfl⟩
  · exact ⟨_, cap, rfl, h2, h3, .inr ⟨g, 0, rfl, ⟨by omega, by omega⟩, Nat.lt_of_lt_of_le h4 hb.size, fun j u hu => by rw [Nat.zero_add]; exact (World.cell?_of_block (hb.block g h4)).trans (h5 j u hu)⟩⟩
set_option maxRecDepth 100000 in
set_option maxHeartbeats 8000000 in
theorem parseE_rest (s : ByteArray) (l : List WordM) (h : ofB s.data.toList = .ok l) (hsh : ∀ x ∈ l, x.s.length ≤ 5000) (hl : l.length ≤ 800000) (w : World) (hw : Wo w) (x : Ex) (y : WordM) (r : List WordM) (wr : Bool) (hx : exprN (l.length + 1) ⟨l, false⟩ = (x, ⟨y :: r, wr⟩)) :
    Calls Tryz.prog 34 #[.string s, .func (.func 35) #[] #[], .func (.func 36) #[] #[]] w fun e w' => e = .returned (.tuple #[exVal noA nS, .int .i64 (y.pos : Int), .int .i64 4]) ∧ Below w.heap.size w w' := by
  have hC := fun W (hb : Below w.heap.size w W) => of_ok s l h W (hw.kept hb)
  clear h
  go_enter Tryz.func34, Tryz.ntmps34
  go_wp2_with fail
  refine (hC _ ((below_alloc _ _).trans ((below_alloc _ _).mono (by simp)))).mono ?_
  rintro e w1 ⟨v, rfl, hrow, hb1⟩
  obtain ⟨ao, cap, hvv⟩ := hrow.form
  subst hvv
  have hR : w1.heap[w.heap.size]? = some (.cells zA 36 (0, 0)) := (hb1.block _ (by simp; omega)).trans ((heap_alloc_old _ _ (by simp)).trans (heap_alloc_new _ _))
  have hR2 : w1.heap[w.heap.size + 1]? = some (.cells zA 36 (0, 0)) := (hb1.block _ (by simp)).trans (by rw [show w.heap.size + 1 = (w.alloc (.cells zA 36)).heap.size by simp]; exact heap_alloc_new _ _)
  have HB1 := Lib.hid (((below_alloc w (.cells zA 36)).trans ((below_alloc _ (.cells zA 36)).mono (by simp))).trans (hb1.mono (by simp; omega)))
  have HR := Lib.hid hR
  have HR2 := Lib.hid hR2
  have HROW := Lib.hid hrow
  clear hb1 hR hR2 hC
  go_wp2_with fail
  refine (operators_tr w1).mono ?_
  rintro e w2 ⟨rfl, hmap, hb2⟩
  obtain ⟨w3, hw3⟩ : ∃ w3, w3 = w2.alloc (.cells #[.slice ao l.length cap, .bool false, .map (some w1.heap.size)] 107) := ⟨_, rfl⟩
  have hb3 : Below w2.heap.size w2 w3 := by rw [hw3]; exact below_alloc _ _
  have hs3 : w3.heap.size = w2.heap.size + 1 := by rw [hw3]; simp
  have HW3 := Lib.hid hw3
  have HRD : Hid (RdAt (w2.heap.size + 1) w3 w2.heap.size ⟨l, false⟩) := Lib.hid ⟨.slice ao l.length cap, w1.heap.size, ⟨by rw [hw3]; exact heap_alloc_new _ _, RowT.of_W HROW.out (hb2.trans (hb3.mono hb2.size)) hb2.size (Nat.le_trans hb2.size (Nat.le_succ _)), hmap.kept (hb3.block _ hmap.lt), Nat.ne_of_lt hmap.lt, ⟨Nat.lt_succ_self _, Nat.lt_succ_of_lt hmap.lt⟩, Nat.le_of_eq hs3.symm, hsh⟩⟩
  have HB3 := Lib.hid (HB1.out.trans ((hb2.trans (hb3.mono hb2.size)).mono HB1.out.size))
  have HR3 : Hid (w3.heap[w.heap.size]? = some (.cells zA 36 (0, 0))) := Lib.hid (((hb2.trans (hb3.mono hb2.size)).block _ (bk_lt HR.out)).trans HR.out)
  have HR23 : Hid (w3.heap[w.heap.size + 1]? = some (.cells zA 36 (0, 0))) := Lib.hid (((hb2.trans (hb3.mono hb2.size)).block _ (bk_lt HR2.out)).trans HR2.out)
  have hmle : w1.heap.size ≤ w2.heap.size := hb2.size
  clear hmap hb2 hb3 hw3 hs3
  go_wp2_with (rw [← HW3.out])
  have hE := expr_tr (w2.heap.size + 1) w2.heap.size (l.length + 1) l.length (Nat.lt_succ_self _) hl ⟨l, false⟩ w3 HRD.out (Nat.le_refl _)
  rw [hx] at hE
  refine hE.mono ?_
  rintro e w4 ⟨u, rfl, hs, hr, hq⟩
  obtain ⟨au, nu, cu, hu⟩ := hs.slice
  subst hu
  unfold exVal
  dsimp only at hs hr hq
  obtain ⟨w5, hw5⟩ : ∃ w5, w5 = w4.alloc (.cells (eA x.a (.slice au nu cu)) 36) := ⟨_, rfl⟩
  have hb5 : Below w4.heap.size w4 w5 := by rw [hw5]; exact below_alloc _ _
  have HW5 := Lib.hid hw5
  obtain ⟨v', M', q⟩ := hr.kept hb5
  obtain ⟨g, o, cap', hv', p1, p2, p3, p4, q0, q1, q2, q3, _⟩ := q.row.first
  subst hv'
  have hpos : (0 : Int) < (r.length : Int) + 1 := by omega
  have c0 : w5.cell? ⟨w2.heap.size, 0, none⟩ = some (.slice (some ⟨g, o, none⟩) (r.length + 1) cap') := bk_cell q.at_ 0
  have hlow : w.heap.size + 1 < w2.heap.size := by have := bk_lt HR2.out; have := hmle; omega
  have HR5 : Hid (w5.heap[w.heap.size]? = some (.cells zA 36 (0, 0))) := Lib.hid ((hb5.block _ (Nat.lt_of_lt_of_le (bk_lt HR3.out) hq.size)).trans ((hq.block _ (bk_lt HR3.out) (by omega)).trans HR3.out))
  have HR25 : Hid (w5.heap[w.heap.size + 1]? = some (.cells zA 36 (0, 0))) := Lib.hid ((hb5.block _ (Nat.lt_of_lt_of_le (bk_lt HR23.out) hq.size)).trans ((hq.block _ (bk_lt HR23.out) (by omega)).trans HR23.out))
  have HT5 : Hid (Below w.heap.size w w5) := Lib.hid ((((Turn.of_below HB3.out : Turn (· = w2.heap.size) w w3).trans hq).trans (Turn.of_below hb5)).below (fun k hk e => by omega))
  have hgR : ¬ g = w.heap.size := by
    intro e
    rw [e] at q0 q1 q2
    have e0 := (bk_cell HR5.out o).symm.trans q0
    have e1 := (bk_cell HR5.out (o + 1)).symm.trans q1
    have e2 := (bk_cell HR5.out (o + 2)).symm.trans q2
    have ho : o < 9 := by
      rcases Nat.lt_or_ge o 9 with h | h
      · exact h
      · rw [Array.getElem?_eq_none (by simpa using h)] at e0; cases e0
    have : o = 0 ∨ o = 1 ∨ o = 2 ∨ o = 3 ∨ o = 4 ∨ o = 5 ∨ o = 6 ∨ o = 7 ∨ o = 8 := by omega
    clear q0 q1 q2
    rcases this with rfl | rfl | rfl | rfl | rfl | rfl | rfl | rfl | rfl <;> simp at e0 e1 e2
  clear hs hr hq hb5 hw5 q p1 p2 p3 p4 q0 q1 q2 HRD hE
  go_wp2_with (first
    | (rw [← HW5.out])
    | (refine wpList_load_row rfl 36 _ rfl (w.heap.size + 1) rfl _ zA (0, 0) _ HR25.out Tryz.underlying36 rfl (by kernel_rfl) ?_)
    | (refine wpList_store_row rfl 36 _ _ rfl w.heap.size zA rfl rfl _ _ HR5.out (by kernel_rfl) rfl (by simp [Value.oneCell']) ?_))
  obtain ⟨n0, n1, n2, n3, n4, n5, n6, n7, n8⟩ := (show ExB w5 (w.heap.size + 1) noA nS from HR25.out).cells
  obtain ⟨d0, d1, d2, d3, d4, d5, d6, d7, d8⟩ := (show ExB w5 w.heap.size noA nS from HR5.out).cells
  obtain ⟨z0, z1, z2, z3, z4, z5, z6, z7, z8⟩ := (show ExB w5 w.heap.size noA nS from HR5.out).free
  go_region
  rw [set9 HR5.out]
  go_wp2_with fail
  refine bodyPost_ret (ex_results3 (a := noA) (u := .slice none 0 0) Tryz.results34 (show ExB _ w.heap.size noA nS from setRow_heap _ _ _ _ _ _ HR5.out) rfl rfl rfl) rfl ⟨rfl, ?_⟩
  exact (((Turn.of_below HT5.out : Turn (· = w.heap.size) w w5).trans (Turn.setRow (· = w.heap.size) _ _ _ rfl)).below (fun k hk e => by omega)).drew
set_option maxRecDepth 100000 in
set_option maxHeartbeats 8000000 in
theorem parseE_wrong (s : ByteArray) (l : List WordM) (h : ofB s.data.toList = .ok l) (hsh : ∀ x ∈ l, x.s.length ≤ 5000) (hl : l.length ≤ 800000) (w : World) (hw : Wo w) (x : Ex) (hx : exprN (l.length + 1) ⟨l, false⟩ = (x, ⟨[], true⟩)) :
    Calls Tryz.prog 34 #[.string s, .func (.func 35) #[] #[], .func (.func 36) #[] #[]] w fun e w' => e = .returned (.tuple #[exVal noA nS, .int .i64 (s.size : Int), .int .i64 4]) ∧ Below w.heap.size w w' := by
  have hC := fun W (hb : Below w.heap.size w W) => of_ok s l h W (hw.kept hb)
  clear h
  go_enter Tryz.func34, Tryz.ntmps34
  go_wp2_with fail
  refine (hC _ ((below_alloc _ _).trans ((below_alloc _ _).mono (by simp)))).mono ?_
  rintro e w1 ⟨v, rfl, hrow, hb1⟩
  obtain ⟨ao, cap, hvv⟩ := hrow.form
  subst hvv
  have hR : w1.heap[w.heap.size]? = some (.cells zA 36 (0, 0)) := (hb1.block _ (by simp; omega)).trans ((heap_alloc_old _ _ (by simp)).trans (heap_alloc_new _ _))
  have hR2 : w1.heap[w.heap.size + 1]? = some (.cells zA 36 (0, 0)) := (hb1.block _ (by simp)).trans (by rw [show w.heap.size + 1 = (w.alloc (.cells zA 36)).heap.size by simp]; exact heap_alloc_new _ _)
  have HB1 := Lib.hid (((below_alloc w (.cells zA 36)).trans ((below_alloc _ (.cells zA 36)).mono (by simp))).trans (hb1.mono (by simp; omega)))
  have HR := Lib.hid hR
  have HR2 := Lib.hid hR2
  have HROW := Lib.hid hrow
  clear hb1 hR hR2 hC
  go_wp2_with fail
  refine (operators_tr w1).mono ?_
  rintro e w2 ⟨rfl, hmap, hb2⟩
  obtain ⟨w3, hw3⟩ : ∃ w3, w3 = w2.alloc (.cells #[.slice ao l.length cap, .bool false, .map (some w1.heap.size)] 107) := ⟨_, rfl⟩
  have hb3 : Below w2.heap.size w2 w3 := by rw [hw3]; exact below_alloc _ _
  have hs3 : w3.heap.size = w2.heap.size + 1 := by rw [hw3]; simp
  have HW3 := Lib.hid hw3
  have HRD : Hid (RdAt (w2.heap.size + 1) w3 w2.heap.size ⟨l, false⟩) := Lib.hid ⟨.slice ao l.length cap, w1.heap.size, ⟨by rw [hw3]; exact heap_alloc_new _ _, RowT.of_W HROW.out (hb2.trans (hb3.mono hb2.size)) hb2.size (Nat.le_trans hb2.size (Nat.le_succ _)), hmap.kept (hb3.block _ hmap.lt), Nat.ne_of_lt hmap.lt, ⟨Nat.lt_succ_self _, Nat.lt_succ_of_lt hmap.lt⟩, Nat.le_of_eq hs3.symm, hsh⟩⟩
  have HB3 := Lib.hid (HB1.out.trans ((hb2.trans (hb3.mono hb2.size)).mono HB1.out.size))
  have HR3 : Hid (w3.heap[w.heap.size]? = some (.cells zA 36 (0, 0))) := Lib.hid (((hb2.trans (hb3.mono hb2.size)).block _ (bk_lt HR.out)).trans HR.out)
  have HR23 : Hid (w3.heap[w.heap.size + 1]? = some (.cells zA 36 (0, 0))) := Lib.hid (((hb2.trans (hb3.mono hb2.size)).block _ (bk_lt HR2.out)).trans HR2.out)
  have hmle : w1.heap.size ≤ w2.heap.size := hb2.size
  clear hmap hb2 hb3 hw3 hs3
  go_wp2_with (rw [← HW3.out])
  have hE := expr_tr (w2.heap.size + 1) w2.heap.size (l.length + 1) l.length (Nat.lt_succ_self _) hl ⟨l, false⟩ w3 HRD.out (Nat.le_refl _)
  rw [hx] at hE
  refine hE.mono ?_
  rintro e w4 ⟨u, rfl, hs, hr, hq⟩
  obtain ⟨au, nu, cu, hu⟩ := hs.slice
  subst hu
  unfold exVal
  dsimp only at hs hr hq
  obtain ⟨w5, hw5⟩ : ∃ w5, w5 = w4.alloc (.cells (eA x.a (.slice au nu cu)) 36) := ⟨_, rfl⟩
  have hb5 : Below w4.heap.size w4 w5 := by rw [hw5]; exact below_alloc _ _
  have HW5 := Lib.hid hw5
  obtain ⟨v', M', q⟩ := hr.kept hb5
  obtain ⟨ao', cap', hv', _⟩ := q.row
  subst hv'
  have c0 : w5.cell? ⟨w2.heap.size, 0, none⟩ = some (.slice ao' 0 cap') := bk_cell q.at_ 0
  have c1 := bk_cell q.at_ 1
  have hlow : w.heap.size + 1 < w2.heap.size := by have := bk_lt HR2.out; have := hmle; omega
  have HR5 : Hid (w5.heap[w.heap.size]? = some (.cells zA 36 (0, 0))) := Lib.hid ((hb5.block _ (Nat.lt_of_lt_of_le (bk_lt HR3.out) hq.size)).trans ((hq.block _ (bk_lt HR3.out) (by omega)).trans HR3.out))
  have HR25 : Hid (w5.heap[w.heap.size + 1]? = some (.cells zA 36 (0, 0))) := Lib.hid ((hb5.block _ (Nat.lt_of_lt_of_le (bk_lt HR23.out) hq.size)).trans ((hq.block _ (bk_lt HR23.out) (by omega)).trans HR23.out))
  have HT5 : Hid (Below w.heap.size w w5) := Lib.hid ((((Turn.of_below HB3.out : Turn (· = w2.heap.size) w w3).trans hq).trans (Turn.of_below hb5)).below (fun k hk e => by omega))
  have c2 : w5.cell? ⟨w2.heap.size, 1, none⟩ = some (.bool true) := c1
  clear hs hr hq hb5 hw5 q HRD hE c1
  go_wp2_with (first
    | (rw [← HW5.out])
    | (refine wpList_load_row rfl 36 _ rfl (w.heap.size + 1) rfl _ zA (0, 0) _ HR25.out Tryz.underlying36 rfl (by kernel_rfl) ?_)
    | (refine wpList_store_row rfl 36 _ _ rfl w.heap.size zA rfl rfl _ _ HR5.out (by kernel_rfl) rfl (by simp [Value.oneCell']) ?_))
  refine bodyPost_ret (ex_results3 (a := noA) (u := .slice none 0 0) Tryz.results34 (show ExB _ w.heap.size noA nS from setRow_heap _ _ _ _ _ _ HR5.out) rfl rfl rfl) rfl ⟨rfl, ?_⟩
  exact ((Turn.of_below HT5.out : Turn (· = w.heap.size) w w5).trans (Turn.setRow (· = w.heap.size) _ _ _ rfl)).below (fun k hk e => by omega)
set_option maxRecDepth 100000 in
set_option maxHeartbeats 8000000 in
theorem parseE_may (s : ByteArray) (l : List WordM) (h : ofB s.data.toList = .ok l) (hsh : ∀ x ∈ l, x.s.length ≤ 5000) (hl : l.length ≤ 800000) (w : World) (hw : Wo w) (x : Ex) (hx : exprN (l.length + 1) ⟨l, false⟩ = (x, ⟨[], false⟩)) (hshx : Exs.short (.cons x.a x.l .nil)) (hfine : fineE x = false) :
    Calls Tryz.prog 34 #[.string s, .func (.func 35) #[] #[], .func (.func 36) #[] #[]] w fun e w' => e = .returned (.tuple #[exVal noA nS, .int .i64 0, .int .i64 3]) ∧ Below w.heap.size w w' := by
  have hC := fun W (hb : Below w.heap.size w W) => of_ok s l h W (hw.kept hb)
  clear h
  go_enter Tryz.func34, Tryz.ntmps34
  go_wp2_with fail
  refine (hC _ ((below_alloc _ _).trans ((below_alloc _ _).mono (by simp)))).mono ?_
  rintro e w1 ⟨v, rfl, hrow, hb1⟩
  obtain ⟨ao, cap, hvv⟩ := hrow.form
  subst hvv
  have hR : w1.heap[w.heap.size]? = some (.cells zA 36 (0, 0)) := (hb1.block _ (by simp; omega)).trans ((heap_alloc_old _ _ (by simp)).trans (heap_alloc_new _ _))
  have hR2 : w1.heap[w.heap.size + 1]? = some (.cells zA 36 (0, 0)) := (hb1.block _ (by simp)).trans (by rw [show w.heap.size + 1 = (w.alloc (.cells zA 36)).heap.size by simp]; exact heap_alloc_new _ _)
  have HB1 := Lib.hid (((below_alloc w (.cells zA 36)).trans ((below_alloc _ (.cells zA 36)).mono (by simp))).trans (hb1.mono (by simp; omega)))
  have HR := Lib.hid hR
  have HR2 := Lib.hid hR2
  have HROW := Lib.hid hrow
  clear hb1 hR hR2 hC
  go_wp2_with fail
  refine (operators_tr w1).mono ?_
  rintro e w2 ⟨rfl, hmap, hb2⟩
  obtain ⟨w3, hw3⟩ : ∃ w3, w3 = w2.alloc (.cells #[.slice ao l.length cap, .bool false, .map (some w1.heap.size)] 107) := ⟨_, rfl⟩
  have hb3 : Below w2.heap.size w2 w3 := by rw [hw3]; exact below_alloc _ _
  have hs3 : w3.heap.size = w2.heap.size + 1 := by rw [hw3]; simp
  have HW3 := Lib.hid hw3
  have HRD : Hid (RdAt (w2.heap.size + 1) w3 w2.heap.size ⟨l, false⟩) := Lib.hid ⟨.slice ao l.length cap, w1.heap.size, ⟨by rw [hw3]; exact heap_alloc_new _ _, RowT.of_W HROW.out (hb2.trans (hb3.mono hb2.size)) hb2.size (Nat.le_trans hb2.size (Nat.le_succ _)), hmap.kept (hb3.block _ hmap.lt), Nat.ne_of_lt hmap.lt, ⟨Nat.lt_succ_self _, Nat.lt_succ_of_lt hmap.lt⟩, Nat.le_of_eq hs3.symm, hsh⟩⟩
  have HB3 := Lib.hid (HB1.out.trans ((hb2.trans (hb3.mono hb2.size)).mono HB1.out.size))
  have HR3 : Hid (w3.heap[w.heap.size]? = some (.cells zA 36 (0, 0))) := Lib.hid (((hb2.trans (hb3.mono hb2.size)).block _ (bk_lt HR.out)).trans HR.out)
  have HR23 : Hid (w3.heap[w.heap.size + 1]? = some (.cells zA 36 (0, 0))) := Lib.hid (((hb2.trans (hb3.mono hb2.size)).block _ (bk_lt HR2.out)).trans HR2.out)
  have hmle : w1.heap.size ≤ w2.heap.size := hb2.size
  clear hmap hb2 hb3 hw3 hs3
  go_wp2_with (rw [← HW3.out])
  have hE := expr_tr (w2.heap.size + 1) w2.heap.size (l.length + 1) l.length (Nat.lt_succ_self _) hl ⟨l, false⟩ w3 HRD.out (Nat.le_refl _)
  rw [hx] at hE
  refine hE.mono ?_
  rintro e w4 ⟨u, rfl, hs, hr, hq⟩
  obtain ⟨au, nu, cu, hu⟩ := hs.slice
  subst hu
  unfold exVal
  dsimp only at hs hr hq
  obtain ⟨w5, hw5⟩ : ∃ w5, w5 = w4.alloc (.cells (eA x.a (.slice au nu cu)) 36) := ⟨_, rfl⟩
  have hb5 : Below w4.heap.size w4 w5 := by rw [hw5]; exact below_alloc _ _
  have HW5 := Lib.hid hw5
  obtain ⟨v', M', q⟩ := hr.kept hb5
  obtain ⟨ao', cap', hv', _⟩ := q.row
  subst hv'
  have c0 : w5.cell? ⟨w2.heap.size, 0, none⟩ = some (.slice ao' 0 cap') := bk_cell q.at_ 0
  have c1 := bk_cell q.at_ 1
  have hlow : w.heap.size + 1 < w2.heap.size := by have := bk_lt HR2.out; have := hmle; omega
  have HR5 : Hid (w5.heap[w.heap.size]? = some (.cells zA 36 (0, 0))) := Lib.hid ((hb5.block _ (Nat.lt_of_lt_of_le (bk_lt HR3.out) hq.size)).trans ((hq.block _ (bk_lt HR3.out) (by omega)).trans HR3.out))
  have HR25 : Hid (w5.heap[w.heap.size + 1]? = some (.cells zA 36 (0, 0))) := Lib.hid ((hb5.block _ (Nat.lt_of_lt_of_le (bk_lt HR23.out) hq.size)).trans ((hq.block _ (bk_lt HR23.out) (by omega)).trans HR23.out))
  have HT5 : Hid (Below w.heap.size w w5) := Lib.hid ((((Turn.of_below HB3.out : Turn (· = w2.heap.size) w w3).trans hq).trans (Turn.of_below hb5)).below (fun k hk e => by omega))
  have c2 : w5.cell? ⟨w2.heap.size, 1, none⟩ = some (.bool false) := c1
  have hX5 : w5.heap[w4.heap.size]? = some (.cells (eA x.a (.slice au nu cu)) 36 (0, 0)) := by rw [hw5]; exact heap_alloc_new _ _
  have hs5 := hs.below hb5
  have hM := expr_may x.a (.slice au nu cu) x.l w5 (hs5.mono fun _ _ _ => trivial) hshx
  rw [show fineE ⟨x.a, x.l⟩ = false from hfine] at hM
  unfold exVal at hM
  have HX5 := Lib.hid hX5
  have HSX := Lib.hid hs5
  have HGE : Hid (w2.heap.size ≤ w3.heap.size ∧ w3.heap.size ≤ w4.heap.size) := Lib.hid ⟨by have := bk_lt HR3.out; have := HB3.out.size; have := HRD.out.lt; omega, hq.size⟩
  clear hs hr hq hb5 hw5 q HRD hE c1 hX5 hs5
  go_wp2_with (first
    | (rw [← HW5.out])
    | (refine wpList_load_row rfl 36 _ rfl w4.heap.size rfl _ (eA x.a (.slice au nu cu)) (0, 0) _ HX5.out Tryz.underlying36 rfl (by kernel_rfl) ?_))
  refine hM.mono ?_
  rintro e w6 ⟨rfl, hb6⟩
  have HR6 : Hid (w6.heap[w.heap.size]? = some (.cells zA 36 (0, 0))) := Lib.hid ((hb6.block _ (bk_lt HR5.out)).trans HR5.out)
  have HR26 : Hid (w6.heap[w.heap.size + 1]? = some (.cells zA 36 (0, 0))) := Lib.hid ((hb6.block _ (bk_lt HR25.out)).trans HR25.out)
  have HX6 : Hid (w6.heap[w4.heap.size]? = some (.cells (eA x.a (.slice au nu cu)) 36 (0, 0))) := Lib.hid ((hb6.block _ (bk_lt HX5.out)).trans HX5.out)
  have HT6 : Hid (Below w.heap.size w w6) := Lib.hid (HT5.out.trans (hb6.mono HT5.out.size))
  have HS6 := Lib.hid (HSX.out.below hb6)
  clear hb6 hM
  go_wp2_with (first
    | (refine wpList_load_row rfl 36 _ rfl w4.heap.size rfl _ (eA x.a (.slice au nu cu)) (0, 0) _ HX6.out Tryz.underlying36 rfl (by kernel_rfl) ?_)
    | (refine wpList_load_row rfl 36 _ rfl (w.heap.size + 1) rfl _ zA (0, 0) _ HR26.out Tryz.underlying36 rfl (by kernel_rfl) ?_)
    | (refine wpList_store_row rfl 36 _ _ rfl w.heap.size zA rfl rfl _ _ HR6.out (by kernel_rfl) rfl (by simp [Value.oneCell']) ?_))
  refine bodyPost_ret (ex_results3 (a := noA) (u := .slice none 0 0) Tryz.results34 (show ExB _ w.heap.size noA nS from setRow_heap _ _ _ _ _ _ HR6.out) rfl rfl rfl) rfl ⟨rfl, ?_⟩
  exact ((Turn.of_below HT6.out : Turn (· = w.heap.size) w w6).trans (Turn.setRow (· = w.heap.size) _ _ _ rfl)).below (fun k hk e => by omega)
set_option maxRecDepth 100000 in
set_option maxHeartbeats 8000000 in
theorem parseE_ok (s : ByteArray) (l : List WordM) (h : ofB s.data.toList = .ok l) (hsh : ∀ x ∈ l, x.s.length ≤ 5000) (hl : l.length ≤ 800000) (w : World) (hw : Wo w) (x : Ex) (hx : exprN (l.length + 1) ⟨l, false⟩ = (x, ⟨[], false⟩)) (hshx : Exs.short (.cons x.a x.l .nil)) (hfine : fineE x = true) :
    Calls Tryz.prog 34 #[.string s, .func (.func 35) #[] #[], .func (.func 36) #[] #[]] w fun e w' => (∃ u, e = .returned (.tuple #[exVal x.a u, .int .i64 0, .int .i64 0]) ∧ REs (w.heap.size ≤ ·) w' u x.l) ∧ Below w.heap.size w w' := by
  have hC := fun W (hb : Below w.heap.size w W) => of_ok s l h W (hw.kept hb)
  clear h
  go_enter Tryz.func34, Tryz.ntmps34
  go_wp2_with fail
  refine (hC _ ((below_alloc _ _).trans ((below_alloc _ _).mono (by simp)))).mono ?_
  rintro e w1 ⟨v, rfl, hrow, hb1⟩
  obtain ⟨ao, cap, hvv⟩ := hrow.form
  subst hvv
  have hR : w1.heap[w.heap.size]? = some (.cells zA 36 (0, 0)) := (hb1.block _ (by simp; omega)).trans ((heap_alloc_old _ _ (by simp)).trans (heap_alloc_new _ _))
  have hR2 : w1.heap[w.heap.size + 1]? = some (.cells zA 36 (0, 0)) := (hb1.block _ (by simp)).trans (by rw [show w.heap.size + 1 = (w.alloc (.cells zA 36)).heap.size by simp]; exact heap_alloc_new _ _)
  have HB1 := Lib.hid (((below_alloc w (.cells zA 36)).trans ((below_alloc _ (.cells zA 36)).mono (by simp))).trans (hb1.mono (by simp; omega)))
  have HR := Lib.hid hR
  have HR2 := Lib.hid hR2
  have HROW := Lib.hid hrow
  clear hb1 hR hR2 hC
  go_wp2_with fail
  refine (operators_tr w1).mono ?_
  rintro e w2 ⟨rfl, hmap, hb2⟩
  obtain ⟨w3, hw3⟩ : ∃ w3, w3 = w2.alloc (.cells #[.slice ao l.length cap, .bool false, .map (some w1.heap.size)] 107) := ⟨_, rfl⟩
  have hb3 : Below w2.heap.size w2 w3 := by rw [hw3]; exact below_alloc _ _
  have hs3 : w3.heap.size = w2.heap.size + 1 := by rw [hw3]; simp
  have HW3 := Lib.hid hw3
  have HRD : Hid (RdAt (w2.heap.size + 1) w3 w2.heap.size ⟨l, false⟩) := Lib.hid ⟨.slice ao l.length cap, w1.heap.size, ⟨by rw [hw3]; exact heap_alloc_new _ _, RowT.of_W HROW.out (hb2.trans (hb3.mono hb2.size)) hb2.size (Nat.le_trans hb2.size (Nat.le_succ _)), hmap.kept (hb3.block _ hmap.lt), Nat.ne_of_lt hmap.lt, ⟨Nat.lt_succ_self _, Nat.lt_succ_of_lt hmap.lt⟩, Nat.le_of_eq hs3.symm, hsh⟩⟩
  have HB3 := Lib.hid (HB1.out.trans ((hb2.trans (hb3.mono hb2.size)).mono HB1.out.size))
  have HR3 : Hid (w3.heap[w.heap.size]? = some (.cells zA 36 (0, 0))) := Lib.hid (((hb2.trans (hb3.mono hb2.size)).block _ (bk_lt HR.out)).trans HR.out)
  have HR23 : Hid (w3.heap[w.heap.size + 1]? = some (.cells zA 36 (0, 0))) := Lib.hid (((hb2.trans (hb3.mono hb2.size)).block _ (bk_lt HR2.out)).trans HR2.out)
  have hmle : w1.heap.size ≤ w2.heap.size := hb2.size
  clear hmap hb2 hb3 hw3 hs3
  go_wp2_with (rw [← HW3.out])
  have hE := expr_tr (w2.heap.size + 1) w2.heap.size (l.length + 1) l.length (Nat.lt_succ_self _) hl ⟨l, false⟩ w3 HRD.out (Nat.le_refl _)
  rw [hx] at hE
  refine hE.mono ?_
  rintro e w4 ⟨u, rfl, hs, hr, hq⟩
  obtain ⟨au, nu, cu, hu⟩ := hs.slice
  subst hu
  unfold exVal
  dsimp only at hs hr hq
  obtain ⟨w5, hw5⟩ : ∃ w5, w5 = w4.alloc (.cells (eA x.a (.slice au nu cu)) 36) := ⟨_, rfl⟩
  have hb5 : Below w4.heap.size w4 w5 := by rw [hw5]; exact below_alloc _ _
  have HW5 := Lib.hid hw5
  obtain ⟨v', M', q⟩ := hr.kept hb5
  obtain ⟨ao', cap', hv', _⟩ := q.row
  subst hv'
  have c0 : w5.cell? ⟨w2.heap.size, 0, none⟩ = some (.slice ao' 0 cap') := bk_cell q.at_ 0
  have c1 := bk_cell q.at_ 1
  have hlow : w.heap.size + 1 < w2.heap.size := by have := bk_lt HR2.out; have := hmle; omega
  have HR5 : Hid (w5.heap[w.heap.size]? = some (.cells zA 36 (0, 0))) := Lib.hid ((hb5.block _ (Nat.lt_of_lt_of_le (bk_lt HR3.out) hq.size)).trans ((hq.block _ (bk_lt HR3.out) (by omega)).trans HR3.out))
  have HR25 : Hid (w5.heap[w.heap.size + 1]? = some (.cells zA 36 (0, 0))) := Lib.hid ((hb5.block _ (Nat.lt_of_lt_of_le (bk_lt HR23.out) hq.size)).trans ((hq.block _ (bk_lt HR23.out) (by omega)).trans HR23.out))
  have HT5 : Hid (Below w.heap.size w w5) := Lib.hid ((((Turn.of_below HB3.out : Turn (· = w2.heap.size) w w3).trans hq).trans (Turn.of_below hb5)).below (fun k hk e => by omega))
  have c2 : w5.cell? ⟨w2.heap.size, 1, none⟩ = some (.bool false) := c1
  have hX5 : w5.heap[w4.heap.size]? = some (.cells (eA x.a (.slice au nu cu)) 36 (0, 0)) := by rw [hw5]; exact heap_alloc_new _ _
  have hs5 := hs.below hb5
  have hM := expr_may x.a (.slice au nu cu) x.l w5 (hs5.mono fun _ _ _ => trivial) hshx
  rw [show fineE ⟨x.a, x.l⟩ = true from hfine] at hM
  unfold exVal at hM
  have HX5 := Lib.hid hX5
  have HSX := Lib.hid hs5
  have HGE : Hid (w2.heap.size ≤ w3.heap.size ∧ w3.heap.size ≤ w4.heap.size) := Lib.hid ⟨by have := bk_lt HR3.out; have := HB3.out.size; have := HRD.out.lt; omega, hq.size⟩
  clear hs hr hq hb5 hw5 q HRD hE c1 hX5 hs5
  go_wp2_with (first
    | (rw [← HW5.out])
    | (refine wpList_load_row rfl 36 _ rfl w4.heap.size rfl _ (eA x.a (.slice au nu cu)) (0, 0) _ HX5.out Tryz.underlying36 rfl (by kernel_rfl) ?_))
  refine hM.mono ?_
  rintro e w6 ⟨rfl, hb6⟩
  have HR6 : Hid (w6.heap[w.heap.size]? = some (.cells zA 36 (0, 0))) := Lib.hid ((hb6.block _ (bk_lt HR5.out)).trans HR5.out)
  have HR26 : Hid (w6.heap[w.heap.size + 1]? = some (.cells zA 36 (0, 0))) := Lib.hid ((hb6.block _ (bk_lt HR25.out)).trans HR25.out)
  have HX6 : Hid (w6.heap[w4.heap.size]? = some (.cells (eA x.a (.slice au nu cu)) 36 (0, 0))) := Lib.hid ((hb6.block _ (bk_lt HX5.out)).trans HX5.out)
  have HT6 : Hid (Below w.heap.size w w6) := Lib.hid (HT5.out.trans (hb6.mono HT5.out.size))
  have HS6 := Lib.hid (HSX.out.below hb6)
  clear hb6 hM
  go_wp2_with (first
    | (refine wpList_load_row rfl 36 _ rfl w4.heap.size rfl _ (eA x.a (.slice au nu cu)) (0, 0) _ HX6.out Tryz.underlying36 rfl (by kernel_rfl) ?_)
    | (refine wpList_load_row rfl 36 _ rfl (w.heap.size + 1) rfl _ zA (0, 0) _ HR26.out Tryz.underlying36 rfl (by kernel_rfl) ?_)
    | (refine wpList_store_row rfl 36 _ _ rfl w.heap.size (eA x.a (.slice au nu cu)) rfl rfl _ _ HR6.out (by kernel_rfl) rfl (by simp [Value.oneCell']) ?_))
  refine bodyPost_ret (ex_results3 (a := x.a) (u := .slice au nu cu) Tryz.results34 (show ExB _ w.heap.size x.a (.slice au nu cu) from setRow_heap _ _ _ _ _ _ HR6.out) rfl rfl rfl) rfl ⟨⟨_, rfl, ?_⟩, ?_⟩
  · exact (HS6.out.turn (Turn.setRow (· = w.heap.size) _ _ _ rfl) (fun k hk e => by have hk' : w3.heap.size ≤ k := hk; have := bk_lt HR3.out; omega)).mono (fun k hk _ => by have hk' : w3.heap.size ≤ k := hk; have := bk_lt HR3.out; show w.heap.size ≤ k; omega)
  · exact ((Turn.of_below HT6.out : Turn (· = w.heap.size) w w6).trans (Turn.setRow (· = w.heap.size) _ _ _ rfl)).below (fun k hk e => by omega)
end
end Go.Proofs.YtenmnpbjnbdeaaaGreatDoor
