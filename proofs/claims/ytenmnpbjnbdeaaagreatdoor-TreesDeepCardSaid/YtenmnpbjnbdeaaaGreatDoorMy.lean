/-
  WHAT IS PROVED: which parts of statements may be. what a statement has beside the fields of its kind; whether that is nothing.
-/
import Derived.Test.YtenmnpbjnbdeaaaGreatDoorMx
import Derived.Test.YtenmnpbjnbdeaaaGreatDoorMi
namespace Go.Proofs.YtenmnpbjnbdeaaaGreatDoor
section
open Go.RowKit Go.Shelf
set_option linter.unusedVariables false

/-- the load of a part of a struct by an operation whose guard says yes -/
theorem wpListG_load_mid {P : Program} {ops : Array Oper} {rest : List Oper} {op : Oper} {a : Act} {w : World} {Q : Exit → Act → World → Prop} (hw : Region.wanted op (yielded ops a.tmps) = true) (ty : TypeId) (x : Operand) (ho : op.op = .load ty x)
    (b o : Nat) (hx : a.eval x = .pointer (some ⟨b, o, none⟩)) (cs : List Value) (d : TypeDesc) (hc : w.rangeAt b o cs)
    (hu : P.underlying ty = some d) (hd : d.isRow = true) (hi : (P.info? ty).map (·.size) = some cs.length)
    (h : wpList P ops Q rest (a.put op.dst (.agg cs.toArray)) w) : wpList P ops Q (op :: rest) a w := by
  rw [wpList, if_pos hw]
  exact .inl (wp_load_mid ty x ho b o hx cs d hc hu hd hi h)
theorem wpListG_load_row {P : Program} {ops : Array Oper} {rest : List Oper} {o : Oper} {a : Act} {w : World} {Q : Exit → Act → World → Prop} (hw : Region.wanted o (yielded ops a.tmps) = true) (ty : TypeId) (x : Operand) (ho : o.op = .load ty x)
    (g : Nat) (hx : a.eval x = .pointer (some ⟨g, 0, none⟩)) (t : TypeId) (cs : Array Value) (fr : Nat × Nat) (d : TypeDesc) (hg : w.heap[g]? = some (.cells cs t fr))
    (hu : P.underlying ty = some d) (hd : (match d with | .struct _ | .array _ _ => true | _ => false) = true) (hi : (P.info? ty).map (·.size) = some cs.size)
    (h : wpList P ops Q rest (a.put o.dst (.agg cs)) w) : wpList P ops Q (o :: rest) a w := by
  rw [wpList, if_pos hw]
  exact .inl (wp_load_row ty x ho g hx t cs fr d hg hu hd hi h)
/-- a text that a machine can hold -/
def Sh (l : List UInt8) : Prop := l.length ≤ 9223372036854775000
theorem Exs.short_of_all : ∀ l : Exs, l.all Sh → l.short
  | .nil, _ => trivial
  | .cons a l r, h => ⟨⟨h.1.1, h.1.2.1⟩, Exs.short_of_all l h.2.1, Exs.short_of_all r h.2.2⟩
theorem Ex.short_of {x : Ex} (h : x.all Sh) : Exs.short (.cons x.a x.l .nil) := Exs.short_of_all _ (Ex.all_cons h)
theorem name_may (l : List UInt8) (w : World) (hl : Sh l) : Calls Tryz.prog 22 #[.string (strU l)] w fun e w' => e = .returned (.bool (nameB l)) ∧ Below w.heap.size w w' := by
  have h := name_is (strU l) w (by rw [strU_size]; exact hl)
  rw [strU_data] at h
  exact h
theorem nameE_may (W : World) (cs : List Value) (x : List UInt8) (h : strE.is (fun _ => True) W cs x) (hx : Sh x) : Calls Tryz.prog 22 #[cs.headD undef] W fun e w' => e = .returned (.bool (nameB x)) ∧ Below W.heap.size W w' := by
  have h' : cs = [.string (strU x)] := h
  subst h'
  exact name_may x W hx
theorem exE_may (W : World) (cs : List Value) (x : Ex) (h : exE.is (fun _ => True) W cs x) (hx : x.all Sh) : Calls Tryz.prog 36 #[.agg cs.toArray] W fun e w' => e = .returned (.bool (fineE x)) ∧ Below W.heap.size W w' := by
  obtain ⟨u, rfl, hr⟩ := h
  exact expr_may x.a u x.l W hr (Ex.short_of hx)
theorem RE.to_cells {P : Nat → Prop} {w : World} (b : Nat) : ∀ (l : List Ex) (o : Nat), RE P w (Exs.ofL l) b o → ∃ css, All2 (exE.is P w) css l ∧ ∀ (j : Nat) (u : Value), css.flatten[j]? = some u → w.cell? ⟨b, o + j, none⟩ = some u
  | [], o, _ => ⟨[], trivial, fun j u h => by simp at h⟩
  | x :: r, o, h => by
    obtain ⟨v, h1, h2, h3⟩ := RE.range h
    obtain ⟨css, q1, q2⟩ := RE.to_cells b r (o + 9) h3
    refine ⟨exCells x.a v :: css, ⟨⟨v, rfl, h2⟩, q1⟩, fun j u hj => ?_⟩
    rw [List.flatten_cons] at hj
    by_cases hlt : j < 9
    · rw [List.getElem?_append_left (by rw [exCells_len]; exact hlt)] at hj
      exact h1 j u hj
    · rw [List.getElem?_append_right (by rw [exCells_len]; omega), exCells_len] at hj
      have := q2 (j - 9) u hj
      rwa [show o + 9 + (j - 9) = o + j by omega] at this
theorem row_of_REs {P : Nat → Prop} {w : World} {v : Value} {l : List Ex} (h : REs P w v (Exs.ofL l)) : RowOf exE P w v l := by
  rcases h with ⟨h1, h2⟩ | ⟨g, cap, e, h1, h2, h3, h4, h5⟩
  · cases l with
    | nil => exact .inl ⟨h1, rfl⟩
    | cons x r => cases h2
  · obtain ⟨css, q1, q2⟩ := RE.to_cells g l 0 h5
    rw [Exs.len_of] at e h1
    exact .inr ⟨g, cap, css, e, h1, h2, h3, h4, q1, fun j u hj => by have := q2 j u hj; rwa [Nat.zero_add] at this⟩
set_option maxRecDepth 100000 in
set_option maxHeartbeats 4000000 in
theorem column_may (W : World) (cs : List Value) (x : ColM) (h : colE'.is (fun _ => True) W cs x) (hx : Sh x.name) :
    Calls Tryz.prog 64 #[.agg cs.toArray] W fun e w' => e = .returned (.bool (columnB x)) ∧ Below W.heap.size W w' := by
  have h' : cs = [.string (strU x.name), .int .u8 (x.type : Int), .bool x.primary, .bool x.unique, .bool x.notNull] := h
  subst h'
  clear h
  have hN := fun w => name_may x.name w hx
  go_enter Tryz.func64, Tryz.ntmps64
  go_wp2_with (go_at_call 22; refine (hN _).mono ?_; rintro e w1 ⟨rfl, hb⟩; have q1 : w1.cell? ⟨W.heap.size, 1, none⟩ = some (.int .u8 (x.type : Int)) := (World.cell?_of_block (hb.block W.heap.size (by simp))).trans (bk_cell (heap_alloc_new W _) 1))
  all_goals go_ret
  all_goals (refine ⟨?_, (below_alloc _ _).trans (hb.mono (by simp))⟩)
  all_goals (simp_all [columnB] <;> (first | (intros; omega) | (rw [Bool.eq_iff_iff]; simp; omega)))
set_option maxRecDepth 100000 in
set_option maxHeartbeats 4000000 in
theorem order_may (W : World) (cs : List Value) (x : OrderM) (h : orderE.is (fun _ => True) W cs x) (hx : x.e.all Sh) :
    Calls Tryz.prog 114 #[.agg cs.toArray] W fun e w' => e = .returned (.bool (fineE x.e)) ∧ Below W.heap.size W w' := by
  obtain ⟨u, rfl, hr⟩ := h
  obtain ⟨ao, n, c, rfl⟩ := hr.slice
  have hC := fun w (hb : Below W.heap.size W w) => expr_may x.e.a (.slice ao n c) x.e.l w (hr.below hb) (Ex.short_of hx)
  unfold exVal at hC
  have HRG : Hid ((W.alloc (.cells #[.int .u8 (x.e.a.kind : Int), .int .u8 (x.e.a.op : Int), .string (strU x.e.a.table), .string (strU x.e.a.name), .int .u8 (x.e.a.vk : Int), .int .i64 x.e.a.vi, .string (strU x.e.a.vs), .bool x.e.a.star, .slice ao n c, .bool x.down] 51)).rangeAt W.heap.size 0 (eL x.e.a (.slice ao n c))) := Lib.hid (World.rangeAt_of_block (heap_alloc_new W _) 0 9)
  simp only [exCells, Atom.cells, List.cons_append, List.nil_append]
  go_enter Tryz.func114, Tryz.ntmps114
  go_wp2_with (refine wpList_load_mid rfl 36 _ rfl W.heap.size 0 rfl _ _ HRG.out Tryz.underlying36 rfl (by kernel_rfl) ?_)
  refine (hC _ (below_alloc _ _)).mono ?_
  rintro e w1 ⟨rfl, hb⟩
  have HB := Lib.hid ((below_alloc W _).trans (hb.mono (by simp)))
  clear hb hC
  go_wp2_with fail
  go_ret
  exact ⟨rfl, HB.out⟩
set_option maxRecDepth 100000 in
set_option maxHeartbeats 4000000 in
theorem join_may (W : World) (cs : List Value) (x : FromM) (h : fromE.is (fun _ => True) W cs x) (hx : Sh x.table ∧ Sh x.aka ∧ x.on.all Sh) :
    Calls Tryz.prog 144 #[.agg cs.toArray] W fun e w' => e = .returned (.bool (fineE x.on)) ∧ Below W.heap.size W w' := by
  obtain ⟨u, rfl, hr⟩ := h
  obtain ⟨ao, n, c, rfl⟩ := hr.slice
  have hC := fun w (hb : Below W.heap.size W w) => expr_may x.on.a (.slice ao n c) x.on.l w (hr.below hb) (Ex.short_of hx.2.2)
  unfold exVal at hC
  have HRG : Hid ((W.alloc (.cells #[.string (strU x.table), .string (strU x.aka), .int .u8 (x.on.a.kind : Int), .int .u8 (x.on.a.op : Int), .string (strU x.on.a.table), .string (strU x.on.a.name), .int .u8 (x.on.a.vk : Int), .int .i64 x.on.a.vi, .string (strU x.on.a.vs), .bool x.on.a.star, .slice ao n c] 138)).rangeAt W.heap.size 2 (eL x.on.a (.slice ao n c))) := Lib.hid (World.rangeAt_of_block (heap_alloc_new W _) 2 9)
  simp only [exCells, Atom.cells, List.cons_append, List.nil_append]
  go_enter Tryz.func144, Tryz.ntmps144
  go_wp2_with (refine wpList_load_mid rfl 36 _ rfl W.heap.size 2 rfl _ _ HRG.out Tryz.underlying36 rfl (by kernel_rfl) ?_)
  refine (hC _ (below_alloc _ _)).mono ?_
  rintro e w1 ⟨rfl, hb⟩
  have HB := Lib.hid ((below_alloc W _).trans (hb.mono (by simp)))
  clear hb hC
  go_wp2_with fail
  go_ret
  exact ⟨rfl, HB.out⟩
set_option maxRecDepth 100000 in
set_option maxHeartbeats 4000000 in
theorem table_may (W : World) (cs : List Value) (x : FromM) (h : fromE.is (fun _ => True) W cs x) (hx : Sh x.table ∧ Sh x.aka ∧ x.on.all Sh) :
    Calls Tryz.prog 143 #[.agg cs.toArray] W fun e w' => e = .returned (.bool (tableB x)) ∧ Below W.heap.size W w' := by
  obtain ⟨u, rfl, hr⟩ := h
  obtain ⟨ao, n, c, rfl⟩ := hr.slice
  have hN := fun w => name_may x.table w hx.1
  have hA := fun w => alias_may x.aka w hx.2.1
  simp only [exCells, Atom.cells, List.cons_append, List.nil_append]
  clear hr hx
  unfold tableB
  cases hn : nameB x.table with
  | false =>
    rw [hn] at hN
    rw [Bool.false_and]
    go_enter Tryz.func143, Tryz.ntmps143
    go_wp2_with fail
    refine (hN _).mono ?_
    rintro e w1 ⟨rfl, hb⟩
    have HB := Lib.hid ((below_alloc W _).trans (hb.mono (by simp)))
    clear hb hN
    go_wp2_with fail
    go_ret
    exact ⟨rfl, HB.out⟩
  | true =>
    rw [hn] at hN
    rw [Bool.true_and]
    go_enter Tryz.func143, Tryz.ntmps143
    go_wp2_with fail
    refine (hN _).mono ?_
    rintro e w1 ⟨rfl, hb⟩
    have q1 : w1.cell? ⟨W.heap.size, 1, none⟩ = some (.string (strU x.aka)) := (World.cell?_of_block (hb.block W.heap.size (by simp))).trans (bk_cell (heap_alloc_new W _) 1)
    have HB := Lib.hid ((below_alloc W _).trans (hb.mono (by simp)))
    clear hb hN
    go_wp2_with fail
    refine (hA _).mono ?_
    rintro e w2 ⟨rfl, hb2⟩
    have HB2 := Lib.hid (HB.out.trans (hb2.mono HB.out.size))
    clear hb2 hA
    go_wp2_with fail
    go_ret
    exact ⟨rfl, HB2.out⟩
set_option maxRecDepth 100000 in
set_option maxHeartbeats 4000000 in
theorem item_may (W : World) (cs : List Value) (x : ItemM) (h : itemE.is (fun _ => True) W cs x) (hx : Sh x.aka ∧ x.e.all Sh) :
    Calls Tryz.prog 141 #[.agg cs.toArray] W fun e w' => e = .returned (.bool (itemB x)) ∧ Below W.heap.size W w' := by
  obtain ⟨u, rfl, hr⟩ := h
  obtain ⟨ao, n, c, rfl⟩ := hr.slice
  have hA := fun w => alias_may x.aka w hx.1
  have hC := fun w (hb : Below W.heap.size W w) => expr_may x.e.a (.slice ao n c) x.e.l w (hr.below hb) (Ex.short_of hx.2)
  unfold exVal at hC
  have hB : (W.alloc (.cells #[.int .u8 (x.e.a.kind : Int), .int .u8 (x.e.a.op : Int), .string (strU x.e.a.table), .string (strU x.e.a.name), .int .u8 (x.e.a.vk : Int), .int .i64 x.e.a.vi, .string (strU x.e.a.vs), .bool x.e.a.star, .slice ao n c, .string (strU x.aka), .bool x.star] 49)).heap[W.heap.size]? = some (.cells #[.int .u8 (x.e.a.kind : Int), .int .u8 (x.e.a.op : Int), .string (strU x.e.a.table), .string (strU x.e.a.name), .int .u8 (x.e.a.vk : Int), .int .i64 x.e.a.vi, .string (strU x.e.a.vs), .bool x.e.a.star, .slice ao n c, .string (strU x.aka), .bool x.star] 49 (0, 0)) := heap_alloc_new W _
  simp only [exCells, Atom.cells, List.cons_append, List.nil_append]
  unfold itemB
  have HBK := Lib.hid hB
  clear hr hx hB
  cases hst : x.star with
  | true =>
    rw [show (!true && (aliasB x.aka && fineE x.e)) = false from rfl]
    rw [hst] at HBK
    go_enter Tryz.func141, Tryz.ntmps141
    go_wp2
    go_ret
    exact ⟨rfl, below_alloc _ _⟩
  | false =>
    rw [hst] at HBK
    cases ha : aliasB x.aka with
    | false =>
      rw [ha] at hA
      rw [show (!false && (false && fineE x.e)) = false from rfl]
      go_enter Tryz.func141, Tryz.ntmps141
      go_wp2_with fail
      refine (hA _).mono ?_
      rintro e w1 ⟨rfl, hb⟩
      have HB := Lib.hid ((below_alloc W _).trans (hb.mono (by simp)))
      clear hb hA
      go_wp2_with fail
      go_ret
      exact ⟨rfl, HB.out⟩
    | true =>
      rw [ha] at hA
      rw [show (!false && (true && fineE x.e)) = fineE x.e from rfl]
      go_enter Tryz.func141, Tryz.ntmps141
      go_wp2_with fail
      refine (hA _).mono ?_
      rintro e w1 ⟨rfl, hb⟩
      have HB := Lib.hid ((below_alloc W _).trans (hb.mono (by simp)))
      have HRG := Lib.hid (World.rangeAt_of_block ((hb.block W.heap.size (by simp)).trans HBK.out) 0 9)
      clear hb hA
      go_wp2_with (refine wpListG_load_mid rfl 36 _ rfl W.heap.size 0 rfl _ _ HRG.out Tryz.underlying36 rfl (by kernel_rfl) ?_)
      refine (hC _ HB.out).mono ?_
      rintro e w2 ⟨rfl, hb2⟩
      have HB2 := Lib.hid (HB.out.trans (hb2.mono HB.out.size))
      clear hb2 hC
      go_wp2_with fail
      go_ret
      exact ⟨rfl, HB2.out⟩
set_option maxRecDepth 100000 in
set_option maxHeartbeats 4000000 in
theorem optional_may (W : World) (u : Value) (x : Ex) (hr : REs (fun _ => True) W u x.l) (hx : x.all Sh) :
    Calls Tryz.prog 69 #[exVal x.a u] W fun e w' => e = .returned (.bool (optE x)) ∧ Below W.heap.size W w' := by
  obtain ⟨ao, c, rfl, _⟩ := hr.len
  have hN := fun w => noExpr_tr x.a ao x.l.len c w
  have hC := fun W' (hb : Below W.heap.size W W') => expr_may x.a (.slice ao x.l.len c) x.l W' (hr.below hb) (Ex.short_of hx)
  rw [← noneE_is] at hN
  obtain ⟨n, hn⟩ : ∃ n, x.l.len = n := ⟨_, rfl⟩
  rw [hn] at hC hN ⊢
  unfold optE
  have HBK : Hid ((W.alloc (.cells (eA x.a (.slice ao n c)) 36)).heap[W.heap.size]? = some (.cells (eA x.a (.slice ao n c)) 36 (0, 0))) := Lib.hid (heap_alloc_new W _)
  unfold exVal at hC hN ⊢
  clear hr hx hn
  cases hn : noneE x with
  | true =>
    rw [hn] at hN
    rw [Bool.true_or]
    go_enter Tryz.func69, Tryz.ntmps69
    go_wp2_with (refine wpList_load_row rfl 36 _ rfl W.heap.size rfl _ (eA x.a (.slice ao n c)) (0, 0) _ HBK.out Tryz.underlying36 rfl (by kernel_rfl) ?_)
    refine (hN _).mono ?_
    rintro e w1 ⟨rfl, hb⟩
    have HB := Lib.hid ((below_alloc W _).trans (hb.mono (by simp)))
    clear hb hN
    go_wp2_with fail
    go_ret
    exact ⟨rfl, HB.out⟩
  | false =>
    rw [hn] at hN
    rw [Bool.false_or]
    go_enter Tryz.func69, Tryz.ntmps69
    go_wp2_with (refine wpList_load_row rfl 36 _ rfl W.heap.size rfl _ (eA x.a (.slice ao n c)) (0, 0) _ HBK.out Tryz.underlying36 rfl (by kernel_rfl) ?_)
    refine (hN _).mono ?_
    rintro e w1 ⟨rfl, hb⟩
    have HB := Lib.hid ((below_alloc W _).trans (hb.mono (by simp)))
    have HBK1 := Lib.hid ((hb.block W.heap.size (by simp)).trans HBK.out)
    clear hb hN
    go_wp2_with (refine wpListG_load_row rfl 36 _ rfl W.heap.size rfl _ (eA x.a (.slice ao n c)) (0, 0) _ HBK1.out Tryz.underlying36 rfl (by kernel_rfl) ?_)
    refine (hC _ HB.out).mono ?_
    rintro e w2 ⟨rfl, hb2⟩
    have HB2 := Lib.hid (HB.out.trans (hb2.mono HB.out.size))
    clear hb2 hC
    go_wp2_with fail
    go_ret
    exact ⟨rfl, HB2.out⟩
set_option maxRecDepth 100000 in
set_option maxHeartbeats 4000000 in
theorem row_may (W : World) (cs : List Value) (x : List Ex) (h : rowE.is (fun _ => True) W cs x) (hx : ∀ y ∈ x, y.all Sh) :
    Calls Tryz.prog 68 #[cs.headD undef] W fun e w' => e = .returned (.bool (rowB x)) ∧ Below W.heap.size W w' := by
  obtain ⟨u, rfl, hr⟩ := h
  have hrow : RowOf exE (fun _ => True) W u x := row_of_REs hr
  show Calls Tryz.prog 68 #[u] W _
  have hC := allEx_may 36 64 (by decide) (fun _ _ => rfl) fineE (Ex.all Sh) exE_may u x W hrow.from0 hx
  obtain ⟨ao, cap, he, _⟩ := hrow.slice
  subst he
  unfold rowB
  go_enter Tryz.func68, Tryz.ntmps68
  go_wp2_with fail
  refine hC.mono ?_
  rintro e w1 ⟨rfl, hb⟩
  go_wp2_with fail
  go_ret
  exact ⟨rfl, hb⟩
set_option maxRecDepth 100000 in
set_option maxHeartbeats 4000000 in
theorem limit_may (a b : Int) (W : World) :
    Calls Tryz.prog 115 #[.int .i64 a, .int .i64 b] W fun e w' => e = .returned (.bool (limitB a b)) ∧ Below W.heap.size W w' := by
  go_enter Tryz.func115, Tryz.ntmps115
  go_wp2
  all_goals go_ret
  all_goals (refine ⟨?_, Below.refl _ _⟩)
  all_goals (simp_all [limitB] <;> (intros; omega))
end
section
open Go.RowKit Go.Shelf
set_option linter.unusedVariables false

/-- a statement's lists have so many parts -/
structure Lens (x : StM) (n1 n2 n3 n4 n5 n6 n7 n8 n9 : Nat) : Prop where
  h1 : x.columns.length = n1
  h2 : x.names.length = n2
  h3 : x.rows.length = n3
  h4 : x.items.length = n4
  h5 : x.tables.length = n5
  h6 : x.cond.l.len = n6
  h7 : x.group.length = n7
  h8 : x.having_.l.len = n8
  h9 : x.order.length = n9
theorem StHeld.lens {P : Nat → Prop} {w : World} {x : StM} {v1 v2 v3 v4 v5 v6 v7 v8 v9 : Value} (h : StHeld P w x v1 v2 v3 v4 v5 v6 v7 v8 v9) :
    ∃ a1 n1 c1 a2 n2 c2 a3 n3 c3 a4 n4 c4 a5 n5 c5 a6 n6 c6 a7 n7 c7 a8 n8 c8 a9 n9 c9, (v1 = .slice a1 n1 c1 ∧ v2 = .slice a2 n2 c2 ∧ v3 = .slice a3 n3 c3 ∧ v4 = .slice a4 n4 c4 ∧ v5 = .slice a5 n5 c5 ∧ v6 = .slice a6 n6 c6 ∧ v7 = .slice a7 n7 c7 ∧ v8 = .slice a8 n8 c8 ∧ v9 = .slice a9 n9 c9) ∧ Lens x n1 n2 n3 n4 n5 n6 n7 n8 n9 := by
  obtain ⟨a1, c1, e1, _⟩ := h.hc.slice
  obtain ⟨a2, c2, e2, _⟩ := h.hn.slice
  obtain ⟨a3, c3, e3, _⟩ := h.hr.slice
  obtain ⟨a4, c4, e4, _⟩ := h.hi.slice
  obtain ⟨a5, c5, e5, _⟩ := h.hf.slice
  obtain ⟨a6, c6, e6, _⟩ := h.hu.len
  obtain ⟨a7, c7, e7, _⟩ := h.hg.slice
  obtain ⟨a8, c8, e8, _⟩ := h.hh.len
  obtain ⟨a9, c9, e9, _⟩ := h.ho.slice
  exact ⟨a1, _, c1, a2, _, c2, a3, _, c3, a4, _, c4, a5, _, c5, a6, _, c6, a7, _, c7, a8, _, c8, a9, _, c9, ⟨e1, e2, e3, e4, e5, e6, e7, e8, e9⟩, ⟨rfl, rfl, rfl, rfl, rfl, rfl, rfl, rfl, rfl⟩⟩
/-- what is handed back: of what is left -/
def RestS (x : StM) (w : World) (e : Ending) (w' : World) : Prop := ∃ (y : StM) (a1 : Option Addr) (n1 c1 : Nat) (a2 : Option Addr) (n2 c2 : Nat) (a3 : Option Addr) (n3 c3 : Nat) (a4 : Option Addr) (n4 c4 : Nat) (a5 : Option Addr) (n5 c5 : Nat) (a6 : Option Addr) (n6 c6 : Nat) (a7 : Option Addr) (n7 c7 : Nat) (a8 : Option Addr) (n8 c8 : Nat) (a9 : Option Addr) (n9 c9 : Nat), e = .returned (.agg (stArr y (.slice a1 n1 c1) (.slice a2 n2 c2) (.slice a3 n3 c3) (.slice a4 n4 c4) (.slice a5 n5 c5) (.slice a6 n6 c6) (.slice a7 n7 c7) (.slice a8 n8 c8) (.slice a9 n9 c9))) ∧ Lens y n1 n2 n3 n4 n5 n6 n7 n8 n9 ∧ y = restS x ∧ Below w.heap.size w w'
set_option maxRecDepth 100000 in
set_option maxHeartbeats 8000000 in
theorem restS_0 (x : StM) (a1 : Option Addr) (n1 c1 : Nat) (a2 : Option Addr) (n2 c2 : Nat) (a3 : Option Addr) (n3 c3 : Nat) (a4 : Option Addr) (n4 c4 : Nat) (a5 : Option Addr) (n5 c5 : Nat) (a6 : Option Addr) (n6 c6 : Nat) (a7 : Option Addr) (n7 c7 : Nat) (a8 : Option Addr) (n8 c8 : Nat) (a9 : Option Addr) (n9 c9 : Nat) (hl : Lens x n1 n2 n3 n4 n5 n6 n7 n8 n9) (w : World) (hk : x.kind = 0) :
    Calls Tryz.prog 33 #[.agg (xA x a1 n1 c1 a2 n2 c2 a3 n3 c3 a4 n4 c4 a5 n5 c5 a6 n6 c6 a7 n7 c7 a8 n8 c8 a9 n9 c9)] w (RestS x w) := by
  have k1 : ((x.kind : Int) == 1) = false := by rw [beq_eq_false_iff_ne]; omega
  have k2 : ((x.kind : Int) == 2) = false := by rw [beq_eq_false_iff_ne]; omega
  have k3 : ((x.kind : Int) == 3) = false := by rw [beq_eq_false_iff_ne]; omega
  have k4 : ((x.kind : Int) == 4) = false := by rw [beq_eq_false_iff_ne]; omega
  have k5 : ((x.kind : Int) == 5) = false := by rw [beq_eq_false_iff_ne]; omega
  have k6 : ((x.kind : Int) == 6) = false := by rw [beq_eq_false_iff_ne]; omega
  have k7 : ((x.kind : Int) == 7) = false := by rw [beq_eq_false_iff_ne]; omega
  go_enter Tryz.func33, Tryz.ntmps33
  go_wp2_with (first
    | (refine wpList_load_row rfl 39 _ rfl w.heap.size rfl _ (s11 0 ((strU x.name)) ((strU x.table)) (.slice a1 n1 c1) (.slice a2 n2 c2) (.slice a3 n3 c3) (.slice a4 n4 c4) (.slice a5 n5 c5) x.cond.a (.slice a6 n6 c6) (.slice a7 n7 c7) x.having_.a (.slice a8 n8 c8) (.slice a9 n9 c9) x.limit x.skip) (0, 0) _ (heap_alloc2_old _ _ _) Tryz.underlying39 rfl (by kernel_rfl) ?_)
    | (refine wpList_store_row rfl 39 _ _ rfl (w.heap.size + 1) (s11 0 ((strU x.name)) ((strU x.table)) (.slice a1 n1 c1) (.slice a2 n2 c2) (.slice a3 n3 c3) (.slice a4 n4 c4) (.slice a5 n5 c5) x.cond.a (.slice a6 n6 c6) (.slice a7 n7 c7) x.having_.a (.slice a8 n8 c8) (.slice a9 n9 c9) x.limit x.skip) rfl rfl _ _ (heap_alloc2_new _ _ _) (by kernel_rfl) rfl (by simp [Value.oneCell']) ?_))
  refine bodyPost_ret (results_cell_row Tryz.results33 _ _ (w.heap.size + 1) 39 (s11 0 ((strU x.name)) ((strU x.table)) (.slice a1 n1 c1) (.slice a2 n2 c2) (.slice a3 n3 c3) (.slice a4 n4 c4) (.slice a5 n5 c5) x.cond.a (.slice a6 n6 c6) (.slice a7 n7 c7) x.having_.a (.slice a8 n8 c8) (.slice a9 n9 c9) x.limit x.skip) (0, 0) _ rfl (setRow_heap _ _ _ _ _ _ (heap_alloc2_new _ _ _)) Tryz.underlying39 rfl (by kernel_rfl)) rfl ?_
  refine ⟨restS x, a1, n1, c1, a2, n2, c2, a3, n3, c3, a4, n4, c4, a5, n5, c5, a6, n6, c6, a7, n7, c7, a8, n8, c8, a9, n9, c9, ?_, ?_, rfl, ?_⟩
  · simp [restS, hk, stArr]
  · obtain ⟨h1, h2, h3, h4, h5, h6, h7, h8, h9⟩ := hl
    constructor <;> simp [restS, hk, noE, Exs.len, *]
  · exact ((Turn.alloc (· = w.heap.size + 1) w _).trans ((Turn.alloc _ _ _).trans (Turn.setRow (· = w.heap.size + 1) _ _ _ rfl))).below (fun k hk e => by omega)
set_option maxRecDepth 100000 in
set_option maxHeartbeats 8000000 in
theorem restS_1 (x : StM) (a1 : Option Addr) (n1 c1 : Nat) (a2 : Option Addr) (n2 c2 : Nat) (a3 : Option Addr) (n3 c3 : Nat) (a4 : Option Addr) (n4 c4 : Nat) (a5 : Option Addr) (n5 c5 : Nat) (a6 : Option Addr) (n6 c6 : Nat) (a7 : Option Addr) (n7 c7 : Nat) (a8 : Option Addr) (n8 c8 : Nat) (a9 : Option Addr) (n9 c9 : Nat) (hl : Lens x n1 n2 n3 n4 n5 n6 n7 n8 n9) (w : World) (hk : x.kind = 1) :
    Calls Tryz.prog 33 #[.agg (xA x a1 n1 c1 a2 n2 c2 a3 n3 c3 a4 n4 c4 a5 n5 c5 a6 n6 c6 a7 n7 c7 a8 n8 c8 a9 n9 c9)] w (RestS x w) := by
  have k1 : ((x.kind : Int) == 1) = true := by rw [hk]; rfl
  have k2 : ((x.kind : Int) == 2) = false := by rw [beq_eq_false_iff_ne]; omega
  have k3 : ((x.kind : Int) == 3) = false := by rw [beq_eq_false_iff_ne]; omega
  have k4 : ((x.kind : Int) == 4) = false := by rw [beq_eq_false_iff_ne]; omega
  have k5 : ((x.kind : Int) == 5) = false := by rw [beq_eq_false_iff_ne]; omega
  have k6 : ((x.kind : Int) == 6) = false := by rw [beq_eq_false_iff_ne]; omega
  have k7 : ((x.kind : Int) == 7) = false := by rw [beq_eq_false_iff_ne]; omega
  go_enter Tryz.func33, Tryz.ntmps33
  go_wp2_with (first
    | (refine wpList_load_row rfl 39 _ rfl w.heap.size rfl _ (s11 0 ((strU x.name)) z0 nS (.slice a2 n2 c2) (.slice a3 n3 c3) (.slice a4 n4 c4) (.slice a5 n5 c5) x.cond.a (.slice a6 n6 c6) (.slice a7 n7 c7) x.having_.a (.slice a8 n8 c8) (.slice a9 n9 c9) x.limit x.skip) (0, 0) _ (heap_alloc2_old _ _ _) Tryz.underlying39 rfl (by kernel_rfl) ?_)
    | (refine wpList_store_row rfl 39 _ _ rfl (w.heap.size + 1) (s11 0 ((strU x.name)) z0 nS (.slice a2 n2 c2) (.slice a3 n3 c3) (.slice a4 n4 c4) (.slice a5 n5 c5) x.cond.a (.slice a6 n6 c6) (.slice a7 n7 c7) x.having_.a (.slice a8 n8 c8) (.slice a9 n9 c9) x.limit x.skip) rfl rfl _ _ (heap_alloc2_new _ _ _) (by kernel_rfl) rfl (by simp [Value.oneCell']) ?_))
  refine bodyPost_ret (results_cell_row Tryz.results33 _ _ (w.heap.size + 1) 39 (s11 0 ((strU x.name)) z0 nS (.slice a2 n2 c2) (.slice a3 n3 c3) (.slice a4 n4 c4) (.slice a5 n5 c5) x.cond.a (.slice a6 n6 c6) (.slice a7 n7 c7) x.having_.a (.slice a8 n8 c8) (.slice a9 n9 c9) x.limit x.skip) (0, 0) _ rfl (setRow_heap _ _ _ _ _ _ (heap_alloc2_new _ _ _)) Tryz.underlying39 rfl (by kernel_rfl)) rfl ?_
  refine ⟨restS x, none, 0, 0, a2, n2, c2, a3, n3, c3, a4, n4, c4, a5, n5, c5, a6, n6, c6, a7, n7, c7, a8, n8, c8, a9, n9, c9, ?_, ?_, rfl, ?_⟩
  · simp [restS, hk, stArr, noE, noA, strU]
  · obtain ⟨h1, h2, h3, h4, h5, h6, h7, h8, h9⟩ := hl
    constructor <;> simp [restS, hk, noE, Exs.len, *]
  · exact ((Turn.alloc (· = w.heap.size + 1) w _).trans ((Turn.alloc _ _ _).trans (Turn.setRow (· = w.heap.size + 1) _ _ _ rfl))).below (fun k hk e => by omega)
set_option maxRecDepth 100000 in
set_option maxHeartbeats 8000000 in
theorem restS_2 (x : StM) (a1 : Option Addr) (n1 c1 : Nat) (a2 : Option Addr) (n2 c2 : Nat) (a3 : Option Addr) (n3 c3 : Nat) (a4 : Option Addr) (n4 c4 : Nat) (a5 : Option Addr) (n5 c5 : Nat) (a6 : Option Addr) (n6 c6 : Nat) (a7 : Option Addr) (n7 c7 : Nat) (a8 : Option Addr) (n8 c8 : Nat) (a9 : Option Addr) (n9 c9 : Nat) (hl : Lens x n1 n2 n3 n4 n5 n6 n7 n8 n9) (w : World) (hk : x.kind = 2) :
    Calls Tryz.prog 33 #[.agg (xA x a1 n1 c1 a2 n2 c2 a3 n3 c3 a4 n4 c4 a5 n5 c5 a6 n6 c6 a7 n7 c7 a8 n8 c8 a9 n9 c9)] w (RestS x w) := by
  have k1 : ((x.kind : Int) == 1) = false := by rw [beq_eq_false_iff_ne]; omega
  have k2 : ((x.kind : Int) == 2) = true := by rw [hk]; rfl
  have k3 : ((x.kind : Int) == 3) = false := by rw [beq_eq_false_iff_ne]; omega
  have k4 : ((x.kind : Int) == 4) = false := by rw [beq_eq_false_iff_ne]; omega
  have k5 : ((x.kind : Int) == 5) = false := by rw [beq_eq_false_iff_ne]; omega
  have k6 : ((x.kind : Int) == 6) = false := by rw [beq_eq_false_iff_ne]; omega
  have k7 : ((x.kind : Int) == 7) = false := by rw [beq_eq_false_iff_ne]; omega
  go_enter Tryz.func33, Tryz.ntmps33
  go_wp2_with (first
    | (refine wpList_load_row rfl 39 _ rfl w.heap.size rfl _ (s11 0 ((strU x.name)) z0 (.slice a1 n1 c1) (.slice a2 n2 c2) (.slice a3 n3 c3) (.slice a4 n4 c4) (.slice a5 n5 c5) x.cond.a (.slice a6 n6 c6) (.slice a7 n7 c7) x.having_.a (.slice a8 n8 c8) (.slice a9 n9 c9) x.limit x.skip) (0, 0) _ (heap_alloc2_old _ _ _) Tryz.underlying39 rfl (by kernel_rfl) ?_)
    | (refine wpList_store_row rfl 39 _ _ rfl (w.heap.size + 1) (s11 0 ((strU x.name)) z0 (.slice a1 n1 c1) (.slice a2 n2 c2) (.slice a3 n3 c3) (.slice a4 n4 c4) (.slice a5 n5 c5) x.cond.a (.slice a6 n6 c6) (.slice a7 n7 c7) x.having_.a (.slice a8 n8 c8) (.slice a9 n9 c9) x.limit x.skip) rfl rfl _ _ (heap_alloc2_new _ _ _) (by kernel_rfl) rfl (by simp [Value.oneCell']) ?_))
  refine bodyPost_ret (results_cell_row Tryz.results33 _ _ (w.heap.size + 1) 39 (s11 0 ((strU x.name)) z0 (.slice a1 n1 c1) (.slice a2 n2 c2) (.slice a3 n3 c3) (.slice a4 n4 c4) (.slice a5 n5 c5) x.cond.a (.slice a6 n6 c6) (.slice a7 n7 c7) x.having_.a (.slice a8 n8 c8) (.slice a9 n9 c9) x.limit x.skip) (0, 0) _ rfl (setRow_heap _ _ _ _ _ _ (heap_alloc2_new _ _ _)) Tryz.underlying39 rfl (by kernel_rfl)) rfl ?_
  refine ⟨restS x, a1, n1, c1, a2, n2, c2, a3, n3, c3, a4, n4, c4, a5, n5, c5, a6, n6, c6, a7, n7, c7, a8, n8, c8, a9, n9, c9, ?_, ?_, rfl, ?_⟩
  · simp [restS, hk, stArr, noE, noA, strU]
  · obtain ⟨h1, h2, h3, h4, h5, h6, h7, h8, h9⟩ := hl
    constructor <;> simp [restS, hk, noE, Exs.len, *]
  · exact ((Turn.alloc (· = w.heap.size + 1) w _).trans ((Turn.alloc _ _ _).trans (Turn.setRow (· = w.heap.size + 1) _ _ _ rfl))).below (fun k hk e => by omega)
set_option maxRecDepth 100000 in
set_option maxHeartbeats 8000000 in
theorem restS_3 (x : StM) (a1 : Option Addr) (n1 c1 : Nat) (a2 : Option Addr) (n2 c2 : Nat) (a3 : Option Addr) (n3 c3 : Nat) (a4 : Option Addr) (n4 c4 : Nat) (a5 : Option Addr) (n5 c5 : Nat) (a6 : Option Addr) (n6 c6 : Nat) (a7 : Option Addr) (n7 c7 : Nat) (a8 : Option Addr) (n8 c8 : Nat) (a9 : Option Addr) (n9 c9 : Nat) (hl : Lens x n1 n2 n3 n4 n5 n6 n7 n8 n9) (w : World) (hk : x.kind = 3) :
    Calls Tryz.prog 33 #[.agg (xA x a1 n1 c1 a2 n2 c2 a3 n3 c3 a4 n4 c4 a5 n5 c5 a6 n6 c6 a7 n7 c7 a8 n8 c8 a9 n9 c9)] w (RestS x w) := by
  have k1 : ((x.kind : Int) == 1) = false := by rw [beq_eq_false_iff_ne]; omega
  have k2 : ((x.kind : Int) == 2) = false := by rw [beq_eq_false_iff_ne]; omega
  have k3 : ((x.kind : Int) == 3) = true := by rw [hk]; rfl
  have k4 : ((x.kind : Int) == 4) = false := by rw [beq_eq_false_iff_ne]; omega
  have k5 : ((x.kind : Int) == 5) = false := by rw [beq_eq_false_iff_ne]; omega
  have k6 : ((x.kind : Int) == 6) = false := by rw [beq_eq_false_iff_ne]; omega
  have k7 : ((x.kind : Int) == 7) = false := by rw [beq_eq_false_iff_ne]; omega
  go_enter Tryz.func33, Tryz.ntmps33
  go_wp2_with (first
    | (refine wpList_load_row rfl 39 _ rfl w.heap.size rfl _ (s11 0 z0 z0 (.slice a1 n1 c1) nS (.slice a3 n3 c3) (.slice a4 n4 c4) (.slice a5 n5 c5) x.cond.a (.slice a6 n6 c6) (.slice a7 n7 c7) x.having_.a (.slice a8 n8 c8) (.slice a9 n9 c9) x.limit x.skip) (0, 0) _ (heap_alloc2_old _ _ _) Tryz.underlying39 rfl (by kernel_rfl) ?_)
    | (refine wpList_store_row rfl 39 _ _ rfl (w.heap.size + 1) (s11 0 z0 z0 (.slice a1 n1 c1) nS (.slice a3 n3 c3) (.slice a4 n4 c4) (.slice a5 n5 c5) x.cond.a (.slice a6 n6 c6) (.slice a7 n7 c7) x.having_.a (.slice a8 n8 c8) (.slice a9 n9 c9) x.limit x.skip) rfl rfl _ _ (heap_alloc2_new _ _ _) (by kernel_rfl) rfl (by simp [Value.oneCell']) ?_))
  refine bodyPost_ret (results_cell_row Tryz.results33 _ _ (w.heap.size + 1) 39 (s11 0 z0 z0 (.slice a1 n1 c1) nS (.slice a3 n3 c3) (.slice a4 n4 c4) (.slice a5 n5 c5) x.cond.a (.slice a6 n6 c6) (.slice a7 n7 c7) x.having_.a (.slice a8 n8 c8) (.slice a9 n9 c9) x.limit x.skip) (0, 0) _ rfl (setRow_heap _ _ _ _ _ _ (heap_alloc2_new _ _ _)) Tryz.underlying39 rfl (by kernel_rfl)) rfl ?_
  refine ⟨restS x, a1, n1, c1, none, 0, 0, a3, n3, c3, a4, n4, c4, a5, n5, c5, a6, n6, c6, a7, n7, c7, a8, n8, c8, a9, n9, c9, ?_, ?_, rfl, ?_⟩
  · simp [restS, hk, stArr, noE, noA, strU]
  · obtain ⟨h1, h2, h3, h4, h5, h6, h7, h8, h9⟩ := hl
    constructor <;> simp [restS, hk, noE, Exs.len, *]
  · exact ((Turn.alloc (· = w.heap.size + 1) w _).trans ((Turn.alloc _ _ _).trans (Turn.setRow (· = w.heap.size + 1) _ _ _ rfl))).below (fun k hk e => by omega)
set_option maxRecDepth 100000 in
set_option maxHeartbeats 8000000 in
theorem restS_4 (x : StM) (a1 : Option Addr) (n1 c1 : Nat) (a2 : Option Addr) (n2 c2 : Nat) (a3 : Option Addr) (n3 c3 : Nat) (a4 : Option Addr) (n4 c4 : Nat) (a5 : Option Addr) (n5 c5 : Nat) (a6 : Option Addr) (n6 c6 : Nat) (a7 : Option Addr) (n7 c7 : Nat) (a8 : Option Addr) (n8 c8 : Nat) (a9 : Option Addr) (n9 c9 : Nat) (hl : Lens x n1 n2 n3 n4 n5 n6 n7 n8 n9) (w : World) (hk : x.kind = 4) :
    Calls Tryz.prog 33 #[.agg (xA x a1 n1 c1 a2 n2 c2 a3 n3 c3 a4 n4 c4 a5 n5 c5 a6 n6 c6 a7 n7 c7 a8 n8 c8 a9 n9 c9)] w (RestS x w) := by
  have k1 : ((x.kind : Int) == 1) = false := by rw [beq_eq_false_iff_ne]; omega
  have k2 : ((x.kind : Int) == 2) = false := by rw [beq_eq_false_iff_ne]; omega
  have k3 : ((x.kind : Int) == 3) = false := by rw [beq_eq_false_iff_ne]; omega
  have k4 : ((x.kind : Int) == 4) = true := by rw [hk]; rfl
  have k5 : ((x.kind : Int) == 5) = false := by rw [beq_eq_false_iff_ne]; omega
  have k6 : ((x.kind : Int) == 6) = false := by rw [beq_eq_false_iff_ne]; omega
  have k7 : ((x.kind : Int) == 7) = false := by rw [beq_eq_false_iff_ne]; omega
  go_enter Tryz.func33, Tryz.ntmps33
  go_wp2_with (first
    | (refine wpList_load_row rfl 39 _ rfl w.heap.size rfl _ (s11 0 ((strU x.name)) z0 (.slice a1 n1 c1) nS nS (.slice a4 n4 c4) (.slice a5 n5 c5) x.cond.a (.slice a6 n6 c6) (.slice a7 n7 c7) x.having_.a (.slice a8 n8 c8) (.slice a9 n9 c9) x.limit x.skip) (0, 0) _ (heap_alloc2_old _ _ _) Tryz.underlying39 rfl (by kernel_rfl) ?_)
    | (refine wpList_store_row rfl 39 _ _ rfl (w.heap.size + 1) (s11 0 ((strU x.name)) z0 (.slice a1 n1 c1) nS nS (.slice a4 n4 c4) (.slice a5 n5 c5) x.cond.a (.slice a6 n6 c6) (.slice a7 n7 c7) x.having_.a (.slice a8 n8 c8) (.slice a9 n9 c9) x.limit x.skip) rfl rfl _ _ (heap_alloc2_new _ _ _) (by kernel_rfl) rfl (by simp [Value.oneCell']) ?_))
  refine bodyPost_ret (results_cell_row Tryz.results33 _ _ (w.heap.size + 1) 39 (s11 0 ((strU x.name)) z0 (.slice a1 n1 c1) nS nS (.slice a4 n4 c4) (.slice a5 n5 c5) x.cond.a (.slice a6 n6 c6) (.slice a7 n7 c7) x.having_.a (.slice a8 n8 c8) (.slice a9 n9 c9) x.limit x.skip) (0, 0) _ rfl (setRow_heap _ _ _ _ _ _ (heap_alloc2_new _ _ _)) Tryz.underlying39 rfl (by kernel_rfl)) rfl ?_
  refine ⟨restS x, a1, n1, c1, none, 0, 0, none, 0, 0, a4, n4, c4, a5, n5, c5, a6, n6, c6, a7, n7, c7, a8, n8, c8, a9, n9, c9, ?_, ?_, rfl, ?_⟩
  · simp [restS, hk, stArr, noE, noA, strU]
  · obtain ⟨h1, h2, h3, h4, h5, h6, h7, h8, h9⟩ := hl
    constructor <;> simp [restS, hk, noE, Exs.len, *]
  · exact ((Turn.alloc (· = w.heap.size + 1) w _).trans ((Turn.alloc _ _ _).trans (Turn.setRow (· = w.heap.size + 1) _ _ _ rfl))).below (fun k hk e => by omega)
set_option maxRecDepth 100000 in
set_option maxHeartbeats 8000000 in
theorem restS_5 (x : StM) (a1 : Option Addr) (n1 c1 : Nat) (a2 : Option Addr) (n2 c2 : Nat) (a3 : Option Addr) (n3 c3 : Nat) (a4 : Option Addr) (n4 c4 : Nat) (a5 : Option Addr) (n5 c5 : Nat) (a6 : Option Addr) (n6 c6 : Nat) (a7 : Option Addr) (n7 c7 : Nat) (a8 : Option Addr) (n8 c8 : Nat) (a9 : Option Addr) (n9 c9 : Nat) (hl : Lens x n1 n2 n3 n4 n5 n6 n7 n8 n9) (w : World) (hk : x.kind = 5) :
    Calls Tryz.prog 33 #[.agg (xA x a1 n1 c1 a2 n2 c2 a3 n3 c3 a4 n4 c4 a5 n5 c5 a6 n6 c6 a7 n7 c7 a8 n8 c8 a9 n9 c9)] w (RestS x w) := by
  have k1 : ((x.kind : Int) == 1) = false := by rw [beq_eq_false_iff_ne]; omega
  have k2 : ((x.kind : Int) == 2) = false := by rw [beq_eq_false_iff_ne]; omega
  have k3 : ((x.kind : Int) == 3) = false := by rw [beq_eq_false_iff_ne]; omega
  have k4 : ((x.kind : Int) == 4) = false := by rw [beq_eq_false_iff_ne]; omega
  have k5 : ((x.kind : Int) == 5) = true := by rw [hk]; rfl
  have k6 : ((x.kind : Int) == 6) = false := by rw [beq_eq_false_iff_ne]; omega
  have k7 : ((x.kind : Int) == 7) = false := by rw [beq_eq_false_iff_ne]; omega
  go_enter Tryz.func33, Tryz.ntmps33
  go_wp2_with (first
    | (refine wpList_load_row rfl 39 _ rfl w.heap.size rfl _ (s01 0 ((strU x.name)) z0 (.slice a1 n1 c1) nS nS (.slice a4 n4 c4) (.slice a5 n5 c5) (.slice a7 n7 c7) x.having_.a (.slice a8 n8 c8) (.slice a9 n9 c9) x.limit x.skip) (0, 0) _ (heap_alloc2_old _ _ _) Tryz.underlying39 rfl (by kernel_rfl) ?_)
    | (refine wpList_store_row rfl 39 _ _ rfl (w.heap.size + 1) (s01 0 ((strU x.name)) z0 (.slice a1 n1 c1) nS nS (.slice a4 n4 c4) (.slice a5 n5 c5) (.slice a7 n7 c7) x.having_.a (.slice a8 n8 c8) (.slice a9 n9 c9) x.limit x.skip) rfl rfl _ _ (heap_alloc2_new _ _ _) (by kernel_rfl) rfl (by simp [Value.oneCell']) ?_))
  refine bodyPost_ret (results_cell_row Tryz.results33 _ _ (w.heap.size + 1) 39 (s01 0 ((strU x.name)) z0 (.slice a1 n1 c1) nS nS (.slice a4 n4 c4) (.slice a5 n5 c5) (.slice a7 n7 c7) x.having_.a (.slice a8 n8 c8) (.slice a9 n9 c9) x.limit x.skip) (0, 0) _ rfl (setRow_heap _ _ _ _ _ _ (heap_alloc2_new _ _ _)) Tryz.underlying39 rfl (by kernel_rfl)) rfl ?_
  refine ⟨restS x, a1, n1, c1, none, 0, 0, none, 0, 0, a4, n4, c4, a5, n5, c5, none, 0, 0, a7, n7, c7, a8, n8, c8, a9, n9, c9, ?_, ?_, rfl, ?_⟩
  · simp [restS, hk, stArr, noE, noA, strU]
  · obtain ⟨h1, h2, h3, h4, h5, h6, h7, h8, h9⟩ := hl
    constructor <;> simp [restS, hk, noE, Exs.len, *]
  · exact ((Turn.alloc (· = w.heap.size + 1) w _).trans ((Turn.alloc _ _ _).trans (Turn.setRow (· = w.heap.size + 1) _ _ _ rfl))).below (fun k hk e => by omega)
set_option maxRecDepth 100000 in
set_option maxHeartbeats 8000000 in
theorem restS_6 (x : StM) (a1 : Option Addr) (n1 c1 : Nat) (a2 : Option Addr) (n2 c2 : Nat) (a3 : Option Addr) (n3 c3 : Nat) (a4 : Option Addr) (n4 c4 : Nat) (a5 : Option Addr) (n5 c5 : Nat) (a6 : Option Addr) (n6 c6 : Nat) (a7 : Option Addr) (n7 c7 : Nat) (a8 : Option Addr) (n8 c8 : Nat) (a9 : Option Addr) (n9 c9 : Nat) (hl : Lens x n1 n2 n3 n4 n5 n6 n7 n8 n9) (w : World) (hk : x.kind = 6) :
    Calls Tryz.prog 33 #[.agg (xA x a1 n1 c1 a2 n2 c2 a3 n3 c3 a4 n4 c4 a5 n5 c5 a6 n6 c6 a7 n7 c7 a8 n8 c8 a9 n9 c9)] w (RestS x w) := by
  have k1 : ((x.kind : Int) == 1) = false := by rw [beq_eq_false_iff_ne]; omega
  have k2 : ((x.kind : Int) == 2) = false := by rw [beq_eq_false_iff_ne]; omega
  have k3 : ((x.kind : Int) == 3) = false := by rw [beq_eq_false_iff_ne]; omega
  have k4 : ((x.kind : Int) == 4) = false := by rw [beq_eq_false_iff_ne]; omega
  have k5 : ((x.kind : Int) == 5) = false := by rw [beq_eq_false_iff_ne]; omega
  have k6 : ((x.kind : Int) == 6) = true := by rw [hk]; rfl
  have k7 : ((x.kind : Int) == 7) = false := by rw [beq_eq_false_iff_ne]; omega
  go_enter Tryz.func33, Tryz.ntmps33
  go_wp2_with (first
    | (refine wpList_load_row rfl 39 _ rfl w.heap.size rfl _ (s01 0 ((strU x.name)) z0 (.slice a1 n1 c1) (.slice a2 n2 c2) (.slice a3 n3 c3) (.slice a4 n4 c4) (.slice a5 n5 c5) (.slice a7 n7 c7) x.having_.a (.slice a8 n8 c8) (.slice a9 n9 c9) x.limit x.skip) (0, 0) _ (heap_alloc2_old _ _ _) Tryz.underlying39 rfl (by kernel_rfl) ?_)
    | (refine wpList_store_row rfl 39 _ _ rfl (w.heap.size + 1) (s01 0 ((strU x.name)) z0 (.slice a1 n1 c1) (.slice a2 n2 c2) (.slice a3 n3 c3) (.slice a4 n4 c4) (.slice a5 n5 c5) (.slice a7 n7 c7) x.having_.a (.slice a8 n8 c8) (.slice a9 n9 c9) x.limit x.skip) rfl rfl _ _ (heap_alloc2_new _ _ _) (by kernel_rfl) rfl (by simp [Value.oneCell']) ?_))
  refine bodyPost_ret (results_cell_row Tryz.results33 _ _ (w.heap.size + 1) 39 (s01 0 ((strU x.name)) z0 (.slice a1 n1 c1) (.slice a2 n2 c2) (.slice a3 n3 c3) (.slice a4 n4 c4) (.slice a5 n5 c5) (.slice a7 n7 c7) x.having_.a (.slice a8 n8 c8) (.slice a9 n9 c9) x.limit x.skip) (0, 0) _ rfl (setRow_heap _ _ _ _ _ _ (heap_alloc2_new _ _ _)) Tryz.underlying39 rfl (by kernel_rfl)) rfl ?_
  refine ⟨restS x, a1, n1, c1, a2, n2, c2, a3, n3, c3, a4, n4, c4, a5, n5, c5, none, 0, 0, a7, n7, c7, a8, n8, c8, a9, n9, c9, ?_, ?_, rfl, ?_⟩
  · simp [restS, hk, stArr, noE, noA, strU]
  · obtain ⟨h1, h2, h3, h4, h5, h6, h7, h8, h9⟩ := hl
    constructor <;> simp [restS, hk, noE, Exs.len, *]
  · exact ((Turn.alloc (· = w.heap.size + 1) w _).trans ((Turn.alloc _ _ _).trans (Turn.setRow (· = w.heap.size + 1) _ _ _ rfl))).below (fun k hk e => by omega)
set_option maxRecDepth 100000 in
set_option maxHeartbeats 8000000 in
theorem restS_7 (x : StM) (a1 : Option Addr) (n1 c1 : Nat) (a2 : Option Addr) (n2 c2 : Nat) (a3 : Option Addr) (n3 c3 : Nat) (a4 : Option Addr) (n4 c4 : Nat) (a5 : Option Addr) (n5 c5 : Nat) (a6 : Option Addr) (n6 c6 : Nat) (a7 : Option Addr) (n7 c7 : Nat) (a8 : Option Addr) (n8 c8 : Nat) (a9 : Option Addr) (n9 c9 : Nat) (hl : Lens x n1 n2 n3 n4 n5 n6 n7 n8 n9) (w : World) (hk : x.kind = 7) :
    Calls Tryz.prog 33 #[.agg (xA x a1 n1 c1 a2 n2 c2 a3 n3 c3 a4 n4 c4 a5 n5 c5 a6 n6 c6 a7 n7 c7 a8 n8 c8 a9 n9 c9)] w (RestS x w) := by
  have k1 : ((x.kind : Int) == 1) = false := by rw [beq_eq_false_iff_ne]; omega
  have k2 : ((x.kind : Int) == 2) = false := by rw [beq_eq_false_iff_ne]; omega
  have k3 : ((x.kind : Int) == 3) = false := by rw [beq_eq_false_iff_ne]; omega
  have k4 : ((x.kind : Int) == 4) = false := by rw [beq_eq_false_iff_ne]; omega
  have k5 : ((x.kind : Int) == 5) = false := by rw [beq_eq_false_iff_ne]; omega
  have k6 : ((x.kind : Int) == 6) = false := by rw [beq_eq_false_iff_ne]; omega
  have k7 : ((x.kind : Int) == 7) = true := by rw [hk]; rfl
  go_enter Tryz.func33, Tryz.ntmps33
  go_wp2_with (first
    | (refine wpList_load_row rfl 39 _ rfl w.heap.size rfl _ (s00 0 ((strU x.name)) ((strU x.table)) (.slice a1 n1 c1) (.slice a2 n2 c2) (.slice a3 n3 c3) nS nS nS nS 0 0) (0, 0) _ (heap_alloc2_old _ _ _) Tryz.underlying39 rfl (by kernel_rfl) ?_)
    | (refine wpList_store_row rfl 39 _ _ rfl (w.heap.size + 1) (s00 0 ((strU x.name)) ((strU x.table)) (.slice a1 n1 c1) (.slice a2 n2 c2) (.slice a3 n3 c3) nS nS nS nS 0 0) rfl rfl _ _ (heap_alloc2_new _ _ _) (by kernel_rfl) rfl (by simp [Value.oneCell']) ?_))
  refine bodyPost_ret (results_cell_row Tryz.results33 _ _ (w.heap.size + 1) 39 (s00 0 ((strU x.name)) ((strU x.table)) (.slice a1 n1 c1) (.slice a2 n2 c2) (.slice a3 n3 c3) nS nS nS nS 0 0) (0, 0) _ rfl (setRow_heap _ _ _ _ _ _ (heap_alloc2_new _ _ _)) Tryz.underlying39 rfl (by kernel_rfl)) rfl ?_
  refine ⟨restS x, a1, n1, c1, a2, n2, c2, a3, n3, c3, none, 0, 0, none, 0, 0, none, 0, 0, none, 0, 0, none, 0, 0, none, 0, 0, ?_, ?_, rfl, ?_⟩
  · simp [restS, hk, stArr, noE, noA, strU]
  · obtain ⟨h1, h2, h3, h4, h5, h6, h7, h8, h9⟩ := hl
    constructor <;> simp [restS, hk, noE, Exs.len, *]
  · exact ((Turn.alloc (· = w.heap.size + 1) w _).trans ((Turn.alloc _ _ _).trans (Turn.setRow (· = w.heap.size + 1) _ _ _ rfl))).below (fun k hk e => by omega)
set_option maxRecDepth 100000 in
set_option maxHeartbeats 8000000 in
theorem restS_8 (x : StM) (a1 : Option Addr) (n1 c1 : Nat) (a2 : Option Addr) (n2 c2 : Nat) (a3 : Option Addr) (n3 c3 : Nat) (a4 : Option Addr) (n4 c4 : Nat) (a5 : Option Addr) (n5 c5 : Nat) (a6 : Option Addr) (n6 c6 : Nat) (a7 : Option Addr) (n7 c7 : Nat) (a8 : Option Addr) (n8 c8 : Nat) (a9 : Option Addr) (n9 c9 : Nat) (hl : Lens x n1 n2 n3 n4 n5 n6 n7 n8 n9) (w : World) (hk : 8 ≤ x.kind) :
    Calls Tryz.prog 33 #[.agg (xA x a1 n1 c1 a2 n2 c2 a3 n3 c3 a4 n4 c4 a5 n5 c5 a6 n6 c6 a7 n7 c7 a8 n8 c8 a9 n9 c9)] w (RestS x w) := by
  have k1 : ((x.kind : Int) == 1) = false := by rw [beq_eq_false_iff_ne]; omega
  have k2 : ((x.kind : Int) == 2) = false := by rw [beq_eq_false_iff_ne]; omega
  have k3 : ((x.kind : Int) == 3) = false := by rw [beq_eq_false_iff_ne]; omega
  have k4 : ((x.kind : Int) == 4) = false := by rw [beq_eq_false_iff_ne]; omega
  have k5 : ((x.kind : Int) == 5) = false := by rw [beq_eq_false_iff_ne]; omega
  have k6 : ((x.kind : Int) == 6) = false := by rw [beq_eq_false_iff_ne]; omega
  have k7 : ((x.kind : Int) == 7) = false := by rw [beq_eq_false_iff_ne]; omega
  go_enter Tryz.func33, Tryz.ntmps33
  go_wp2_with (first
    | (refine wpList_load_row rfl 39 _ rfl w.heap.size rfl _ (s11 0 ((strU x.name)) ((strU x.table)) (.slice a1 n1 c1) (.slice a2 n2 c2) (.slice a3 n3 c3) (.slice a4 n4 c4) (.slice a5 n5 c5) x.cond.a (.slice a6 n6 c6) (.slice a7 n7 c7) x.having_.a (.slice a8 n8 c8) (.slice a9 n9 c9) x.limit x.skip) (0, 0) _ (heap_alloc2_old _ _ _) Tryz.underlying39 rfl (by kernel_rfl) ?_)
    | (refine wpList_store_row rfl 39 _ _ rfl (w.heap.size + 1) (s11 0 ((strU x.name)) ((strU x.table)) (.slice a1 n1 c1) (.slice a2 n2 c2) (.slice a3 n3 c3) (.slice a4 n4 c4) (.slice a5 n5 c5) x.cond.a (.slice a6 n6 c6) (.slice a7 n7 c7) x.having_.a (.slice a8 n8 c8) (.slice a9 n9 c9) x.limit x.skip) rfl rfl _ _ (heap_alloc2_new _ _ _) (by kernel_rfl) rfl (by simp [Value.oneCell']) ?_))
  refine bodyPost_ret (results_cell_row Tryz.results33 _ _ (w.heap.size + 1) 39 (s11 0 ((strU x.name)) ((strU x.table)) (.slice a1 n1 c1) (.slice a2 n2 c2) (.slice a3 n3 c3) (.slice a4 n4 c4) (.slice a5 n5 c5) x.cond.a (.slice a6 n6 c6) (.slice a7 n7 c7) x.having_.a (.slice a8 n8 c8) (.slice a9 n9 c9) x.limit x.skip) (0, 0) _ rfl (setRow_heap _ _ _ _ _ _ (heap_alloc2_new _ _ _)) Tryz.underlying39 rfl (by kernel_rfl)) rfl ?_
  have m1 : ¬ x.kind = 1 := by omega
  have m2 : ¬ x.kind = 2 := by omega
  have m3 : ¬ x.kind = 3 := by omega
  have m4 : ¬ x.kind = 4 := by omega
  have m5 : ¬ x.kind = 5 := by omega
  have m6 : ¬ x.kind = 6 := by omega
  have m7 : ¬ x.kind = 7 := by omega
  refine ⟨restS x, a1, n1, c1, a2, n2, c2, a3, n3, c3, a4, n4, c4, a5, n5, c5, a6, n6, c6, a7, n7, c7, a8, n8, c8, a9, n9, c9, ?_, ?_, rfl, ?_⟩
  · simp [restS, stArr, m1, m2, m3, m4, m5, m6, m7]
  · obtain ⟨h1, h2, h3, h4, h5, h6, h7, h8, h9⟩ := hl
    constructor <;> simp [restS, m1, m2, m3, m4, m5, m6, m7, noE, Exs.len, *]
  · exact ((Turn.alloc (· = w.heap.size + 1) w _).trans ((Turn.alloc _ _ _).trans (Turn.setRow (· = w.heap.size + 1) _ _ _ rfl))).below (fun k hk e => by omega)
theorem restS_any (x : StM) (a1 : Option Addr) (n1 c1 : Nat) (a2 : Option Addr) (n2 c2 : Nat) (a3 : Option Addr) (n3 c3 : Nat) (a4 : Option Addr) (n4 c4 : Nat) (a5 : Option Addr) (n5 c5 : Nat) (a6 : Option Addr) (n6 c6 : Nat) (a7 : Option Addr) (n7 c7 : Nat) (a8 : Option Addr) (n8 c8 : Nat) (a9 : Option Addr) (n9 c9 : Nat) (hl : Lens x n1 n2 n3 n4 n5 n6 n7 n8 n9) (w : World) : Calls Tryz.prog 33 #[.agg (stArr x (.slice a1 n1 c1) (.slice a2 n2 c2) (.slice a3 n3 c3) (.slice a4 n4 c4) (.slice a5 n5 c5) (.slice a6 n6 c6) (.slice a7 n7 c7) (.slice a8 n8 c8) (.slice a9 n9 c9))] w (RestS x w) := by
  have hk : x.kind = 0 ∨ x.kind = 1 ∨ x.kind = 2 ∨ x.kind = 3 ∨ x.kind = 4 ∨ x.kind = 5 ∨ x.kind = 6 ∨ x.kind = 7 ∨ 8 ≤ x.kind := by omega
  rcases hk with h | h | h | h | h | h | h | h | h
  · exact restS_0 x a1 n1 c1 a2 n2 c2 a3 n3 c3 a4 n4 c4 a5 n5 c5 a6 n6 c6 a7 n7 c7 a8 n8 c8 a9 n9 c9 hl w h
  · exact restS_1 x a1 n1 c1 a2 n2 c2 a3 n3 c3 a4 n4 c4 a5 n5 c5 a6 n6 c6 a7 n7 c7 a8 n8 c8 a9 n9 c9 hl w h
  · exact restS_2 x a1 n1 c1 a2 n2 c2 a3 n3 c3 a4 n4 c4 a5 n5 c5 a6 n6 c6 a7 n7 c7 a8 n8 c8 a9 n9 c9 hl w h
  · exact restS_3 x a1 n1 c1 a2 n2 c2 a3 n3 c3 a4 n4 c4 a5 n5 c5 a6 n6 c6 a7 n7 c7 a8 n8 c8 a9 n9 c9 hl w h
  · exact restS_4 x a1 n1 c1 a2 n2 c2 a3 n3 c3 a4 n4 c4 a5 n5 c5 a6 n6 c6 a7 n7 c7 a8 n8 c8 a9 n9 c9 hl w h
  · exact restS_5 x a1 n1 c1 a2 n2 c2 a3 n3 c3 a4 n4 c4 a5 n5 c5 a6 n6 c6 a7 n7 c7 a8 n8 c8 a9 n9 c9 hl w h
  · exact restS_6 x a1 n1 c1 a2 n2 c2 a3 n3 c3 a4 n4 c4 a5 n5 c5 a6 n6 c6 a7 n7 c7 a8 n8 c8 a9 n9 c9 hl w h
  · exact restS_7 x a1 n1 c1 a2 n2 c2 a3 n3 c3 a4 n4 c4 a5 n5 c5 a6 n6 c6 a7 n7 c7 a8 n8 c8 a9 n9 c9 hl w h
  · exact restS_8 x a1 n1 c1 a2 n2 c2 a3 n3 c3 a4 n4 c4 a5 n5 c5 a6 n6 c6 a7 n7 c7 a8 n8 c8 a9 n9 c9 hl w h
end
end Go.Proofs.YtenmnpbjnbdeaaaGreatDoor
