/-
  WHAT IS PROVED: which statements may be.
-/
import Derived.Test.YtenmnpbjnbdeaaaGreatDoorMy
namespace Go.Proofs.YtenmnpbjnbdeaaaGreatDoor
section
open Go.RowKit Go.Shelf
set_option linter.unusedVariables false

theorem itemsB_no {l : List ItemM} (h : l.length ≠ 1) : itemsB l = allB 64 itemB l := by
  match l, h with
  | [], _ => rfl
  | [x], h => exact absurd rfl h
  | x :: y :: r, _ => rfl
theorem Ret.of {F : Ending → World → Prop} {e : Ending} {w : World} (h : F e w) : F e w := h
set_option maxRecDepth 100000 in
set_option maxHeartbeats 8000000 in
theorem items_may (W : World) (v : Value) (l : List ItemM) (hv : RowOf itemE (fun _ => True) W v l) (hx : ∀ i ∈ l, Sh i.aka ∧ i.e.all Sh) :
    Calls Tryz.prog 110 #[v] W fun e w' => e = .returned (.bool (itemsB l)) ∧ Below W.heap.size W w' := by
  have hall := allItem_may 141 64 (by decide) (fun _ _ => rfl) itemB (fun i => Sh i.aka ∧ i.e.all Sh) item_may v l W hv.from0 hx
  by_cases h1 : l.length = 1
  · obtain ⟨x, rfl⟩ := List.length_eq_one_iff.1 h1
    rcases hv with ⟨_, h⟩ | ⟨g, cap, css, rfl, h2, h3, _, h4, h5, h6⟩
    · cases h
    obtain ⟨cs, ⟨u, rfl, hr⟩, hrg⟩ := row_at (d := []) (r := []) h5 h6 rfl
    obtain ⟨ao, c, rfl, _⟩ := hr.len
    have hN := fun w => noExpr_tr x.e.a ao x.e.l.len c w
    rw [← noneE_is] at hN
    obtain ⟨n, hn⟩ : ∃ n, x.e.l.len = n := ⟨_, rfl⟩
    rw [hn] at hN hrg
    unfold exVal at hN
    have c9 : W.cell? ⟨g, 9, none⟩ = some (.string (strU x.aka)) := by have := hrg 9 _ rfl; simpa using this
    have c10 : W.cell? ⟨g, 10, none⟩ = some (.bool x.star) := by have := hrg 10 _ rfl; simpa using this
    have HRG : Hid (W.rangeAt g 0 (eL x.e.a (.slice ao n c))) := Lib.hid (fun j v hj => hrg j v (by
      have hlt : j < 9 := (List.getElem?_eq_some_iff.1 hj).1
      rw [List.getElem?_append_left (by rw [exCells_len]; exact hlt)]; exact hj) |> fun h => by simpa using h)
    have HG := Lib.hid h4
    clear hrg hr hn h5 h6 h4 hx h1 h2
    unfold itemsB
    cases hs : x.star with
    | true =>
      rw [hs] at c10
      dsimp only
      rw [if_pos hs]
      clear hall hs
      cases hq : noneE x.e with
      | false =>
        rw [hq] at hN
        rw [Bool.false_and]
        show Calls Tryz.prog 110 #[.slice (some ⟨g, 0, none⟩) 1 cap] W _
        go_enter Tryz.func110, Tryz.ntmps110
        go_wp2_with (refine wpList_load_mid rfl 36 _ rfl g 0 rfl _ _ HRG.out Tryz.underlying36 rfl (by kernel_rfl) ?_)
        refine (hN _).mono ?_
        rintro e w1 ⟨rfl, hb⟩
        have d9 := (World.cell?_of_block (hb.block g HG.out)).trans c9
        have HB := Lib.hid hb
        clear hb hN
        go_wp2_with fail
        go_ret
        exact ⟨rfl, HB.out⟩
      | true =>
        rw [hq] at hN
        rw [Bool.true_and]
        show Calls Tryz.prog 110 #[.slice (some ⟨g, 0, none⟩) 1 cap] W _
        go_enter Tryz.func110, Tryz.ntmps110
        go_wp2_with (refine wpList_load_mid rfl 36 _ rfl g 0 rfl _ _ HRG.out Tryz.underlying36 rfl (by kernel_rfl) ?_)
        refine (hN _).mono ?_
        rintro e w1 ⟨rfl, hb⟩
        have d9 := (World.cell?_of_block (hb.block g HG.out)).trans c9
        have HB := Lib.hid hb
        clear hb hN
        go_wp2_with fail
        all_goals go_ret
        all_goals (refine ⟨?_, HB.out⟩)
        all_goals (simp_all [strU_T] <;> (rw [Bool.eq_iff_iff]; simp))
    | false =>
      rw [hs] at c10
      dsimp only
      rw [if_neg (by rw [hs]; simp)]
      clear hN hs HRG
      show Calls Tryz.prog 110 #[.slice (some ⟨g, 0, none⟩) 1 cap] W _
      have hall' : Calls Tryz.prog 140 #[.slice (some ⟨g, 0, none⟩) 1 cap, .int .i64 64, .func (.func 141) #[] #[]] W fun e w' => e = .returned (.bool (allB 64 itemB [x])) ∧ Below W.heap.size W w' := hall
      clear hall
      go_enter Tryz.func110, Tryz.ntmps110
      go_wp2_with fail
      refine hall'.mono ?_
      rintro e w1 ⟨rfl, hb⟩
      have HB := Lib.hid hb
      clear hb
      go_wp2_with fail
      go_ret
      exact ⟨rfl, HB.out⟩
  · rw [itemsB_no h1]
    obtain ⟨ao, cap, rfl, _⟩ := hv.slice
    obtain ⟨n, hn⟩ : ∃ n, l.length = n := ⟨_, rfl⟩
    rw [hn] at hall h1 ⊢
    have k1 : ((n : Int) == 1) = false := by rw [beq_eq_false_iff_ne]; omega
    clear hv hx hn h1
    go_enter Tryz.func110, Tryz.ntmps110
    go_wp2_with fail
    refine hall.mono ?_
    rintro e w1 ⟨rfl, hb⟩
    have HB := Lib.hid hb
    clear hb
    go_wp2_with fail
    go_ret
    exact ⟨rfl, HB.out⟩
set_option maxRecDepth 100000 in
set_option maxHeartbeats 8000000 in
theorem tables_may (W : World) (v : Value) (l : List FromM) (hv : RowOf fromE (fun _ => True) W v l) (hx : ∀ y ∈ l, Sh y.table ∧ Sh y.aka ∧ y.on.all Sh) :
    Calls Tryz.prog 111 #[v] W fun e w' => e = .returned (.bool (tablesB l)) ∧ Below W.heap.size W w' := by
  have hall := allFrom_may 143 3 (by decide) (fun _ _ => rfl) tableB (fun y : FromM => Sh y.table ∧ Sh y.aka ∧ y.on.all Sh) table_may v l W hv.from0 hx
  cases hb0 : allB 3 tableB l with
  | false =>
    have he : tablesB l = false := by
      cases l with
      | nil => rfl
      | cons x r => unfold tablesB; dsimp only; rw [hb0]; rfl
    rw [he]
    rw [hb0] at hall
    obtain ⟨ao, cap, rfl, _⟩ := hv.slice
    obtain ⟨n, hn⟩ : ∃ n, l.length = n := ⟨_, rfl⟩
    rw [hn] at hall ⊢
    clear hv hx hn hb0 he
    go_enter Tryz.func111, Tryz.ntmps111
    go_wp2_with fail
    refine hall.mono ?_
    rintro e w1 ⟨rfl, hb⟩
    have HB := Lib.hid hb
    clear hb
    go_wp2_with fail
    go_ret
    exact ⟨rfl, HB.out⟩
  | true =>
    rw [hb0] at hall
    cases l with
    | nil => cases hb0
    | cons x r =>
      have he : tablesB (x :: r) = (noneE x.on && (r.length == 0 || allB 3 (fun y => fineE y.on) r)) := by unfold tablesB; dsimp only; rw [hb0]; rfl
      rw [he]
      clear he
      have hv0 := hv.from0
      rcases hv with ⟨_, h⟩ | ⟨g, cap, css, rfl, h2, h3, _, h4, h5, h6⟩
      · cases h
      obtain ⟨cs, ⟨u, rfl, hr⟩, hrg⟩ := row_at (d := []) (r := r) h5 h6 rfl
      obtain ⟨ao, c, rfl, _⟩ := hr.len
      have hN := fun w => noExpr_tr x.on.a ao x.on.l.len c w
      rw [← noneE_is] at hN
      have hT := hv0.tail
      obtain ⟨m, hm⟩ : ∃ m, r.length = m := ⟨_, rfl⟩
      have hlen : (x :: r).length = m + 1 := by rw [List.length_cons, hm]
      rw [hlen] at hT hall h2 ⊢
      have hJ := fun w (hb : Below W.heap.size W w) => allFrom_may 144 3 (by decide) (fun _ _ => rfl) (fun y => fineE y.on) (fun y : FromM => Sh y.table ∧ Sh y.aka ∧ y.on.all Sh) join_may _ r w (hT.kept hb) (fun y hy => hx y (List.mem_cons_of_mem _ hy))
      rw [show m + 1 - 1 = m from rfl, show 0 + fromE.sz = 11 from rfl] at hJ
      obtain ⟨n, hn⟩ : ∃ n, x.on.l.len = n := ⟨_, rfl⟩
      rw [hn] at hN hrg
      unfold exVal at hN
      have HRG : Hid (W.rangeAt g 2 (eL x.on.a (.slice ao n c))) := Lib.hid (fun j v hj => by
        have hlt : j < 9 := (List.getElem?_eq_some_iff.1 hj).1
        have := hrg (2 + j) v (by rw [List.getElem?_append_right (by simp), show 2 + j - [Value.string (strU x.table), Value.string (strU x.aka)].length = j by simp]; exact hj)
        simpa using this)
      have HG := Lib.hid h4
      rw [hm]
      have hcap : 1 ≤ cap := by omega
      have hm1 : (((m : Int) + 1) == 1) = (m == 0) := by rw [Bool.eq_iff_iff]; simp; omega
      have H2 := Lib.hid h2
      clear hrg hr hn h5 h6 h4 hx hb0 hv0 hT hlen hm h2
      cases hq : noneE x.on with
      | false =>
        rw [hq] at hN
        rw [Bool.false_and]
        go_enter Tryz.func111, Tryz.ntmps111
        go_wp2_with fail
        refine hall.mono ?_
        rintro e w1 ⟨rfl, hb⟩
        have HB := Lib.hid hb
        have HRG1 := Lib.hid (World.rangeAt.below (n := 0) HRG.out HG.out hb)
        clear hb hall
        go_wp2_with (refine wpListG_load_mid rfl 36 _ rfl g 2 rfl _ _ HRG1.out Tryz.underlying36 rfl (by kernel_rfl) ?_)
        refine (hN _).mono ?_
        rintro e w2 ⟨rfl, hb2⟩
        have HB2 := Lib.hid (HB.out.trans (hb2.mono HB.out.size))
        clear hb2 hN
        go_wp2_with fail
        go_ret
        exact ⟨rfl, HB2.out⟩
      | true =>
        rw [hq] at hN
        rw [Bool.true_and]
        by_cases h0 : m = 0
        · subst h0
          rw [show ((0 == 0 : Bool) || allB 3 (fun y => fineE y.on) r) = true from rfl]
          go_enter Tryz.func111, Tryz.ntmps111
          go_wp2_with fail
          refine hall.mono ?_
          rintro e w1 ⟨rfl, hb⟩
          have HB := Lib.hid hb
          have HRG1 := Lib.hid (World.rangeAt.below (n := 0) HRG.out HG.out hb)
          clear hb hall
          go_wp2_with (refine wpListG_load_mid rfl 36 _ rfl g 2 rfl _ _ HRG1.out Tryz.underlying36 rfl (by kernel_rfl) ?_)
          refine (hN _).mono ?_
          rintro e w2 ⟨rfl, hb2⟩
          have HB2 := Lib.hid (HB.out.trans (hb2.mono HB.out.size))
          clear hb2 hN
          go_wp2_with fail
          go_ret
          exact ⟨rfl, HB2.out⟩
        · have hne : (m == 0) = false := by rw [beq_eq_false_iff_ne]; exact h0
          rw [hne] at hm1 ⊢
          rw [Bool.false_or]
          have hc1 : ¬ cap = 1 := by have := H2.out; omega
          have h1le : 1 ≤ m + 1 := by omega
          go_enter Tryz.func111, Tryz.ntmps111
          go_wp2_with fail
          refine hall.mono ?_
          rintro e w1 ⟨rfl, hb⟩
          have HB := Lib.hid hb
          have HRG1 := Lib.hid (World.rangeAt.below (n := 0) HRG.out HG.out hb)
          clear hb hall
          go_wp2_with (refine wpListG_load_mid rfl 36 _ rfl g 2 rfl _ _ HRG1.out Tryz.underlying36 rfl (by kernel_rfl) ?_)
          refine (hN _).mono ?_
          rintro e w2 ⟨rfl, hb2⟩
          have HB2 := Lib.hid (HB.out.trans (hb2.mono HB.out.size))
          clear hb2 hN
          go_wp2_with fail
          refine (hJ _ HB2.out).mono ?_
          rintro e w3 ⟨rfl, hb3⟩
          have HB3 := Lib.hid (HB2.out.trans (hb3.mono HB2.out.size))
          clear hb3 hJ
          go_wp2_with fail
          go_ret
          exact ⟨rfl, HB3.out⟩
set_option maxRecDepth 100000 in
set_option maxHeartbeats 8000000 in
theorem select_0 (x : StM) (a1 : Option Addr) (n1 c1 : Nat) (a2 : Option Addr) (n2 c2 : Nat) (a3 : Option Addr) (n3 c3 : Nat) (a4 : Option Addr) (n4 c4 : Nat) (a5 : Option Addr) (n5 c5 : Nat) (a6 : Option Addr) (n6 c6 : Nat) (a7 : Option Addr) (n7 c7 : Nat) (a8 : Option Addr) (n8 c8 : Nat) (a9 : Option Addr) (n9 c9 : Nat) (W : World) (h : StHeld (fun _ => True) W x (.slice a1 n1 c1) (.slice a2 n2 c2) (.slice a3 n3 c3) (.slice a4 n4 c4) (.slice a5 n5 c5) (.slice a6 n6 c6) (.slice a7 n7 c7) (.slice a8 n8 c8) (.slice a9 n9 c9)) (hl : Lens x n1 n2 n3 n4 n5 n6 n7 n8 n9) (hx : x.all Sh)  (h0 : itemsB x.items = false) :
    Calls Tryz.prog 62 #[.agg (xA x a1 n1 c1 a2 n2 c2 a3 n3 c3 a4 n4 c4 a5 n5 c5 a6 n6 c6 a7 n7 c7 a8 n8 c8 a9 n9 c9)] W fun e w' => e = .returned (.bool false) ∧ Below W.heap.size W w' := by
  have HH := Lib.hid h
  obtain ⟨l1, l2, l3, l4, l5, l6, l7, l8, l9⟩ := hl
  have hN := fun w => noExpr_tr x.having_.a a8 x.having_.l.len c8 w
  rw [← noneE_is, l8] at hN
  unfold exVal at hN
  have HBK0 : Hid ((W.alloc (.cells (xA x a1 n1 c1 a2 n2 c2 a3 n3 c3 a4 n4 c4 a5 n5 c5 a6 n6 c6 a7 n7 c7 a8 n8 c8 a9 n9 c9) 39)).heap[W.heap.size]? = some (.cells (xA x a1 n1 c1 a2 n2 c2 a3 n3 c3 a4 n4 c4 a5 n5 c5 a6 n6 c6 a7 n7 c7 a8 n8 c8 a9 n9 c9) 39 (0, 0))) := Lib.hid (heap_alloc_new W _)
  have HB0 : Hid (Below W.heap.size W (W.alloc (.cells (xA x a1 n1 c1 a2 n2 c2 a3 n3 c3 a4 n4 c4 a5 n5 c5 a6 n6 c6 a7 n7 c7 a8 n8 c8 a9 n9 c9) 39))) := Lib.hid (below_alloc W _)
  have L7 := Lib.hid l7
  clear h l1 l2 l3 l4 l5 l6 l7 l8 l9
  go_enter Tryz.func62, Tryz.ntmps62
  have hC := items_may (W.alloc (.cells (xA x a1 n1 c1 a2 n2 c2 a3 n3 c3 a4 n4 c4 a5 n5 c5 a6 n6 c6 a7 n7 c7 a8 n8 c8 a9 n9 c9) 39)) _ x.items ((HH.out.kept HB0.out.size (fun k _ hk => HB0.out.block k hk)).hi) hx.items
  rw [h0] at hC
  go_wp2_with fail
  refine hC.mono ?_
  rintro e w1 ⟨rfl, hb⟩
  have HB1 := Lib.hid (HB0.out.trans (hb.mono HB0.out.size))
  have HBK1 : Hid (w1.heap[W.heap.size]? = some (.cells (xA x a1 n1 c1 a2 n2 c2 a3 n3 c3 a4 n4 c4 a5 n5 c5 a6 n6 c6 a7 n7 c7 a8 n8 c8 a9 n9 c9) 39 (0, 0))) := Lib.hid ((hb.block W.heap.size (bk_lt HBK0.out)).trans HBK0.out)
  clear hb hC
  go_wp2_with fail
  go_ret
  exact ⟨rfl, HB1.out⟩
set_option maxRecDepth 100000 in
set_option maxHeartbeats 8000000 in
theorem select_1 (x : StM) (a1 : Option Addr) (n1 c1 : Nat) (a2 : Option Addr) (n2 c2 : Nat) (a3 : Option Addr) (n3 c3 : Nat) (a4 : Option Addr) (n4 c4 : Nat) (a5 : Option Addr) (n5 c5 : Nat) (a6 : Option Addr) (n6 c6 : Nat) (a7 : Option Addr) (n7 c7 : Nat) (a8 : Option Addr) (n8 c8 : Nat) (a9 : Option Addr) (n9 c9 : Nat) (W : World) (h : StHeld (fun _ => True) W x (.slice a1 n1 c1) (.slice a2 n2 c2) (.slice a3 n3 c3) (.slice a4 n4 c4) (.slice a5 n5 c5) (.slice a6 n6 c6) (.slice a7 n7 c7) (.slice a8 n8 c8) (.slice a9 n9 c9)) (hl : Lens x n1 n2 n3 n4 n5 n6 n7 n8 n9) (hx : x.all Sh) (h0 : itemsB x.items = true) (h1 : tablesB x.tables = false) :
    Calls Tryz.prog 62 #[.agg (xA x a1 n1 c1 a2 n2 c2 a3 n3 c3 a4 n4 c4 a5 n5 c5 a6 n6 c6 a7 n7 c7 a8 n8 c8 a9 n9 c9)] W fun e w' => e = .returned (.bool false) ∧ Below W.heap.size W w' := by
  have HH := Lib.hid h
  obtain ⟨l1, l2, l3, l4, l5, l6, l7, l8, l9⟩ := hl
  have hN := fun w => noExpr_tr x.having_.a a8 x.having_.l.len c8 w
  rw [← noneE_is, l8] at hN
  unfold exVal at hN
  have HBK0 : Hid ((W.alloc (.cells (xA x a1 n1 c1 a2 n2 c2 a3 n3 c3 a4 n4 c4 a5 n5 c5 a6 n6 c6 a7 n7 c7 a8 n8 c8 a9 n9 c9) 39)).heap[W.heap.size]? = some (.cells (xA x a1 n1 c1 a2 n2 c2 a3 n3 c3 a4 n4 c4 a5 n5 c5 a6 n6 c6 a7 n7 c7 a8 n8 c8 a9 n9 c9) 39 (0, 0))) := Lib.hid (heap_alloc_new W _)
  have HB0 : Hid (Below W.heap.size W (W.alloc (.cells (xA x a1 n1 c1 a2 n2 c2 a3 n3 c3 a4 n4 c4 a5 n5 c5 a6 n6 c6 a7 n7 c7 a8 n8 c8 a9 n9 c9) 39))) := Lib.hid (below_alloc W _)
  have L7 := Lib.hid l7
  clear h l1 l2 l3 l4 l5 l6 l7 l8 l9
  go_enter Tryz.func62, Tryz.ntmps62
  have hC := items_may (W.alloc (.cells (xA x a1 n1 c1 a2 n2 c2 a3 n3 c3 a4 n4 c4 a5 n5 c5 a6 n6 c6 a7 n7 c7 a8 n8 c8 a9 n9 c9) 39)) _ x.items ((HH.out.kept HB0.out.size (fun k _ hk => HB0.out.block k hk)).hi) hx.items
  rw [h0] at hC
  go_wp2_with fail
  refine hC.mono ?_
  rintro e w1 ⟨rfl, hb⟩
  have HB1 := Lib.hid (HB0.out.trans (hb.mono HB0.out.size))
  have HBK1 : Hid (w1.heap[W.heap.size]? = some (.cells (xA x a1 n1 c1 a2 n2 c2 a3 n3 c3 a4 n4 c4 a5 n5 c5 a6 n6 c6 a7 n7 c7 a8 n8 c8 a9 n9 c9) 39 (0, 0))) := Lib.hid ((hb.block W.heap.size (bk_lt HBK0.out)).trans HBK0.out)
  clear hb hC
  have q1_7 := bk_cell HBK1.out 7
  have hC := tables_may w1 _ x.tables ((HH.out.kept HB1.out.size (fun k _ hk => HB1.out.block k hk)).hf) hx.tables
  rw [h1] at hC
  go_wp2_with fail
  refine hC.mono ?_
  rintro e w2 ⟨rfl, hb⟩
  have HB2 := Lib.hid (HB1.out.trans (hb.mono HB1.out.size))
  have HBK2 : Hid (w2.heap[W.heap.size]? = some (.cells (xA x a1 n1 c1 a2 n2 c2 a3 n3 c3 a4 n4 c4 a5 n5 c5 a6 n6 c6 a7 n7 c7 a8 n8 c8 a9 n9 c9) 39 (0, 0))) := Lib.hid ((hb.block W.heap.size (bk_lt HBK1.out)).trans HBK1.out)
  clear hb hC
  go_wp2_with fail
  go_ret
  exact ⟨rfl, HB2.out⟩
set_option maxRecDepth 100000 in
set_option maxHeartbeats 8000000 in
theorem select_2 (x : StM) (a1 : Option Addr) (n1 c1 : Nat) (a2 : Option Addr) (n2 c2 : Nat) (a3 : Option Addr) (n3 c3 : Nat) (a4 : Option Addr) (n4 c4 : Nat) (a5 : Option Addr) (n5 c5 : Nat) (a6 : Option Addr) (n6 c6 : Nat) (a7 : Option Addr) (n7 c7 : Nat) (a8 : Option Addr) (n8 c8 : Nat) (a9 : Option Addr) (n9 c9 : Nat) (W : World) (h : StHeld (fun _ => True) W x (.slice a1 n1 c1) (.slice a2 n2 c2) (.slice a3 n3 c3) (.slice a4 n4 c4) (.slice a5 n5 c5) (.slice a6 n6 c6) (.slice a7 n7 c7) (.slice a8 n8 c8) (.slice a9 n9 c9)) (hl : Lens x n1 n2 n3 n4 n5 n6 n7 n8 n9) (hx : x.all Sh) (h0 : itemsB x.items = true) (h1 : tablesB x.tables = true) (h2 : optE x.cond = false) :
    Calls Tryz.prog 62 #[.agg (xA x a1 n1 c1 a2 n2 c2 a3 n3 c3 a4 n4 c4 a5 n5 c5 a6 n6 c6 a7 n7 c7 a8 n8 c8 a9 n9 c9)] W fun e w' => e = .returned (.bool false) ∧ Below W.heap.size W w' := by
  have HH := Lib.hid h
  obtain ⟨l1, l2, l3, l4, l5, l6, l7, l8, l9⟩ := hl
  have hN := fun w => noExpr_tr x.having_.a a8 x.having_.l.len c8 w
  rw [← noneE_is, l8] at hN
  unfold exVal at hN
  have HBK0 : Hid ((W.alloc (.cells (xA x a1 n1 c1 a2 n2 c2 a3 n3 c3 a4 n4 c4 a5 n5 c5 a6 n6 c6 a7 n7 c7 a8 n8 c8 a9 n9 c9) 39)).heap[W.heap.size]? = some (.cells (xA x a1 n1 c1 a2 n2 c2 a3 n3 c3 a4 n4 c4 a5 n5 c5 a6 n6 c6 a7 n7 c7 a8 n8 c8 a9 n9 c9) 39 (0, 0))) := Lib.hid (heap_alloc_new W _)
  have HB0 : Hid (Below W.heap.size W (W.alloc (.cells (xA x a1 n1 c1 a2 n2 c2 a3 n3 c3 a4 n4 c4 a5 n5 c5 a6 n6 c6 a7 n7 c7 a8 n8 c8 a9 n9 c9) 39))) := Lib.hid (below_alloc W _)
  have L7 := Lib.hid l7
  clear h l1 l2 l3 l4 l5 l6 l7 l8 l9
  go_enter Tryz.func62, Tryz.ntmps62
  have hC := items_may (W.alloc (.cells (xA x a1 n1 c1 a2 n2 c2 a3 n3 c3 a4 n4 c4 a5 n5 c5 a6 n6 c6 a7 n7 c7 a8 n8 c8 a9 n9 c9) 39)) _ x.items ((HH.out.kept HB0.out.size (fun k _ hk => HB0.out.block k hk)).hi) hx.items
  rw [h0] at hC
  go_wp2_with fail
  refine hC.mono ?_
  rintro e w1 ⟨rfl, hb⟩
  have HB1 := Lib.hid (HB0.out.trans (hb.mono HB0.out.size))
  have HBK1 : Hid (w1.heap[W.heap.size]? = some (.cells (xA x a1 n1 c1 a2 n2 c2 a3 n3 c3 a4 n4 c4 a5 n5 c5 a6 n6 c6 a7 n7 c7 a8 n8 c8 a9 n9 c9) 39 (0, 0))) := Lib.hid ((hb.block W.heap.size (bk_lt HBK0.out)).trans HBK0.out)
  clear hb hC
  have q1_7 := bk_cell HBK1.out 7
  have hC := tables_may w1 _ x.tables ((HH.out.kept HB1.out.size (fun k _ hk => HB1.out.block k hk)).hf) hx.tables
  rw [h1] at hC
  go_wp2_with fail
  refine hC.mono ?_
  rintro e w2 ⟨rfl, hb⟩
  have HB2 := Lib.hid (HB1.out.trans (hb.mono HB1.out.size))
  have HBK2 : Hid (w2.heap[W.heap.size]? = some (.cells (xA x a1 n1 c1 a2 n2 c2 a3 n3 c3 a4 n4 c4 a5 n5 c5 a6 n6 c6 a7 n7 c7 a8 n8 c8 a9 n9 c9) 39 (0, 0))) := Lib.hid ((hb.block W.heap.size (bk_lt HBK1.out)).trans HBK1.out)
  clear hb hC
  have hC := optional_may w2 _ x.cond ((HH.out.kept HB2.out.size (fun k _ hk => HB2.out.block k hk)).hu) hx.cond
  rw [h2] at hC
  go_wp2_with (refine wpListG_load_mid rfl 36 _ rfl W.heap.size 8 rfl _ _ (World.rangeAt_of_block HBK2.out 8 9 : World.rangeAt _ _ _ (eL x.cond.a (.slice a6 n6 c6))) Tryz.underlying36 rfl (by kernel_rfl) ?_)
  refine hC.mono ?_
  rintro e w3 ⟨rfl, hb⟩
  have HB3 := Lib.hid (HB2.out.trans (hb.mono HB2.out.size))
  have HBK3 : Hid (w3.heap[W.heap.size]? = some (.cells (xA x a1 n1 c1 a2 n2 c2 a3 n3 c3 a4 n4 c4 a5 n5 c5 a6 n6 c6 a7 n7 c7 a8 n8 c8 a9 n9 c9) 39 (0, 0))) := Lib.hid ((hb.block W.heap.size (bk_lt HBK2.out)).trans HBK2.out)
  clear hb hC
  go_wp2_with fail
  go_ret
  exact ⟨rfl, HB3.out⟩
set_option maxRecDepth 100000 in
set_option maxHeartbeats 8000000 in
theorem select_3 (x : StM) (a1 : Option Addr) (n1 c1 : Nat) (a2 : Option Addr) (n2 c2 : Nat) (a3 : Option Addr) (n3 c3 : Nat) (a4 : Option Addr) (n4 c4 : Nat) (a5 : Option Addr) (n5 c5 : Nat) (a6 : Option Addr) (n6 c6 : Nat) (a7 : Option Addr) (n7 c7 : Nat) (a8 : Option Addr) (n8 c8 : Nat) (a9 : Option Addr) (n9 c9 : Nat) (W : World) (h : StHeld (fun _ => True) W x (.slice a1 n1 c1) (.slice a2 n2 c2) (.slice a3 n3 c3) (.slice a4 n4 c4) (.slice a5 n5 c5) (.slice a6 n6 c6) (.slice a7 n7 c7) (.slice a8 n8 c8) (.slice a9 n9 c9)) (hl : Lens x n1 n2 n3 n4 n5 n6 n7 n8 n9) (hx : x.all Sh) (h0 : itemsB x.items = true) (h1 : tablesB x.tables = true) (h2 : optE x.cond = true) (h3 : anyB fineE x.group = false) :
    Calls Tryz.prog 62 #[.agg (xA x a1 n1 c1 a2 n2 c2 a3 n3 c3 a4 n4 c4 a5 n5 c5 a6 n6 c6 a7 n7 c7 a8 n8 c8 a9 n9 c9)] W fun e w' => e = .returned (.bool false) ∧ Below W.heap.size W w' := by
  have HH := Lib.hid h
  obtain ⟨l1, l2, l3, l4, l5, l6, l7, l8, l9⟩ := hl
  have hN := fun w => noExpr_tr x.having_.a a8 x.having_.l.len c8 w
  rw [← noneE_is, l8] at hN
  unfold exVal at hN
  have HBK0 : Hid ((W.alloc (.cells (xA x a1 n1 c1 a2 n2 c2 a3 n3 c3 a4 n4 c4 a5 n5 c5 a6 n6 c6 a7 n7 c7 a8 n8 c8 a9 n9 c9) 39)).heap[W.heap.size]? = some (.cells (xA x a1 n1 c1 a2 n2 c2 a3 n3 c3 a4 n4 c4 a5 n5 c5 a6 n6 c6 a7 n7 c7 a8 n8 c8 a9 n9 c9) 39 (0, 0))) := Lib.hid (heap_alloc_new W _)
  have HB0 : Hid (Below W.heap.size W (W.alloc (.cells (xA x a1 n1 c1 a2 n2 c2 a3 n3 c3 a4 n4 c4 a5 n5 c5 a6 n6 c6 a7 n7 c7 a8 n8 c8 a9 n9 c9) 39))) := Lib.hid (below_alloc W _)
  have L7 := Lib.hid l7
  clear h l1 l2 l3 l4 l5 l6 l7 l8 l9
  go_enter Tryz.func62, Tryz.ntmps62
  have hC := items_may (W.alloc (.cells (xA x a1 n1 c1 a2 n2 c2 a3 n3 c3 a4 n4 c4 a5 n5 c5 a6 n6 c6 a7 n7 c7 a8 n8 c8 a9 n9 c9) 39)) _ x.items ((HH.out.kept HB0.out.size (fun k _ hk => HB0.out.block k hk)).hi) hx.items
  rw [h0] at hC
  go_wp2_with fail
  refine hC.mono ?_
  rintro e w1 ⟨rfl, hb⟩
  have HB1 := Lib.hid (HB0.out.trans (hb.mono HB0.out.size))
  have HBK1 : Hid (w1.heap[W.heap.size]? = some (.cells (xA x a1 n1 c1 a2 n2 c2 a3 n3 c3 a4 n4 c4 a5 n5 c5 a6 n6 c6 a7 n7 c7 a8 n8 c8 a9 n9 c9) 39 (0, 0))) := Lib.hid ((hb.block W.heap.size (bk_lt HBK0.out)).trans HBK0.out)
  clear hb hC
  have q1_7 := bk_cell HBK1.out 7
  have hC := tables_may w1 _ x.tables ((HH.out.kept HB1.out.size (fun k _ hk => HB1.out.block k hk)).hf) hx.tables
  rw [h1] at hC
  go_wp2_with fail
  refine hC.mono ?_
  rintro e w2 ⟨rfl, hb⟩
  have HB2 := Lib.hid (HB1.out.trans (hb.mono HB1.out.size))
  have HBK2 : Hid (w2.heap[W.heap.size]? = some (.cells (xA x a1 n1 c1 a2 n2 c2 a3 n3 c3 a4 n4 c4 a5 n5 c5 a6 n6 c6 a7 n7 c7 a8 n8 c8 a9 n9 c9) 39 (0, 0))) := Lib.hid ((hb.block W.heap.size (bk_lt HBK1.out)).trans HBK1.out)
  clear hb hC
  have hC := optional_may w2 _ x.cond ((HH.out.kept HB2.out.size (fun k _ hk => HB2.out.block k hk)).hu) hx.cond
  rw [h2] at hC
  go_wp2_with (refine wpListG_load_mid rfl 36 _ rfl W.heap.size 8 rfl _ _ (World.rangeAt_of_block HBK2.out 8 9 : World.rangeAt _ _ _ (eL x.cond.a (.slice a6 n6 c6))) Tryz.underlying36 rfl (by kernel_rfl) ?_)
  refine hC.mono ?_
  rintro e w3 ⟨rfl, hb⟩
  have HB3 := Lib.hid (HB2.out.trans (hb.mono HB2.out.size))
  have HBK3 : Hid (w3.heap[W.heap.size]? = some (.cells (xA x a1 n1 c1 a2 n2 c2 a3 n3 c3 a4 n4 c4 a5 n5 c5 a6 n6 c6 a7 n7 c7 a8 n8 c8 a9 n9 c9) 39 (0, 0))) := Lib.hid ((hb.block W.heap.size (bk_lt HBK2.out)).trans HBK2.out)
  clear hb hC
  have q3_17 := bk_cell HBK3.out 17
  have hC := anyEx_may 36 (fun _ _ => rfl) fineE (Ex.all Sh) exE_may _ x.group w3 ((HH.out.kept HB3.out.size (fun k _ hk => HB3.out.block k hk)).hg.from0) hx.group
  rw [h3] at hC
  go_wp2_with fail
  refine hC.mono ?_
  rintro e w4 ⟨rfl, hb⟩
  have HB4 := Lib.hid (HB3.out.trans (hb.mono HB3.out.size))
  have HBK4 : Hid (w4.heap[W.heap.size]? = some (.cells (xA x a1 n1 c1 a2 n2 c2 a3 n3 c3 a4 n4 c4 a5 n5 c5 a6 n6 c6 a7 n7 c7 a8 n8 c8 a9 n9 c9) 39 (0, 0))) := Lib.hid ((hb.block W.heap.size (bk_lt HBK3.out)).trans HBK3.out)
  clear hb hC
  go_wp2_with fail
  go_ret
  exact ⟨rfl, HB4.out⟩
set_option maxRecDepth 100000 in
set_option maxHeartbeats 8000000 in
theorem select_4 (x : StM) (a1 : Option Addr) (n1 c1 : Nat) (a2 : Option Addr) (n2 c2 : Nat) (a3 : Option Addr) (n3 c3 : Nat) (a4 : Option Addr) (n4 c4 : Nat) (a5 : Option Addr) (n5 c5 : Nat) (a6 : Option Addr) (n6 c6 : Nat) (a7 : Option Addr) (n7 c7 : Nat) (a8 : Option Addr) (n8 c8 : Nat) (a9 : Option Addr) (n9 c9 : Nat) (W : World) (h : StHeld (fun _ => True) W x (.slice a1 n1 c1) (.slice a2 n2 c2) (.slice a3 n3 c3) (.slice a4 n4 c4) (.slice a5 n5 c5) (.slice a6 n6 c6) (.slice a7 n7 c7) (.slice a8 n8 c8) (.slice a9 n9 c9)) (hl : Lens x n1 n2 n3 n4 n5 n6 n7 n8 n9) (hx : x.all Sh) (h0 : itemsB x.items = true) (h1 : tablesB x.tables = true) (h2 : optE x.cond = true) (h3 : anyB fineE x.group = true) (h4 : optE x.having_ = false) :
    Calls Tryz.prog 62 #[.agg (xA x a1 n1 c1 a2 n2 c2 a3 n3 c3 a4 n4 c4 a5 n5 c5 a6 n6 c6 a7 n7 c7 a8 n8 c8 a9 n9 c9)] W fun e w' => e = .returned (.bool false) ∧ Below W.heap.size W w' := by
  have HH := Lib.hid h
  obtain ⟨l1, l2, l3, l4, l5, l6, l7, l8, l9⟩ := hl
  have hN := fun w => noExpr_tr x.having_.a a8 x.having_.l.len c8 w
  rw [← noneE_is, l8] at hN
  unfold exVal at hN
  have HBK0 : Hid ((W.alloc (.cells (xA x a1 n1 c1 a2 n2 c2 a3 n3 c3 a4 n4 c4 a5 n5 c5 a6 n6 c6 a7 n7 c7 a8 n8 c8 a9 n9 c9) 39)).heap[W.heap.size]? = some (.cells (xA x a1 n1 c1 a2 n2 c2 a3 n3 c3 a4 n4 c4 a5 n5 c5 a6 n6 c6 a7 n7 c7 a8 n8 c8 a9 n9 c9) 39 (0, 0))) := Lib.hid (heap_alloc_new W _)
  have HB0 : Hid (Below W.heap.size W (W.alloc (.cells (xA x a1 n1 c1 a2 n2 c2 a3 n3 c3 a4 n4 c4 a5 n5 c5 a6 n6 c6 a7 n7 c7 a8 n8 c8 a9 n9 c9) 39))) := Lib.hid (below_alloc W _)
  have L7 := Lib.hid l7
  clear h l1 l2 l3 l4 l5 l6 l7 l8 l9
  go_enter Tryz.func62, Tryz.ntmps62
  have hC := items_may (W.alloc (.cells (xA x a1 n1 c1 a2 n2 c2 a3 n3 c3 a4 n4 c4 a5 n5 c5 a6 n6 c6 a7 n7 c7 a8 n8 c8 a9 n9 c9) 39)) _ x.items ((HH.out.kept HB0.out.size (fun k _ hk => HB0.out.block k hk)).hi) hx.items
  rw [h0] at hC
  go_wp2_with fail
  refine hC.mono ?_
  rintro e w1 ⟨rfl, hb⟩
  have HB1 := Lib.hid (HB0.out.trans (hb.mono HB0.out.size))
  have HBK1 : Hid (w1.heap[W.heap.size]? = some (.cells (xA x a1 n1 c1 a2 n2 c2 a3 n3 c3 a4 n4 c4 a5 n5 c5 a6 n6 c6 a7 n7 c7 a8 n8 c8 a9 n9 c9) 39 (0, 0))) := Lib.hid ((hb.block W.heap.size (bk_lt HBK0.out)).trans HBK0.out)
  clear hb hC
  have q1_7 := bk_cell HBK1.out 7
  have hC := tables_may w1 _ x.tables ((HH.out.kept HB1.out.size (fun k _ hk => HB1.out.block k hk)).hf) hx.tables
  rw [h1] at hC
  go_wp2_with fail
  refine hC.mono ?_
  rintro e w2 ⟨rfl, hb⟩
  have HB2 := Lib.hid (HB1.out.trans (hb.mono HB1.out.size))
  have HBK2 : Hid (w2.heap[W.heap.size]? = some (.cells (xA x a1 n1 c1 a2 n2 c2 a3 n3 c3 a4 n4 c4 a5 n5 c5 a6 n6 c6 a7 n7 c7 a8 n8 c8 a9 n9 c9) 39 (0, 0))) := Lib.hid ((hb.block W.heap.size (bk_lt HBK1.out)).trans HBK1.out)
  clear hb hC
  have hC := optional_may w2 _ x.cond ((HH.out.kept HB2.out.size (fun k _ hk => HB2.out.block k hk)).hu) hx.cond
  rw [h2] at hC
  go_wp2_with (refine wpListG_load_mid rfl 36 _ rfl W.heap.size 8 rfl _ _ (World.rangeAt_of_block HBK2.out 8 9 : World.rangeAt _ _ _ (eL x.cond.a (.slice a6 n6 c6))) Tryz.underlying36 rfl (by kernel_rfl) ?_)
  refine hC.mono ?_
  rintro e w3 ⟨rfl, hb⟩
  have HB3 := Lib.hid (HB2.out.trans (hb.mono HB2.out.size))
  have HBK3 : Hid (w3.heap[W.heap.size]? = some (.cells (xA x a1 n1 c1 a2 n2 c2 a3 n3 c3 a4 n4 c4 a5 n5 c5 a6 n6 c6 a7 n7 c7 a8 n8 c8 a9 n9 c9) 39 (0, 0))) := Lib.hid ((hb.block W.heap.size (bk_lt HBK2.out)).trans HBK2.out)
  clear hb hC
  have q3_17 := bk_cell HBK3.out 17
  have hC := anyEx_may 36 (fun _ _ => rfl) fineE (Ex.all Sh) exE_may _ x.group w3 ((HH.out.kept HB3.out.size (fun k _ hk => HB3.out.block k hk)).hg.from0) hx.group
  rw [h3] at hC
  go_wp2_with fail
  refine hC.mono ?_
  rintro e w4 ⟨rfl, hb⟩
  have HB4 := Lib.hid (HB3.out.trans (hb.mono HB3.out.size))
  have HBK4 : Hid (w4.heap[W.heap.size]? = some (.cells (xA x a1 n1 c1 a2 n2 c2 a3 n3 c3 a4 n4 c4 a5 n5 c5 a6 n6 c6 a7 n7 c7 a8 n8 c8 a9 n9 c9) 39 (0, 0))) := Lib.hid ((hb.block W.heap.size (bk_lt HBK3.out)).trans HBK3.out)
  clear hb hC
  have hC := optional_may w4 _ x.having_ ((HH.out.kept HB4.out.size (fun k _ hk => HB4.out.block k hk)).hh) hx.having_
  rw [h4] at hC
  go_wp2_with (refine wpListG_load_mid rfl 36 _ rfl W.heap.size 18 rfl _ _ (World.rangeAt_of_block HBK4.out 18 9 : World.rangeAt _ _ _ (eL x.having_.a (.slice a8 n8 c8))) Tryz.underlying36 rfl (by kernel_rfl) ?_)
  refine hC.mono ?_
  rintro e w5 ⟨rfl, hb⟩
  have HB5 := Lib.hid (HB4.out.trans (hb.mono HB4.out.size))
  have HBK5 : Hid (w5.heap[W.heap.size]? = some (.cells (xA x a1 n1 c1 a2 n2 c2 a3 n3 c3 a4 n4 c4 a5 n5 c5 a6 n6 c6 a7 n7 c7 a8 n8 c8 a9 n9 c9) 39 (0, 0))) := Lib.hid ((hb.block W.heap.size (bk_lt HBK4.out)).trans HBK4.out)
  clear hb hC
  go_wp2_with fail
  go_ret
  exact ⟨rfl, HB5.out⟩
set_option maxRecDepth 100000 in
set_option maxHeartbeats 8000000 in
theorem select_5 (x : StM) (a1 : Option Addr) (n1 c1 : Nat) (a2 : Option Addr) (n2 c2 : Nat) (a3 : Option Addr) (n3 c3 : Nat) (a4 : Option Addr) (n4 c4 : Nat) (a5 : Option Addr) (n5 c5 : Nat) (a6 : Option Addr) (n6 c6 : Nat) (a7 : Option Addr) (n7 c7 : Nat) (a8 : Option Addr) (n8 c8 : Nat) (a9 : Option Addr) (n9 c9 : Nat) (W : World) (h : StHeld (fun _ => True) W x (.slice a1 n1 c1) (.slice a2 n2 c2) (.slice a3 n3 c3) (.slice a4 n4 c4) (.slice a5 n5 c5) (.slice a6 n6 c6) (.slice a7 n7 c7) (.slice a8 n8 c8) (.slice a9 n9 c9)) (hl : Lens x n1 n2 n3 n4 n5 n6 n7 n8 n9) (hx : x.all Sh) (h0 : itemsB x.items = true) (h1 : tablesB x.tables = true) (h2 : optE x.cond = true) (h3 : anyB fineE x.group = true) (h4 : optE x.having_ = true) (h5 : (x.group.length != 0 || noneE x.having_) = false) :
    Calls Tryz.prog 62 #[.agg (xA x a1 n1 c1 a2 n2 c2 a3 n3 c3 a4 n4 c4 a5 n5 c5 a6 n6 c6 a7 n7 c7 a8 n8 c8 a9 n9 c9)] W fun e w' => e = .returned (.bool false) ∧ Below W.heap.size W w' := by
  have HH := Lib.hid h
  obtain ⟨l1, l2, l3, l4, l5, l6, l7, l8, l9⟩ := hl
  have hN := fun w => noExpr_tr x.having_.a a8 x.having_.l.len c8 w
  rw [← noneE_is, l8] at hN
  unfold exVal at hN
  have HBK0 : Hid ((W.alloc (.cells (xA x a1 n1 c1 a2 n2 c2 a3 n3 c3 a4 n4 c4 a5 n5 c5 a6 n6 c6 a7 n7 c7 a8 n8 c8 a9 n9 c9) 39)).heap[W.heap.size]? = some (.cells (xA x a1 n1 c1 a2 n2 c2 a3 n3 c3 a4 n4 c4 a5 n5 c5 a6 n6 c6 a7 n7 c7 a8 n8 c8 a9 n9 c9) 39 (0, 0))) := Lib.hid (heap_alloc_new W _)
  have HB0 : Hid (Below W.heap.size W (W.alloc (.cells (xA x a1 n1 c1 a2 n2 c2 a3 n3 c3 a4 n4 c4 a5 n5 c5 a6 n6 c6 a7 n7 c7 a8 n8 c8 a9 n9 c9) 39))) := Lib.hid (below_alloc W _)
  have L7 := Lib.hid l7
  clear h l1 l2 l3 l4 l5 l6 l7 l8 l9
  go_enter Tryz.func62, Tryz.ntmps62
  have hC := items_may (W.alloc (.cells (xA x a1 n1 c1 a2 n2 c2 a3 n3 c3 a4 n4 c4 a5 n5 c5 a6 n6 c6 a7 n7 c7 a8 n8 c8 a9 n9 c9) 39)) _ x.items ((HH.out.kept HB0.out.size (fun k _ hk => HB0.out.block k hk)).hi) hx.items
  rw [h0] at hC
  go_wp2_with fail
  refine hC.mono ?_
  rintro e w1 ⟨rfl, hb⟩
  have HB1 := Lib.hid (HB0.out.trans (hb.mono HB0.out.size))
  have HBK1 : Hid (w1.heap[W.heap.size]? = some (.cells (xA x a1 n1 c1 a2 n2 c2 a3 n3 c3 a4 n4 c4 a5 n5 c5 a6 n6 c6 a7 n7 c7 a8 n8 c8 a9 n9 c9) 39 (0, 0))) := Lib.hid ((hb.block W.heap.size (bk_lt HBK0.out)).trans HBK0.out)
  clear hb hC
  have q1_7 := bk_cell HBK1.out 7
  have hC := tables_may w1 _ x.tables ((HH.out.kept HB1.out.size (fun k _ hk => HB1.out.block k hk)).hf) hx.tables
  rw [h1] at hC
  go_wp2_with fail
  refine hC.mono ?_
  rintro e w2 ⟨rfl, hb⟩
  have HB2 := Lib.hid (HB1.out.trans (hb.mono HB1.out.size))
  have HBK2 : Hid (w2.heap[W.heap.size]? = some (.cells (xA x a1 n1 c1 a2 n2 c2 a3 n3 c3 a4 n4 c4 a5 n5 c5 a6 n6 c6 a7 n7 c7 a8 n8 c8 a9 n9 c9) 39 (0, 0))) := Lib.hid ((hb.block W.heap.size (bk_lt HBK1.out)).trans HBK1.out)
  clear hb hC
  have hC := optional_may w2 _ x.cond ((HH.out.kept HB2.out.size (fun k _ hk => HB2.out.block k hk)).hu) hx.cond
  rw [h2] at hC
  go_wp2_with (refine wpListG_load_mid rfl 36 _ rfl W.heap.size 8 rfl _ _ (World.rangeAt_of_block HBK2.out 8 9 : World.rangeAt _ _ _ (eL x.cond.a (.slice a6 n6 c6))) Tryz.underlying36 rfl (by kernel_rfl) ?_)
  refine hC.mono ?_
  rintro e w3 ⟨rfl, hb⟩
  have HB3 := Lib.hid (HB2.out.trans (hb.mono HB2.out.size))
  have HBK3 : Hid (w3.heap[W.heap.size]? = some (.cells (xA x a1 n1 c1 a2 n2 c2 a3 n3 c3 a4 n4 c4 a5 n5 c5 a6 n6 c6 a7 n7 c7 a8 n8 c8 a9 n9 c9) 39 (0, 0))) := Lib.hid ((hb.block W.heap.size (bk_lt HBK2.out)).trans HBK2.out)
  clear hb hC
  have q3_17 := bk_cell HBK3.out 17
  have hC := anyEx_may 36 (fun _ _ => rfl) fineE (Ex.all Sh) exE_may _ x.group w3 ((HH.out.kept HB3.out.size (fun k _ hk => HB3.out.block k hk)).hg.from0) hx.group
  rw [h3] at hC
  go_wp2_with fail
  refine hC.mono ?_
  rintro e w4 ⟨rfl, hb⟩
  have HB4 := Lib.hid (HB3.out.trans (hb.mono HB3.out.size))
  have HBK4 : Hid (w4.heap[W.heap.size]? = some (.cells (xA x a1 n1 c1 a2 n2 c2 a3 n3 c3 a4 n4 c4 a5 n5 c5 a6 n6 c6 a7 n7 c7 a8 n8 c8 a9 n9 c9) 39 (0, 0))) := Lib.hid ((hb.block W.heap.size (bk_lt HBK3.out)).trans HBK3.out)
  clear hb hC
  have hC := optional_may w4 _ x.having_ ((HH.out.kept HB4.out.size (fun k _ hk => HB4.out.block k hk)).hh) hx.having_
  rw [h4] at hC
  go_wp2_with (refine wpListG_load_mid rfl 36 _ rfl W.heap.size 18 rfl _ _ (World.rangeAt_of_block HBK4.out 18 9 : World.rangeAt _ _ _ (eL x.having_.a (.slice a8 n8 c8))) Tryz.underlying36 rfl (by kernel_rfl) ?_)
  refine hC.mono ?_
  rintro e w5 ⟨rfl, hb⟩
  have HB5 := Lib.hid (HB4.out.trans (hb.mono HB4.out.size))
  have HBK5 : Hid (w5.heap[W.heap.size]? = some (.cells (xA x a1 n1 c1 a2 n2 c2 a3 n3 c3 a4 n4 c4 a5 n5 c5 a6 n6 c6 a7 n7 c7 a8 n8 c8 a9 n9 c9) 39 (0, 0))) := Lib.hid ((hb.block W.heap.size (bk_lt HBK4.out)).trans HBK4.out)
  clear hb hC
  have hz : n7 = 0 ∧ noneE x.having_ = false := by rw [Bool.or_eq_false_iff] at h5; rw [L7.out] at h5; exact ⟨by simpa using h5.1, h5.2⟩
  obtain ⟨rfl, hz⟩ := hz
  rw [hz] at hN
  have q5_17 := bk_cell HBK5.out 17
  go_wp2_with (first
    | (refine wpListG_load_mid rfl 36 _ rfl W.heap.size 18 rfl _ _ (World.rangeAt_of_block HBK5.out 18 9 : World.rangeAt _ _ _ (eL x.having_.a (.slice a8 n8 c8))) Tryz.underlying36 rfl (by kernel_rfl) ?_))
  refine (hN _).mono ?_
  rintro e wn ⟨rfl, hb⟩
  have HB6 := Lib.hid (HB5.out.trans (hb.mono HB5.out.size))
  clear hb
  go_wp2_with fail
  go_ret
  exact ⟨rfl, HB6.out⟩
set_option maxRecDepth 100000 in
set_option maxHeartbeats 8000000 in
theorem select_6 (x : StM) (a1 : Option Addr) (n1 c1 : Nat) (a2 : Option Addr) (n2 c2 : Nat) (a3 : Option Addr) (n3 c3 : Nat) (a4 : Option Addr) (n4 c4 : Nat) (a5 : Option Addr) (n5 c5 : Nat) (a6 : Option Addr) (n6 c6 : Nat) (a7 : Option Addr) (n7 c7 : Nat) (a8 : Option Addr) (n8 c8 : Nat) (a9 : Option Addr) (n9 c9 : Nat) (W : World) (h : StHeld (fun _ => True) W x (.slice a1 n1 c1) (.slice a2 n2 c2) (.slice a3 n3 c3) (.slice a4 n4 c4) (.slice a5 n5 c5) (.slice a6 n6 c6) (.slice a7 n7 c7) (.slice a8 n8 c8) (.slice a9 n9 c9)) (hl : Lens x n1 n2 n3 n4 n5 n6 n7 n8 n9) (hx : x.all Sh) (h0 : itemsB x.items = true) (h1 : tablesB x.tables = true) (h2 : optE x.cond = true) (h3 : anyB fineE x.group = true) (h4 : optE x.having_ = true) (h5 : (x.group.length != 0 || noneE x.having_) = true) (h6 : anyB (fun y => fineE y.e) x.order = false) :
    Calls Tryz.prog 62 #[.agg (xA x a1 n1 c1 a2 n2 c2 a3 n3 c3 a4 n4 c4 a5 n5 c5 a6 n6 c6 a7 n7 c7 a8 n8 c8 a9 n9 c9)] W fun e w' => e = .returned (.bool false) ∧ Below W.heap.size W w' := by
  have HH := Lib.hid h
  obtain ⟨l1, l2, l3, l4, l5, l6, l7, l8, l9⟩ := hl
  have hN := fun w => noExpr_tr x.having_.a a8 x.having_.l.len c8 w
  rw [← noneE_is, l8] at hN
  unfold exVal at hN
  have HBK0 : Hid ((W.alloc (.cells (xA x a1 n1 c1 a2 n2 c2 a3 n3 c3 a4 n4 c4 a5 n5 c5 a6 n6 c6 a7 n7 c7 a8 n8 c8 a9 n9 c9) 39)).heap[W.heap.size]? = some (.cells (xA x a1 n1 c1 a2 n2 c2 a3 n3 c3 a4 n4 c4 a5 n5 c5 a6 n6 c6 a7 n7 c7 a8 n8 c8 a9 n9 c9) 39 (0, 0))) := Lib.hid (heap_alloc_new W _)
  have HB0 : Hid (Below W.heap.size W (W.alloc (.cells (xA x a1 n1 c1 a2 n2 c2 a3 n3 c3 a4 n4 c4 a5 n5 c5 a6 n6 c6 a7 n7 c7 a8 n8 c8 a9 n9 c9) 39))) := Lib.hid (below_alloc W _)
  have L7 := Lib.hid l7
  clear h l1 l2 l3 l4 l5 l6 l7 l8 l9
  go_enter Tryz.func62, Tryz.ntmps62
  have hC := items_may (W.alloc (.cells (xA x a1 n1 c1 a2 n2 c2 a3 n3 c3 a4 n4 c4 a5 n5 c5 a6 n6 c6 a7 n7 c7 a8 n8 c8 a9 n9 c9) 39)) _ x.items ((HH.out.kept HB0.out.size (fun k _ hk => HB0.out.block k hk)).hi) hx.items
  rw [h0] at hC
  go_wp2_with fail
  refine hC.mono ?_
  rintro e w1 ⟨rfl, hb⟩
  have HB1 := Lib.hid (HB0.out.trans (hb.mono HB0.out.size))
  have HBK1 : Hid (w1.heap[W.heap.size]? = some (.cells (xA x a1 n1 c1 a2 n2 c2 a3 n3 c3 a4 n4 c4 a5 n5 c5 a6 n6 c6 a7 n7 c7 a8 n8 c8 a9 n9 c9) 39 (0, 0))) := Lib.hid ((hb.block W.heap.size (bk_lt HBK0.out)).trans HBK0.out)
  clear hb hC
  have q1_7 := bk_cell HBK1.out 7
  have hC := tables_may w1 _ x.tables ((HH.out.kept HB1.out.size (fun k _ hk => HB1.out.block k hk)).hf) hx.tables
  rw [h1] at hC
  go_wp2_with fail
  refine hC.mono ?_
  rintro e w2 ⟨rfl, hb⟩
  have HB2 := Lib.hid (HB1.out.trans (hb.mono HB1.out.size))
  have HBK2 : Hid (w2.heap[W.heap.size]? = some (.cells (xA x a1 n1 c1 a2 n2 c2 a3 n3 c3 a4 n4 c4 a5 n5 c5 a6 n6 c6 a7 n7 c7 a8 n8 c8 a9 n9 c9) 39 (0, 0))) := Lib.hid ((hb.block W.heap.size (bk_lt HBK1.out)).trans HBK1.out)
  clear hb hC
  have hC := optional_may w2 _ x.cond ((HH.out.kept HB2.out.size (fun k _ hk => HB2.out.block k hk)).hu) hx.cond
  rw [h2] at hC
  go_wp2_with (refine wpListG_load_mid rfl 36 _ rfl W.heap.size 8 rfl _ _ (World.rangeAt_of_block HBK2.out 8 9 : World.rangeAt _ _ _ (eL x.cond.a (.slice a6 n6 c6))) Tryz.underlying36 rfl (by kernel_rfl) ?_)
  refine hC.mono ?_
  rintro e w3 ⟨rfl, hb⟩
  have HB3 := Lib.hid (HB2.out.trans (hb.mono HB2.out.size))
  have HBK3 : Hid (w3.heap[W.heap.size]? = some (.cells (xA x a1 n1 c1 a2 n2 c2 a3 n3 c3 a4 n4 c4 a5 n5 c5 a6 n6 c6 a7 n7 c7 a8 n8 c8 a9 n9 c9) 39 (0, 0))) := Lib.hid ((hb.block W.heap.size (bk_lt HBK2.out)).trans HBK2.out)
  clear hb hC
  have q3_17 := bk_cell HBK3.out 17
  have hC := anyEx_may 36 (fun _ _ => rfl) fineE (Ex.all Sh) exE_may _ x.group w3 ((HH.out.kept HB3.out.size (fun k _ hk => HB3.out.block k hk)).hg.from0) hx.group
  rw [h3] at hC
  go_wp2_with fail
  refine hC.mono ?_
  rintro e w4 ⟨rfl, hb⟩
  have HB4 := Lib.hid (HB3.out.trans (hb.mono HB3.out.size))
  have HBK4 : Hid (w4.heap[W.heap.size]? = some (.cells (xA x a1 n1 c1 a2 n2 c2 a3 n3 c3 a4 n4 c4 a5 n5 c5 a6 n6 c6 a7 n7 c7 a8 n8 c8 a9 n9 c9) 39 (0, 0))) := Lib.hid ((hb.block W.heap.size (bk_lt HBK3.out)).trans HBK3.out)
  clear hb hC
  have hC := optional_may w4 _ x.having_ ((HH.out.kept HB4.out.size (fun k _ hk => HB4.out.block k hk)).hh) hx.having_
  rw [h4] at hC
  go_wp2_with (refine wpListG_load_mid rfl 36 _ rfl W.heap.size 18 rfl _ _ (World.rangeAt_of_block HBK4.out 18 9 : World.rangeAt _ _ _ (eL x.having_.a (.slice a8 n8 c8))) Tryz.underlying36 rfl (by kernel_rfl) ?_)
  refine hC.mono ?_
  rintro e w5 ⟨rfl, hb⟩
  have HB5 := Lib.hid (HB4.out.trans (hb.mono HB4.out.size))
  have HBK5 : Hid (w5.heap[W.heap.size]? = some (.cells (xA x a1 n1 c1 a2 n2 c2 a3 n3 c3 a4 n4 c4 a5 n5 c5 a6 n6 c6 a7 n7 c7 a8 n8 c8 a9 n9 c9) 39 (0, 0))) := Lib.hid ((hb.block W.heap.size (bk_lt HBK4.out)).trans HBK4.out)
  clear hb hC
  have hz : n7 ≠ 0 ∨ (n7 = 0 ∧ noneE x.having_ = true) := by
    rw [Bool.or_eq_true_iff, L7.out] at h5
    by_cases e : n7 = 0
    · rcases h5 with h5 | h5
      · simp [e] at h5
      · exact .inr ⟨e, h5⟩
    · exact .inl e
  rcases hz with hz | ⟨hz0, hz⟩
  · have hpos : (0 : Int) < (n7 : Int) := by omega
    have q5_17 := bk_cell HBK5.out 17
    have q6_27 := bk_cell HBK5.out 27
    have hC := anyOrder_may 114 (fun _ _ => rfl) (fun y => fineE y.e) (fun y => y.e.all Sh) order_may _ x.order w5 ((HH.out.kept HB5.out.size (fun k _ hk => HB5.out.block k hk)).ho.from0) hx.order
    rw [h6] at hC
    go_wp2_with fail
    refine hC.mono ?_
    rintro e w6 ⟨rfl, hb⟩
    have HB6 := Lib.hid (HB5.out.trans (hb.mono HB5.out.size))
    have HBK6 : Hid (w6.heap[W.heap.size]? = some (.cells (xA x a1 n1 c1 a2 n2 c2 a3 n3 c3 a4 n4 c4 a5 n5 c5 a6 n6 c6 a7 n7 c7 a8 n8 c8 a9 n9 c9) 39 (0, 0))) := Lib.hid ((hb.block W.heap.size (bk_lt HBK5.out)).trans HBK5.out)
    clear hb hC
    go_wp2_with fail
    go_ret
    exact ⟨rfl, HB6.out⟩
  · have hneg : ¬ (0 : Int) < (n7 : Int) := by omega
    rw [hz] at hN
    have q5_17 := bk_cell HBK5.out 17
    go_wp2_with (first
      | (refine wpListG_load_mid rfl 36 _ rfl W.heap.size 18 rfl _ _ (World.rangeAt_of_block HBK5.out 18 9 : World.rangeAt _ _ _ (eL x.having_.a (.slice a8 n8 c8))) Tryz.underlying36 rfl (by kernel_rfl) ?_))
    refine (hN _).mono ?_
    rintro e wn ⟨rfl, hb⟩
    have HBn := Lib.hid (HB5.out.trans (hb.mono HB5.out.size))
    have HBKn : Hid (wn.heap[W.heap.size]? = some (.cells (xA x a1 n1 c1 a2 n2 c2 a3 n3 c3 a4 n4 c4 a5 n5 c5 a6 n6 c6 a7 n7 c7 a8 n8 c8 a9 n9 c9) 39 (0, 0))) := Lib.hid ((hb.block W.heap.size (bk_lt HBK5.out)).trans HBK5.out)
    clear hb
    have q6_27 := bk_cell HBKn.out 27
    have hC := anyOrder_may 114 (fun _ _ => rfl) (fun y => fineE y.e) (fun y => y.e.all Sh) order_may _ x.order wn ((HH.out.kept HBn.out.size (fun k _ hk => HBn.out.block k hk)).ho.from0) hx.order
    rw [h6] at hC
    go_wp2_with fail
    refine hC.mono ?_
    rintro e w6 ⟨rfl, hb⟩
    have HB6 := Lib.hid (HBn.out.trans (hb.mono HBn.out.size))
    have HBK6 : Hid (w6.heap[W.heap.size]? = some (.cells (xA x a1 n1 c1 a2 n2 c2 a3 n3 c3 a4 n4 c4 a5 n5 c5 a6 n6 c6 a7 n7 c7 a8 n8 c8 a9 n9 c9) 39 (0, 0))) := Lib.hid ((hb.block W.heap.size (bk_lt HBKn.out)).trans HBKn.out)
    clear hb hC
    go_wp2_with fail
    go_ret
    exact ⟨rfl, HB6.out⟩
set_option maxRecDepth 100000 in
set_option maxHeartbeats 8000000 in
theorem select_7 (x : StM) (a1 : Option Addr) (n1 c1 : Nat) (a2 : Option Addr) (n2 c2 : Nat) (a3 : Option Addr) (n3 c3 : Nat) (a4 : Option Addr) (n4 c4 : Nat) (a5 : Option Addr) (n5 c5 : Nat) (a6 : Option Addr) (n6 c6 : Nat) (a7 : Option Addr) (n7 c7 : Nat) (a8 : Option Addr) (n8 c8 : Nat) (a9 : Option Addr) (n9 c9 : Nat) (W : World) (h : StHeld (fun _ => True) W x (.slice a1 n1 c1) (.slice a2 n2 c2) (.slice a3 n3 c3) (.slice a4 n4 c4) (.slice a5 n5 c5) (.slice a6 n6 c6) (.slice a7 n7 c7) (.slice a8 n8 c8) (.slice a9 n9 c9)) (hl : Lens x n1 n2 n3 n4 n5 n6 n7 n8 n9) (hx : x.all Sh) (h0 : itemsB x.items = true) (h1 : tablesB x.tables = true) (h2 : optE x.cond = true) (h3 : anyB fineE x.group = true) (h4 : optE x.having_ = true) (h5 : (x.group.length != 0 || noneE x.having_) = true) (h6 : anyB (fun y => fineE y.e) x.order = true) (h7 : limitB x.limit x.skip = false) :
    Calls Tryz.prog 62 #[.agg (xA x a1 n1 c1 a2 n2 c2 a3 n3 c3 a4 n4 c4 a5 n5 c5 a6 n6 c6 a7 n7 c7 a8 n8 c8 a9 n9 c9)] W fun e w' => e = .returned (.bool false) ∧ Below W.heap.size W w' := by
  have HH := Lib.hid h
  obtain ⟨l1, l2, l3, l4, l5, l6, l7, l8, l9⟩ := hl
  have hN := fun w => noExpr_tr x.having_.a a8 x.having_.l.len c8 w
  rw [← noneE_is, l8] at hN
  unfold exVal at hN
  have HBK0 : Hid ((W.alloc (.cells (xA x a1 n1 c1 a2 n2 c2 a3 n3 c3 a4 n4 c4 a5 n5 c5 a6 n6 c6 a7 n7 c7 a8 n8 c8 a9 n9 c9) 39)).heap[W.heap.size]? = some (.cells (xA x a1 n1 c1 a2 n2 c2 a3 n3 c3 a4 n4 c4 a5 n5 c5 a6 n6 c6 a7 n7 c7 a8 n8 c8 a9 n9 c9) 39 (0, 0))) := Lib.hid (heap_alloc_new W _)
  have HB0 : Hid (Below W.heap.size W (W.alloc (.cells (xA x a1 n1 c1 a2 n2 c2 a3 n3 c3 a4 n4 c4 a5 n5 c5 a6 n6 c6 a7 n7 c7 a8 n8 c8 a9 n9 c9) 39))) := Lib.hid (below_alloc W _)
  have L7 := Lib.hid l7
  clear h l1 l2 l3 l4 l5 l6 l7 l8 l9
  go_enter Tryz.func62, Tryz.ntmps62
  have hC := items_may (W.alloc (.cells (xA x a1 n1 c1 a2 n2 c2 a3 n3 c3 a4 n4 c4 a5 n5 c5 a6 n6 c6 a7 n7 c7 a8 n8 c8 a9 n9 c9) 39)) _ x.items ((HH.out.kept HB0.out.size (fun k _ hk => HB0.out.block k hk)).hi) hx.items
  rw [h0] at hC
  go_wp2_with fail
  refine hC.mono ?_
  rintro e w1 ⟨rfl, hb⟩
  have HB1 := Lib.hid (HB0.out.trans (hb.mono HB0.out.size))
  have HBK1 : Hid (w1.heap[W.heap.size]? = some (.cells (xA x a1 n1 c1 a2 n2 c2 a3 n3 c3 a4 n4 c4 a5 n5 c5 a6 n6 c6 a7 n7 c7 a8 n8 c8 a9 n9 c9) 39 (0, 0))) := Lib.hid ((hb.block W.heap.size (bk_lt HBK0.out)).trans HBK0.out)
  clear hb hC
  have q1_7 := bk_cell HBK1.out 7
  have hC := tables_may w1 _ x.tables ((HH.out.kept HB1.out.size (fun k _ hk => HB1.out.block k hk)).hf) hx.tables
  rw [h1] at hC
  go_wp2_with fail
  refine hC.mono ?_
  rintro e w2 ⟨rfl, hb⟩
  have HB2 := Lib.hid (HB1.out.trans (hb.mono HB1.out.size))
  have HBK2 : Hid (w2.heap[W.heap.size]? = some (.cells (xA x a1 n1 c1 a2 n2 c2 a3 n3 c3 a4 n4 c4 a5 n5 c5 a6 n6 c6 a7 n7 c7 a8 n8 c8 a9 n9 c9) 39 (0, 0))) := Lib.hid ((hb.block W.heap.size (bk_lt HBK1.out)).trans HBK1.out)
  clear hb hC
  have hC := optional_may w2 _ x.cond ((HH.out.kept HB2.out.size (fun k _ hk => HB2.out.block k hk)).hu) hx.cond
  rw [h2] at hC
  go_wp2_with (refine wpListG_load_mid rfl 36 _ rfl W.heap.size 8 rfl _ _ (World.rangeAt_of_block HBK2.out 8 9 : World.rangeAt _ _ _ (eL x.cond.a (.slice a6 n6 c6))) Tryz.underlying36 rfl (by kernel_rfl) ?_)
  refine hC.mono ?_
  rintro e w3 ⟨rfl, hb⟩
  have HB3 := Lib.hid (HB2.out.trans (hb.mono HB2.out.size))
  have HBK3 : Hid (w3.heap[W.heap.size]? = some (.cells (xA x a1 n1 c1 a2 n2 c2 a3 n3 c3 a4 n4 c4 a5 n5 c5 a6 n6 c6 a7 n7 c7 a8 n8 c8 a9 n9 c9) 39 (0, 0))) := Lib.hid ((hb.block W.heap.size (bk_lt HBK2.out)).trans HBK2.out)
  clear hb hC
  have q3_17 := bk_cell HBK3.out 17
  have hC := anyEx_may 36 (fun _ _ => rfl) fineE (Ex.all Sh) exE_may _ x.group w3 ((HH.out.kept HB3.out.size (fun k _ hk => HB3.out.block k hk)).hg.from0) hx.group
  rw [h3] at hC
  go_wp2_with fail
  refine hC.mono ?_
  rintro e w4 ⟨rfl, hb⟩
  have HB4 := Lib.hid (HB3.out.trans (hb.mono HB3.out.size))
  have HBK4 : Hid (w4.heap[W.heap.size]? = some (.cells (xA x a1 n1 c1 a2 n2 c2 a3 n3 c3 a4 n4 c4 a5 n5 c5 a6 n6 c6 a7 n7 c7 a8 n8 c8 a9 n9 c9) 39 (0, 0))) := Lib.hid ((hb.block W.heap.size (bk_lt HBK3.out)).trans HBK3.out)
  clear hb hC
  have hC := optional_may w4 _ x.having_ ((HH.out.kept HB4.out.size (fun k _ hk => HB4.out.block k hk)).hh) hx.having_
  rw [h4] at hC
  go_wp2_with (refine wpListG_load_mid rfl 36 _ rfl W.heap.size 18 rfl _ _ (World.rangeAt_of_block HBK4.out 18 9 : World.rangeAt _ _ _ (eL x.having_.a (.slice a8 n8 c8))) Tryz.underlying36 rfl (by kernel_rfl) ?_)
  refine hC.mono ?_
  rintro e w5 ⟨rfl, hb⟩
  have HB5 := Lib.hid (HB4.out.trans (hb.mono HB4.out.size))
  have HBK5 : Hid (w5.heap[W.heap.size]? = some (.cells (xA x a1 n1 c1 a2 n2 c2 a3 n3 c3 a4 n4 c4 a5 n5 c5 a6 n6 c6 a7 n7 c7 a8 n8 c8 a9 n9 c9) 39 (0, 0))) := Lib.hid ((hb.block W.heap.size (bk_lt HBK4.out)).trans HBK4.out)
  clear hb hC
  have hz : n7 ≠ 0 ∨ (n7 = 0 ∧ noneE x.having_ = true) := by
    rw [Bool.or_eq_true_iff, L7.out] at h5
    by_cases e : n7 = 0
    · rcases h5 with h5 | h5
      · simp [e] at h5
      · exact .inr ⟨e, h5⟩
    · exact .inl e
  rcases hz with hz | ⟨hz0, hz⟩
  · have hpos : (0 : Int) < (n7 : Int) := by omega
    have q5_17 := bk_cell HBK5.out 17
    have q6_27 := bk_cell HBK5.out 27
    have hC := anyOrder_may 114 (fun _ _ => rfl) (fun y => fineE y.e) (fun y => y.e.all Sh) order_may _ x.order w5 ((HH.out.kept HB5.out.size (fun k _ hk => HB5.out.block k hk)).ho.from0) hx.order
    rw [h6] at hC
    go_wp2_with fail
    refine hC.mono ?_
    rintro e w6 ⟨rfl, hb⟩
    have HB6 := Lib.hid (HB5.out.trans (hb.mono HB5.out.size))
    have HBK6 : Hid (w6.heap[W.heap.size]? = some (.cells (xA x a1 n1 c1 a2 n2 c2 a3 n3 c3 a4 n4 c4 a5 n5 c5 a6 n6 c6 a7 n7 c7 a8 n8 c8 a9 n9 c9) 39 (0, 0))) := Lib.hid ((hb.block W.heap.size (bk_lt HBK5.out)).trans HBK5.out)
    clear hb hC
    have q7_28 := bk_cell HBK6.out 28
    have q7_29 := bk_cell HBK6.out 29
    have hC := limit_may x.limit x.skip w6
    rw [h7] at hC
    go_wp2_with fail
    refine hC.mono ?_
    rintro e w7 ⟨rfl, hb⟩
    have HB7 := Lib.hid (HB6.out.trans (hb.mono HB6.out.size))
    have HBK7 : Hid (w7.heap[W.heap.size]? = some (.cells (xA x a1 n1 c1 a2 n2 c2 a3 n3 c3 a4 n4 c4 a5 n5 c5 a6 n6 c6 a7 n7 c7 a8 n8 c8 a9 n9 c9) 39 (0, 0))) := Lib.hid ((hb.block W.heap.size (bk_lt HBK6.out)).trans HBK6.out)
    clear hb hC
    go_wp2_with fail
    go_ret
    exact ⟨rfl, HB7.out⟩
  · have hneg : ¬ (0 : Int) < (n7 : Int) := by omega
    rw [hz] at hN
    have q5_17 := bk_cell HBK5.out 17
    go_wp2_with (first
      | (refine wpListG_load_mid rfl 36 _ rfl W.heap.size 18 rfl _ _ (World.rangeAt_of_block HBK5.out 18 9 : World.rangeAt _ _ _ (eL x.having_.a (.slice a8 n8 c8))) Tryz.underlying36 rfl (by kernel_rfl) ?_))
    refine (hN _).mono ?_
    rintro e wn ⟨rfl, hb⟩
    have HBn := Lib.hid (HB5.out.trans (hb.mono HB5.out.size))
    have HBKn : Hid (wn.heap[W.heap.size]? = some (.cells (xA x a1 n1 c1 a2 n2 c2 a3 n3 c3 a4 n4 c4 a5 n5 c5 a6 n6 c6 a7 n7 c7 a8 n8 c8 a9 n9 c9) 39 (0, 0))) := Lib.hid ((hb.block W.heap.size (bk_lt HBK5.out)).trans HBK5.out)
    clear hb
    have q6_27 := bk_cell HBKn.out 27
    have hC := anyOrder_may 114 (fun _ _ => rfl) (fun y => fineE y.e) (fun y => y.e.all Sh) order_may _ x.order wn ((HH.out.kept HBn.out.size (fun k _ hk => HBn.out.block k hk)).ho.from0) hx.order
    rw [h6] at hC
    go_wp2_with fail
    refine hC.mono ?_
    rintro e w6 ⟨rfl, hb⟩
    have HB6 := Lib.hid (HBn.out.trans (hb.mono HBn.out.size))
    have HBK6 : Hid (w6.heap[W.heap.size]? = some (.cells (xA x a1 n1 c1 a2 n2 c2 a3 n3 c3 a4 n4 c4 a5 n5 c5 a6 n6 c6 a7 n7 c7 a8 n8 c8 a9 n9 c9) 39 (0, 0))) := Lib.hid ((hb.block W.heap.size (bk_lt HBKn.out)).trans HBKn.out)
    clear hb hC
    have q7_28 := bk_cell HBK6.out 28
    have q7_29 := bk_cell HBK6.out 29
    have hC := limit_may x.limit x.skip w6
    rw [h7] at hC
    go_wp2_with fail
    refine hC.mono ?_
    rintro e w7 ⟨rfl, hb⟩
    have HB7 := Lib.hid (HB6.out.trans (hb.mono HB6.out.size))
    have HBK7 : Hid (w7.heap[W.heap.size]? = some (.cells (xA x a1 n1 c1 a2 n2 c2 a3 n3 c3 a4 n4 c4 a5 n5 c5 a6 n6 c6 a7 n7 c7 a8 n8 c8 a9 n9 c9) 39 (0, 0))) := Lib.hid ((hb.block W.heap.size (bk_lt HBK6.out)).trans HBK6.out)
    clear hb hC
    go_wp2_with fail
    go_ret
    exact ⟨rfl, HB7.out⟩
set_option maxRecDepth 100000 in
set_option maxHeartbeats 8000000 in
theorem select_8 (x : StM) (a1 : Option Addr) (n1 c1 : Nat) (a2 : Option Addr) (n2 c2 : Nat) (a3 : Option Addr) (n3 c3 : Nat) (a4 : Option Addr) (n4 c4 : Nat) (a5 : Option Addr) (n5 c5 : Nat) (a6 : Option Addr) (n6 c6 : Nat) (a7 : Option Addr) (n7 c7 : Nat) (a8 : Option Addr) (n8 c8 : Nat) (a9 : Option Addr) (n9 c9 : Nat) (W : World) (h : StHeld (fun _ => True) W x (.slice a1 n1 c1) (.slice a2 n2 c2) (.slice a3 n3 c3) (.slice a4 n4 c4) (.slice a5 n5 c5) (.slice a6 n6 c6) (.slice a7 n7 c7) (.slice a8 n8 c8) (.slice a9 n9 c9)) (hl : Lens x n1 n2 n3 n4 n5 n6 n7 n8 n9) (hx : x.all Sh) (h0 : itemsB x.items = true) (h1 : tablesB x.tables = true) (h2 : optE x.cond = true) (h3 : anyB fineE x.group = true) (h4 : optE x.having_ = true) (h5 : (x.group.length != 0 || noneE x.having_) = true) (h6 : anyB (fun y => fineE y.e) x.order = true) (h7 : limitB x.limit x.skip = true) :
    Calls Tryz.prog 62 #[.agg (xA x a1 n1 c1 a2 n2 c2 a3 n3 c3 a4 n4 c4 a5 n5 c5 a6 n6 c6 a7 n7 c7 a8 n8 c8 a9 n9 c9)] W fun e w' => e = .returned (.bool true) ∧ Below W.heap.size W w' := by
  have HH := Lib.hid h
  obtain ⟨l1, l2, l3, l4, l5, l6, l7, l8, l9⟩ := hl
  have hN := fun w => noExpr_tr x.having_.a a8 x.having_.l.len c8 w
  rw [← noneE_is, l8] at hN
  unfold exVal at hN
  have HBK0 : Hid ((W.alloc (.cells (xA x a1 n1 c1 a2 n2 c2 a3 n3 c3 a4 n4 c4 a5 n5 c5 a6 n6 c6 a7 n7 c7 a8 n8 c8 a9 n9 c9) 39)).heap[W.heap.size]? = some (.cells (xA x a1 n1 c1 a2 n2 c2 a3 n3 c3 a4 n4 c4 a5 n5 c5 a6 n6 c6 a7 n7 c7 a8 n8 c8 a9 n9 c9) 39 (0, 0))) := Lib.hid (heap_alloc_new W _)
  have HB0 : Hid (Below W.heap.size W (W.alloc (.cells (xA x a1 n1 c1 a2 n2 c2 a3 n3 c3 a4 n4 c4 a5 n5 c5 a6 n6 c6 a7 n7 c7 a8 n8 c8 a9 n9 c9) 39))) := Lib.hid (below_alloc W _)
  have L7 := Lib.hid l7
  clear h l1 l2 l3 l4 l5 l6 l7 l8 l9
  go_enter Tryz.func62, Tryz.ntmps62
  have hC := items_may (W.alloc (.cells (xA x a1 n1 c1 a2 n2 c2 a3 n3 c3 a4 n4 c4 a5 n5 c5 a6 n6 c6 a7 n7 c7 a8 n8 c8 a9 n9 c9) 39)) _ x.items ((HH.out.kept HB0.out.size (fun k _ hk => HB0.out.block k hk)).hi) hx.items
  rw [h0] at hC
  go_wp2_with fail
  refine hC.mono ?_
  rintro e w1 ⟨rfl, hb⟩
  have HB1 := Lib.hid (HB0.out.trans (hb.mono HB0.out.size))
  have HBK1 : Hid (w1.heap[W.heap.size]? = some (.cells (xA x a1 n1 c1 a2 n2 c2 a3 n3 c3 a4 n4 c4 a5 n5 c5 a6 n6 c6 a7 n7 c7 a8 n8 c8 a9 n9 c9) 39 (0, 0))) := Lib.hid ((hb.block W.heap.size (bk_lt HBK0.out)).trans HBK0.out)
  clear hb hC
  have q1_7 := bk_cell HBK1.out 7
  have hC := tables_may w1 _ x.tables ((HH.out.kept HB1.out.size (fun k _ hk => HB1.out.block k hk)).hf) hx.tables
  rw [h1] at hC
  go_wp2_with fail
  refine hC.mono ?_
  rintro e w2 ⟨rfl, hb⟩
  have HB2 := Lib.hid (HB1.out.trans (hb.mono HB1.out.size))
  have HBK2 : Hid (w2.heap[W.heap.size]? = some (.cells (xA x a1 n1 c1 a2 n2 c2 a3 n3 c3 a4 n4 c4 a5 n5 c5 a6 n6 c6 a7 n7 c7 a8 n8 c8 a9 n9 c9) 39 (0, 0))) := Lib.hid ((hb.block W.heap.size (bk_lt HBK1.out)).trans HBK1.out)
  clear hb hC
  have hC := optional_may w2 _ x.cond ((HH.out.kept HB2.out.size (fun k _ hk => HB2.out.block k hk)).hu) hx.cond
  rw [h2] at hC
  go_wp2_with (refine wpListG_load_mid rfl 36 _ rfl W.heap.size 8 rfl _ _ (World.rangeAt_of_block HBK2.out 8 9 : World.rangeAt _ _ _ (eL x.cond.a (.slice a6 n6 c6))) Tryz.underlying36 rfl (by kernel_rfl) ?_)
  refine hC.mono ?_
  rintro e w3 ⟨rfl, hb⟩
  have HB3 := Lib.hid (HB2.out.trans (hb.mono HB2.out.size))
  have HBK3 : Hid (w3.heap[W.heap.size]? = some (.cells (xA x a1 n1 c1 a2 n2 c2 a3 n3 c3 a4 n4 c4 a5 n5 c5 a6 n6 c6 a7 n7 c7 a8 n8 c8 a9 n9 c9) 39 (0, 0))) := Lib.hid ((hb.block W.heap.size (bk_lt HBK2.out)).trans HBK2.out)
  clear hb hC
  have q3_17 := bk_cell HBK3.out 17
  have hC := anyEx_may 36 (fun _ _ => rfl) fineE (Ex.all Sh) exE_may _ x.group w3 ((HH.out.kept HB3.out.size (fun k _ hk => HB3.out.block k hk)).hg.from0) hx.group
  rw [h3] at hC
  go_wp2_with fail
  refine hC.mono ?_
  rintro e w4 ⟨rfl, hb⟩
  have HB4 := Lib.hid (HB3.out.trans (hb.mono HB3.out.size))
  have HBK4 : Hid (w4.heap[W.heap.size]? = some (.cells (xA x a1 n1 c1 a2 n2 c2 a3 n3 c3 a4 n4 c4 a5 n5 c5 a6 n6 c6 a7 n7 c7 a8 n8 c8 a9 n9 c9) 39 (0, 0))) := Lib.hid ((hb.block W.heap.size (bk_lt HBK3.out)).trans HBK3.out)
  clear hb hC
  have hC := optional_may w4 _ x.having_ ((HH.out.kept HB4.out.size (fun k _ hk => HB4.out.block k hk)).hh) hx.having_
  rw [h4] at hC
  go_wp2_with (refine wpListG_load_mid rfl 36 _ rfl W.heap.size 18 rfl _ _ (World.rangeAt_of_block HBK4.out 18 9 : World.rangeAt _ _ _ (eL x.having_.a (.slice a8 n8 c8))) Tryz.underlying36 rfl (by kernel_rfl) ?_)
  refine hC.mono ?_
  rintro e w5 ⟨rfl, hb⟩
  have HB5 := Lib.hid (HB4.out.trans (hb.mono HB4.out.size))
  have HBK5 : Hid (w5.heap[W.heap.size]? = some (.cells (xA x a1 n1 c1 a2 n2 c2 a3 n3 c3 a4 n4 c4 a5 n5 c5 a6 n6 c6 a7 n7 c7 a8 n8 c8 a9 n9 c9) 39 (0, 0))) := Lib.hid ((hb.block W.heap.size (bk_lt HBK4.out)).trans HBK4.out)
  clear hb hC
  have hz : n7 ≠ 0 ∨ (n7 = 0 ∧ noneE x.having_ = true) := by
    rw [Bool.or_eq_true_iff, L7.out] at h5
    by_cases e : n7 = 0
    · rcases h5 with h5 | h5
      · simp [e] at h5
      · exact .inr ⟨e, h5⟩
    · exact .inl e
  rcases hz with hz | ⟨hz0, hz⟩
  · have hpos : (0 : Int) < (n7 : Int) := by omega
    have q5_17 := bk_cell HBK5.out 17
    have q6_27 := bk_cell HBK5.out 27
    have hC := anyOrder_may 114 (fun _ _ => rfl) (fun y => fineE y.e) (fun y => y.e.all Sh) order_may _ x.order w5 ((HH.out.kept HB5.out.size (fun k _ hk => HB5.out.block k hk)).ho.from0) hx.order
    rw [h6] at hC
    go_wp2_with fail
    refine hC.mono ?_
    rintro e w6 ⟨rfl, hb⟩
    have HB6 := Lib.hid (HB5.out.trans (hb.mono HB5.out.size))
    have HBK6 : Hid (w6.heap[W.heap.size]? = some (.cells (xA x a1 n1 c1 a2 n2 c2 a3 n3 c3 a4 n4 c4 a5 n5 c5 a6 n6 c6 a7 n7 c7 a8 n8 c8 a9 n9 c9) 39 (0, 0))) := Lib.hid ((hb.block W.heap.size (bk_lt HBK5.out)).trans HBK5.out)
    clear hb hC
    have q7_28 := bk_cell HBK6.out 28
    have q7_29 := bk_cell HBK6.out 29
    have hC := limit_may x.limit x.skip w6
    rw [h7] at hC
    go_wp2_with fail
    refine hC.mono ?_
    rintro e w7 ⟨rfl, hb⟩
    have HB7 := Lib.hid (HB6.out.trans (hb.mono HB6.out.size))
    have HBK7 : Hid (w7.heap[W.heap.size]? = some (.cells (xA x a1 n1 c1 a2 n2 c2 a3 n3 c3 a4 n4 c4 a5 n5 c5 a6 n6 c6 a7 n7 c7 a8 n8 c8 a9 n9 c9) 39 (0, 0))) := Lib.hid ((hb.block W.heap.size (bk_lt HBK6.out)).trans HBK6.out)
    clear hb hC
    go_wp2_with fail
    go_ret
    exact ⟨rfl, HB7.out⟩
  · have hneg : ¬ (0 : Int) < (n7 : Int) := by omega
    rw [hz] at hN
    have q5_17 := bk_cell HBK5.out 17
    go_wp2_with (first
      | (refine wpListG_load_mid rfl 36 _ rfl W.heap.size 18 rfl _ _ (World.rangeAt_of_block HBK5.out 18 9 : World.rangeAt _ _ _ (eL x.having_.a (.slice a8 n8 c8))) Tryz.underlying36 rfl (by kernel_rfl) ?_))
    refine (hN _).mono ?_
    rintro e wn ⟨rfl, hb⟩
    have HBn := Lib.hid (HB5.out.trans (hb.mono HB5.out.size))
    have HBKn : Hid (wn.heap[W.heap.size]? = some (.cells (xA x a1 n1 c1 a2 n2 c2 a3 n3 c3 a4 n4 c4 a5 n5 c5 a6 n6 c6 a7 n7 c7 a8 n8 c8 a9 n9 c9) 39 (0, 0))) := Lib.hid ((hb.block W.heap.size (bk_lt HBK5.out)).trans HBK5.out)
    clear hb
    have q6_27 := bk_cell HBKn.out 27
    have hC := anyOrder_may 114 (fun _ _ => rfl) (fun y => fineE y.e) (fun y => y.e.all Sh) order_may _ x.order wn ((HH.out.kept HBn.out.size (fun k _ hk => HBn.out.block k hk)).ho.from0) hx.order
    rw [h6] at hC
    go_wp2_with fail
    refine hC.mono ?_
    rintro e w6 ⟨rfl, hb⟩
    have HB6 := Lib.hid (HBn.out.trans (hb.mono HBn.out.size))
    have HBK6 : Hid (w6.heap[W.heap.size]? = some (.cells (xA x a1 n1 c1 a2 n2 c2 a3 n3 c3 a4 n4 c4 a5 n5 c5 a6 n6 c6 a7 n7 c7 a8 n8 c8 a9 n9 c9) 39 (0, 0))) := Lib.hid ((hb.block W.heap.size (bk_lt HBKn.out)).trans HBKn.out)
    clear hb hC
    have q7_28 := bk_cell HBK6.out 28
    have q7_29 := bk_cell HBK6.out 29
    have hC := limit_may x.limit x.skip w6
    rw [h7] at hC
    go_wp2_with fail
    refine hC.mono ?_
    rintro e w7 ⟨rfl, hb⟩
    have HB7 := Lib.hid (HB6.out.trans (hb.mono HB6.out.size))
    have HBK7 : Hid (w7.heap[W.heap.size]? = some (.cells (xA x a1 n1 c1 a2 n2 c2 a3 n3 c3 a4 n4 c4 a5 n5 c5 a6 n6 c6 a7 n7 c7 a8 n8 c8 a9 n9 c9) 39 (0, 0))) := Lib.hid ((hb.block W.heap.size (bk_lt HBK6.out)).trans HBK6.out)
    clear hb hC
    go_wp2_with fail
    go_ret
    exact ⟨rfl, HB7.out⟩
theorem select_may (x : StM) (a1 : Option Addr) (n1 c1 : Nat) (a2 : Option Addr) (n2 c2 : Nat) (a3 : Option Addr) (n3 c3 : Nat) (a4 : Option Addr) (n4 c4 : Nat) (a5 : Option Addr) (n5 c5 : Nat) (a6 : Option Addr) (n6 c6 : Nat) (a7 : Option Addr) (n7 c7 : Nat) (a8 : Option Addr) (n8 c8 : Nat) (a9 : Option Addr) (n9 c9 : Nat) (W : World) (h : StHeld (fun _ => True) W x (.slice a1 n1 c1) (.slice a2 n2 c2) (.slice a3 n3 c3) (.slice a4 n4 c4) (.slice a5 n5 c5) (.slice a6 n6 c6) (.slice a7 n7 c7) (.slice a8 n8 c8) (.slice a9 n9 c9)) (hl : Lens x n1 n2 n3 n4 n5 n6 n7 n8 n9) (hx : x.all Sh) :
    Calls Tryz.prog 62 #[.agg (xA x a1 n1 c1 a2 n2 c2 a3 n3 c3 a4 n4 c4 a5 n5 c5 a6 n6 c6 a7 n7 c7 a8 n8 c8 a9 n9 c9)] W fun e w' => e = .returned (.bool (selectB x)) ∧ Below W.heap.size W w' := by
  unfold selectB
  cases h0 : itemsB x.items with
  | false => exact select_0 x a1 n1 c1 a2 n2 c2 a3 n3 c3 a4 n4 c4 a5 n5 c5 a6 n6 c6 a7 n7 c7 a8 n8 c8 a9 n9 c9 W h hl hx h0
  | true =>
  cases h1 : tablesB x.tables with
  | false => exact select_1 x a1 n1 c1 a2 n2 c2 a3 n3 c3 a4 n4 c4 a5 n5 c5 a6 n6 c6 a7 n7 c7 a8 n8 c8 a9 n9 c9 W h hl hx h0 h1
  | true =>
  cases h2 : optE x.cond with
  | false => exact select_2 x a1 n1 c1 a2 n2 c2 a3 n3 c3 a4 n4 c4 a5 n5 c5 a6 n6 c6 a7 n7 c7 a8 n8 c8 a9 n9 c9 W h hl hx h0 h1 h2
  | true =>
  cases h3 : anyB fineE x.group with
  | false => exact select_3 x a1 n1 c1 a2 n2 c2 a3 n3 c3 a4 n4 c4 a5 n5 c5 a6 n6 c6 a7 n7 c7 a8 n8 c8 a9 n9 c9 W h hl hx h0 h1 h2 h3
  | true =>
  cases h4 : optE x.having_ with
  | false => exact select_4 x a1 n1 c1 a2 n2 c2 a3 n3 c3 a4 n4 c4 a5 n5 c5 a6 n6 c6 a7 n7 c7 a8 n8 c8 a9 n9 c9 W h hl hx h0 h1 h2 h3 h4
  | true =>
  cases h5 : (x.group.length != 0 || noneE x.having_) with
  | false => exact select_5 x a1 n1 c1 a2 n2 c2 a3 n3 c3 a4 n4 c4 a5 n5 c5 a6 n6 c6 a7 n7 c7 a8 n8 c8 a9 n9 c9 W h hl hx h0 h1 h2 h3 h4 h5
  | true =>
  cases h6 : anyB (fun y => fineE y.e) x.order with
  | false => exact select_6 x a1 n1 c1 a2 n2 c2 a3 n3 c3 a4 n4 c4 a5 n5 c5 a6 n6 c6 a7 n7 c7 a8 n8 c8 a9 n9 c9 W h hl hx h0 h1 h2 h3 h4 h5 h6
  | true =>
  cases h7 : limitB x.limit x.skip with
  | false => exact select_7 x a1 n1 c1 a2 n2 c2 a3 n3 c3 a4 n4 c4 a5 n5 c5 a6 n6 c6 a7 n7 c7 a8 n8 c8 a9 n9 c9 W h hl hx h0 h1 h2 h3 h4 h5 h6 h7
  | true =>
  exact select_8 x a1 n1 c1 a2 n2 c2 a3 n3 c3 a4 n4 c4 a5 n5 c5 a6 n6 c6 a7 n7 c7 a8 n8 c8 a9 n9 c9 W h hl hx h0 h1 h2 h3 h4 h5 h6 h7
end
end Go.Proofs.YtenmnpbjnbdeaaaGreatDoor
