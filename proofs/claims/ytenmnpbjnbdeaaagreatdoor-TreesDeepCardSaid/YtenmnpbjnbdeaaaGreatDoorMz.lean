/-
  WHAT IS PROVED: whether a statement is nothing.
-/
import Derived.Test.YtenmnpbjnbdeaaaGreatDoorMy
namespace Go.Proofs.YtenmnpbjnbdeaaaGreatDoor
section
open Go.RowKit Go.Shelf
set_option linter.unusedVariables false

set_option maxRecDepth 100000 in
set_option maxHeartbeats 16000000 in
theorem noStmt_tr (x : StM) (a1 : Option Addr) (n1 c1 : Nat) (a2 : Option Addr) (n2 c2 : Nat) (a3 : Option Addr) (n3 c3 : Nat) (a4 : Option Addr) (n4 c4 : Nat) (a5 : Option Addr) (n5 c5 : Nat) (a6 : Option Addr) (n6 c6 : Nat) (a7 : Option Addr) (n7 c7 : Nat) (a8 : Option Addr) (n8 c8 : Nat) (a9 : Option Addr) (n9 c9 : Nat) (hl : Lens x n1 n2 n3 n4 n5 n6 n7 n8 n9) (w : World) :
    Calls Tryz.prog 32 #[.agg (stArr x (.slice a1 n1 c1) (.slice a2 n2 c2) (.slice a3 n3 c3) (.slice a4 n4 c4) (.slice a5 n5 c5) (.slice a6 n6 c6) (.slice a7 n7 c7) (.slice a8 n8 c8) (.slice a9 n9 c9))] w fun e w' => e = .returned (.bool (noneS x)) ∧ Below w.heap.size w w' := by
  obtain ⟨h1, h2, h3, h4, h5, h6, h7, h8, h9⟩ := hl
  have hA := fun w => noExpr_tr x.cond.a a6 n6 c6 w
  have hB := fun w => noExpr_tr x.having_.a a8 n8 c8 w
  rw [← h6, ← noneE_is] at hA
  rw [← h8, ← noneE_is] at hB
  rw [h6] at hA
  rw [h8] at hB
  unfold exVal at hA hB
  have HBK : Hid ((w.alloc (.cells (xA x a1 n1 c1 a2 n2 c2 a3 n3 c3 a4 n4 c4 a5 n5 c5 a6 n6 c6 a7 n7 c7 a8 n8 c8 a9 n9 c9) 39)).heap[w.heap.size]? = some (.cells (xA x a1 n1 c1 a2 n2 c2 a3 n3 c3 a4 n4 c4 a5 n5 c5 a6 n6 c6 a7 n7 c7 a8 n8 c8 a9 n9 c9) 39 (0, 0))) := Lib.hid (heap_alloc_new w _)
  have HR1 : Hid ((w.alloc (.cells (xA x a1 n1 c1 a2 n2 c2 a3 n3 c3 a4 n4 c4 a5 n5 c5 a6 n6 c6 a7 n7 c7 a8 n8 c8 a9 n9 c9) 39)).rangeAt w.heap.size 8 (eL x.cond.a (.slice a6 n6 c6))) := Lib.hid (World.rangeAt_of_block HBK.out 8 9)
  have HNS : Hid (noneS x = (x.kind == 0 && x.name == [] && x.table == [] && n1 == 0 && n2 == 0 && n3 == 0 && n4 == 0 && n5 == 0 && noneE x.cond && n7 == 0 && noneE x.having_ && n9 == 0 && x.limit == 0 && x.skip == 0)) := Lib.hid (by show _ = _; unfold noneS; rw [h1, h2, h3, h4, h5, h7, h9])
  rw [HNS.out]
  clear h1 h2 h3 h4 h5 h6 h7 h8 h9 HNS
  obtain ⟨p, hp⟩ : ∃ p, noneE x.cond = p := ⟨_, rfl⟩
  obtain ⟨q, hq⟩ : ∃ q, noneE x.having_ = q := ⟨_, rfl⟩
  rw [hp] at hA ⊢
  rw [hq] at hB ⊢
  clear hp hq
  unfold stArr
  go_enter Tryz.func32, Tryz.ntmps32
  go_wp2_with (refine wpListG_load_mid rfl 36 _ rfl w.heap.size 8 rfl _ _ HR1.out Tryz.underlying36 rfl (by kernel_rfl) ?_)
  all_goals (first | (go_ret; refine ⟨?_, below_alloc _ _⟩; clear hA hB; (simp_all [strU_T] <;> (rw [Bool.eq_iff_iff]; simp)); done) | skip)
  refine (hA _).mono ?_
  rintro e w1 ⟨rfl, hb⟩
  have HBK1 := Lib.hid ((hb.block w.heap.size (by simp)).trans (heap_alloc_new w _))
  have HR2 : Hid (w1.rangeAt w.heap.size 18 (eL x.having_.a (.slice a8 n8 c8))) := Lib.hid (World.rangeAt_of_block HBK1.out 18 9)
  have s9 := bk_cell HBK1.out 17
  have HB1 := Lib.hid ((below_alloc w _).trans (hb.mono (by simp)))
  clear hb HR1 hA
  cases p with
  | false =>
    go_wp2_with fail
    go_ret
    exact ⟨by simp, HB1.out⟩
  | true =>
    go_wp2_with (refine wpListG_load_mid rfl 36 _ rfl w.heap.size 18 rfl _ _ HR2.out Tryz.underlying36 rfl (by kernel_rfl) ?_)
    all_goals (first | (go_ret; refine ⟨?_, HB1.out⟩; clear hB; (simp_all [strU_T] <;> (rw [Bool.eq_iff_iff]; simp)); done) | skip)
    refine (hB _).mono ?_
    rintro e w2 ⟨rfl, hb2⟩
    have s11 := bk_cell ((hb2.block _ (bk_lt HBK1.out)).trans HBK1.out) 27
    have s12 := bk_cell ((hb2.block _ (bk_lt HBK1.out)).trans HBK1.out) 28
    have s13 := bk_cell ((hb2.block _ (bk_lt HBK1.out)).trans HBK1.out) 29
    have HB := Lib.hid (HB1.out.trans (hb2.mono HB1.out.size))
    clear hb2 HB1 hB s9
    cases q with
    | false =>
      go_wp2_with fail
      go_ret
      exact ⟨by simp, HB.out⟩
    | true =>
      go_wp2_with fail
      all_goals go_ret
      all_goals (refine ⟨?_, HB.out⟩)
      all_goals (simp_all [strU_T] <;> (rw [Bool.eq_iff_iff]; simp))
end
end Go.Proofs.YtenmnpbjnbdeaaaGreatDoor
