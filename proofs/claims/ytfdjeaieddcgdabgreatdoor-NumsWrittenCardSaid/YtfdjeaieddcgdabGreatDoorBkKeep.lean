/-
  WHAT IS PROVED: contracts of a Book's kind of bytes: a list is kept.
-/
import Derived.Test.YtfdjeaieddcgdabGreatDoorBkByteL
import Derived.Deep.RegionLaw
import Derived.Deep.RegionHeld3
import Derived.Deep.RegionWith
namespace Go.Proofs.YtfdjeaieddcgdabGreatDoor
open Go.RowKit
set_option linter.unusedVariables false

theorem step_append_runB {P : Program} {ops : Array Oper} {o : Oper} {a : Act} {w : World} {K : Act → World → Prop} {Q : Exit → Act → World → Prop} {E : Prop} (hw : Region.wanted o (yielded ops a.tmps) = true) (s x : Operand) (t : TypeId)
    (ho : o.op = .call { callee := .builtin .append, args := #[s, x], argTypes := #[t, t] }) (v u : Value) (hs : a.eval s = v) (hx : a.eval x = u) (v' : Value) (w' : World) (hrun : (Builtin.append_ #[t, t] o.type #[v, u]).run P w = .ok v' w')
    (h : K (a.put o.dst v') w') : if Region.wanted o (yielded ops a.tmps) = true then Oper.wp P o a w K Q else E := by
  rw [if_pos hw]
  unfold Oper.wp execOp
  simp only [ho, resolve, invoke, builtin, Sem.run_bind, Sem.run_pure, Result.andThen_ok, List.map_toArray, List.map_cons, List.map_nil, hs, hx, hrun]
  exact h

theorem Tryz.infoHB : (Tryz.prog.info? 225).map (fun i => (i.zero, i.size, i.bytes)) = some (some (.agg #[.slice none 0 0, .slice none 0 0, .int .i64 0]), 3, 56) := by kernel_rfl
theorem own_drew {w : World} {base e size n : Nat} {v : Value} {xs : List Value} (h : w.ownsRow base e size v n xs) : w.drew.ownsRow base e size v n xs := h
theorem three_new (w : World) (a b c : Value) (t : TypeId) : ∀ (j : Nat) (x : Value), [a, b, c][j]? = some x → (w.alloc (.cells #[a, b, c] t)).drew.cell? ((⟨w.heap.size, 0, none⟩ : Addr).add j) = some x := fun j x h => by
  rw [show (⟨w.heap.size, 0, none⟩ : Addr).add j = ⟨w.heap.size, j, none⟩ by unfold Addr.add; split <;> simp_all]
  exact (bk_cell (heap_alloc_new w (.cells #[a, b, c] t)) j).trans (by simpa using h)
set_option maxRecDepth 100000 in
set_option maxHeartbeats 4000000 in
theorem keepByte_any (B base c : Nat) (hv : Value) (E : List Ent) (cs : Array Value) (w : World) (hbase : base ≤ w.heap.size) (ao : Option Addr) (n cap : Nat) (hB : w.heap[B]? = some (.cells cs 82 (0, 0))) (h0 : cs[0]? = some (.int .i64 (c : Int))) (h1 : cs[1]? = some hv) (hl : E.length ≤ 1000) (hc : c ≤ 1000) (hnB : hv.ownBlock ≠ some B)
    (H : w.ownsRow base 225 3 hv E.length (cellsE E)) :
    Calls Tryz.prog 162 #[.pointer (some ⟨B, 0, none⟩), .slice ao n cap] w fun e w' => e = .returned (.tuple #[]) ∧ Turn (fun k => k = B ∨ hv.ownBlock = some k) w w' ∧
      ∃ hv', w'.heap[B]? = some (.cells ((cs.modify 0 fun _ => .int .i64 ((c + 1 : Nat) : Int)).modify 1 fun _ => hv') 82 (0, 0)) ∧ w'.ownsRow base 225 3 hv' (E.length + 1) (cellsE (E ++ [⟨.slice ao n cap, .slice none 0 0, n, c + 1⟩])) ∧ (hv'.ownBlock = hv.ownBlock ∨ ∃ k, hv'.ownBlock = some k ∧ w.heap.size ≤ k) := by
  have hBlt := bk_lt hB
  have s0 : w.cell? ⟨B, 0, none⟩ = some (.int .i64 (c : Int)) := (bk_cell hB 0).trans h0
  have f0 : w.frozen? ⟨B, 0, none⟩ = false := bk_free hB 0
  obtain ⟨w1, hw1⟩ : ∃ w1, w.setCell ⟨B, 0, none⟩ (.int .i64 ((c : Int) + 1)) = w1 := ⟨_, rfl⟩
  have hB1 : w1.heap[B]? = some (.cells (cs.modify 0 fun _ => .int .i64 ((c : Int) + 1)) 82 (0, 0)) := by rw [← hw1]; exact bk_set _ hB
  have T1 : Turn (fun k => k = B) w w1 := by rw [← hw1]; exact Turn.setCell _ _ _ _ rfl
  have own1 := T1.own H (fun k hk e => hnB (by rw [hk, e]))
  obtain ⟨ho, hcp, hvs⟩ := own_slice3 H
  subst hvs
  have r0 : w1.cell? ⟨B, 0, none⟩ = some (.int .i64 ((c : Int) + 1)) := (bk_cell hB1 0).trans (by rw [Array.getElem?_modify, if_pos rfl, h0]; rfl)
  have r1 : w1.cell? ⟨B, 1, none⟩ = some (.slice ho E.length hcp) := (bk_cell hB1 1).trans (by rw [Array.getElem?_modify, if_neg (by decide), h1])
  have g1 : w1.frozen? ⟨B, 1, none⟩ = false := bk_free hB1 1
  have hlt1 : B < w1.heap.size := bk_lt hB1
  have HW1 := Lib.hid hw1
  have HB1 := Lib.hid hB1
  have HT1 := Lib.hid T1
  have HO1 := Lib.hid own1
  have HBS := Lib.hid (Nat.le_trans hbase T1.size)
  have HNB := Lib.hid hnB
  clear hw1 hB T1 own1 H h0 h1 hB1 hbase
  obtain ⟨i0, hi0, hz0, hz1, hz2⟩ := info_parts Tryz.infoHB
  obtain ⟨v', w2, hrun, hown2, hcase⟩ := run_append_keep (P := Tryz.prog) ((w1.alloc (.cells #[.slice ao n cap, .slice none 0 0, .int .i64 ((c : Int) + 1)] 225)).drew) base 62 62 225 i0 _ 3 56 Tryz.underlying62 hi0 hz0 hz1 hz2 rfl (by omega)
    (.slice ho E.length hcp) E.length (cellsE E) (own_drew (HO1.out.alloc _)) ⟨w1.heap.size, 0, none⟩ 1 1 [.slice ao n cap, .slice none 0 0, .int .i64 ((c : Int) + 1)] rfl (by omega) (three_new w1 _ _ _ _) (by intro u hu; simp at hu; rcases hu with rfl | rfl | rfl <;> rfl) (by unfold maxLen; omega) (by omega) (by have := HBS.out; simp; omega)
  have htu : Turn (fun k => (Value.slice ho E.length hcp).ownBlock = some k) w1 w2 ∧ (v'.ownBlock = (Value.slice ho E.length hcp).ownBlock ∨ ∃ k, v'.ownBlock = some k ∧ w1.heap.size ≤ k) := by
    have ta : Turn (fun k => (Value.slice ho E.length hcp).ownBlock = some k) w1 ((w1.alloc (.cells #[.slice ao n cap, .slice none 0 0, .int .i64 ((c : Int) + 1)] 225)).drew) := (Turn.alloc _ _ _).trans (Turn.drew _ _)
    rcases hcase with ⟨g, cp, e1, e2, hg⟩ | ⟨e1, hg⟩
    · have hb : (Value.slice ho E.length hcp).ownBlock = some g := by rw [e1]; rfl
      exact ⟨ta.next (Turn.grown hg) (fun k _ hk => by cases hk; exact hb), .inl (by rw [hb, e2]; rfl)⟩
    · exact ⟨ta.next (Turn.grown hg) (fun k _ hk => by cases hk), .inr ⟨_, e1, by simp⟩⟩
  obtain ⟨vo, vc, rfl⟩ := own_slice3 hown2
  have HB2 := Lib.hid (htu.1.at_ HB1.out hnB)
  have R2 : Hid (w2.cell? ⟨B, 1, none⟩ = some (.slice ho E.length hcp)) := Lib.hid (htu.1.cell r1 hnB)
  have hfree : ∀ k, (Value.slice vo (E.length + 1) vc).ownBlock = some k → k ≠ B := fun k hk e => by
    subst e
    rcases htu.2 with h3 | ⟨j, h3, h4⟩
    · exact hnB (h3 ▸ hk)
    · rw [h3] at hk; cases hk; omega
  have hcells : cellsE (E ++ [⟨.slice ao n cap, .slice none 0 0, n, c + 1⟩]) = cellsE E ++ [.slice ao n cap, .slice none 0 0, .int .i64 ((c : Int) + 1)] := by
    unfold cellsE; rw [List.flatMap_append]; simp [Ent.cells]
  have HEND : Hid (Turn (fun k => k = B ∨ (Value.slice ho E.length hcp).ownBlock = some k) w (w2.setCell ⟨B, 1, none⟩ (.slice vo (E.length + 1) vc)) ∧
      ∃ hv', (w2.setCell ⟨B, 1, none⟩ (.slice vo (E.length + 1) vc)).heap[B]? = some (.cells ((cs.modify 0 fun _ => .int .i64 ((c + 1 : Nat) : Int)).modify 1 fun _ => hv') 82 (0, 0)) ∧ (w2.setCell ⟨B, 1, none⟩ (.slice vo (E.length + 1) vc)).ownsRow base 225 3 hv' (E.length + 1) (cellsE (E ++ [⟨.slice ao n cap, .slice none 0 0, n, c + 1⟩])) ∧ (hv'.ownBlock = (Value.slice ho E.length hcp).ownBlock ∨ ∃ k, hv'.ownBlock = some k ∧ w.heap.size ≤ k)) := by
    refine Lib.hid ⟨((HT1.out.mono (fun _ _ h => .inl h)).next htu.1 (fun k _ h => .inr h)).next (Turn.setCell (fun k => k = B) _ _ _ rfl) (fun k _ h => .inl h), _, bk_set _ HB2.out, ?_, ?_⟩
    · rw [hcells]
      exact (Turn.setCell (fun k => k = B) w2 ⟨B, 1, none⟩ _ rfl).own hown2 hfree
    · rcases htu.2 with h3 | ⟨j, h3, h4⟩
      · exact .inl h3
      · exact .inr ⟨j, h3, Nat.le_trans HT1.out.size h4⟩
  have HRUN := Lib.hid hrun
  clear hrun hown2 hcase htu hfree hcells hnB
  go_enter Tryz.func162, Tryz.ntmps162
  go_wp2_with fail
  rw [HW1.out]
  go_wp2_with fail
  go_region_law ((first
    | (refine step_append_runB rfl (.tmp 15) (.tmp 22) 62 rfl _ _ rfl rfl _ _ HRUN.out ?_; have k1 : w2.cell? ⟨B, 1, none⟩ = some (.slice ho E.length hcp) := R2.out; have k2 : w2.frozen? ⟨B, 1, none⟩ = false := bk_free HB2.out 1; have k3 : B < w2.heap.size := bk_lt HB2.out)))
  all_goals go_wp2
  all_goals exact bodyPost_end (v := .tuple #[]) (by simp [results, go_sem]) rfl ⟨rfl, HEND.out⟩
end Go.Proofs.YtfdjeaieddcgdabGreatDoor
