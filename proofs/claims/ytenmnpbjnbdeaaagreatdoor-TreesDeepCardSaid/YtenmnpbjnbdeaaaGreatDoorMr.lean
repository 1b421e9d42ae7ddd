/-
  WHAT IS PROVED: what reads a create.
-/
import Derived.Test.YtenmnpbjnbdeaaaGreatDoorMq
namespace Go.Proofs.YtenmnpbjnbdeaaaGreatDoor
section
open Go.RowKit Go.Shelf
set_option linter.unusedVariables false

theorem typeP_le (t : St) : (typeP t).2.rest.length ≤ t.rest.length := by
  unfold typeP; split
  · exact t.step_le
  · split
    · exact t.step_le
    · exact Nat.le_refl _
theorem flagP_le (s : List UInt8) (t : St) : (flagP s t).2.rest.length ≤ t.rest.length := by
  unfold flagP; split
  · exact t.step_le
  · exact Nat.le_refl _
theorem columnP_le : Le columnP := fun t => by
  unfold columnP
  exact Nat.le_trans (phraseP_le _ _ _) (Nat.le_trans (flagP_le _ _) (Nat.le_trans (phraseP_le _ _ _) (Nat.le_trans (typeP_le _) (nameP_le t))))
theorem itemsP_le {self : Self} (h : Le self) : Le (itemsP self) := fun t => by
  unfold itemsP; split
  · exact t.step_le
  · exact listP_le (itemP_le h) t
theorem orderP_le {self : Self} (h : Le self) : Le (orderP self) := fun t => by
  unfold orderP; split
  · exact Nat.le_trans (St.step_le _) (h t)
  · dsimp only; split
    · exact Nat.le_trans (St.step_le _) (h t)
    · exact h t
theorem asgP_le {self : Self} (h : Le self) : Le (asgP self) := fun t => by
  unfold asgP; exact Nat.le_trans (h _) (Nat.le_trans (St.need_le _ _) (nameP_le t))
section
variable {N B R X : Nat} {A : Array Value} {w wi wj : World} {t t' : St} {x : StM} {c n r i f u g h o : Value}
theorem Fs.name (q : Fs N B R X A w wi t x c n r i f u g h o) (s : List UInt8) : Fs N B R X A w wi t { x with name := s } c n r i f u g h o := ⟨q.z, q.blk, q.hX, ⟨q.held.hc, q.held.hn, q.held.hr, q.held.hi, q.held.hf, q.held.hu, q.held.hg, q.held.hh, q.held.ho⟩⟩
theorem Fs.table (q : Fs N B R X A w wi t x c n r i f u g h o) (s : List UInt8) : Fs N B R X A w wi t { x with table := s } c n r i f u g h o := ⟨q.z, q.blk, q.hX, ⟨q.held.hc, q.held.hn, q.held.hr, q.held.hi, q.held.hf, q.held.hu, q.held.hg, q.held.hh, q.held.ho⟩⟩
theorem Fs.limit (q : Fs N B R X A w wi t x c n r i f u g h o) (s : Int) : Fs N B R X A w wi t { x with limit := s } c n r i f u g h o := ⟨q.z, q.blk, q.hX, ⟨q.held.hc, q.held.hn, q.held.hr, q.held.hi, q.held.hf, q.held.hu, q.held.hg, q.held.hh, q.held.ho⟩⟩
theorem Fs.skip (q : Fs N B R X A w wi t x c n r i f u g h o) (s : Int) : Fs N B R X A w wi t { x with skip := s } c n r i f u g h o := ⟨q.z, q.blk, q.hX, ⟨q.held.hc, q.held.hn, q.held.hr, q.held.hi, q.held.hf, q.held.hu, q.held.hg, q.held.hh, q.held.ho⟩⟩
end
set_option maxRecDepth 100000 in
set_option maxHeartbeats 8000000 in
theorem create_index (N B n : Nat)  (t : St) (w : World) (h : RdAt N w B t) (ht : t.rest.length ≤ n) (nm tb cl : List UInt8) (t1 t2 t3 : St) (hb : t.has wIndex = true) (e1 : nameP t.step = (nm, t1)) (e2 : nameP (t1.need wOn) = (tb, t2)) (e3 : nameP (t2.need wOpen) = (cl, t3)) :
    Calls Tryz.prog 59 #[.pointer (some ⟨B, 0, none⟩)] w (GivesS N B (⟨3, nm, tb, [], [cl], [], [], [], noE, [], noE, [], 0, 0⟩, t3.need wShut) w) := by
  have hmf : ∀ (fn : Fn) (first cap : Array Value) (w : World), (Instr.makeFunc fn first cap).run Tryz.prog w = .ok (.func fn first cap) w := fun _ _ _ _ => rfl
  have F0 : Hid (Fz N B w.heap.size 39 (s00 0 z0 z0 nS nS nS nS nS nS nS 0 0) w (w.alloc (.cells (s00 0 z0 z0 nS nS nS nS nS nS nS 0 0) 39)) t) := Lib.hid (Fz.start 39 (s00 0 z0 z0 nS nS nS nS nS nS nS 0 0) h)
  have hN1 := fun w h => name_tr N B (t.step) w h
  rw [e1] at hN1; dsimp only at hN1
  have hN2 := fun w h => name_tr N B (t1.need wOn) w h
  rw [e2] at hN2; dsimp only at hN2
  have hN3 := fun w h => name_tr N B (t2.need wOpen) w h
  rw [e3] at hN3; dsimp only at hN3
  clear h e1 e2 e3
  go_enter Tryz.func59, Tryz.ntmps59
  go_wp2_with fail
  refine (take_yes N B t ⟨#[105, 110, 100, 101, 120]⟩ _ F0.out.rd hb (by decide)).mono ?_
  rintro e w1 ⟨rfl, hr, hq⟩
  have F1 := Lib.hid (F0.out.call hr hq)
  clear hr hq
  go_wp2_with fail
  refine (hN1 _ F1.out.rd).mono ?_
  rintro e w2 ⟨rfl, hr, hq⟩
  have F2 := Lib.hid (F1.out.call hr hq)
  clear hr hq
  obtain ⟨w3, hw3⟩ : ∃ w3, w3 = (w2.alloc (.cells (s00 0 z0 z0 nS nS nS nS nS nS nS 0 0) 39)).setRow w2.heap.size (s00 3 ((strU nm)) z0 nS nS nS nS nS nS nS 0 0) := ⟨_, rfl⟩
  have F3 : Hid (Fs N B w.heap.size w2.heap.size (s00 3 ((strU nm)) z0 nS nS nS nS nS nS nS 0 0) w w3 (t1) ⟨3, nm, [], [], [], [], [], [], noE, [], noE, [], 0, 0⟩ nS nS nS nS nS nS nS nS nS) := Lib.hid (by rw [hw3]; exact Fs.start F2.out (s00 3 ((strU nm)) z0 nS nS nS nS nS nS nS 0 0) _ rfl)
  go_wp2_with (first
    | (refine wpList_store_row rfl 39 _ _ rfl w2.heap.size (s00 3 ((strU nm)) z0 nS nS nS nS nS nS nS 0 0) rfl rfl _ _ (heap_alloc_new _ _) (by kernel_rfl) rfl (by simp [Value.oneCell']) ?_; rw [← hw3]; clear hw3))
  refine (need_any N B t1 ⟨#[111, 110]⟩ _ F3.out.z.rd (by decide)).mono ?_
  rintro e w4 ⟨rfl, hr, hq⟩
  have F4 := Lib.hid (F3.out.call hr hq)
  clear hr hq
  go_wp2_with fail
  refine (hN2 _ F4.out.z.rd).mono ?_
  rintro e w5 ⟨rfl, hr, hq⟩
  have F5 := Lib.hid (F4.out.call hr hq)
  clear hr hq
  have F6 : Hid (Fs N B w.heap.size w2.heap.size (s00 3 ((strU nm)) z0 nS nS nS nS nS nS nS 0 0) w w5 (t2) ⟨3, nm, tb, [], [], [], [], [], noE, [], noE, [], 0, 0⟩ nS nS nS nS nS nS nS nS nS) := Lib.hid (F5.out.table tb)
  have c5 : w5.cell? ⟨w2.heap.size, 2, none⟩ = some (.string ⟨#[]⟩) := bk_cell F6.out.blk 2
  have z5 : w5.frozen? ⟨w2.heap.size, 2, none⟩ = false := bk_free F6.out.blk 2
  have HS5 : Hid ((w5.setCell ⟨w2.heap.size, 2, none⟩ (.string (strU tb))) = w5.setRow w2.heap.size (s00 3 ((strU nm)) ((strU tb)) nS nS nS nS nS nS nS 0 0)) := Lib.hid ((setCell_eq_setRow w5 w2.heap.size 2 _ _ _ (.string (strU tb)) F6.out.blk).trans (congrArg (w5.setRow w2.heap.size) rfl))
  have F7 : Hid (Fs N B w.heap.size w2.heap.size (s00 3 ((strU nm)) ((strU tb)) nS nS nS nS nS nS nS 0 0) w (w5.setCell ⟨w2.heap.size, 2, none⟩ (.string (strU tb))) (t2) ⟨3, nm, tb, [], [], [], [], [], noE, [], noE, [], 0, 0⟩ nS nS nS nS nS nS nS nS nS) := Lib.hid (by rw [HS5.out]; exact F6.out.set _)
  go_wp2_with fail
  refine (need_any N B t2 ⟨#[40]⟩ _ F7.out.z.rd (by decide)).mono ?_
  rintro e w8 ⟨rfl, hr, hq⟩
  have F8 := Lib.hid (F7.out.call hr hq)
  clear hr hq
  go_wp2_with fail
  refine (hN3 _ F8.out.z.rd).mono ?_
  rintro e w9 ⟨rfl, hr, hq⟩
  have F9 := Lib.hid (F8.out.call hr hq)
  clear hr hq
  have F10 := Lib.hid (F9.out.new (below_alloc w9 (.cells #[.string (strU cl)] 9)))
  have Q10 := Lib.hid (F9.out.one cl)
  have F11 : Hid (Fs N B w.heap.size w2.heap.size (s00 3 ((strU nm)) ((strU tb)) nS nS nS nS nS nS nS 0 0) w (w9.alloc (.cells #[.string (strU cl)] 9)) (t3) ⟨3, nm, tb, [], [cl], [], [], [], noE, [], noE, [], 0, 0⟩ nS (.slice (some ⟨w9.heap.size, 0, none⟩) 1 1) nS nS nS nS nS nS nS) := Lib.hid (F10.out.names Q10.out)
  have c10 : (w9.alloc (.cells #[.string (strU cl)] 9)).cell? ⟨w2.heap.size, 4, none⟩ = some nS := bk_cell F11.out.blk 4
  have z10 : (w9.alloc (.cells #[.string (strU cl)] 9)).frozen? ⟨w2.heap.size, 4, none⟩ = false := bk_free F11.out.blk 4
  have HS10 : Hid (((w9.alloc (.cells #[.string (strU cl)] 9)).setCell ⟨w2.heap.size, 4, none⟩ (.slice (some ⟨w9.heap.size, 0, none⟩) 1 1)) = (w9.alloc (.cells #[.string (strU cl)] 9)).setRow w2.heap.size (s00 3 ((strU nm)) ((strU tb)) nS (.slice (some ⟨w9.heap.size, 0, none⟩) 1 1) nS nS nS nS nS 0 0)) := Lib.hid ((setCell_eq_setRow (w9.alloc (.cells #[.string (strU cl)] 9)) w2.heap.size 4 _ _ _ (.slice (some ⟨w9.heap.size, 0, none⟩) 1 1) F11.out.blk).trans (congrArg ((w9.alloc (.cells #[.string (strU cl)] 9)).setRow w2.heap.size) rfl))
  have F12 : Hid (Fs N B w.heap.size w2.heap.size (s00 3 ((strU nm)) ((strU tb)) nS (.slice (some ⟨w9.heap.size, 0, none⟩) 1 1) nS nS nS nS nS 0 0) w ((w9.alloc (.cells #[.string (strU cl)] 9)).setCell ⟨w2.heap.size, 4, none⟩ (.slice (some ⟨w9.heap.size, 0, none⟩) 1 1)) (t3) ⟨3, nm, tb, [], [cl], [], [], [], noE, [], noE, [], 0, 0⟩ nS (.slice (some ⟨w9.heap.size, 0, none⟩) 1 1) nS nS nS nS nS nS nS) := Lib.hid (by rw [HS10.out]; exact F11.out.set _)
  go_wp2_with fail
  refine (need_any N B t3 ⟨#[41]⟩ _ F12.out.z.rd (by decide)).mono ?_
  rintro e w13 ⟨rfl, hr, hq⟩
  have F13 := Lib.hid (F12.out.call hr hq)
  clear hr hq
  go_wp2_with (first
    | (refine wpList_load_row rfl 39 _ rfl w2.heap.size rfl _ (s00 3 ((strU nm)) ((strU tb)) nS (.slice (some ⟨w9.heap.size, 0, none⟩) 1 1) nS nS nS nS nS 0 0) (0, 0) _ F13.out.blk Tryz.underlying39 rfl (by kernel_rfl) ?_)
    | (refine wpList_store_row rfl 39 _ _ rfl w.heap.size (s00 3 ((strU nm)) ((strU tb)) nS (.slice (some ⟨w9.heap.size, 0, none⟩) 1 1) nS nS nS nS nS 0 0) rfl rfl _ _ F13.out.z.res (by kernel_rfl) rfl (by simp [Value.oneCell']) ?_))
  refine bodyPost_ret (results_cell_row Tryz.results59 _ _ w.heap.size 39 (s00 3 ((strU nm)) ((strU tb)) nS (.slice (some ⟨w9.heap.size, 0, none⟩) 1 1) nS nS nS nS nS 0 0) (0, 0) _ rfl (setRow_heap _ _ _ _ _ _ F13.out.z.res) Tryz.underlying39 rfl (by kernel_rfl)) rfl ?_
  exact F13.out.done rfl
set_option maxRecDepth 100000 in
set_option maxHeartbeats 8000000 in
theorem create_table (N B n : Nat) (hn : n ≤ 900000) (t : St) (w : World) (h : RdAt N w B t) (ht : t.rest.length ≤ n) (nm : List UInt8) (t1 t2 : St) (cs : List ColM) (hb : t.has wIndex = false) (e1 : nameP (t.need wTable) = (nm, t1)) (e2 : enclosedP columnP t1 = (cs, t2)) :
    Calls Tryz.prog 59 #[.pointer (some ⟨B, 0, none⟩)] w (GivesS N B (⟨1, [], nm, cs, [], [], [], [], noE, [], noE, [], 0, 0⟩, t2) w) := by
  have hmf : ∀ (fn : Fn) (first cap : Array Value) (w : World), (Instr.makeFunc fn first cap).run Tryz.prog w = .ok (.func fn first cap) w := fun _ _ _ _ => rfl
  have F0 : Hid (Fz N B w.heap.size 39 (s00 0 z0 z0 nS nS nS nS nS nS nS 0 0) w (w.alloc (.cells (s00 0 z0 z0 nS nS nS nS nS nS nS 0 0) 39)) t) := Lib.hid (Fz.start 39 (s00 0 z0 z0 nS nS nS nS nS nS nS 0 0) h)
  have hN1 := fun w h => name_tr N B (t.need wTable) w h
  rw [e1] at hN1; dsimp only at hN1
  have HL1 : Hid (t1.rest.length ≤ n) := Lib.hid (by have a := nameP_le (t.need wTable); rw [e1] at a; dsimp only at a; have b := St.need_le t wTable; omega)
  have hE := fun w h => enclosedCol_tr N B n 109 hn (fun _ _ => by kernel_rfl) columnP (column_tr N B n) columnP_le t1 w h HL1.out
  unfold GivesL at hE; rw [e2] at hE; dsimp only at hE
  clear h e1 e2
  go_enter Tryz.func59, Tryz.ntmps59
  go_wp2_with fail
  refine (take_no N B t ⟨#[105, 110, 100, 101, 120]⟩ _ F0.out.rd hb).mono ?_
  rintro e w1 ⟨rfl, hr, hb0⟩
  have F1 := Lib.hid (F0.out.new hb0)
  clear hr hb0
  go_wp2_with fail
  refine (need_any N B t ⟨#[116, 97, 98, 108, 101]⟩ _ F1.out.rd (by decide)).mono ?_
  rintro e w2 ⟨rfl, hr, hq⟩
  have F2 := Lib.hid (F1.out.call hr hq)
  clear hr hq
  go_wp2_with fail
  refine (hN1 _ F2.out.rd).mono ?_
  rintro e w3 ⟨rfl, hr, hq⟩
  have F3 := Lib.hid (F2.out.call hr hq)
  clear hr hq
  obtain ⟨w4, hw4⟩ : ∃ w4, w4 = (w3.alloc (.cells (s00 0 z0 z0 nS nS nS nS nS nS nS 0 0) 39)).setRow w3.heap.size (s00 1 z0 ((strU nm)) nS nS nS nS nS nS nS 0 0) := ⟨_, rfl⟩
  have F4 : Hid (Fs N B w.heap.size w3.heap.size (s00 1 z0 ((strU nm)) nS nS nS nS nS nS nS 0 0) w w4 (t1) ⟨1, [], nm, [], [], [], [], [], noE, [], noE, [], 0, 0⟩ nS nS nS nS nS nS nS nS nS) := Lib.hid (by rw [hw4]; exact Fs.start F3.out (s00 1 z0 ((strU nm)) nS nS nS nS nS nS nS 0 0) _ rfl)
  go_wp2_with (first
    | (refine wpList_store_row rfl 39 _ _ rfl w3.heap.size (s00 1 z0 ((strU nm)) nS nS nS nS nS nS nS 0 0) rfl rfl _ _ (heap_alloc_new _ _) (by kernel_rfl) rfl (by simp [Value.oneCell']) ?_; rw [← hw4]; clear hw4))
  refine (hE _ F4.out.z.rd).mono ?_
  rintro e w5 ⟨v4, rfl, hrow, hr, hq⟩
  obtain ⟨a4, b4, hv, _⟩ := hrow.slice
  subst hv
  have F5 := Lib.hid (F4.out.call hr hq)
  have Q5 := Lib.hid (F4.out.gotL hrow)
  clear hrow hr hq
  have F6 : Hid (Fs N B w.heap.size w3.heap.size (s00 1 z0 ((strU nm)) nS nS nS nS nS nS nS 0 0) w w5 (t2) ⟨1, [], nm, cs, [], [], [], [], noE, [], noE, [], 0, 0⟩ (.slice a4 (cs).length b4) nS nS nS nS nS nS nS nS) := Lib.hid (F5.out.columns Q5.out)
  have c5 : w5.cell? ⟨w3.heap.size, 3, none⟩ = some nS := bk_cell F6.out.blk 3
  have z5 : w5.frozen? ⟨w3.heap.size, 3, none⟩ = false := bk_free F6.out.blk 3
  have HS5 : Hid ((w5.setCell ⟨w3.heap.size, 3, none⟩ (.slice a4 (cs).length b4)) = w5.setRow w3.heap.size (s00 1 z0 ((strU nm)) (.slice a4 (cs).length b4) nS nS nS nS nS nS 0 0)) := Lib.hid ((setCell_eq_setRow w5 w3.heap.size 3 _ _ _ (.slice a4 (cs).length b4) F6.out.blk).trans (congrArg (w5.setRow w3.heap.size) rfl))
  have F7 : Hid (Fs N B w.heap.size w3.heap.size (s00 1 z0 ((strU nm)) (.slice a4 (cs).length b4) nS nS nS nS nS nS 0 0) w (w5.setCell ⟨w3.heap.size, 3, none⟩ (.slice a4 (cs).length b4)) (t2) ⟨1, [], nm, cs, [], [], [], [], noE, [], noE, [], 0, 0⟩ (.slice a4 (cs).length b4) nS nS nS nS nS nS nS nS) := Lib.hid (by rw [HS5.out]; exact F6.out.set _)
  go_wp2_with (first
    | (refine wpList_load_row rfl 39 _ rfl w3.heap.size rfl _ (s00 1 z0 ((strU nm)) (.slice a4 (cs).length b4) nS nS nS nS nS nS 0 0) (0, 0) _ F7.out.blk Tryz.underlying39 rfl (by kernel_rfl) ?_)
    | (refine wpList_store_row rfl 39 _ _ rfl w.heap.size (s00 1 z0 ((strU nm)) (.slice a4 (cs).length b4) nS nS nS nS nS nS 0 0) rfl rfl _ _ F7.out.z.res (by kernel_rfl) rfl (by simp [Value.oneCell']) ?_))
  refine bodyPost_ret (results_cell_row Tryz.results59 _ _ w.heap.size 39 (s00 1 z0 ((strU nm)) (.slice a4 (cs).length b4) nS nS nS nS nS nS 0 0) (0, 0) _ rfl (setRow_heap _ _ _ _ _ _ F7.out.z.res) Tryz.underlying39 rfl (by kernel_rfl)) rfl ?_
  exact F7.out.done rfl
theorem create_tr (N B n : Nat) (hn : n ≤ 900000) (t : St) (w : World) (h : RdAt N w B t) (ht : t.rest.length ≤ n) :
    Calls Tryz.prog 59 #[.pointer (some ⟨B, 0, none⟩)] w (GivesS N B (createP t) w) := by
  unfold createP indexP
  dsimp only
  cases hb : t.has wIndex with
  | true => simp only [if_pos]; exact create_index N B n t w h ht _ _ _ _ _ _ hb (pairP _) (pairP _) (pairP _)
  | false => simp only [Bool.false_eq_true, if_false]; exact create_table N B n hn t w h ht _ _ _ _ hb (pairP _) (pairP _)
end
end Go.Proofs.YtenmnpbjnbdeaaaGreatDoor
