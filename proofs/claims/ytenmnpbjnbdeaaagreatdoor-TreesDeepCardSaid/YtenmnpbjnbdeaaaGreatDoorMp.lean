/-
  WHAT IS PROVED: what reads a column. what reads the items of a statement, its tables. what reads the tables of a statement.
-/
import Derived.Test.YtenmnpbjnbdeaaaGreatDoorMo
namespace Go.Proofs.YtenmnpbjnbdeaaaGreatDoor
section
open Go.RowKit Go.Shelf
set_option linter.unusedVariables false

theorem Fz.bad {N B R : Nat} {T : TypeId} {cs : Array Value} {w wi : World} {t : St} (h : Fz N B R T cs w wi t) : Fz N B R T cs w (wi.setCell ⟨B, 1, none⟩ (.bool true)) t.bad := by
  obtain ⟨v, M, q⟩ := h.rd
  exact h.call ⟨v, M, q.bad⟩ (Turn.setCell _ wi _ _ rfl)
theorem RdAt.cell1 {N B : Nat} {w : World} {t : St} (h : RdAt N w B t) : w.cell? ⟨B, 1, none⟩ = some (.bool t.wrong) ∧ w.frozen? ⟨B, 1, none⟩ = false := by
  obtain ⟨v, M, q⟩ := h
  exact ⟨bk_cell q.at_ 1, bk_free q.at_ 1⟩

set_option maxRecDepth 100000 in
set_option maxHeartbeats 4000000 in
theorem column_int (N B n : Nat) (t : St) (w : World) (h : RdAt N w B t) (nm : List UInt8) (t1 : St) (hnm : (nameP t).1 = nm) (ht1 : (nameP t).2 = t1) (hb : t1.has wInt = true) (b1 u b2 : Bool) (t3 t4 t5 : St) (h3 : phraseP wPrimary wKey (t1.step) = (b1, t3)) (h4 : flagP wUnique t3 = (u, t4)) (h5 : phraseP wNot wNull t4 = (b2, t5)) :
    Calls Tryz.prog 109 #[.pointer (some ⟨B, 0, none⟩)] w fun e w' => ∃ V cs, e = .returned V ∧ V.cells = List.toArray cs ∧ colE'.is (w.heap.size ≤ ·) w' cs ⟨nm, 1, b1, u, b2⟩ ∧ RdAt N w' B t5 ∧ Turn (· = B) w w' := by
  have F0 := Lib.hid (Fz.start 112 #[.string ⟨#[]⟩, .int .u8 0, .bool false, .bool false, .bool false] h)
  have hN := name_tr N B t _ F0.out.rd
  rw [hnm, ht1] at hN
  have hP1 := fun w h => phrase_tr N B ⟨#[112, 114, 105, 109, 97, 114, 121]⟩ ⟨#[107, 101, 121]⟩ (by decide) (by decide) (t1.step) w h
  have hP2 := fun w h => flag_tr N B ⟨#[117, 110, 105, 113, 117, 101]⟩ (by decide) t3 w h
  have hP3 := fun w h => phrase_tr N B ⟨#[110, 111, 116]⟩ ⟨#[110, 117, 108, 108]⟩ (by decide) (by decide) t4 w h
  rw [show phraseP (⟨#[112, 114, 105, 109, 97, 114, 121]⟩ : ByteArray).data.toList (⟨#[107, 101, 121]⟩ : ByteArray).data.toList (t1.step) = (b1, t3) from h3] at hP1
  rw [show flagP (⟨#[117, 110, 105, 113, 117, 101]⟩ : ByteArray).data.toList t3 = (u, t4) from h4] at hP2
  rw [show phraseP (⟨#[110, 111, 116]⟩ : ByteArray).data.toList (⟨#[110, 117, 108, 108]⟩ : ByteArray).data.toList t4 = (b2, t5) from h5] at hP3
  dsimp only at hP1 hP2 hP3
  clear h hnm ht1 h3 h4 h5
  go_enter Tryz.func109, Tryz.ntmps109
  go_wp2_with fail
  refine hN.mono ?_
  rintro e w1 ⟨rfl, hr, hq⟩
  have F1 := Lib.hid (F0.out.call hr hq)
  clear hr hq hN
  obtain ⟨w2, hw2⟩ : ∃ w2, w2 = w1.alloc (.cells #[.string (strU nm), .int .u8 0, .bool false, .bool false, .bool false] 112) := ⟨_, rfl⟩
  have F2 : Hid (Fz N B w.heap.size 112 #[.string ⟨#[]⟩, .int .u8 0, .bool false, .bool false, .bool false] w w2 t1) := Lib.hid (by rw [hw2]; exact F1.out.new (below_alloc _ _))
  have X2 : Hid (w2.heap[w1.heap.size]? = some (.cells #[.string (strU nm), .int .u8 0, .bool false, .bool false, .bool false] 112 (0, 0))) := Lib.hid (by rw [hw2]; exact heap_alloc_new _ _)
  have HXB : Hid (w.heap.size < w1.heap.size ∧ ¬ w1.heap.size = B) := Lib.hid ⟨bk_lt F1.out.res, by have := F1.out.hB; have := F1.out.hR; have := bk_lt F1.out.res; omega⟩
  clear F1 F0
  go_wp2_with (go_at_call 54; rw [← hw2]; refine (take_yes N B t1 ⟨#[105, 110, 116]⟩ w2 F2.out.rd hb (by decide)).mono ?_; rintro e w3 ⟨rfl, hr, hq⟩; have F3 := Lib.hid (F2.out.call hr hq); have X3 := Lib.hid (((hq.block _ (bk_lt X2.out) HXB.out.2)).trans X2.out); clear hr hq; have c3_1 : w3.cell? ⟨w1.heap.size, 1, none⟩ = some (.int .u8 0) := bk_cell X3.out 1; have z3_1 : w3.frozen? ⟨w1.heap.size, 1, none⟩ = false := bk_free X3.out 1; have HS3 : Hid (w3.setCell ⟨w1.heap.size, 1, none⟩ (.int .u8 1) = w3.setRow w1.heap.size #[.string (strU nm), .int .u8 1, .bool false, .bool false, .bool false]) := Lib.hid ((setCell_eq_setRow w3 w1.heap.size 1 _ _ _ (.int .u8 1) X3.out).trans (congrArg (w3.setRow w1.heap.size) rfl)); have F4 : Hid (Fz N B w.heap.size 112 #[.string ⟨#[]⟩, .int .u8 0, .bool false, .bool false, .bool false] w (w3.setCell ⟨w1.heap.size, 1, none⟩ (.int .u8 1)) (t1.step)) := Lib.hid (by rw [HS3.out]; exact F3.out.setRow HXB.out.1 _); have X4 : Hid ((w3.setCell ⟨w1.heap.size, 1, none⟩ (.int .u8 1)).heap[w1.heap.size]? = some (.cells #[.string (strU nm), .int .u8 1, .bool false, .bool false, .bool false] 112 (0, 0))) := Lib.hid (by rw [HS3.out]; exact setRow_heap _ _ _ _ _ _ X3.out))
  go_wp2_with (go_at_call 98; refine (hP1 _ F4.out.rd).mono ?_; rintro e w5 ⟨rfl, hr, hq⟩; have F5 := Lib.hid (F4.out.call hr hq); have X5 := Lib.hid (((hq.block _ (bk_lt X4.out) HXB.out.2)).trans X4.out); clear hr hq; have c5_2 : w5.cell? ⟨w1.heap.size, 2, none⟩ = some (.bool false) := bk_cell X5.out 2; have z5_2 : w5.frozen? ⟨w1.heap.size, 2, none⟩ = false := bk_free X5.out 2; have HS5 : Hid (w5.setCell ⟨w1.heap.size, 2, none⟩ (.bool b1) = w5.setRow w1.heap.size #[.string (strU nm), .int .u8 1, .bool b1, .bool false, .bool false]) := Lib.hid ((setCell_eq_setRow w5 w1.heap.size 2 _ _ _ (.bool b1) X5.out).trans (congrArg (w5.setRow w1.heap.size) rfl)); have F6 : Hid (Fz N B w.heap.size 112 #[.string ⟨#[]⟩, .int .u8 0, .bool false, .bool false, .bool false] w (w5.setCell ⟨w1.heap.size, 2, none⟩ (.bool b1)) (t3)) := Lib.hid (by rw [HS5.out]; exact F5.out.setRow HXB.out.1 _); have X6 : Hid ((w5.setCell ⟨w1.heap.size, 2, none⟩ (.bool b1)).heap[w1.heap.size]? = some (.cells #[.string (strU nm), .int .u8 1, .bool b1, .bool false, .bool false] 112 (0, 0))) := Lib.hid (by rw [HS5.out]; exact setRow_heap _ _ _ _ _ _ X5.out))
  go_wp2_with (go_at_call 54; refine (hP2 _ F6.out.rd).mono ?_; rintro e w7 ⟨rfl, hr, hq⟩; have F7 := Lib.hid (F6.out.call hr hq); have X7 := Lib.hid (((hq.block _ (bk_lt X6.out) HXB.out.2)).trans X6.out); clear hr hq; have c7_3 : w7.cell? ⟨w1.heap.size, 3, none⟩ = some (.bool false) := bk_cell X7.out 3; have z7_3 : w7.frozen? ⟨w1.heap.size, 3, none⟩ = false := bk_free X7.out 3; have HS7 : Hid (w7.setCell ⟨w1.heap.size, 3, none⟩ (.bool u) = w7.setRow w1.heap.size #[.string (strU nm), .int .u8 1, .bool b1, .bool u, .bool false]) := Lib.hid ((setCell_eq_setRow w7 w1.heap.size 3 _ _ _ (.bool u) X7.out).trans (congrArg (w7.setRow w1.heap.size) rfl)); have F8 : Hid (Fz N B w.heap.size 112 #[.string ⟨#[]⟩, .int .u8 0, .bool false, .bool false, .bool false] w (w7.setCell ⟨w1.heap.size, 3, none⟩ (.bool u)) (t4)) := Lib.hid (by rw [HS7.out]; exact F7.out.setRow HXB.out.1 _); have X8 : Hid ((w7.setCell ⟨w1.heap.size, 3, none⟩ (.bool u)).heap[w1.heap.size]? = some (.cells #[.string (strU nm), .int .u8 1, .bool b1, .bool u, .bool false] 112 (0, 0))) := Lib.hid (by rw [HS7.out]; exact setRow_heap _ _ _ _ _ _ X7.out))
  go_wp2_with (first
    | (go_at_call 98; refine (hP3 _ F8.out.rd).mono ?_; rintro e w9 ⟨rfl, hr, hq⟩; have F9 := Lib.hid (F8.out.call hr hq); have X9 := Lib.hid (((hq.block _ (bk_lt X8.out) HXB.out.2)).trans X8.out); clear hr hq; have c9_4 : w9.cell? ⟨w1.heap.size, 4, none⟩ = some (.bool false) := bk_cell X9.out 4; have z9_4 : w9.frozen? ⟨w1.heap.size, 4, none⟩ = false := bk_free X9.out 4; have HS9 : Hid (w9.setCell ⟨w1.heap.size, 4, none⟩ (.bool b2) = w9.setRow w1.heap.size #[.string (strU nm), .int .u8 1, .bool b1, .bool u, .bool b2]) := Lib.hid ((setCell_eq_setRow w9 w1.heap.size 4 _ _ _ (.bool b2) X9.out).trans (congrArg (w9.setRow w1.heap.size) rfl)); have F10 : Hid (Fz N B w.heap.size 112 #[.string ⟨#[]⟩, .int .u8 0, .bool false, .bool false, .bool false] w (w9.setCell ⟨w1.heap.size, 4, none⟩ (.bool b2)) (t5)) := Lib.hid (by rw [HS9.out]; exact F9.out.setRow HXB.out.1 _); have X10 : Hid ((w9.setCell ⟨w1.heap.size, 4, none⟩ (.bool b2)).heap[w1.heap.size]? = some (.cells #[.string (strU nm), .int .u8 1, .bool b1, .bool u, .bool b2] 112 (0, 0))) := Lib.hid (by rw [HS9.out]; exact setRow_heap _ _ _ _ _ _ X9.out))
    | (refine wpList_load_row rfl 112 _ rfl w1.heap.size rfl _ #[.string (strU nm), .int .u8 1, .bool b1, .bool u, .bool b2] (0, 0) _ X10.out Tryz.underlying112 rfl (by kernel_rfl) ?_)
    | (refine wpList_store_row rfl 112 _ _ rfl w.heap.size #[.string (strU nm), .int .u8 1, .bool b1, .bool u, .bool b2] rfl rfl _ _ F10.out.res (by kernel_rfl) rfl (by simp [Value.oneCell']) ?_))
  refine bodyPost_ret (results_cell_row Tryz.results109 _ _ w.heap.size 112 #[.string (strU nm), .int .u8 1, .bool b1, .bool u, .bool b2] (0, 0) _ rfl (setRow_heap _ _ _ _ _ _ F10.out.res) Tryz.underlying112 rfl (by kernel_rfl)) rfl ?_
  exact F10.out.done (E := colE') (x := ⟨nm, 1, b1, u, b2⟩) rfl rfl

set_option maxRecDepth 100000 in
set_option maxHeartbeats 4000000 in
theorem column_text (N B n : Nat) (t : St) (w : World) (h : RdAt N w B t) (nm : List UInt8) (t1 : St) (hnm : (nameP t).1 = nm) (ht1 : (nameP t).2 = t1) (hb : t1.has wInt = false) (hb2 : t1.has wText = true) (b1 u b2 : Bool) (t3 t4 t5 : St) (h3 : phraseP wPrimary wKey (t1.step) = (b1, t3)) (h4 : flagP wUnique t3 = (u, t4)) (h5 : phraseP wNot wNull t4 = (b2, t5)) :
    Calls Tryz.prog 109 #[.pointer (some ⟨B, 0, none⟩)] w fun e w' => ∃ V cs, e = .returned V ∧ V.cells = List.toArray cs ∧ colE'.is (w.heap.size ≤ ·) w' cs ⟨nm, 2, b1, u, b2⟩ ∧ RdAt N w' B t5 ∧ Turn (· = B) w w' := by
  have F0 := Lib.hid (Fz.start 112 #[.string ⟨#[]⟩, .int .u8 0, .bool false, .bool false, .bool false] h)
  have hN := name_tr N B t _ F0.out.rd
  rw [hnm, ht1] at hN
  have hP1 := fun w h => phrase_tr N B ⟨#[112, 114, 105, 109, 97, 114, 121]⟩ ⟨#[107, 101, 121]⟩ (by decide) (by decide) (t1.step) w h
  have hP2 := fun w h => flag_tr N B ⟨#[117, 110, 105, 113, 117, 101]⟩ (by decide) t3 w h
  have hP3 := fun w h => phrase_tr N B ⟨#[110, 111, 116]⟩ ⟨#[110, 117, 108, 108]⟩ (by decide) (by decide) t4 w h
  rw [show phraseP (⟨#[112, 114, 105, 109, 97, 114, 121]⟩ : ByteArray).data.toList (⟨#[107, 101, 121]⟩ : ByteArray).data.toList (t1.step) = (b1, t3) from h3] at hP1
  rw [show flagP (⟨#[117, 110, 105, 113, 117, 101]⟩ : ByteArray).data.toList t3 = (u, t4) from h4] at hP2
  rw [show phraseP (⟨#[110, 111, 116]⟩ : ByteArray).data.toList (⟨#[110, 117, 108, 108]⟩ : ByteArray).data.toList t4 = (b2, t5) from h5] at hP3
  dsimp only at hP1 hP2 hP3
  clear h hnm ht1 h3 h4 h5
  go_enter Tryz.func109, Tryz.ntmps109
  go_wp2_with fail
  refine hN.mono ?_
  rintro e w1 ⟨rfl, hr, hq⟩
  have F1 := Lib.hid (F0.out.call hr hq)
  clear hr hq hN
  obtain ⟨w2, hw2⟩ : ∃ w2, w2 = w1.alloc (.cells #[.string (strU nm), .int .u8 0, .bool false, .bool false, .bool false] 112) := ⟨_, rfl⟩
  have F2 : Hid (Fz N B w.heap.size 112 #[.string ⟨#[]⟩, .int .u8 0, .bool false, .bool false, .bool false] w w2 t1) := Lib.hid (by rw [hw2]; exact F1.out.new (below_alloc _ _))
  have X2 : Hid (w2.heap[w1.heap.size]? = some (.cells #[.string (strU nm), .int .u8 0, .bool false, .bool false, .bool false] 112 (0, 0))) := Lib.hid (by rw [hw2]; exact heap_alloc_new _ _)
  have HXB : Hid (w.heap.size < w1.heap.size ∧ ¬ w1.heap.size = B) := Lib.hid ⟨bk_lt F1.out.res, by have := F1.out.hB; have := F1.out.hR; have := bk_lt F1.out.res; omega⟩
  clear F1 F0
  go_wp2_with (go_at_call 54; rw [← hw2]; refine (take_no N B t1 ⟨#[105, 110, 116]⟩ w2 F2.out.rd hb).mono ?_; rintro e w3 ⟨rfl, hr, hb2⟩; have F3 := Lib.hid (F2.out.new hb2); have X3 := Lib.hid ((hb2.block _ (bk_lt X2.out)).trans X2.out); clear hr hb2)
  go_wp2_with (go_at_call 54; refine (take_yes N B t1 ⟨#[116, 101, 120, 116]⟩ w3 F3.out.rd hb2 (by decide)).mono ?_; rintro e w4 ⟨rfl, hr, hq⟩; have F4 := Lib.hid (F3.out.call hr hq); have X4 := Lib.hid (((hq.block _ (bk_lt X3.out) HXB.out.2)).trans X3.out); clear hr hq; have c4_1 : w4.cell? ⟨w1.heap.size, 1, none⟩ = some (.int .u8 0) := bk_cell X4.out 1; have z4_1 : w4.frozen? ⟨w1.heap.size, 1, none⟩ = false := bk_free X4.out 1; have HS4 : Hid (w4.setCell ⟨w1.heap.size, 1, none⟩ (.int .u8 2) = w4.setRow w1.heap.size #[.string (strU nm), .int .u8 2, .bool false, .bool false, .bool false]) := Lib.hid ((setCell_eq_setRow w4 w1.heap.size 1 _ _ _ (.int .u8 2) X4.out).trans (congrArg (w4.setRow w1.heap.size) rfl)); have F5 : Hid (Fz N B w.heap.size 112 #[.string ⟨#[]⟩, .int .u8 0, .bool false, .bool false, .bool false] w (w4.setCell ⟨w1.heap.size, 1, none⟩ (.int .u8 2)) (t1.step)) := Lib.hid (by rw [HS4.out]; exact F4.out.setRow HXB.out.1 _); have X5 : Hid ((w4.setCell ⟨w1.heap.size, 1, none⟩ (.int .u8 2)).heap[w1.heap.size]? = some (.cells #[.string (strU nm), .int .u8 2, .bool false, .bool false, .bool false] 112 (0, 0))) := Lib.hid (by rw [HS4.out]; exact setRow_heap _ _ _ _ _ _ X4.out))
  go_wp2_with (go_at_call 98; refine (hP1 _ F5.out.rd).mono ?_; rintro e w6 ⟨rfl, hr, hq⟩; have F6 := Lib.hid (F5.out.call hr hq); have X6 := Lib.hid (((hq.block _ (bk_lt X5.out) HXB.out.2)).trans X5.out); clear hr hq; have c6_2 : w6.cell? ⟨w1.heap.size, 2, none⟩ = some (.bool false) := bk_cell X6.out 2; have z6_2 : w6.frozen? ⟨w1.heap.size, 2, none⟩ = false := bk_free X6.out 2; have HS6 : Hid (w6.setCell ⟨w1.heap.size, 2, none⟩ (.bool b1) = w6.setRow w1.heap.size #[.string (strU nm), .int .u8 2, .bool b1, .bool false, .bool false]) := Lib.hid ((setCell_eq_setRow w6 w1.heap.size 2 _ _ _ (.bool b1) X6.out).trans (congrArg (w6.setRow w1.heap.size) rfl)); have F7 : Hid (Fz N B w.heap.size 112 #[.string ⟨#[]⟩, .int .u8 0, .bool false, .bool false, .bool false] w (w6.setCell ⟨w1.heap.size, 2, none⟩ (.bool b1)) (t3)) := Lib.hid (by rw [HS6.out]; exact F6.out.setRow HXB.out.1 _); have X7 : Hid ((w6.setCell ⟨w1.heap.size, 2, none⟩ (.bool b1)).heap[w1.heap.size]? = some (.cells #[.string (strU nm), .int .u8 2, .bool b1, .bool false, .bool false] 112 (0, 0))) := Lib.hid (by rw [HS6.out]; exact setRow_heap _ _ _ _ _ _ X6.out))
  go_wp2_with (go_at_call 54; refine (hP2 _ F7.out.rd).mono ?_; rintro e w8 ⟨rfl, hr, hq⟩; have F8 := Lib.hid (F7.out.call hr hq); have X8 := Lib.hid (((hq.block _ (bk_lt X7.out) HXB.out.2)).trans X7.out); clear hr hq; have c8_3 : w8.cell? ⟨w1.heap.size, 3, none⟩ = some (.bool false) := bk_cell X8.out 3; have z8_3 : w8.frozen? ⟨w1.heap.size, 3, none⟩ = false := bk_free X8.out 3; have HS8 : Hid (w8.setCell ⟨w1.heap.size, 3, none⟩ (.bool u) = w8.setRow w1.heap.size #[.string (strU nm), .int .u8 2, .bool b1, .bool u, .bool false]) := Lib.hid ((setCell_eq_setRow w8 w1.heap.size 3 _ _ _ (.bool u) X8.out).trans (congrArg (w8.setRow w1.heap.size) rfl)); have F9 : Hid (Fz N B w.heap.size 112 #[.string ⟨#[]⟩, .int .u8 0, .bool false, .bool false, .bool false] w (w8.setCell ⟨w1.heap.size, 3, none⟩ (.bool u)) (t4)) := Lib.hid (by rw [HS8.out]; exact F8.out.setRow HXB.out.1 _); have X9 : Hid ((w8.setCell ⟨w1.heap.size, 3, none⟩ (.bool u)).heap[w1.heap.size]? = some (.cells #[.string (strU nm), .int .u8 2, .bool b1, .bool u, .bool false] 112 (0, 0))) := Lib.hid (by rw [HS8.out]; exact setRow_heap _ _ _ _ _ _ X8.out))
  go_wp2_with (first
    | (go_at_call 98; refine (hP3 _ F9.out.rd).mono ?_; rintro e w10 ⟨rfl, hr, hq⟩; have F10 := Lib.hid (F9.out.call hr hq); have X10 := Lib.hid (((hq.block _ (bk_lt X9.out) HXB.out.2)).trans X9.out); clear hr hq; have c10_4 : w10.cell? ⟨w1.heap.size, 4, none⟩ = some (.bool false) := bk_cell X10.out 4; have z10_4 : w10.frozen? ⟨w1.heap.size, 4, none⟩ = false := bk_free X10.out 4; have HS10 : Hid (w10.setCell ⟨w1.heap.size, 4, none⟩ (.bool b2) = w10.setRow w1.heap.size #[.string (strU nm), .int .u8 2, .bool b1, .bool u, .bool b2]) := Lib.hid ((setCell_eq_setRow w10 w1.heap.size 4 _ _ _ (.bool b2) X10.out).trans (congrArg (w10.setRow w1.heap.size) rfl)); have F11 : Hid (Fz N B w.heap.size 112 #[.string ⟨#[]⟩, .int .u8 0, .bool false, .bool false, .bool false] w (w10.setCell ⟨w1.heap.size, 4, none⟩ (.bool b2)) (t5)) := Lib.hid (by rw [HS10.out]; exact F10.out.setRow HXB.out.1 _); have X11 : Hid ((w10.setCell ⟨w1.heap.size, 4, none⟩ (.bool b2)).heap[w1.heap.size]? = some (.cells #[.string (strU nm), .int .u8 2, .bool b1, .bool u, .bool b2] 112 (0, 0))) := Lib.hid (by rw [HS10.out]; exact setRow_heap _ _ _ _ _ _ X10.out))
    | (refine wpList_load_row rfl 112 _ rfl w1.heap.size rfl _ #[.string (strU nm), .int .u8 2, .bool b1, .bool u, .bool b2] (0, 0) _ X11.out Tryz.underlying112 rfl (by kernel_rfl) ?_)
    | (refine wpList_store_row rfl 112 _ _ rfl w.heap.size #[.string (strU nm), .int .u8 2, .bool b1, .bool u, .bool b2] rfl rfl _ _ F11.out.res (by kernel_rfl) rfl (by simp [Value.oneCell']) ?_))
  refine bodyPost_ret (results_cell_row Tryz.results109 _ _ w.heap.size 112 #[.string (strU nm), .int .u8 2, .bool b1, .bool u, .bool b2] (0, 0) _ rfl (setRow_heap _ _ _ _ _ _ F11.out.res) Tryz.underlying112 rfl (by kernel_rfl)) rfl ?_
  exact F11.out.done (E := colE') (x := ⟨nm, 2, b1, u, b2⟩) rfl rfl

set_option maxRecDepth 100000 in
set_option maxHeartbeats 4000000 in
theorem column_none (N B n : Nat) (t : St) (w : World) (h : RdAt N w B t) (nm : List UInt8) (t1 : St) (hnm : (nameP t).1 = nm) (ht1 : (nameP t).2 = t1) (hb : t1.has wInt = false) (hb2 : t1.has wText = false) (b1 u b2 : Bool) (t3 t4 t5 : St) (h3 : phraseP wPrimary wKey (t1.bad) = (b1, t3)) (h4 : flagP wUnique t3 = (u, t4)) (h5 : phraseP wNot wNull t4 = (b2, t5)) :
    Calls Tryz.prog 109 #[.pointer (some ⟨B, 0, none⟩)] w fun e w' => ∃ V cs, e = .returned V ∧ V.cells = List.toArray cs ∧ colE'.is (w.heap.size ≤ ·) w' cs ⟨nm, 0, b1, u, b2⟩ ∧ RdAt N w' B t5 ∧ Turn (· = B) w w' := by
  have F0 := Lib.hid (Fz.start 112 #[.string ⟨#[]⟩, .int .u8 0, .bool false, .bool false, .bool false] h)
  have hN := name_tr N B t _ F0.out.rd
  rw [hnm, ht1] at hN
  have hP1 := fun w h => phrase_tr N B ⟨#[112, 114, 105, 109, 97, 114, 121]⟩ ⟨#[107, 101, 121]⟩ (by decide) (by decide) (t1.bad) w h
  have hP2 := fun w h => flag_tr N B ⟨#[117, 110, 105, 113, 117, 101]⟩ (by decide) t3 w h
  have hP3 := fun w h => phrase_tr N B ⟨#[110, 111, 116]⟩ ⟨#[110, 117, 108, 108]⟩ (by decide) (by decide) t4 w h
  rw [show phraseP (⟨#[112, 114, 105, 109, 97, 114, 121]⟩ : ByteArray).data.toList (⟨#[107, 101, 121]⟩ : ByteArray).data.toList (t1.bad) = (b1, t3) from h3] at hP1
  rw [show flagP (⟨#[117, 110, 105, 113, 117, 101]⟩ : ByteArray).data.toList t3 = (u, t4) from h4] at hP2
  rw [show phraseP (⟨#[110, 111, 116]⟩ : ByteArray).data.toList (⟨#[110, 117, 108, 108]⟩ : ByteArray).data.toList t4 = (b2, t5) from h5] at hP3
  dsimp only at hP1 hP2 hP3
  clear h hnm ht1 h3 h4 h5
  go_enter Tryz.func109, Tryz.ntmps109
  go_wp2_with fail
  refine hN.mono ?_
  rintro e w1 ⟨rfl, hr, hq⟩
  have F1 := Lib.hid (F0.out.call hr hq)
  clear hr hq hN
  obtain ⟨w2, hw2⟩ : ∃ w2, w2 = w1.alloc (.cells #[.string (strU nm), .int .u8 0, .bool false, .bool false, .bool false] 112) := ⟨_, rfl⟩
  have F2 : Hid (Fz N B w.heap.size 112 #[.string ⟨#[]⟩, .int .u8 0, .bool false, .bool false, .bool false] w w2 t1) := Lib.hid (by rw [hw2]; exact F1.out.new (below_alloc _ _))
  have X2 : Hid (w2.heap[w1.heap.size]? = some (.cells #[.string (strU nm), .int .u8 0, .bool false, .bool false, .bool false] 112 (0, 0))) := Lib.hid (by rw [hw2]; exact heap_alloc_new _ _)
  have HXB : Hid (w.heap.size < w1.heap.size ∧ ¬ w1.heap.size = B) := Lib.hid ⟨bk_lt F1.out.res, by have := F1.out.hB; have := F1.out.hR; have := bk_lt F1.out.res; omega⟩
  clear F1 F0
  go_wp2_with (go_at_call 54; rw [← hw2]; refine (take_no N B t1 ⟨#[105, 110, 116]⟩ w2 F2.out.rd hb).mono ?_; rintro e w3 ⟨rfl, hr, hb2⟩; have F3 := Lib.hid (F2.out.new hb2); have X3 := Lib.hid ((hb2.block _ (bk_lt X2.out)).trans X2.out); clear hr hb2)
  go_wp2_with (go_at_call 54; refine (take_no N B t1 ⟨#[116, 101, 120, 116]⟩ w3 F3.out.rd hb2).mono ?_; rintro e w4 ⟨rfl, hr, hb3⟩; have F4 := Lib.hid (F3.out.new hb3); have X4 := Lib.hid ((hb3.block _ (bk_lt X3.out)).trans X3.out); clear hr hb3; obtain ⟨e1, e2⟩ := F4.out.rd.cell1; have F5 := Lib.hid F4.out.bad; have X5 : Hid ((w4.setCell ⟨B, 1, none⟩ (.bool true)).heap[w1.heap.size]? = some (.cells #[.string (strU nm), .int .u8 0, .bool false, .bool false, .bool false] 112 (0, 0))) := Lib.hid (((Turn.setCell (· = B) w4 ⟨B, 1, none⟩ (.bool true) rfl).block _ (bk_lt X4.out) HXB.out.2).trans X4.out))
  go_wp2_with (go_at_call 98; refine (hP1 _ F5.out.rd).mono ?_; rintro e w6 ⟨rfl, hr, hq⟩; have F6 := Lib.hid (F5.out.call hr hq); have X6 := Lib.hid (((hq.block _ (bk_lt X5.out) HXB.out.2)).trans X5.out); clear hr hq; have c6_2 : w6.cell? ⟨w1.heap.size, 2, none⟩ = some (.bool false) := bk_cell X6.out 2; have z6_2 : w6.frozen? ⟨w1.heap.size, 2, none⟩ = false := bk_free X6.out 2; have HS6 : Hid (w6.setCell ⟨w1.heap.size, 2, none⟩ (.bool b1) = w6.setRow w1.heap.size #[.string (strU nm), .int .u8 0, .bool b1, .bool false, .bool false]) := Lib.hid ((setCell_eq_setRow w6 w1.heap.size 2 _ _ _ (.bool b1) X6.out).trans (congrArg (w6.setRow w1.heap.size) rfl)); have F7 : Hid (Fz N B w.heap.size 112 #[.string ⟨#[]⟩, .int .u8 0, .bool false, .bool false, .bool false] w (w6.setCell ⟨w1.heap.size, 2, none⟩ (.bool b1)) (t3)) := Lib.hid (by rw [HS6.out]; exact F6.out.setRow HXB.out.1 _); have X7 : Hid ((w6.setCell ⟨w1.heap.size, 2, none⟩ (.bool b1)).heap[w1.heap.size]? = some (.cells #[.string (strU nm), .int .u8 0, .bool b1, .bool false, .bool false] 112 (0, 0))) := Lib.hid (by rw [HS6.out]; exact setRow_heap _ _ _ _ _ _ X6.out))
  go_wp2_with (go_at_call 54; refine (hP2 _ F7.out.rd).mono ?_; rintro e w8 ⟨rfl, hr, hq⟩; have F8 := Lib.hid (F7.out.call hr hq); have X8 := Lib.hid (((hq.block _ (bk_lt X7.out) HXB.out.2)).trans X7.out); clear hr hq; have c8_3 : w8.cell? ⟨w1.heap.size, 3, none⟩ = some (.bool false) := bk_cell X8.out 3; have z8_3 : w8.frozen? ⟨w1.heap.size, 3, none⟩ = false := bk_free X8.out 3; have HS8 : Hid (w8.setCell ⟨w1.heap.size, 3, none⟩ (.bool u) = w8.setRow w1.heap.size #[.string (strU nm), .int .u8 0, .bool b1, .bool u, .bool false]) := Lib.hid ((setCell_eq_setRow w8 w1.heap.size 3 _ _ _ (.bool u) X8.out).trans (congrArg (w8.setRow w1.heap.size) rfl)); have F9 : Hid (Fz N B w.heap.size 112 #[.string ⟨#[]⟩, .int .u8 0, .bool false, .bool false, .bool false] w (w8.setCell ⟨w1.heap.size, 3, none⟩ (.bool u)) (t4)) := Lib.hid (by rw [HS8.out]; exact F8.out.setRow HXB.out.1 _); have X9 : Hid ((w8.setCell ⟨w1.heap.size, 3, none⟩ (.bool u)).heap[w1.heap.size]? = some (.cells #[.string (strU nm), .int .u8 0, .bool b1, .bool u, .bool false] 112 (0, 0))) := Lib.hid (by rw [HS8.out]; exact setRow_heap _ _ _ _ _ _ X8.out))
  go_wp2_with (first
    | (go_at_call 98; refine (hP3 _ F9.out.rd).mono ?_; rintro e w10 ⟨rfl, hr, hq⟩; have F10 := Lib.hid (F9.out.call hr hq); have X10 := Lib.hid (((hq.block _ (bk_lt X9.out) HXB.out.2)).trans X9.out); clear hr hq; have c10_4 : w10.cell? ⟨w1.heap.size, 4, none⟩ = some (.bool false) := bk_cell X10.out 4; have z10_4 : w10.frozen? ⟨w1.heap.size, 4, none⟩ = false := bk_free X10.out 4; have HS10 : Hid (w10.setCell ⟨w1.heap.size, 4, none⟩ (.bool b2) = w10.setRow w1.heap.size #[.string (strU nm), .int .u8 0, .bool b1, .bool u, .bool b2]) := Lib.hid ((setCell_eq_setRow w10 w1.heap.size 4 _ _ _ (.bool b2) X10.out).trans (congrArg (w10.setRow w1.heap.size) rfl)); have F11 : Hid (Fz N B w.heap.size 112 #[.string ⟨#[]⟩, .int .u8 0, .bool false, .bool false, .bool false] w (w10.setCell ⟨w1.heap.size, 4, none⟩ (.bool b2)) (t5)) := Lib.hid (by rw [HS10.out]; exact F10.out.setRow HXB.out.1 _); have X11 : Hid ((w10.setCell ⟨w1.heap.size, 4, none⟩ (.bool b2)).heap[w1.heap.size]? = some (.cells #[.string (strU nm), .int .u8 0, .bool b1, .bool u, .bool b2] 112 (0, 0))) := Lib.hid (by rw [HS10.out]; exact setRow_heap _ _ _ _ _ _ X10.out))
    | (refine wpList_load_row rfl 112 _ rfl w1.heap.size rfl _ #[.string (strU nm), .int .u8 0, .bool b1, .bool u, .bool b2] (0, 0) _ X11.out Tryz.underlying112 rfl (by kernel_rfl) ?_)
    | (refine wpList_store_row rfl 112 _ _ rfl w.heap.size #[.string (strU nm), .int .u8 0, .bool b1, .bool u, .bool b2] rfl rfl _ _ F11.out.res (by kernel_rfl) rfl (by simp [Value.oneCell']) ?_))
  refine bodyPost_ret (results_cell_row Tryz.results109 _ _ w.heap.size 112 #[.string (strU nm), .int .u8 0, .bool b1, .bool u, .bool b2] (0, 0) _ rfl (setRow_heap _ _ _ _ _ _ F11.out.res) Tryz.underlying112 rfl (by kernel_rfl)) rfl ?_
  exact F11.out.done (E := colE') (x := ⟨nm, 0, b1, u, b2⟩) rfl rfl
theorem column_tr (N B n : Nat) : ReadsT colE' N B n 109 columnP := by
  intro t w h ht
  unfold columnP typeP
  dsimp only
  cases hb : (nameP t).2.has wInt with
  | true => simp only [if_pos]; exact column_int N B n t w h _ _ rfl rfl hb _ _ _ _ _ _ rfl rfl rfl
  | false =>
    cases hb2 : (nameP t).2.has wText with
    | true => simp only [Bool.false_eq_true, if_false, if_pos]; exact column_text N B n t w h _ _ rfl rfl hb hb2 _ _ _ _ _ _ rfl rfl rfl
    | false => simp only [Bool.false_eq_true, if_false]; exact column_none N B n t w h _ _ rfl rfl hb hb2 _ _ _ _ _ _ rfl rfl rfl
end
section
open Go.RowKit Go.Shelf
set_option linter.unusedVariables false

def putAt : Array Value → Nat → List Value → Array Value
  | cur, _, [] => cur
  | cur, o, v :: r => putAt (cur.setIfInBounds o v) (o + 1) r
theorem setCells_row {w : World} {g : Nat} {t : TypeId} : ∀ (vs : List Value) (o : Nat) (w' : World) (cur : Array Value), w'.heap[g]? = some (.cells cur t (0, 0)) → w'.setCells g o vs = w'.setRow g (putAt cur o vs)
  | [], o, w', cur, h => (setRow_self w' g cur t (0, 0) h).symm
  | v :: r, o, w', cur, h => by
    show (w'.setCell ⟨g, o, none⟩ v).setCells g (o + 1) r = _
    rw [setCell_eq_setRow w' g o cur t (0, 0) v h, setCells_row (w := w) (t := t) r (o + 1) _ _ (setRow_heap _ _ _ _ _ _ h), setRow_setRow]
    rfl
theorem putAt_list : ∀ (vs : List Value) (o : Nat) (l : List Value), o + vs.length ≤ l.length → putAt l.toArray o vs = (l.take o ++ vs ++ l.drop (o + vs.length)).toArray
  | [], o, l, h => by simp [putAt]
  | v :: r, o, l, h => by
    unfold putAt
    rw [List.setIfInBounds_toArray, putAt_list r (o + 1) (l.set o v) (by simp at h ⊢; omega)]
    congr 1
    have ho : o < l.length := by simp at h; omega
    rw [List.take_add_one, List.getElem?_set_self ho, List.take_set_of_le (Nat.le_refl o), List.drop_set_of_lt (by omega), show o + 1 + r.length = o + (v :: r).length by simp; omega]
    simp
/-- the store of a field of more cells -/
theorem wpList_store_field {ops : Array Oper} {rest : List Oper} {op : Oper} {a : Act} {w : World} {Q : Exit → Act → World → Prop} (hgd : op.guard = none) (ty : TypeId) (x y : Operand) (ho : op.op = .store ty x y)
    (g o : Nat) (cells : Array Value) (hx : a.eval x = .pointer (some ⟨g, o, none⟩)) (hy : a.eval y = .agg cells) (t : TypeId) (cur : Array Value) (hg : w.heap[g]? = some (.cells cur t (0, 0)))
    (hi : (Tryz.prog.info? ty).map (·.size) = some cells.size) (h1 : cells.all (·.oneCell') = true) (hfit : o + cells.size ≤ cur.size) (new : Array Value) (hnew : cur.toList.take o ++ cells.toList ++ cur.toList.drop (o + cells.size) = new.toList)
    (h : wpList Tryz.prog ops Q rest (a.put op.dst undef) (w.setRow g new)) : wpList Tryz.prog ops Q (op :: rest) a w := by
  refine wpList_store_mid hgd ty x y ho g o cells hx hy (fun j hj => ⟨?_, bk_free hg _⟩) hi h1 ?_
  · rw [bk_cell hg, Array.getElem?_eq_getElem (by omega)]; rfl
  · have hl : putAt cur o cells.toList = new := by
      have := putAt_list cells.toList o cur.toList (by simpa using hfit)
      simp only [Array.toArray_toList, Array.length_toList] at this
      rw [this, hnew]
    rw [setCells_row (w := w) (t := t) _ _ _ _ hg, hl]; exact h

set_option maxRecDepth 100000 in
set_option maxHeartbeats 4000000 in
theorem table_raw (N B n : Nat) (t : St) (w : World) (h : RdAt N w B t) :
    Calls Tryz.prog 136 #[.pointer (some ⟨B, 0, none⟩)] w fun e w' => e = .returned (.agg #[.string (strU (tableP t).1.table), .string (strU (tableP t).1.aka), .int .u8 0, .int .u8 0, .string ⟨#[]⟩, .string ⟨#[]⟩, .int .u8 0, .int .i64 0, .string ⟨#[]⟩, .bool false, .slice none 0 0]) ∧ RdAt N w' B (tableP t).2 ∧ Turn (· = B) w w' := by
  have F0 := Lib.hid (Fz.start 138 #[.string ⟨#[]⟩, .string ⟨#[]⟩, .int .u8 0, .int .u8 0, .string ⟨#[]⟩, .string ⟨#[]⟩, .int .u8 0, .int .i64 0, .string ⟨#[]⟩, .bool false, .slice none 0 0] h)
  have hN := name_tr N B t _ F0.out.rd
  unfold tableP
  obtain ⟨nm, hnm⟩ : ∃ nm, (nameP t).1 = nm := ⟨_, rfl⟩
  obtain ⟨t1, ht1⟩ : ∃ t1, (nameP t).2 = t1 := ⟨_, rfl⟩
  rw [hnm, ht1] at hN ⊢
  obtain ⟨al, hal⟩ : ∃ al, (aliasP t1).1 = al := ⟨_, rfl⟩
  have hL := fun w h => alias_tr N B t1 w h
  rw [hal] at hL ⊢
  dsimp only
  clear h hnm ht1 hal
  go_enter Tryz.func136, Tryz.ntmps136
  go_wp2_with fail
  refine hN.mono ?_
  rintro e w1 ⟨rfl, hr, hq⟩
  have F1 := Lib.hid (F0.out.call hr hq)
  clear hr hq hN
  go_wp2_with fail
  refine (hL w1 F1.out.rd).mono ?_
  rintro e w2 ⟨rfl, hr, hq⟩
  have F2 := Lib.hid (F1.out.call hr hq)
  clear hr hq hL
  go_wp2_with (refine wpList_store_row rfl 138 _ _ rfl w.heap.size #[.string (strU nm), .string (strU al), .int .u8 0, .int .u8 0, .string ⟨#[]⟩, .string ⟨#[]⟩, .int .u8 0, .int .i64 0, .string ⟨#[]⟩, .bool false, .slice none 0 0] rfl rfl _ _ F2.out.res (by kernel_rfl) rfl (by simp [Value.oneCell']) ?_)
  refine bodyPost_ret (results_cell_row Tryz.results136 _ _ w.heap.size 138 #[.string (strU nm), .string (strU al), .int .u8 0, .int .u8 0, .string ⟨#[]⟩, .string ⟨#[]⟩, .int .u8 0, .int .i64 0, .string ⟨#[]⟩, .bool false, .slice none 0 0] (0, 0) _ rfl (setRow_heap _ _ _ _ _ _ F2.out.res) Tryz.underlying138 rfl (by kernel_rfl)) rfl ?_
  exact ⟨rfl, (F2.out.end_ _).1, (F2.out.end_ _).2⟩
theorem itemP_le {self : St → Ex × St} (h : Le self) : Le (itemP self) := fun t => Nat.le_trans (aliasP_le _) (h t)
theorem tableP_le : Le tableP := fun t => Nat.le_trans (aliasP_le _) (nameP_le t)
set_option maxRecDepth 100000 in
set_option maxHeartbeats 4000000 in
theorem items_tr (N B n : Nat) (hn : n ≤ 900000) (self : St → Ex × St) (hself : ReadsX N B n 35 self) (hle : Le self) (t : St) (w : World) (h : RdAt N w B t) (ht : t.rest.length ≤ n) :
    Calls Tryz.prog 95 #[.pointer (some ⟨B, 0, none⟩)] w (GivesL itemE N B (itemsP self t) w) := by
  have hmf : ∀ (fn : Fn) (first cap : Array Value) (w : World), (Instr.makeFunc fn first cap).run Tryz.prog w = .ok (.func fn first cap) w := fun _ _ _ _ => rfl
  unfold itemsP
  cases hb : t.has wStar with
  | true =>
    rw [if_pos rfl]
    go_enter Tryz.func95, Tryz.ntmps95
    go_wp2_with fail
    refine (take_yes N B t ⟨#[42]⟩ w h hb (by decide)).mono ?_
    rintro e w1 ⟨rfl, hr, hq⟩
    have H := Lib.hid (And.intro hr hq)
    clear hr hq h hb
    go_wp2_with fail
    go_ret
    refine ⟨_, rfl, .inr ⟨w1.heap.size, 1, [exCells noA nS ++ [.string (strU []), .bool true]], rfl, Nat.le_refl _, by omega, H.out.2.size, by simp, ⟨⟨_, rfl, REs.nil _ _⟩, trivial⟩, fun j u hu => ?_⟩, H.out.1.kept (below_alloc _ _), H.out.2.then_below (below_alloc _ _)⟩
    have hX : (w1.alloc (.cells #[.int .u8 0, .int .u8 0, .string ⟨#[]⟩, .string ⟨#[]⟩, .int .u8 0, .int .i64 0, .string ⟨#[]⟩, .bool false, .slice none 0 0, .string ⟨#[]⟩, .bool true] 49)).heap[w1.heap.size]? = _ := heap_alloc_new w1 _
    refine (bk_cell hX j).trans ?_
    rw [← Array.getElem?_toList]
    exact hu
  | false =>
    rw [if_neg (by simp)]
    have hC := fun w h => listItem_tr N B n 135 hn (fun _ _ => by kernel_rfl) (itemP self) (item_tr N B n self hself hle) (itemP_le hle) t w h ht
    obtain ⟨r, hr⟩ : ∃ r, listP (itemP self) t = r := ⟨_, rfl⟩
    rw [hr] at hC ⊢
    clear hr
    go_enter Tryz.func95, Tryz.ntmps95
    go_wp2_with fail
    refine (take_no N B t ⟨#[42]⟩ w h hb).mono ?_
    rintro e w1 ⟨rfl, hr, hbl⟩
    have H := Lib.hid (And.intro hr hbl)
    clear hr hbl h hb
    go_wp2_with fail
    refine (hC w1 H.out.1).mono ?_
    rintro e w2 ⟨v, rfl, hrow, hr, hq⟩
    obtain ⟨av, cv, hv, _⟩ := hrow.slice
    subst hv
    have H2 := Lib.hid (And.intro (hrow.mono (Q := (w.heap.size ≤ ·)) (fun k hk _ => Nat.le_trans H.out.2.size hk)) (And.intro hr (Turn.below_then H.out.2 hq)))
    clear hrow hr hq hC
    go_wp2_with fail
    go_ret
    exact ⟨_, rfl, H2.out.1, H2.out.2.1, H2.out.2.2⟩
end
section
open Go.RowKit Go.Shelf
set_option linter.unusedVariables false

theorem Tryz.infoLFrom : (Tryz.prog.info? fromE.T).map (fun i => (i.zero, i.size, i.bytes)) = some (some (.agg #[.string ⟨#[]⟩, .string ⟨#[]⟩, .int .u8 0, .int .u8 0, .string ⟨#[]⟩, .string ⟨#[]⟩, .int .u8 0, .int .i64 0, .string ⟨#[]⟩, .bool false, .slice none 0 0]), fromE.sz, 136) := by kernel_rfl
theorem tablesL_zero (self : Self) (k : Nat) (l : List FromM) (t : St) (h : t.has wJoin = false) : tablesL self k l t = (l, t) := by
  cases k with
  | zero => rfl
  | succ k => unfold tablesL; rw [if_neg (by rw [h]; simp)]
theorem joinP_le {self : Self} (h : Le self) : Le (joinP self) := fun t => Nat.le_trans (h _) (Nat.le_trans (St.need_le _ _) (tableP_le t))
theorem tablesL_le {self : Self} (h : Le self) : ∀ (k : Nat) (l : List FromM) (t : St), (tablesL self k l t).2.rest.length ≤ t.rest.length
  | 0, l, t => Nat.le_refl _
  | k + 1, l, t => by
    unfold tablesL; split
    · exact Nat.le_trans (tablesL_le h k _ _) (Nat.le_trans (joinP_le h _) t.step_le)
    · exact Nat.le_refl _
theorem tablesP_le {self : Self} (h : Le self) : Le (tablesP self) := fun t => Nat.le_trans (tablesL_le h _ _ _) (tableP_le t)
set_option maxRecDepth 100000 in
set_option maxHeartbeats 8000000 in
theorem tables_tr (N B n : Nat) (hn : n ≤ 900000) (self : St → Ex × St) (hself : ReadsX N B n 35 self) (hle : Le self) (t : St) (w : World) (h : RdAt N w B t) (ht : t.rest.length ≤ n) :
    Calls Tryz.prog 96 #[.pointer (some ⟨B, 0, none⟩)] w (GivesL fromE N B (tablesP self t) w) := by
  have hC0 := table_raw N B n t w h
  obtain ⟨r, hr⟩ : ∃ r, tablesP self t = r := ⟨_, rfl⟩
  obtain ⟨x1, hx1⟩ : ∃ x, (tableP t).1 = x := ⟨_, rfl⟩
  obtain ⟨t1, ht1'⟩ : ∃ t', (tableP t).2 = t' := ⟨_, rfl⟩
  have hon : x1.on = noE := by rw [← hx1]; rfl
  rw [hx1, ht1'] at hC0
  have HRES1 : Hid (tablesL self t1.rest.length [x1] t1 = r) := Lib.hid (by show _ = _; rw [← hr]; unfold tablesP; rw [hx1, ht1'])
  have HL1 : Hid (t1.rest.length ≤ n ∧ 1 + t1.rest.length ≤ n + 1) := Lib.hid (by have := tableP_le t; rw [ht1'] at this; constructor <;> omega)
  have HB := Lib.hid (And.intro h.lt h.le)
  rw [hr]
  clear hr h ht hx1 ht1'
  go_enter Tryz.func96, Tryz.ntmps96
  go_wp2_with fail
  refine hC0.mono ?_
  rintro e w1 ⟨rfl, hr1, ht1⟩
  obtain ⟨cs, hcs⟩ : ∃ cs, cs = [Value.string (strU x1.table), Value.string (strU x1.aka)] ++ exCells noA nS := ⟨_, rfl⟩
  have his : fromE.is (w.heap.size ≤ ·) w1 cs x1 := ⟨.slice none 0 0, by rw [hcs, hon]; rfl, by rw [hon]; exact REs.nil _ _⟩
  have hV : (Value.agg #[.string (strU x1.table), .string (strU x1.aka), .int .u8 0, .int .u8 0, .string ⟨#[]⟩, .string ⟨#[]⟩, .int .u8 0, .int .i64 0, .string ⟨#[]⟩, .bool false, .slice none 0 0]).cells = cs.toArray := by rw [hcs]; rfl
  have hcl := fromE.len his
  have hown : OwnL fromE w.heap.size (w1.alloc (.cells cs.toArray fromE.T)) (.slice (some ⟨w1.heap.size, 0, none⟩) 1 1) [cs] [x1] := OwnL.start his ht1.size (by simp [fromE.len his])
  have HR2 := Lib.hid (And.intro (hr1.kept (below_alloc w1 (.cells cs.toArray fromE.T))) (ht1.then_below (below_alloc w1 (.cells cs.toArray fromE.T))))
  have HO2 := Lib.hid hown
  clear hr1 ht1 hC0 hown hcs his hon
  obtain ⟨w2, hw2⟩ : ∃ w2, w2 = w1.alloc (.cells cs.toArray fromE.T) := ⟨_, rfl⟩
  rw [← hw2] at HR2 HO2
  obtain ⟨g1, hg1⟩ : ∃ g, g = w1.heap.size := ⟨_, rfl⟩
  rw [← hg1] at HO2
  go_wp2_with (refine wpList_one_slice fromE Tryz.underlying28 Tryz.infoLFrom rfl (by decide) hV hcl rfl _ rfl rfl ?_)
  rw [← hw2, ← hg1]
  clear hw2 hg1
  go_loopw [3] (fun v wr => ∃ (k : Nat) (tc : St) (l : List FromM) (css : List (List Value)), Hid (tablesL self k l tc = r) ∧ Hid (tc.rest.length ≤ k ∧ tc.rest.length ≤ n ∧ l.length + tc.rest.length ≤ n + 1) ∧ Hid (OwnL fromE w.heap.size wr v css l) ∧ Hid (RdAt N wr B tc ∧ Turn (· = B) w wr)) (fun _ wr => restLen wr B)
  case atStart => exact ⟨_, t1, [x1], [cs], HRES1, Lib.hid ⟨Nat.le_refl _, HL1.out.1, HL1.out.2⟩, HO2, HR2⟩
  case round =>
    obtain ⟨k, tc, l, css, HRES, HK, HO, HR⟩ := hrel
    obtain ⟨av, nv, cv, rfl⟩ := HO.out.slice'
    clear HRES1 HL1 HO2 HR2
    cases hb : tc.has wJoin with
    | false =>
      have HEND := Lib.hid ((tablesL_zero self k l tc hb).symm.trans HRES.out)
      have hT := take_no N B tc ⟨#[106, 111, 105, 110]⟩ _ HR.out.1 hb
      clear hb
      go_wp2_with (go_at_call 54; refine hT.mono ?_; rintro e w3 ⟨rfl, hr, hbl⟩; have HR3 := Lib.hid (And.intro hr (HR.out.2.then_below hbl)); have HO3 := Lib.hid (HO.out.turn (Turn.of_below (S := (· = B)) hbl) (fun k hk e => by have := HB.out.1; omega)); clear hr hbl)
      go_ret
      rw [← HEND.out]
      exact ⟨_, rfl, RowOf.of_own HO3.out, HR3.out.1, HR3.out.2⟩
    | true =>
      have HLT := Lib.hid (St.has_lt hb (by decide)).1
      obtain ⟨k2, hk2⟩ : ∃ k2, k = k2 + 1 := ⟨k - 1, by have := HLT.out; have := HK.out.1; omega⟩
      subst hk2
      have hmore : tablesL self (k2 + 1) l tc = tablesL self k2 (l ++ [(joinP self tc.step).1]) (joinP self tc.step).2 := by conv => lhs; unfold tablesL; rw [if_pos hb]
      unfold joinP at hmore
      obtain ⟨p, hp⟩ : ∃ x, (tableP tc.step).1 = x := ⟨_, rfl⟩
      obtain ⟨tp, htp⟩ : ∃ t', (tableP tc.step).2 = t' := ⟨_, rfl⟩
      have hCT := fun w h => table_raw N B n tc.step w h
      rw [hp, htp] at hmore hCT
      obtain ⟨x2, hx2⟩ : ∃ x, (self (tp.need wOn)).1 = x := ⟨_, rfl⟩
      obtain ⟨t2, ht2⟩ : ∃ t', (self (tp.need wOn)).2 = t' := ⟨_, rfl⟩
      have HLE : Hid (tp.rest.length ≤ tc.step.rest.length ∧ t2.rest.length ≤ tp.rest.length) := Lib.hid ⟨by have := tableP_le tc.step; rw [htp] at this; exact this, by have := hle (tp.need wOn); rw [ht2] at this; exact Nat.le_trans this (St.need_le _ _)⟩
      have hCX := fun w h => hself (tp.need wOn) w h (by have h1 := St.need_le tp wOn; have h2 := HLE.out.1; have h3 := HLT.out; have h4 := HK.out.2.1; omega)
      unfold GivesX at hCX
      rw [hx2, ht2] at hmore hCX
      have HMORE := Lib.hid (hmore.symm.trans HRES.out)
      have HN : Hid (tc.step.rest.length ≤ n) := Lib.hid (by have := HLT.out; have := HK.out.2.1; show _ ≤ _; omega)
      have HRL := Lib.hid HR.out.1.restLen
      have hT := take_yes N B tc ⟨#[106, 111, 105, 110]⟩ _ HR.out.1 hb (by decide)
      clear hb hmore hp htp hx2 ht2
      go_wp2_with (go_at_call 54; refine hT.mono ?_; rintro e w3 ⟨rfl, hr, hq⟩; have HO3 := Lib.hid (HO.out.turn hq (fun k hk e => by have := HB.out.1; omega)); have HR3 := Lib.hid (And.intro hr (HR.out.2.trans hq)); clear hr hq)
      refine (hCT w3 HR3.out.1).mono ?_
      rintro e w4 ⟨rfl, hr, hq⟩
      have HO4 := Lib.hid (HO3.out.turn hq (fun k hk e => by have := HB.out.1; omega))
      have HR4 := Lib.hid (And.intro hr (HR3.out.2.trans hq))
      clear hr hq hCT
      obtain ⟨w5, hw5⟩ : ∃ w5, w5 = w4.alloc (.cells #[.string (strU p.table), .string (strU p.aka), .int .u8 0, .int .u8 0, .string ⟨#[]⟩, .string ⟨#[]⟩, .int .u8 0, .int .i64 0, .string ⟨#[]⟩, .bool false, .slice none 0 0] 138) := ⟨_, rfl⟩
      have HX5 : Hid (w5.heap[w4.heap.size]? = some (.cells #[.string (strU p.table), .string (strU p.aka), .int .u8 0, .int .u8 0, .string ⟨#[]⟩, .string ⟨#[]⟩, .int .u8 0, .int .i64 0, .string ⟨#[]⟩, .bool false, .slice none 0 0] 138 (0, 0))) := Lib.hid (by rw [hw5]; exact heap_alloc_new _ _)
      have HR5 : Hid (RdAt N w5 B tp ∧ Turn (· = B) w4 w5) := Lib.hid (by rw [hw5]; exact ⟨HR4.out.1.kept (below_alloc _ _), Turn.alloc _ _ _⟩)
      have HXB : Hid (¬ w4.heap.size = B ∧ w.heap.size ≤ w4.heap.size) := Lib.hid ⟨by have := HR4.out.1.lt; omega, HR4.out.2.size⟩
      go_wp2_with (go_at_call 60; rw [← hw5]; refine (need_any N B tp ⟨#[111, 110]⟩ w5 HR5.out.1 (by decide)).mono ?_; rintro e w6 ⟨rfl, hr, hq⟩; have HR6 := Lib.hid (And.intro hr (HR5.out.2.trans hq)); have HX6 := Lib.hid ((hq.block _ (bk_lt HX5.out) HXB.out.1).trans HX5.out); clear hr hq)
      refine (hCX w6 HR6.out.1).mono ?_
      rintro e w7 ⟨ux, rfl, hs, hr, hq⟩
      obtain ⟨ax, nx, cx, hux⟩ := hs.slice
      subst hux
      have HR7 := Lib.hid (And.intro hr (HR6.out.2.trans hq))
      have HX7 := Lib.hid ((hq.block _ (bk_lt HX6.out) HXB.out.1).trans HX6.out)
      have HS7 : Hid (REs (fun k => w4.heap.size < k) w7 (.slice ax nx cx) x2.l) := Lib.hid (hs.mono fun k hk _ => by have := bk_lt HX6.out; have hk' : w6.heap.size ≤ k := hk; omega)
      clear hs hr hq hCX hw5
      have hSet : Turn (· = w4.heap.size) w7 (w7.setRow w4.heap.size #[.string (strU p.table), .string (strU p.aka), .int .u8 (x2.a.kind : Int), .int .u8 (x2.a.op : Int), .string (strU x2.a.table), .string (strU x2.a.name), .int .u8 (x2.a.vk : Int), .int .i64 x2.a.vi, .string (strU x2.a.vs), .bool x2.a.star, .slice ax nx cx]) := Turn.setRow _ _ _ _ rfl
      obtain ⟨w8, hw8⟩ : ∃ w8, w8 = w7.setRow w4.heap.size #[.string (strU p.table), .string (strU p.aka), .int .u8 (x2.a.kind : Int), .int .u8 (x2.a.op : Int), .string (strU x2.a.table), .string (strU x2.a.name), .int .u8 (x2.a.vk : Int), .int .i64 x2.a.vi, .string (strU x2.a.vs), .bool x2.a.star, .slice ax nx cx] := ⟨_, rfl⟩
      rw [← hw8] at hSet
      have HX8 : Hid (w8.heap[w4.heap.size]? = some (.cells #[.string (strU p.table), .string (strU p.aka), .int .u8 (x2.a.kind : Int), .int .u8 (x2.a.op : Int), .string (strU x2.a.table), .string (strU x2.a.name), .int .u8 (x2.a.vk : Int), .int .i64 x2.a.vi, .string (strU x2.a.vs), .bool x2.a.star, .slice ax nx cx] 138 (0, 0))) := Lib.hid (by rw [hw8]; exact setRow_heap _ _ _ _ _ _ HX7.out)
      have ht48 : Turn (· = B) w4 w8 := HR7.out.2.next hSet (fun k hk e => by omega)
      have HO8 := Lib.hid (HO4.out.turn ht48 (fun k hk e => by have := HB.out.1; omega))
      have HR8 : Hid (RdAt N w8 B t2 ∧ Turn (· = B) w w8) := Lib.hid ⟨HR7.out.1.far hSet (fun k hk => by have := HB.out.2; have := HXB.out.2; omega), HR4.out.2.trans ht48⟩
      obtain ⟨cs2, hcs2⟩ : ∃ cs, cs = [Value.string (strU p.table), Value.string (strU p.aka)] ++ exCells x2.a (.slice ax nx cx) := ⟨_, rfl⟩
      have HI8 : Hid (fromE.is (fun k => w.heap.size ≤ k ∧ (Value.slice av nv cv).ownBlock ≠ some k) w8 cs2 ⟨p.table, p.aka, x2⟩) := Lib.hid ⟨.slice ax nx cx, hcs2, (HS7.out.turn hSet (fun k hk e => by omega)).mono fun k hk _ => ⟨by have := HXB.out.2; omega, fun e => by have := (HO4.out.own.lt k e).2; omega⟩⟩
      have hV2 : (Value.agg #[.string (strU p.table), .string (strU p.aka), .int .u8 (x2.a.kind : Int), .int .u8 (x2.a.op : Int), .string (strU x2.a.table), .string (strU x2.a.name), .int .u8 (x2.a.vk : Int), .int .i64 x2.a.vi, .string (strU x2.a.vs), .bool x2.a.star, .slice ax nx cx]).cells = cs2.toArray := by rw [hcs2]; rfl
      have hcl2 := fromE.len HI8.out
      obtain ⟨v9, w9, hrun, hown, hturn⟩ := OwnL.app Tryz.underlying28 Tryz.infoLFrom rfl (by decide) HO8.out HI8.out (by have := HK.out.2.2; omega) (by decide) HR8.out.2.size
      have HO9 := Lib.hid hown
      have HR9 : Hid (RdAt N w9 B t2 ∧ Turn (· = B) w w9) := Lib.hid ⟨HR8.out.1.far hturn (fun k hk => Nat.le_trans HB.out.2 (HO8.out.own.lt k hk).1), HR8.out.2.next hturn (fun k hk e => by have := (HO8.out.own.lt k e).1; omega)⟩
      clear hown hturn hSet ht48 hcs2
      unfold exVal
      go_wp2_with (first
        | (refine wpList_store_field rfl 36 _ _ rfl w4.heap.size 2 (eA x2.a (.slice ax nx cx)) rfl rfl _ _ HX7.out (by kernel_rfl) (by simp [Value.oneCell']) (by simp) #[.string (strU p.table), .string (strU p.aka), .int .u8 (x2.a.kind : Int), .int .u8 (x2.a.op : Int), .string (strU x2.a.table), .string (strU x2.a.name), .int .u8 (x2.a.vk : Int), .int .i64 x2.a.vi, .string (strU x2.a.vs), .bool x2.a.star, .slice ax nx cx] rfl ?_; rw [← hw8]; clear hw8)
        | (refine wpList_load_row rfl 138 _ rfl w4.heap.size rfl _ #[.string (strU p.table), .string (strU p.aka), .int .u8 (x2.a.kind : Int), .int .u8 (x2.a.op : Int), .string (strU x2.a.table), .string (strU x2.a.name), .int .u8 (x2.a.vk : Int), .int .i64 x2.a.vi, .string (strU x2.a.vs), .bool x2.a.star, .slice ax nx cx] (0, 0) _ HX8.out Tryz.underlying138 rfl (by kernel_rfl) ?_)
        | (refine wpList_one_slice fromE Tryz.underlying28 Tryz.infoLFrom rfl (by decide) hV2 hcl2 rfl _ rfl rfl ?_)
        | (at_builtin; refine wpList_append_run0 rfl _ _ _ rfl _ _ v9 w9 rfl rfl hrun ?_))
      go_roundw
      case rel => exact ⟨k2, t2, l ++ [⟨p.table, p.aka, x2⟩], css ++ [cs2], HMORE, Lib.hid ⟨by have := HLE.out; have := HLT.out; have := HK.out.1; omega, by have := HLE.out; have := HN.out; omega, by have := HLE.out; have := HLT.out; have := HK.out.2.2; simp; omega⟩, HO9, HR9⟩
      case measure => rw [HR9.out.1.restLen, HRL.out]; have := HLE.out; have := HLT.out; omega
end
end Go.Proofs.YtenmnpbjnbdeaaaGreatDoor
