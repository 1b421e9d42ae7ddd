/-
  WHAT IS PROVED: what reads a statement.
-/
import Derived.Test.YtenmnpbjnbdeaaaGreatDoorMs
import Derived.Test.YtenmnpbjnbdeaaaGreatDoorMt
namespace Go.Proofs.YtenmnpbjnbdeaaaGreatDoor
section
open Go.RowKit Go.Shelf
set_option linter.unusedVariables false

theorem RowOf.oneC {α : Type} {E : Elt α} {P : Nat → Prop} {w : World} {v : Value} {l : List α} (h : RowOf E P w v l) : v.oneCell' = true := by
  obtain ⟨_, _, rfl, _⟩ := h.slice; rfl
theorem StHeld.one {P : Nat → Prop} {w : World} {x : StM} {c n r i f u g h o : Value} (q : StHeld P w x c n r i f u g h o) : (stArr x c n r i f u g h o).all (·.oneCell') = true := by
  have h1 := q.hc.oneC; have h2 := q.hn.oneC; have h3 := q.hr.oneC; have h4 := q.hi.oneC; have h5 := q.hf.oneC; have h6 := q.hu.one; have h7 := q.hg.oneC; have h8 := q.hh.one; have h9 := q.ho.oneC
  have k1 : ∀ (k : IntKind) (z : Int), (Value.int k z).oneCell' = true := fun _ _ => rfl
  have k2 : ∀ s, (Value.string s).oneCell' = true := fun _ => rfl
  have k3 : ∀ b, (Value.bool b).oneCell' = true := fun _ => rfl
  simp [stArr, h1, h2, h3, h4, h5, h6, h7, h8, h9, k1, k2, k3]
theorem Fz.doneS {N B : Nat} {A : Array Value} {w wi : World} {t : St} {x : StM} {c n r i f u g h o : Value} (z : Fz N B w.heap.size 39 A w wi t) (q : StHeld (w.heap.size < ·) wi x c n r i f u g h o) {A2 : Array Value} (hA : A2 = stArr x c n r i f u g h o) : GivesS N B (x, t) w (.returned (.agg A2)) (wi.setRow w.heap.size A2) := by
  have ht : Turn (· = w.heap.size) wi (wi.setRow w.heap.size A2) := Turn.setRow _ _ _ _ rfl
  refine ⟨c, n, r, i, f, u, g, h, o, by rw [hA], ?_, (z.end_ _).1, (z.end_ _).2⟩
  exact (q.turn ht (fun k hk e => by have hk' : w.heap.size < k := hk; omega)).mono (fun k hk _ => Nat.le_of_lt hk)
theorem StHeld.nothing (P : Nat → Prop) (w : World) (x : StM) (hx : x = {noS with kind := x.kind, name := x.name, table := x.table, limit := x.limit, skip := x.skip}) : StHeld P w x nS nS nS nS nS nS nS nS nS := by
  rw [hx]
  exact ⟨.inl ⟨rfl, rfl⟩, .inl ⟨rfl, rfl⟩, .inl ⟨rfl, rfl⟩, .inl ⟨rfl, rfl⟩, .inl ⟨rfl, rfl⟩, REs.nil _ _, .inl ⟨rfl, rfl⟩, REs.nil _ _, .inl ⟨rfl, rfl⟩⟩
set_option maxRecDepth 100000 in
set_option maxHeartbeats 8000000 in
theorem stmt_0 (N B n : Nat) (hn : n ≤ 900000) (self : St → Ex × St) (hself : ReadsX N B n 35 self) (hle : Le self) (t : St) (w : World) (h : RdAt N w B t) (ht : t.rest.length ≤ n)  (h0 : t.has wSelect = true) (x : StM) (t2 : St) (e : selectP self t.step = (x, t2)) :
    Calls Tryz.prog 30 #[.pointer (some ⟨B, 0, none⟩)] w (GivesS N B (x, t2) w) := by
  have F0 : Hid (Fz N B w.heap.size 39 (s00 0 z0 z0 nS nS nS nS nS nS nS 0 0) w (w.alloc (.cells (s00 0 z0 z0 nS nS nS nS nS nS nS 0 0) 39)) t) := Lib.hid (Fz.start 39 (s00 0 z0 z0 nS nS nS nS nS nS nS 0 0) h)
  have hC := fun w h => select_tr N B n hn self hself hle t.step w h (Nat.le_trans t.step_le ht)
  unfold GivesS at hC; rw [e] at hC; dsimp only at hC
  clear h e
  go_enter Tryz.func30, Tryz.ntmps30
  go_wp2_with fail
  refine (take_yes N B t ⟨#[115, 101, 108, 101, 99, 116]⟩ _ F0.out.rd h0 (by decide)).mono ?_
  rintro e w1 ⟨rfl, hr, hq⟩
  have F1 := Lib.hid (F0.out.call hr hq)
  clear hr hq
  go_wp2_with fail
  refine (hC _ F1.out.rd).mono ?_
  rintro e w2 ⟨c, n', r, i', f', u, g, hh, o, rfl, hs, hr, hq⟩
  have F2 := Lib.hid (F1.out.call hr hq)
  have HS := Lib.hid (hs.mono (Q := (w.heap.size < ·)) fun k hk _ => F1.out.past hk)
  have HO := Lib.hid hs.one
  clear hr hq hs hC
  go_wp2_with (refine wpList_store_row rfl 39 _ _ rfl w.heap.size (stArr x c n' r i' f' u g hh o) rfl rfl _ _ F2.out.res (by kernel_rfl) rfl HO.out ?_)
  refine bodyPost_ret (results_cell_row Tryz.results30 _ _ w.heap.size 39 (stArr x c n' r i' f' u g hh o) (0, 0) _ rfl (setRow_heap _ _ _ _ _ _ F2.out.res) Tryz.underlying39 rfl (by kernel_rfl)) rfl ?_
  exact F2.out.doneS HS.out rfl
set_option maxRecDepth 100000 in
set_option maxHeartbeats 8000000 in
theorem stmt_1 (N B n : Nat) (hn : n ≤ 900000) (self : St → Ex × St) (hself : ReadsX N B n 35 self) (hle : Le self) (t : St) (w : World) (h : RdAt N w B t) (ht : t.rest.length ≤ n) (h0 : t.has wSelect = false) (h1 : t.has wInsert = true) (x : StM) (t2 : St) (e : insertP self t.step = (x, t2)) :
    Calls Tryz.prog 30 #[.pointer (some ⟨B, 0, none⟩)] w (GivesS N B (x, t2) w) := by
  have F0 : Hid (Fz N B w.heap.size 39 (s00 0 z0 z0 nS nS nS nS nS nS nS 0 0) w (w.alloc (.cells (s00 0 z0 z0 nS nS nS nS nS nS nS 0 0) 39)) t) := Lib.hid (Fz.start 39 (s00 0 z0 z0 nS nS nS nS nS nS nS 0 0) h)
  have hC := fun w h => insert_tr N B n hn self hself hle t.step w h (Nat.le_trans t.step_le ht)
  unfold GivesS at hC; rw [e] at hC; dsimp only at hC
  clear h e
  go_enter Tryz.func30, Tryz.ntmps30
  go_wp2_with fail
  refine (take_no N B t ⟨#[115, 101, 108, 101, 99, 116]⟩ _ F0.out.rd h0).mono ?_
  rintro e w1 ⟨rfl, hr, hb⟩
  have F1 := Lib.hid (F0.out.new hb)
  clear hr hb
  go_wp2_with fail
  refine (take_yes N B t ⟨#[105, 110, 115, 101, 114, 116]⟩ _ F1.out.rd h1 (by decide)).mono ?_
  rintro e w2 ⟨rfl, hr, hq⟩
  have F2 := Lib.hid (F1.out.call hr hq)
  clear hr hq
  go_wp2_with fail
  refine (hC _ F2.out.rd).mono ?_
  rintro e w3 ⟨c, n', r, i', f', u, g, hh, o, rfl, hs, hr, hq⟩
  have F3 := Lib.hid (F2.out.call hr hq)
  have HS := Lib.hid (hs.mono (Q := (w.heap.size < ·)) fun k hk _ => F2.out.past hk)
  have HO := Lib.hid hs.one
  clear hr hq hs hC
  go_wp2_with (refine wpList_store_row rfl 39 _ _ rfl w.heap.size (stArr x c n' r i' f' u g hh o) rfl rfl _ _ F3.out.res (by kernel_rfl) rfl HO.out ?_)
  refine bodyPost_ret (results_cell_row Tryz.results30 _ _ w.heap.size 39 (stArr x c n' r i' f' u g hh o) (0, 0) _ rfl (setRow_heap _ _ _ _ _ _ F3.out.res) Tryz.underlying39 rfl (by kernel_rfl)) rfl ?_
  exact F3.out.doneS HS.out rfl
set_option maxRecDepth 100000 in
set_option maxHeartbeats 8000000 in
theorem stmt_2 (N B n : Nat) (hn : n ≤ 900000) (self : St → Ex × St) (hself : ReadsX N B n 35 self) (hle : Le self) (t : St) (w : World) (h : RdAt N w B t) (ht : t.rest.length ≤ n) (h0 : t.has wSelect = false) (h1 : t.has wInsert = false) (h2 : t.has wUpdate = true) (x : StM) (t2 : St) (e : updateP self t.step = (x, t2)) :
    Calls Tryz.prog 30 #[.pointer (some ⟨B, 0, none⟩)] w (GivesS N B (x, t2) w) := by
  have F0 : Hid (Fz N B w.heap.size 39 (s00 0 z0 z0 nS nS nS nS nS nS nS 0 0) w (w.alloc (.cells (s00 0 z0 z0 nS nS nS nS nS nS nS 0 0) 39)) t) := Lib.hid (Fz.start 39 (s00 0 z0 z0 nS nS nS nS nS nS nS 0 0) h)
  have hC := fun w h => update_tr N B n hn self hself hle t.step w h (Nat.le_trans t.step_le ht)
  unfold GivesS at hC; rw [e] at hC; dsimp only at hC
  clear h e
  go_enter Tryz.func30, Tryz.ntmps30
  go_wp2_with fail
  refine (take_no N B t ⟨#[115, 101, 108, 101, 99, 116]⟩ _ F0.out.rd h0).mono ?_
  rintro e w1 ⟨rfl, hr, hb⟩
  have F1 := Lib.hid (F0.out.new hb)
  clear hr hb
  go_wp2_with fail
  refine (take_no N B t ⟨#[105, 110, 115, 101, 114, 116]⟩ _ F1.out.rd h1).mono ?_
  rintro e w2 ⟨rfl, hr, hb⟩
  have F2 := Lib.hid (F1.out.new hb)
  clear hr hb
  go_wp2_with fail
  refine (take_yes N B t ⟨#[117, 112, 100, 97, 116, 101]⟩ _ F2.out.rd h2 (by decide)).mono ?_
  rintro e w3 ⟨rfl, hr, hq⟩
  have F3 := Lib.hid (F2.out.call hr hq)
  clear hr hq
  go_wp2_with fail
  refine (hC _ F3.out.rd).mono ?_
  rintro e w4 ⟨c, n', r, i', f', u, g, hh, o, rfl, hs, hr, hq⟩
  have F4 := Lib.hid (F3.out.call hr hq)
  have HS := Lib.hid (hs.mono (Q := (w.heap.size < ·)) fun k hk _ => F3.out.past hk)
  have HO := Lib.hid hs.one
  clear hr hq hs hC
  go_wp2_with (refine wpList_store_row rfl 39 _ _ rfl w.heap.size (stArr x c n' r i' f' u g hh o) rfl rfl _ _ F4.out.res (by kernel_rfl) rfl HO.out ?_)
  refine bodyPost_ret (results_cell_row Tryz.results30 _ _ w.heap.size 39 (stArr x c n' r i' f' u g hh o) (0, 0) _ rfl (setRow_heap _ _ _ _ _ _ F4.out.res) Tryz.underlying39 rfl (by kernel_rfl)) rfl ?_
  exact F4.out.doneS HS.out rfl
set_option maxRecDepth 100000 in
set_option maxHeartbeats 8000000 in
theorem stmt_3 (N B n : Nat) (hn : n ≤ 900000) (self : St → Ex × St) (hself : ReadsX N B n 35 self) (hle : Le self) (t : St) (w : World) (h : RdAt N w B t) (ht : t.rest.length ≤ n) (h0 : t.has wSelect = false) (h1 : t.has wInsert = false) (h2 : t.has wUpdate = false) (h3 : t.has wDelete = true) (x : StM) (t2 : St) (e : removeP self t.step = (x, t2)) :
    Calls Tryz.prog 30 #[.pointer (some ⟨B, 0, none⟩)] w (GivesS N B (x, t2) w) := by
  have F0 : Hid (Fz N B w.heap.size 39 (s00 0 z0 z0 nS nS nS nS nS nS nS 0 0) w (w.alloc (.cells (s00 0 z0 z0 nS nS nS nS nS nS nS 0 0) 39)) t) := Lib.hid (Fz.start 39 (s00 0 z0 z0 nS nS nS nS nS nS nS 0 0) h)
  have hC := fun w h => remove_tr N B n self hself hle t.step w h (Nat.le_trans t.step_le ht)
  unfold GivesS at hC; rw [e] at hC; dsimp only at hC
  clear h e
  go_enter Tryz.func30, Tryz.ntmps30
  go_wp2_with fail
  refine (take_no N B t ⟨#[115, 101, 108, 101, 99, 116]⟩ _ F0.out.rd h0).mono ?_
  rintro e w1 ⟨rfl, hr, hb⟩
  have F1 := Lib.hid (F0.out.new hb)
  clear hr hb
  go_wp2_with fail
  refine (take_no N B t ⟨#[105, 110, 115, 101, 114, 116]⟩ _ F1.out.rd h1).mono ?_
  rintro e w2 ⟨rfl, hr, hb⟩
  have F2 := Lib.hid (F1.out.new hb)
  clear hr hb
  go_wp2_with fail
  refine (take_no N B t ⟨#[117, 112, 100, 97, 116, 101]⟩ _ F2.out.rd h2).mono ?_
  rintro e w3 ⟨rfl, hr, hb⟩
  have F3 := Lib.hid (F2.out.new hb)
  clear hr hb
  go_wp2_with fail
  refine (take_yes N B t ⟨#[100, 101, 108, 101, 116, 101]⟩ _ F3.out.rd h3 (by decide)).mono ?_
  rintro e w4 ⟨rfl, hr, hq⟩
  have F4 := Lib.hid (F3.out.call hr hq)
  clear hr hq
  go_wp2_with fail
  refine (hC _ F4.out.rd).mono ?_
  rintro e w5 ⟨c, n', r, i', f', u, g, hh, o, rfl, hs, hr, hq⟩
  have F5 := Lib.hid (F4.out.call hr hq)
  have HS := Lib.hid (hs.mono (Q := (w.heap.size < ·)) fun k hk _ => F4.out.past hk)
  have HO := Lib.hid hs.one
  clear hr hq hs hC
  go_wp2_with (refine wpList_store_row rfl 39 _ _ rfl w.heap.size (stArr x c n' r i' f' u g hh o) rfl rfl _ _ F5.out.res (by kernel_rfl) rfl HO.out ?_)
  refine bodyPost_ret (results_cell_row Tryz.results30 _ _ w.heap.size 39 (stArr x c n' r i' f' u g hh o) (0, 0) _ rfl (setRow_heap _ _ _ _ _ _ F5.out.res) Tryz.underlying39 rfl (by kernel_rfl)) rfl ?_
  exact F5.out.doneS HS.out rfl
set_option maxRecDepth 100000 in
set_option maxHeartbeats 8000000 in
theorem stmt_4 (N B n : Nat) (hn : n ≤ 900000) (self : St → Ex × St) (hself : ReadsX N B n 35 self) (hle : Le self) (t : St) (w : World) (h : RdAt N w B t) (ht : t.rest.length ≤ n) (h0 : t.has wSelect = false) (h1 : t.has wInsert = false) (h2 : t.has wUpdate = false) (h3 : t.has wDelete = false) (h4 : t.has wCreate = true) (x : StM) (t2 : St) (e : createP t.step = (x, t2)) :
    Calls Tryz.prog 30 #[.pointer (some ⟨B, 0, none⟩)] w (GivesS N B (x, t2) w) := by
  have F0 : Hid (Fz N B w.heap.size 39 (s00 0 z0 z0 nS nS nS nS nS nS nS 0 0) w (w.alloc (.cells (s00 0 z0 z0 nS nS nS nS nS nS nS 0 0) 39)) t) := Lib.hid (Fz.start 39 (s00 0 z0 z0 nS nS nS nS nS nS nS 0 0) h)
  have hC := fun w h => create_tr N B n hn t.step w h (Nat.le_trans t.step_le ht)
  unfold GivesS at hC; rw [e] at hC; dsimp only at hC
  clear h e
  go_enter Tryz.func30, Tryz.ntmps30
  go_wp2_with fail
  refine (take_no N B t ⟨#[115, 101, 108, 101, 99, 116]⟩ _ F0.out.rd h0).mono ?_
  rintro e w1 ⟨rfl, hr, hb⟩
  have F1 := Lib.hid (F0.out.new hb)
  clear hr hb
  go_wp2_with fail
  refine (take_no N B t ⟨#[105, 110, 115, 101, 114, 116]⟩ _ F1.out.rd h1).mono ?_
  rintro e w2 ⟨rfl, hr, hb⟩
  have F2 := Lib.hid (F1.out.new hb)
  clear hr hb
  go_wp2_with fail
  refine (take_no N B t ⟨#[117, 112, 100, 97, 116, 101]⟩ _ F2.out.rd h2).mono ?_
  rintro e w3 ⟨rfl, hr, hb⟩
  have F3 := Lib.hid (F2.out.new hb)
  clear hr hb
  go_wp2_with fail
  refine (take_no N B t ⟨#[100, 101, 108, 101, 116, 101]⟩ _ F3.out.rd h3).mono ?_
  rintro e w4 ⟨rfl, hr, hb⟩
  have F4 := Lib.hid (F3.out.new hb)
  clear hr hb
  go_wp2_with fail
  refine (take_yes N B t ⟨#[99, 114, 101, 97, 116, 101]⟩ _ F4.out.rd h4 (by decide)).mono ?_
  rintro e w5 ⟨rfl, hr, hq⟩
  have F5 := Lib.hid (F4.out.call hr hq)
  clear hr hq
  go_wp2_with fail
  refine (hC _ F5.out.rd).mono ?_
  rintro e w6 ⟨c, n', r, i', f', u, g, hh, o, rfl, hs, hr, hq⟩
  have F6 := Lib.hid (F5.out.call hr hq)
  have HS := Lib.hid (hs.mono (Q := (w.heap.size < ·)) fun k hk _ => F5.out.past hk)
  have HO := Lib.hid hs.one
  clear hr hq hs hC
  go_wp2_with (refine wpList_store_row rfl 39 _ _ rfl w.heap.size (stArr x c n' r i' f' u g hh o) rfl rfl _ _ F6.out.res (by kernel_rfl) rfl HO.out ?_)
  refine bodyPost_ret (results_cell_row Tryz.results30 _ _ w.heap.size 39 (stArr x c n' r i' f' u g hh o) (0, 0) _ rfl (setRow_heap _ _ _ _ _ _ F6.out.res) Tryz.underlying39 rfl (by kernel_rfl)) rfl ?_
  exact F6.out.doneS HS.out rfl
set_option maxRecDepth 100000 in
set_option maxHeartbeats 8000000 in
theorem stmt_5 (N B n : Nat) (hn : n ≤ 900000) (self : St → Ex × St) (hself : ReadsX N B n 35 self) (hle : Le self) (t : St) (w : World) (h : RdAt N w B t) (ht : t.rest.length ≤ n) (h0 : t.has wSelect = false) (h1 : t.has wInsert = false) (h2 : t.has wUpdate = false) (h3 : t.has wDelete = false) (h4 : t.has wCreate = false) (h5 : t.has wDrop = true) (nm : List UInt8) (t2 : St) (e : nameP (t.step.need wTable) = (nm, t2)) :
    Calls Tryz.prog 30 #[.pointer (some ⟨B, 0, none⟩)] w (GivesS N B (⟨2, [], nm, [], [], [], [], [], noE, [], noE, [], 0, 0⟩, t2) w) := by
  have F0 : Hid (Fz N B w.heap.size 39 (s00 0 z0 z0 nS nS nS nS nS nS nS 0 0) w (w.alloc (.cells (s00 0 z0 z0 nS nS nS nS nS nS nS 0 0) 39)) t) := Lib.hid (Fz.start 39 (s00 0 z0 z0 nS nS nS nS nS nS nS 0 0) h)
  have hN := fun w h => name_tr N B (t.step.need wTable) w h
  rw [e] at hN; dsimp only at hN
  clear h e
  go_enter Tryz.func30, Tryz.ntmps30
  go_wp2_with fail
  refine (take_no N B t ⟨#[115, 101, 108, 101, 99, 116]⟩ _ F0.out.rd h0).mono ?_
  rintro e w1 ⟨rfl, hr, hb⟩
  have F1 := Lib.hid (F0.out.new hb)
  clear hr hb
  go_wp2_with fail
  refine (take_no N B t ⟨#[105, 110, 115, 101, 114, 116]⟩ _ F1.out.rd h1).mono ?_
  rintro e w2 ⟨rfl, hr, hb⟩
  have F2 := Lib.hid (F1.out.new hb)
  clear hr hb
  go_wp2_with fail
  refine (take_no N B t ⟨#[117, 112, 100, 97, 116, 101]⟩ _ F2.out.rd h2).mono ?_
  rintro e w3 ⟨rfl, hr, hb⟩
  have F3 := Lib.hid (F2.out.new hb)
  clear hr hb
  go_wp2_with fail
  refine (take_no N B t ⟨#[100, 101, 108, 101, 116, 101]⟩ _ F3.out.rd h3).mono ?_
  rintro e w4 ⟨rfl, hr, hb⟩
  have F4 := Lib.hid (F3.out.new hb)
  clear hr hb
  go_wp2_with fail
  refine (take_no N B t ⟨#[99, 114, 101, 97, 116, 101]⟩ _ F4.out.rd h4).mono ?_
  rintro e w5 ⟨rfl, hr, hb⟩
  have F5 := Lib.hid (F4.out.new hb)
  clear hr hb
  go_wp2_with fail
  refine (take_yes N B t ⟨#[100, 114, 111, 112]⟩ _ F5.out.rd h5 (by decide)).mono ?_
  rintro e w6 ⟨rfl, hr, hq⟩
  have F6 := Lib.hid (F5.out.call hr hq)
  clear hr hq
  go_wp2_with fail
  refine (need_any N B t.step ⟨#[116, 97, 98, 108, 101]⟩ _ F6.out.rd (by decide)).mono ?_
  rintro e w7 ⟨rfl, hr, hq⟩
  have F7 := Lib.hid (F6.out.call hr hq)
  clear hr hq
  go_wp2_with fail
  refine (hN _ F7.out.rd).mono ?_
  rintro e w8 ⟨rfl, hr, hq⟩
  have F8 := Lib.hid (F7.out.call hr hq)
  clear hr hq hN
  go_wp2_with (refine wpList_store_row rfl 39 _ _ rfl w.heap.size (s00 2 z0 ((strU nm)) nS nS nS nS nS nS nS 0 0) rfl rfl _ _ F8.out.res (by kernel_rfl) rfl (by simp [Value.oneCell']) ?_)
  refine bodyPost_ret (results_cell_row Tryz.results30 _ _ w.heap.size 39 (s00 2 z0 ((strU nm)) nS nS nS nS nS nS nS 0 0) (0, 0) _ rfl (setRow_heap _ _ _ _ _ _ F8.out.res) Tryz.underlying39 rfl (by kernel_rfl)) rfl ?_
  exact F8.out.doneS (StHeld.nothing _ _ ⟨2, [], nm, [], [], [], [], [], noE, [], noE, [], 0, 0⟩ rfl) rfl
set_option maxRecDepth 100000 in
set_option maxHeartbeats 8000000 in
theorem stmt_6 (N B n : Nat) (hn : n ≤ 900000) (self : St → Ex × St) (hself : ReadsX N B n 35 self) (hle : Le self) (t : St) (w : World) (h : RdAt N w B t) (ht : t.rest.length ≤ n) (h0 : t.has wSelect = false) (h1 : t.has wInsert = false) (h2 : t.has wUpdate = false) (h3 : t.has wDelete = false) (h4 : t.has wCreate = false) (h5 : t.has wDrop = false) :
    Calls Tryz.prog 30 #[.pointer (some ⟨B, 0, none⟩)] w (GivesS N B (noS, t.bad) w) := by
  have F0 : Hid (Fz N B w.heap.size 39 (s00 0 z0 z0 nS nS nS nS nS nS nS 0 0) w (w.alloc (.cells (s00 0 z0 z0 nS nS nS nS nS nS nS 0 0) 39)) t) := Lib.hid (Fz.start 39 (s00 0 z0 z0 nS nS nS nS nS nS nS 0 0) h)
  clear h
  go_enter Tryz.func30, Tryz.ntmps30
  go_wp2_with fail
  refine (take_no N B t ⟨#[115, 101, 108, 101, 99, 116]⟩ _ F0.out.rd h0).mono ?_
  rintro e w1 ⟨rfl, hr, hb⟩
  have F1 := Lib.hid (F0.out.new hb)
  clear hr hb
  go_wp2_with fail
  refine (take_no N B t ⟨#[105, 110, 115, 101, 114, 116]⟩ _ F1.out.rd h1).mono ?_
  rintro e w2 ⟨rfl, hr, hb⟩
  have F2 := Lib.hid (F1.out.new hb)
  clear hr hb
  go_wp2_with fail
  refine (take_no N B t ⟨#[117, 112, 100, 97, 116, 101]⟩ _ F2.out.rd h2).mono ?_
  rintro e w3 ⟨rfl, hr, hb⟩
  have F3 := Lib.hid (F2.out.new hb)
  clear hr hb
  go_wp2_with fail
  refine (take_no N B t ⟨#[100, 101, 108, 101, 116, 101]⟩ _ F3.out.rd h3).mono ?_
  rintro e w4 ⟨rfl, hr, hb⟩
  have F4 := Lib.hid (F3.out.new hb)
  clear hr hb
  go_wp2_with fail
  refine (take_no N B t ⟨#[99, 114, 101, 97, 116, 101]⟩ _ F4.out.rd h4).mono ?_
  rintro e w5 ⟨rfl, hr, hb⟩
  have F5 := Lib.hid (F4.out.new hb)
  clear hr hb
  go_wp2_with fail
  refine (take_no N B t ⟨#[100, 114, 111, 112]⟩ _ F5.out.rd h5).mono ?_
  rintro e w6 ⟨rfl, hr, hb⟩
  have F6 := Lib.hid (F5.out.new hb)
  clear hr hb
  obtain ⟨e1, e2⟩ := F6.out.rd.cell1
  have F7 := Lib.hid F6.out.bad
  go_wp2_with (refine wpList_store_row rfl 39 _ _ rfl w.heap.size (s00 0 z0 z0 nS nS nS nS nS nS nS 0 0) rfl rfl _ _ F7.out.res (by kernel_rfl) rfl (by simp [Value.oneCell']) ?_)
  refine bodyPost_ret (results_cell_row Tryz.results30 _ _ w.heap.size 39 (s00 0 z0 z0 nS nS nS nS nS nS nS 0 0) (0, 0) _ rfl (setRow_heap _ _ _ _ _ _ F7.out.res) Tryz.underlying39 rfl (by kernel_rfl)) rfl ?_
  exact F7.out.doneS (StHeld.nothing _ _ noS rfl) rfl
theorem statement_tr (N B n : Nat) (hn : n ≤ 900000) (self : St → Ex × St) (hself : ReadsX N B n 35 self) (hle : Le self) (t : St) (w : World) (h : RdAt N w B t) (ht : t.rest.length ≤ n) :
    Calls Tryz.prog 30 #[.pointer (some ⟨B, 0, none⟩)] w (GivesS N B (statementP self t) w) := by
  unfold statementP
  cases h0 : t.has wSelect with
  | true =>
    rw [if_pos rfl]
    obtain ⟨⟨x, t2⟩, e⟩ : ∃ p, selectP self t.step = p := ⟨_, rfl⟩
    rw [e]
    exact stmt_0 N B n hn self hself hle t w h ht h0 x t2 e
  | false =>
    rw [if_neg (by simp)]
    cases h1 : t.has wInsert with
    | true =>
      rw [if_pos rfl]
      obtain ⟨⟨x, t2⟩, e⟩ : ∃ p, insertP self t.step = p := ⟨_, rfl⟩
      rw [e]
      exact stmt_1 N B n hn self hself hle t w h ht h0 h1 x t2 e
    | false =>
      rw [if_neg (by simp)]
      cases h2 : t.has wUpdate with
      | true =>
        rw [if_pos rfl]
        obtain ⟨⟨x, t2⟩, e⟩ : ∃ p, updateP self t.step = p := ⟨_, rfl⟩
        rw [e]
        exact stmt_2 N B n hn self hself hle t w h ht h0 h1 h2 x t2 e
      | false =>
        rw [if_neg (by simp)]
        cases h3 : t.has wDelete with
        | true =>
          rw [if_pos rfl]
          obtain ⟨⟨x, t2⟩, e⟩ : ∃ p, removeP self t.step = p := ⟨_, rfl⟩
          rw [e]
          exact stmt_3 N B n hn self hself hle t w h ht h0 h1 h2 h3 x t2 e
        | false =>
          rw [if_neg (by simp)]
          cases h4 : t.has wCreate with
          | true =>
            rw [if_pos rfl]
            obtain ⟨⟨x, t2⟩, e⟩ : ∃ p, createP t.step = p := ⟨_, rfl⟩
            rw [e]
            exact stmt_4 N B n hn self hself hle t w h ht h0 h1 h2 h3 h4 x t2 e
          | false =>
            rw [if_neg (by simp)]
            cases h5 : t.has wDrop with
            | true =>
              rw [if_pos rfl]
              obtain ⟨⟨nm, t2⟩, e⟩ : ∃ p, nameP (t.step.need wTable) = p := ⟨_, rfl⟩
              have e2 : dropP t.step = (⟨2, [], nm, [], [], [], [], [], noE, [], noE, [], 0, 0⟩, t2) := by unfold dropP; dsimp only; rw [e]
              rw [e2]
              exact stmt_5 N B n hn self hself hle t w h ht h0 h1 h2 h3 h4 h5 nm t2 e
            | false =>
              rw [if_neg (by simp)]
              exact stmt_6 N B n hn self hself hle t w h ht h0 h1 h2 h3 h4 h5
end
end Go.Proofs.YtenmnpbjnbdeaaaGreatDoor
