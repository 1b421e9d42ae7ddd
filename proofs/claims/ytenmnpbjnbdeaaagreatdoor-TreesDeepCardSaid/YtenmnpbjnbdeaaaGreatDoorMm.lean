/-
  WHAT IS PROVED: what reads a column, a call, a part of an expression that is no sum of parts. what reads the least part of an expression. what reads whether something is one of a list; comparisons; expressions.
-/
import Derived.Test.YtenmnpbjnbdeaaaGreatDoorMl
import Derived.Deep.RegionHeld3
namespace Go.Proofs.YtenmnpbjnbdeaaaGreatDoor
section
open Go.RowKit Go.Shelf
set_option linter.unusedVariables false

/-! ### A call -/

set_option maxRecDepth 100000 in
set_option maxHeartbeats 4000000 in
theorem call_none (N B n : Nat) (nm : List UInt8) (t : St) (w : World) (h : RdAt N w B t) (hb : t.has wShut = true) :
    Calls Tryz.prog 194 #[.pointer (some ⟨B, 0, none⟩), .string (strU nm)] w (GivesX N B (callE nm false [], t.step) w) := by
  have F0 := Lib.hid (Fr.start h)
  obtain ⟨w1, hw1⟩ : ∃ w1, w1 = (w.alloc (.cells zeroE 36)).alloc (.cells #[.int .u8 6, .int .u8 0, .string ⟨#[]⟩, .string (strU nm), .int .u8 0, .int .i64 0, .string ⟨#[]⟩, .bool false, .slice none 0 0] 36) := ⟨_, rfl⟩
  have F1 : Hid (Fr N B w.heap.size w w1 t) := Lib.hid (by rw [hw1]; exact F0.out.new (below_alloc _ _))
  have X1 : Hid (ExB w1 (w.heap.size + 1) (callE nm false []).a (.slice none 0 0)) := Lib.hid (by rw [hw1]; exact alloc_at (by simp))
  have HXB : Hid (¬ w.heap.size + 1 = B) := Lib.hid (by have := h.lt; omega)
  clear F0 h
  unfold zeroE at hw1
  go_enter Tryz.func194, Tryz.ntmps194
  go_wp2_with fail
  rw [← hw1]
  refine (take_yes N B t ⟨#[41]⟩ w1 F1.out.rd hb (by decide)).mono ?_
  rintro e w2 ⟨rfl, hr, hq⟩
  have F2 := Lib.hid (F1.out.call hr hq)
  have X2 := Lib.hid (X1.out.turn hq HXB.out)
  clear hr hq
  obtain ⟨d0, d1, d2, d3, d4, d5, d6, d7, d8⟩ := X2.out.cells
  go_wp2_with (first
    | (refine wpList_store_ex rfl _ _ rfl w.heap.size ((callE nm false []).a) (.slice none 0 0) rfl rfl rfl _ F2.out.res rfl ?_))
  refine bodyPost_ret (ex_results (R := w.heap.size) (a := (callE nm false []).a) (u := .slice none 0 0) Tryz.results194 (ExB.set F2.out.res _ _) rfl) rfl ?_
  exact F2.out.done (REs.nil _ _)

set_option maxRecDepth 100000 in
set_option maxHeartbeats 4000000 in
theorem call_star (N B n : Nat) (nm : List UInt8) (t : St) (w : World) (h : RdAt N w B t) (hb : t.has wShut = false) (hb2 : t.has wStar = true) :
    Calls Tryz.prog 194 #[.pointer (some ⟨B, 0, none⟩), .string (strU nm)] w (GivesX N B (callE nm true [], t.step.need wShut) w) := by
  have F0 := Lib.hid (Fr.start h)
  obtain ⟨w1, hw1⟩ : ∃ w1, w1 = (w.alloc (.cells zeroE 36)).alloc (.cells #[.int .u8 6, .int .u8 0, .string ⟨#[]⟩, .string (strU nm), .int .u8 0, .int .i64 0, .string ⟨#[]⟩, .bool false, .slice none 0 0] 36) := ⟨_, rfl⟩
  have F1 : Hid (Fr N B w.heap.size w w1 t) := Lib.hid (by rw [hw1]; exact F0.out.new (below_alloc _ _))
  have X1 : Hid (ExB w1 (w.heap.size + 1) (callE nm false []).a (.slice none 0 0)) := Lib.hid (by rw [hw1]; exact alloc_at (by simp))
  have HXB : Hid (¬ w.heap.size + 1 = B) := Lib.hid (by have := h.lt; omega)
  clear F0 h
  unfold zeroE at hw1
  go_enter Tryz.func194, Tryz.ntmps194
  go_wp2_with fail
  rw [← hw1]
  refine (take_no N B t ⟨#[41]⟩ w1 F1.out.rd hb).mono ?_
  rintro e w2 ⟨rfl, hr, hbl⟩
  have F2 := Lib.hid (F1.out.new hbl)
  have X2 := Lib.hid (X1.out.kept hbl)
  clear hr hbl hw1 F1 X1
  go_wp2_with fail
  refine (take_yes N B t ⟨#[42]⟩ w2 F2.out.rd hb2 (by decide)).mono ?_
  rintro e w3 ⟨rfl, hr, hq⟩
  have F3 := Lib.hid (F2.out.call hr hq)
  have X3 := Lib.hid (X2.out.turn hq HXB.out)
  clear hr hq
  obtain ⟨d0, d1, d2, d3, d4, d5, d6, d7, d8⟩ := X3.out.cells
  obtain ⟨z0, z1, z2, z3, z4, z5, z6, z7, z8⟩ := X3.out.free
  have HS : Hid (w3.setCell ⟨w.heap.size + 1, 7, none⟩ (.bool true) = w3.setRow (w.heap.size + 1) (exArr (callE nm true []).a (.slice none 0 0))) := Lib.hid ((setCell_eq_setRow w3 (w.heap.size + 1) 7 _ _ _ (.bool true) X3.out).trans (congrArg (w3.setRow (w.heap.size + 1)) rfl))
  obtain ⟨w4, hw4⟩ : ∃ w4, w4 = w3.setCell ⟨w.heap.size + 1, 7, none⟩ (.bool true) := ⟨_, rfl⟩
  have F4 : Hid (Fr N B w.heap.size w w4 t.step) := Lib.hid (by rw [hw4, HS.out]; exact F3.out.setRow (by omega) _)
  have X4 : Hid (ExB w4 (w.heap.size + 1) (callE nm true []).a (.slice none 0 0)) := Lib.hid (by rw [hw4, HS.out]; exact ExB.set X3.out _ _)
  obtain ⟨y0, y1, y2, y3, y4, y5, y6, y7, y8⟩ := X4.out.cells
  go_wp2_with (first
    | (go_at_call 60; rw [← hw4]; refine (need_any N B t.step ⟨#[41]⟩ w4 F4.out.rd (by decide)).mono ?_; rintro e w5 ⟨rfl, hr, hq⟩; have F5 := Lib.hid (F4.out.call hr hq); have X5 := Lib.hid (X4.out.turn hq HXB.out); clear hr hq; obtain ⟨x0, x1, x2, x3, x4, x5, x6, x7, x8⟩ := X5.out.cells)
    | (refine wpList_store_ex rfl _ _ rfl w.heap.size ((callE nm true []).a) (.slice none 0 0) rfl rfl rfl _ F5.out.res rfl ?_))
  refine bodyPost_ret (ex_results (R := w.heap.size) (a := (callE nm true []).a) (u := .slice none 0 0) Tryz.results194 (ExB.set F5.out.res _ _) rfl) rfl ?_
  exact F5.out.done (REs.nil _ _)

set_option maxRecDepth 100000 in
set_option maxHeartbeats 4000000 in
theorem call_args (N B n : Nat) (self : St → Ex × St) (hself : SelfX N B n self) (hleS : Le self) (nm : List UInt8) (t : St) (w : World) (h : RdAt N w B t) (ht : t.rest.length < n) (hn : n ≤ 900000) (hb : t.has wShut = false) (hb2 : t.has wStar = false) :
    Calls Tryz.prog 194 #[.pointer (some ⟨B, 0, none⟩), .string (strU nm)] w (GivesX N B (callE nm false (listP self t).1, (listP self t).2.need wShut) w) := by
  have F0 := Lib.hid (Fr.start h)
  have hmf : ∀ (fn : Fn) (first cap : Array Value) (w : World), (Instr.makeFunc fn first cap).run Tryz.prog w = .ok (.func fn first cap) w := fun _ _ _ _ => rfl
  have hL := fun w h => listEx_tr N B t.rest.length 35 (by omega) (fun _ _ => by kernel_rfl) self (hself.reads ht).row hleS t w h (Nat.le_refl _)
  obtain ⟨r, hr⟩ : ∃ r, listP self t = r := ⟨_, rfl⟩
  rw [hr] at hL ⊢
  clear hr
  obtain ⟨w1, hw1⟩ : ∃ w1, w1 = (w.alloc (.cells zeroE 36)).alloc (.cells #[.int .u8 6, .int .u8 0, .string ⟨#[]⟩, .string (strU nm), .int .u8 0, .int .i64 0, .string ⟨#[]⟩, .bool false, .slice none 0 0] 36) := ⟨_, rfl⟩
  have F1 : Hid (Fr N B w.heap.size w w1 t) := Lib.hid (by rw [hw1]; exact F0.out.new (below_alloc _ _))
  have X1 : Hid (ExB w1 (w.heap.size + 1) (callE nm false []).a (.slice none 0 0)) := Lib.hid (by rw [hw1]; exact alloc_at (by simp))
  have HXB : Hid (¬ w.heap.size + 1 = B) := Lib.hid (by have := h.lt; omega)
  clear F0 h
  unfold zeroE at hw1
  go_enter Tryz.func194, Tryz.ntmps194
  go_wp2_with fail
  rw [← hw1]
  refine (take_no N B t ⟨#[41]⟩ w1 F1.out.rd hb).mono ?_
  rintro e w2 ⟨rfl, hr, hbl⟩
  have F2 := Lib.hid (F1.out.new hbl)
  have X2 := Lib.hid (X1.out.kept hbl)
  clear hr hbl hw1 F1 X1
  go_wp2_with fail
  refine (take_no N B t ⟨#[42]⟩ w2 F2.out.rd hb2).mono ?_
  rintro e w3 ⟨rfl, hr, hbl⟩
  have F3 := Lib.hid (F2.out.new hbl)
  have X3 := Lib.hid (X2.out.kept hbl)
  clear hr hbl
  obtain ⟨d0, d1, d2, d3, d4, d5, d6, d7, d8⟩ := X3.out.cells
  obtain ⟨z0, z1, z2, z3, z4, z5, z6, z7, z8⟩ := X3.out.free
  have HS : Hid (w3.setCell ⟨w.heap.size + 1, 7, none⟩ (.bool false) = w3.setRow (w.heap.size + 1) (exArr (callE nm false []).a (.slice none 0 0))) := Lib.hid ((setCell_eq_setRow w3 (w.heap.size + 1) 7 _ _ _ (.bool false) X3.out).trans (congrArg (w3.setRow (w.heap.size + 1)) rfl))
  obtain ⟨w4, hw4⟩ : ∃ w4, w4 = w3.setCell ⟨w.heap.size + 1, 7, none⟩ (.bool false) := ⟨_, rfl⟩
  have F4 : Hid (Fr N B w.heap.size w w4 t) := Lib.hid (by rw [hw4, HS.out]; exact F3.out.setRow (by omega) _)
  have X4 : Hid (ExB w4 (w.heap.size + 1) (callE nm false []).a (.slice none 0 0)) := Lib.hid (by rw [hw4, HS.out]; exact ExB.set X3.out _ _)
  obtain ⟨y0, y1, y2, y3, y4, y5, y6, y7, y8⟩ := X4.out.cells
  go_wp2_with (go_at_call 99; rw [← hw4]; refine (hL w4 F4.out.rd).mono ?_; rintro e w5 ⟨v5, rfl, hrow, hr, hq⟩; obtain ⟨av, cv, hv5, _⟩ := hrow.slice; subst hv5; have F5 := Lib.hid (F4.out.call hr hq); have X5 := Lib.hid (X4.out.turn hq HXB.out); have S5 := Lib.hid ((REs.of_row hrow).mono (Q := fun k => w.heap.size < k ∧ k ≠ w.heap.size + 1) (fun k hk _ => ⟨F4.out.past hk, by have := X4.out.lt; have hk' : w4.heap.size ≤ k := hk; omega⟩)); clear hr hq hrow; obtain ⟨x0, x1, x2, x3, x4, x5, x6, x7, x8⟩ := X5.out.cells; obtain ⟨f0, f1, f2, f3, f4, f5, f6, f7, f8⟩ := X5.out.free; have HS5 : Hid (w5.setCell ⟨w.heap.size + 1, 8, none⟩ (.slice av r.1.length cv) = w5.setRow (w.heap.size + 1) (exArr (callE nm false r.1).a (.slice av r.1.length cv))) := Lib.hid ((setCell_eq_setRow w5 (w.heap.size + 1) 8 _ _ _ (.slice av r.1.length cv) X5.out).trans (congrArg (w5.setRow (w.heap.size + 1)) rfl)))
  obtain ⟨w6, hw6⟩ : ∃ w6, w6 = w5.setCell ⟨w.heap.size + 1, 8, none⟩ (.slice av r.1.length cv) := ⟨_, rfl⟩
  have F6 : Hid (Fr N B w.heap.size w w6 r.2) := Lib.hid (by rw [hw6, HS5.out]; exact F5.out.setRow (by omega) _)
  have X6 : Hid (ExB w6 (w.heap.size + 1) (callE nm false r.1).a (.slice av r.1.length cv)) := Lib.hid (by rw [hw6, HS5.out]; exact ExB.set X5.out _ _)
  have S6 : Hid (REs (w.heap.size < ·) w6 (.slice av r.1.length cv) (Exs.ofL r.1)) := Lib.hid (by
    rw [hw6, HS5.out]
    exact (S5.out.turn (Turn.setRow (· = w.heap.size + 1) _ _ _ rfl) (fun k hk => hk.2)).mono fun k hk _ => hk.1)
  have hN := need_any N B r.2 ⟨#[41]⟩ w6 F6.out.rd (by decide)
  rw [← hw6]
  clear hw6 HS5 F5 X5 S5 x0 x1 x2 x3 x4 x5 x6 x7 x8 f0 f1 f2 f3 f4 f5 f6 f7 f8 y0 y1 y2 y3 y4 y5 y6 y7 y8 d0 d1 d2 d3 d4 d5 d6 d7 d8 z0 z1 z2 z3 z4 z5 z6 z7 z8
  refine hN.mono ?_
  rintro e w7 ⟨rfl, hr, hq⟩
  have F7 := Lib.hid (F6.out.call hr hq)
  have X7 := Lib.hid (X6.out.turn hq HXB.out)
  have S7 := Lib.hid (F6.out.keep S6.out hq)
  clear hr hq hN
  obtain ⟨y0, y1, y2, y3, y4, y5, y6, y7, y8⟩ := X7.out.cells
  go_wp2_with (first
    | (refine wpList_store_ex rfl _ _ rfl w.heap.size ((callE nm false r.1).a) (.slice av r.1.length cv) rfl rfl rfl _ F7.out.res rfl ?_))
  refine bodyPost_ret (ex_results (R := w.heap.size) (a := (callE nm false r.1).a) (u := .slice av r.1.length cv) Tryz.results194 (ExB.set F7.out.res _ _) rfl) rfl ?_
  exact F7.out.done S7.out

theorem call_tr (N B n : Nat) (self : St → Ex × St) (hself : SelfX N B n self) (hleS : Le self) (hn : n ≤ 900000) (nm : List UInt8) (t : St) (w : World) (h : RdAt N w B t) (ht : t.rest.length < n) :
    Calls Tryz.prog 194 #[.pointer (some ⟨B, 0, none⟩), .string (strU nm)] w (GivesX N B (callP self nm t) w) := by
  unfold callP
  cases hb : t.has wShut with
  | true => rw [if_pos rfl]; exact call_none N B n nm t w h hb
  | false =>
    rw [if_neg (by simp)]
    cases hb2 : t.has wStar with
    | true => rw [if_pos rfl]; exact call_star N B n nm t w h hb hb2
    | false => rw [if_neg (by simp)]; exact call_args N B n self hself hleS nm t w h ht hn hb hb2

set_option maxRecDepth 100000 in
set_option maxHeartbeats 4000000 in
theorem named_dot (N B n : Nat) (t : St) (w : World) (h : RdAt N w B t) (hb : (nameP t).2.has wDot = true) :
    Calls Tryz.prog 189 #[.pointer (some ⟨B, 0, none⟩)] w (GivesX N B (colE (nameP t).1 (nameP (nameP t).2.step).1, (nameP (nameP t).2.step).2) w) := by
  have F0 := Lib.hid (Fr.start h)
  have hN := name_tr N B t _ F0.out.rd
  obtain ⟨nm, hnm⟩ : ∃ nm, (nameP t).1 = nm := ⟨_, rfl⟩
  obtain ⟨t1, ht1⟩ : ∃ t1, (nameP t).2 = t1 := ⟨_, rfl⟩
  have HLE : Hid (t1.rest.length ≤ t.rest.length) := Lib.hid (by have := nameP_le t; rw [ht1] at this; exact this)
  rw [ht1] at hb
  rw [hnm, ht1] at hN ⊢
  clear h hnm ht1
  unfold zeroE at hN
  go_enter Tryz.func189, Tryz.ntmps189
  go_wp2_with fail
  refine hN.mono ?_
  rintro e w1 ⟨rfl, hr, hq⟩
  have F1 := Lib.hid (F0.out.call hr hq)
  clear hr hq hN
  go_wp2_with fail
  refine (take_yes N B t1 ⟨#[46]⟩ w1 F1.out.rd hb (by decide)).mono ?_
  rintro e w2 ⟨rfl, hr, hq⟩
  have F2 := Lib.hid (F1.out.call hr hq)
  clear hr hq
  go_wp2_with fail
  refine (name_tr N B t1.step w2 F2.out.rd).mono ?_
  rintro e w3 ⟨rfl, hr, hq⟩
  have F3 := Lib.hid (F2.out.call hr hq)
  clear hr hq
  go_wp2_with (first
    | (refine wpList_store_ex rfl _ _ rfl w.heap.size ((colE nm (nameP t1.step).1).a) (.slice none 0 0) rfl rfl rfl _ F3.out.res rfl ?_))
  refine bodyPost_ret (ex_results (R := w.heap.size) (a := (colE nm (nameP t1.step).1).a) (u := .slice none 0 0) Tryz.results189 (ExB.set F3.out.res _ _) rfl) rfl ?_
  exact F3.out.done (REs.nil _ _)

set_option maxRecDepth 100000 in
set_option maxHeartbeats 4000000 in
theorem named_call (N B n : Nat) (self : St → Ex × St) (hself : SelfX N B n self) (hleS : Le self) (t : St) (w : World) (h : RdAt N w B t) (ht : t.rest.length ≤ n) (hn : n ≤ 900000) (hb : (nameP t).2.has wDot = false) (hb2 : (nameP t).2.has wOpen = true) :
    Calls Tryz.prog 189 #[.pointer (some ⟨B, 0, none⟩)] w (GivesX N B (callP self (nameP t).1 (nameP t).2.step) w) := by
  have F0 := Lib.hid (Fr.start h)
  have hN := name_tr N B t _ F0.out.rd
  obtain ⟨nm, hnm⟩ : ∃ nm, (nameP t).1 = nm := ⟨_, rfl⟩
  obtain ⟨t1, ht1⟩ : ∃ t1, (nameP t).2 = t1 := ⟨_, rfl⟩
  have HLE : Hid (t1.rest.length ≤ t.rest.length) := Lib.hid (by have := nameP_le t; rw [ht1] at this; exact this)
  rw [ht1] at hb hb2
  rw [hnm, ht1] at hN ⊢
  clear h hnm ht1
  unfold zeroE at hN
  go_enter Tryz.func189, Tryz.ntmps189
  go_wp2_with fail
  refine hN.mono ?_
  rintro e w1 ⟨rfl, hr, hq⟩
  have F1 := Lib.hid (F0.out.call hr hq)
  clear hr hq hN
  go_wp2_with fail
  have hlt := (St.has_lt hb2 (by decide)).1
  have hC := fun w h => call_tr N B n self hself hleS hn nm t1.step w h (by have := HLE.out; omega)
  obtain ⟨r, hr⟩ : ∃ r, callP self nm t1.step = r := ⟨_, rfl⟩
  have HRR := Lib.hid hr
  rw [hr] at hC
  clear hlt hr
  refine (take_no N B t1 ⟨#[46]⟩ w1 F1.out.rd hb).mono ?_
  rintro e w2 ⟨rfl, hr, hbl⟩
  have F2 := Lib.hid (F1.out.new hbl)
  clear hr hbl
  go_wp2_with fail
  refine (take_yes N B t1 ⟨#[40]⟩ w2 F2.out.rd hb2 (by decide)).mono ?_
  rintro e w3 ⟨rfl, hr, hq⟩
  have F3 := Lib.hid (F2.out.call hr hq)
  clear hr hq
  go_wp2_with fail
  refine (hC w3 F3.out.rd).mono ?_
  rintro e w4 ⟨u4, rfl, hs, hr, hq⟩
  have F4 := Lib.hid (F3.out.call hr hq)
  have S4 := Lib.hid (F3.out.got hs)
  have o4 := hs.one
  clear hs hr hq hC
  go_wp2_with (first
    | (refine wpList_store_ex rfl _ _ rfl w.heap.size (r.1.a) (u4) rfl rfl o4 _ F4.out.res rfl ?_))
  refine bodyPost_ret (ex_results (R := w.heap.size) (a := r.1.a) (u := u4) Tryz.results189 (ExB.set F4.out.res _ _) rfl) rfl ?_
  rw [HRR.out]
  exact F4.out.done S4.out

set_option maxRecDepth 100000 in
set_option maxHeartbeats 4000000 in
theorem named_col (N B n : Nat) (t : St) (w : World) (h : RdAt N w B t) (hb : (nameP t).2.has wDot = false) (hb2 : (nameP t).2.has wOpen = false) :
    Calls Tryz.prog 189 #[.pointer (some ⟨B, 0, none⟩)] w (GivesX N B (colE [] (nameP t).1, (nameP t).2) w) := by
  have F0 := Lib.hid (Fr.start h)
  have hN := name_tr N B t _ F0.out.rd
  obtain ⟨nm, hnm⟩ : ∃ nm, (nameP t).1 = nm := ⟨_, rfl⟩
  obtain ⟨t1, ht1⟩ : ∃ t1, (nameP t).2 = t1 := ⟨_, rfl⟩
  have HLE : Hid (t1.rest.length ≤ t.rest.length) := Lib.hid (by have := nameP_le t; rw [ht1] at this; exact this)
  rw [ht1] at hb hb2
  rw [hnm, ht1] at hN ⊢
  clear h hnm ht1
  unfold zeroE at hN
  go_enter Tryz.func189, Tryz.ntmps189
  go_wp2_with fail
  refine hN.mono ?_
  rintro e w1 ⟨rfl, hr, hq⟩
  have F1 := Lib.hid (F0.out.call hr hq)
  clear hr hq hN
  go_wp2_with fail
  refine (take_no N B t1 ⟨#[46]⟩ w1 F1.out.rd hb).mono ?_
  rintro e w2 ⟨rfl, hr, hbl⟩
  have F2 := Lib.hid (F1.out.new hbl)
  clear hr hbl
  go_wp2_with fail
  refine (take_no N B t1 ⟨#[40]⟩ w2 F2.out.rd hb2).mono ?_
  rintro e w3 ⟨rfl, hr, hbl⟩
  have F3 := Lib.hid (F2.out.new hbl)
  clear hr hbl
  go_wp2_with (first
    | (refine wpList_store_ex rfl _ _ rfl w.heap.size ((colE [] nm).a) (.slice none 0 0) rfl rfl rfl _ F3.out.res rfl ?_))
  refine bodyPost_ret (ex_results (R := w.heap.size) (a := (colE [] nm).a) (u := .slice none 0 0) Tryz.results189 (ExB.set F3.out.res _ _) rfl) rfl ?_
  exact F3.out.done (REs.nil _ _)

theorem named_tr (N B n : Nat) (self : St → Ex × St) (hself : SelfX N B n self) (hleS : Le self) (hn : n ≤ 900000) : ReadsX N B n 189 (namedP self) := by
  intro t w h ht
  unfold namedP
  cases hb : (nameP t).2.has wDot with
  | true => rw [if_pos rfl]; exact named_dot N B n t w h hb
  | false =>
    rw [if_neg (by simp)]
    cases hb2 : (nameP t).2.has wOpen with
    | true => rw [if_pos rfl]; exact named_call N B n self hself hleS t w h ht hn hb hb2
    | false => rw [if_neg (by simp)]; exact named_col N B n t w h hb hb2
end
section
open Go.RowKit Go.Shelf
set_option linter.unusedVariables false


set_option maxRecDepth 100000 in
set_option maxHeartbeats 4000000 in
theorem prim_int (N B n : Nat) (t : St) (w : World) (h : RdAt N w B t) (hk : t.next.kind = 2) :
    Calls Tryz.prog 184 #[.pointer (some ⟨B, 0, none⟩)] w (GivesX N B (litE 1 (t.next.i : Int) [], t.step) w) := by
  have F0 := Lib.hid (Fr.start h)
  have hN := next_any N B t _ F0.out.rd
  unfold wordV at hN
  have hBW := h.lt
  obtain ⟨s, hs⟩ : ∃ s, t.next.s = s := ⟨_, rfl⟩
  obtain ⟨i, hi⟩ : ∃ i, t.next.i = i := ⟨_, rfl⟩
  obtain ⟨p, hp⟩ : ∃ p, t.next.pos = p := ⟨_, rfl⟩
  have hne := rest_of_kind (t := t) (by omega)
  rw [hk, hs, hi, hp] at hN
  try rw [hi]
  try rw [hs]
  clear hk hs hi hp h
  unfold zeroE at hN
  go_enter Tryz.func184, Tryz.ntmps184
  go_wp2_with fail
  refine hN.mono ?_
  rintro e w1 ⟨rfl, hb1⟩
  have F1 := Lib.hid (F0.out.new hb1)
  obtain ⟨w2, hw2⟩ : ∃ w2, w2 = w1.alloc (.cells #[.int .u8 2, .string (strU s), .int .i64 (i : Int), .int .i64 (p : Int)] 90) := ⟨_, rfl⟩
  have F2 : Hid (Fr N B w.heap.size w w2 t) := Lib.hid (by rw [hw2]; exact F1.out.new (below_alloc _ _))
  have V2 : Hid (Four w2 w1.heap.size 90 (.int .u8 2) (.string (strU s)) (.int .i64 (i : Int)) (.int .i64 (p : Int))) := Lib.hid (by rw [hw2]; exact Four.new _ _ _ _ _ _)
  have HVB : Hid (¬ w1.heap.size = B) := Lib.hid (by have := bk_lt F1.out.res; omega)
  clear hb1 hN F0 F1
  go_wp2_with (first
    | (go_at_call 94; rw [← hw2]; refine (step_any N B t w2 F2.out.rd hne).mono ?_; rintro e w3 ⟨rfl, hr, hq⟩; have F3 := Lib.hid (F2.out.call hr hq); obtain ⟨q0, q1, q2, q3⟩ := V2.out.cells; have p0 := hq.cell q0 HVB.out; have p1 := hq.cell q1 HVB.out; have p2 := hq.cell q2 HVB.out; clear hr hq q0 q1 q2 q3)
    | (go_at_call 188; refine (literal_tr 1 (i : Int) [] w3).mono ?_; rintro e w4 ⟨rfl, hb⟩; have F4 := Lib.hid (F3.out.new hb); clear hb)
    | (refine wpList_store_ex rfl _ _ rfl w.heap.size ((litE 1 (i : Int) []).a) (.slice none 0 0) rfl rfl rfl _ F4.out.res rfl ?_))
  refine bodyPost_ret (ex_results (R := w.heap.size) (a := (litE 1 (i : Int) []).a) (u := .slice none 0 0) Tryz.results184 (ExB.set F4.out.res _ _) rfl) rfl ?_
  exact F4.out.done (REs.nil _ _)

set_option maxRecDepth 100000 in
set_option maxHeartbeats 4000000 in
theorem prim_text (N B n : Nat) (t : St) (w : World) (h : RdAt N w B t) (hk : t.next.kind = 3) :
    Calls Tryz.prog 184 #[.pointer (some ⟨B, 0, none⟩)] w (GivesX N B (litE 2 0 t.next.s, t.step) w) := by
  have F0 := Lib.hid (Fr.start h)
  have hN := next_any N B t _ F0.out.rd
  unfold wordV at hN
  have hBW := h.lt
  obtain ⟨s, hs⟩ : ∃ s, t.next.s = s := ⟨_, rfl⟩
  obtain ⟨i, hi⟩ : ∃ i, t.next.i = i := ⟨_, rfl⟩
  obtain ⟨p, hp⟩ : ∃ p, t.next.pos = p := ⟨_, rfl⟩
  have hne := rest_of_kind (t := t) (by omega)
  rw [hk, hs, hi, hp] at hN
  try rw [hi]
  try rw [hs]
  clear hk hs hi hp h
  unfold zeroE at hN
  go_enter Tryz.func184, Tryz.ntmps184
  go_wp2_with fail
  refine hN.mono ?_
  rintro e w1 ⟨rfl, hb1⟩
  have F1 := Lib.hid (F0.out.new hb1)
  obtain ⟨w2, hw2⟩ : ∃ w2, w2 = w1.alloc (.cells #[.int .u8 3, .string (strU s), .int .i64 (i : Int), .int .i64 (p : Int)] 90) := ⟨_, rfl⟩
  have F2 : Hid (Fr N B w.heap.size w w2 t) := Lib.hid (by rw [hw2]; exact F1.out.new (below_alloc _ _))
  have V2 : Hid (Four w2 w1.heap.size 90 (.int .u8 3) (.string (strU s)) (.int .i64 (i : Int)) (.int .i64 (p : Int))) := Lib.hid (by rw [hw2]; exact Four.new _ _ _ _ _ _)
  have HVB : Hid (¬ w1.heap.size = B) := Lib.hid (by have := bk_lt F1.out.res; omega)
  clear hb1 hN F0 F1
  go_wp2_with (first
    | (go_at_call 94; rw [← hw2]; refine (step_any N B t w2 F2.out.rd hne).mono ?_; rintro e w3 ⟨rfl, hr, hq⟩; have F3 := Lib.hid (F2.out.call hr hq); obtain ⟨q0, q1, q2, q3⟩ := V2.out.cells; have p0 := hq.cell q0 HVB.out; have p1 := hq.cell q1 HVB.out; have p2 := hq.cell q2 HVB.out; clear hr hq q0 q1 q2 q3)
    | (go_at_call 188; refine (literal_tr 2 0 s w3).mono ?_; rintro e w4 ⟨rfl, hb⟩; have F4 := Lib.hid (F3.out.new hb); clear hb)
    | (refine wpList_store_ex rfl _ _ rfl w.heap.size ((litE 2 0 s).a) (.slice none 0 0) rfl rfl rfl _ F4.out.res rfl ?_))
  refine bodyPost_ret (ex_results (R := w.heap.size) (a := (litE 2 0 s).a) (u := .slice none 0 0) Tryz.results184 (ExB.set F4.out.res _ _) rfl) rfl ?_
  exact F4.out.done (REs.nil _ _)

set_option maxRecDepth 100000 in
set_option maxHeartbeats 4000000 in
theorem prim_null (N B n : Nat) (t : St) (w : World) (h : RdAt N w B t) (h2 : ¬ t.next.kind = 2) (h3 : ¬ t.next.kind = 3) (hb : t.has wNull = true) :
    Calls Tryz.prog 184 #[.pointer (some ⟨B, 0, none⟩)] w (GivesX N B (litE 0 0 [], t.step) w) := by
  have F0 := Lib.hid (Fr.start h)
  have hN := next_any N B t _ F0.out.rd
  unfold wordV at hN
  have hBW := h.lt
  obtain ⟨s, hs⟩ : ∃ s, t.next.s = s := ⟨_, rfl⟩
  obtain ⟨i, hi⟩ : ∃ i, t.next.i = i := ⟨_, rfl⟩
  obtain ⟨p, hp⟩ : ∃ p, t.next.pos = p := ⟨_, rfl⟩
  obtain ⟨k, hk⟩ : ∃ k, t.next.kind = k := ⟨_, rfl⟩
  rw [hk, hs, hi, hp] at hN
  rw [hk] at h2 h3
  have k2 : ((k : Int) == 2) = false := by rw [beq_eq_false_iff_ne]; omega
  have k3 : ((k : Int) == 3) = false := by rw [beq_eq_false_iff_ne]; omega
  clear hk hs hi hp h
  unfold zeroE at hN
  go_enter Tryz.func184, Tryz.ntmps184
  go_wp2_with fail
  refine hN.mono ?_
  rintro e w1 ⟨rfl, hb1⟩
  have F1 := Lib.hid (F0.out.new hb1)
  obtain ⟨w2, hw2⟩ : ∃ w2, w2 = w1.alloc (.cells #[.int .u8 (k : Int), .string (strU s), .int .i64 (i : Int), .int .i64 (p : Int)] 90) := ⟨_, rfl⟩
  have F2 : Hid (Fr N B w.heap.size w w2 t) := Lib.hid (by rw [hw2]; exact F1.out.new (below_alloc _ _))
  have V2 : Hid (Four w2 w1.heap.size 90 (.int .u8 (k : Int)) (.string (strU s)) (.int .i64 (i : Int)) (.int .i64 (p : Int))) := Lib.hid (by rw [hw2]; exact Four.new _ _ _ _ _ _)
  have HVB : Hid (¬ w1.heap.size = B) := Lib.hid (by have := bk_lt F1.out.res; omega)
  clear hb1 hN F0 F1
  go_wp2_with (first
    | (go_at_call 54; rw [← hw2]; refine (take_yes N B t ⟨#[110, 117, 108, 108]⟩ w2 F2.out.rd hb (by decide)).mono ?_; rintro e w3 ⟨rfl, hr, hq⟩; have F3 := Lib.hid (F2.out.call hr hq); clear hr hq)
    | (go_at_call 188; refine (literal_tr 0 0 [] w3).mono ?_; rintro e w4 ⟨rfl, hb⟩; have F4 := Lib.hid (F3.out.new hb); clear hb)
    | (refine wpList_store_ex rfl _ _ rfl w.heap.size ((litE 0 0 []).a) (.slice none 0 0) rfl rfl rfl _ F4.out.res rfl ?_))
  refine bodyPost_ret (ex_results (R := w.heap.size) (a := (litE 0 0 []).a) (u := .slice none 0 0) Tryz.results184 (ExB.set F4.out.res _ _) rfl) rfl ?_
  exact F4.out.done (REs.nil _ _)

set_option maxRecDepth 100000 in
set_option maxHeartbeats 4000000 in
theorem prim_open (N B n : Nat) (self : St → Ex × St) (hself : SelfX N B n self) (hleS : Le self) (t : St) (w : World) (h : RdAt N w B t) (ht : t.rest.length ≤ n) (h2 : ¬ t.next.kind = 2) (h3 : ¬ t.next.kind = 3) (hb : t.has wNull = false) (hb2 : t.has wOpen = true) :
    Calls Tryz.prog 184 #[.pointer (some ⟨B, 0, none⟩)] w (GivesX N B ((self t.step).1, (self t.step).2.need wShut) w) := by
  have F0 := Lib.hid (Fr.start h)
  have hN := next_any N B t _ F0.out.rd
  unfold wordV at hN
  have hBW := h.lt
  have hlt := (St.has_lt hb2 (by decide)).1
  have hC := fun w h => hself t.step w h (by omega)
  obtain ⟨r, hr⟩ : ∃ r, self t.step = r := ⟨_, rfl⟩
  rw [hr] at hC ⊢
  clear hr hlt
  obtain ⟨s, hs⟩ : ∃ s, t.next.s = s := ⟨_, rfl⟩
  obtain ⟨i, hi⟩ : ∃ i, t.next.i = i := ⟨_, rfl⟩
  obtain ⟨p, hp⟩ : ∃ p, t.next.pos = p := ⟨_, rfl⟩
  obtain ⟨k, hk⟩ : ∃ k, t.next.kind = k := ⟨_, rfl⟩
  rw [hk, hs, hi, hp] at hN
  rw [hk] at h2 h3
  have k2 : ((k : Int) == 2) = false := by rw [beq_eq_false_iff_ne]; omega
  have k3 : ((k : Int) == 3) = false := by rw [beq_eq_false_iff_ne]; omega
  clear hk hs hi hp h
  unfold zeroE at hN
  go_enter Tryz.func184, Tryz.ntmps184
  go_wp2_with fail
  refine hN.mono ?_
  rintro e w1 ⟨rfl, hb1⟩
  have F1 := Lib.hid (F0.out.new hb1)
  obtain ⟨w2, hw2⟩ : ∃ w2, w2 = w1.alloc (.cells #[.int .u8 (k : Int), .string (strU s), .int .i64 (i : Int), .int .i64 (p : Int)] 90) := ⟨_, rfl⟩
  have F2 : Hid (Fr N B w.heap.size w w2 t) := Lib.hid (by rw [hw2]; exact F1.out.new (below_alloc _ _))
  have V2 : Hid (Four w2 w1.heap.size 90 (.int .u8 (k : Int)) (.string (strU s)) (.int .i64 (i : Int)) (.int .i64 (p : Int))) := Lib.hid (by rw [hw2]; exact Four.new _ _ _ _ _ _)
  have HVB : Hid (¬ w1.heap.size = B) := Lib.hid (by have := bk_lt F1.out.res; omega)
  clear hb1 hN F0 F1
  go_wp2_with (first
    | (go_at_call 54; rw [← hw2]; refine (take_no N B t ⟨#[110, 117, 108, 108]⟩ w2 F2.out.rd hb).mono ?_; rintro e w3 ⟨rfl, hr, hbl⟩; have F3 := Lib.hid (F2.out.new hbl); clear hr hbl hw2)
    | (go_at_call 54; refine (take_yes N B t ⟨#[40]⟩ w3 F3.out.rd hb2 (by decide)).mono ?_; rintro e w4 ⟨rfl, hr, hq⟩; have F4 := Lib.hid (F3.out.call hr hq); clear hr hq))
  refine (hC w4 F4.out.rd).mono ?_
  rintro e w5 ⟨u5, rfl, hs, hr, hq⟩
  obtain ⟨a5, n5, c5, hu⟩ := hs.slice
  subst hu
  have F5 := Lib.hid (F4.out.call hr hq)
  have S5 := Lib.hid (F4.out.got hs)
  clear hs hr hq hC
  obtain ⟨w6, hw6⟩ : ∃ w6, w6 = w5.alloc (.cells (exArr r.1.a (.slice a5 n5 c5)) 36) := ⟨_, rfl⟩
  have F6 : Hid (Fr N B w.heap.size w w6 r.2) := Lib.hid (by rw [hw6]; exact F5.out.new (below_alloc _ _))
  have X6 : Hid (ExB w6 w5.heap.size r.1.a (.slice a5 n5 c5)) := Lib.hid (by rw [hw6]; exact heap_alloc_new _ _)
  have S6 : Hid (REs (w.heap.size < ·) w6 (.slice a5 n5 c5) r.1.l) := Lib.hid (by rw [hw6]; exact S5.out.below (below_alloc _ _))
  have HXB : Hid (¬ w5.heap.size = B) := Lib.hid (by have := F5.out.hB; have := bk_lt F5.out.res; omega)
  unfold exArr at hw6
  unfold exVal
  clear F5 S5
  go_wp2_with (first
    | (go_at_call 60; rw [← hw6]; refine (need_any N B r.2 ⟨#[41]⟩ w6 F6.out.rd (by decide)).mono ?_; rintro e w7 ⟨rfl, hr, hq⟩; have F7 := Lib.hid (F6.out.call hr hq); have X7 := Lib.hid (X6.out.turn hq HXB.out); have S7 := Lib.hid (F6.out.keep S6.out hq); clear hr hq; obtain ⟨d0, d1, d2, d3, d4, d5, d6, d7, d8⟩ := X7.out.cells)
    | (refine wpList_store_ex rfl _ _ rfl w.heap.size (r.1.a) (.slice a5 n5 c5) rfl rfl rfl _ F7.out.res rfl ?_))
  refine bodyPost_ret (ex_results (R := w.heap.size) (a := r.1.a) (u := .slice a5 n5 c5) Tryz.results184 (ExB.set F7.out.res _ _) rfl) rfl ?_
  exact F7.out.done S7.out

set_option maxRecDepth 100000 in
set_option maxHeartbeats 4000000 in
theorem prim_named (N B n : Nat) (self : St → Ex × St) (hself : SelfX N B n self) (hleS : Le self) (t : St) (w : World) (h : RdAt N w B t) (ht : t.rest.length ≤ n) (hn : n ≤ 900000) (h2 : ¬ t.next.kind = 2) (h3 : ¬ t.next.kind = 3) (hb : t.has wNull = false) (hb2 : t.has wOpen = false) :
    Calls Tryz.prog 184 #[.pointer (some ⟨B, 0, none⟩)] w (GivesX N B (namedP self t) w) := by
  have F0 := Lib.hid (Fr.start h)
  have hN := next_any N B t _ F0.out.rd
  unfold wordV at hN
  have hBW := h.lt
  have hC := fun w h => named_tr N B n self hself hleS hn t w h ht
  obtain ⟨r, hr⟩ : ∃ r, namedP self t = r := ⟨_, rfl⟩
  rw [hr] at hC ⊢
  clear hr
  obtain ⟨s, hs⟩ : ∃ s, t.next.s = s := ⟨_, rfl⟩
  obtain ⟨i, hi⟩ : ∃ i, t.next.i = i := ⟨_, rfl⟩
  obtain ⟨p, hp⟩ : ∃ p, t.next.pos = p := ⟨_, rfl⟩
  obtain ⟨k, hk⟩ : ∃ k, t.next.kind = k := ⟨_, rfl⟩
  rw [hk, hs, hi, hp] at hN
  rw [hk] at h2 h3
  have k2 : ((k : Int) == 2) = false := by rw [beq_eq_false_iff_ne]; omega
  have k3 : ((k : Int) == 3) = false := by rw [beq_eq_false_iff_ne]; omega
  clear hk hs hi hp h
  unfold zeroE at hN
  go_enter Tryz.func184, Tryz.ntmps184
  go_wp2_with fail
  refine hN.mono ?_
  rintro e w1 ⟨rfl, hb1⟩
  have F1 := Lib.hid (F0.out.new hb1)
  obtain ⟨w2, hw2⟩ : ∃ w2, w2 = w1.alloc (.cells #[.int .u8 (k : Int), .string (strU s), .int .i64 (i : Int), .int .i64 (p : Int)] 90) := ⟨_, rfl⟩
  have F2 : Hid (Fr N B w.heap.size w w2 t) := Lib.hid (by rw [hw2]; exact F1.out.new (below_alloc _ _))
  have V2 : Hid (Four w2 w1.heap.size 90 (.int .u8 (k : Int)) (.string (strU s)) (.int .i64 (i : Int)) (.int .i64 (p : Int))) := Lib.hid (by rw [hw2]; exact Four.new _ _ _ _ _ _)
  have HVB : Hid (¬ w1.heap.size = B) := Lib.hid (by have := bk_lt F1.out.res; omega)
  clear hb1 hN F0 F1
  go_wp2_with (first
    | (go_at_call 54; rw [← hw2]; refine (take_no N B t ⟨#[110, 117, 108, 108]⟩ w2 F2.out.rd hb).mono ?_; rintro e w3 ⟨rfl, hr, hbl⟩; have F3 := Lib.hid (F2.out.new hbl); clear hr hbl hw2)
    | (go_at_call 54; refine (take_no N B t ⟨#[40]⟩ w3 F3.out.rd hb2).mono ?_; rintro e w4 ⟨rfl, hr, hbl⟩; have F4 := Lib.hid (F3.out.new hbl); clear hr hbl))
  refine (hC w4 F4.out.rd).mono ?_
  rintro e w5 ⟨u5, rfl, hs, hr, hq⟩
  have o5 := hs.one
  have F5 := Lib.hid (F4.out.call hr hq)
  have S5 := Lib.hid (F4.out.got hs)
  clear hs hr hq hC
  go_wp2_with (refine wpList_store_ex rfl _ _ rfl w.heap.size (r.1.a) (u5) rfl rfl o5 _ F5.out.res rfl ?_)
  refine bodyPost_ret (ex_results (R := w.heap.size) (a := r.1.a) (u := u5) Tryz.results184 (ExB.set F5.out.res _ _) rfl) rfl ?_
  exact F5.out.done S5.out

theorem primary_tr (N B n : Nat) (self : St → Ex × St) (hself : SelfX N B n self) (hleS : Le self) (hn : n ≤ 900000) : ReadsX N B n 184 (primaryP self) := by
  intro t w h ht
  unfold primaryP
  by_cases h2 : t.next.kind = 2
  · rw [if_pos h2]; exact prim_int N B n t w h h2
  · rw [if_neg h2]
    by_cases h3 : t.next.kind = 3
    · rw [if_pos h3]; exact prim_text N B n t w h h3
    · rw [if_neg h3]
      cases hb : t.has wNull with
      | true => rw [if_pos rfl]; exact prim_null N B n t w h h2 h3 hb
      | false =>
        rw [if_neg (by simp)]
        cases hb2 : t.has wOpen with
        | true => rw [if_pos rfl]; exact prim_open N B n self hself hleS t w h ht h2 h3 hb hb2
        | false => rw [if_neg (by simp)]; exact prim_named N B n self hself hleS t w h ht hn h2 h3 hb hb2
end
section
open Go.RowKit Go.Shelf
set_option linter.unusedVariables false

theorem step_append_runT {P : Program} {ops : Array Oper} {o : Oper} {a : Act} {w : World} {K : Act → World → Prop} {Q : Exit → Act → World → Prop} {E : Prop} (hw : Region.wanted o (yielded ops a.tmps) = true) (s x : Operand) (t : TypeId)
    (ho : o.op = .call { callee := .builtin .append, args := #[s, x], argTypes := #[t, t] }) (v u : Value) (hs : a.eval s = v) (hx : a.eval x = u) (v' : Value) (w' : World) (hrun : (Builtin.append_ #[t, t] o.type #[v, u]).run P w = .ok v' w')
    (h : K (a.put o.dst v') w') : if Region.wanted o (yielded ops a.tmps) = true then Oper.wp P o a w K Q else E := by
  rw [if_pos hw]
  unfold Oper.wp execOp
  simp only [ho, resolve, invoke, builtin, Sem.run_bind, Sem.run_pure, Result.andThen_ok, List.map_toArray, List.map_cons, List.map_nil, hs, hx, hrun]
  exact h
theorem own_one {w : World} {g base : Nat} {x : Ex} {u : Value} (h : ExB w g x.a u) (hs : REs (fun k => base ≤ k ∧ k ≠ g) w u x.l) (hb : base ≤ g) : OwnL exE base w (.slice (some ⟨g, 0, none⟩) 1 1) [exCells x.a u] [x] := by
  refine ⟨⟨rfl, .inr ⟨g, 1, exArr x.a u, rfl, hb, h, Nat.le_refl _, by unfold maxLen; omega, rfl, rfl⟩⟩, ⟨u, rfl, hs.mono fun k hk _ => ⟨hk.1, fun e => hk.2 ?_⟩⟩, trivial⟩
  injection e with e
  exact e.symm
theorem listL_len {α : Type} (f : St → α × St) : ∀ (k : Nat) (l : List α) (t : St), (listL f k l t).1.length ≤ l.length + k
  | 0, l, t => Nat.le_refl _
  | k + 1, l, t => by
    unfold listL
    split
    · refine Nat.le_trans (listL_len f k _ _) ?_
      simp; omega
    · dsimp only; omega
theorem listP_len {α : Type} {f : St → α × St} (h : Le f) (t : St) : (listP f t).1.length ≤ t.rest.length + 1 := by
  have h1 := listL_len f (f t).2.rest.length [(f t).1] (f t).2
  have h2 := h t
  unfold listP
  simp only [List.length_singleton] at h1
  omega
theorem Fr.far {N B R : Nat} {w wi wj : World} {t : St} {S : Nat → Prop} (h : Fr N B R w wi t) (ht : Turn S wi wj) (hS : ∀ k, S k → R < k) : Fr N B R w wj t :=
  ⟨h.rd.far ht (fun k hk => by have := h.hN; have := hS k hk; omega), h.turn.next ht (fun k hk e => by have := h.hR; have := hS k e; omega), (ht.block R (bk_lt h.res) (fun e => Nat.lt_irrefl _ (hS R e))).trans h.res, h.hB, h.hR, h.hN⟩
set_option maxRecDepth 100000 in
/-- one, and a list behind it -/
theorem in_run {N B R G : Nat} {w wi : World} {t : St} {x : Ex} {u vl : Value} {l : List Ex} (hF : Fr N B R w wi t) (hx : ExB wi G x.a u) (hG : R < G) (hS : REs (fun k => R < k ∧ k ≠ G) wi u x.l) (hrow : RowOf exE (fun k => R < k ∧ k ≠ G) wi vl l) (hl : l.length ≤ 900000) :
    ∃ ao n c w', (Builtin.append_ #[34, 34] 34 #[.slice (some ⟨G, 0, none⟩) 1 1, vl]).run Tryz.prog wi = .ok (.slice ao n c) w' ∧ REs (R < ·) w' (.slice ao n c) (Exs.ofL (x :: l)) ∧ Fr N B R w w' t ∧ Turn (· = G) wi w' := by
  have hown : OwnL exE (R + 1) wi (.slice (some ⟨G, 0, none⟩) 1 1) [exCells x.a u] [x] := own_one hx (hS.mono fun k hk _ => hk) hG
  have hne : ∀ k, k ≠ G → (Value.slice (some ⟨G, 0, none⟩) 1 1).ownBlock ≠ some k := fun k hk e => hk (by injection e with e; exact e.symm)
  obtain ⟨v', w', css2, h1, h2, h3⟩ := OwnL.appL Tryz.underlying34 Tryz.infoLEx rfl (by decide) hown (hrow.mono (Q := fun k => R + 1 ≤ k ∧ (Value.slice (some ⟨G, 0, none⟩) 1 1).ownBlock ≠ some k) (fun k hk _ => ⟨hk.1, hne k hk.2⟩)) (by simp; omega) (by decide) (by have := bk_lt hF.res; omega)
  obtain ⟨ao, n, c, rfl⟩ := h2.slice'
  exact ⟨ao, n, c, w', h1, (REs.of_row (RowOf.of_own h2)).mono fun k hk _ => hk, hF.far h3 (fun k hk => by have hk' : G = k := Option.some.inj hk; omega), h3.mono (fun k _ hk => (Option.some.inj hk).symm)⟩
def AppX (w4 v1 : World) (N B R : Nat) (w : World) (t : St) (x : Ex) (l : List Ex) (G : Nat) (vl : Value) : Prop :=
  ∃ ao n c w', (Builtin.append_ #[34, 34] 34 #[.slice (some ⟨G, 0, none⟩) 1 1, vl]).run Tryz.prog v1 = .ok (.slice ao n c) w' ∧ REs (R < ·) w' (.slice ao n c) (Exs.ofL (x :: l)) ∧ Fr N B R w w' t ∧ Turn (· = G) v1 w'
theorem in_A {N B R : Nat} {w w4 v1 : World} {t4 t5 : St} {x : Ex} {u vl : Value} {l : List Ex} (hF : Fr N B R w w4 t4) (hS : REs (R < ·) w4 u x.l) (hr : RdAt N v1 B t5) (hq : Turn (· = B) (w4.alloc (.cells (exArr x.a u) 36)).drew v1) (hrow : RowOf exE ((w4.alloc (.cells (exArr x.a u) 36)).drew.heap.size ≤ ·) v1 vl l) (hl : l.length ≤ 900000) : AppX w4 v1 N B R w t5 x l w4.heap.size vl := by
  have hb : Below w4.heap.size w4 (w4.alloc (.cells (exArr x.a u) 36)).drew := (below_alloc w4 _).drew
  have hR := bk_lt hF.res
  have hB := hF.hB
  have hR2 := hF.hR
  have hz : (w4.alloc (.cells (exArr x.a u) 36)).drew.heap.size = w4.heap.size + 1 := by simp
  refine in_run ((hF.new hb).call hr hq) (G := w4.heap.size) (x := x) (u := u) ?_ hR ?_ ?_ hl
  · exact (hq.block w4.heap.size (by omega) (fun e => by omega)).trans (heap_alloc_new w4 _)
  · exact ((hS.mono (Q := fun k => R < k ∧ k ≠ w4.heap.size) (fun k hk hlt => ⟨hk, by omega⟩)).below hb).turn hq (fun k hk => hF.notB hk.1)
  · exact hrow.mono (fun k hk _ => ⟨by omega, by omega⟩)
theorem in_B {N B R : Nat} {w w4 v1 : World} {t4 t5 : St} {x : Ex} {u vl : Value} {l : List Ex} (hF : Fr N B R w w4 t4) (hS : REs (R < ·) w4 u x.l) (hr : RdAt N v1 B t5) (hq : Turn (· = B) w4.drew v1) (hrow : RowOf exE (w4.drew.heap.size ≤ ·) v1 vl l) (hl : l.length ≤ 900000) : AppX w4 (v1.alloc (.cells (exArr x.a u) 36)) N B R w t5 x l v1.heap.size vl := by
  have hR := bk_lt hF.res
  have h5 := hF.call hr ((Turn.drew _ _).trans hq)
  have hR5 := bk_lt h5.res
  have hz : w4.drew.heap.size = w4.heap.size := rfl
  refine in_run (h5.new (below_alloc _ _)) (G := v1.heap.size) (x := x) (u := u) (heap_alloc_new _ _) hR5 ?_ ?_ hl
  · exact ((hF.keep hS ((Turn.drew _ _).trans hq)).mono (Q := fun k => R < k ∧ k ≠ v1.heap.size) (fun k hk hlt => ⟨hk, by omega⟩)).below (below_alloc _ _)
  · exact (hrow.mono (Q := fun k => R < k ∧ k ≠ v1.heap.size) (fun k hk hlt => ⟨by omega, by omega⟩)).below (below_alloc _ _)
theorem set9_other {w : World} {g b j : Nat} (h : b ≠ g) (a0 a1 a2 a3 a4 a5 a6 a7 a8 : Value) :
    (((((((((w.setCell ⟨g, 0, none⟩ a0).setCell ⟨g, 1, none⟩ a1).setCell ⟨g, 2, none⟩ a2).setCell ⟨g, 3, none⟩ a3).setCell ⟨g, 4, none⟩ a4).setCell ⟨g, 5, none⟩ a5).setCell ⟨g, 6, none⟩ a6).setCell ⟨g, 7, none⟩ a7).setCell ⟨g, 8, none⟩ a8).cell? ⟨b, j, none⟩ = w.cell? ⟨b, j, none⟩ := by
  have key : ∀ (w : World) (i : Nat) (v : Value), (w.setCell ⟨g, i, none⟩ v).cell? ⟨b, j, none⟩ = w.cell? ⟨b, j, none⟩ := fun w i v =>
    World.cell?_of_block (w := w) (Below.heap_setCell w ⟨g, i, none⟩ v b h)
  rw [key, key, key, key, key, key, key, key, key]

set_option maxRecDepth 100000 in
set_option maxHeartbeats 4000000 in
theorem cmp_in (N B n : Nat) (self f : St → Ex × St) (hself : SelfX N B n self) (hleS : Le self) (hf : ReadsX N B n 159 f) (hle : Le f) (t : St) (w : World) (h : RdAt N w B t) (ht : t.rest.length ≤ n) (x1 : Ex) (t1 : St) (hx1 : (f t).1 = x1) (ht1 : (f t).2 = t1) (hn : n ≤ 800000) (hb : t1.has wIs = false) (hb2 : t1.has wIn = true) :
    Calls Tryz.prog 147 #[.pointer (some ⟨B, 0, none⟩)] w (GivesX N B ((inE x1 (enclosedP self t1.step).1, (enclosedP self t1.step).2)) w) := by
  have F0 := Lib.hid (Fr.start h)
  have hC := hf t _ F0.out.rd ht
  unfold GivesX at hC
  rw [hx1, ht1] at hC
  have HLE : Hid (t1.rest.length ≤ n) := Lib.hid (by have := hle t; rw [ht1] at this; omega)
  have hlt := (St.has_lt hb2 (by decide)).1
  have hmf : ∀ (fn : Fn) (first cap : Array Value) (w : World), (Instr.makeFunc fn first cap).run Tryz.prog w = .ok (.func fn first cap) w := fun _ _ _ _ => rfl
  have hE := fun w h => enclosedEx_tr N B t1.step.rest.length 35 (by have := HLE.out; omega) (fun _ _ => by kernel_rfl) self (hself.reads (by have := HLE.out; omega)).row hleS t1.step w h (Nat.le_refl _)
  obtain ⟨r, hr⟩ : ∃ r, enclosedP self t1.step = r := ⟨_, rfl⟩
  have HLEN : Hid (r.1.length ≤ 900000) := Lib.hid (by rw [← hr]; have h1 := listP_len hleS (t1.step.need wOpen); have h2 := St.need_le t1.step wOpen; have := HLE.out; show (listP self (t1.step.need wOpen)).1.length ≤ _; omega)
  rw [hr] at hE ⊢
  clear h hx1 ht1 hr hlt
  unfold zeroE at hC
  go_enter Tryz.func147, Tryz.ntmps147
  go_wp2_with fail
  refine hC.mono ?_
  rintro e w1 ⟨u1, rfl, hs1, hr1, hq1⟩
  have F1 := Lib.hid (F0.out.call hr1 hq1)
  have S1 := Lib.hid (F0.out.got hs1)
  obtain ⟨ao1, n1, c1, hu1⟩ := hs1.slice
  subst hu1
  clear hs1 hr1 hq1 hC
  obtain ⟨w2, hw2⟩ : ∃ w2, w2 = w1.alloc (.cells (exArr x1.a (.slice ao1 n1 c1)) 36) := ⟨_, rfl⟩
  have F2 : Hid (Fr N B w.heap.size w w2 t1) := Lib.hid (by rw [hw2]; exact F1.out.new (below_alloc _ _))
  have X2 : Hid (ExB w2 w1.heap.size x1.a (.slice ao1 n1 c1)) := Lib.hid (by rw [hw2]; exact heap_alloc_new _ _)
  have S2 : Hid (REs (fun k => w.heap.size < k ∧ k ≠ w1.heap.size) w2 (.slice ao1 n1 c1) x1.l) := Lib.hid (by
    rw [hw2]
    exact (S1.out.mono fun k hk hlt => ⟨hk, by omega⟩).below (below_alloc _ _))
  have HXB : Hid (w.heap.size < w1.heap.size ∧ ¬ w1.heap.size = B) := Lib.hid ⟨bk_lt F1.out.res, by have := F1.out.hB; have := bk_lt F1.out.res; omega⟩
  clear F0 F1 S1
  unfold exVal
  unfold exArr at hw2
  go_wp2_with (first
    | (go_at_call 54; rw [← hw2]; refine (take_no N B t1 ⟨#[105, 115]⟩ w2 F2.out.rd hb).mono ?_; rintro e w3 ⟨rfl, hr, hb⟩; have F3 := Lib.hid (F2.out.new hb); have X3 := Lib.hid (X2.out.kept hb); have S3 := Lib.hid (S2.out.below hb); clear hr hb F2 X2 S2)
    | (go_at_call 54; refine (take_yes N B t1 ⟨#[105, 110]⟩ w3 F3.out.rd hb2 (by decide)).mono ?_; rintro e w4 ⟨rfl, hr, hq⟩; have F4 := Lib.hid (F3.out.call hr hq); have X4 := Lib.hid (X3.out.turn hq HXB.out.2); have S4 := Lib.hid (S3.out.turn hq (fun k hk => F3.out.notB hk.1)); clear hr hq F3 X3 S3))
  obtain ⟨d0, d1, d2, d3, d4, d5, d6, d7, d8⟩ := X4.out.cells
  have S4' := Lib.hid (S4.out.mono (Q := (w.heap.size < ·)) fun k hk _ => hk.1)
  have SD := Lib.hid (X4.out.kept (below_drew' _)).cells
  have SA := Lib.hid (X4.out.kept ((below_alloc w4 (.cells (exArr x1.a (.slice ao1 n1 c1)) 36)).drew)).cells
  unfold exArr at SA
  have HXR : Hid (w1.heap.size ≠ w.heap.size ∧ w1.heap.size < w4.heap.size) := Lib.hid ⟨by have := HXB.out.1; omega, X4.out.lt⟩
  go_region_held3 (fun x => x.cell? ⟨w1.heap.size, 0, none⟩ = some (.int .u8 (x1.a.kind : Int)) ∧ x.cell? ⟨w1.heap.size, 1, none⟩ = some (.int .u8 (x1.a.op : Int)) ∧ x.cell? ⟨w1.heap.size, 2, none⟩ = some (.string (strU x1.a.table)) ∧ x.cell? ⟨w1.heap.size, 3, none⟩ = some (.string (strU x1.a.name)) ∧ x.cell? ⟨w1.heap.size, 4, none⟩ = some (.int .u8 (x1.a.vk : Int)) ∧ x.cell? ⟨w1.heap.size, 5, none⟩ = some (.int .i64 x1.a.vi) ∧ x.cell? ⟨w1.heap.size, 6, none⟩ = some (.string (strU x1.a.vs)) ∧ x.cell? ⟨w1.heap.size, 7, none⟩ = some (.bool x1.a.star) ∧ x.cell? ⟨w1.heap.size, 8, none⟩ = some (.slice ao1 n1 c1)) (first | with_reducible exact SD.out | with_reducible exact SA.out | with_reducible exact SS.out | (guard_hyp SS3; with_reducible exact SS3.out) | (guard_hyp SS2; with_reducible exact SS2.out) | (guard_hyp SS2; with_reducible exact ⟨(set9_other HXR.out.1 _ _ _ _ _ _ _ _ _).trans SS2.out.1, (set9_other HXR.out.1 _ _ _ _ _ _ _ _ _).trans SS2.out.2.1, (set9_other HXR.out.1 _ _ _ _ _ _ _ _ _).trans SS2.out.2.2.1, (set9_other HXR.out.1 _ _ _ _ _ _ _ _ _).trans SS2.out.2.2.2.1, (set9_other HXR.out.1 _ _ _ _ _ _ _ _ _).trans SS2.out.2.2.2.2.1, (set9_other HXR.out.1 _ _ _ _ _ _ _ _ _).trans SS2.out.2.2.2.2.2.1, (set9_other HXR.out.1 _ _ _ _ _ _ _ _ _).trans SS2.out.2.2.2.2.2.2.1, (set9_other HXR.out.1 _ _ _ _ _ _ _ _ _).trans SS2.out.2.2.2.2.2.2.2.1, (set9_other HXR.out.1 _ _ _ _ _ _ _ _ _).trans SS2.out.2.2.2.2.2.2.2.2⟩)) ((first
    | (go_at_call 138; refine (hE _ (F4.out.rd.kept ((below_alloc w4 (.cells (exArr x1.a (.slice ao1 n1 c1)) 36)).drew))).mono ?_; rintro e v1 ⟨vl, rfl, hrow, hr, hq⟩; have X5 := (X4.out.kept ((below_alloc w4 (.cells (exArr x1.a (.slice ao1 n1 c1)) 36)).drew)).turn hq HXB.out.2; have SS := Lib.hid X5.cells; obtain ⟨ai, ni, ci, w5, hrun, hS5, hF5, hT5⟩ := in_A F4.out S4'.out hr hq hrow HLEN.out; obtain ⟨av, cv, hv, _⟩ := hrow.slice; subst hv; have HF5 := Lib.hid hF5; have HS5 := Lib.hid hS5; have SS2 := Lib.hid (X5.turn hT5 (fun e => by have := HXR.out.2; omega)).cells; clear hF5 hS5 hrow hr hq hT5 X5; obtain ⟨k0, k1, k2', k3, k4, k5, k6, k7, k8⟩ := HF5.out.rcells; obtain ⟨z0, z1, z2, z3, z4, z5, z6, z7, z8⟩ := HF5.out.rfree)
    | (go_at_call 138; refine (hE w4.drew (F4.out.rd.kept (below_drew' _))).mono ?_; rintro e v1 ⟨vl, rfl, hrow, hr, hq⟩; have X5 := (X4.out.kept (below_drew' _)).turn hq HXB.out.2; have SS := Lib.hid X5.cells; have X6 := X5.kept (below_alloc v1 (.cells (exArr x1.a (.slice ao1 n1 c1)) 36)); have SS3 := Lib.hid X6.cells; unfold exArr at SS3; obtain ⟨ai, ni, ci, w5, hrun, hS5, hF5, hT5⟩ := in_B F4.out S4'.out hr hq hrow HLEN.out; unfold exArr at hrun; obtain ⟨av, cv, hv, _⟩ := hrow.slice; subst hv; have HF5 := Lib.hid hF5; have HS5 := Lib.hid hS5; have SS2 := Lib.hid (X6.turn hT5 (fun e => by have := HXR.out.2; have := hq.size; have hz : w4.drew.heap.size = w4.heap.size := rfl; omega)).cells; clear hF5 hS5 hrow hr hq hT5 X5 X6; obtain ⟨k0, k1, k2', k3, k4, k5, k6, k7, k8⟩ := HF5.out.rcells; obtain ⟨z0, z1, z2, z3, z4, z5, z6, z7, z8⟩ := HF5.out.rfree)
    | (guard_hyp hrun; refine step_append_runT ?_ (.tmp 22) (.tmp 26) 34 ?_ _ _ ?_ ?_ _ _ hrun ?_; rfl; rfl; rfl; rfl)))
  all_goals
    rw [set9 HF5.out.res]
    clear k0 k1 k2' k3 k4 k5 k6 k7 k8 z0 z1 z2 z3 z4 z5 z6 z7 z8
    go_wp2_with fail
    refine bodyPost_ret (ex_results (R := w.heap.size) (a := (inE x1 r.1).a) (u := .slice ai ni ci) Tryz.results147 (ExB.set HF5.out.res (inE x1 r.1).a (.slice ai ni ci)) rfl) rfl ?_
    exact HF5.out.done (a := (inE x1 r.1).a) (l := (inE x1 r.1).l) HS5.out
theorem compare_tr (N B n : Nat) (self f : St → Ex × St) (hself : SelfX N B n self) (hleS : Le self) (hf : ReadsX N B n 159 f) (hle : Le f) (hn : n ≤ 800000) : ReadsX N B n 147 (compareP self f) := by
  intro t w h ht
  unfold compareP
  cases hb : (f t).2.has wIs with
  | true =>
    rw [if_pos rfl]
    cases hb2 : (f t).2.step.has wNot with
    | true => rw [if_pos rfl]; exact cmp_isnot N B n self f hself hleS hf hle t w h ht _ _ rfl rfl hb hb2
    | false => rw [if_neg (by simp)]; exact cmp_is N B n self f hself hleS hf hle t w h ht _ _ rfl rfl hb hb2
  | false =>
    rw [if_neg (by simp)]
    cases hb2 : (f t).2.has wIn with
    | true => rw [if_pos rfl]; exact cmp_in N B n self f hself hleS hf hle t w h ht _ _ rfl rfl hn hb hb2
    | false =>
      rw [if_neg (by simp)]
      by_cases h0 : (opP 3 (f t).2).1 = 0
      · rw [if_pos h0]; exact cmp_none N B n self f hself hleS hf hle t w h ht _ _ rfl rfl hb hb2 h0
      · rw [if_neg h0]; exact cmp_two N B n self f hself hleS hf hle t w h ht _ _ rfl rfl hb hb2 _ rfl h0 _ rfl _ _ rfl rfl
/-- AN EXPRESSION IS READ -/
theorem expr_tr (N B : Nat) : ∀ (k n : Nat), n < k → n ≤ 800000 → ReadsX N B n 35 (exprN k) := by
  intro k
  induction k with
  | zero => intro n hn; omega
  | succ k ih =>
    intro n hn hm t w h ht
    have hself : SelfX N B n (exprN k) := fun t' w' h' ht' => ih (n - 1) (by omega) (by omega) t' w' h' (by omega)
    have hleS := exprN_le k
    have hprim := primary_tr N B n (exprN k) hself hleS (by omega)
    have hminus : ReadsX N B n _ (minusP (exprN k)) := minus_tr N B n _ hprim
    have hprod : ReadsX N B n _ (productP (exprN k)) := product_tr N B n _ hminus (minusP_le hleS)
    have hsum : ReadsX N B n _ (sumP (exprN k)) := sum_tr N B n _ hprod (productP_le hleS)
    have hcmp := compare_tr N B n (exprN k) (sumP (exprN k)) hself hleS hsum (sumP_le hleS) hm
    have hnot : ReadsX N B n _ (notP (exprN k)) := not_tr N B n _ hcmp
    have hand : ReadsX N B n _ (andP (exprN k)) := and_tr N B n _ hnot (notP_le hleS)
    exact or_tr N B n _ hand (andP_le hleS) t w h ht
end
end Go.Proofs.YtenmnpbjnbdeaaaGreatDoor
