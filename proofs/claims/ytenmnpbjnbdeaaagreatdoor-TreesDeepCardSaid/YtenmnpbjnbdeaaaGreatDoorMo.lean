/-
  WHAT IS PROVED: what reads another name, a number, two words, a condition. what reads an item, a table, an order, an assignment, a column. what reads an order, a column.
-/
import Derived.Test.YtenmnpbjnbdeaaaGreatDoorMn
import Derived.Deep.MidRow
namespace Go.Proofs.YtenmnpbjnbdeaaaGreatDoor
section
open Go.RowKit Go.Shelf
set_option linter.unusedVariables false

set_option maxHeartbeats 1000000 in
theorem alias_tr (N B : Nat) (t : St) (w : World) (h : RdAt N w B t) :
    Calls Tryz.prog 158 #[.pointer (some ⟨B, 0, none⟩)] w fun e w' => e = .returned (.string (strU (aliasP t).1)) ∧ RdAt N w' B (aliasP t).2 ∧ Turn (· = B) w w' := by
  unfold aliasP
  cases hb : t.has wAs with
  | false =>
    rw [if_neg (by simp)]
    go_enter Tryz.func158, Tryz.ntmps158
    go_wp2_with fail
    refine (take_no N B t ⟨#[97, 115]⟩ w h hb).mono ?_
    rintro e w1 ⟨rfl, hr, hbl⟩
    have H := Lib.hid (And.intro hr (Turn.of_below (S := (· = B)) hbl))
    clear hr hbl h hb
    go_wp2_with fail
    go_ret
    exact ⟨rfl, H.out.1, H.out.2⟩
  | true =>
    rw [if_pos rfl]
    go_enter Tryz.func158, Tryz.ntmps158
    go_wp2_with fail
    refine (take_yes N B t ⟨#[97, 115]⟩ w h hb (by decide)).mono ?_
    rintro e w1 ⟨rfl, hr, hq⟩
    have H := Lib.hid (And.intro hr hq)
    clear hr hq h hb
    go_wp2_with fail
    refine (name_tr N B t.step w1 H.out.1).mono ?_
    rintro e w2 ⟨rfl, hr, hq⟩
    have H2 := Lib.hid (And.intro hr (H.out.2.trans hq))
    clear hr hq
    go_wp2_with fail
    go_ret
    exact ⟨rfl, H2.out.1, H2.out.2⟩
set_option maxHeartbeats 1000000 in
theorem phrase_tr (N B : Nat) (a b : ByteArray) (ha : a.data.toList ≠ []) (hb0 : b.data.toList ≠ []) (t : St) (w : World) (h : RdAt N w B t) :
    Calls Tryz.prog 98 #[.pointer (some ⟨B, 0, none⟩), .string a, .string b] w fun e w' => e = .returned (.bool (phraseP a.data.toList b.data.toList t).1) ∧ RdAt N w' B (phraseP a.data.toList b.data.toList t).2 ∧ Turn (· = B) w w' := by
  unfold phraseP
  cases hb : t.has a.data.toList with
  | false =>
    rw [if_neg (by simp)]
    go_enter Tryz.func98, Tryz.ntmps98
    go_wp2_with fail
    refine (take_no N B t a w h hb).mono ?_
    rintro e w1 ⟨rfl, hr, hbl⟩
    have H := Lib.hid (And.intro hr (Turn.of_below (S := (· = B)) hbl))
    clear hr hbl h hb
    go_wp2_with fail
    go_ret
    exact ⟨rfl, H.out.1, H.out.2⟩
  | true =>
    rw [if_pos rfl]
    go_enter Tryz.func98, Tryz.ntmps98
    go_wp2_with fail
    refine (take_yes N B t a w h hb ha).mono ?_
    rintro e w1 ⟨rfl, hr, hq⟩
    have H := Lib.hid (And.intro hr hq)
    clear hr hq h hb
    go_wp2_with fail
    refine (need_any N B t.step b w1 H.out.1 hb0).mono ?_
    rintro e w2 ⟨rfl, hr, hq⟩
    have H2 := Lib.hid (And.intro hr (H.out.2.trans hq))
    clear hr hq
    go_wp2_with fail
    go_ret
    exact ⟨rfl, H2.out.1, H2.out.2⟩
set_option maxHeartbeats 2000000 in
theorem number_tr (N B : Nat) (t : St) (w : World) (h : RdAt N w B t) :
    Calls Tryz.prog 102 #[.pointer (some ⟨B, 0, none⟩)] w fun e w' => e = .returned (.int .i64 ((numberP t).1 : Int)) ∧ RdAt N w' B (numberP t).2 ∧ Turn (· = B) w w' := by
  have HR := Lib.hid h
  have hN := next_any N B t w h
  unfold wordV at hN
  obtain ⟨s, hs⟩ : ∃ s, strU t.next.s = s := ⟨_, rfl⟩
  obtain ⟨p, hp⟩ : ∃ p, t.next.pos = p := ⟨_, rfl⟩
  unfold numberP
  by_cases hk : t.next.kind = 2
  · rw [if_pos hk]
    have hne := rest_of_kind (t := t) (by omega)
    dsimp only
    obtain ⟨i, hi⟩ : ∃ i, t.next.i = i := ⟨_, rfl⟩
    rw [hk, hs, hi, hp] at hN
    rw [hi]
    clear hk hs hi hp h
    go_enter Tryz.func102, Tryz.ntmps102
    go_wp2_with fail
    refine hN.mono ?_
    rintro e w1 ⟨rfl, hb1⟩
    obtain ⟨w2, hw2⟩ : ∃ w2, w2 = w1.alloc (.cells #[.int .u8 2, .string s, .int .i64 (i : Int), .int .i64 (p : Int)] 90) := ⟨_, rfl⟩
    have HB2 : Hid (Below w.heap.size w w2) := Lib.hid (by rw [hw2]; exact hb1.trans ((below_alloc _ _).mono hb1.size))
    have hgB : ¬ w1.heap.size = B := by have := hb1.size; have := HR.out.lt; omega
    have HF2 : Hid (Four w2 w1.heap.size 90 (.int .u8 2) (.string s) (.int .i64 (i : Int)) (.int .i64 (p : Int))) := Lib.hid (by rw [hw2]; exact Four.new _ _ _ _ _ _)
    clear hb1 hN
    go_wp2_with (go_at_call 94; rw [← hw2]; refine (step_any N B t w2 (HR.out.kept HB2.out) hne).mono ?_; rintro e w3 ⟨rfl, hr, hq⟩; have H := Lib.hid (And.intro hr ((Turn.of_below HB2.out).trans hq)); obtain ⟨q0, q1, q2, q3⟩ := HF2.out.cells; have p2 := hq.cell q2 hgB; clear hr hq q0 q1 q2 q3)
    go_ret
    exact ⟨rfl, H.out.1, H.out.2⟩
  · rw [if_neg hk]
    obtain ⟨k, hkk⟩ : ∃ k, t.next.kind = k := ⟨_, rfl⟩
    obtain ⟨i, hi⟩ : ∃ i, t.next.i = i := ⟨_, rfl⟩
    rw [hkk, hs, hi, hp] at hN
    rw [hkk] at hk
    have hk1 : ¬ (k : Int) = 2 := by omega
    dsimp only
    clear hk hkk hs hi hp h
    go_enter Tryz.func102, Tryz.ntmps102
    go_wp2_with fail
    refine hN.mono ?_
    rintro e w1 ⟨rfl, hb1⟩
    obtain ⟨w2, hw2⟩ : ∃ w2, w2 = w1.alloc (.cells #[.int .u8 (k : Int), .string s, .int .i64 (i : Int), .int .i64 (p : Int)] 90) := ⟨_, rfl⟩
    have HB2 : Hid (Below w.heap.size w w2) := Lib.hid (by rw [hw2]; exact hb1.trans ((below_alloc _ _).mono hb1.size))
    clear hb1 hN
    obtain ⟨vx, M, hrx⟩ := HR.out.kept HB2.out
    have d1 : w2.cell? ⟨B, 1, none⟩ = some (.bool t.wrong) := bk_cell hrx.at_ 1
    have e1 := bk_free hrx.at_ 1
    have HX := Lib.hid hrx
    rw [hw2] at d1 e1
    clear hrx
    go_wp2_with fail
    go_ret
    rw [← hw2]
    exact ⟨rfl, ⟨vx, M, HX.out.bad⟩, (Turn.of_below HB2.out).trans (Turn.setCell _ _ _ _ rfl)⟩
set_option maxHeartbeats 2000000 in
theorem condition_tr (N B n : Nat) (self : St → Ex × St) (hself : ReadsX N B n 35 self) (s : ByteArray) (hs : s.data.toList ≠ []) (t : St) (w : World) (h : RdAt N w B t) (ht : t.rest.length ≤ n) :
    Calls Tryz.prog 97 #[.pointer (some ⟨B, 0, none⟩), .string s] w (GivesX N B (condP self s.data.toList t) w) := by
  have F0 := Lib.hid (Fr.start h)
  unfold condP
  cases hb : t.has s.data.toList with
  | false =>
    rw [if_neg (by simp)]
    have hT := take_no N B t s _ F0.out.rd hb
    unfold zeroE at hT
    clear h hb
    go_enter Tryz.func97, Tryz.ntmps97
    go_wp2_with fail
    refine hT.mono ?_
    rintro e w1 ⟨rfl, hr, hbl⟩
    have F1 := Lib.hid (F0.out.new hbl)
    clear hr hbl hT
    go_wp2_with (refine wpList_store_ex rfl _ _ rfl w.heap.size noE.a (.slice none 0 0) rfl rfl rfl _ F1.out.res rfl ?_)
    refine bodyPost_ret (ex_results (R := w.heap.size) (a := noE.a) (u := .slice none 0 0) Tryz.results97 (ExB.set F1.out.res _ _) rfl) rfl ?_
    exact F1.out.done (REs.nil _ _)
  | true =>
    rw [if_pos rfl]
    have hT := take_yes N B t s _ F0.out.rd hb hs
    have hC := fun w h => hself t.step w h (Nat.le_trans t.step_le ht)
    obtain ⟨r, hr⟩ : ∃ r, self t.step = r := ⟨_, rfl⟩
    rw [hr] at hC ⊢
    unfold zeroE at hT
    clear h hb hr
    go_enter Tryz.func97, Tryz.ntmps97
    go_wp2_with fail
    refine hT.mono ?_
    rintro e w1 ⟨rfl, hr, hq⟩
    have F1 := Lib.hid (F0.out.call hr hq)
    clear hr hq hT
    go_wp2_with fail
    refine (hC w1 F1.out.rd).mono ?_
    rintro e w2 ⟨u2, rfl, hs2, hr, hq⟩
    have o2 := hs2.one
    have F2 := Lib.hid (F1.out.call hr hq)
    have S2 := Lib.hid (F1.out.got hs2)
    clear hs2 hr hq hC
    go_wp2_with (refine wpList_store_ex rfl _ _ rfl w.heap.size r.1.a u2 rfl rfl o2 _ F2.out.res rfl ?_)
    refine bodyPost_ret (ex_results (R := w.heap.size) (a := r.1.a) (u := u2) Tryz.results97 (ExB.set F2.out.res _ _) rfl) rfl ?_
    exact F2.out.done S2.out
theorem row_tr (N B n : Nat) (hn : n ≤ 900000) (self : St → Ex × St) (hself : ReadsX N B n 35 self) (hle : Le self) : ReadsT rowE N B n 105 (rowP self) := by
  intro t w h ht
  have hmf : ∀ (fn : Fn) (first cap : Array Value) (w : World), (Instr.makeFunc fn first cap).run Tryz.prog w = .ok (.func fn first cap) w := fun _ _ _ _ => rfl
  have hC := enclosedEx_tr N B n 35 hn (fun _ _ => by kernel_rfl) self hself.row hle t w h ht
  unfold rowP
  obtain ⟨r, hr⟩ : ∃ r, enclosedP self t = r := ⟨_, rfl⟩
  rw [hr] at hC ⊢
  clear hr h
  go_enter Tryz.func105, Tryz.ntmps105
  go_wp2_with fail
  refine hC.mono ?_
  rintro e w1 ⟨v, rfl, hrow, hr, hq⟩
  obtain ⟨av, cv, hv, _⟩ := hrow.slice
  subst hv
  have H := Lib.hid (And.intro (REs.of_row hrow) (And.intro hr hq))
  clear hrow hr hq hC
  go_wp2_with fail
  go_ret
  exact ⟨_, _, rfl, rfl, ⟨_, rfl, H.out.1⟩, H.out.2.1, H.out.2.2⟩
end
section
open Go.RowKit Go.Shelf
set_option linter.unusedVariables false

/-- a call under way whose result, of any kind, lies in block R -/
structure Fz (N B R : Nat) (T : TypeId) (cs : Array Value) (w wi : World) (t : St) : Prop where
  rd : RdAt N wi B t
  turn : Turn (· = B) w wi
  res : wi.heap[R]? = some (.cells cs T (0, 0))
  hB : B < w.heap.size
  hR : w.heap.size ≤ R
  hN : N ≤ R
theorem Fz.start {N B : Nat} {w : World} {t : St} (T : TypeId) (cs : Array Value) (h : RdAt N w B t) : Fz N B w.heap.size T cs w (w.alloc (.cells cs T)) t :=
  ⟨h.kept (below_alloc _ _), Turn.alloc _ _ _, heap_alloc_new _ _, h.lt, Nat.le_refl _, h.le⟩
theorem Fz.call {N B R : Nat} {T : TypeId} {cs : Array Value} {w wi wj : World} {t t' : St} (h : Fz N B R T cs w wi t) (hr : RdAt N wj B t') (ht : Turn (· = B) wi wj) : Fz N B R T cs w wj t' :=
  ⟨hr, h.turn.trans ht, (ht.block R (bk_lt h.res) (fun e => by have := h.hB; have := h.hR; omega)).trans h.res, h.hB, h.hR, h.hN⟩
theorem Fz.new {N B R : Nat} {T : TypeId} {cs : Array Value} {w wi wj : World} {t : St} (h : Fz N B R T cs w wi t) (hb : Below wi.heap.size wi wj) : Fz N B R T cs w wj t := h.call (h.rd.kept hb) (Turn.of_below hb)
theorem Fz.past {N B R : Nat} {T : TypeId} {cs : Array Value} {w wi : World} {t : St} (h : Fz N B R T cs w wi t) {k : Nat} (hk : wi.heap.size ≤ k) : R < k := Nat.lt_of_lt_of_le (bk_lt h.res) hk
theorem Fz.notB {N B R : Nat} {T : TypeId} {cs : Array Value} {w wi : World} {t : St} (h : Fz N B R T cs w wi t) {k : Nat} (hk : R < k) : ¬ k = B := by have := h.hB; have := h.hR; omega
theorem Fz.got {N B R : Nat} {T : TypeId} {cs : Array Value} {w wi wj : World} {t : St} {u : Value} {l : Exs} (h : Fz N B R T cs w wi t) (hs : REs (wi.heap.size ≤ ·) wj u l) : REs (R < ·) wj u l := hs.mono fun k hk _ => h.past hk
theorem Fz.keep {N B R : Nat} {T : TypeId} {cs : Array Value} {w wi wj : World} {t : St} {u : Value} {l : Exs} (h : Fz N B R T cs w wi t) (hs : REs (R < ·) wi u l) (ht : Turn (· = B) wi wj) : REs (R < ·) wj u l := hs.turn ht fun k hk => h.notB hk
theorem Fz.far {N B R : Nat} {T : TypeId} {cs : Array Value} {w wi wj : World} {t : St} {S : Nat → Prop} (h : Fz N B R T cs w wi t) (ht : Turn S wi wj) (hS : ∀ k, S k → R < k) : Fz N B R T cs w wj t :=
  ⟨h.rd.far ht (fun k hk => by have := h.hN; have := hS k hk; omega), h.turn.next ht (fun k hk e => by have := h.hR; have := hS k e; omega), (ht.block R (bk_lt h.res) (fun e => Nat.lt_irrefl _ (hS R e))).trans h.res, h.hB, h.hR, h.hN⟩
theorem Fz.setRow {N B R : Nat} {T : TypeId} {cs : Array Value} {w wi : World} {t : St} (h : Fz N B R T cs w wi t) {X : Nat} (hX : R < X) (cs2 : Array Value) : Fz N B R T cs w (wi.setRow X cs2) t :=
  h.far (Turn.setRow (· = X) _ _ _ rfl) (fun k hk => by omega)
theorem Fz.end_ {N B R : Nat} {T : TypeId} {cs : Array Value} {w wi : World} {t : St} (h : Fz N B R T cs w wi t) (cs2 : Array Value) : RdAt N (wi.setRow R cs2) B t ∧ Turn (· = B) w (wi.setRow R cs2) := by
  have ht : Turn (· = R) wi (wi.setRow R cs2) := Turn.setRow _ _ _ _ rfl
  exact ⟨h.rd.far ht (fun k hk => by have := h.hN; omega), h.turn.next ht (fun k hk e => by have := h.hR; omega)⟩
theorem Fz.done {α : Type} {E : Elt α} {N B R : Nat} {T : TypeId} {cs : Array Value} {w wi : World} {t : St} (h : Fz N B R T cs w wi t) {cs2 : List Value} {x : α} (hx : E.is (R < ·) wi cs2 x) {A : Array Value} (hA : A = cs2.toArray) :
    ∃ V cs, (Ending.returned (.agg A)) = .returned V ∧ V.cells = List.toArray cs ∧ E.is (w.heap.size ≤ ·) (wi.setRow R A) cs x ∧ RdAt N (wi.setRow R A) B t ∧ Turn (· = B) w (wi.setRow R A) := by
  subst hA
  have ht : Turn (· = R) wi (wi.setRow R cs2.toArray) := Turn.setRow _ _ _ _ rfl
  refine ⟨_, cs2, rfl, rfl, ?_, (h.end_ _).1, (h.end_ _).2⟩
  exact E.mono (E.kept hx ht.size (fun k hk hlt => ht.block k hlt (by omega))) (fun k hk _ => by have := h.hR; have hk' : R < k := hk; show w.heap.size ≤ k; omega)
theorem set11 {w : World} {g : Nat} {o0 o1 o2 o3 o4 o5 o6 o7 o8 o9 o10 : Value} {t : TypeId} (h : w.heap[g]? = some (.cells #[o0, o1, o2, o3, o4, o5, o6, o7, o8, o9, o10] t (0, 0))) (a0 a1 a2 a3 a4 a5 a6 a7 a8 a9 a10 : Value) :
    (((((((((((w.setCell ⟨g, 0, none⟩ a0).setCell ⟨g, 1, none⟩ a1).setCell ⟨g, 2, none⟩ a2).setCell ⟨g, 3, none⟩ a3).setCell ⟨g, 4, none⟩ a4).setCell ⟨g, 5, none⟩ a5).setCell ⟨g, 6, none⟩ a6).setCell ⟨g, 7, none⟩ a7).setCell ⟨g, 8, none⟩ a8).setCell ⟨g, 9, none⟩ a9).setCell ⟨g, 10, none⟩ a10) = w.setRow g #[a0, a1, a2, a3, a4, a5, a6, a7, a8, a9, a10] := by
  have key : ∀ (cs : Array Value) (i : Nat) (v : Value), (w.setRow g cs).setCell ⟨g, i, none⟩ v = w.setRow g (cs.setIfInBounds i v) := fun cs i v => by
    rw [setCell_eq_setRow _ g i cs t (0, 0) v (setRow_heap w g _ _ _ _ h), setRow_setRow]
  have e0 : w.setCell ⟨g, 0, none⟩ a0 = w.setRow g #[a0, o1, o2, o3, o4, o5, o6, o7, o8, o9, o10] := (setCell_eq_setRow w g 0 _ t (0, 0) a0 h).trans (congrArg (w.setRow g) rfl)
  have e1 : (w.setRow g #[a0, o1, o2, o3, o4, o5, o6, o7, o8, o9, o10]).setCell ⟨g, 1, none⟩ a1 = w.setRow g #[a0, a1, o2, o3, o4, o5, o6, o7, o8, o9, o10] := (key _ 1 a1).trans (congrArg (w.setRow g) rfl)
  have e2 : (w.setRow g #[a0, a1, o2, o3, o4, o5, o6, o7, o8, o9, o10]).setCell ⟨g, 2, none⟩ a2 = w.setRow g #[a0, a1, a2, o3, o4, o5, o6, o7, o8, o9, o10] := (key _ 2 a2).trans (congrArg (w.setRow g) rfl)
  have e3 : (w.setRow g #[a0, a1, a2, o3, o4, o5, o6, o7, o8, o9, o10]).setCell ⟨g, 3, none⟩ a3 = w.setRow g #[a0, a1, a2, a3, o4, o5, o6, o7, o8, o9, o10] := (key _ 3 a3).trans (congrArg (w.setRow g) rfl)
  have e4 : (w.setRow g #[a0, a1, a2, a3, o4, o5, o6, o7, o8, o9, o10]).setCell ⟨g, 4, none⟩ a4 = w.setRow g #[a0, a1, a2, a3, a4, o5, o6, o7, o8, o9, o10] := (key _ 4 a4).trans (congrArg (w.setRow g) rfl)
  have e5 : (w.setRow g #[a0, a1, a2, a3, a4, o5, o6, o7, o8, o9, o10]).setCell ⟨g, 5, none⟩ a5 = w.setRow g #[a0, a1, a2, a3, a4, a5, o6, o7, o8, o9, o10] := (key _ 5 a5).trans (congrArg (w.setRow g) rfl)
  have e6 : (w.setRow g #[a0, a1, a2, a3, a4, a5, o6, o7, o8, o9, o10]).setCell ⟨g, 6, none⟩ a6 = w.setRow g #[a0, a1, a2, a3, a4, a5, a6, o7, o8, o9, o10] := (key _ 6 a6).trans (congrArg (w.setRow g) rfl)
  have e7 : (w.setRow g #[a0, a1, a2, a3, a4, a5, a6, o7, o8, o9, o10]).setCell ⟨g, 7, none⟩ a7 = w.setRow g #[a0, a1, a2, a3, a4, a5, a6, a7, o8, o9, o10] := (key _ 7 a7).trans (congrArg (w.setRow g) rfl)
  have e8 : (w.setRow g #[a0, a1, a2, a3, a4, a5, a6, a7, o8, o9, o10]).setCell ⟨g, 8, none⟩ a8 = w.setRow g #[a0, a1, a2, a3, a4, a5, a6, a7, a8, o9, o10] := (key _ 8 a8).trans (congrArg (w.setRow g) rfl)
  have e9 : (w.setRow g #[a0, a1, a2, a3, a4, a5, a6, a7, a8, o9, o10]).setCell ⟨g, 9, none⟩ a9 = w.setRow g #[a0, a1, a2, a3, a4, a5, a6, a7, a8, a9, o10] := (key _ 9 a9).trans (congrArg (w.setRow g) rfl)
  have e10 : (w.setRow g #[a0, a1, a2, a3, a4, a5, a6, a7, a8, a9, o10]).setCell ⟨g, 10, none⟩ a10 = w.setRow g #[a0, a1, a2, a3, a4, a5, a6, a7, a8, a9, a10] := (key _ 10 a10).trans (congrArg (w.setRow g) rfl)
  rw [e0, e1, e2, e3, e4, e5, e6, e7, e8, e9, e10]

set_option maxRecDepth 100000 in
set_option maxHeartbeats 4000000 in
theorem asg_tr (N B n : Nat) (self : St → Ex × St) (hself : ReadsX N B n 35 self) (hle : Le self) : ReadsT asgE N B n 107 (asgP self) := by
  intro t w h ht
  have F0 := Lib.hid (Fz.start 155 #[.string ⟨#[]⟩, .int .u8 0, .int .u8 0, .string ⟨#[]⟩, .string ⟨#[]⟩, .int .u8 0, .int .i64 0, .string ⟨#[]⟩, .bool false, .slice none 0 0] h)
  have hN := name_tr N B t _ F0.out.rd
  have hC := fun w h => hself ((nameP t).2.need wEq) w h (Nat.le_trans (St.need_le _ _) (Nat.le_trans (nameP_le t) ht))
  unfold asgP
  obtain ⟨nm, hnm⟩ : ∃ nm, (nameP t).1 = nm := ⟨_, rfl⟩
  obtain ⟨t1, ht1⟩ : ∃ t1, (nameP t).2 = t1 := ⟨_, rfl⟩
  rw [ht1] at hC
  rw [hnm, ht1] at hN ⊢
  obtain ⟨r, hr⟩ : ∃ r, self (t1.need wEq) = r := ⟨_, rfl⟩
  rw [hr] at hC ⊢
  clear h hnm ht1 hr
  go_enter Tryz.func107, Tryz.ntmps107
  go_wp2_with fail
  refine hN.mono ?_
  rintro e w1 ⟨rfl, hr, hq⟩
  have F1 := Lib.hid (F0.out.call hr hq)
  clear hr hq hN
  go_wp2_with fail
  refine (need_any N B t1 ⟨#[61]⟩ w1 F1.out.rd (by decide)).mono ?_
  rintro e w2 ⟨rfl, hr, hq⟩
  have F2 := Lib.hid (F1.out.call hr hq)
  clear hr hq
  go_wp2_with fail
  refine (hC w2 F2.out.rd).mono ?_
  rintro e w3 ⟨u3, rfl, hs, hr, hq⟩
  obtain ⟨a3, n3, c3, hu⟩ := hs.slice
  subst hu
  have F3 := Lib.hid (F2.out.call hr hq)
  have S3 := Lib.hid (F2.out.got hs)
  clear hs hr hq hC
  unfold exVal
  go_wp2_with (refine wpList_store_row rfl 155 _ _ rfl w.heap.size #[.string (strU nm), .int .u8 (r.1.a.kind : Int), .int .u8 (r.1.a.op : Int), .string (strU r.1.a.table), .string (strU r.1.a.name), .int .u8 (r.1.a.vk : Int), .int .i64 r.1.a.vi, .string (strU r.1.a.vs), .bool r.1.a.star, .slice a3 n3 c3] rfl rfl _ _ F3.out.res (by kernel_rfl) rfl (by simp [Value.oneCell']) ?_)
  refine bodyPost_ret (results_cell_row Tryz.results107 _ _ w.heap.size 155 #[.string (strU nm), .int .u8 (r.1.a.kind : Int), .int .u8 (r.1.a.op : Int), .string (strU r.1.a.table), .string (strU r.1.a.name), .int .u8 (r.1.a.vk : Int), .int .i64 r.1.a.vi, .string (strU r.1.a.vs), .bool r.1.a.star, .slice a3 n3 c3] (0, 0) _ rfl (setRow_heap _ _ _ _ _ _ F3.out.res) Tryz.underlying155 rfl (by kernel_rfl)) rfl ?_
  exact F3.out.done (E := asgE) ⟨_, rfl, S3.out⟩ rfl

set_option maxRecDepth 100000 in
set_option maxHeartbeats 4000000 in
theorem item_tr (N B n : Nat) (self : St → Ex × St) (hself : ReadsX N B n 35 self) (hle : Le self) : ReadsT itemE N B n 135 (itemP self) := by
  intro t w h ht
  have F0 := Lib.hid (Fz.start 49 #[.int .u8 0, .int .u8 0, .string ⟨#[]⟩, .string ⟨#[]⟩, .int .u8 0, .int .i64 0, .string ⟨#[]⟩, .bool false, .slice none 0 0, .string ⟨#[]⟩, .bool false] h)
  have hC := hself t _ F0.out.rd ht
  unfold GivesX at hC
  unfold itemP
  obtain ⟨x, hx⟩ : ∃ x, (self t).1 = x := ⟨_, rfl⟩
  obtain ⟨t1, ht1⟩ : ∃ t1, (self t).2 = t1 := ⟨_, rfl⟩
  rw [hx, ht1] at hC ⊢
  obtain ⟨r, hr⟩ : ∃ r, aliasP t1 = r := ⟨_, rfl⟩
  have hL := fun w h => alias_tr N B t1 w h
  rw [hr] at hL ⊢
  obtain ⟨al, t2⟩ := r
  dsimp only at hL ⊢
  clear h hx ht1 hr
  go_enter Tryz.func135, Tryz.ntmps135
  go_wp2_with fail
  refine hC.mono ?_
  rintro e w1 ⟨u1, rfl, hs, hr, hq⟩
  obtain ⟨a1, n1, c1, hu⟩ := hs.slice
  subst hu
  have F1 := Lib.hid (F0.out.call hr hq)
  have S1 := Lib.hid (F0.out.got hs)
  clear hs hr hq hC
  obtain ⟨w2, hw2⟩ : ∃ w2, w2 = w1.alloc (.cells (exArr x.a (.slice a1 n1 c1)) 36) := ⟨_, rfl⟩
  have F2 : Hid (Fz N B w.heap.size 49 #[.int .u8 0, .int .u8 0, .string ⟨#[]⟩, .string ⟨#[]⟩, .int .u8 0, .int .i64 0, .string ⟨#[]⟩, .bool false, .slice none 0 0, .string ⟨#[]⟩, .bool false] w w2 t1) := Lib.hid (by rw [hw2]; exact F1.out.new (below_alloc _ _))
  have X2 : Hid (ExB w2 w1.heap.size x.a (.slice a1 n1 c1)) := Lib.hid (by rw [hw2]; exact heap_alloc_new _ _)
  have S2 : Hid (REs (w.heap.size < ·) w2 (.slice a1 n1 c1) x.l) := Lib.hid (by rw [hw2]; exact S1.out.below (below_alloc _ _))
  have HXB : Hid (¬ w1.heap.size = B) := Lib.hid (by have := F1.out.hB; have := F1.out.hR; have := bk_lt F1.out.res; omega)
  have HL := Lib.hid (hL w2.drew (F2.out.rd.kept (below_drew' _)))
  obtain ⟨d0, d1, d2, d3, d4, d5, d6, d7, d8⟩ := X2.out.cells
  unfold exArr at hw2
  unfold exVal
  clear F1 S1 hL
  subst hw2
  go_wp2_with fail
  go_region_with ((first
    | (go_at_call 158; refine HL.out.mono ?_; rintro e v2 ⟨rfl, hr, hq⟩; have F3 := Lib.hid (F2.out.call hr ((Turn.drew _ _).trans hq)); have X3 := Lib.hid (X2.out.turn ((Turn.drew _ _).trans hq) HXB.out); have S3 := Lib.hid (F2.out.keep S2.out ((Turn.drew _ _).trans hq)); clear hr hq; obtain ⟨g0, g1, g2, g3, g4, g5, g6, g7, g8⟩ := X3.out.cells; have r0 : v2.cell? ⟨w.heap.size, 0, none⟩ = some (.int .u8 0) := bk_cell F3.out.res 0; have rz0 : v2.frozen? ⟨w.heap.size, 0, none⟩ = false := bk_free F3.out.res 0; have r1 : v2.cell? ⟨w.heap.size, 1, none⟩ = some (.int .u8 0) := bk_cell F3.out.res 1; have rz1 : v2.frozen? ⟨w.heap.size, 1, none⟩ = false := bk_free F3.out.res 1; have r2 : v2.cell? ⟨w.heap.size, 2, none⟩ = some (.string ⟨#[]⟩) := bk_cell F3.out.res 2; have rz2 : v2.frozen? ⟨w.heap.size, 2, none⟩ = false := bk_free F3.out.res 2; have r3 : v2.cell? ⟨w.heap.size, 3, none⟩ = some (.string ⟨#[]⟩) := bk_cell F3.out.res 3; have rz3 : v2.frozen? ⟨w.heap.size, 3, none⟩ = false := bk_free F3.out.res 3; have r4 : v2.cell? ⟨w.heap.size, 4, none⟩ = some (.int .u8 0) := bk_cell F3.out.res 4; have rz4 : v2.frozen? ⟨w.heap.size, 4, none⟩ = false := bk_free F3.out.res 4; have r5 : v2.cell? ⟨w.heap.size, 5, none⟩ = some (.int .i64 0) := bk_cell F3.out.res 5; have rz5 : v2.frozen? ⟨w.heap.size, 5, none⟩ = false := bk_free F3.out.res 5; have r6 : v2.cell? ⟨w.heap.size, 6, none⟩ = some (.string ⟨#[]⟩) := bk_cell F3.out.res 6; have rz6 : v2.frozen? ⟨w.heap.size, 6, none⟩ = false := bk_free F3.out.res 6; have r7 : v2.cell? ⟨w.heap.size, 7, none⟩ = some (.bool false) := bk_cell F3.out.res 7; have rz7 : v2.frozen? ⟨w.heap.size, 7, none⟩ = false := bk_free F3.out.res 7; have r8 : v2.cell? ⟨w.heap.size, 8, none⟩ = some (.slice none 0 0) := bk_cell F3.out.res 8; have rz8 : v2.frozen? ⟨w.heap.size, 8, none⟩ = false := bk_free F3.out.res 8; have r9 : v2.cell? ⟨w.heap.size, 9, none⟩ = some (.string ⟨#[]⟩) := bk_cell F3.out.res 9; have rz9 : v2.frozen? ⟨w.heap.size, 9, none⟩ = false := bk_free F3.out.res 9; have r10 : v2.cell? ⟨w.heap.size, 10, none⟩ = some (.bool false) := bk_cell F3.out.res 10; have rz10 : v2.frozen? ⟨w.heap.size, 10, none⟩ = false := bk_free F3.out.res 10; skip)))
  all_goals
    rw [set11 F3.out.res]
    clear r0 rz0 r1 rz1 r2 rz2 r3 rz3 r4 rz4 r5 rz5 r6 rz6 r7 rz7 r8 rz8 r9 rz9 r10 rz10
    go_wp2_with fail
    refine bodyPost_ret (results_cell_row Tryz.results135 _ _ w.heap.size 49 #[.int .u8 (x.a.kind : Int), .int .u8 (x.a.op : Int), .string (strU x.a.table), .string (strU x.a.name), .int .u8 (x.a.vk : Int), .int .i64 x.a.vi, .string (strU x.a.vs), .bool x.a.star, .slice a1 n1 c1, .string (strU al), .bool false] (0, 0) _ rfl (setRow_heap _ _ _ _ _ _ F3.out.res) Tryz.underlying49 rfl (by kernel_rfl)) rfl ?_
    exact F3.out.done (E := itemE) (x := ⟨x, al, false⟩) ⟨_, rfl, S3.out⟩ rfl
end
section
open Go.RowKit Go.Shelf
set_option linter.unusedVariables false

theorem flag_tr (N B : Nat) (s : ByteArray) (hs : s.data.toList ≠ []) (t : St) (w : World) (h : RdAt N w B t) :
    Calls Tryz.prog 54 #[.pointer (some ⟨B, 0, none⟩), .string s] w fun e w' => e = .returned (.bool (flagP s.data.toList t).1) ∧ RdAt N w' B (flagP s.data.toList t).2 ∧ Turn (· = B) w w' := by
  unfold flagP
  cases hb : t.has s.data.toList with
  | true => rw [if_pos rfl]; exact take_yes N B t s w h hb hs
  | false =>
    rw [if_neg (by simp)]
    exact (take_no N B t s w h hb).mono fun e w' ⟨he, hr, hbl⟩ => ⟨he, hr, Turn.of_below hbl⟩

set_option maxRecDepth 100000 in
set_option maxHeartbeats 4000000 in
theorem order_down (N B n : Nat) (self : St → Ex × St) (hself : ReadsX N B n 35 self) (hle : Le self) (t : St) (w : World) (h : RdAt N w B t) (ht : t.rest.length ≤ n) (x : Ex) (t1 : St) (hx : (self t).1 = x) (ht1 : (self t).2 = t1) (hb : t1.has wDesc = true) :
    Calls Tryz.prog 101 #[.pointer (some ⟨B, 0, none⟩)] w fun e w' => ∃ V cs, e = .returned V ∧ V.cells = List.toArray cs ∧ orderE.is (w.heap.size ≤ ·) w' cs ⟨x, true⟩ ∧ RdAt N w' B (t1.step) ∧ Turn (· = B) w w' := by
  have F0 := Lib.hid (Fz.start 51 #[.int .u8 0, .int .u8 0, .string ⟨#[]⟩, .string ⟨#[]⟩, .int .u8 0, .int .i64 0, .string ⟨#[]⟩, .bool false, .slice none 0 0, .bool false] h)
  have hC := hself t _ F0.out.rd ht
  unfold GivesX at hC
  rw [hx, ht1] at hC
  clear h hx ht1
  go_enter Tryz.func101, Tryz.ntmps101
  go_wp2_with fail
  refine hC.mono ?_
  rintro e w1 ⟨u1, rfl, hs, hr, hq⟩
  obtain ⟨a1, n1, c1, hu⟩ := hs.slice
  subst hu
  have F1 := Lib.hid (F0.out.call hr hq)
  have S1 := Lib.hid (F0.out.got hs)
  clear hs hr hq hC
  obtain ⟨w2, hw2⟩ : ∃ w2, w2 = w1.alloc (.cells #[.int .u8 (x.a.kind : Int), .int .u8 (x.a.op : Int), .string (strU x.a.table), .string (strU x.a.name), .int .u8 (x.a.vk : Int), .int .i64 x.a.vi, .string (strU x.a.vs), .bool x.a.star, .slice a1 n1 c1, .bool false] 51) := ⟨_, rfl⟩
  have F2 : Hid (Fz N B w.heap.size 51 #[.int .u8 0, .int .u8 0, .string ⟨#[]⟩, .string ⟨#[]⟩, .int .u8 0, .int .i64 0, .string ⟨#[]⟩, .bool false, .slice none 0 0, .bool false] w w2 t1) := Lib.hid (by rw [hw2]; exact F1.out.new (below_alloc _ _))
  have X2 : Hid (w2.heap[w1.heap.size]? = some (.cells #[.int .u8 (x.a.kind : Int), .int .u8 (x.a.op : Int), .string (strU x.a.table), .string (strU x.a.name), .int .u8 (x.a.vk : Int), .int .i64 x.a.vi, .string (strU x.a.vs), .bool x.a.star, .slice a1 n1 c1, .bool false] 51 (0, 0))) := Lib.hid (by rw [hw2]; exact heap_alloc_new _ _)
  have S2 : Hid (REs (fun k => w.heap.size < k ∧ k ≠ w1.heap.size) w2 (.slice a1 n1 c1) x.l) := Lib.hid (by rw [hw2]; exact (S1.out.mono fun k hk hlt => ⟨hk, by omega⟩).below (below_alloc _ _))
  have HXB : Hid (w.heap.size < w1.heap.size ∧ ¬ w1.heap.size = B) := Lib.hid ⟨bk_lt F1.out.res, by have := F1.out.hB; have := F1.out.hR; have := bk_lt F1.out.res; omega⟩
  clear F1 S1
  unfold exVal
  go_wp2_with (first
    | (go_at_call 54; rw [← hw2]; refine (take_yes N B t1 ⟨#[100, 101, 115, 99]⟩ w2 F2.out.rd hb (by decide)).mono ?_; rintro e w3 ⟨rfl, hr, hq⟩; have F3 := Lib.hid (F2.out.call hr hq); have X3 := Lib.hid (((hq.block _ (bk_lt X2.out) HXB.out.2)).trans X2.out); have S3 := Lib.hid (S2.out.turn hq (fun k hk => F2.out.notB hk.1)); clear hr hq; have c9 : w3.cell? ⟨w1.heap.size, 9, none⟩ = some (.bool false) := bk_cell X3.out 9; have z9 : w3.frozen? ⟨w1.heap.size, 9, none⟩ = false := bk_free X3.out 9; have HS : Hid (w3.setCell ⟨w1.heap.size, 9, none⟩ (.bool true) = w3.setRow w1.heap.size #[.int .u8 (x.a.kind : Int), .int .u8 (x.a.op : Int), .string (strU x.a.table), .string (strU x.a.name), .int .u8 (x.a.vk : Int), .int .i64 x.a.vi, .string (strU x.a.vs), .bool x.a.star, .slice a1 n1 c1, .bool true]) := Lib.hid ((setCell_eq_setRow w3 w1.heap.size 9 _ _ _ (.bool true) X3.out).trans (congrArg (w3.setRow w1.heap.size) rfl)); have F4 : Hid (Fz N B w.heap.size 51 #[.int .u8 0, .int .u8 0, .string ⟨#[]⟩, .string ⟨#[]⟩, .int .u8 0, .int .i64 0, .string ⟨#[]⟩, .bool false, .slice none 0 0, .bool false] w (w3.setCell ⟨w1.heap.size, 9, none⟩ (.bool true)) (t1.step)) := Lib.hid (by rw [HS.out]; exact F3.out.setRow HXB.out.1 _); have X4 : Hid ((w3.setCell ⟨w1.heap.size, 9, none⟩ (.bool true)).heap[w1.heap.size]? = some (.cells #[.int .u8 (x.a.kind : Int), .int .u8 (x.a.op : Int), .string (strU x.a.table), .string (strU x.a.name), .int .u8 (x.a.vk : Int), .int .i64 x.a.vi, .string (strU x.a.vs), .bool x.a.star, .slice a1 n1 c1, .bool true] 51 (0, 0))) := Lib.hid (by rw [HS.out]; exact setRow_heap _ _ _ _ _ _ X3.out); have S4 : Hid (REs (w.heap.size < ·) (w3.setCell ⟨w1.heap.size, 9, none⟩ (.bool true)) (.slice a1 n1 c1) x.l) := Lib.hid (by rw [HS.out]; exact (S3.out.turn (Turn.setRow (· = w1.heap.size) _ _ _ rfl) (fun k hk => hk.2)).mono fun k hk _ => hk.1))
    | (refine wpList_load_row rfl 51 _ rfl w1.heap.size rfl _ #[.int .u8 (x.a.kind : Int), .int .u8 (x.a.op : Int), .string (strU x.a.table), .string (strU x.a.name), .int .u8 (x.a.vk : Int), .int .i64 x.a.vi, .string (strU x.a.vs), .bool x.a.star, .slice a1 n1 c1, .bool true] (0, 0) _ X4.out Tryz.underlying51 rfl (by kernel_rfl) ?_)
    | (refine wpList_store_row rfl 51 _ _ rfl w.heap.size #[.int .u8 (x.a.kind : Int), .int .u8 (x.a.op : Int), .string (strU x.a.table), .string (strU x.a.name), .int .u8 (x.a.vk : Int), .int .i64 x.a.vi, .string (strU x.a.vs), .bool x.a.star, .slice a1 n1 c1, .bool true] rfl rfl _ _ F4.out.res (by kernel_rfl) rfl (by simp [Value.oneCell']) ?_))
  refine bodyPost_ret (results_cell_row Tryz.results101 _ _ w.heap.size 51 #[.int .u8 (x.a.kind : Int), .int .u8 (x.a.op : Int), .string (strU x.a.table), .string (strU x.a.name), .int .u8 (x.a.vk : Int), .int .i64 x.a.vi, .string (strU x.a.vs), .bool x.a.star, .slice a1 n1 c1, .bool true] (0, 0) _ rfl (setRow_heap _ _ _ _ _ _ F4.out.res) Tryz.underlying51 rfl (by kernel_rfl)) rfl ?_
  exact F4.out.done (E := orderE) (x := ⟨x, true⟩) ⟨_, rfl, S4.out⟩ rfl

set_option maxRecDepth 100000 in
set_option maxHeartbeats 4000000 in
theorem order_asc (N B n : Nat) (self : St → Ex × St) (hself : ReadsX N B n 35 self) (hle : Le self) (t : St) (w : World) (h : RdAt N w B t) (ht : t.rest.length ≤ n) (x : Ex) (t1 : St) (hx : (self t).1 = x) (ht1 : (self t).2 = t1) (hb : t1.has wDesc = false) (hb2 : t1.has wAsc = true) :
    Calls Tryz.prog 101 #[.pointer (some ⟨B, 0, none⟩)] w fun e w' => ∃ V cs, e = .returned V ∧ V.cells = List.toArray cs ∧ orderE.is (w.heap.size ≤ ·) w' cs ⟨x, false⟩ ∧ RdAt N w' B (t1.step) ∧ Turn (· = B) w w' := by
  have F0 := Lib.hid (Fz.start 51 #[.int .u8 0, .int .u8 0, .string ⟨#[]⟩, .string ⟨#[]⟩, .int .u8 0, .int .i64 0, .string ⟨#[]⟩, .bool false, .slice none 0 0, .bool false] h)
  have hC := hself t _ F0.out.rd ht
  unfold GivesX at hC
  rw [hx, ht1] at hC
  clear h hx ht1
  go_enter Tryz.func101, Tryz.ntmps101
  go_wp2_with fail
  refine hC.mono ?_
  rintro e w1 ⟨u1, rfl, hs, hr, hq⟩
  obtain ⟨a1, n1, c1, hu⟩ := hs.slice
  subst hu
  have F1 := Lib.hid (F0.out.call hr hq)
  have S1 := Lib.hid (F0.out.got hs)
  clear hs hr hq hC
  obtain ⟨w2, hw2⟩ : ∃ w2, w2 = w1.alloc (.cells #[.int .u8 (x.a.kind : Int), .int .u8 (x.a.op : Int), .string (strU x.a.table), .string (strU x.a.name), .int .u8 (x.a.vk : Int), .int .i64 x.a.vi, .string (strU x.a.vs), .bool x.a.star, .slice a1 n1 c1, .bool false] 51) := ⟨_, rfl⟩
  have F2 : Hid (Fz N B w.heap.size 51 #[.int .u8 0, .int .u8 0, .string ⟨#[]⟩, .string ⟨#[]⟩, .int .u8 0, .int .i64 0, .string ⟨#[]⟩, .bool false, .slice none 0 0, .bool false] w w2 t1) := Lib.hid (by rw [hw2]; exact F1.out.new (below_alloc _ _))
  have X2 : Hid (w2.heap[w1.heap.size]? = some (.cells #[.int .u8 (x.a.kind : Int), .int .u8 (x.a.op : Int), .string (strU x.a.table), .string (strU x.a.name), .int .u8 (x.a.vk : Int), .int .i64 x.a.vi, .string (strU x.a.vs), .bool x.a.star, .slice a1 n1 c1, .bool false] 51 (0, 0))) := Lib.hid (by rw [hw2]; exact heap_alloc_new _ _)
  have S2 : Hid (REs (fun k => w.heap.size < k ∧ k ≠ w1.heap.size) w2 (.slice a1 n1 c1) x.l) := Lib.hid (by rw [hw2]; exact (S1.out.mono fun k hk hlt => ⟨hk, by omega⟩).below (below_alloc _ _))
  have HXB : Hid (w.heap.size < w1.heap.size ∧ ¬ w1.heap.size = B) := Lib.hid ⟨bk_lt F1.out.res, by have := F1.out.hB; have := F1.out.hR; have := bk_lt F1.out.res; omega⟩
  clear F1 S1
  unfold exVal
  go_wp2_with (first
    | (go_at_call 54; rw [← hw2]; refine (take_no N B t1 ⟨#[100, 101, 115, 99]⟩ w2 F2.out.rd hb).mono ?_; rintro e w3 ⟨rfl, hr, hb⟩; have F3 := Lib.hid (F2.out.new hb); have X3 := Lib.hid ((hb.block _ (bk_lt X2.out)).trans X2.out); have S3 := Lib.hid (S2.out.below hb); clear hr hb; have c9 : w3.cell? ⟨w1.heap.size, 9, none⟩ = some (.bool false) := bk_cell X3.out 9; have z9 : w3.frozen? ⟨w1.heap.size, 9, none⟩ = false := bk_free X3.out 9; have HS : Hid (w3.setCell ⟨w1.heap.size, 9, none⟩ (.bool false) = w3.setRow w1.heap.size #[.int .u8 (x.a.kind : Int), .int .u8 (x.a.op : Int), .string (strU x.a.table), .string (strU x.a.name), .int .u8 (x.a.vk : Int), .int .i64 x.a.vi, .string (strU x.a.vs), .bool x.a.star, .slice a1 n1 c1, .bool false]) := Lib.hid ((setCell_eq_setRow w3 w1.heap.size 9 _ _ _ (.bool false) X3.out).trans (congrArg (w3.setRow w1.heap.size) rfl)); have F4 : Hid (Fz N B w.heap.size 51 #[.int .u8 0, .int .u8 0, .string ⟨#[]⟩, .string ⟨#[]⟩, .int .u8 0, .int .i64 0, .string ⟨#[]⟩, .bool false, .slice none 0 0, .bool false] w (w3.setCell ⟨w1.heap.size, 9, none⟩ (.bool false)) (t1)) := Lib.hid (by rw [HS.out]; exact F3.out.setRow HXB.out.1 _); have X4 : Hid ((w3.setCell ⟨w1.heap.size, 9, none⟩ (.bool false)).heap[w1.heap.size]? = some (.cells #[.int .u8 (x.a.kind : Int), .int .u8 (x.a.op : Int), .string (strU x.a.table), .string (strU x.a.name), .int .u8 (x.a.vk : Int), .int .i64 x.a.vi, .string (strU x.a.vs), .bool x.a.star, .slice a1 n1 c1, .bool false] 51 (0, 0))) := Lib.hid (by rw [HS.out]; exact setRow_heap _ _ _ _ _ _ X3.out); have S4 : Hid (REs (w.heap.size < ·) (w3.setCell ⟨w1.heap.size, 9, none⟩ (.bool false)) (.slice a1 n1 c1) x.l) := Lib.hid (by rw [HS.out]; exact (S3.out.turn (Turn.setRow (· = w1.heap.size) _ _ _ rfl) (fun k hk => hk.2)).mono fun k hk _ => hk.1))
    | (go_at_call 54; refine (take_yes N B t1 ⟨#[97, 115, 99]⟩ _ F4.out.rd hb2 (by decide)).mono ?_; rintro e w5 ⟨rfl, hr, hq⟩; have F5 := Lib.hid (F4.out.call hr hq); have X5 := Lib.hid (((hq.block _ (bk_lt X4.out) HXB.out.2)).trans X4.out); have S5 := Lib.hid (F4.out.keep S4.out hq); clear hr hq)
    | (refine wpList_load_row rfl 51 _ rfl w1.heap.size rfl _ #[.int .u8 (x.a.kind : Int), .int .u8 (x.a.op : Int), .string (strU x.a.table), .string (strU x.a.name), .int .u8 (x.a.vk : Int), .int .i64 x.a.vi, .string (strU x.a.vs), .bool x.a.star, .slice a1 n1 c1, .bool false] (0, 0) _ X5.out Tryz.underlying51 rfl (by kernel_rfl) ?_)
    | (refine wpList_store_row rfl 51 _ _ rfl w.heap.size #[.int .u8 (x.a.kind : Int), .int .u8 (x.a.op : Int), .string (strU x.a.table), .string (strU x.a.name), .int .u8 (x.a.vk : Int), .int .i64 x.a.vi, .string (strU x.a.vs), .bool x.a.star, .slice a1 n1 c1, .bool false] rfl rfl _ _ F5.out.res (by kernel_rfl) rfl (by simp [Value.oneCell']) ?_))
  refine bodyPost_ret (results_cell_row Tryz.results101 _ _ w.heap.size 51 #[.int .u8 (x.a.kind : Int), .int .u8 (x.a.op : Int), .string (strU x.a.table), .string (strU x.a.name), .int .u8 (x.a.vk : Int), .int .i64 x.a.vi, .string (strU x.a.vs), .bool x.a.star, .slice a1 n1 c1, .bool false] (0, 0) _ rfl (setRow_heap _ _ _ _ _ _ F5.out.res) Tryz.underlying51 rfl (by kernel_rfl)) rfl ?_
  exact F5.out.done (E := orderE) (x := ⟨x, false⟩) ⟨_, rfl, S5.out⟩ rfl

set_option maxRecDepth 100000 in
set_option maxHeartbeats 4000000 in
theorem order_none (N B n : Nat) (self : St → Ex × St) (hself : ReadsX N B n 35 self) (hle : Le self) (t : St) (w : World) (h : RdAt N w B t) (ht : t.rest.length ≤ n) (x : Ex) (t1 : St) (hx : (self t).1 = x) (ht1 : (self t).2 = t1) (hb : t1.has wDesc = false) (hb2 : t1.has wAsc = false) :
    Calls Tryz.prog 101 #[.pointer (some ⟨B, 0, none⟩)] w fun e w' => ∃ V cs, e = .returned V ∧ V.cells = List.toArray cs ∧ orderE.is (w.heap.size ≤ ·) w' cs ⟨x, false⟩ ∧ RdAt N w' B (t1) ∧ Turn (· = B) w w' := by
  have F0 := Lib.hid (Fz.start 51 #[.int .u8 0, .int .u8 0, .string ⟨#[]⟩, .string ⟨#[]⟩, .int .u8 0, .int .i64 0, .string ⟨#[]⟩, .bool false, .slice none 0 0, .bool false] h)
  have hC := hself t _ F0.out.rd ht
  unfold GivesX at hC
  rw [hx, ht1] at hC
  clear h hx ht1
  go_enter Tryz.func101, Tryz.ntmps101
  go_wp2_with fail
  refine hC.mono ?_
  rintro e w1 ⟨u1, rfl, hs, hr, hq⟩
  obtain ⟨a1, n1, c1, hu⟩ := hs.slice
  subst hu
  have F1 := Lib.hid (F0.out.call hr hq)
  have S1 := Lib.hid (F0.out.got hs)
  clear hs hr hq hC
  obtain ⟨w2, hw2⟩ : ∃ w2, w2 = w1.alloc (.cells #[.int .u8 (x.a.kind : Int), .int .u8 (x.a.op : Int), .string (strU x.a.table), .string (strU x.a.name), .int .u8 (x.a.vk : Int), .int .i64 x.a.vi, .string (strU x.a.vs), .bool x.a.star, .slice a1 n1 c1, .bool false] 51) := ⟨_, rfl⟩
  have F2 : Hid (Fz N B w.heap.size 51 #[.int .u8 0, .int .u8 0, .string ⟨#[]⟩, .string ⟨#[]⟩, .int .u8 0, .int .i64 0, .string ⟨#[]⟩, .bool false, .slice none 0 0, .bool false] w w2 t1) := Lib.hid (by rw [hw2]; exact F1.out.new (below_alloc _ _))
  have X2 : Hid (w2.heap[w1.heap.size]? = some (.cells #[.int .u8 (x.a.kind : Int), .int .u8 (x.a.op : Int), .string (strU x.a.table), .string (strU x.a.name), .int .u8 (x.a.vk : Int), .int .i64 x.a.vi, .string (strU x.a.vs), .bool x.a.star, .slice a1 n1 c1, .bool false] 51 (0, 0))) := Lib.hid (by rw [hw2]; exact heap_alloc_new _ _)
  have S2 : Hid (REs (fun k => w.heap.size < k ∧ k ≠ w1.heap.size) w2 (.slice a1 n1 c1) x.l) := Lib.hid (by rw [hw2]; exact (S1.out.mono fun k hk hlt => ⟨hk, by omega⟩).below (below_alloc _ _))
  have HXB : Hid (w.heap.size < w1.heap.size ∧ ¬ w1.heap.size = B) := Lib.hid ⟨bk_lt F1.out.res, by have := F1.out.hB; have := F1.out.hR; have := bk_lt F1.out.res; omega⟩
  clear F1 S1
  unfold exVal
  go_wp2_with (first
    | (go_at_call 54; rw [← hw2]; refine (take_no N B t1 ⟨#[100, 101, 115, 99]⟩ w2 F2.out.rd hb).mono ?_; rintro e w3 ⟨rfl, hr, hb⟩; have F3 := Lib.hid (F2.out.new hb); have X3 := Lib.hid ((hb.block _ (bk_lt X2.out)).trans X2.out); have S3 := Lib.hid (S2.out.below hb); clear hr hb; have c9 : w3.cell? ⟨w1.heap.size, 9, none⟩ = some (.bool false) := bk_cell X3.out 9; have z9 : w3.frozen? ⟨w1.heap.size, 9, none⟩ = false := bk_free X3.out 9; have HS : Hid (w3.setCell ⟨w1.heap.size, 9, none⟩ (.bool false) = w3.setRow w1.heap.size #[.int .u8 (x.a.kind : Int), .int .u8 (x.a.op : Int), .string (strU x.a.table), .string (strU x.a.name), .int .u8 (x.a.vk : Int), .int .i64 x.a.vi, .string (strU x.a.vs), .bool x.a.star, .slice a1 n1 c1, .bool false]) := Lib.hid ((setCell_eq_setRow w3 w1.heap.size 9 _ _ _ (.bool false) X3.out).trans (congrArg (w3.setRow w1.heap.size) rfl)); have F4 : Hid (Fz N B w.heap.size 51 #[.int .u8 0, .int .u8 0, .string ⟨#[]⟩, .string ⟨#[]⟩, .int .u8 0, .int .i64 0, .string ⟨#[]⟩, .bool false, .slice none 0 0, .bool false] w (w3.setCell ⟨w1.heap.size, 9, none⟩ (.bool false)) (t1)) := Lib.hid (by rw [HS.out]; exact F3.out.setRow HXB.out.1 _); have X4 : Hid ((w3.setCell ⟨w1.heap.size, 9, none⟩ (.bool false)).heap[w1.heap.size]? = some (.cells #[.int .u8 (x.a.kind : Int), .int .u8 (x.a.op : Int), .string (strU x.a.table), .string (strU x.a.name), .int .u8 (x.a.vk : Int), .int .i64 x.a.vi, .string (strU x.a.vs), .bool x.a.star, .slice a1 n1 c1, .bool false] 51 (0, 0))) := Lib.hid (by rw [HS.out]; exact setRow_heap _ _ _ _ _ _ X3.out); have S4 : Hid (REs (w.heap.size < ·) (w3.setCell ⟨w1.heap.size, 9, none⟩ (.bool false)) (.slice a1 n1 c1) x.l) := Lib.hid (by rw [HS.out]; exact (S3.out.turn (Turn.setRow (· = w1.heap.size) _ _ _ rfl) (fun k hk => hk.2)).mono fun k hk _ => hk.1))
    | (go_at_call 54; refine (take_no N B t1 ⟨#[97, 115, 99]⟩ _ F4.out.rd hb2).mono ?_; rintro e w5 ⟨rfl, hr, hb5⟩; have F5 := Lib.hid (F4.out.new hb5); have X5 := Lib.hid ((hb5.block _ (bk_lt X4.out)).trans X4.out); have S5 := Lib.hid (S4.out.below hb5); clear hr hb5)
    | (refine wpList_load_row rfl 51 _ rfl w1.heap.size rfl _ #[.int .u8 (x.a.kind : Int), .int .u8 (x.a.op : Int), .string (strU x.a.table), .string (strU x.a.name), .int .u8 (x.a.vk : Int), .int .i64 x.a.vi, .string (strU x.a.vs), .bool x.a.star, .slice a1 n1 c1, .bool false] (0, 0) _ X5.out Tryz.underlying51 rfl (by kernel_rfl) ?_)
    | (refine wpList_store_row rfl 51 _ _ rfl w.heap.size #[.int .u8 (x.a.kind : Int), .int .u8 (x.a.op : Int), .string (strU x.a.table), .string (strU x.a.name), .int .u8 (x.a.vk : Int), .int .i64 x.a.vi, .string (strU x.a.vs), .bool x.a.star, .slice a1 n1 c1, .bool false] rfl rfl _ _ F5.out.res (by kernel_rfl) rfl (by simp [Value.oneCell']) ?_))
  refine bodyPost_ret (results_cell_row Tryz.results101 _ _ w.heap.size 51 #[.int .u8 (x.a.kind : Int), .int .u8 (x.a.op : Int), .string (strU x.a.table), .string (strU x.a.name), .int .u8 (x.a.vk : Int), .int .i64 x.a.vi, .string (strU x.a.vs), .bool x.a.star, .slice a1 n1 c1, .bool false] (0, 0) _ rfl (setRow_heap _ _ _ _ _ _ F5.out.res) Tryz.underlying51 rfl (by kernel_rfl)) rfl ?_
  exact F5.out.done (E := orderE) (x := ⟨x, false⟩) ⟨_, rfl, S5.out⟩ rfl
theorem order_tr (N B n : Nat) (self : St → Ex × St) (hself : ReadsX N B n 35 self) (hle : Le self) : ReadsT orderE N B n 101 (orderP self) := by
  intro t w h ht
  unfold orderP
  cases hb : (self t).2.has wDesc with
  | true => rw [if_pos rfl]; exact order_down N B n self hself hle t w h ht _ _ rfl rfl hb
  | false =>
    rw [if_neg (by simp)]
    dsimp only
    cases hb2 : (self t).2.has wAsc with
    | true => rw [if_pos rfl]; exact order_asc N B n self hself hle t w h ht _ _ rfl rfl hb hb2
    | false => rw [if_neg (by simp)]; exact order_none N B n self hself hle t w h ht _ _ rfl rfl hb hb2
end
end Go.Proofs.YtenmnpbjnbdeaaaGreatDoor
