/-
  WHAT IS PROVED: lists that are read: one, and another one behind each comma; such lists in brackets. what reads operands of each level: chains of them, and signs ahead of them. what reads a comparison, of whichever kind it is.
-/
import Derived.Test.YtenmnpbjnbdeaaaGreatDoorMk
namespace Go.Proofs.YtenmnpbjnbdeaaaGreatDoor
section
open Go.RowKit Go.Shelf
set_option linter.unusedVariables false

/-- what reads a thing -/
def ReadsT {α : Type} (E : Elt α) (N B n : Nat) (fn : FuncId) (f : St → α × St) : Prop :=
  ∀ (t : St) (w : World), RdAt N w B t → t.rest.length ≤ n → Calls Tryz.prog fn #[.pointer (some ⟨B, 0, none⟩)] w fun e w' =>
    ∃ V cs, e = .returned V ∧ V.cells = List.toArray cs ∧ E.is (w.heap.size ≤ ·) w' cs (f t).1 ∧ RdAt N w' B (f t).2 ∧ Turn (· = B) w w'
theorem RdAt.far {N B : Nat} {w w' : World} {t : St} {S : Nat → Prop} (h : RdAt N w B t) (ht : Turn S w w') (hS : ∀ k, S k → N ≤ k) : RdAt N w' B t := by
  obtain ⟨v, M, q⟩ := h
  have hlow := q.low
  refine ⟨v, M, (ht.block B (bk_lt q.at_) (fun e => by have := hS B e; omega)).trans q.at_, ?_, q.ops.kept (ht.block M q.ops.lt (fun e => by have := hS M e; omega)), q.notB, q.low, Nat.le_trans q.le ht.size, q.short⟩
  obtain ⟨ao, cap, e, h1, h2, h3⟩ := q.row
  refine ⟨ao, cap, e, h1, h2, ?_⟩
  rcases h3 with h3 | ⟨g, o, e2, q1, q2, q3⟩
  · exact .inl h3
  · exact .inr ⟨g, o, e2, q1, Nat.lt_of_lt_of_le q2 ht.size, fun j v hv => ht.cell (q3 j v hv) (fun e => by have := q1.2; have := hS g e; omega)⟩
def GivesL {α : Type} (E : Elt α) (N B : Nat) (x : List α × St) (w : World) (e : Ending) (w' : World) : Prop :=
  ∃ v, e = .returned v ∧ RowOf E (w.heap.size ≤ ·) w' v x.1 ∧ RdAt N w' B x.2 ∧ Turn (· = B) w w'
theorem fill_one (v : Value) (sz : Nat) (h0 : 0 < sz) (cells : Array Value) (h1 : v.cells.size = sz) (h2 : cells.size = sz) : Instr.fill (fun i => some (i * sz, sz)) cells [(0, v)] = some v.cells := by
  obtain ⟨r, hr, hsz, hk⟩ := Great.fill_dense (s := sz) h0 [v] 0 cells (fun u hu => by simp at hu; subst hu; exact h1) (by simp; omega)
  rw [show [(0, v)] = (([v] : List Value).zipIdx 0).map fun x => (x.2, x.1) from rfl, hr]
  congr 1
  apply Array.ext_getElem?
  intro k
  rw [hk k]
  by_cases hlt : k < sz
  · rw [if_pos (by simp; omega)]
    simp [Nat.div_eq_of_lt hlt, Nat.mod_eq_of_lt hlt]
  · rw [if_neg (by simp; omega), Array.getElem?_eq_none (by omega), Array.getElem?_eq_none (by omega)]
theorem run_one_slice {α : Type} (E : Elt α) (hu : Tryz.prog.underlying E.S = some (.slice E.T)) {z : Value} {bytes : Nat} (hinfo : (Tryz.prog.info? E.T).map (fun i => (i.zero, i.size, i.bytes)) = some (some z, E.sz, bytes)) (hzs : z.cells.size = E.sz) (hsz : 0 < E.sz ∧ E.sz ≤ 100) {V : Value} {cs : List Value} (hV : V.cells = cs.toArray) (hl : cs.length = E.sz) (w : World) :
    (Instr.buildSlice E.S 1 #[(0, V)]).run Tryz.prog w = .ok (.slice (some ⟨w.heap.size, 0, none⟩) 1 1) (w.alloc (.cells cs.toArray E.T)) := by
  obtain ⟨i0, hi, hz0, hz1, hz2⟩ := info_parts hinfo
  rw [← hV]
  refine run_buildSlice w E.S E.T 1 _ _ i0 z hu hi hz0 (by rw [hz1]; omega) (by rw [hz1]; omega) ?_
  rw [hz1]
  exact fill_one V E.sz hsz.1 _ (by rw [hV]; simpa using hl) (by simp)
theorem wpList_one_slice {α : Type} (E : Elt α) (hu : Tryz.prog.underlying E.S = some (.slice E.T)) {z : Value} {bytes : Nat} (hinfo : (Tryz.prog.info? E.T).map (fun i => (i.zero, i.size, i.bytes)) = some (some z, E.sz, bytes)) (hzs : z.cells.size = E.sz) (hsz : 0 < E.sz ∧ E.sz ≤ 100) {V : Value} {cs : List Value} (hV : V.cells = cs.toArray) (hl : cs.length = E.sz)
    {ops : Array Oper} {rest : List Oper} {o : Oper} {a : Act} {w : World} {Q : Exit → Act → World → Prop} (hgd : o.guard = none) (x : Operand) (ho : o.op = .buildSlice E.S 1 #[(0, x)]) (hx : a.eval x = V)
    (h : wpList Tryz.prog ops Q rest (a.put o.dst (.slice (some ⟨w.heap.size, 0, none⟩) 1 1)) (w.alloc (.cells cs.toArray E.T))) : wpList Tryz.prog ops Q (o :: rest) a w := by
  refine wpList_plain hgd fun K hK => ?_
  unfold Oper.wp execOp
  simp only [ho, List.map_toArray, List.map_cons, List.map_nil, hx, Sem.run_bind, run_one_slice E hu hinfo hzs hsz hV hl, Result.andThen_ok]
  exact hK _ _ h
theorem wpList_append_run0 {P : Program} {w : World} {ops : Array Oper} {rest : List Oper} {o : Oper} {a : Act} {Q : Exit → Act → World → Prop}
    (hgd : o.guard = none) (s x : Operand) (t : TypeId) (hop : o.op = Op.call { callee := Callee.builtin Builtin.append, args := #[s, x], argTypes := #[t, t] })
    (v u v' : Value) (w' : World) (hs : a.eval s = v) (hx : a.eval x = u) (hrun : (Builtin.append_ #[t, t] o.type #[v, u]).run P w = .ok v' w')
    (hK : wpList P ops Q rest (a.put o.dst v') w') : wpList P ops Q (o :: rest) a w := by
  refine wpList_plain hgd fun K hK' => ?_
  unfold Oper.wp execOp
  simp only [hop, resolve, invoke, builtin, Sem.run_bind, Sem.run_pure, Result.andThen_ok, List.map_toArray, List.map_cons, List.map_nil, hs, hx, hrun]
  exact hK' _ _ hK
theorem OwnL.slice' {α : Type} {E : Elt α} {base : Nat} {w : World} {v : Value} {css : List (List Value)} {l : List α} (h : OwnL E base w v css l) : ∃ ao n cap, v = .slice ao n cap := by
  obtain ⟨ao, cap, e⟩ := h.slice; exact ⟨ao, _, cap, e⟩
theorem OwnL.past {α : Type} {E : Elt α} {w w0 : World} {v : Value} {css : List (List Value)} {l : List α} (h : OwnL E w0.heap.size w v css l) (hs : w0.heap.size ≤ w.heap.size) {k : Nat} (hk : w.heap.size ≤ k) : w0.heap.size ≤ k ∧ v.ownBlock ≠ some k :=
  ⟨Nat.le_trans hs hk, fun e => by have := (h.own.lt k e).2; omega⟩

theorem Tryz.infoLEx : (Tryz.prog.info? exE.T).map (fun i => (i.zero, i.size, i.bytes)) = some (some (.agg zeroE), exE.sz, 104) := by kernel_rfl
set_option maxRecDepth 100000 in
set_option maxHeartbeats 4000000 in
theorem listEx_tr (N B n fn : Nat) (hn : n ≤ 900000) (hcf : ∀ (args : Array Value) (w : World), (callFunc fn args).run Tryz.prog w = .ok (.enter fn args) w) (f : St → Ex × St) (hf : ReadsT exE N B n fn f) (hle : Le f) (t : St) (w : World) (h : RdAt N w B t) (ht : t.rest.length ≤ n) :
    Calls Tryz.prog 99 #[.pointer (some ⟨B, 0, none⟩), .func (.func fn) #[.pointer (some ⟨B, 0, none⟩)] #[]] w (GivesL exE N B (listP f t) w) := by
  have hC0 := hf t w h ht
  obtain ⟨r, hr⟩ : ∃ r, listP f t = r := ⟨_, rfl⟩
  obtain ⟨x1, hx1⟩ : ∃ x, (f t).1 = x := ⟨_, rfl⟩
  obtain ⟨t1, ht1'⟩ : ∃ t', (f t).2 = t' := ⟨_, rfl⟩
  rw [hx1, ht1'] at hC0
  have HRES1 : Hid (listL f t1.rest.length [x1] t1 = r) := Lib.hid (by show _ = _; rw [← hr]; unfold listP; rw [hx1, ht1'])
  have HL1 : Hid (t1.rest.length ≤ n ∧ 1 + t1.rest.length ≤ n + 1) := Lib.hid (by have := hle t; rw [ht1'] at this; constructor <;> omega)
  have HB := Lib.hid (And.intro h.lt h.le)
  rw [hr]
  clear hr h ht hx1 ht1'
  go_enter Tryz.func99, Tryz.ntmps99
  go_wp2_with fail
  refine hC0.mono ?_
  rintro e w1 ⟨V, cs, rfl, hV, hs1, hr1, ht1⟩
  have hcl := exE.len hs1
  have hown : OwnL exE w.heap.size (w1.alloc (.cells cs.toArray exE.T)) (.slice (some ⟨w1.heap.size, 0, none⟩) 1 1) [cs] [x1] := OwnL.start hs1 ht1.size (by simp [exE.len hs1])
  have HR2 := Lib.hid (And.intro (hr1.kept (below_alloc w1 (.cells cs.toArray exE.T))) (ht1.then_below (below_alloc w1 (.cells cs.toArray exE.T))))
  have HO2 := Lib.hid hown
  clear hs1 hr1 ht1 hC0 hown
  obtain ⟨w2, hw2⟩ : ∃ w2, w2 = w1.alloc (.cells cs.toArray exE.T) := ⟨_, rfl⟩
  rw [← hw2] at HR2 HO2
  obtain ⟨g1, hg1⟩ : ∃ g, g = w1.heap.size := ⟨_, rfl⟩
  rw [← hg1] at HO2
  go_wp2_with (refine wpList_one_slice exE Tryz.underlying34 Tryz.infoLEx rfl (by decide) hV hcl rfl _ rfl rfl ?_)
  rw [← hw2, ← hg1]
  clear hw2 hg1
  go_loopw [5] (fun v wr => ∃ (k : Nat) (tc : St) (l : List Ex) (css : List (List Value)), Hid (listL f k l tc = r) ∧ Hid (tc.rest.length ≤ k ∧ tc.rest.length ≤ n ∧ l.length + tc.rest.length ≤ n + 1) ∧ Hid (OwnL exE w.heap.size wr v css l) ∧ Hid (RdAt N wr B tc ∧ Turn (· = B) w wr)) (fun _ wr => restLen wr B)
  case atStart => exact ⟨_, t1, [x1], [cs], HRES1, Lib.hid ⟨Nat.le_refl _, HL1.out.1, HL1.out.2⟩, HO2, HR2⟩
  case round =>
    obtain ⟨k, tc, l, css, HRES, HK, HO, HR⟩ := hrel
    obtain ⟨av, nv, cv, rfl⟩ := HO.out.slice'
    clear HRES1 HL1 HO2 HR2
    cases hb : tc.has wComma with
    | false =>
      have HEND := Lib.hid ((listL_zero f k l tc hb).symm.trans HRES.out)
      have hT := take_no N B tc ⟨#[44]⟩ _ HR.out.1 hb
      clear hb
      go_wp2_with (go_at_call 54; refine hT.mono ?_; rintro e w3 ⟨rfl, hr, hbl⟩; have HR3 := Lib.hid (And.intro hr (HR.out.2.then_below hbl)); have HO3 := Lib.hid (HO.out.turn (Turn.of_below (S := (· = B)) hbl) (fun k hk e => by have := HB.out.1; omega)); clear hr hbl)
      go_ret
      rw [← HEND.out]
      exact ⟨_, rfl, RowOf.of_own HO3.out, HR3.out.1, HR3.out.2⟩
    | true =>
      have HLT := Lib.hid (St.has_lt hb (by decide)).1
      obtain ⟨k2, hk2⟩ : ∃ k2, k = k2 + 1 := ⟨k - 1, by have := HLT.out; have := HK.out.1; omega⟩
      subst hk2
      have hmore : listL f (k2 + 1) l tc = listL f k2 (l ++ [(f tc.step).1]) (f tc.step).2 := by conv => lhs; unfold listL; rw [if_pos hb]
      obtain ⟨x2, hx2⟩ : ∃ x, (f tc.step).1 = x := ⟨_, rfl⟩
      obtain ⟨t2, ht2⟩ : ∃ t', (f tc.step).2 = t' := ⟨_, rfl⟩
      have hC := hf tc.step
      rw [hx2, ht2] at hmore hC
      have HMORE := Lib.hid (hmore.symm.trans HRES.out)
      have HLE : Hid (t2.rest.length ≤ tc.step.rest.length) := Lib.hid (by have := hle tc.step; rw [ht2] at this; exact this)
      have HN : Hid (tc.step.rest.length ≤ n) := Lib.hid (by have := HLT.out; have := HK.out.2.1; show _ ≤ _; omega)
      have HRL := Lib.hid HR.out.1.restLen
      have hT := take_yes N B tc ⟨#[44]⟩ _ HR.out.1 hb (by decide)
      clear hb hmore hx2 ht2
      go_wp2_with (go_at_call 54; refine hT.mono ?_; rintro e w3 ⟨rfl, hr, ht⟩; have HO3 := Lib.hid (HO.out.turn ht (fun k hk e => by have := HB.out.1; omega)); have HR3 := Lib.hid (And.intro hr (HR.out.2.trans ht)); clear hr ht)
      refine (hC _ HR3.out.1 HN.out).mono ?_
      rintro e w4 ⟨V2, cs2, rfl, hV2, hs, hr, ht⟩
      have hcl2 := exE.len hs
      have HO4 := Lib.hid (HO3.out.turn ht (fun k hk e => by have := HB.out.1; omega))
      have HX4 := Lib.hid (exE.mono hs (fun k hk _ => HO3.out.past (HR3.out.2.size) hk))
      have HR4 := Lib.hid (And.intro hr (HR3.out.2.trans ht))
      clear hs hr ht hC
      obtain ⟨v5, w5, hrun, hown, hturn⟩ := OwnL.app Tryz.underlying34 Tryz.infoLEx rfl (by decide) HO4.out HX4.out (by have := HK.out.2.2; omega) (by decide) HR4.out.2.size
      have HO5 := Lib.hid hown
      have HR5 : Hid (RdAt N w5 B t2 ∧ Turn (· = B) w w5) := Lib.hid ⟨HR4.out.1.far hturn (fun k hk => Nat.le_trans HB.out.2 (HO4.out.own.lt k hk).1), HR4.out.2.next hturn (fun k hk e => by have := (HO4.out.own.lt k e).1; omega)⟩
      clear hown hturn
      go_wp2_with (first
        | (refine wpList_one_slice exE Tryz.underlying34 Tryz.infoLEx rfl (by decide) hV2 hcl2 rfl _ rfl rfl ?_)
        | (at_builtin; refine wpList_append_run0 rfl _ _ _ rfl _ _ v5 w5 rfl rfl hrun ?_))
      go_roundw
      case rel => exact ⟨k2, t2, l ++ [x2], css ++ [cs2], HMORE, Lib.hid ⟨by have := HLE.out; have := HLT.out; have := HK.out.1; omega, by have := HLE.out; have := HN.out; omega, by have := HLE.out; have := HLT.out; have := HK.out.2.2; simp; omega⟩, HO5, HR5⟩
      case measure => rw [HR5.out.1.restLen, HRL.out]; exact Nat.lt_of_le_of_lt HLE.out HLT.out

set_option maxHeartbeats 2000000 in
theorem enclosedEx_tr (N B n fn : Nat) (hn : n ≤ 900000) (hcf : ∀ (args : Array Value) (w : World), (callFunc fn args).run Tryz.prog w = .ok (.enter fn args) w) (f : St → Ex × St) (hf : ReadsT exE N B n fn f) (hle : Le f) (t : St) (w : World) (h : RdAt N w B t) (ht : t.rest.length ≤ n) :
    Calls Tryz.prog 138 #[.pointer (some ⟨B, 0, none⟩), .func (.func fn) #[.pointer (some ⟨B, 0, none⟩)] #[]] w (GivesL exE N B (enclosedP f t) w) := by
  have hO := need_any N B t ⟨#[40]⟩ w h (by decide)
  have hL := fun w h => listEx_tr N B n fn hn hcf f hf hle (t.need wOpen) w h (Nat.le_trans (St.need_le _ _) ht)
  have HBW := Lib.hid h.lt
  unfold enclosedP
  obtain ⟨r, hr⟩ : ∃ r, listP f (t.need wOpen) = r := ⟨_, rfl⟩
  rw [hr] at hL ⊢
  clear hr h ht
  go_enter Tryz.func138, Tryz.ntmps138
  go_wp2_with fail
  refine hO.mono ?_
  rintro e w1 ⟨rfl, hr1, ht1⟩
  have HR1 := Lib.hid (And.intro hr1 ht1)
  clear hr1 ht1 hO
  go_wp2_with fail
  refine (hL _ HR1.out.1).mono ?_
  rintro e w2 ⟨v, rfl, hrow, hr2, ht2⟩
  obtain ⟨av, cv, rfl, _⟩ := hrow.slice
  have HR2 := Lib.hid (And.intro hr2 (HR1.out.2.trans ht2))
  have HV2 := Lib.hid (hrow.mono (Q := (w.heap.size ≤ ·)) (fun k hk _ => Nat.le_trans HR1.out.2.size hk))
  obtain ⟨nv, hnv⟩ : ∃ n, r.1.length = n := ⟨_, rfl⟩
  rw [hnv] at HV2 ⊢
  clear hrow hr2 ht2 hL hnv
  go_wp2_with fail
  refine (need_any N B r.2 ⟨#[41]⟩ _ HR2.out.1 (by decide)).mono ?_
  rintro e w3 ⟨rfl, hr3, ht3⟩
  have HR3 := Lib.hid (And.intro hr3 (HR2.out.2.trans ht3))
  have HV3 := Lib.hid (HV2.out.turn ht3 (fun k hk e => by have := HBW.out; omega))
  clear hr3 ht3
  go_wp2_with fail
  go_ret
  exact ⟨_, rfl, HV3.out, HR3.out.1, HR3.out.2⟩
end
section
open Go.RowKit Go.Shelf
set_option linter.unusedVariables false

/-- what reads an expression of fewer words -/
def SelfX (N B n : Nat) (self : St → Ex × St) : Prop :=
  ∀ (t : St) (w : World), RdAt N w B t → t.rest.length < n → Calls Tryz.prog 35 #[.pointer (some ⟨B, 0, none⟩)] w (GivesX N B (self t) w)
theorem ReadsX.row {N B n : Nat} {fn : FuncId} {f : St → Ex × St} (h : ReadsX N B n fn f) : ReadsT exE N B n fn f := fun t w hr ht =>
  (h t w hr ht).mono fun e w' ⟨u, he, hs, h1, h2⟩ => ⟨exVal (f t).1.a u, exCells (f t).1.a u, he, rfl, ⟨u, rfl, hs⟩, h1, h2⟩
theorem SelfX.reads {N B n m : Nat} {self : St → Ex × St} (h : SelfX N B n self) (hm : m < n) : ReadsX N B m 35 self := fun t w hr ht => h t w hr (by omega)

set_option maxHeartbeats 2000000 in
theorem product_tr (N B n : Nat) (f : St → Ex × St) (hf : ReadsX N B n 178 f) (hle : Le f) : ReadsX N B n 170 (chainP 5 f) := by
  intro t w h ht
  have hmf : ∀ (fn : Fn) (first cap : Array Value) (w : World), (Instr.makeFunc fn first cap).run Tryz.prog w = .ok (.func fn first cap) w := fun _ _ _ _ => rfl
  have F0 := Lib.hid (Fr.start h)
  have hC := chain_tr N B n 5 178 f (fun _ _ => by kernel_rfl) hf hle (by decide) t _ F0.out.rd ht
  obtain ⟨r, hr⟩ : ∃ r, chainP 5 f t = r := ⟨_, rfl⟩
  rw [hr] at hC ⊢
  clear hr h
  unfold zeroE at hC
  go_enter Tryz.func170, Tryz.ntmps170
  go_wp2_with fail
  refine hC.mono ?_
  rintro e w1 ⟨u1, rfl, hs1, hr1, ht1⟩
  have F1 := Lib.hid (F0.out.call hr1 ht1)
  have S1 := Lib.hid (F0.out.got hs1)
  have o1 := hs1.one
  clear hs1 hr1 ht1 hC
  go_wp2_with (refine wpList_store_ex rfl _ _ rfl w.heap.size r.1.a u1 rfl rfl o1 _ F1.out.res rfl ?_)
  refine bodyPost_ret (ex_results (R := w.heap.size) (a := r.1.a) (u := u1) Tryz.results170 (ExB.set F1.out.res _ _) rfl) rfl ?_
  exact F1.out.done S1.out

set_option maxHeartbeats 2000000 in
theorem sum_tr (N B n : Nat) (f : St → Ex × St) (hf : ReadsX N B n 170 f) (hle : Le f) : ReadsX N B n 159 (chainP 4 f) := by
  intro t w h ht
  have hmf : ∀ (fn : Fn) (first cap : Array Value) (w : World), (Instr.makeFunc fn first cap).run Tryz.prog w = .ok (.func fn first cap) w := fun _ _ _ _ => rfl
  have F0 := Lib.hid (Fr.start h)
  have hC := chain_tr N B n 4 170 f (fun _ _ => by kernel_rfl) hf hle (by decide) t _ F0.out.rd ht
  obtain ⟨r, hr⟩ : ∃ r, chainP 4 f t = r := ⟨_, rfl⟩
  rw [hr] at hC ⊢
  clear hr h
  unfold zeroE at hC
  go_enter Tryz.func159, Tryz.ntmps159
  go_wp2_with fail
  refine hC.mono ?_
  rintro e w1 ⟨u1, rfl, hs1, hr1, ht1⟩
  have F1 := Lib.hid (F0.out.call hr1 ht1)
  have S1 := Lib.hid (F0.out.got hs1)
  have o1 := hs1.one
  clear hs1 hr1 ht1 hC
  go_wp2_with (refine wpList_store_ex rfl _ _ rfl w.heap.size r.1.a u1 rfl rfl o1 _ F1.out.res rfl ?_)
  refine bodyPost_ret (ex_results (R := w.heap.size) (a := r.1.a) (u := u1) Tryz.results159 (ExB.set F1.out.res _ _) rfl) rfl ?_
  exact F1.out.done S1.out

set_option maxHeartbeats 2000000 in
theorem and_tr (N B n : Nat) (f : St → Ex × St) (hf : ReadsX N B n 119 f) (hle : Le f) : ReadsX N B n 72 (chainP 2 f) := by
  intro t w h ht
  have hmf : ∀ (fn : Fn) (first cap : Array Value) (w : World), (Instr.makeFunc fn first cap).run Tryz.prog w = .ok (.func fn first cap) w := fun _ _ _ _ => rfl
  have F0 := Lib.hid (Fr.start h)
  have hC := chain_tr N B n 2 119 f (fun _ _ => by kernel_rfl) hf hle (by decide) t _ F0.out.rd ht
  obtain ⟨r, hr⟩ : ∃ r, chainP 2 f t = r := ⟨_, rfl⟩
  rw [hr] at hC ⊢
  clear hr h
  unfold zeroE at hC
  go_enter Tryz.func72, Tryz.ntmps72
  go_wp2_with fail
  refine hC.mono ?_
  rintro e w1 ⟨u1, rfl, hs1, hr1, ht1⟩
  have F1 := Lib.hid (F0.out.call hr1 ht1)
  have S1 := Lib.hid (F0.out.got hs1)
  have o1 := hs1.one
  clear hs1 hr1 ht1 hC
  go_wp2_with (refine wpList_store_ex rfl _ _ rfl w.heap.size r.1.a u1 rfl rfl o1 _ F1.out.res rfl ?_)
  refine bodyPost_ret (ex_results (R := w.heap.size) (a := r.1.a) (u := u1) Tryz.results72 (ExB.set F1.out.res _ _) rfl) rfl ?_
  exact F1.out.done S1.out

set_option maxHeartbeats 2000000 in
theorem or_tr (N B n : Nat) (f : St → Ex × St) (hf : ReadsX N B n 72 f) (hle : Le f) : ReadsX N B n 35 (chainP 1 f) := by
  intro t w h ht
  have hmf : ∀ (fn : Fn) (first cap : Array Value) (w : World), (Instr.makeFunc fn first cap).run Tryz.prog w = .ok (.func fn first cap) w := fun _ _ _ _ => rfl
  have F0 := Lib.hid (Fr.start h)
  have hC := chain_tr N B n 1 72 f (fun _ _ => by kernel_rfl) hf hle (by decide) t _ F0.out.rd ht
  obtain ⟨r, hr⟩ : ∃ r, chainP 1 f t = r := ⟨_, rfl⟩
  rw [hr] at hC ⊢
  clear hr h
  unfold zeroE at hC
  go_enter Tryz.func35, Tryz.ntmps35
  go_wp2_with fail
  refine hC.mono ?_
  rintro e w1 ⟨u1, rfl, hs1, hr1, ht1⟩
  have F1 := Lib.hid (F0.out.call hr1 ht1)
  have S1 := Lib.hid (F0.out.got hs1)
  have o1 := hs1.one
  clear hs1 hr1 ht1 hC
  go_wp2_with (refine wpList_store_ex rfl _ _ rfl w.heap.size r.1.a u1 rfl rfl o1 _ F1.out.res rfl ?_)
  refine bodyPost_ret (ex_results (R := w.heap.size) (a := r.1.a) (u := u1) Tryz.results35 (ExB.set F1.out.res _ _) rfl) rfl ?_
  exact F1.out.done S1.out

set_option maxHeartbeats 4000000 in
theorem minus_trL (N B n : Nat) (f : St → Ex × St) (hf : ReadsX N B n 184 f) : ∀ (k : Nat) (t : St) (w : World), RdAt N w B t → t.rest.length ≤ k → k ≤ n → Calls Tryz.prog 178 #[.pointer (some ⟨B, 0, none⟩)] w (GivesX N B (preL wMinus 1 f k t) w) := by
  have skip : ∀ (k : Nat) (t : St) (w : World), RdAt N w B t → t.rest.length ≤ n → t.has wMinus = false → Calls Tryz.prog 178 #[.pointer (some ⟨B, 0, none⟩)] w (GivesX N B (f t) w) := by
    intro k t w h ht hb
    have F0 := Lib.hid (Fr.start h)
    have hT := take_no N B t ⟨#[45]⟩ _ F0.out.rd hb
    have hC := fun w h => hf t w h ht
    obtain ⟨r, hr⟩ : ∃ r, f t = r := ⟨_, rfl⟩
    rw [hr] at hC ⊢
    clear hr h hb
    unfold zeroE at hT
    go_enter Tryz.func178, Tryz.ntmps178
    go_wp2_with fail
    refine hT.mono ?_
    rintro e w1 ⟨rfl, hr1, hb1⟩
    have F1 := Lib.hid (F0.out.new hb1)
    clear hr1 hb1 hT
    go_wp2_with fail
    refine (hC _ F1.out.rd).mono ?_
    rintro e w2 ⟨u1, rfl, hs1, hr1, ht1⟩
    have F2 := Lib.hid (F1.out.call hr1 ht1)
    have S2 := Lib.hid (F1.out.got hs1)
    have o1 := hs1.one
    clear hs1 hr1 ht1 hC
    go_wp2_with (refine wpList_store_ex rfl _ _ rfl w.heap.size r.1.a u1 rfl rfl o1 _ F2.out.res rfl ?_)
    refine bodyPost_ret (ex_results (R := w.heap.size) (a := r.1.a) (u := u1) Tryz.results178 (ExB.set F2.out.res _ _) rfl) rfl ?_
    exact F2.out.done S2.out
  intro k
  induction k with
  | zero =>
    intro t w h ht hk
    exact skip 0 t w h (by omega) (St.has_nil _ (by decide) (List.eq_nil_of_length_eq_zero (by omega)))
  | succ k ih =>
    intro t w h ht hk
    unfold preL
    cases hb : t.has wMinus with
    | false =>
      rw [if_neg (by simp)]
      exact skip 0 t w h (by omega) hb
    | true =>
      rw [if_pos rfl]
      have F0 := Lib.hid (Fr.start h)
      have hT := take_yes N B t ⟨#[45]⟩ _ F0.out.rd hb (by decide)
      have hlt := (St.has_lt hb (by decide)).1
      have hC := fun w h => ih t.step w h (by omega) (by omega)
      obtain ⟨r, hr⟩ : ∃ r, preL wMinus 1 f k t.step = r := ⟨_, rfl⟩
      rw [hr] at hC ⊢
      clear hr h hb hlt ih skip
      unfold zeroE at hT
      go_enter Tryz.func178, Tryz.ntmps178
      go_wp2_with fail
      refine hT.mono ?_
      rintro e w1 ⟨rfl, hr1, ht1⟩
      have F1 := Lib.hid (F0.out.call hr1 ht1)
      clear hr1 ht1 hT
      go_wp2_with fail
      refine (hC _ F1.out.rd).mono ?_
      rintro e w2 ⟨u1, rfl, hs1, hr1, ht1⟩
      have F2 := Lib.hid (F1.out.call hr1 ht1)
      have S2 := Lib.hid (F1.out.got hs1)
      clear hs1 hr1 ht1 hC
      go_wp2_with fail
      refine (unary_tr 1 r.1 u1 (w.heap.size < ·) w2 S2.out (fun k hk => F2.out.past hk)).mono ?_
      rintro e w3 ⟨u3, rfl, hs3, hb3⟩
      have F3 := Lib.hid (F2.out.new hb3)
      have S3 := Lib.hid hs3
      have o3 := hs3.one
      clear hs3 hb3
      go_wp2_with (refine wpList_store_ex rfl _ _ rfl w.heap.size (oneE 1 r.1).a u3 rfl rfl o3 _ F3.out.res rfl ?_)
      refine bodyPost_ret (ex_results (R := w.heap.size) (a := (oneE 1 r.1).a) (u := u3) Tryz.results178 (ExB.set F3.out.res _ _) rfl) rfl ?_
      exact F3.out.done S3.out
theorem minus_tr (N B n : Nat) (f : St → Ex × St) (hf : ReadsX N B n 184 f) : ReadsX N B n 178 (preP wMinus 1 f) := fun t w h ht => minus_trL N B n f hf t.rest.length t w h (Nat.le_refl _) ht

set_option maxHeartbeats 4000000 in
theorem not_trL (N B n : Nat) (f : St → Ex × St) (hf : ReadsX N B n 147 f) : ∀ (k : Nat) (t : St) (w : World), RdAt N w B t → t.rest.length ≤ k → k ≤ n → Calls Tryz.prog 119 #[.pointer (some ⟨B, 0, none⟩)] w (GivesX N B (preL wNot 2 f k t) w) := by
  have skip : ∀ (k : Nat) (t : St) (w : World), RdAt N w B t → t.rest.length ≤ n → t.has wNot = false → Calls Tryz.prog 119 #[.pointer (some ⟨B, 0, none⟩)] w (GivesX N B (f t) w) := by
    intro k t w h ht hb
    have F0 := Lib.hid (Fr.start h)
    have hT := take_no N B t ⟨#[110, 111, 116]⟩ _ F0.out.rd hb
    have hC := fun w h => hf t w h ht
    obtain ⟨r, hr⟩ : ∃ r, f t = r := ⟨_, rfl⟩
    rw [hr] at hC ⊢
    clear hr h hb
    unfold zeroE at hT
    go_enter Tryz.func119, Tryz.ntmps119
    go_wp2_with fail
    refine hT.mono ?_
    rintro e w1 ⟨rfl, hr1, hb1⟩
    have F1 := Lib.hid (F0.out.new hb1)
    clear hr1 hb1 hT
    go_wp2_with fail
    refine (hC _ F1.out.rd).mono ?_
    rintro e w2 ⟨u1, rfl, hs1, hr1, ht1⟩
    have F2 := Lib.hid (F1.out.call hr1 ht1)
    have S2 := Lib.hid (F1.out.got hs1)
    have o1 := hs1.one
    clear hs1 hr1 ht1 hC
    go_wp2_with (refine wpList_store_ex rfl _ _ rfl w.heap.size r.1.a u1 rfl rfl o1 _ F2.out.res rfl ?_)
    refine bodyPost_ret (ex_results (R := w.heap.size) (a := r.1.a) (u := u1) Tryz.results119 (ExB.set F2.out.res _ _) rfl) rfl ?_
    exact F2.out.done S2.out
  intro k
  induction k with
  | zero =>
    intro t w h ht hk
    exact skip 0 t w h (by omega) (St.has_nil _ (by decide) (List.eq_nil_of_length_eq_zero (by omega)))
  | succ k ih =>
    intro t w h ht hk
    unfold preL
    cases hb : t.has wNot with
    | false =>
      rw [if_neg (by simp)]
      exact skip 0 t w h (by omega) hb
    | true =>
      rw [if_pos rfl]
      have F0 := Lib.hid (Fr.start h)
      have hT := take_yes N B t ⟨#[110, 111, 116]⟩ _ F0.out.rd hb (by decide)
      have hlt := (St.has_lt hb (by decide)).1
      have hC := fun w h => ih t.step w h (by omega) (by omega)
      obtain ⟨r, hr⟩ : ∃ r, preL wNot 2 f k t.step = r := ⟨_, rfl⟩
      rw [hr] at hC ⊢
      clear hr h hb hlt ih skip
      unfold zeroE at hT
      go_enter Tryz.func119, Tryz.ntmps119
      go_wp2_with fail
      refine hT.mono ?_
      rintro e w1 ⟨rfl, hr1, ht1⟩
      have F1 := Lib.hid (F0.out.call hr1 ht1)
      clear hr1 ht1 hT
      go_wp2_with fail
      refine (hC _ F1.out.rd).mono ?_
      rintro e w2 ⟨u1, rfl, hs1, hr1, ht1⟩
      have F2 := Lib.hid (F1.out.call hr1 ht1)
      have S2 := Lib.hid (F1.out.got hs1)
      clear hs1 hr1 ht1 hC
      go_wp2_with fail
      refine (unary_tr 2 r.1 u1 (w.heap.size < ·) w2 S2.out (fun k hk => F2.out.past hk)).mono ?_
      rintro e w3 ⟨u3, rfl, hs3, hb3⟩
      have F3 := Lib.hid (F2.out.new hb3)
      have S3 := Lib.hid hs3
      have o3 := hs3.one
      clear hs3 hb3
      go_wp2_with (refine wpList_store_ex rfl _ _ rfl w.heap.size (oneE 2 r.1).a u3 rfl rfl o3 _ F3.out.res rfl ?_)
      refine bodyPost_ret (ex_results (R := w.heap.size) (a := (oneE 2 r.1).a) (u := u3) Tryz.results119 (ExB.set F3.out.res _ _) rfl) rfl ?_
      exact F3.out.done S3.out
theorem not_tr (N B n : Nat) (f : St → Ex × St) (hf : ReadsX N B n 147 f) : ReadsX N B n 119 (preP wNot 2 f) := fun t w h ht => not_trL N B n f hf t.rest.length t w h (Nat.le_refl _) ht
end
section
open Go.RowKit Go.Shelf
set_option linter.unusedVariables false

theorem Fr.rcells {N B R : Nat} {w wi : World} {t : St} (h : Fr N B R w wi t) : wi.cell? ⟨R, 0, none⟩ = some (.int .u8 0) ∧ wi.cell? ⟨R, 1, none⟩ = some (.int .u8 0) ∧ wi.cell? ⟨R, 2, none⟩ = some (.string ⟨#[]⟩) ∧ wi.cell? ⟨R, 3, none⟩ = some (.string ⟨#[]⟩) ∧ wi.cell? ⟨R, 4, none⟩ = some (.int .u8 0) ∧ wi.cell? ⟨R, 5, none⟩ = some (.int .i64 0) ∧ wi.cell? ⟨R, 6, none⟩ = some (.string ⟨#[]⟩) ∧ wi.cell? ⟨R, 7, none⟩ = some (.bool false) ∧ wi.cell? ⟨R, 8, none⟩ = some (.slice none 0 0) :=
  ⟨bk_cell h.res 0, bk_cell h.res 1, bk_cell h.res 2, bk_cell h.res 3, bk_cell h.res 4, bk_cell h.res 5, bk_cell h.res 6, bk_cell h.res 7, bk_cell h.res 8⟩
theorem Fr.rfree {N B R : Nat} {w wi : World} {t : St} (h : Fr N B R w wi t) : wi.frozen? ⟨R, 0, none⟩ = false ∧ wi.frozen? ⟨R, 1, none⟩ = false ∧ wi.frozen? ⟨R, 2, none⟩ = false ∧ wi.frozen? ⟨R, 3, none⟩ = false ∧ wi.frozen? ⟨R, 4, none⟩ = false ∧ wi.frozen? ⟨R, 5, none⟩ = false ∧ wi.frozen? ⟨R, 6, none⟩ = false ∧ wi.frozen? ⟨R, 7, none⟩ = false ∧ wi.frozen? ⟨R, 8, none⟩ = false :=
  ⟨bk_free h.res 0, bk_free h.res 1, bk_free h.res 2, bk_free h.res 3, bk_free h.res 4, bk_free h.res 5, bk_free h.res 6, bk_free h.res 7, bk_free h.res 8⟩

set_option maxRecDepth 100000 in
set_option maxHeartbeats 4000000 in
theorem cmp_isnot (N B n : Nat) (self f : St → Ex × St) (hself : SelfX N B n self) (hleS : Le self) (hf : ReadsX N B n 159 f) (hle : Le f) (t : St) (w : World) (h : RdAt N w B t) (ht : t.rest.length ≤ n) (x1 : Ex) (t1 : St) (hx1 : (f t).1 = x1) (ht1 : (f t).2 = t1) (hb : t1.has wIs = true) (hb2 : t1.step.has wNot = true) :
    Calls Tryz.prog 147 #[.pointer (some ⟨B, 0, none⟩)] w (GivesX N B ((oneE 4 x1, t1.step.step.need wNull)) w) := by
  have F0 := Lib.hid (Fr.start h)
  have hC := hf t _ F0.out.rd ht
  unfold GivesX at hC
  rw [hx1, ht1] at hC
  have HLE : Hid (t1.rest.length ≤ n) := Lib.hid (by have := hle t; rw [ht1] at this; omega)
  clear h hx1 ht1
  unfold zeroE at hC
  go_enter Tryz.func147, Tryz.ntmps147
  go_wp2_with fail
  refine hC.mono ?_
  rintro e w1 ⟨u1, rfl, hs1, hr1, hq1⟩
  have F1 := Lib.hid (F0.out.call hr1 hq1)
  have S1 := Lib.hid (F0.out.got hs1)
  obtain ⟨ao1, n1, c1, hu1⟩ := hs1.slice
  subst hu1
  clear hs1 hr1 hq1 hC
  obtain ⟨w2, hw2⟩ : ∃ w2, w2 = w1.alloc (.cells (exArr x1.a (.slice ao1 n1 c1)) 36) := ⟨_, rfl⟩
  have F2 : Hid (Fr N B w.heap.size w w2 t1) := Lib.hid (by rw [hw2]; exact F1.out.new (below_alloc _ _))
  have X2 : Hid (ExB w2 w1.heap.size x1.a (.slice ao1 n1 c1)) := Lib.hid (by rw [hw2]; exact heap_alloc_new _ _)
  have S2 : Hid (REs (fun k => w.heap.size < k ∧ k ≠ w1.heap.size) w2 (.slice ao1 n1 c1) x1.l) := Lib.hid (by
    rw [hw2]
    exact (S1.out.mono fun k hk hlt => ⟨hk, by omega⟩).below (below_alloc _ _))
  have HXB : Hid (w.heap.size < w1.heap.size ∧ ¬ w1.heap.size = B) := Lib.hid ⟨bk_lt F1.out.res, by have := F1.out.hB; have := bk_lt F1.out.res; omega⟩
  clear F0 F1 S1
  unfold exVal
  unfold exArr at hw2
  go_wp2_with (first
    | (go_at_call 54; rw [← hw2]; refine (take_yes N B t1 ⟨#[105, 115]⟩ w2 F2.out.rd hb (by decide)).mono ?_; rintro e w3 ⟨rfl, hr, hq⟩; have F3 := Lib.hid (F2.out.call hr hq); have X3 := Lib.hid (X2.out.turn hq HXB.out.2); have S3 := Lib.hid (S2.out.turn hq (fun k hk => F2.out.notB hk.1)); clear hr hq F2 X2 S2)
    | (go_at_call 54; refine (take_yes N B t1.step ⟨#[110, 111, 116]⟩ w3 F3.out.rd hb2 (by decide)).mono ?_; rintro e w4 ⟨rfl, hr, hq⟩; have F4 := Lib.hid (F3.out.call hr hq); have X4 := Lib.hid (X3.out.turn hq HXB.out.2); have S4 := Lib.hid (S3.out.turn hq (fun k hk => F3.out.notB hk.1)); clear hr hq F3 X3 S3)
    | (go_at_call 60; refine (need_any N B t1.step.step ⟨#[110, 117, 108, 108]⟩ w4 F4.out.rd (by decide)).mono ?_; rintro e w5 ⟨rfl, hr, hq⟩; have F5 := Lib.hid (F4.out.call hr hq); have X5 := Lib.hid (X4.out.turn hq HXB.out.2); have S5 := Lib.hid (S4.out.turn hq (fun k hk => F4.out.notB hk.1)); clear hr hq F4 X4 S4; obtain ⟨d0, d1, d2, d3, d4, d5, d6, d7, d8⟩ := X5.out.cells))
  refine (unary_tr 4 x1 (.slice ao1 n1 c1) (w.heap.size < ·) w5 (S5.out.mono fun k hk _ => hk.1) (fun k hk => F5.out.past hk)).mono ?_
  rintro e w6 ⟨u3, rfl, hs3, hb3⟩
  have F6 := Lib.hid (F5.out.new hb3)
  have S6 := Lib.hid hs3
  have o3 := hs3.one
  clear hs3 hb3 d0 d1 d2 d3 d4 d5 d6 d7 d8
  go_wp2_with (refine wpList_store_ex rfl _ _ rfl w.heap.size (oneE 4 x1).a u3 rfl rfl o3 _ F6.out.res rfl ?_)
  refine bodyPost_ret (ex_results (R := w.heap.size) (a := (oneE 4 x1).a) (u := u3) Tryz.results147 (ExB.set F6.out.res _ _) rfl) rfl ?_
  exact F6.out.done S6.out

set_option maxRecDepth 100000 in
set_option maxHeartbeats 4000000 in
theorem cmp_is (N B n : Nat) (self f : St → Ex × St) (hself : SelfX N B n self) (hleS : Le self) (hf : ReadsX N B n 159 f) (hle : Le f) (t : St) (w : World) (h : RdAt N w B t) (ht : t.rest.length ≤ n) (x1 : Ex) (t1 : St) (hx1 : (f t).1 = x1) (ht1 : (f t).2 = t1) (hb : t1.has wIs = true) (hb2 : t1.step.has wNot = false) :
    Calls Tryz.prog 147 #[.pointer (some ⟨B, 0, none⟩)] w (GivesX N B ((oneE 3 x1, t1.step.need wNull)) w) := by
  have F0 := Lib.hid (Fr.start h)
  have hC := hf t _ F0.out.rd ht
  unfold GivesX at hC
  rw [hx1, ht1] at hC
  have HLE : Hid (t1.rest.length ≤ n) := Lib.hid (by have := hle t; rw [ht1] at this; omega)
  clear h hx1 ht1
  unfold zeroE at hC
  go_enter Tryz.func147, Tryz.ntmps147
  go_wp2_with fail
  refine hC.mono ?_
  rintro e w1 ⟨u1, rfl, hs1, hr1, hq1⟩
  have F1 := Lib.hid (F0.out.call hr1 hq1)
  have S1 := Lib.hid (F0.out.got hs1)
  obtain ⟨ao1, n1, c1, hu1⟩ := hs1.slice
  subst hu1
  clear hs1 hr1 hq1 hC
  obtain ⟨w2, hw2⟩ : ∃ w2, w2 = w1.alloc (.cells (exArr x1.a (.slice ao1 n1 c1)) 36) := ⟨_, rfl⟩
  have F2 : Hid (Fr N B w.heap.size w w2 t1) := Lib.hid (by rw [hw2]; exact F1.out.new (below_alloc _ _))
  have X2 : Hid (ExB w2 w1.heap.size x1.a (.slice ao1 n1 c1)) := Lib.hid (by rw [hw2]; exact heap_alloc_new _ _)
  have S2 : Hid (REs (fun k => w.heap.size < k ∧ k ≠ w1.heap.size) w2 (.slice ao1 n1 c1) x1.l) := Lib.hid (by
    rw [hw2]
    exact (S1.out.mono fun k hk hlt => ⟨hk, by omega⟩).below (below_alloc _ _))
  have HXB : Hid (w.heap.size < w1.heap.size ∧ ¬ w1.heap.size = B) := Lib.hid ⟨bk_lt F1.out.res, by have := F1.out.hB; have := bk_lt F1.out.res; omega⟩
  clear F0 F1 S1
  unfold exVal
  unfold exArr at hw2
  go_wp2_with (first
    | (go_at_call 54; rw [← hw2]; refine (take_yes N B t1 ⟨#[105, 115]⟩ w2 F2.out.rd hb (by decide)).mono ?_; rintro e w3 ⟨rfl, hr, hq⟩; have F3 := Lib.hid (F2.out.call hr hq); have X3 := Lib.hid (X2.out.turn hq HXB.out.2); have S3 := Lib.hid (S2.out.turn hq (fun k hk => F2.out.notB hk.1)); clear hr hq F2 X2 S2)
    | (go_at_call 54; refine (take_no N B t1.step ⟨#[110, 111, 116]⟩ w3 F3.out.rd hb2).mono ?_; rintro e w4 ⟨rfl, hr, hb⟩; have F4 := Lib.hid (F3.out.new hb); have X4 := Lib.hid (X3.out.kept hb); have S4 := Lib.hid (S3.out.below hb); clear hr hb F3 X3 S3)
    | (go_at_call 60; refine (need_any N B t1.step ⟨#[110, 117, 108, 108]⟩ w4 F4.out.rd (by decide)).mono ?_; rintro e w5 ⟨rfl, hr, hq⟩; have F5 := Lib.hid (F4.out.call hr hq); have X5 := Lib.hid (X4.out.turn hq HXB.out.2); have S5 := Lib.hid (S4.out.turn hq (fun k hk => F4.out.notB hk.1)); clear hr hq F4 X4 S4; obtain ⟨d0, d1, d2, d3, d4, d5, d6, d7, d8⟩ := X5.out.cells))
  refine (unary_tr 3 x1 (.slice ao1 n1 c1) (w.heap.size < ·) w5 (S5.out.mono fun k hk _ => hk.1) (fun k hk => F5.out.past hk)).mono ?_
  rintro e w6 ⟨u3, rfl, hs3, hb3⟩
  have F6 := Lib.hid (F5.out.new hb3)
  have S6 := Lib.hid hs3
  have o3 := hs3.one
  clear hs3 hb3 d0 d1 d2 d3 d4 d5 d6 d7 d8
  go_wp2_with (refine wpList_store_ex rfl _ _ rfl w.heap.size (oneE 3 x1).a u3 rfl rfl o3 _ F6.out.res rfl ?_)
  refine bodyPost_ret (ex_results (R := w.heap.size) (a := (oneE 3 x1).a) (u := u3) Tryz.results147 (ExB.set F6.out.res _ _) rfl) rfl ?_
  exact F6.out.done S6.out

set_option maxRecDepth 100000 in
set_option maxHeartbeats 4000000 in
theorem cmp_none (N B n : Nat) (self f : St → Ex × St) (hself : SelfX N B n self) (hleS : Le self) (hf : ReadsX N B n 159 f) (hle : Le f) (t : St) (w : World) (h : RdAt N w B t) (ht : t.rest.length ≤ n) (x1 : Ex) (t1 : St) (hx1 : (f t).1 = x1) (ht1 : (f t).2 = t1) (hb : t1.has wIs = false) (hb2 : t1.has wIn = false) (h0 : (opP 3 t1).1 = 0) :
    Calls Tryz.prog 147 #[.pointer (some ⟨B, 0, none⟩)] w (GivesX N B ((x1, t1)) w) := by
  have F0 := Lib.hid (Fr.start h)
  have hC := hf t _ F0.out.rd ht
  unfold GivesX at hC
  rw [hx1, ht1] at hC
  have HLE : Hid (t1.rest.length ≤ n) := Lib.hid (by have := hle t; rw [ht1] at this; omega)
  clear h hx1 ht1
  unfold zeroE at hC
  go_enter Tryz.func147, Tryz.ntmps147
  go_wp2_with fail
  refine hC.mono ?_
  rintro e w1 ⟨u1, rfl, hs1, hr1, hq1⟩
  have F1 := Lib.hid (F0.out.call hr1 hq1)
  have S1 := Lib.hid (F0.out.got hs1)
  obtain ⟨ao1, n1, c1, hu1⟩ := hs1.slice
  subst hu1
  clear hs1 hr1 hq1 hC
  obtain ⟨w2, hw2⟩ : ∃ w2, w2 = w1.alloc (.cells (exArr x1.a (.slice ao1 n1 c1)) 36) := ⟨_, rfl⟩
  have F2 : Hid (Fr N B w.heap.size w w2 t1) := Lib.hid (by rw [hw2]; exact F1.out.new (below_alloc _ _))
  have X2 : Hid (ExB w2 w1.heap.size x1.a (.slice ao1 n1 c1)) := Lib.hid (by rw [hw2]; exact heap_alloc_new _ _)
  have S2 : Hid (REs (fun k => w.heap.size < k ∧ k ≠ w1.heap.size) w2 (.slice ao1 n1 c1) x1.l) := Lib.hid (by
    rw [hw2]
    exact (S1.out.mono fun k hk hlt => ⟨hk, by omega⟩).below (below_alloc _ _))
  have HXB : Hid (w.heap.size < w1.heap.size ∧ ¬ w1.heap.size = B) := Lib.hid ⟨bk_lt F1.out.res, by have := F1.out.hB; have := bk_lt F1.out.res; omega⟩
  clear F0 F1 S1
  unfold exVal
  unfold exArr at hw2
  have HE := Lib.hid (opP_no (lv := 3) h0 (by decide))
  go_wp2_with (first
    | (go_at_call 54; rw [← hw2]; refine (take_no N B t1 ⟨#[105, 115]⟩ w2 F2.out.rd hb).mono ?_; rintro e w3 ⟨rfl, hr, hb⟩; have F3 := Lib.hid (F2.out.new hb); have X3 := Lib.hid (X2.out.kept hb); have S3 := Lib.hid (S2.out.below hb); clear hr hb F2 X2 S2)
    | (go_at_call 54; refine (take_no N B t1 ⟨#[105, 110]⟩ w3 F3.out.rd hb2).mono ?_; rintro e w4 ⟨rfl, hr, hb⟩; have F4 := Lib.hid (F3.out.new hb); have X4 := Lib.hid (X3.out.kept hb); have S4 := Lib.hid (S3.out.below hb); clear hr hb F3 X3 S3)
    | (go_at_call 117; refine (operator_tr N B 3 t1 w4 F4.out.rd (by decide)).mono ?_; rintro e w5 ⟨rfl, hr, hq⟩; have F5 := Lib.hid (F4.out.call hr hq); have X5 := Lib.hid (X4.out.turn hq HXB.out.2); have S5 := Lib.hid (S4.out.turn hq (fun k hk => F4.out.notB hk.1)); clear hr hq F4 X4 S4; obtain ⟨d0, d1, d2, d3, d4, d5, d6, d7, d8⟩ := X5.out.cells; rw [HE.out]; dsimp only)
    | (refine wpList_store_ex rfl _ _ rfl w.heap.size x1.a (.slice ao1 n1 c1) rfl rfl rfl _ F5.out.res rfl ?_))
  have F6 : Hid (Fr N B w.heap.size w w5 t1) := Lib.hid (by have := F5.out; rw [HE.out] at this; exact this)
  refine bodyPost_ret (ex_results (R := w.heap.size) (a := x1.a) (u := .slice ao1 n1 c1) Tryz.results147 (ExB.set F6.out.res _ _) rfl) rfl ?_
  exact F6.out.done (S5.out.mono fun k hk _ => hk.1)

set_option maxRecDepth 100000 in
set_option maxHeartbeats 4000000 in
theorem cmp_two (N B n : Nat) (self f : St → Ex × St) (hself : SelfX N B n self) (hleS : Le self) (hf : ReadsX N B n 159 f) (hle : Le f) (t : St) (w : World) (h : RdAt N w B t) (ht : t.rest.length ≤ n) (x1 : Ex) (t1 : St) (hx1 : (f t).1 = x1) (ht1 : (f t).2 = t1) (hb : t1.has wIs = false) (hb2 : t1.has wIn = false) (o : Nat) (ho : (opP 3 t1).1 = o) (h0 : ¬ o = 0) (t2 : St) (ht2 : (opP 3 t1).2 = t2) (y : Ex) (t3 : St) (hy : (f t2).1 = y) (ht3 : (f t2).2 = t3) :
    Calls Tryz.prog 147 #[.pointer (some ⟨B, 0, none⟩)] w (GivesX N B ((twoE o x1 y, t3)) w) := by
  have F0 := Lib.hid (Fr.start h)
  have hC := hf t _ F0.out.rd ht
  unfold GivesX at hC
  rw [hx1, ht1] at hC
  have HLE : Hid (t1.rest.length ≤ n) := Lib.hid (by have := hle t; rw [ht1] at this; omega)
  clear h hx1 ht1
  unfold zeroE at hC
  go_enter Tryz.func147, Tryz.ntmps147
  go_wp2_with fail
  refine hC.mono ?_
  rintro e w1 ⟨u1, rfl, hs1, hr1, hq1⟩
  have F1 := Lib.hid (F0.out.call hr1 hq1)
  have S1 := Lib.hid (F0.out.got hs1)
  obtain ⟨ao1, n1, c1, hu1⟩ := hs1.slice
  subst hu1
  clear hs1 hr1 hq1 hC
  obtain ⟨w2, hw2⟩ : ∃ w2, w2 = w1.alloc (.cells (exArr x1.a (.slice ao1 n1 c1)) 36) := ⟨_, rfl⟩
  have F2 : Hid (Fr N B w.heap.size w w2 t1) := Lib.hid (by rw [hw2]; exact F1.out.new (below_alloc _ _))
  have X2 : Hid (ExB w2 w1.heap.size x1.a (.slice ao1 n1 c1)) := Lib.hid (by rw [hw2]; exact heap_alloc_new _ _)
  have S2 : Hid (REs (fun k => w.heap.size < k ∧ k ≠ w1.heap.size) w2 (.slice ao1 n1 c1) x1.l) := Lib.hid (by
    rw [hw2]
    exact (S1.out.mono fun k hk hlt => ⟨hk, by omega⟩).below (below_alloc _ _))
  have HXB : Hid (w.heap.size < w1.heap.size ∧ ¬ w1.heap.size = B) := Lib.hid ⟨bk_lt F1.out.res, by have := F1.out.hB; have := bk_lt F1.out.res; omega⟩
  clear F0 F1 S1
  unfold exVal
  unfold exArr at hw2
  have hC2 := fun w h => hf t2 w h (by have := opP_le 3 t1; rw [ht2] at this; have := HLE.out; omega)
  unfold GivesX at hC2
  rw [hy, ht3] at hC2
  have HE := Lib.hid (And.intro ho ht2)
  have hcond : ¬ (o : Int) = 0 := by omega
  clear hy ht3 ho ht2 h0
  go_wp2_with (first
    | (go_at_call 54; rw [← hw2]; refine (take_no N B t1 ⟨#[105, 115]⟩ w2 F2.out.rd hb).mono ?_; rintro e w3 ⟨rfl, hr, hb⟩; have F3 := Lib.hid (F2.out.new hb); have X3 := Lib.hid (X2.out.kept hb); have S3 := Lib.hid (S2.out.below hb); clear hr hb F2 X2 S2)
    | (go_at_call 54; refine (take_no N B t1 ⟨#[105, 110]⟩ w3 F3.out.rd hb2).mono ?_; rintro e w4 ⟨rfl, hr, hb⟩; have F4 := Lib.hid (F3.out.new hb); have X4 := Lib.hid (X3.out.kept hb); have S4 := Lib.hid (S3.out.below hb); clear hr hb F3 X3 S3)
    | (go_at_call 117; refine (operator_tr N B 3 t1 w4 F4.out.rd (by decide)).mono ?_; rintro e w5 ⟨rfl, hr, hq⟩; have F5 := Lib.hid (F4.out.call hr hq); have X5 := Lib.hid (X4.out.turn hq HXB.out.2); have S5 := Lib.hid (S4.out.turn hq (fun k hk => F4.out.notB hk.1)); clear hr hq F4 X4 S4; obtain ⟨d0, d1, d2, d3, d4, d5, d6, d7, d8⟩ := X5.out.cells; rw [HE.out.1]))
  have F6 : Hid (Fr N B w.heap.size w w5 t2) := Lib.hid (by have := F5.out; rw [HE.out.2] at this; exact this)
  have HHF := Lib.hid (hC2 w5.drew (F6.out.rd.kept (below_drew' _)))
  clear F5 hC2
  go_region_with ((first
    | (refine HHF.out.mono ?_; rintro e v1 ⟨uy, rfl, hs, hr, hq⟩; obtain ⟨ay, ny, cy, huy⟩ := hs.slice; subst huy; have HSY : Hid (REs (w.heap.size < ·) v1 (.slice ay ny cy) y.l) := Lib.hid (F6.out.got hs); have F7 := Lib.hid (F6.out.call hr ((Turn.drew _ _).trans hq)); have X7 := Lib.hid (X5.out.turn ((Turn.drew _ _).trans hq) HXB.out.2); have S7 : Hid (REs (w.heap.size < ·) v1 (.slice ao1 n1 c1) x1.l) := Lib.hid ((S5.out.turn ((Turn.drew _ _).trans hq) (fun k hk => F6.out.notB hk.1)).mono fun k hk _ => hk.1); clear hs hr hq; obtain ⟨g0, g1, g2, g3, g4, g5, g6, g7, g8⟩ := X7.out.cells; unfold exVal)
    | (go_at_call 118; refine (binary_tr o x1 y (.slice ao1 n1 c1) (.slice ay ny cy) (w.heap.size < ·) v1 S7.out HSY.out (fun k hk => F7.out.past hk)).mono ?_; rintro e v2 ⟨uz, rfl, hs, hb⟩; obtain ⟨az, nz, cz, huz⟩ := hs.slice; subst huz; have HSZ := Lib.hid hs; have F8 := Lib.hid (F7.out.new hb); clear hs hb; obtain ⟨k0, k1, k2', k3, k4, k5, k6, k7, k8⟩ := F8.out.rcells; obtain ⟨z0, z1, z2, z3, z4, z5, z6, z7, z8⟩ := F8.out.rfree; clear d0 d1 d2 d3 d4 d5 d6 d7 d8 g0 g1 g2 g3 g4 g5 g6 g7 g8; unfold exVal)))
  all_goals
    rw [set9 F8.out.res]
    clear k0 k1 k2' k3 k4 k5 k6 k7 k8 z0 z1 z2 z3 z4 z5 z6 z7 z8
    go_wp2_with fail
    refine bodyPost_ret (ex_results (R := w.heap.size) (a := (twoE o x1 y).a) (u := .slice az nz cz) Tryz.results147 (ExB.set F8.out.res _ _) rfl) rfl ?_
    exact F8.out.done HSZ.out
end
end Go.Proofs.YtenmnpbjnbdeaaaGreatDoor
