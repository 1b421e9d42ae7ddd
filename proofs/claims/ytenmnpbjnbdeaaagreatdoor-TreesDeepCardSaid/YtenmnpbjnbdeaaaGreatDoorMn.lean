/-
  WHAT IS PROVED: the parts of statements as things that lie in cells. lists of the parts of statements, as they are read.
-/
import Derived.Test.YtenmnpbjnbdeaaaGreatDoorMm
namespace Go.Proofs.YtenmnpbjnbdeaaaGreatDoor
section
open Go.RowKit Go.Shelf
set_option linter.unusedVariables false

def strE : Elt (List UInt8) where
  T := 9
  S := 25
  sz := 1
  is := fun P w cs x => cs = [.string (strU x)]
  len := fun h => by rw [h]; rfl
  one := fun h v hv => by rw [h] at hv; simp only [List.mem_singleton] at hv; subst hv; rfl
  kept := fun h _ _ => h
  mono := fun h _ => h
def rowE : Elt (List Ex) where
  T := 34
  S := 26
  sz := 1
  is := fun P w cs x => ∃ u, cs = [u] ∧ REs P w u (Exs.ofL x)
  len := fun ⟨u, h, _⟩ => by rw [h]; rfl
  one := fun ⟨u, h, q⟩ v hv => by rw [h] at hv; simp only [List.mem_singleton] at hv; subst hv; exact q.one
  kept := fun ⟨u, h, q⟩ hs hk => ⟨u, h, q.kept hs hk⟩
  mono := fun ⟨u, h, q⟩ hk => ⟨u, h, q.mono hk⟩
theorem exCells_one {P : Nat → Prop} {w : World} {a : Atom} {u : Value} {l : Exs} (q : REs P w u l) : ∀ v ∈ exCells a u, v.oneCell' = true := exE.one (P := P) (w := w) (cs := exCells a u) (x := ⟨a, l⟩) ⟨u, rfl, q⟩
def itemE : Elt ItemM where
  T := 49
  S := 27
  sz := 11
  is := fun P w cs x => ∃ u, cs = exCells x.e.a u ++ [.string (strU x.aka), .bool x.star] ∧ REs P w u x.e.l
  len := fun ⟨u, h, _⟩ => by rw [h]; rfl
  one := fun ⟨u, h, q⟩ v hv => by
    rw [h] at hv
    rcases List.mem_append.1 hv with hv | hv
    · exact exCells_one q v hv
    · simp only [List.mem_cons, List.not_mem_nil, or_false] at hv
      rcases hv with rfl | rfl <;> rfl
  kept := fun ⟨u, h, q⟩ hs hk => ⟨u, h, q.kept hs hk⟩
  mono := fun ⟨u, h, q⟩ hk => ⟨u, h, q.mono hk⟩
def fromE : Elt FromM where
  T := 138
  S := 28
  sz := 11
  is := fun P w cs x => ∃ u, cs = [.string (strU x.table), .string (strU x.aka)] ++ exCells x.on.a u ∧ REs P w u x.on.l
  len := fun ⟨u, h, _⟩ => by rw [h]; rfl
  one := fun ⟨u, h, q⟩ v hv => by
    rw [h] at hv
    rcases List.mem_append.1 hv with hv | hv
    · simp only [List.mem_cons, List.not_mem_nil, or_false] at hv
      rcases hv with rfl | rfl <;> rfl
    · exact exCells_one q v hv
  kept := fun ⟨u, h, q⟩ hs hk => ⟨u, h, q.kept hs hk⟩
  mono := fun ⟨u, h, q⟩ hk => ⟨u, h, q.mono hk⟩
def orderE : Elt OrderM where
  T := 51
  S := 37
  sz := 10
  is := fun P w cs x => ∃ u, cs = exCells x.e.a u ++ [.bool x.down] ∧ REs P w u x.e.l
  len := fun ⟨u, h, _⟩ => by rw [h]; rfl
  one := fun ⟨u, h, q⟩ v hv => by
    rw [h] at hv
    rcases List.mem_append.1 hv with hv | hv
    · exact exCells_one q v hv
    · simp only [List.mem_cons, List.not_mem_nil, or_false] at hv
      subst hv; rfl
  kept := fun ⟨u, h, q⟩ hs hk => ⟨u, h, q.kept hs hk⟩
  mono := fun ⟨u, h, q⟩ hk => ⟨u, h, q.mono hk⟩
def asgE : Elt AsgM where
  T := 155
  S := 152
  sz := 10
  is := fun P w cs x => ∃ u, cs = [.string (strU x.name)] ++ exCells x.value.a u ∧ REs P w u x.value.l
  len := fun ⟨u, h, _⟩ => by rw [h]; rfl
  one := fun ⟨u, h, q⟩ v hv => by
    rw [h] at hv
    rcases List.mem_append.1 hv with hv | hv
    · simp only [List.mem_cons, List.not_mem_nil, or_false] at hv
      subst hv; rfl
    · exact exCells_one q v hv
  kept := fun ⟨u, h, q⟩ hs hk => ⟨u, h, q.kept hs hk⟩
  mono := fun ⟨u, h, q⟩ hk => ⟨u, h, q.mono hk⟩
def colE' : Elt ColM where
  T := 112
  S := 24
  sz := 5
  is := fun P w cs x => cs = [.string (strU x.name), .int .u8 (x.type : Int), .bool x.primary, .bool x.unique, .bool x.notNull]
  len := fun h => by rw [h]; rfl
  one := fun h v hv => by
    rw [h] at hv
    simp only [List.mem_cons, List.not_mem_nil, or_false] at hv
    rcases hv with rfl | rfl | rfl | rfl | rfl <;> rfl
  kept := fun h _ _ => h
  mono := fun h _ => h
end
section
open Go.RowKit Go.Shelf
set_option linter.unusedVariables false

theorem Tryz.infoLStr : (Tryz.prog.info? strE.T).map (fun i => (i.zero, i.size, i.bytes)) = some (some (.string ⟨#[]⟩), strE.sz, 16) := by kernel_rfl
set_option maxRecDepth 100000 in
set_option maxHeartbeats 4000000 in
theorem listStr_tr (N B n fn : Nat) (hn : n ≤ 900000) (hcf : ∀ (args : Array Value) (w : World), (callFunc fn args).run Tryz.prog w = .ok (.enter fn args) w) (f : St → (List UInt8) × St) (hf : ReadsT strE N B n fn f) (hle : Le f) (t : St) (w : World) (h : RdAt N w B t) (ht : t.rest.length ≤ n) :
    Calls Tryz.prog 137 #[.pointer (some ⟨B, 0, none⟩), .func (.func fn) #[.pointer (some ⟨B, 0, none⟩)] #[]] w (GivesL strE N B (listP f t) w) := by
  have hC0 := hf t w h ht
  obtain ⟨r, hr⟩ : ∃ r, listP f t = r := ⟨_, rfl⟩
  obtain ⟨x1, hx1⟩ : ∃ x, (f t).1 = x := ⟨_, rfl⟩
  obtain ⟨t1, ht1'⟩ : ∃ t', (f t).2 = t' := ⟨_, rfl⟩
  rw [hx1, ht1'] at hC0
  have HRES1 : Hid (listL f t1.rest.length [x1] t1 = r) := Lib.hid (by show _ = _; rw [← hr]; unfold listP; rw [hx1, ht1'])
  have HL1 : Hid (t1.rest.length ≤ n ∧ 1 + t1.rest.length ≤ n + 1) := Lib.hid (by have := hle t; rw [ht1'] at this; constructor <;> omega)
  have HB := Lib.hid (And.intro h.lt h.le)
  rw [hr]
  clear hr h ht hx1 ht1'
  go_enter Tryz.func137, Tryz.ntmps137
  go_wp2_with fail
  refine hC0.mono ?_
  rintro e w1 ⟨V, cs, rfl, hV, hs1, hr1, ht1⟩
  have hcl := strE.len hs1
  have hown : OwnL strE w.heap.size (w1.alloc (.cells cs.toArray strE.T)) (.slice (some ⟨w1.heap.size, 0, none⟩) 1 1) [cs] [x1] := OwnL.start hs1 ht1.size (by simp [strE.len hs1])
  have HR2 := Lib.hid (And.intro (hr1.kept (below_alloc w1 (.cells cs.toArray strE.T))) (ht1.then_below (below_alloc w1 (.cells cs.toArray strE.T))))
  have HO2 := Lib.hid hown
  clear hs1 hr1 ht1 hC0 hown
  obtain ⟨w2, hw2⟩ : ∃ w2, w2 = w1.alloc (.cells cs.toArray strE.T) := ⟨_, rfl⟩
  rw [← hw2] at HR2 HO2
  obtain ⟨g1, hg1⟩ : ∃ g, g = w1.heap.size := ⟨_, rfl⟩
  rw [← hg1] at HO2
  go_wp2_with (refine wpList_one_slice strE Tryz.underlying25 Tryz.infoLStr rfl (by decide) hV hcl rfl _ rfl rfl ?_)
  rw [← hw2, ← hg1]
  clear hw2 hg1
  go_loopw [5] (fun v wr => ∃ (k : Nat) (tc : St) (l : List (List UInt8)) (css : List (List Value)), Hid (listL f k l tc = r) ∧ Hid (tc.rest.length ≤ k ∧ tc.rest.length ≤ n ∧ l.length + tc.rest.length ≤ n + 1) ∧ Hid (OwnL strE w.heap.size wr v css l) ∧ Hid (RdAt N wr B tc ∧ Turn (· = B) w wr)) (fun _ wr => restLen wr B)
  case atStart => exact ⟨_, t1, [x1], [cs], HRES1, Lib.hid ⟨Nat.le_refl _, HL1.out.1, HL1.out.2⟩, HO2, HR2⟩
  case round =>
    obtain ⟨k, tc, l, css, HRES, HK, HO, HR⟩ := hrel
    obtain ⟨av, nv, cv, rfl⟩ := HO.out.slice'
    clear HRES1 HL1 HO2 HR2
    cases hb : tc.has wComma with
    | false =>
      have HEND := Lib.hid ((listL_zero f k l tc hb).symm.trans HRES.out)
      have hT := take_no N B tc ⟨#[44]⟩ _ HR.out.1 hb
      clear hb
      go_wp2_with (go_at_call 54; refine hT.mono ?_; rintro e w3 ⟨rfl, hr, hbl⟩; have HR3 := Lib.hid (And.intro hr (HR.out.2.then_below hbl)); have HO3 := Lib.hid (HO.out.turn (Turn.of_below (S := (· = B)) hbl) (fun k hk e => by have := HB.out.1; omega)); clear hr hbl)
      go_ret
      rw [← HEND.out]
      exact ⟨_, rfl, RowOf.of_own HO3.out, HR3.out.1, HR3.out.2⟩
    | true =>
      have HLT := Lib.hid (St.has_lt hb (by decide)).1
      obtain ⟨k2, hk2⟩ : ∃ k2, k = k2 + 1 := ⟨k - 1, by have := HLT.out; have := HK.out.1; omega⟩
      subst hk2
      have hmore : listL f (k2 + 1) l tc = listL f k2 (l ++ [(f tc.step).1]) (f tc.step).2 := by conv => lhs; unfold listL; rw [if_pos hb]
      obtain ⟨x2, hx2⟩ : ∃ x, (f tc.step).1 = x := ⟨_, rfl⟩
      obtain ⟨t2, ht2⟩ : ∃ t', (f tc.step).2 = t' := ⟨_, rfl⟩
      have hC := hf tc.step
      rw [hx2, ht2] at hmore hC
      have HMORE := Lib.hid (hmore.symm.trans HRES.out)
      have HLE : Hid (t2.rest.length ≤ tc.step.rest.length) := Lib.hid (by have := hle tc.step; rw [ht2] at this; exact this)
      have HN : Hid (tc.step.rest.length ≤ n) := Lib.hid (by have := HLT.out; have := HK.out.2.1; show _ ≤ _; omega)
      have HRL := Lib.hid HR.out.1.restLen
      have hT := take_yes N B tc ⟨#[44]⟩ _ HR.out.1 hb (by decide)
      clear hb hmore hx2 ht2
      go_wp2_with (go_at_call 54; refine hT.mono ?_; rintro e w3 ⟨rfl, hr, ht⟩; have HO3 := Lib.hid (HO.out.turn ht (fun k hk e => by have := HB.out.1; omega)); have HR3 := Lib.hid (And.intro hr (HR.out.2.trans ht)); clear hr ht)
      refine (hC _ HR3.out.1 HN.out).mono ?_
      rintro e w4 ⟨V2, cs2, rfl, hV2, hs, hr, ht⟩
      have hcl2 := strE.len hs
      have HO4 := Lib.hid (HO3.out.turn ht (fun k hk e => by have := HB.out.1; omega))
      have HX4 := Lib.hid (strE.mono hs (fun k hk _ => HO3.out.past (HR3.out.2.size) hk))
      have HR4 := Lib.hid (And.intro hr (HR3.out.2.trans ht))
      clear hs hr ht hC
      obtain ⟨v5, w5, hrun, hown, hturn⟩ := OwnL.app Tryz.underlying25 Tryz.infoLStr rfl (by decide) HO4.out HX4.out (by have := HK.out.2.2; omega) (by decide) HR4.out.2.size
      have HO5 := Lib.hid hown
      have HR5 : Hid (RdAt N w5 B t2 ∧ Turn (· = B) w w5) := Lib.hid ⟨HR4.out.1.far hturn (fun k hk => Nat.le_trans HB.out.2 (HO4.out.own.lt k hk).1), HR4.out.2.next hturn (fun k hk e => by have := (HO4.out.own.lt k e).1; omega)⟩
      clear hown hturn
      go_wp2_with (first
        | (refine wpList_one_slice strE Tryz.underlying25 Tryz.infoLStr rfl (by decide) hV2 hcl2 rfl _ rfl rfl ?_)
        | (at_builtin; refine wpList_append_run0 rfl _ _ _ rfl _ _ v5 w5 rfl rfl hrun ?_))
      go_roundw
      case rel => exact ⟨k2, t2, l ++ [x2], css ++ [cs2], HMORE, Lib.hid ⟨by have := HLE.out; have := HLT.out; have := HK.out.1; omega, by have := HLE.out; have := HN.out; omega, by have := HLE.out; have := HLT.out; have := HK.out.2.2; simp; omega⟩, HO5, HR5⟩
      case measure => rw [HR5.out.1.restLen, HRL.out]; exact Nat.lt_of_le_of_lt HLE.out HLT.out

set_option maxHeartbeats 2000000 in
theorem enclosedStr_tr (N B n fn : Nat) (hn : n ≤ 900000) (hcf : ∀ (args : Array Value) (w : World), (callFunc fn args).run Tryz.prog w = .ok (.enter fn args) w) (f : St → (List UInt8) × St) (hf : ReadsT strE N B n fn f) (hle : Le f) (t : St) (w : World) (h : RdAt N w B t) (ht : t.rest.length ≤ n) :
    Calls Tryz.prog 103 #[.pointer (some ⟨B, 0, none⟩), .func (.func fn) #[.pointer (some ⟨B, 0, none⟩)] #[]] w (GivesL strE N B (enclosedP f t) w) := by
  have hO := need_any N B t ⟨#[40]⟩ w h (by decide)
  have hL := fun w h => listStr_tr N B n fn hn hcf f hf hle (t.need wOpen) w h (Nat.le_trans (St.need_le _ _) ht)
  have HBW := Lib.hid h.lt
  unfold enclosedP
  obtain ⟨r, hr⟩ : ∃ r, listP f (t.need wOpen) = r := ⟨_, rfl⟩
  rw [hr] at hL ⊢
  clear hr h ht
  go_enter Tryz.func103, Tryz.ntmps103
  go_wp2_with fail
  refine hO.mono ?_
  rintro e w1 ⟨rfl, hr1, ht1⟩
  have HR1 := Lib.hid (And.intro hr1 ht1)
  clear hr1 ht1 hO
  go_wp2_with fail
  refine (hL _ HR1.out.1).mono ?_
  rintro e w2 ⟨v, rfl, hrow, hr2, ht2⟩
  obtain ⟨av, cv, rfl, _⟩ := hrow.slice
  have HR2 := Lib.hid (And.intro hr2 (HR1.out.2.trans ht2))
  have HV2 := Lib.hid (hrow.mono (Q := (w.heap.size ≤ ·)) (fun k hk _ => Nat.le_trans HR1.out.2.size hk))
  obtain ⟨nv, hnv⟩ : ∃ n, r.1.length = n := ⟨_, rfl⟩
  rw [hnv] at HV2 ⊢
  clear hrow hr2 ht2 hL hnv
  go_wp2_with fail
  refine (need_any N B r.2 ⟨#[41]⟩ _ HR2.out.1 (by decide)).mono ?_
  rintro e w3 ⟨rfl, hr3, ht3⟩
  have HR3 := Lib.hid (And.intro hr3 (HR2.out.2.trans ht3))
  have HV3 := Lib.hid (HV2.out.turn ht3 (fun k hk e => by have := HBW.out; omega))
  clear hr3 ht3
  go_wp2_with fail
  go_ret
  exact ⟨_, rfl, HV3.out, HR3.out.1, HR3.out.2⟩

theorem Tryz.infoLRow : (Tryz.prog.info? rowE.T).map (fun i => (i.zero, i.size, i.bytes)) = some (some (.slice none 0 0), rowE.sz, 24) := by kernel_rfl
set_option maxRecDepth 100000 in
set_option maxHeartbeats 4000000 in
theorem listRow_tr (N B n fn : Nat) (hn : n ≤ 900000) (hcf : ∀ (args : Array Value) (w : World), (callFunc fn args).run Tryz.prog w = .ok (.enter fn args) w) (f : St → (List Ex) × St) (hf : ReadsT rowE N B n fn f) (hle : Le f) (t : St) (w : World) (h : RdAt N w B t) (ht : t.rest.length ≤ n) :
    Calls Tryz.prog 104 #[.pointer (some ⟨B, 0, none⟩), .func (.func fn) #[.pointer (some ⟨B, 0, none⟩)] #[]] w (GivesL rowE N B (listP f t) w) := by
  have hC0 := hf t w h ht
  obtain ⟨r, hr⟩ : ∃ r, listP f t = r := ⟨_, rfl⟩
  obtain ⟨x1, hx1⟩ : ∃ x, (f t).1 = x := ⟨_, rfl⟩
  obtain ⟨t1, ht1'⟩ : ∃ t', (f t).2 = t' := ⟨_, rfl⟩
  rw [hx1, ht1'] at hC0
  have HRES1 : Hid (listL f t1.rest.length [x1] t1 = r) := Lib.hid (by show _ = _; rw [← hr]; unfold listP; rw [hx1, ht1'])
  have HL1 : Hid (t1.rest.length ≤ n ∧ 1 + t1.rest.length ≤ n + 1) := Lib.hid (by have := hle t; rw [ht1'] at this; constructor <;> omega)
  have HB := Lib.hid (And.intro h.lt h.le)
  rw [hr]
  clear hr h ht hx1 ht1'
  go_enter Tryz.func104, Tryz.ntmps104
  go_wp2_with fail
  refine hC0.mono ?_
  rintro e w1 ⟨V, cs, rfl, hV, hs1, hr1, ht1⟩
  have hcl := rowE.len hs1
  have hown : OwnL rowE w.heap.size (w1.alloc (.cells cs.toArray rowE.T)) (.slice (some ⟨w1.heap.size, 0, none⟩) 1 1) [cs] [x1] := OwnL.start hs1 ht1.size (by simp [rowE.len hs1])
  have HR2 := Lib.hid (And.intro (hr1.kept (below_alloc w1 (.cells cs.toArray rowE.T))) (ht1.then_below (below_alloc w1 (.cells cs.toArray rowE.T))))
  have HO2 := Lib.hid hown
  clear hs1 hr1 ht1 hC0 hown
  obtain ⟨w2, hw2⟩ : ∃ w2, w2 = w1.alloc (.cells cs.toArray rowE.T) := ⟨_, rfl⟩
  rw [← hw2] at HR2 HO2
  obtain ⟨g1, hg1⟩ : ∃ g, g = w1.heap.size := ⟨_, rfl⟩
  rw [← hg1] at HO2
  go_wp2_with (refine wpList_one_slice rowE Tryz.underlying26 Tryz.infoLRow rfl (by decide) hV hcl rfl _ rfl rfl ?_)
  rw [← hw2, ← hg1]
  clear hw2 hg1
  go_loopw [5] (fun v wr => ∃ (k : Nat) (tc : St) (l : List (List Ex)) (css : List (List Value)), Hid (listL f k l tc = r) ∧ Hid (tc.rest.length ≤ k ∧ tc.rest.length ≤ n ∧ l.length + tc.rest.length ≤ n + 1) ∧ Hid (OwnL rowE w.heap.size wr v css l) ∧ Hid (RdAt N wr B tc ∧ Turn (· = B) w wr)) (fun _ wr => restLen wr B)
  case atStart => exact ⟨_, t1, [x1], [cs], HRES1, Lib.hid ⟨Nat.le_refl _, HL1.out.1, HL1.out.2⟩, HO2, HR2⟩
  case round =>
    obtain ⟨k, tc, l, css, HRES, HK, HO, HR⟩ := hrel
    obtain ⟨av, nv, cv, rfl⟩ := HO.out.slice'
    clear HRES1 HL1 HO2 HR2
    cases hb : tc.has wComma with
    | false =>
      have HEND := Lib.hid ((listL_zero f k l tc hb).symm.trans HRES.out)
      have hT := take_no N B tc ⟨#[44]⟩ _ HR.out.1 hb
      clear hb
      go_wp2_with (go_at_call 54; refine hT.mono ?_; rintro e w3 ⟨rfl, hr, hbl⟩; have HR3 := Lib.hid (And.intro hr (HR.out.2.then_below hbl)); have HO3 := Lib.hid (HO.out.turn (Turn.of_below (S := (· = B)) hbl) (fun k hk e => by have := HB.out.1; omega)); clear hr hbl)
      go_ret
      rw [← HEND.out]
      exact ⟨_, rfl, RowOf.of_own HO3.out, HR3.out.1, HR3.out.2⟩
    | true =>
      have HLT := Lib.hid (St.has_lt hb (by decide)).1
      obtain ⟨k2, hk2⟩ : ∃ k2, k = k2 + 1 := ⟨k - 1, by have := HLT.out; have := HK.out.1; omega⟩
      subst hk2
      have hmore : listL f (k2 + 1) l tc = listL f k2 (l ++ [(f tc.step).1]) (f tc.step).2 := by conv => lhs; unfold listL; rw [if_pos hb]
      obtain ⟨x2, hx2⟩ : ∃ x, (f tc.step).1 = x := ⟨_, rfl⟩
      obtain ⟨t2, ht2⟩ : ∃ t', (f tc.step).2 = t' := ⟨_, rfl⟩
      have hC := hf tc.step
      rw [hx2, ht2] at hmore hC
      have HMORE := Lib.hid (hmore.symm.trans HRES.out)
      have HLE : Hid (t2.rest.length ≤ tc.step.rest.length) := Lib.hid (by have := hle tc.step; rw [ht2] at this; exact this)
      have HN : Hid (tc.step.rest.length ≤ n) := Lib.hid (by have := HLT.out; have := HK.out.2.1; show _ ≤ _; omega)
      have HRL := Lib.hid HR.out.1.restLen
      have hT := take_yes N B tc ⟨#[44]⟩ _ HR.out.1 hb (by decide)
      clear hb hmore hx2 ht2
      go_wp2_with (go_at_call 54; refine hT.mono ?_; rintro e w3 ⟨rfl, hr, ht⟩; have HO3 := Lib.hid (HO.out.turn ht (fun k hk e => by have := HB.out.1; omega)); have HR3 := Lib.hid (And.intro hr (HR.out.2.trans ht)); clear hr ht)
      refine (hC _ HR3.out.1 HN.out).mono ?_
      rintro e w4 ⟨V2, cs2, rfl, hV2, hs, hr, ht⟩
      have hcl2 := rowE.len hs
      have HO4 := Lib.hid (HO3.out.turn ht (fun k hk e => by have := HB.out.1; omega))
      have HX4 := Lib.hid (rowE.mono hs (fun k hk _ => HO3.out.past (HR3.out.2.size) hk))
      have HR4 := Lib.hid (And.intro hr (HR3.out.2.trans ht))
      clear hs hr ht hC
      obtain ⟨v5, w5, hrun, hown, hturn⟩ := OwnL.app Tryz.underlying26 Tryz.infoLRow rfl (by decide) HO4.out HX4.out (by have := HK.out.2.2; omega) (by decide) HR4.out.2.size
      have HO5 := Lib.hid hown
      have HR5 : Hid (RdAt N w5 B t2 ∧ Turn (· = B) w w5) := Lib.hid ⟨HR4.out.1.far hturn (fun k hk => Nat.le_trans HB.out.2 (HO4.out.own.lt k hk).1), HR4.out.2.next hturn (fun k hk e => by have := (HO4.out.own.lt k e).1; omega)⟩
      clear hown hturn
      go_wp2_with (first
        | (refine wpList_one_slice rowE Tryz.underlying26 Tryz.infoLRow rfl (by decide) hV2 hcl2 rfl _ rfl rfl ?_)
        | (at_builtin; refine wpList_append_run0 rfl _ _ _ rfl _ _ v5 w5 rfl rfl hrun ?_))
      go_roundw
      case rel => exact ⟨k2, t2, l ++ [x2], css ++ [cs2], HMORE, Lib.hid ⟨by have := HLE.out; have := HLT.out; have := HK.out.1; omega, by have := HLE.out; have := HN.out; omega, by have := HLE.out; have := HLT.out; have := HK.out.2.2; simp; omega⟩, HO5, HR5⟩
      case measure => rw [HR5.out.1.restLen, HRL.out]; exact Nat.lt_of_le_of_lt HLE.out HLT.out

theorem Tryz.infoLItem : (Tryz.prog.info? itemE.T).map (fun i => (i.zero, i.size, i.bytes)) = some (some (.agg #[.int .u8 0, .int .u8 0, .string ⟨#[]⟩, .string ⟨#[]⟩, .int .u8 0, .int .i64 0, .string ⟨#[]⟩, .bool false, .slice none 0 0, .string ⟨#[]⟩, .bool false]), itemE.sz, 128) := by kernel_rfl
set_option maxRecDepth 100000 in
set_option maxHeartbeats 4000000 in
theorem listItem_tr (N B n fn : Nat) (hn : n ≤ 900000) (hcf : ∀ (args : Array Value) (w : World), (callFunc fn args).run Tryz.prog w = .ok (.enter fn args) w) (f : St → ItemM × St) (hf : ReadsT itemE N B n fn f) (hle : Le f) (t : St) (w : World) (h : RdAt N w B t) (ht : t.rest.length ≤ n) :
    Calls Tryz.prog 134 #[.pointer (some ⟨B, 0, none⟩), .func (.func fn) #[.pointer (some ⟨B, 0, none⟩)] #[]] w (GivesL itemE N B (listP f t) w) := by
  have hC0 := hf t w h ht
  obtain ⟨r, hr⟩ : ∃ r, listP f t = r := ⟨_, rfl⟩
  obtain ⟨x1, hx1⟩ : ∃ x, (f t).1 = x := ⟨_, rfl⟩
  obtain ⟨t1, ht1'⟩ : ∃ t', (f t).2 = t' := ⟨_, rfl⟩
  rw [hx1, ht1'] at hC0
  have HRES1 : Hid (listL f t1.rest.length [x1] t1 = r) := Lib.hid (by show _ = _; rw [← hr]; unfold listP; rw [hx1, ht1'])
  have HL1 : Hid (t1.rest.length ≤ n ∧ 1 + t1.rest.length ≤ n + 1) := Lib.hid (by have := hle t; rw [ht1'] at this; constructor <;> omega)
  have HB := Lib.hid (And.intro h.lt h.le)
  rw [hr]
  clear hr h ht hx1 ht1'
  go_enter Tryz.func134, Tryz.ntmps134
  go_wp2_with fail
  refine hC0.mono ?_
  rintro e w1 ⟨V, cs, rfl, hV, hs1, hr1, ht1⟩
  have hcl := itemE.len hs1
  have hown : OwnL itemE w.heap.size (w1.alloc (.cells cs.toArray itemE.T)) (.slice (some ⟨w1.heap.size, 0, none⟩) 1 1) [cs] [x1] := OwnL.start hs1 ht1.size (by simp [itemE.len hs1])
  have HR2 := Lib.hid (And.intro (hr1.kept (below_alloc w1 (.cells cs.toArray itemE.T))) (ht1.then_below (below_alloc w1 (.cells cs.toArray itemE.T))))
  have HO2 := Lib.hid hown
  clear hs1 hr1 ht1 hC0 hown
  obtain ⟨w2, hw2⟩ : ∃ w2, w2 = w1.alloc (.cells cs.toArray itemE.T) := ⟨_, rfl⟩
  rw [← hw2] at HR2 HO2
  obtain ⟨g1, hg1⟩ : ∃ g, g = w1.heap.size := ⟨_, rfl⟩
  rw [← hg1] at HO2
  go_wp2_with (refine wpList_one_slice itemE Tryz.underlying27 Tryz.infoLItem rfl (by decide) hV hcl rfl _ rfl rfl ?_)
  rw [← hw2, ← hg1]
  clear hw2 hg1
  go_loopw [5] (fun v wr => ∃ (k : Nat) (tc : St) (l : List ItemM) (css : List (List Value)), Hid (listL f k l tc = r) ∧ Hid (tc.rest.length ≤ k ∧ tc.rest.length ≤ n ∧ l.length + tc.rest.length ≤ n + 1) ∧ Hid (OwnL itemE w.heap.size wr v css l) ∧ Hid (RdAt N wr B tc ∧ Turn (· = B) w wr)) (fun _ wr => restLen wr B)
  case atStart => exact ⟨_, t1, [x1], [cs], HRES1, Lib.hid ⟨Nat.le_refl _, HL1.out.1, HL1.out.2⟩, HO2, HR2⟩
  case round =>
    obtain ⟨k, tc, l, css, HRES, HK, HO, HR⟩ := hrel
    obtain ⟨av, nv, cv, rfl⟩ := HO.out.slice'
    clear HRES1 HL1 HO2 HR2
    cases hb : tc.has wComma with
    | false =>
      have HEND := Lib.hid ((listL_zero f k l tc hb).symm.trans HRES.out)
      have hT := take_no N B tc ⟨#[44]⟩ _ HR.out.1 hb
      clear hb
      go_wp2_with (go_at_call 54; refine hT.mono ?_; rintro e w3 ⟨rfl, hr, hbl⟩; have HR3 := Lib.hid (And.intro hr (HR.out.2.then_below hbl)); have HO3 := Lib.hid (HO.out.turn (Turn.of_below (S := (· = B)) hbl) (fun k hk e => by have := HB.out.1; omega)); clear hr hbl)
      go_ret
      rw [← HEND.out]
      exact ⟨_, rfl, RowOf.of_own HO3.out, HR3.out.1, HR3.out.2⟩
    | true =>
      have HLT := Lib.hid (St.has_lt hb (by decide)).1
      obtain ⟨k2, hk2⟩ : ∃ k2, k = k2 + 1 := ⟨k - 1, by have := HLT.out; have := HK.out.1; omega⟩
      subst hk2
      have hmore : listL f (k2 + 1) l tc = listL f k2 (l ++ [(f tc.step).1]) (f tc.step).2 := by conv => lhs; unfold listL; rw [if_pos hb]
      obtain ⟨x2, hx2⟩ : ∃ x, (f tc.step).1 = x := ⟨_, rfl⟩
      obtain ⟨t2, ht2⟩ : ∃ t', (f tc.step).2 = t' := ⟨_, rfl⟩
      have hC := hf tc.step
      rw [hx2, ht2] at hmore hC
      have HMORE := Lib.hid (hmore.symm.trans HRES.out)
      have HLE : Hid (t2.rest.length ≤ tc.step.rest.length) := Lib.hid (by have := hle tc.step; rw [ht2] at this; exact this)
      have HN : Hid (tc.step.rest.length ≤ n) := Lib.hid (by have := HLT.out; have := HK.out.2.1; show _ ≤ _; omega)
      have HRL := Lib.hid HR.out.1.restLen
      have hT := take_yes N B tc ⟨#[44]⟩ _ HR.out.1 hb (by decide)
      clear hb hmore hx2 ht2
      go_wp2_with (go_at_call 54; refine hT.mono ?_; rintro e w3 ⟨rfl, hr, ht⟩; have HO3 := Lib.hid (HO.out.turn ht (fun k hk e => by have := HB.out.1; omega)); have HR3 := Lib.hid (And.intro hr (HR.out.2.trans ht)); clear hr ht)
      refine (hC _ HR3.out.1 HN.out).mono ?_
      rintro e w4 ⟨V2, cs2, rfl, hV2, hs, hr, ht⟩
      have hcl2 := itemE.len hs
      have HO4 := Lib.hid (HO3.out.turn ht (fun k hk e => by have := HB.out.1; omega))
      have HX4 := Lib.hid (itemE.mono hs (fun k hk _ => HO3.out.past (HR3.out.2.size) hk))
      have HR4 := Lib.hid (And.intro hr (HR3.out.2.trans ht))
      clear hs hr ht hC
      obtain ⟨v5, w5, hrun, hown, hturn⟩ := OwnL.app Tryz.underlying27 Tryz.infoLItem rfl (by decide) HO4.out HX4.out (by have := HK.out.2.2; omega) (by decide) HR4.out.2.size
      have HO5 := Lib.hid hown
      have HR5 : Hid (RdAt N w5 B t2 ∧ Turn (· = B) w w5) := Lib.hid ⟨HR4.out.1.far hturn (fun k hk => Nat.le_trans HB.out.2 (HO4.out.own.lt k hk).1), HR4.out.2.next hturn (fun k hk e => by have := (HO4.out.own.lt k e).1; omega)⟩
      clear hown hturn
      go_wp2_with (first
        | (refine wpList_one_slice itemE Tryz.underlying27 Tryz.infoLItem rfl (by decide) hV2 hcl2 rfl _ rfl rfl ?_)
        | (at_builtin; refine wpList_append_run0 rfl _ _ _ rfl _ _ v5 w5 rfl rfl hrun ?_))
      go_roundw
      case rel => exact ⟨k2, t2, l ++ [x2], css ++ [cs2], HMORE, Lib.hid ⟨by have := HLE.out; have := HLT.out; have := HK.out.1; omega, by have := HLE.out; have := HN.out; omega, by have := HLE.out; have := HLT.out; have := HK.out.2.2; simp; omega⟩, HO5, HR5⟩
      case measure => rw [HR5.out.1.restLen, HRL.out]; exact Nat.lt_of_le_of_lt HLE.out HLT.out

theorem Tryz.infoLOrder : (Tryz.prog.info? orderE.T).map (fun i => (i.zero, i.size, i.bytes)) = some (some (.agg #[.int .u8 0, .int .u8 0, .string ⟨#[]⟩, .string ⟨#[]⟩, .int .u8 0, .int .i64 0, .string ⟨#[]⟩, .bool false, .slice none 0 0, .bool false]), orderE.sz, 112) := by kernel_rfl
set_option maxRecDepth 100000 in
set_option maxHeartbeats 4000000 in
theorem listOrder_tr (N B n fn : Nat) (hn : n ≤ 900000) (hcf : ∀ (args : Array Value) (w : World), (callFunc fn args).run Tryz.prog w = .ok (.enter fn args) w) (f : St → OrderM × St) (hf : ReadsT orderE N B n fn f) (hle : Le f) (t : St) (w : World) (h : RdAt N w B t) (ht : t.rest.length ≤ n) :
    Calls Tryz.prog 100 #[.pointer (some ⟨B, 0, none⟩), .func (.func fn) #[.pointer (some ⟨B, 0, none⟩)] #[]] w (GivesL orderE N B (listP f t) w) := by
  have hC0 := hf t w h ht
  obtain ⟨r, hr⟩ : ∃ r, listP f t = r := ⟨_, rfl⟩
  obtain ⟨x1, hx1⟩ : ∃ x, (f t).1 = x := ⟨_, rfl⟩
  obtain ⟨t1, ht1'⟩ : ∃ t', (f t).2 = t' := ⟨_, rfl⟩
  rw [hx1, ht1'] at hC0
  have HRES1 : Hid (listL f t1.rest.length [x1] t1 = r) := Lib.hid (by show _ = _; rw [← hr]; unfold listP; rw [hx1, ht1'])
  have HL1 : Hid (t1.rest.length ≤ n ∧ 1 + t1.rest.length ≤ n + 1) := Lib.hid (by have := hle t; rw [ht1'] at this; constructor <;> omega)
  have HB := Lib.hid (And.intro h.lt h.le)
  rw [hr]
  clear hr h ht hx1 ht1'
  go_enter Tryz.func100, Tryz.ntmps100
  go_wp2_with fail
  refine hC0.mono ?_
  rintro e w1 ⟨V, cs, rfl, hV, hs1, hr1, ht1⟩
  have hcl := orderE.len hs1
  have hown : OwnL orderE w.heap.size (w1.alloc (.cells cs.toArray orderE.T)) (.slice (some ⟨w1.heap.size, 0, none⟩) 1 1) [cs] [x1] := OwnL.start hs1 ht1.size (by simp [orderE.len hs1])
  have HR2 := Lib.hid (And.intro (hr1.kept (below_alloc w1 (.cells cs.toArray orderE.T))) (ht1.then_below (below_alloc w1 (.cells cs.toArray orderE.T))))
  have HO2 := Lib.hid hown
  clear hs1 hr1 ht1 hC0 hown
  obtain ⟨w2, hw2⟩ : ∃ w2, w2 = w1.alloc (.cells cs.toArray orderE.T) := ⟨_, rfl⟩
  rw [← hw2] at HR2 HO2
  obtain ⟨g1, hg1⟩ : ∃ g, g = w1.heap.size := ⟨_, rfl⟩
  rw [← hg1] at HO2
  go_wp2_with (refine wpList_one_slice orderE Tryz.underlying37 Tryz.infoLOrder rfl (by decide) hV hcl rfl _ rfl rfl ?_)
  rw [← hw2, ← hg1]
  clear hw2 hg1
  go_loopw [5] (fun v wr => ∃ (k : Nat) (tc : St) (l : List OrderM) (css : List (List Value)), Hid (listL f k l tc = r) ∧ Hid (tc.rest.length ≤ k ∧ tc.rest.length ≤ n ∧ l.length + tc.rest.length ≤ n + 1) ∧ Hid (OwnL orderE w.heap.size wr v css l) ∧ Hid (RdAt N wr B tc ∧ Turn (· = B) w wr)) (fun _ wr => restLen wr B)
  case atStart => exact ⟨_, t1, [x1], [cs], HRES1, Lib.hid ⟨Nat.le_refl _, HL1.out.1, HL1.out.2⟩, HO2, HR2⟩
  case round =>
    obtain ⟨k, tc, l, css, HRES, HK, HO, HR⟩ := hrel
    obtain ⟨av, nv, cv, rfl⟩ := HO.out.slice'
    clear HRES1 HL1 HO2 HR2
    cases hb : tc.has wComma with
    | false =>
      have HEND := Lib.hid ((listL_zero f k l tc hb).symm.trans HRES.out)
      have hT := take_no N B tc ⟨#[44]⟩ _ HR.out.1 hb
      clear hb
      go_wp2_with (go_at_call 54; refine hT.mono ?_; rintro e w3 ⟨rfl, hr, hbl⟩; have HR3 := Lib.hid (And.intro hr (HR.out.2.then_below hbl)); have HO3 := Lib.hid (HO.out.turn (Turn.of_below (S := (· = B)) hbl) (fun k hk e => by have := HB.out.1; omega)); clear hr hbl)
      go_ret
      rw [← HEND.out]
      exact ⟨_, rfl, RowOf.of_own HO3.out, HR3.out.1, HR3.out.2⟩
    | true =>
      have HLT := Lib.hid (St.has_lt hb (by decide)).1
      obtain ⟨k2, hk2⟩ : ∃ k2, k = k2 + 1 := ⟨k - 1, by have := HLT.out; have := HK.out.1; omega⟩
      subst hk2
      have hmore : listL f (k2 + 1) l tc = listL f k2 (l ++ [(f tc.step).1]) (f tc.step).2 := by conv => lhs; unfold listL; rw [if_pos hb]
      obtain ⟨x2, hx2⟩ : ∃ x, (f tc.step).1 = x := ⟨_, rfl⟩
      obtain ⟨t2, ht2⟩ : ∃ t', (f tc.step).2 = t' := ⟨_, rfl⟩
      have hC := hf tc.step
      rw [hx2, ht2] at hmore hC
      have HMORE := Lib.hid (hmore.symm.trans HRES.out)
      have HLE : Hid (t2.rest.length ≤ tc.step.rest.length) := Lib.hid (by have := hle tc.step; rw [ht2] at this; exact this)
      have HN : Hid (tc.step.rest.length ≤ n) := Lib.hid (by have := HLT.out; have := HK.out.2.1; show _ ≤ _; omega)
      have HRL := Lib.hid HR.out.1.restLen
      have hT := take_yes N B tc ⟨#[44]⟩ _ HR.out.1 hb (by decide)
      clear hb hmore hx2 ht2
      go_wp2_with (go_at_call 54; refine hT.mono ?_; rintro e w3 ⟨rfl, hr, ht⟩; have HO3 := Lib.hid (HO.out.turn ht (fun k hk e => by have := HB.out.1; omega)); have HR3 := Lib.hid (And.intro hr (HR.out.2.trans ht)); clear hr ht)
      refine (hC _ HR3.out.1 HN.out).mono ?_
      rintro e w4 ⟨V2, cs2, rfl, hV2, hs, hr, ht⟩
      have hcl2 := orderE.len hs
      have HO4 := Lib.hid (HO3.out.turn ht (fun k hk e => by have := HB.out.1; omega))
      have HX4 := Lib.hid (orderE.mono hs (fun k hk _ => HO3.out.past (HR3.out.2.size) hk))
      have HR4 := Lib.hid (And.intro hr (HR3.out.2.trans ht))
      clear hs hr ht hC
      obtain ⟨v5, w5, hrun, hown, hturn⟩ := OwnL.app Tryz.underlying37 Tryz.infoLOrder rfl (by decide) HO4.out HX4.out (by have := HK.out.2.2; omega) (by decide) HR4.out.2.size
      have HO5 := Lib.hid hown
      have HR5 : Hid (RdAt N w5 B t2 ∧ Turn (· = B) w w5) := Lib.hid ⟨HR4.out.1.far hturn (fun k hk => Nat.le_trans HB.out.2 (HO4.out.own.lt k hk).1), HR4.out.2.next hturn (fun k hk e => by have := (HO4.out.own.lt k e).1; omega)⟩
      clear hown hturn
      go_wp2_with (first
        | (refine wpList_one_slice orderE Tryz.underlying37 Tryz.infoLOrder rfl (by decide) hV2 hcl2 rfl _ rfl rfl ?_)
        | (at_builtin; refine wpList_append_run0 rfl _ _ _ rfl _ _ v5 w5 rfl rfl hrun ?_))
      go_roundw
      case rel => exact ⟨k2, t2, l ++ [x2], css ++ [cs2], HMORE, Lib.hid ⟨by have := HLE.out; have := HLT.out; have := HK.out.1; omega, by have := HLE.out; have := HN.out; omega, by have := HLE.out; have := HLT.out; have := HK.out.2.2; simp; omega⟩, HO5, HR5⟩
      case measure => rw [HR5.out.1.restLen, HRL.out]; exact Nat.lt_of_le_of_lt HLE.out HLT.out

theorem Tryz.infoLAsg : (Tryz.prog.info? asgE.T).map (fun i => (i.zero, i.size, i.bytes)) = some (some (.agg #[.string ⟨#[]⟩, .int .u8 0, .int .u8 0, .string ⟨#[]⟩, .string ⟨#[]⟩, .int .u8 0, .int .i64 0, .string ⟨#[]⟩, .bool false, .slice none 0 0]), asgE.sz, 120) := by kernel_rfl
set_option maxRecDepth 100000 in
set_option maxHeartbeats 4000000 in
theorem listAsg_tr (N B n fn : Nat) (hn : n ≤ 900000) (hcf : ∀ (args : Array Value) (w : World), (callFunc fn args).run Tryz.prog w = .ok (.enter fn args) w) (f : St → AsgM × St) (hf : ReadsT asgE N B n fn f) (hle : Le f) (t : St) (w : World) (h : RdAt N w B t) (ht : t.rest.length ≤ n) :
    Calls Tryz.prog 106 #[.pointer (some ⟨B, 0, none⟩), .func (.func fn) #[.pointer (some ⟨B, 0, none⟩)] #[]] w (GivesL asgE N B (listP f t) w) := by
  have hC0 := hf t w h ht
  obtain ⟨r, hr⟩ : ∃ r, listP f t = r := ⟨_, rfl⟩
  obtain ⟨x1, hx1⟩ : ∃ x, (f t).1 = x := ⟨_, rfl⟩
  obtain ⟨t1, ht1'⟩ : ∃ t', (f t).2 = t' := ⟨_, rfl⟩
  rw [hx1, ht1'] at hC0
  have HRES1 : Hid (listL f t1.rest.length [x1] t1 = r) := Lib.hid (by show _ = _; rw [← hr]; unfold listP; rw [hx1, ht1'])
  have HL1 : Hid (t1.rest.length ≤ n ∧ 1 + t1.rest.length ≤ n + 1) := Lib.hid (by have := hle t; rw [ht1'] at this; constructor <;> omega)
  have HB := Lib.hid (And.intro h.lt h.le)
  rw [hr]
  clear hr h ht hx1 ht1'
  go_enter Tryz.func106, Tryz.ntmps106
  go_wp2_with fail
  refine hC0.mono ?_
  rintro e w1 ⟨V, cs, rfl, hV, hs1, hr1, ht1⟩
  have hcl := asgE.len hs1
  have hown : OwnL asgE w.heap.size (w1.alloc (.cells cs.toArray asgE.T)) (.slice (some ⟨w1.heap.size, 0, none⟩) 1 1) [cs] [x1] := OwnL.start hs1 ht1.size (by simp [asgE.len hs1])
  have HR2 := Lib.hid (And.intro (hr1.kept (below_alloc w1 (.cells cs.toArray asgE.T))) (ht1.then_below (below_alloc w1 (.cells cs.toArray asgE.T))))
  have HO2 := Lib.hid hown
  clear hs1 hr1 ht1 hC0 hown
  obtain ⟨w2, hw2⟩ : ∃ w2, w2 = w1.alloc (.cells cs.toArray asgE.T) := ⟨_, rfl⟩
  rw [← hw2] at HR2 HO2
  obtain ⟨g1, hg1⟩ : ∃ g, g = w1.heap.size := ⟨_, rfl⟩
  rw [← hg1] at HO2
  go_wp2_with (refine wpList_one_slice asgE Tryz.underlying152 Tryz.infoLAsg rfl (by decide) hV hcl rfl _ rfl rfl ?_)
  rw [← hw2, ← hg1]
  clear hw2 hg1
  go_loopw [5] (fun v wr => ∃ (k : Nat) (tc : St) (l : List AsgM) (css : List (List Value)), Hid (listL f k l tc = r) ∧ Hid (tc.rest.length ≤ k ∧ tc.rest.length ≤ n ∧ l.length + tc.rest.length ≤ n + 1) ∧ Hid (OwnL asgE w.heap.size wr v css l) ∧ Hid (RdAt N wr B tc ∧ Turn (· = B) w wr)) (fun _ wr => restLen wr B)
  case atStart => exact ⟨_, t1, [x1], [cs], HRES1, Lib.hid ⟨Nat.le_refl _, HL1.out.1, HL1.out.2⟩, HO2, HR2⟩
  case round =>
    obtain ⟨k, tc, l, css, HRES, HK, HO, HR⟩ := hrel
    obtain ⟨av, nv, cv, rfl⟩ := HO.out.slice'
    clear HRES1 HL1 HO2 HR2
    cases hb : tc.has wComma with
    | false =>
      have HEND := Lib.hid ((listL_zero f k l tc hb).symm.trans HRES.out)
      have hT := take_no N B tc ⟨#[44]⟩ _ HR.out.1 hb
      clear hb
      go_wp2_with (go_at_call 54; refine hT.mono ?_; rintro e w3 ⟨rfl, hr, hbl⟩; have HR3 := Lib.hid (And.intro hr (HR.out.2.then_below hbl)); have HO3 := Lib.hid (HO.out.turn (Turn.of_below (S := (· = B)) hbl) (fun k hk e => by have := HB.out.1; omega)); clear hr hbl)
      go_ret
      rw [← HEND.out]
      exact ⟨_, rfl, RowOf.of_own HO3.out, HR3.out.1, HR3.out.2⟩
    | true =>
      have HLT := Lib.hid (St.has_lt hb (by decide)).1
      obtain ⟨k2, hk2⟩ : ∃ k2, k = k2 + 1 := ⟨k - 1, by have := HLT.out; have := HK.out.1; omega⟩
      subst hk2
      have hmore : listL f (k2 + 1) l tc = listL f k2 (l ++ [(f tc.step).1]) (f tc.step).2 := by conv => lhs; unfold listL; rw [if_pos hb]
      obtain ⟨x2, hx2⟩ : ∃ x, (f tc.step).1 = x := ⟨_, rfl⟩
      obtain ⟨t2, ht2⟩ : ∃ t', (f tc.step).2 = t' := ⟨_, rfl⟩
      have hC := hf tc.step
      rw [hx2, ht2] at hmore hC
      have HMORE := Lib.hid (hmore.symm.trans HRES.out)
      have HLE : Hid (t2.rest.length ≤ tc.step.rest.length) := Lib.hid (by have := hle tc.step; rw [ht2] at this; exact this)
      have HN : Hid (tc.step.rest.length ≤ n) := Lib.hid (by have := HLT.out; have := HK.out.2.1; show _ ≤ _; omega)
      have HRL := Lib.hid HR.out.1.restLen
      have hT := take_yes N B tc ⟨#[44]⟩ _ HR.out.1 hb (by decide)
      clear hb hmore hx2 ht2
      go_wp2_with (go_at_call 54; refine hT.mono ?_; rintro e w3 ⟨rfl, hr, ht⟩; have HO3 := Lib.hid (HO.out.turn ht (fun k hk e => by have := HB.out.1; omega)); have HR3 := Lib.hid (And.intro hr (HR.out.2.trans ht)); clear hr ht)
      refine (hC _ HR3.out.1 HN.out).mono ?_
      rintro e w4 ⟨V2, cs2, rfl, hV2, hs, hr, ht⟩
      have hcl2 := asgE.len hs
      have HO4 := Lib.hid (HO3.out.turn ht (fun k hk e => by have := HB.out.1; omega))
      have HX4 := Lib.hid (asgE.mono hs (fun k hk _ => HO3.out.past (HR3.out.2.size) hk))
      have HR4 := Lib.hid (And.intro hr (HR3.out.2.trans ht))
      clear hs hr ht hC
      obtain ⟨v5, w5, hrun, hown, hturn⟩ := OwnL.app Tryz.underlying152 Tryz.infoLAsg rfl (by decide) HO4.out HX4.out (by have := HK.out.2.2; omega) (by decide) HR4.out.2.size
      have HO5 := Lib.hid hown
      have HR5 : Hid (RdAt N w5 B t2 ∧ Turn (· = B) w w5) := Lib.hid ⟨HR4.out.1.far hturn (fun k hk => Nat.le_trans HB.out.2 (HO4.out.own.lt k hk).1), HR4.out.2.next hturn (fun k hk e => by have := (HO4.out.own.lt k e).1; omega)⟩
      clear hown hturn
      go_wp2_with (first
        | (refine wpList_one_slice asgE Tryz.underlying152 Tryz.infoLAsg rfl (by decide) hV2 hcl2 rfl _ rfl rfl ?_)
        | (at_builtin; refine wpList_append_run0 rfl _ _ _ rfl _ _ v5 w5 rfl rfl hrun ?_))
      go_roundw
      case rel => exact ⟨k2, t2, l ++ [x2], css ++ [cs2], HMORE, Lib.hid ⟨by have := HLE.out; have := HLT.out; have := HK.out.1; omega, by have := HLE.out; have := HN.out; omega, by have := HLE.out; have := HLT.out; have := HK.out.2.2; simp; omega⟩, HO5, HR5⟩
      case measure => rw [HR5.out.1.restLen, HRL.out]; exact Nat.lt_of_le_of_lt HLE.out HLT.out

theorem Tryz.infoLCol : (Tryz.prog.info? colE'.T).map (fun i => (i.zero, i.size, i.bytes)) = some (some (.agg #[.string ⟨#[]⟩, .int .u8 0, .bool false, .bool false, .bool false]), colE'.sz, 24) := by kernel_rfl
set_option maxRecDepth 100000 in
set_option maxHeartbeats 4000000 in
theorem listCol_tr (N B n fn : Nat) (hn : n ≤ 900000) (hcf : ∀ (args : Array Value) (w : World), (callFunc fn args).run Tryz.prog w = .ok (.enter fn args) w) (f : St → ColM × St) (hf : ReadsT colE' N B n fn f) (hle : Le f) (t : St) (w : World) (h : RdAt N w B t) (ht : t.rest.length ≤ n) :
    Calls Tryz.prog 139 #[.pointer (some ⟨B, 0, none⟩), .func (.func fn) #[.pointer (some ⟨B, 0, none⟩)] #[]] w (GivesL colE' N B (listP f t) w) := by
  have hC0 := hf t w h ht
  obtain ⟨r, hr⟩ : ∃ r, listP f t = r := ⟨_, rfl⟩
  obtain ⟨x1, hx1⟩ : ∃ x, (f t).1 = x := ⟨_, rfl⟩
  obtain ⟨t1, ht1'⟩ : ∃ t', (f t).2 = t' := ⟨_, rfl⟩
  rw [hx1, ht1'] at hC0
  have HRES1 : Hid (listL f t1.rest.length [x1] t1 = r) := Lib.hid (by show _ = _; rw [← hr]; unfold listP; rw [hx1, ht1'])
  have HL1 : Hid (t1.rest.length ≤ n ∧ 1 + t1.rest.length ≤ n + 1) := Lib.hid (by have := hle t; rw [ht1'] at this; constructor <;> omega)
  have HB := Lib.hid (And.intro h.lt h.le)
  rw [hr]
  clear hr h ht hx1 ht1'
  go_enter Tryz.func139, Tryz.ntmps139
  go_wp2_with fail
  refine hC0.mono ?_
  rintro e w1 ⟨V, cs, rfl, hV, hs1, hr1, ht1⟩
  have hcl := colE'.len hs1
  have hown : OwnL colE' w.heap.size (w1.alloc (.cells cs.toArray colE'.T)) (.slice (some ⟨w1.heap.size, 0, none⟩) 1 1) [cs] [x1] := OwnL.start hs1 ht1.size (by simp [colE'.len hs1])
  have HR2 := Lib.hid (And.intro (hr1.kept (below_alloc w1 (.cells cs.toArray colE'.T))) (ht1.then_below (below_alloc w1 (.cells cs.toArray colE'.T))))
  have HO2 := Lib.hid hown
  clear hs1 hr1 ht1 hC0 hown
  obtain ⟨w2, hw2⟩ : ∃ w2, w2 = w1.alloc (.cells cs.toArray colE'.T) := ⟨_, rfl⟩
  rw [← hw2] at HR2 HO2
  obtain ⟨g1, hg1⟩ : ∃ g, g = w1.heap.size := ⟨_, rfl⟩
  rw [← hg1] at HO2
  go_wp2_with (refine wpList_one_slice colE' Tryz.underlying24 Tryz.infoLCol rfl (by decide) hV hcl rfl _ rfl rfl ?_)
  rw [← hw2, ← hg1]
  clear hw2 hg1
  go_loopw [5] (fun v wr => ∃ (k : Nat) (tc : St) (l : List ColM) (css : List (List Value)), Hid (listL f k l tc = r) ∧ Hid (tc.rest.length ≤ k ∧ tc.rest.length ≤ n ∧ l.length + tc.rest.length ≤ n + 1) ∧ Hid (OwnL colE' w.heap.size wr v css l) ∧ Hid (RdAt N wr B tc ∧ Turn (· = B) w wr)) (fun _ wr => restLen wr B)
  case atStart => exact ⟨_, t1, [x1], [cs], HRES1, Lib.hid ⟨Nat.le_refl _, HL1.out.1, HL1.out.2⟩, HO2, HR2⟩
  case round =>
    obtain ⟨k, tc, l, css, HRES, HK, HO, HR⟩ := hrel
    obtain ⟨av, nv, cv, rfl⟩ := HO.out.slice'
    clear HRES1 HL1 HO2 HR2
    cases hb : tc.has wComma with
    | false =>
      have HEND := Lib.hid ((listL_zero f k l tc hb).symm.trans HRES.out)
      have hT := take_no N B tc ⟨#[44]⟩ _ HR.out.1 hb
      clear hb
      go_wp2_with (go_at_call 54; refine hT.mono ?_; rintro e w3 ⟨rfl, hr, hbl⟩; have HR3 := Lib.hid (And.intro hr (HR.out.2.then_below hbl)); have HO3 := Lib.hid (HO.out.turn (Turn.of_below (S := (· = B)) hbl) (fun k hk e => by have := HB.out.1; omega)); clear hr hbl)
      go_ret
      rw [← HEND.out]
      exact ⟨_, rfl, RowOf.of_own HO3.out, HR3.out.1, HR3.out.2⟩
    | true =>
      have HLT := Lib.hid (St.has_lt hb (by decide)).1
      obtain ⟨k2, hk2⟩ : ∃ k2, k = k2 + 1 := ⟨k - 1, by have := HLT.out; have := HK.out.1; omega⟩
      subst hk2
      have hmore : listL f (k2 + 1) l tc = listL f k2 (l ++ [(f tc.step).1]) (f tc.step).2 := by conv => lhs; unfold listL; rw [if_pos hb]
      obtain ⟨x2, hx2⟩ : ∃ x, (f tc.step).1 = x := ⟨_, rfl⟩
      obtain ⟨t2, ht2⟩ : ∃ t', (f tc.step).2 = t' := ⟨_, rfl⟩
      have hC := hf tc.step
      rw [hx2, ht2] at hmore hC
      have HMORE := Lib.hid (hmore.symm.trans HRES.out)
      have HLE : Hid (t2.rest.length ≤ tc.step.rest.length) := Lib.hid (by have := hle tc.step; rw [ht2] at this; exact this)
      have HN : Hid (tc.step.rest.length ≤ n) := Lib.hid (by have := HLT.out; have := HK.out.2.1; show _ ≤ _; omega)
      have HRL := Lib.hid HR.out.1.restLen
      have hT := take_yes N B tc ⟨#[44]⟩ _ HR.out.1 hb (by decide)
      clear hb hmore hx2 ht2
      go_wp2_with (go_at_call 54; refine hT.mono ?_; rintro e w3 ⟨rfl, hr, ht⟩; have HO3 := Lib.hid (HO.out.turn ht (fun k hk e => by have := HB.out.1; omega)); have HR3 := Lib.hid (And.intro hr (HR.out.2.trans ht)); clear hr ht)
      refine (hC _ HR3.out.1 HN.out).mono ?_
      rintro e w4 ⟨V2, cs2, rfl, hV2, hs, hr, ht⟩
      have hcl2 := colE'.len hs
      have HO4 := Lib.hid (HO3.out.turn ht (fun k hk e => by have := HB.out.1; omega))
      have HX4 := Lib.hid (colE'.mono hs (fun k hk _ => HO3.out.past (HR3.out.2.size) hk))
      have HR4 := Lib.hid (And.intro hr (HR3.out.2.trans ht))
      clear hs hr ht hC
      obtain ⟨v5, w5, hrun, hown, hturn⟩ := OwnL.app Tryz.underlying24 Tryz.infoLCol rfl (by decide) HO4.out HX4.out (by have := HK.out.2.2; omega) (by decide) HR4.out.2.size
      have HO5 := Lib.hid hown
      have HR5 : Hid (RdAt N w5 B t2 ∧ Turn (· = B) w w5) := Lib.hid ⟨HR4.out.1.far hturn (fun k hk => Nat.le_trans HB.out.2 (HO4.out.own.lt k hk).1), HR4.out.2.next hturn (fun k hk e => by have := (HO4.out.own.lt k e).1; omega)⟩
      clear hown hturn
      go_wp2_with (first
        | (refine wpList_one_slice colE' Tryz.underlying24 Tryz.infoLCol rfl (by decide) hV2 hcl2 rfl _ rfl rfl ?_)
        | (at_builtin; refine wpList_append_run0 rfl _ _ _ rfl _ _ v5 w5 rfl rfl hrun ?_))
      go_roundw
      case rel => exact ⟨k2, t2, l ++ [x2], css ++ [cs2], HMORE, Lib.hid ⟨by have := HLE.out; have := HLT.out; have := HK.out.1; omega, by have := HLE.out; have := HN.out; omega, by have := HLE.out; have := HLT.out; have := HK.out.2.2; simp; omega⟩, HO5, HR5⟩
      case measure => rw [HR5.out.1.restLen, HRL.out]; exact Nat.lt_of_le_of_lt HLE.out HLT.out

set_option maxHeartbeats 2000000 in
theorem enclosedCol_tr (N B n fn : Nat) (hn : n ≤ 900000) (hcf : ∀ (args : Array Value) (w : World), (callFunc fn args).run Tryz.prog w = .ok (.enter fn args) w) (f : St → ColM × St) (hf : ReadsT colE' N B n fn f) (hle : Le f) (t : St) (w : World) (h : RdAt N w B t) (ht : t.rest.length ≤ n) :
    Calls Tryz.prog 108 #[.pointer (some ⟨B, 0, none⟩), .func (.func fn) #[.pointer (some ⟨B, 0, none⟩)] #[]] w (GivesL colE' N B (enclosedP f t) w) := by
  have hO := need_any N B t ⟨#[40]⟩ w h (by decide)
  have hL := fun w h => listCol_tr N B n fn hn hcf f hf hle (t.need wOpen) w h (Nat.le_trans (St.need_le _ _) ht)
  have HBW := Lib.hid h.lt
  unfold enclosedP
  obtain ⟨r, hr⟩ : ∃ r, listP f (t.need wOpen) = r := ⟨_, rfl⟩
  rw [hr] at hL ⊢
  clear hr h ht
  go_enter Tryz.func108, Tryz.ntmps108
  go_wp2_with fail
  refine hO.mono ?_
  rintro e w1 ⟨rfl, hr1, ht1⟩
  have HR1 := Lib.hid (And.intro hr1 ht1)
  clear hr1 ht1 hO
  go_wp2_with fail
  refine (hL _ HR1.out.1).mono ?_
  rintro e w2 ⟨v, rfl, hrow, hr2, ht2⟩
  obtain ⟨av, cv, rfl, _⟩ := hrow.slice
  have HR2 := Lib.hid (And.intro hr2 (HR1.out.2.trans ht2))
  have HV2 := Lib.hid (hrow.mono (Q := (w.heap.size ≤ ·)) (fun k hk _ => Nat.le_trans HR1.out.2.size hk))
  obtain ⟨nv, hnv⟩ : ∃ n, r.1.length = n := ⟨_, rfl⟩
  rw [hnv] at HV2 ⊢
  clear hrow hr2 ht2 hL hnv
  go_wp2_with fail
  refine (need_any N B r.2 ⟨#[41]⟩ _ HR2.out.1 (by decide)).mono ?_
  rintro e w3 ⟨rfl, hr3, ht3⟩
  have HR3 := Lib.hid (And.intro hr3 (HR2.out.2.trans ht3))
  have HV3 := Lib.hid (HV2.out.turn ht3 (fun k hk e => by have := HBW.out; omega))
  clear hr3 ht3
  go_wp2_with fail
  go_ret
  exact ⟨_, rfl, HV3.out, HR3.out.1, HR3.out.2⟩
end
end Go.Proofs.YtenmnpbjnbdeaaaGreatDoor
