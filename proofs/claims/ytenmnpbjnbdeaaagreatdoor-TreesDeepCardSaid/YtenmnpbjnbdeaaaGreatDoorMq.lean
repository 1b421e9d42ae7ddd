/-
  WHAT IS PROVED: statements as they lie in cells; what reads a delete. what reads an insert, and a create.
-/
import Derived.Test.YtenmnpbjnbdeaaaGreatDoorMp
namespace Go.Proofs.YtenmnpbjnbdeaaaGreatDoor
section
open Go.RowKit Go.Shelf
set_option linter.unusedVariables false

/-- the lists of a statement -/
structure StHeld (P : Nat → Prop) (w : World) (x : StM) (c n r i f u g h o : Value) : Prop where
  hc : RowOf colE' P w c x.columns
  hn : RowOf strE P w n x.names
  hr : RowOf rowE P w r x.rows
  hi : RowOf itemE P w i x.items
  hf : RowOf fromE P w f x.tables
  hu : REs P w u x.cond.l
  hg : RowOf exE P w g x.group
  hh : REs P w h x.having_.l
  ho : RowOf orderE P w o x.order
theorem StHeld.kept {P : Nat → Prop} {w w' : World} {x : StM} {c n r i f u g h o : Value} (q : StHeld P w x c n r i f u g h o) (hs : w.heap.size ≤ w'.heap.size) (hk : ∀ k, P k → k < w.heap.size → w'.heap[k]? = w.heap[k]?) : StHeld P w' x c n r i f u g h o :=
  ⟨q.hc.kept hs hk, q.hn.kept hs hk, q.hr.kept hs hk, q.hi.kept hs hk, q.hf.kept hs hk, q.hu.kept hs hk, q.hg.kept hs hk, q.hh.kept hs hk, q.ho.kept hs hk⟩
theorem StHeld.mono {P Q : Nat → Prop} {w : World} {x : StM} {c n r i f u g h o : Value} (q : StHeld P w x c n r i f u g h o) (hk : ∀ k, P k → k < w.heap.size → Q k) : StHeld Q w x c n r i f u g h o :=
  ⟨q.hc.mono hk, q.hn.mono hk, q.hr.mono hk, q.hi.mono hk, q.hf.mono hk, q.hu.mono hk, q.hg.mono hk, q.hh.mono hk, q.ho.mono hk⟩
theorem StHeld.turn {P S : Nat → Prop} {w w' : World} {x : StM} {c n r i f u g h o : Value} (q : StHeld P w x c n r i f u g h o) (ht : Turn S w w') (hn : ∀ k, P k → ¬ S k) : StHeld P w' x c n r i f u g h o := q.kept ht.size (fun k hp hk => ht.block k hk (hn k hp))
def stArr (x : StM) (c n r i f u g h o : Value) : Array Value := (s11 ((x.kind : Int)) ((strU x.name)) ((strU x.table)) c n r i f x.cond.a u g x.having_.a h o x.limit x.skip)
def GivesS (N B : Nat) (x : StM × St) (w : World) (e : Ending) (w' : World) : Prop :=
  ∃ c n r i f u g h o, e = .returned (.agg (stArr x.1 c n r i f u g h o)) ∧ StHeld (w.heap.size ≤ ·) w' x.1 c n r i f u g h o ∧ RdAt N w' B x.2 ∧ Turn (· = B) w w'
def stZero : Array Value := (s00 0 z0 z0 nS nS nS nS nS nS nS 0 0)
/-- a statement under way: it lies in block X, its result in block R -/
structure Fs (N B R X : Nat) (A : Array Value) (w wi : World) (t : St) (x : StM) (c n r i f u g h o : Value) : Prop where
  z : Fz N B R 39 stZero w wi t
  blk : wi.heap[X]? = some (.cells A 39 (0, 0))
  hX : R < X
  held : StHeld (fun k => R < k ∧ k ≠ X) wi x c n r i f u g h o
section
variable {N B R X : Nat} {A : Array Value} {w wi wj : World} {t t' : St} {x : StM} {c n r i f u g h o : Value}
theorem Fs.start (z : Fz N B R 39 stZero w wi t) (A : Array Value) (x : StM) (hx : x = {noS with kind := x.kind, name := x.name, table := x.table, limit := x.limit, skip := x.skip}) :
    Fs N B R wi.heap.size A w ((wi.alloc (.cells stZero 39)).setRow wi.heap.size A) t x nS nS nS nS nS nS nS nS nS := by
  have hn : (wi.alloc (.cells stZero 39)).heap[wi.heap.size]? = some (.cells stZero 39 (0, 0)) := heap_alloc_new _ _
  refine ⟨(z.new (below_alloc _ _)).setRow (bk_lt z.res) _, setRow_heap _ _ _ _ _ _ hn, bk_lt z.res, ?_⟩
  rw [hx]
  exact ⟨.inl ⟨rfl, rfl⟩, .inl ⟨rfl, rfl⟩, .inl ⟨rfl, rfl⟩, .inl ⟨rfl, rfl⟩, .inl ⟨rfl, rfl⟩, REs.nil _ _, .inl ⟨rfl, rfl⟩, REs.nil _ _, .inl ⟨rfl, rfl⟩⟩
theorem Fs.notB (q : Fs N B R X A w wi t x c n r i f u g h o) : ¬ X = B := by have := q.z.hB; have := q.z.hR; have := q.hX; omega
theorem Fs.call (q : Fs N B R X A w wi t x c n r i f u g h o) (hr : RdAt N wj B t') (ht : Turn (· = B) wi wj) : Fs N B R X A w wj t' x c n r i f u g h o :=
  ⟨q.z.call hr ht, (ht.block X (bk_lt q.blk) q.notB).trans q.blk, q.hX, q.held.turn ht (fun k hk => q.z.notB hk.1)⟩
theorem Fs.new (q : Fs N B R X A w wi t x c n r i f u g h o) (hb : Below wi.heap.size wi wj) : Fs N B R X A w wj t x c n r i f u g h o := q.call (q.z.rd.kept hb) (Turn.of_below hb)
theorem Fs.set (q : Fs N B R X A w wi t x c n r i f u g h o) (A' : Array Value) : Fs N B R X A' w (wi.setRow X A') t x c n r i f u g h o :=
  ⟨q.z.setRow q.hX _, setRow_heap _ _ _ _ _ _ q.blk, q.hX, q.held.turn (Turn.setRow (· = X) _ _ _ rfl) (fun k hk e => hk.2 e)⟩
theorem Fs.gotX (q : Fs N B R X A w wi t x c n r i f u g h o) {v : Value} {l : Exs} (hs : REs (wi.heap.size ≤ ·) wj v l) : REs (fun k => R < k ∧ k ≠ X) wj v l := hs.mono fun k hk _ => by have := q.hX; have := bk_lt q.blk; have hk' : wi.heap.size ≤ k := hk; constructor <;> omega
theorem Fs.gotL (q : Fs N B R X A w wi t x c n r i f u g h o) {α : Type} {E : Elt α} {v : Value} {l : List α} (hs : RowOf E (wi.heap.size ≤ ·) wj v l) : RowOf E (fun k => R < k ∧ k ≠ X) wj v l := hs.mono fun k hk _ => by have := q.hX; have := bk_lt q.blk; have hk' : wi.heap.size ≤ k := hk; constructor <;> omega
theorem Fs.cond (q : Fs N B R X A w wi t x c n r i f u g h o) {v : Value} {e : Ex} (hs : REs (fun k => R < k ∧ k ≠ X) wi v e.l) : Fs N B R X A w wi t { x with cond := e } c n r i f v g h o := ⟨q.z, q.blk, q.hX, { q.held with hu := hs }⟩
theorem Fs.having_ (q : Fs N B R X A w wi t x c n r i f u g h o) {v : Value} {e : Ex} (hs : REs (fun k => R < k ∧ k ≠ X) wi v e.l) : Fs N B R X A w wi t { x with having_ := e } c n r i f u g v o := ⟨q.z, q.blk, q.hX, { q.held with hh := hs }⟩
theorem Fs.columns (q : Fs N B R X A w wi t x c n r i f u g h o) {v : Value} {l : List ColM} (hs : RowOf colE' (fun k => R < k ∧ k ≠ X) wi v l) : Fs N B R X A w wi t { x with columns := l } v n r i f u g h o := ⟨q.z, q.blk, q.hX, { q.held with hc := hs }⟩
theorem Fs.names (q : Fs N B R X A w wi t x c n r i f u g h o) {v : Value} {l : List (List UInt8)} (hs : RowOf strE (fun k => R < k ∧ k ≠ X) wi v l) : Fs N B R X A w wi t { x with names := l } c v r i f u g h o := ⟨q.z, q.blk, q.hX, { q.held with hn := hs }⟩
theorem Fs.rows (q : Fs N B R X A w wi t x c n r i f u g h o) {v : Value} {l : List (List Ex)} (hs : RowOf rowE (fun k => R < k ∧ k ≠ X) wi v l) : Fs N B R X A w wi t { x with rows := l } c n v i f u g h o := ⟨q.z, q.blk, q.hX, { q.held with hr := hs }⟩
theorem Fs.items (q : Fs N B R X A w wi t x c n r i f u g h o) {v : Value} {l : List ItemM} (hs : RowOf itemE (fun k => R < k ∧ k ≠ X) wi v l) : Fs N B R X A w wi t { x with items := l } c n r v f u g h o := ⟨q.z, q.blk, q.hX, { q.held with hi := hs }⟩
theorem Fs.tables (q : Fs N B R X A w wi t x c n r i f u g h o) {v : Value} {l : List FromM} (hs : RowOf fromE (fun k => R < k ∧ k ≠ X) wi v l) : Fs N B R X A w wi t { x with tables := l } c n r i v u g h o := ⟨q.z, q.blk, q.hX, { q.held with hf := hs }⟩
theorem Fs.group (q : Fs N B R X A w wi t x c n r i f u g h o) {v : Value} {l : List Ex} (hs : RowOf exE (fun k => R < k ∧ k ≠ X) wi v l) : Fs N B R X A w wi t { x with group := l } c n r i f u v h o := ⟨q.z, q.blk, q.hX, { q.held with hg := hs }⟩
theorem Fs.order (q : Fs N B R X A w wi t x c n r i f u g h o) {v : Value} {l : List OrderM} (hs : RowOf orderE (fun k => R < k ∧ k ≠ X) wi v l) : Fs N B R X A w wi t { x with order := l } c n r i f u g h v := ⟨q.z, q.blk, q.hX, { q.held with ho := hs }⟩
theorem Fs.done (q : Fs N B w.heap.size X A w wi t x c n r i f u g h o) {A2 : Array Value} (hA : A2 = stArr x c n r i f u g h o) : GivesS N B (x, t) w (.returned (.agg A2)) (wi.setRow w.heap.size A2) := by
  have ht : Turn (· = w.heap.size) wi (wi.setRow w.heap.size A2) := Turn.setRow _ _ _ _ rfl
  refine ⟨c, n, r, i, f, u, g, h, o, by rw [hA], ?_, (q.z.end_ _).1, (q.z.end_ _).2⟩
  exact (q.held.turn ht (fun k hk e => by omega)).mono (fun k hk _ => by show w.heap.size ≤ k; omega)
/-- the whole statement is laid in block X -/
theorem Fs.row (q : Fs N B R X A w wi t x c n r i f u g h o) : (wi.setRow X A).heap[X]? = some (.cells A 39 (0, 0)) := setRow_heap _ _ _ _ _ _ q.blk
end
set_option maxRecDepth 100000 in
set_option maxHeartbeats 8000000 in
theorem remove_tr (N B n : Nat) (self : St → Ex × St) (hself : ReadsX N B n 35 self) (hle : Le self) (t : St) (w : World) (h : RdAt N w B t) (ht : t.rest.length ≤ n) :
    Calls Tryz.prog 58 #[.pointer (some ⟨B, 0, none⟩)] w (GivesS N B (removeP self t) w) := by
  have F0 : Hid (Fz N B w.heap.size 39 (s00 0 z0 z0 nS nS nS nS nS nS nS 0 0) w (w.alloc (.cells (s00 0 z0 z0 nS nS nS nS nS nS nS 0 0) 39)) t) := Lib.hid (Fz.start 39 (s00 0 z0 z0 nS nS nS nS nS nS nS 0 0) h)
  unfold removeP
  have hO := need_any N B t ⟨#[102, 114, 111, 109]⟩ _ F0.out.rd (by decide)
  have hN := fun w h => name_tr N B (t.need wFrom) w h
  have HL : Hid ((nameP (t.need wFrom)).2.rest.length ≤ n) := Lib.hid (Nat.le_trans (nameP_le _) (Nat.le_trans (St.need_le _ _) ht))
  obtain ⟨nm, hnm⟩ : ∃ nm, (nameP (t.need wFrom)).1 = nm := ⟨_, rfl⟩
  obtain ⟨t1, ht1⟩ : ∃ t1, (nameP (t.need wFrom)).2 = t1 := ⟨_, rfl⟩
  dsimp only
  rw [hnm, ht1] at hN ⊢
  rw [ht1] at HL
  have hC := fun w h => condition_tr N B n self hself ⟨#[119, 104, 101, 114, 101]⟩ (by decide) t1 w h HL.out
  rw [show condP self (⟨#[119, 104, 101, 114, 101]⟩ : ByteArray).data.toList t1 = condP self wWhere t1 from rfl] at hC
  unfold GivesX at hC
  obtain ⟨x1, hx1⟩ : ∃ x, (condP self wWhere t1).1 = x := ⟨_, rfl⟩
  obtain ⟨t2, ht2⟩ : ∃ t', (condP self wWhere t1).2 = t' := ⟨_, rfl⟩
  rw [hx1, ht2] at hC ⊢
  clear h hnm ht1 hx1 ht2
  go_enter Tryz.func58, Tryz.ntmps58
  go_wp2_with (go_at_call 60; refine hO.mono ?_; rintro e w1 ⟨rfl, hr, hq⟩; have F1 := Lib.hid (F0.out.call hr hq); clear hr hq hO)
  refine (hN w1 F1.out.rd).mono ?_
  rintro e w2 ⟨rfl, hr, hq⟩
  have F2 := Lib.hid (F1.out.call hr hq)
  obtain ⟨w3, hw3⟩ : ∃ w3, w3 = (w2.alloc (.cells (s00 0 z0 z0 nS nS nS nS nS nS nS 0 0) 39)).setRow w2.heap.size (s00 6 z0 ((strU nm)) nS nS nS nS nS nS nS 0 0) := ⟨_, rfl⟩
  have F3 : Hid (Fs N B w.heap.size w2.heap.size (s00 6 z0 ((strU nm)) nS nS nS nS nS nS nS 0 0) w w3 (t1) ⟨6, [], nm, [], [], [], [], [], noE, [], noE, [], 0, 0⟩ nS nS nS nS nS nS nS nS nS) := Lib.hid (by rw [hw3]; exact Fs.start F2.out (s00 6 z0 ((strU nm)) nS nS nS nS nS nS nS 0 0) _ rfl)
  clear hr hq hN
  go_wp2_with (first
    | (refine wpList_store_row rfl 39 _ _ rfl w2.heap.size (s00 6 z0 ((strU nm)) nS nS nS nS nS nS nS 0 0) rfl rfl _ _ (heap_alloc_new _ _) (by kernel_rfl) rfl (by simp [Value.oneCell']) ?_; rw [← hw3]; clear hw3))
  refine (hC w3 F3.out.z.rd).mono ?_
  rintro e w4 ⟨u1, rfl, hs, hr, hq⟩
  obtain ⟨a1, n1, c1, hu⟩ := hs.slice
  subst hu
  have F4 : Hid (Fs N B w.heap.size w2.heap.size (s00 6 z0 ((strU nm)) nS nS nS nS nS nS nS 0 0) w w4 (t2) ⟨6, [], nm, [], [], [], [], [], x1, [], noE, [], 0, 0⟩ nS nS nS nS nS (.slice a1 n1 c1) nS nS nS) := Lib.hid ((F3.out.call hr hq).cond (e := x1) (F3.out.gotX hs))
  obtain ⟨w5, hw5⟩ : ∃ w5, w5 = w4.setRow w2.heap.size (s10 6 z0 ((strU nm)) nS nS nS nS nS x1.a (.slice a1 n1 c1) nS nS 0 0) := ⟨_, rfl⟩
  have F5 : Hid (Fs N B w.heap.size w2.heap.size (s10 6 z0 ((strU nm)) nS nS nS nS nS x1.a (.slice a1 n1 c1) nS nS 0 0) w w5 (t2) ⟨6, [], nm, [], [], [], [], [], x1, [], noE, [], 0, 0⟩ nS nS nS nS nS (.slice a1 n1 c1) nS nS nS) := Lib.hid (by rw [hw5]; exact F4.out.set _)
  clear hs hr hq hC
  unfold exVal
  go_wp2_with (first
    | (refine wpList_store_field rfl 36 _ _ rfl w2.heap.size 8 (eA x1.a (.slice a1 n1 c1)) rfl rfl _ _ F4.out.blk (by kernel_rfl) (by simp [Value.oneCell']) (by simp) (s10 6 z0 ((strU nm)) nS nS nS nS nS x1.a (.slice a1 n1 c1) nS nS 0 0) rfl ?_; rw [← hw5]; clear hw5)
    | (refine wpList_load_row rfl 39 _ rfl w2.heap.size rfl _ (s10 6 z0 ((strU nm)) nS nS nS nS nS x1.a (.slice a1 n1 c1) nS nS 0 0) (0, 0) _ F5.out.blk Tryz.underlying39 rfl (by kernel_rfl) ?_)
    | (refine wpList_store_row rfl 39 _ _ rfl w.heap.size (s10 6 z0 ((strU nm)) nS nS nS nS nS x1.a (.slice a1 n1 c1) nS nS 0 0) rfl rfl _ _ F5.out.z.res (by kernel_rfl) rfl (by simp [Value.oneCell']) ?_))
  refine bodyPost_ret (results_cell_row Tryz.results58 _ _ w.heap.size 39 (s10 6 z0 ((strU nm)) nS nS nS nS nS x1.a (.slice a1 n1 c1) nS nS 0 0) (0, 0) _ rfl (setRow_heap _ _ _ _ _ _ F5.out.z.res) Tryz.underlying39 rfl (by kernel_rfl)) rfl ?_
  exact F5.out.done rfl
end
section
open Go.RowKit Go.Shelf
set_option linter.unusedVariables false

theorem condP_le {self : Self} (h : Le self) (s : List UInt8) : Le (condP self s) := fun t => by
  unfold condP; split
  · exact Nat.le_trans (h _) t.step_le
  · exact Nat.le_refl _
theorem pairP {α β : Type} (p : α × β) : p = (p.1, p.2) := rfl
theorem rowP_le {self : Self} (h : Le self) : Le (rowP self) := enclosedP_le h
theorem name_T (N B n : Nat) : ReadsT strE N B n 61 nameP := by
  intro t w h ht
  exact (name_tr N B t w h).mono (by rintro e w' ⟨rfl, hr, hq⟩; exact ⟨_, _, rfl, rfl, rfl, hr, hq⟩)
theorem Fs.one {N B R X : Nat} {A : Array Value} {w wi : World} {t : St} {x : StM} {c n r i f u g h o : Value} (q : Fs N B R X A w wi t x c n r i f u g h o) (s : List UInt8) :
    RowOf strE (fun k => R < k ∧ k ≠ X) (wi.alloc (.cells #[.string (strU s)] 9)) (.slice (some ⟨wi.heap.size, 0, none⟩) 1 1) [s] := by
  refine .inr ⟨wi.heap.size, 1, [[.string (strU s)]], rfl, Nat.le_refl _, by omega, ⟨by have := q.hX; have := bk_lt q.blk; omega, by have := bk_lt q.blk; omega⟩, by simp, ⟨rfl, trivial⟩, fun j v hv => ?_⟩
  have hX : (wi.alloc (.cells #[.string (strU s)] 9)).heap[wi.heap.size]? = _ := heap_alloc_new wi _
  refine (bk_cell hX j).trans ?_
  rw [← Array.getElem?_toList]; exact hv
set_option maxRecDepth 100000 in
set_option maxHeartbeats 8000000 in
theorem insert_v (N B n : Nat) (hn : n ≤ 900000) (self : St → Ex × St) (hself : ReadsX N B n 35 self) (hle : Le self) (t : St) (w : World) (h : RdAt N w B t) (ht : t.rest.length ≤ n) (nm : List UInt8) (t1 t3 : St) (rs : List (List Ex)) (e1 : nameP (t.need wInto) = (nm, t1)) (hb : t1.has wValues = true) (e3 : listP (rowP self) t1.step = (rs, t3)) :
    Calls Tryz.prog 56 #[.pointer (some ⟨B, 0, none⟩)] w (GivesS N B (⟨4, [], nm, [], [], rs, [], [], noE, [], noE, [], 0, 0⟩, t3) w) := by
  have hmf : ∀ (fn : Fn) (first cap : Array Value) (w : World), (Instr.makeFunc fn first cap).run Tryz.prog w = .ok (.func fn first cap) w := fun _ _ _ _ => rfl
  have F0 : Hid (Fz N B w.heap.size 39 (s00 0 z0 z0 nS nS nS nS nS nS nS 0 0) w (w.alloc (.cells (s00 0 z0 z0 nS nS nS nS nS nS nS 0 0) 39)) t) := Lib.hid (Fz.start 39 (s00 0 z0 z0 nS nS nS nS nS nS nS 0 0) h)
  have hN1 := fun w h => name_tr N B (t.need wInto) w h
  rw [e1] at hN1; dsimp only at hN1
  have HL1 : Hid (t1.rest.length ≤ n) := Lib.hid (by have a := nameP_le (t.need wInto); rw [e1] at a; dsimp only at a; have b := St.need_le t wInto; omega)
  have hR := fun w h => listRow_tr N B n 105 hn (fun _ _ => by kernel_rfl) (rowP self) (row_tr N B n hn self hself hle) (rowP_le hle) (t1.step) w h (by have b := St.step_le t1; have c := HL1.out; omega)
  unfold GivesL at hR; rw [e3] at hR; dsimp only at hR
  clear h e1 e3
  go_enter Tryz.func56, Tryz.ntmps56
  go_wp2_with fail
  refine (need_any N B t ⟨#[105, 110, 116, 111]⟩ _ F0.out.rd (by decide)).mono ?_
  rintro e w1 ⟨rfl, hr, hq⟩
  have F1 := Lib.hid (F0.out.call hr hq)
  clear hr hq
  go_wp2_with fail
  refine (hN1 _ F1.out.rd).mono ?_
  rintro e w2 ⟨rfl, hr, hq⟩
  have F2 := Lib.hid (F1.out.call hr hq)
  clear hr hq
  obtain ⟨w3, hw3⟩ : ∃ w3, w3 = (w2.alloc (.cells (s00 0 z0 z0 nS nS nS nS nS nS nS 0 0) 39)).setRow w2.heap.size (s00 4 z0 ((strU nm)) nS nS nS nS nS nS nS 0 0) := ⟨_, rfl⟩
  have F3 : Hid (Fs N B w.heap.size w2.heap.size (s00 4 z0 ((strU nm)) nS nS nS nS nS nS nS 0 0) w w3 (t1) ⟨4, [], nm, [], [], [], [], [], noE, [], noE, [], 0, 0⟩ nS nS nS nS nS nS nS nS nS) := Lib.hid (by rw [hw3]; exact Fs.start F2.out (s00 4 z0 ((strU nm)) nS nS nS nS nS nS nS 0 0) _ rfl)
  go_wp2_with (first
    | (refine wpList_store_row rfl 39 _ _ rfl w2.heap.size (s00 4 z0 ((strU nm)) nS nS nS nS nS nS nS 0 0) rfl rfl _ _ (heap_alloc_new _ _) (by kernel_rfl) rfl (by simp [Value.oneCell']) ?_; rw [← hw3]; clear hw3))
  refine (take_yes N B t1 ⟨#[118, 97, 108, 117, 101, 115]⟩ _ F3.out.z.rd hb (by decide)).mono ?_
  rintro e w4 ⟨rfl, hr, hq⟩
  have F4 := Lib.hid (F3.out.call hr hq)
  clear hr hq
  go_wp2_with fail
  refine (hR _ F4.out.z.rd).mono ?_
  rintro e w5 ⟨v4, rfl, hrow, hr, hq⟩
  obtain ⟨a4, b4, hv, _⟩ := hrow.slice
  subst hv
  have F5 := Lib.hid (F4.out.call hr hq)
  have Q5 := Lib.hid (F4.out.gotL hrow)
  clear hrow hr hq
  have F6 : Hid (Fs N B w.heap.size w2.heap.size (s00 4 z0 ((strU nm)) nS nS nS nS nS nS nS 0 0) w w5 (t3) ⟨4, [], nm, [], [], rs, [], [], noE, [], noE, [], 0, 0⟩ nS nS (.slice a4 (rs).length b4) nS nS nS nS nS nS) := Lib.hid (F5.out.rows Q5.out)
  have c5 : w5.cell? ⟨w2.heap.size, 5, none⟩ = some nS := bk_cell F6.out.blk 5
  have z5 : w5.frozen? ⟨w2.heap.size, 5, none⟩ = false := bk_free F6.out.blk 5
  have HS5 : Hid ((w5.setCell ⟨w2.heap.size, 5, none⟩ (.slice a4 (rs).length b4)) = w5.setRow w2.heap.size (s00 4 z0 ((strU nm)) nS nS (.slice a4 (rs).length b4) nS nS nS nS 0 0)) := Lib.hid ((setCell_eq_setRow w5 w2.heap.size 5 _ _ _ (.slice a4 (rs).length b4) F6.out.blk).trans (congrArg (w5.setRow w2.heap.size) rfl))
  have F7 : Hid (Fs N B w.heap.size w2.heap.size (s00 4 z0 ((strU nm)) nS nS (.slice a4 (rs).length b4) nS nS nS nS 0 0) w (w5.setCell ⟨w2.heap.size, 5, none⟩ (.slice a4 (rs).length b4)) (t3) ⟨4, [], nm, [], [], rs, [], [], noE, [], noE, [], 0, 0⟩ nS nS (.slice a4 (rs).length b4) nS nS nS nS nS nS) := Lib.hid (by rw [HS5.out]; exact F6.out.set _)
  go_wp2_with (first
    | (refine wpList_load_row rfl 39 _ rfl w2.heap.size rfl _ (s00 4 z0 ((strU nm)) nS nS (.slice a4 (rs).length b4) nS nS nS nS 0 0) (0, 0) _ F7.out.blk Tryz.underlying39 rfl (by kernel_rfl) ?_)
    | (refine wpList_store_row rfl 39 _ _ rfl w.heap.size (s00 4 z0 ((strU nm)) nS nS (.slice a4 (rs).length b4) nS nS nS nS 0 0) rfl rfl _ _ F7.out.z.res (by kernel_rfl) rfl (by simp [Value.oneCell']) ?_))
  refine bodyPost_ret (results_cell_row Tryz.results56 _ _ w.heap.size 39 (s00 4 z0 ((strU nm)) nS nS (.slice a4 (rs).length b4) nS nS nS nS 0 0) (0, 0) _ rfl (setRow_heap _ _ _ _ _ _ F7.out.z.res) Tryz.underlying39 rfl (by kernel_rfl)) rfl ?_
  exact F7.out.done rfl
set_option maxRecDepth 100000 in
set_option maxHeartbeats 8000000 in
theorem insert_n (N B n : Nat) (hn : n ≤ 900000) (self : St → Ex × St) (hself : ReadsX N B n 35 self) (hle : Le self) (t : St) (w : World) (h : RdAt N w B t) (ht : t.rest.length ≤ n) (nm : List UInt8) (t1 t2 t3 : St) (cs : List (List UInt8)) (rs : List (List Ex)) (e1 : nameP (t.need wInto) = (nm, t1)) (hb : t1.has wValues = false) (e2 : enclosedP nameP t1 = (cs, t2)) (e3 : listP (rowP self) (t2.need wValues) = (rs, t3)) :
    Calls Tryz.prog 56 #[.pointer (some ⟨B, 0, none⟩)] w (GivesS N B (⟨4, [], nm, [], cs, rs, [], [], noE, [], noE, [], 0, 0⟩, t3) w) := by
  have hmf : ∀ (fn : Fn) (first cap : Array Value) (w : World), (Instr.makeFunc fn first cap).run Tryz.prog w = .ok (.func fn first cap) w := fun _ _ _ _ => rfl
  have F0 : Hid (Fz N B w.heap.size 39 (s00 0 z0 z0 nS nS nS nS nS nS nS 0 0) w (w.alloc (.cells (s00 0 z0 z0 nS nS nS nS nS nS nS 0 0) 39)) t) := Lib.hid (Fz.start 39 (s00 0 z0 z0 nS nS nS nS nS nS nS 0 0) h)
  have hN1 := fun w h => name_tr N B (t.need wInto) w h
  rw [e1] at hN1; dsimp only at hN1
  have HL1 : Hid (t1.rest.length ≤ n) := Lib.hid (by have a := nameP_le (t.need wInto); rw [e1] at a; dsimp only at a; have b := St.need_le t wInto; omega)
  have HL2 : Hid (t2.rest.length ≤ n) := Lib.hid (by have a := enclosedP_le nameP_le t1; rw [e2] at a; dsimp only at a; have b := HL1.out; omega)
  have hE := fun w h => enclosedStr_tr N B n 61 hn (fun _ _ => by kernel_rfl) nameP (name_T N B n) nameP_le t1 w h HL1.out
  unfold GivesL at hE; rw [e2] at hE; dsimp only at hE
  have hR := fun w h => listRow_tr N B n 105 hn (fun _ _ => by kernel_rfl) (rowP self) (row_tr N B n hn self hself hle) (rowP_le hle) (t2.need wValues) w h (by have b := St.need_le t2 wValues; have c := HL2.out; omega)
  unfold GivesL at hR; rw [e3] at hR; dsimp only at hR
  clear h e1 e3 e2
  go_enter Tryz.func56, Tryz.ntmps56
  go_wp2_with fail
  refine (need_any N B t ⟨#[105, 110, 116, 111]⟩ _ F0.out.rd (by decide)).mono ?_
  rintro e w1 ⟨rfl, hr, hq⟩
  have F1 := Lib.hid (F0.out.call hr hq)
  clear hr hq
  go_wp2_with fail
  refine (hN1 _ F1.out.rd).mono ?_
  rintro e w2 ⟨rfl, hr, hq⟩
  have F2 := Lib.hid (F1.out.call hr hq)
  clear hr hq
  obtain ⟨w3, hw3⟩ : ∃ w3, w3 = (w2.alloc (.cells (s00 0 z0 z0 nS nS nS nS nS nS nS 0 0) 39)).setRow w2.heap.size (s00 4 z0 ((strU nm)) nS nS nS nS nS nS nS 0 0) := ⟨_, rfl⟩
  have F3 : Hid (Fs N B w.heap.size w2.heap.size (s00 4 z0 ((strU nm)) nS nS nS nS nS nS nS 0 0) w w3 (t1) ⟨4, [], nm, [], [], [], [], [], noE, [], noE, [], 0, 0⟩ nS nS nS nS nS nS nS nS nS) := Lib.hid (by rw [hw3]; exact Fs.start F2.out (s00 4 z0 ((strU nm)) nS nS nS nS nS nS nS 0 0) _ rfl)
  go_wp2_with (first
    | (refine wpList_store_row rfl 39 _ _ rfl w2.heap.size (s00 4 z0 ((strU nm)) nS nS nS nS nS nS nS 0 0) rfl rfl _ _ (heap_alloc_new _ _) (by kernel_rfl) rfl (by simp [Value.oneCell']) ?_; rw [← hw3]; clear hw3))
  refine (take_no N B t1 ⟨#[118, 97, 108, 117, 101, 115]⟩ _ F3.out.z.rd hb).mono ?_
  rintro e w4 ⟨rfl, hr, hb3⟩
  have F4 := Lib.hid (F3.out.new hb3)
  clear hr hb3
  go_wp2_with fail
  refine (hE _ F4.out.z.rd).mono ?_
  rintro e w5 ⟨v4, rfl, hrow, hr, hq⟩
  obtain ⟨a4, b4, hv, _⟩ := hrow.slice
  subst hv
  have F5 := Lib.hid (F4.out.call hr hq)
  have Q5 := Lib.hid (F4.out.gotL hrow)
  clear hrow hr hq
  have F6 : Hid (Fs N B w.heap.size w2.heap.size (s00 4 z0 ((strU nm)) nS nS nS nS nS nS nS 0 0) w w5 (t2) ⟨4, [], nm, [], cs, [], [], [], noE, [], noE, [], 0, 0⟩ nS (.slice a4 (cs).length b4) nS nS nS nS nS nS nS) := Lib.hid (F5.out.names Q5.out)
  have c5 : w5.cell? ⟨w2.heap.size, 4, none⟩ = some nS := bk_cell F6.out.blk 4
  have z5 : w5.frozen? ⟨w2.heap.size, 4, none⟩ = false := bk_free F6.out.blk 4
  have HS5 : Hid ((w5.setCell ⟨w2.heap.size, 4, none⟩ (.slice a4 (cs).length b4)) = w5.setRow w2.heap.size (s00 4 z0 ((strU nm)) nS (.slice a4 (cs).length b4) nS nS nS nS nS 0 0)) := Lib.hid ((setCell_eq_setRow w5 w2.heap.size 4 _ _ _ (.slice a4 (cs).length b4) F6.out.blk).trans (congrArg (w5.setRow w2.heap.size) rfl))
  have F7 : Hid (Fs N B w.heap.size w2.heap.size (s00 4 z0 ((strU nm)) nS (.slice a4 (cs).length b4) nS nS nS nS nS 0 0) w (w5.setCell ⟨w2.heap.size, 4, none⟩ (.slice a4 (cs).length b4)) (t2) ⟨4, [], nm, [], cs, [], [], [], noE, [], noE, [], 0, 0⟩ nS (.slice a4 (cs).length b4) nS nS nS nS nS nS nS) := Lib.hid (by rw [HS5.out]; exact F6.out.set _)
  go_wp2_with fail
  refine (need_any N B t2 ⟨#[118, 97, 108, 117, 101, 115]⟩ _ F7.out.z.rd (by decide)).mono ?_
  rintro e w8 ⟨rfl, hr, hq⟩
  have F8 := Lib.hid (F7.out.call hr hq)
  clear hr hq
  go_wp2_with fail
  refine (hR _ F8.out.z.rd).mono ?_
  rintro e w9 ⟨v8, rfl, hrow, hr, hq⟩
  obtain ⟨a8, b8, hv, _⟩ := hrow.slice
  subst hv
  have F9 := Lib.hid (F8.out.call hr hq)
  have Q9 := Lib.hid (F8.out.gotL hrow)
  clear hrow hr hq
  have F10 : Hid (Fs N B w.heap.size w2.heap.size (s00 4 z0 ((strU nm)) nS (.slice a4 (cs).length b4) nS nS nS nS nS 0 0) w w9 (t3) ⟨4, [], nm, [], cs, rs, [], [], noE, [], noE, [], 0, 0⟩ nS (.slice a4 (cs).length b4) (.slice a8 (rs).length b8) nS nS nS nS nS nS) := Lib.hid (F9.out.rows Q9.out)
  have c9 : w9.cell? ⟨w2.heap.size, 5, none⟩ = some nS := bk_cell F10.out.blk 5
  have z9 : w9.frozen? ⟨w2.heap.size, 5, none⟩ = false := bk_free F10.out.blk 5
  have HS9 : Hid ((w9.setCell ⟨w2.heap.size, 5, none⟩ (.slice a8 (rs).length b8)) = w9.setRow w2.heap.size (s00 4 z0 ((strU nm)) nS (.slice a4 (cs).length b4) (.slice a8 (rs).length b8) nS nS nS nS 0 0)) := Lib.hid ((setCell_eq_setRow w9 w2.heap.size 5 _ _ _ (.slice a8 (rs).length b8) F10.out.blk).trans (congrArg (w9.setRow w2.heap.size) rfl))
  have F11 : Hid (Fs N B w.heap.size w2.heap.size (s00 4 z0 ((strU nm)) nS (.slice a4 (cs).length b4) (.slice a8 (rs).length b8) nS nS nS nS 0 0) w (w9.setCell ⟨w2.heap.size, 5, none⟩ (.slice a8 (rs).length b8)) (t3) ⟨4, [], nm, [], cs, rs, [], [], noE, [], noE, [], 0, 0⟩ nS (.slice a4 (cs).length b4) (.slice a8 (rs).length b8) nS nS nS nS nS nS) := Lib.hid (by rw [HS9.out]; exact F10.out.set _)
  go_wp2_with (first
    | (refine wpList_load_row rfl 39 _ rfl w2.heap.size rfl _ (s00 4 z0 ((strU nm)) nS (.slice a4 (cs).length b4) (.slice a8 (rs).length b8) nS nS nS nS 0 0) (0, 0) _ F11.out.blk Tryz.underlying39 rfl (by kernel_rfl) ?_)
    | (refine wpList_store_row rfl 39 _ _ rfl w.heap.size (s00 4 z0 ((strU nm)) nS (.slice a4 (cs).length b4) (.slice a8 (rs).length b8) nS nS nS nS 0 0) rfl rfl _ _ F11.out.z.res (by kernel_rfl) rfl (by simp [Value.oneCell']) ?_))
  refine bodyPost_ret (results_cell_row Tryz.results56 _ _ w.heap.size 39 (s00 4 z0 ((strU nm)) nS (.slice a4 (cs).length b4) (.slice a8 (rs).length b8) nS nS nS nS 0 0) (0, 0) _ rfl (setRow_heap _ _ _ _ _ _ F11.out.z.res) Tryz.underlying39 rfl (by kernel_rfl)) rfl ?_
  exact F11.out.done rfl
theorem insert_tr (N B n : Nat) (hn : n ≤ 900000) (self : St → Ex × St) (hself : ReadsX N B n 35 self) (hle : Le self) (t : St) (w : World) (h : RdAt N w B t) (ht : t.rest.length ≤ n) :
    Calls Tryz.prog 56 #[.pointer (some ⟨B, 0, none⟩)] w (GivesS N B (insertP self t) w) := by
  unfold insertP
  dsimp only
  cases hb : (nameP (t.need wInto)).2.has wValues with
  | true => simp only [if_pos]; exact insert_v N B n hn self hself hle t w h ht _ _ _ _ (pairP _) hb (pairP _)
  | false => simp only [Bool.false_eq_true, if_false]; exact insert_n N B n hn self hself hle t w h ht _ _ _ _ _ _ (pairP _) hb (pairP _) (pairP _)
end
end Go.Proofs.YtenmnpbjnbdeaaaGreatDoor
