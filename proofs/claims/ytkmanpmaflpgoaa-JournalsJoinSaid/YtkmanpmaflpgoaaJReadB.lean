/-
  WHAT IS PROVED: the steps of the reading of a file's records.
-/
import Derived.Test.YtkmanpmaflpgoaaJReadA
namespace Go.Proofs.Ytkmanpmaflpgoaa
open Go.RowKit Go.Shelf

theorem run_append_bytes (w : World) (ty : TypeId) (base : Nat) (v : Value) (k : Nat) (xs : List Nat) (hown : w.ownsRow base 5 1 v k (cells8 xs))
    (ao : Option Addr) (n cap : Nat) (l : List Nat) (hr : Row8 w ao n cap l) (hbytes : k + n ≤ 1099511627776) (hb : base ≤ w.heap.size) :
    ∃ v' w', (Builtin.append_ #[22, 22] ty #[v, .slice ao n cap]).run Try.prog w = .ok v' w' ∧ w'.ownsRow base 5 1 v' (k + n) (cells8 (xs ++ l)) ∧ w.grownBy w' v.ownBlock ∧ (v'.ownBlock = v.ownBlock ∨ ∃ b, v'.ownBlock = some b ∧ w.heap.size ≤ b) := by
  obtain ⟨i0, hi, hz0, hz1, hz2⟩ := info_parts Try.info8
  cases ao with
  | none =>
    have hc := hr.nil rfl
    have hrm := hr.room
    obtain rfl : n = 0 := by omega
    subst hc
    have hl := List.eq_nil_of_length_eq_zero hr.len
    subst hl
    exact ⟨v, w, run_append_owned_none (P := Try.prog) w base 22 ty 5 i0 1 Try.underlying22 hi v k (cells8 xs) hown, by simpa using hown, World.grownBy.refl _ _, .inl rfl⟩
  | some ad =>
    have hl := hr.len
    have hnews : ∀ j u, (cells8 l)[j]? = some u → w.cell? (ad.add j) = some u := fun j u hu => by
      have hj : j < l.length := by have := (List.getElem?_eq_some_iff.1 hu).1; simpa [cells8] using this
      rw [cells8_getElem? _ _ hj] at hu
      rw [hr.cell ad rfl j (by omega)]; exact hu
    have hnl : (cells8 l).length = n * 1 := by simp [cells8_length, hl]
    have hnl2 : (cells8 l).length = n * i0.size := by rw [hz1]; exact hnl
    obtain ⟨v', w', hrun, h2, h3, h4⟩ := run_append_own (P := Try.prog) w base 22 ty 5 i0 (.int .u8 0) 1 1 Try.underlying22 hi hz0 hz1 hz2 rfl (by decide) v k (cells8 xs) hown ad n cap (cells8 l) hnl hnews (cells8_one _) (by unfold maxLen; omega) (by omega) hb
    rw [cells8_append] at h2
    refine ⟨v', w', hrun, h2, h3, ?_⟩
    rcases hown.2 with ⟨rfl, rfl⟩ | ⟨g, c, cur, rfl, _, hh, hnc, _, hcs, _⟩
    · rcases Nat.eq_zero_or_pos n with rfl | hn
      · have := h4.2 ⟨rfl, rfl⟩
        subst this; exact .inl rfl
      · have hr2 := run_append_nil (P := Try.prog) w 22 ty 5 i0 _ Try.underlying22 hi hz0 ad n cap (cells8 l) hnl2 hnews hn (by omega) (by rw [hz2]; omega)
        rw [hr2] at hrun
        simp only [Result.ok.injEq] at hrun
        rw [← hrun.1]
        exact .inr ⟨w.heap.size, rfl, Nat.le_refl _⟩
    · by_cases hroom : k + n ≤ c
      · have hrr := run_append_room (P := Try.prog) w 22 ty 5 i0 Try.underlying22 hi g k c cur hh ad n cap (cells8 l) hnl2 hnews (cells8_one _) hroom (by rw [hz1, hnl, hcs]; omega)
        rw [hrr] at hrun
        simp only [Result.ok.injEq] at hrun
        rw [← hrun.1]
        exact .inl rfl
      · have holds : ∀ j u, (cells8 xs)[j]? = some u → w.cell? ((⟨g, 0, none⟩ : Addr).add j) = some u := hown.cells (g := g) rfl
        have hgr := run_append_grow (P := Try.prog) w 22 ty 5 i0 _ Try.underlying22 hi hz0 ⟨g, 0, none⟩ k c (cells8 xs) (by rw [hown.1, hz1]) holds ad n cap (cells8 l) hnl2 hnews (by omega) (by omega) (by rw [hz2]; exact growslice_fits (by omega) (by omega))
        rw [hgr] at hrun
        simp only [Result.ok.injEq] at hrun
        rw [← hrun.1]
        exact .inr ⟨w.heap.size, rfl, Nat.le_refl _⟩

theorem wpListIn_append_run {F : Fence} {n : Nat} {P : Program} (w : World) {ops : Array Oper} {rest : List Oper} {o : Oper} {a : Act} {Q : Exit → Act → World → Prop}
    (hg : o.guard = none) (s x : Operand) (t : TypeId) (hop : o.op = Op.call { callee := Callee.builtin Builtin.append, args := #[s, x], argTypes := #[t, t] })
    (v u v' : Value) (w' : World) (hs : a.eval s = v) (hx : a.eval x = u) (hrun : (Builtin.append_ #[t, t] o.type #[v, u]).run P w = .ok v' w')
    (hK : wpListIn F n P ops Q rest (a.put o.dst v') w') : wpListIn F n P ops Q (o :: rest) a w := by
  refine wpListIn_plain hg fun K hK' => ?_
  unfold Oper.wpIn
  refine ⟨?_, ?_⟩
  · simp [Oper.about, hop, resolve, Target.leads, Sem.run_pure]
  · rw [Oper.semAt_plain F _ _ (by rw [hop]; intro c hc'; cases hc')]
    simp [execOp, hop, resolve, invoke, builtin, hs, hx, hrun, Result.andThen]
    exact hK' _ _ hK

theorem own_heap {w : World} {b e n : Nat} {v : Value} {xs : List Value} (h : w.ownsRow b e 1 v n xs) {B : Nat} {t : TypeId} {x : Value} (hB : Boxed w B t x) (ht : t ≠ e) : v.ownBlock ≠ some B := fun he => by
  obtain ⟨cur, hc⟩ := ownsRow_block h he
  rw [show w.heap[B]? = _ from hB] at hc
  simp at hc
  exact ht hc.2

theorem setCell_far (w : World) (B : Nat) (u : Value) (k : Nat) (h : k ≠ B) : (w.setCell ⟨B, 0, none⟩ u).heap[k]? = w.heap[k]? := Below.heap_setCell w ⟨B, 0, none⟩ u k h

/-- behind the append of a part's data -/
theorem ReadVal.app {w W w1 : World} {s : ReadM} {v u u1 : Value} {vs : List Value} {d : List Nat} {n : Nat} (h : ReadVal w W s v u vs) (hd : d.length = n) (hby : ∀ x ∈ d, x < 256)
    (h1 : w1.ownsRow (w.heap.size + 5) 5 1 u1 (s.cur.length + n) (cells8 (s.cur ++ d))) (hg : W.grownBy w1 u.ownBlock) (hn : u1.ownBlock = u.ownBlock ∨ ∃ b, u1.ownBlock = some b ∧ W.heap.size ≤ b) :
    Boxed w1 (w.heap.size + 2) 22 u ∧ ReadVal w (w1.setCell ⟨w.heap.size + 2, 0, none⟩ u1) ⟨s.recs, s.stop, s.cur ++ d, s.begun⟩ v u1 vs := by
  have far : ∀ {B : Nat} {t : TypeId} {x : Value}, t ≠ 5 → Boxed W B t x → Boxed w1 B t x := fun ht hb => hb.kept hg (fun e => own_heap h.ou hb ht e.symm)
  have k4 := far (by decide) h.b4
  have hs := h.below.size
  have ov1 : w1.ownsRow (w.heap.size + 5) 22 1 v vs.length vs := ownsRow_same h.ov fun k hk => hg.block k (h.ov.lt k hk).2 (fun e => by
    obtain ⟨c1, hc1⟩ := ownsRow_block h.ov hk
    obtain ⟨c2, hc2⟩ := ownsRow_block h.ou e.symm
    rw [hc1] at hc2
    simp at hc2)
  refine ⟨k4, ⟨(far (by decide) h.b2).other (by omega) _, (far (by decide) h.b3).other (by omega) _, k4.set _, (far (by decide) h.b5).other (by omega) _, ownsRow_same ov1 fun k hk => setCell_far _ _ _ _ (by have := h.nv k hk; omega), ?_, h.one, ?_, ?_, ?_⟩⟩
  · rw [List.length_append, hd]
    exact ownsRow_same h1 fun k hk => setCell_far _ _ _ _ (fun e => own_heap h1 k4 (by decide) (e ▸ hk))
  · refine h.recs.kept (fun k hk => ?_) (fun k cs hc hne => ?_)
    · rcases hn with h2 | ⟨b, h2, h3⟩
      · exact .inl (h2 ▸ hk)
      · rw [h2] at hk; cases hk; exact .inr h3
    · rw [setCell_far _ _ _ _ (fun e => ?_)]
      · exact hg.block k (lt_of_block hc) (fun e => hne e.symm)
      · subst e
        rw [show W.heap[_]? = _ from h.b4] at hc
        simp at hc
  · refine ⟨hg.os.trans h.below.os, hg.tape.trans h.below.tape, hg.output.trans h.below.output, by have := hg.size; simp; omega, fun k hk => ?_⟩
    rw [setCell_far _ _ _ _ (by omega), hg.block k (by omega) (fun e => by have := h.nu k e.symm; omega)]
    exact h.below.block k hk
  · intro x hx
    rcases List.mem_append.1 hx with hx | hx
    · exact h.byte x hx
    · exact hby x hx

/-- behind the store of the flag -/
theorem ReadVal.flag {w W : World} {s : ReadM} {v u : Value} {vs : List Value} (h : ReadVal w W s v u vs) (b : Bool) : ReadVal w (W.setCell ⟨w.heap.size + 3, 0, none⟩ (.bool b)) ⟨s.recs, s.stop, s.cur, b⟩ v u vs := by
  have hs := h.below.size
  refine ⟨h.b2.other (by omega) _, h.b3.other (by omega) _, h.b4.other (by omega) _, h.b5.set _, ownsRow_same h.ov fun k hk => setCell_far _ _ _ _ (by have := h.nv k hk; omega), ownsRow_same h.ou fun k hk => setCell_far _ _ _ _ (by have := h.nu k hk; omega), h.one, ?_, h.below.setCell (p := ⟨w.heap.size + 3, 0, none⟩) (by simp) _, h.byte⟩
  refine h.recs.kept (fun k hk => .inl hk) (fun k cs hc _ => setCell_far _ _ _ _ (fun e => ?_))
  subst e
  rw [show W.heap[_]? = _ from h.b5] at hc
  simp at hc

/-- behind the end of a record -/
theorem ReadVal.done {w W w5 : World} {s : ReadM} {v u v2 : Value} {vs : List Value} {o : Obj} (h : ReadVal w W s v u vs) (stop : Nat)
    (h2 : w5.ownsRow (w.heap.size + 5) 22 1 v2 (vs.length + 1) (vs ++ [u])) (hg : (W.alloc o).grownBy w5 v.ownBlock) (hu : u.oneCell' = true) :
    Boxed w5 w.heap.size 33 v ∧ Boxed w5 (w.heap.size + 1) 3 (.int .i64 (s.stop : Int)) ∧ Boxed w5 (w.heap.size + 2) 22 u ∧
    ReadVal w (((w5.setCell ⟨w.heap.size, 0, none⟩ v2).setCell ⟨w.heap.size + 1, 0, none⟩ (.int .i64 (stop : Int))).setCell ⟨w.heap.size + 2, 0, none⟩ (.slice none 0 0)) ⟨s.recs ++ [s.cur], stop, [], s.begun⟩ v2 (.slice none 0 0) (vs ++ [u]) := by
  have hs := h.below.size
  have hw4 : ∀ k, k < W.heap.size → (W.alloc o).heap[k]? = W.heap[k]? := fun k hk => Below.heap_alloc _ _ _ hk
  have ovA := ownsRow_same h.ov (w' := W.alloc o) (fun k hk => hw4 k (h.ov.lt k hk).2)
  have far : ∀ {B : Nat} {t : TypeId} {x : Value}, t ≠ 22 → Boxed W B t x → Boxed w5 B t x := fun ht hb => (hb.alloc o).kept hg (fun e => own_heap ovA (hb.alloc o) ht e.symm)
  have k2 := far (by decide) h.b2
  have k3 := far (by decide) h.b3
  have k5 := far (by decide) h.b5
  have k4 : Boxed w5 (w.heap.size + 2) 22 u := (h.b4.alloc o).kept hg (fun e => by have := h.nv _ e.symm; omega)
  have h2l : ∀ k, v2.ownBlock = some k → w.heap.size + 5 ≤ k := fun k hk => (h2.lt k hk).1
  have hb5 : Below w.heap.size w w5 := by
    refine ⟨hg.os.trans h.below.os, hg.tape.trans h.below.tape, hg.output.trans h.below.output, by have := hg.size; simp at this; omega, fun k hk => ?_⟩
    rw [hg.block k (by simp; omega) (fun e => by have := h.nv k e.symm; omega), hw4 k (by omega)]
    exact h.below.block k hk
  have hset : ∀ k, k ≠ w.heap.size → k ≠ w.heap.size + 1 → k ≠ w.heap.size + 2 → (((w5.setCell ⟨w.heap.size, 0, none⟩ v2).setCell ⟨w.heap.size + 1, 0, none⟩ (.int .i64 (stop : Int))).setCell ⟨w.heap.size + 2, 0, none⟩ (.slice none 0 0)).heap[k]? = w5.heap[k]? := fun k a b c => by
    rw [setCell_far _ _ _ _ c, setCell_far _ _ _ _ b, setCell_far _ _ _ _ a]
  refine ⟨k2, k3, k4, ⟨((k2.set _).other (by omega) _).other (by omega) _, ((k3.other (by omega) _).set _).other (by omega) _, ((k4.other (by omega) _).other (by omega) _).set _, ((k5.other (by omega) _).other (by omega) _).other (by omega) _, ?_, World.ownsRow_nil _ _ _ _, ?_, ?_, ?_, fun x hx => by simp at hx⟩⟩
  · rw [List.length_append]
    exact ownsRow_same h2 fun k hk => by have := h2l k hk; exact hset k (by omega) (by omega) (by omega)
  · intro x hx
    rcases List.mem_append.1 hx with hx | hx
    · exact h.one x hx
    · simp at hx; subst hx; exact hu
  · -- the records
    have hkeep : ∀ (k : Nat) (cs : Array Value), W.heap[k]? = some (Obj.cells cs 5 (0, 0)) → (((w5.setCell ⟨w.heap.size, 0, none⟩ v2).setCell ⟨w.heap.size + 1, 0, none⟩ (.int .i64 (stop : Int))).setCell ⟨w.heap.size + 2, 0, none⟩ (.slice none 0 0)).heap[k]? = W.heap[k]? := fun k cs hc => by
      have ne : ∀ {B : Nat} {t : TypeId} {x : Value}, t ≠ 5 → Boxed W B t x → k ≠ B := fun ht hb e => by
        subst e
        rw [show W.heap[_]? = _ from hb] at hc
        simp at hc
        exact ht hc.2
      rw [hset k (ne (by decide) h.b2) (ne (by decide) h.b3) (ne (by decide) h.b4), hg.block k (by have := lt_of_block hc; simp; omega) (fun e => by
        obtain ⟨c1, hc1⟩ := ownsRow_block h.ov e.symm
        rw [hc1] at hc
        simp at hc), hw4 k (lt_of_block hc)]
    obtain ⟨hl, hr⟩ := h.recs
    refine ⟨by rw [List.length_append, List.length_append, hl]; rfl, fun j x r hx hr' => ?_⟩
    by_cases hj : j < vs.length
    · rw [List.getElem?_append_left hj] at hx
      rw [List.getElem?_append_left (by omega)] at hr'
      obtain ⟨ao, cap, e1, e2, e3⟩ := hr j x r hx hr'
      refine ⟨ao, cap, e1, e2.same fun a ha hn => ?_, fun a ha hn => ?_⟩
      · obtain ⟨_, ⟨cs, hcs⟩, _⟩ := e3 a ha hn
        exact hkeep _ cs hcs
      · obtain ⟨e4, ⟨cs, hcs⟩, _⟩ := e3 a ha hn
        exact ⟨e4, ⟨cs, (hkeep _ cs hcs).trans hcs⟩, by simp [Value.ownBlock]⟩
    · rw [List.getElem?_append_right (by omega)] at hx hr'
      have hj0 : j - vs.length = 0 := by have := (List.getElem?_eq_some_iff.1 hx).1; simp at this; omega
      rw [hj0] at hx
      rw [show j - s.recs.length = 0 by omega] at hr'
      simp at hx hr'
      subst hx hr'
      obtain ⟨ao, cap, e1, e2, e3⟩ := Row8.of_owns h.ou h.byte
      refine ⟨ao, cap, e1, e2.same fun a ha hn => ?_, fun a ha hn => ?_⟩
      · obtain ⟨b, off, sp⟩ := a
        obtain ⟨_, e4, e5⟩ := e3 _ ha
        simp only at e4 e5
        subst e4 e5
        obtain ⟨cs, hcs⟩ := ownsRow_block h.ou (k := b) (by rw [e1, ha]; rfl)
        exact hkeep _ cs hcs
      · obtain ⟨b, off, sp⟩ := a
        obtain ⟨e6, e4, e5⟩ := e3 _ ha
        simp only at e4 e5 e6
        subst e4 e5
        obtain ⟨cs, hcs⟩ := ownsRow_block h.ou (k := b) (by rw [e1, ha]; rfl)
        exact ⟨by simp only; omega, ⟨cs, (hkeep _ cs hcs).trans hcs⟩, by simp [Value.ownBlock]⟩
  · exact ((hb5.setCell (p := ⟨w.heap.size, 0, none⟩) (Nat.le_refl _) _).setCell (p := ⟨w.heap.size + 1, 0, none⟩) (by simp) _).setCell (p := ⟨w.heap.size + 2, 0, none⟩) (by simp) _

/-- what a round turns of what was there: the boxes of the variables, and the rows that they hold -/
structure TurnR (w W W' : World) (v u : Value) : Prop where
  size : W.heap.size ≤ W'.heap.size
  os : W'.os = W.os
  tape : W'.tape = W.tape
  output : W'.output = W.output
  block : ∀ k, k < W.heap.size → (k < w.heap.size ∨ w.heap.size + 4 ≤ k) → v.ownBlock ≠ some k → u.ownBlock ≠ some k → W'.heap[k]? = W.heap[k]?

theorem TurnR.refl (w W : World) (v u : Value) : TurnR w W W v u := ⟨Nat.le_refl _, rfl, rfl, rfl, fun _ _ _ _ _ => rfl⟩
theorem TurnR.trans {w W1 W2 W3 : World} {v u u1 : Value} (h : TurnR w W1 W2 v u) (h' : TurnR w W2 W3 v u1) (hn : u1.ownBlock = u.ownBlock ∨ ∃ b, u1.ownBlock = some b ∧ W1.heap.size ≤ b) : TurnR w W1 W3 v u :=
  ⟨Nat.le_trans h.size h'.size, h'.os.trans h.os, h'.tape.trans h.tape, h'.output.trans h.output, fun k hk hw hv hu =>
    (h'.block k (Nat.lt_of_lt_of_le hk h.size) hw hv (by
      rcases hn with e | ⟨b, e, hb⟩
      · rw [e]; exact hu
      · rw [e]; intro e2; cases e2; omega)).trans (h.block k hk hw hv hu)⟩
theorem turn_set (w W : World) (v u : Value) (B : Nat) (x : Value) (hB : w.heap.size ≤ B ∧ B < w.heap.size + 4) : TurnR w W (W.setCell ⟨B, 0, none⟩ x) v u :=
  ⟨by simp, rfl, rfl, rfl, fun k _ hw _ _ => setCell_far _ _ _ _ (by omega)⟩
theorem turn_u {w W w1 : World} {v u : Value} (hg : W.grownBy w1 u.ownBlock) : TurnR w W w1 v u := ⟨hg.size, hg.os, hg.tape, hg.output, fun k hk _ _ hu => hg.block k hk (fun e => hu e.symm)⟩
theorem turn_v {w W w5 : World} {v u : Value} {o : Obj} (hg : (W.alloc o).grownBy w5 v.ownBlock) : TurnR w W w5 v u :=
  ⟨by have := hg.size; simp at this; omega, hg.os, hg.tape, hg.output, fun k hk _ hv _ => (hg.block k (by simp; omega) (fun e => hv e.symm)).trans (Below.heap_alloc _ _ _ hk)⟩

theorem TurnR.from {w W W' : World} {s : ReadM} {v u : Value} {vs : List Value} {B : Nat} (h : TurnR w W W' v u) (hr : ReadVal w W s v u vs) (hB : w.heap.size + 4 ≤ B) : KeepsFrom B W W' :=
  ⟨h.size, fun k o hk ho hc => (h.block k (lt_of_block ho) (by omega) (fun e => by
      obtain ⟨c, hcc⟩ := ownsRow_block hr.ov e
      rw [hcc] at ho; cases ho; cases hc) (fun e => by
      obtain ⟨c, hcc⟩ := ownsRow_block hr.ou e
      rw [hcc] at ho; cases ho; cases hc)).trans ho⟩
theorem TurnR.keeps {w W W' : World} {s : ReadM} {v u : Value} {vs : List Value} (h : TurnR w W W' v u) (hr : ReadVal w W s v u vs) (hB : w.heap.size + 4 < W.heap.size) : KeepsP w.heap.size (w.heap.size + 4) W W' := by
  refine ⟨⟨h.os, h.tape, h.output, by have := h.size; omega, fun k hk => h.block k (by omega) (.inl hk) (fun e => by have := hr.nv k e; omega) (fun e => by have := hr.nu k e; omega)⟩, h.size, h.block _ hB (.inr (Nat.le_refl _)) (fun e => by have := hr.nv _ e; omega) (fun e => by have := hr.nu _ e; omega), fun k cs hk => ?_⟩
  refine (h.block k (lt_of_block hk) ?_ (fun e => ?_) (fun e => ?_)).trans hk
  · by_cases hw : k < w.heap.size ∨ w.heap.size + 4 ≤ k
    · exact hw
    · exfalso
      have hc : k = w.heap.size ∨ k = w.heap.size + 1 ∨ k = w.heap.size + 2 ∨ k = w.heap.size + 3 := by omega
      rcases hc with rfl | rfl | rfl | rfl
      · rw [show W.heap[_]? = _ from hr.b2] at hk; simp at hk
      · rw [show W.heap[_]? = _ from hr.b3] at hk; simp at hk
      · rw [show W.heap[_]? = _ from hr.b4] at hk; simp at hk
      · rw [show W.heap[_]? = _ from hr.b5] at hk; simp at hk
  · obtain ⟨c, hc⟩ := ownsRow_block hr.ov e
    rw [hc] at hk; simp at hk
  · obtain ⟨c, hc⟩ := ownsRow_block hr.ou e
    rw [hc] at hk; simp at hk

theorem one_slice (ao : Option Addr) (n c : Nat) : (Value.slice ao n c).oneCell' = true := rfl

/-- the append of a part's data, and all that it leaves -/
theorem ReadVal.more {w W : World} {s : ReadM} {v u : Value} {vs : List Value} {d : List Nat} {ao : Option Addr} {n cap Bx : Nat} {cs : Array Value} (h : ReadVal w W s v u vs) (hr : Row8 W ao n cap d) (hb : s.cur.length + n ≤ 1099511627776) (hw : w.heap.size + 5 ≤ W.heap.size)
    (hBx : W.heap[Bx]? = some (.cells cs 85 (0, 0))) :
    ∃ uo uc u1o u1c w1, u = .slice uo s.cur.length uc ∧ (Builtin.append_ #[22, 22] 22 #[.slice uo s.cur.length uc, .slice ao n cap]).run Try.prog W = .ok (.slice u1o (s.cur.length + n) u1c) w1 ∧
      Boxed w1 w.heap.size 33 v ∧ Boxed w1 (w.heap.size + 1) 3 (.int .i64 (s.stop : Int)) ∧ Boxed w1 (w.heap.size + 2) 22 (.slice uo s.cur.length uc) ∧ Boxed w1 (w.heap.size + 3) 4 (.bool s.begun) ∧ w1.heap[Bx]? = some (.cells cs 85 (0, 0)) ∧
      ReadVal w (w1.setCell ⟨w.heap.size + 2, 0, none⟩ (.slice u1o (s.cur.length + n) u1c)) ⟨s.recs, s.stop, s.cur ++ d, s.begun⟩ v (.slice u1o (s.cur.length + n) u1c) vs ∧
      TurnR w W (w1.setCell ⟨w.heap.size + 2, 0, none⟩ (.slice u1o (s.cur.length + n) u1c)) v u ∧
      ((Value.slice u1o (s.cur.length + n) u1c).ownBlock = u.ownBlock ∨ ∃ b, (Value.slice u1o (s.cur.length + n) u1c).ownBlock = some b ∧ W.heap.size ≤ b) := by
  obtain ⟨uo, uc, rfl⟩ := own_slice h.ou
  obtain ⟨u1, w1, h1, h2, h3, h4⟩ := run_append_bytes W 22 (w.heap.size + 5) _ _ _ h.ou ao n cap d hr hb hw
  obtain ⟨u1o, u1c, rfl⟩ := own_slice h2
  obtain ⟨k4, hv⟩ := h.app hr.len hr.byte h2 h3 h4
  refine ⟨uo, uc, u1o, u1c, w1, rfl, h1, h.b2.kept h3 (fun e => own_heap h.ou h.b2 (by decide) e.symm), h.b3.kept h3 (fun e => own_heap h.ou h.b3 (by decide) e.symm), k4, h.b5.kept h3 (fun e => own_heap h.ou h.b5 (by decide) e.symm), (h3.block Bx (lt_of_block hBx) (fun e => ?_)).trans hBx, hv, (turn_u h3).trans (turn_set w w1 v _ _ _ ⟨by omega, by omega⟩) (.inl rfl), h4⟩
  obtain ⟨c, hc⟩ := ownsRow_block h.ou e.symm
  rw [hBx] at hc; simp at hc

/-- the append of a record, and all that it leaves -/
theorem ReadVal.ends {w W : World} {s : ReadM} {v : Value} {vs : List Value} {uo : Option Addr} {un uc : Nat} (h : ReadVal w W s v (.slice uo un uc) vs) (stop : Nat) (hb : vs.length ≤ 1073741824) (hw : w.heap.size + 5 ≤ W.heap.size) :
    ∃ vo vc v2o v2c w5, v = .slice vo vs.length vc ∧ (Builtin.append_ #[33, 33] 33 #[.slice vo vs.length vc, .slice (some ⟨W.heap.size, 0, none⟩) 1 1]).run Try.prog (W.alloc (.cells #[.slice uo un uc] 22)) = .ok (.slice v2o (vs.length + 1) v2c) w5 ∧
      Boxed w5 w.heap.size 33 (.slice vo vs.length vc) ∧ Boxed w5 (w.heap.size + 1) 3 (.int .i64 (s.stop : Int)) ∧ Boxed w5 (w.heap.size + 2) 22 (.slice uo un uc) ∧
      ReadVal w (((w5.setCell ⟨w.heap.size, 0, none⟩ (.slice v2o (vs.length + 1) v2c)).setCell ⟨w.heap.size + 1, 0, none⟩ (.int .i64 (stop : Int))).setCell ⟨w.heap.size + 2, 0, none⟩ (.slice none 0 0)) ⟨s.recs ++ [s.cur], stop, [], s.begun⟩ (.slice v2o (vs.length + 1) v2c) (.slice none 0 0) (vs ++ [.slice uo un uc]) ∧
      TurnR w W (((w5.setCell ⟨w.heap.size, 0, none⟩ (.slice v2o (vs.length + 1) v2c)).setCell ⟨w.heap.size + 1, 0, none⟩ (.int .i64 (stop : Int))).setCell ⟨w.heap.size + 2, 0, none⟩ (.slice none 0 0)) v (.slice uo un uc) := by
  obtain ⟨vo, vc, rfl⟩ := own_slice h.ov
  obtain ⟨i0, hi, hz0, hz1, hz2⟩ := info_parts Try.info22
  have hov := ownsRow_same h.ov (w' := W.alloc (.cells #[.slice uo un uc] 22)) (fun k hk => Below.heap_alloc _ _ _ (h.ov.lt k hk).2)
  obtain ⟨v2, w5, h1, h2, h3, _⟩ := run_append_own (P := Try.prog) (W.alloc (.cells #[.slice uo un uc] 22)) (w.heap.size + 5) 33 33 22 i0 (.slice none 0 0) 1 24 Try.underlying33 hi hz0 hz1 hz2 rfl (by decide) _ _ _ hov ⟨W.heap.size, 0, none⟩ 1 1 [.slice uo un uc] rfl
    (cell_one_new _ _ _) (by intro x hx; simp at hx; subst hx; rfl) (by unfold maxLen; omega) (by omega) (by simp; omega)
  obtain ⟨v2o, v2c, rfl⟩ := own_slice h2
  obtain ⟨k2, k3, k4, hv⟩ := h.done stop h2 h3 rfl
  exact ⟨vo, vc, v2o, v2c, w5, rfl, h1, k2, k3, k4, hv, (((turn_v h3).trans (turn_set w w5 _ _ _ _ ⟨by omega, by omega⟩) (.inl rfl)).trans (turn_set w _ _ _ _ _ ⟨by omega, by omega⟩) (.inl rfl)).trans (turn_set w _ _ _ _ _ ⟨by omega, by omega⟩) (.inl rfl)⟩

/-- between two rounds -/
def InvR (w : World) (l : List Nat) (pre : List (PlaceOf l)) (W : World) : Prop :=
  ∃ s v u vs, runL ⟨[], 0, [], false⟩ (pre.map partOf) = some s ∧ ReadVal w W s v u vs ∧ s.cur.length ≤ 121 * pre.length ∧ vs.length ≤ pre.length ∧ w.heap.size + 4 < W.heap.size

/-- behind a round that has ended the loop -/
def OutR (w : World) (l : List Nat) (id : Nat) (c : Code) (pre : List (PlaceOf l)) (W : World) : Prop :=
  c = .exit id ∧ ∃ s v u vs, (∀ q, readL ⟨[], 0, [], false⟩ (pre.map partOf ++ q) = s) ∧ ReadVal w W s v u vs ∧ w.heap.size + 4 < W.heap.size

theorem ReadVal.grown {w A B : World} {s : ReadM} {v u : Value} {vs : List Value} {row : Option Nat} {base : Nat} (h : ReadVal w A s v u vs) (hg : A.grownBy B row) (hr : ∀ r, row = some r → base ≤ r ∧ ∃ o : Obj, A.heap[r]? = some o ∧ o.isCells = false) (hb : w.heap.size ≤ base) : ReadVal w B s v u vs := by
  have hs := h.below.size
  refine h.kept ⟨hg.os, hg.tape, hg.output, by have := hg.size; omega, fun k hk => hg.block k (by omega) (fun e => by have := (hr k e.symm).1; omega)⟩ (fun k o _ ho hc _ => (hg.block k (lt_of_block ho) (fun e => ?_)).trans ho)
  obtain ⟨_, o', ho', hc'⟩ := hr k e.symm
  rw [ho] at ho'; cases ho'; rw [hc] at hc'; cases hc'

theorem invR_own {w : World} {l : List Nat} {base : Nat} (hb : w.heap.size ≤ base) : OwnFrom base (InvR w l) := by
  rintro pre A B row ⟨s, v, u, vs, h1, h2, h3, h4, h5⟩ hg hr
  exact ⟨s, v, u, vs, h1, h2.grown hg hr hb, h3, h4, Nat.lt_of_lt_of_le h5 hg.size⟩
theorem outR_own {w : World} {l : List Nat} {id base : Nat} (hb : w.heap.size ≤ base) (c : Code) : OwnFrom base (OutR w l id c) := by
  rintro pre A B row ⟨h0, s, v, u, vs, h1, h2, h5⟩ hg hr
  exact ⟨h0, s, v, u, vs, h1, h2.grown hg hr hb, Nat.lt_of_lt_of_le h5 hg.size⟩
end Go.Proofs.Ytkmanpmaflpgoaa
