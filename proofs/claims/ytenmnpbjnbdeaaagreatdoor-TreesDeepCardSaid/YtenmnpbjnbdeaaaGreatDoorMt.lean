/-
  WHAT IS PROVED: what reads an update.
-/
import Derived.Test.YtenmnpbjnbdeaaaGreatDoorMr
namespace Go.Proofs.YtenmnpbjnbdeaaaGreatDoor
section
open Go.RowKit Go.Shelf
set_option linter.unusedVariables false

/-- a row under way above what its things point to -/
structure OwnQ {α : Type} (E : Elt α) (base : Nat) (Q : Nat → Prop) (w : World) (v : Value) (css : List (List Value)) (l : List α) : Prop where
  own : w.ownsRow base E.T E.sz v l.length css.flatten
  all : All2 (E.is Q w) css l
  low : ∀ k, Q k → k < base
theorem OwnQ.slice {α : Type} {E : Elt α} {base : Nat} {Q : Nat → Prop} {w : World} {v : Value} {css : List (List Value)} {l : List α} (h : OwnQ E base Q w v css l) : ∃ ao cap, v = .slice ao l.length cap := by
  rcases h.own.2 with ⟨rfl, h0⟩ | ⟨g, cap, cur, rfl, _⟩
  · exact ⟨_, _, by rw [h0]⟩
  · exact ⟨_, _, rfl⟩
theorem OwnQ.nil {α : Type} (E : Elt α) (base : Nat) {Q : Nat → Prop} (w : World) (hq : ∀ k, Q k → k < base) : OwnQ E base Q w nS [] [] := ⟨World.ownsRow_nil _ _ _ _, trivial, hq⟩
theorem OwnQ.turn {α : Type} {E : Elt α} {base : Nat} {Q S : Nat → Prop} {w w' : World} {v : Value} {css : List (List Value)} {l : List α} (h : OwnQ E base Q w v css l) (ht : Turn S w w') (hv : ∀ k, v.ownBlock = some k → ¬ S k) (hn : ∀ k, Q k → ¬ S k) : OwnQ E base Q w' v css l :=
  ⟨ht.own h.own hv, h.all.imp fun a b q => E.kept q ht.size (fun k hp hk => ht.block k hk (hn k hp)), h.low⟩
theorem OwnQ.app {α : Type} {E : Elt α} (hu : Tryz.prog.underlying E.S = some (.slice E.T)) {z : Value} {bytes : Nat} (hinfo : (Tryz.prog.info? E.T).map (fun i => (i.zero, i.size, i.bytes)) = some (some z, E.sz, bytes)) (hzs : z.cells.size = E.sz) (hsz : 0 < E.sz)
    {base : Nat} {Q : Nat → Prop} {w : World} {v : Value} {css : List (List Value)} {l : List α} (h : OwnQ E base Q w v css l) {cs : List Value} {x : α} (hx : E.is Q w cs x) (hl : l.length ≤ 1000000) (hby : bytes ≤ 1000000) (hb : base ≤ w.heap.size) :
    ∃ v' w', (Builtin.append_ #[E.S, E.S] E.S #[v, .slice (some ⟨w.heap.size, 0, none⟩) 1 1]).run Tryz.prog (w.alloc (.cells cs.toArray E.T)) = .ok v' w' ∧ OwnQ E base Q w' v' (css ++ [cs]) (l ++ [x]) ∧ Turn (fun k => v.ownBlock = some k) w w' := by
  obtain ⟨i0, hi, hz0, hz1, hz2⟩ := info_parts hinfo
  have hnew : (w.alloc (.cells cs.toArray E.T)).heap[w.heap.size]? = some (.cells cs.toArray E.T (0, 0)) := heap_alloc_new w _
  have h63 : l.length + 1 ≤ maxLen := by unfold maxLen; omega
  have hbb : (l.length + 1) * bytes ≤ 140737488355328 := Nat.le_trans (Nat.mul_le_mul (Nat.succ_le_succ hl) hby) (by decide)
  obtain ⟨v', w', h1, h2, h3, _, h5⟩ := run_append_own_at (P := Tryz.prog) (w.alloc (.cells cs.toArray E.T)) base E.S E.S E.T i0 z E.sz bytes hu hi hz0 hz1 hz2 hzs hsz v l.length css.flatten (h.own.alloc _) ⟨w.heap.size, 0, none⟩ 1 1 cs (by rw [E.len hx]; omega)
    (fun j u hj => by
      have : (⟨w.heap.size, 0, none⟩ : Addr).add j = ⟨w.heap.size, j, none⟩ := by unfold Addr.add; split <;> simp_all
      rw [this, bk_cell hnew j, List.getElem?_toArray]; exact hj) (E.one hx) h63 hbb (by simp; omega)
  have ht : Turn (fun k => v.ownBlock = some k) w w' := (Turn.alloc _ _ _).trans (Turn.grown h3)
  have key : ∀ cs y, E.is Q w cs y → E.is Q w' cs y := fun cs y q => E.kept q ht.size (fun k hk hlt => ht.block k hlt (fun e => by have := (h.own.lt k e).1; have := h.low k hk; omega))
  refine ⟨v', w', h1, ⟨?_, (h.all.imp key).snoc (key cs x hx), h.low⟩, ht⟩
  rw [List.flatten_append, List.length_append, List.flatten_singleton]; exact h2
theorem OwnQ.row {α : Type} {E : Elt α} {base : Nat} {Q P : Nat → Prop} {w : World} {v : Value} {css : List (List Value)} {l : List α} (h : OwnQ E base Q w v css l) (h1 : ∀ k, base ≤ k → P k) (h2 : ∀ k, Q k → P k) : RowOf E P w v l := by
  have hc := fun g => @World.ownsRow.cells w base E.T E.sz v l.length css.flatten h.own g
  rcases h.own.2 with ⟨q1, q2⟩ | ⟨g, cap, cur, q1, hg, hh, hn, hm, _⟩
  · exact .inl ⟨q1, List.eq_nil_of_length_eq_zero q2⟩
  · refine .inr ⟨g, cap, css, q1, hn, by unfold maxLen at hm; exact hm, h1 g hg, (Array.getElem?_eq_some_iff.1 hh).1, h.all.imp (fun a b q => E.mono q (fun k hk _ => h2 k hk)), fun j u hu => ?_⟩
    have := hc g (by rw [q1]; rfl) j u hu
    rwa [show (⟨g, 0, none⟩ : Addr).add j = ⟨g, j, none⟩ by unfold Addr.add; split <;> simp_all] at this
theorem own_apart {w : World} {base base' e e' sz sz' n m : Nat} {v u : Value} {xs ys : List Value} (h : w.ownsRow base e sz v n xs) (h' : w.ownsRow base' e' sz' u m ys) (he : e ≠ e') : ∀ k, v.ownBlock = some k → ¬ u.ownBlock = some k := by
  intro k hk hk'
  rcases h.2 with ⟨rfl, _⟩ | ⟨g, cap, cur, rfl, _, hg, _⟩
  · cases hk
  · rcases h'.2 with ⟨rfl, _⟩ | ⟨g', cap', cur', rfl, _, hg', _⟩
    · cases hk'
    · have e1 : g = k := by injection hk
      have e2 : g' = k := by injection hk'
      subst e1; subst e2
      rw [hg] at hg'
      injection hg' with hg'
      injection hg' with _ ht _
      exact he ht
theorem All2.at_ {α β : Type} {R : α → β → Prop} : ∀ {css : List α} {l d : List β} {x : β} {r : List β}, All2 R css l → l = d ++ x :: r → ∃ cd cs cr, css = cd ++ cs :: cr ∧ All2 R cd d ∧ R cs x
  | [], [], d, x, r, _, e => by cases d <;> cases e
  | c :: css, y :: l, [], x, r, q, e => by
    injection e with e1 e2
    subst e1
    exact ⟨[], c, css, rfl, trivial, q.1⟩
  | c :: css, y :: l, z :: d, x, r, q, e => by
    injection e with e1 e2
    subst e1
    obtain ⟨cd, cs, cr, h1, h2, h3⟩ := All2.at_ q.2 e2
    exact ⟨c :: cd, cs, cr, by rw [h1]; rfl, ⟨q.1, h2⟩, h3⟩
  | [], _ :: _, _, _, _, q, _ => q.elim
  | _ :: _, [], _, _, _, q, _ => q.elim
/-- the cells of one of a row -/
theorem row_at {α : Type} {E : Elt α} {P : Nat → Prop} {w : World} {css : List (List Value)} {l d : List α} {x : α} {r : List α} {g : Nat} (q : All2 (E.is P w) css l) (hc : ∀ (j : Nat) (u : Value), css.flatten[j]? = some u → w.cell? ⟨g, j, none⟩ = some u) (e : l = d ++ x :: r) :
    ∃ cs, E.is P w cs x ∧ w.rangeAt g (d.length * E.sz) cs := by
  obtain ⟨cd, cs, cr, h1, h2, h3⟩ := q.at_ e
  refine ⟨cs, h3, fun j v hj => hc _ v ?_⟩
  have hlt : j < cs.length := (List.getElem?_eq_some_iff.1 hj).1
  rw [h1, List.flatten_append, List.flatten_cons, ← All2.flat h2, List.getElem?_append_right (by omega), Nat.add_sub_cancel_left, List.getElem?_append_left hlt]
  exact hj
theorem listL_ge {α : Type} (f : St → α × St) : ∀ (k : Nat) (l : List α) (t : St), l.length ≤ (listL f k l t).1.length
  | 0, l, t => Nat.le_refl _
  | k + 1, l, t => by
    unfold listL; split
    · have := listL_ge f k (l ++ [(f t.step).1]) (f t.step).2
      simp only [List.length_append, List.length_singleton] at this
      omega
    · exact Nat.le_refl _
theorem listP_ge {α : Type} (f : St → α × St) (t : St) : 1 ≤ (listP f t).1.length := listL_ge f _ [(f t).1] _
section
variable {N B R X : Nat} {A : Array Value} {w wi wj : World} {t t' : St} {x : StM} {c n r i f u g h o : Value}
theorem Fs.later (q : Fs N B R X A w wi t x c n r i f u g h o) (ht : Turn (· = X) wi wj) {A' : Array Value} (hb : wj.heap[X]? = some (.cells A' 39 (0, 0))) : Fs N B R X A' w wj t x c n r i f u g h o :=
  ⟨q.z.far ht (fun k hk => by have := q.hX; omega), hb, q.hX, q.held.turn ht (fun k hk e => hk.2 e)⟩
theorem Fs.oneRow (q : Fs N B R X A w wi t x c n r i f u g h o) {v : Value} {l : List Ex} (hv : RowOf exE (fun k => R < k ∧ k ≠ X) wi v l) :
    RowOf rowE (fun k => R < k ∧ k ≠ X) (wi.alloc (.cells #[v] 34)) (.slice (some ⟨wi.heap.size, 0, none⟩) 1 1) [l] := by
  refine .inr ⟨wi.heap.size, 1, [[v]], rfl, Nat.le_refl _, by omega, ⟨by have := q.hX; have := bk_lt q.blk; omega, by have := bk_lt q.blk; omega⟩, by simp, ⟨⟨v, rfl, REs.of_row (hv.below (below_alloc _ _))⟩, trivial⟩, fun j u hu => ?_⟩
  have hX : (wi.alloc (.cells #[v] 34)).heap[wi.heap.size]? = _ := heap_alloc_new wi _
  refine (bk_cell hX j).trans ?_
  rw [← Array.getElem?_toList]; exact hu
end
set_option maxRecDepth 100000 in
set_option maxHeartbeats 8000000 in
theorem update_way (N B n : Nat) (hn : n ≤ 900000) (self : St → Ex × St) (hself : ReadsX N B n 35 self) (hle : Le self) (t : St) (w : World) (h : RdAt N w B t) (ht : t.rest.length ≤ n) (nm : List UInt8) (t1 t2 t3 : St) (asg : List AsgM) (x1 : Ex) (e1 : nameP t = (nm, t1)) (e2 : listP (asgP self) (t1.need wSet) = (asg, t2)) (e3 : condP self wWhere t2 = (x1, t3)) :
    Calls Tryz.prog 57 #[.pointer (some ⟨B, 0, none⟩)] w (GivesS N B (⟨5, [], nm, [], asg.map AsgM.name, [asg.map AsgM.value], [], [], x1, [], noE, [], 0, 0⟩, t3) w) := by
  have hmf : ∀ (fn : Fn) (first cap : Array Value) (w : World), (Instr.makeFunc fn first cap).run Tryz.prog w = .ok (.func fn first cap) w := fun _ _ _ _ => rfl
  have F0 : Hid (Fz N B w.heap.size 39 (s00 0 z0 z0 nS nS nS nS nS nS nS 0 0) w (w.alloc (.cells (s00 0 z0 z0 nS nS nS nS nS nS nS 0 0) 39)) t) := Lib.hid (Fz.start 39 (s00 0 z0 z0 nS nS nS nS nS nS nS 0 0) h)
  have hN1 := fun w h => name_tr N B (t) w h
  rw [e1] at hN1; dsimp only at hN1
  have HL1 : Hid (t1.rest.length ≤ n) := Lib.hid (by have a := nameP_le t; rw [e1] at a; dsimp only at a; skip; omega)
  have hA := fun w h => listAsg_tr N B n 107 hn (fun _ _ => by kernel_rfl) (asgP self) (asg_tr N B n self hself hle) (asgP_le hle) (t1.need wSet) w h (by have b := St.need_le t1 wSet; have c := HL1.out; omega)
  unfold GivesL at hA; rw [e2] at hA; dsimp only at hA
  have HL2 : Hid (t2.rest.length ≤ n) := Lib.hid (by have a := listP_le (asgP_le hle) (t1.need wSet); rw [e2] at a; dsimp only at a; have b := St.need_le t1 wSet; have c := HL1.out; omega)
  have HLEN : Hid (1 ≤ asg.length ∧ asg.length ≤ 1 + n) := Lib.hid (by have a := listP_len (asgP_le hle) (t1.need wSet); have a2 := listP_ge (asgP self) (t1.need wSet); rw [e2] at a a2; dsimp only at a a2; have b2 := St.need_le t1 wSet; have c := HL1.out; omega)
  have hW := fun w h => condition_tr N B n self hself ⟨#[119, 104, 101, 114, 101]⟩ (by decide) t2 w h HL2.out
  rw [show condP self (⟨#[119, 104, 101, 114, 101]⟩ : ByteArray).data.toList t2 = condP self wWhere t2 from rfl] at hW
  unfold GivesX at hW; rw [e3] at hW; dsimp only at hW
  clear h e1 e2 e3
  go_enter Tryz.func57, Tryz.ntmps57
  go_wp2_with fail
  refine (hN1 _ F0.out.rd).mono ?_
  rintro e w1 ⟨rfl, hr, hq⟩
  have F1 := Lib.hid (F0.out.call hr hq)
  clear hr hq
  obtain ⟨w2, hw2⟩ : ∃ w2, w2 = (w1.alloc (.cells (s00 0 z0 z0 nS nS nS nS nS nS nS 0 0) 39)).setRow w1.heap.size (s00 5 z0 ((strU nm)) nS nS nS nS nS nS nS 0 0) := ⟨_, rfl⟩
  have F2 : Hid (Fs N B w.heap.size w1.heap.size (s00 5 z0 ((strU nm)) nS nS nS nS nS nS nS 0 0) w w2 (t1) ⟨5, [], nm, [], [], [], [], [], noE, [], noE, [], 0, 0⟩ nS nS nS nS nS nS nS nS nS) := Lib.hid (by rw [hw2]; exact Fs.start F1.out (s00 5 z0 ((strU nm)) nS nS nS nS nS nS nS 0 0) _ rfl)
  go_wp2_with (first
    | (refine wpList_store_row rfl 39 _ _ rfl w1.heap.size (s00 5 z0 ((strU nm)) nS nS nS nS nS nS nS 0 0) rfl rfl _ _ (heap_alloc_new _ _) (by kernel_rfl) rfl (by simp [Value.oneCell']) ?_; rw [← hw2]; clear hw2))
  refine (need_any N B t1 ⟨#[115, 101, 116]⟩ _ F2.out.z.rd (by decide)).mono ?_
  rintro e w3 ⟨rfl, hr, hq⟩
  have F3 := Lib.hid (F2.out.call hr hq)
  clear hr hq
  go_wp2_with fail
  refine (hA _ F3.out.z.rd).mono ?_
  rintro e w4 ⟨va, rfl, hrow, hr, hq⟩
  have F4 := Lib.hid (F3.out.call hr hq)
  have hrow := F3.out.gotL hrow
  clear hr hq
  rcases hrow with ⟨_, h0⟩ | ⟨ga, ca, css, rfl, hc1, hc2, hP, hlt, hall, hcell⟩
  · exact absurd HLEN.out.1 (by rw [h0]; simp)
  have HROW := Lib.hid (And.intro hall hcell)
  have HG := Lib.hid (And.intro hP hlt)
  clear hall hcell hP hlt
  have HXB : Hid (w.heap.size < w1.heap.size ∧ w1.heap.size < w4.heap.size ∧ w4.heap.size = w4.heap.size) := Lib.hid ⟨F4.out.hX, bk_lt F4.out.blk, rfl⟩
  go_wp2_with fail
  go_loopw [4, 17] (fun vv iv wr => ∃ (k : Nat) (dn rs : List AsgM) (an av : Option Addr) (cn cv : Nat) (css1 css2 : List (List Value)), vv = .slice av k cv ∧ iv = .int .i64 (k : Int) ∧ Hid (k = dn.length ∧ asg = dn ++ rs) ∧ Hid (Turn (· = w1.heap.size) w4 wr) ∧ Hid (wr.heap[w1.heap.size]? = some (.cells (s00 5 z0 ((strU nm)) nS (.slice an k cn) nS nS nS nS nS 0 0) 39 (0, 0))) ∧ Hid (OwnQ strE w4.heap.size (fun k => (w.heap.size < k ∧ k ≠ w1.heap.size) ∧ k < w4.heap.size) wr (.slice an k cn) css1 (dn.map AsgM.name)) ∧ Hid (OwnQ exE w4.heap.size (fun k => (w.heap.size < k ∧ k ≠ w1.heap.size) ∧ k < w4.heap.size) wr (.slice av k cv) css2 (dn.map AsgM.value))) (fun _ iv _ => asg.length - (RowKit.intOf iv).toNat)
  case atStart => exact ⟨0, [], asg, none, none, 0, 0, [], [], rfl, rfl, Lib.hid ⟨rfl, rfl⟩, Lib.hid (Turn.refl _ _), Lib.hid F4.out.blk, Lib.hid (OwnQ.nil strE _ _ (fun k hk => hk.2)), Lib.hid (OwnQ.nil exE _ _ (fun k hk => hk.2))⟩
  case round =>
    obtain ⟨k, dn, rs, an, av, cn, cv, css1, css2, rfl, rfl, HK, HT, HX, HN, HV⟩ := hrel
    cases rs with
    | nil => 
      have hge : ¬ k < asg.length := by rw [HK.out.1, HK.out.2]; simp
      have F20 : Hid (Fs N B w.heap.size w1.heap.size (s00 5 z0 ((strU nm)) nS (.slice an k cn) nS nS nS nS nS 0 0) w wr (t2) ⟨5, [], nm, [], asg.map AsgM.name, [], [], [], noE, [], noE, [], 0, 0⟩ nS (.slice an k cn) nS nS nS nS nS nS nS) := Lib.hid ((F4.out.later HT.out HX.out).names (l := asg.map AsgM.name) (by rw [HK.out.2, List.append_nil]; exact HN.out.row (fun k hk => by have := HXB.out; constructor <;> omega) (fun k hk => hk.1)))
      have QV : Hid (RowOf exE (fun k => w.heap.size < k ∧ k ≠ w1.heap.size) wr (.slice av k cv) (asg.map AsgM.value)) := Lib.hid (by rw [HK.out.2, List.append_nil]; exact HV.out.row (fun k hk => by have := HXB.out; constructor <;> omega) (fun k hk => hk.1))
      have F21 := Lib.hid (F20.out.new (below_alloc wr (.cells #[.slice av k cv] 34)))
      have Q21 := Lib.hid (F20.out.oneRow QV.out)
      have hVR : (Value.slice av k cv).cells = [Value.slice av k cv].toArray := rfl
      clear HN HV HX HT
      have F22 : Hid (Fs N B w.heap.size w1.heap.size (s00 5 z0 ((strU nm)) nS (.slice an k cn) nS nS nS nS nS 0 0) w (wr.alloc (.cells #[.slice av k cv] 34)) (t2) ⟨5, [], nm, [], asg.map AsgM.name, [asg.map AsgM.value], [], [], noE, [], noE, [], 0, 0⟩ nS (.slice an k cn) (.slice (some ⟨wr.heap.size, 0, none⟩) 1 1) nS nS nS nS nS nS) := Lib.hid (F21.out.rows Q21.out)
      have c21 : (wr.alloc (.cells #[.slice av k cv] 34)).cell? ⟨w1.heap.size, 5, none⟩ = some nS := bk_cell F22.out.blk 5
      have z21 : (wr.alloc (.cells #[.slice av k cv] 34)).frozen? ⟨w1.heap.size, 5, none⟩ = false := bk_free F22.out.blk 5
      have HS21 : Hid (((wr.alloc (.cells #[.slice av k cv] 34)).setCell ⟨w1.heap.size, 5, none⟩ (.slice (some ⟨wr.heap.size, 0, none⟩) 1 1)) = (wr.alloc (.cells #[.slice av k cv] 34)).setRow w1.heap.size (s00 5 z0 ((strU nm)) nS (.slice an k cn) (.slice (some ⟨wr.heap.size, 0, none⟩) 1 1) nS nS nS nS 0 0)) := Lib.hid ((setCell_eq_setRow (wr.alloc (.cells #[.slice av k cv] 34)) w1.heap.size 5 _ _ _ (.slice (some ⟨wr.heap.size, 0, none⟩) 1 1) F22.out.blk).trans (congrArg ((wr.alloc (.cells #[.slice av k cv] 34)).setRow w1.heap.size) rfl))
      have F23 : Hid (Fs N B w.heap.size w1.heap.size (s00 5 z0 ((strU nm)) nS (.slice an k cn) (.slice (some ⟨wr.heap.size, 0, none⟩) 1 1) nS nS nS nS 0 0) w ((wr.alloc (.cells #[.slice av k cv] 34)).setCell ⟨w1.heap.size, 5, none⟩ (.slice (some ⟨wr.heap.size, 0, none⟩) 1 1)) (t2) ⟨5, [], nm, [], asg.map AsgM.name, [asg.map AsgM.value], [], [], noE, [], noE, [], 0, 0⟩ nS (.slice an k cn) (.slice (some ⟨wr.heap.size, 0, none⟩) 1 1) nS nS nS nS nS nS) := Lib.hid (by rw [HS21.out]; exact F22.out.set _)
      go_wp2_with fail
      refine (hW _ F23.out.z.rd).mono ?_
      rintro e w24 ⟨v23, rfl, hs, hr, hq⟩
      obtain ⟨a23, n23, b23, hu⟩ := hs.slice
      subst hu
      have F24 : Hid (Fs N B w.heap.size w1.heap.size (s00 5 z0 ((strU nm)) nS (.slice an k cn) (.slice (some ⟨wr.heap.size, 0, none⟩) 1 1) nS nS nS nS 0 0) w w24 (t3) ⟨5, [], nm, [], asg.map AsgM.name, [asg.map AsgM.value], [], [], x1, [], noE, [], 0, 0⟩ nS (.slice an k cn) (.slice (some ⟨wr.heap.size, 0, none⟩) 1 1) nS nS (.slice a23 n23 b23) nS nS nS) := Lib.hid ((F23.out.call hr hq).cond (e := x1) (F23.out.gotX hs))
      obtain ⟨w25, hw25⟩ : ∃ w25, w25 = w24.setRow w1.heap.size (s10 5 z0 ((strU nm)) nS (.slice an k cn) (.slice (some ⟨wr.heap.size, 0, none⟩) 1 1) nS nS x1.a (.slice a23 n23 b23) nS nS 0 0) := ⟨_, rfl⟩
      have F25 : Hid (Fs N B w.heap.size w1.heap.size (s10 5 z0 ((strU nm)) nS (.slice an k cn) (.slice (some ⟨wr.heap.size, 0, none⟩) 1 1) nS nS x1.a (.slice a23 n23 b23) nS nS 0 0) w w25 (t3) ⟨5, [], nm, [], asg.map AsgM.name, [asg.map AsgM.value], [], [], x1, [], noE, [], 0, 0⟩ nS (.slice an k cn) (.slice (some ⟨wr.heap.size, 0, none⟩) 1 1) nS nS (.slice a23 n23 b23) nS nS nS) := Lib.hid (by rw [hw25]; exact F24.out.set _)
      clear hs hr hq
      unfold exVal
      go_wp2_with (first
        | (refine wpList_store_field rfl 36 _ _ rfl w1.heap.size 8 (eA x1.a (.slice a23 n23 b23)) rfl rfl _ _ F24.out.blk (by kernel_rfl) (by simp [Value.oneCell']) (by simp) (s10 5 z0 ((strU nm)) nS (.slice an k cn) (.slice (some ⟨wr.heap.size, 0, none⟩) 1 1) nS nS x1.a (.slice a23 n23 b23) nS nS 0 0) rfl ?_; rw [← hw25]; clear hw25)
        | (refine wpList_load_row rfl 39 _ rfl w1.heap.size rfl _ (s10 5 z0 ((strU nm)) nS (.slice an k cn) (.slice (some ⟨wr.heap.size, 0, none⟩) 1 1) nS nS x1.a (.slice a23 n23 b23) nS nS 0 0) (0, 0) _ F25.out.blk Tryz.underlying39 rfl (by kernel_rfl) ?_)
        | (refine wpList_store_row rfl 39 _ _ rfl w.heap.size (s10 5 z0 ((strU nm)) nS (.slice an k cn) (.slice (some ⟨wr.heap.size, 0, none⟩) 1 1) nS nS x1.a (.slice a23 n23 b23) nS nS 0 0) rfl rfl _ _ F25.out.z.res (by kernel_rfl) rfl (by simp [Value.oneCell']) ?_))
      refine bodyPost_ret (results_cell_row Tryz.results57 _ _ w.heap.size 39 (s10 5 z0 ((strU nm)) nS (.slice an k cn) (.slice (some ⟨wr.heap.size, 0, none⟩) 1 1) nS nS x1.a (.slice a23 n23 b23) nS nS 0 0) (0, 0) _ rfl (setRow_heap _ _ _ _ _ _ F25.out.z.res) Tryz.underlying39 rfl (by kernel_rfl)) rfl ?_
      exact F25.out.done rfl
    | cons a rs =>
      have hltk : k < asg.length := by rw [HK.out.1, HK.out.2]; simp
      have hk63 : k < 1000000 := by have := HLEN.out; omega
      obtain ⟨cs, ⟨u0, rfl, hs0⟩, hrg⟩ := row_at (E := asgE) HROW.out.1 HROW.out.2 HK.out.2
      obtain ⟨ao, no, co, hu⟩ := hs0.slice
      subst hu
      have HS0 : Hid (REs (fun k => (w.heap.size < k ∧ k ≠ w1.heap.size) ∧ k < w4.heap.size) w4 (.slice ao no co) a.value.l) := Lib.hid (hs0.mono fun k hk hlt => ⟨hk, hlt⟩)
      have HRG : Hid (wr.rangeAt ga (k * 10) [.string (strU a.name), .int .u8 (a.value.a.kind : Int), .int .u8 (a.value.a.op : Int), .string (strU a.value.a.table), .string (strU a.value.a.name), .int .u8 (a.value.a.vk : Int), .int .i64 a.value.a.vi, .string (strU a.value.a.vs), .bool a.value.a.star, .slice ao no co]) := Lib.hid (fun j v hj => (World.cell?_of_block (HT.out.block ga HG.out.2 HG.out.1.2)).trans (by rw [HK.out.1]; exact hrg j v hj))
      clear hs0 hrg
      obtain ⟨p2, hw2⟩ : ∃ p2, p2 = wr.alloc (.cells #[.string (strU a.name), .int .u8 (a.value.a.kind : Int), .int .u8 (a.value.a.op : Int), .string (strU a.value.a.table), .string (strU a.value.a.name), .int .u8 (a.value.a.vk : Int), .int .i64 a.value.a.vi, .string (strU a.value.a.vs), .bool a.value.a.star, .slice ao no co] 155) := ⟨_, rfl⟩
      have HW2 := Lib.hid hw2
      have hX2 : p2.heap[wr.heap.size]? = some (.cells #[.string (strU a.name), .int .u8 (a.value.a.kind : Int), .int .u8 (a.value.a.op : Int), .string (strU a.value.a.table), .string (strU a.value.a.name), .int .u8 (a.value.a.vk : Int), .int .i64 a.value.a.vi, .string (strU a.value.a.vs), .bool a.value.a.star, .slice ao no co] 155 (0, 0)) := by rw [hw2]; exact heap_alloc_new _ _
      have ht2 : Turn (fun _ => False) wr p2 := by rw [hw2]; exact Turn.alloc _ _ _
      have hwr : w4.heap.size ≤ wr.heap.size := HT.out.size
      obtain ⟨v3, p3, hrun1, hown1, ht3⟩ := OwnQ.app Tryz.underlying25 Tryz.infoLStr rfl (by decide) (HN.out.turn ht2 (fun _ _ e => e) (fun _ _ e => e)) (cs := [.string (strU a.name)]) (x := a.name) rfl (by rw [List.length_map, ← HK.out.1]; omega) (by decide) (Nat.le_trans hwr ht2.size)
      obtain ⟨an', cn', hv3⟩ := hown1.slice
      rw [show (List.map AsgM.name dn ++ [a.name]).length = k + 1 by rw [HK.out.1]; simp] at hv3
      subst hv3
      have hlt1 := fun k hk => HN.out.own.lt k hk
      have hX3 : p3.heap[w1.heap.size]? = some (.cells (s00 5 z0 ((strU nm)) nS (.slice an k cn) nS nS nS nS nS 0 0) 39 (0, 0)) := (ht3.block _ (Nat.lt_of_lt_of_le (bk_lt HX.out) ht2.size) (fun e => by have := (hlt1 _ e).1; have := HXB.out.2.1; omega)).trans ((ht2.block _ (bk_lt HX.out) (fun e => e)).trans HX.out)
      have hA3 : p3.heap[wr.heap.size]? = some (.cells #[.string (strU a.name), .int .u8 (a.value.a.kind : Int), .int .u8 (a.value.a.op : Int), .string (strU a.value.a.table), .string (strU a.value.a.name), .int .u8 (a.value.a.vk : Int), .int .i64 a.value.a.vi, .string (strU a.value.a.vs), .bool a.value.a.star, .slice ao no co] 155 (0, 0)) := (ht3.block _ (bk_lt hX2) (fun e => by have := (hlt1 _ e).2; omega)).trans hX2
      have hX2' : p2.heap[w1.heap.size]? = some (.cells (s00 5 z0 ((strU nm)) nS (.slice an k cn) nS nS nS nS nS 0 0) 39 (0, 0)) := (ht2.block _ (bk_lt HX.out) (fun e => e)).trans HX.out
      clear hw2
      obtain ⟨p4, hw4⟩ : ∃ p4, p4 = p3.setCell ⟨w1.heap.size, 4, none⟩ (.slice an' (k + 1) cn') := ⟨_, rfl⟩
      have HW4 := Lib.hid hw4
      have ht4 : Turn (· = w1.heap.size) p3 p4 := by rw [hw4]; exact Turn.setCell _ _ _ _ rfl
      have hX4 : p4.heap[w1.heap.size]? = some (.cells (s00 5 z0 ((strU nm)) nS (.slice an' (k + 1) cn') nS nS nS nS nS 0 0) 39 (0, 0)) := by
        rw [hw4, (setCell_eq_setRow p3 w1.heap.size 4 _ _ _ (.slice an' (k + 1) cn') hX3).trans (congrArg (p3.setRow w1.heap.size) rfl : _ = p3.setRow w1.heap.size (s00 5 z0 ((strU nm)) nS (.slice an' (k + 1) cn') nS nS nS nS nS 0 0))]
        exact setRow_heap _ _ _ _ _ _ hX3
      clear hw4
      have hA4 := (ht4.block _ (bk_lt hA3) (fun e => by have := HXB.out.2.1; omega)).trans hA3
      have hN2 := HN.out.turn ht2 (fun _ _ e => e) (fun _ _ e => e)
      have hV2 := HV.out.turn ht2 (fun _ _ e => e) (fun _ _ e => e)
      have hV3 := hV2.turn ht3 (own_apart hV2.own hN2.own (by decide)) (fun k hk e => by have := (hlt1 k e).1; have := hk.2; omega)
      have hV4 := hV3.turn ht4 (fun k hk e => by have := (hV3.own.lt k hk).1; have := HXB.out.2.1; omega) (fun k hk e => hk.1.2 e)
      have hN4 := hown1.turn ht4 (fun k hk e => by have := (hown1.own.lt k hk).1; have := HXB.out.2.1; omega) (fun k hk e => hk.1.2 e)
      have hE4 : exE.is (fun k => (w.heap.size < k ∧ k ≠ w1.heap.size) ∧ k < w4.heap.size) p4 (eL a.value.a (.slice ao no co)) a.value := ⟨_, rfl, (((HS0.out.turn HT.out (fun k hk e => hk.1.2 e)).turn ht2 (fun _ _ e => e)).turn ht3 (fun k hk e => by have := (hlt1 k e).1; have := hk.2; omega)).turn ht4 (fun k hk e => hk.1.2 e)⟩
      obtain ⟨v5, p5, hrun2, hown2, ht5⟩ := OwnQ.app Tryz.underlying34 Tryz.infoLEx rfl (by decide) hV4 hE4 (by rw [List.length_map, ← HK.out.1]; omega) (by decide) (Nat.le_trans (Nat.le_trans hwr ht2.size) (Nat.le_trans ht3.size ht4.size))
      obtain ⟨av', cv', hv5⟩ := hown2.slice
      rw [show (List.map AsgM.value dn ++ [a.value]).length = k + 1 by rw [HK.out.1]; simp] at hv5
      subst hv5
      have hN5 := hN4.turn ht5 (own_apart hN4.own hV4.own (by decide)) (fun k hk e => by have := (hV4.own.lt k e).1; have := hk.2; omega)
      have HX5 := Lib.hid ((ht5.block _ (bk_lt hX4) (fun e => by have := (hV4.own.lt _ e).1; have := HXB.out.2.1; omega)).trans hX4)
      have HT5 : Hid (Turn (· = w1.heap.size) w4 p5) := Lib.hid ((((HT.out.next ht2 (fun _ _ e => e.elim)).next ht3 (fun k hk e => by have := (hlt1 k e).1; omega)).trans ht4).next ht5 (fun k hk e => by have := (hV4.own.lt k e).1; omega))
      have HN5 := Lib.hid hN5
      have HV5 := Lib.hid hown2
      have HR4 : Hid (p4.rangeAt wr.heap.size 1 (eL a.value.a (.slice ao no co))) := Lib.hid (World.rangeAt_of_block hA4 1 9)
      have c2 : p2.cell? ⟨w1.heap.size, 4, none⟩ = some (.slice an k cn) := bk_cell hX2' 4
      have ca : p2.cell? ⟨wr.heap.size, 0, none⟩ = some (.string (strU a.name)) := bk_cell hX2 0
      have c3 : p3.cell? ⟨w1.heap.size, 4, none⟩ = some (.slice an k cn) := bk_cell hX3 4
      have z3 : p3.frozen? ⟨w1.heap.size, 4, none⟩ = false := bk_free hX3 4
      have hs2 : p2.heap.size = p2.heap.size := rfl
      clear hX2 hX2' hX3 hA3 hX4 hA4 hN2 hV2 hV3 hV4 hN4 hE4 hown1 hown2 hN5 ht2 ht3 ht4 ht5 hlt1 hwr HN HV HX HT HS0
      have hVA : (Value.string (strU a.name)).cells = [Value.string (strU a.name)].toArray := rfl
      have hVE : (Value.agg (eA a.value.a (.slice ao no co))).cells = (eL a.value.a (.slice ao no co)).toArray := rfl
      go_wp2_with (first
        | (rw [← HW2.out])
        | (rw [← HW4.out])
        | (refine wpList_load_mid rfl 155 _ rfl ga (k * 10) rfl _ _ HRG.out Tryz.underlying155 rfl (by kernel_rfl) ?_)
        | (refine wpList_load_mid rfl 36 _ rfl wr.heap.size 1 rfl _ _ HR4.out Tryz.underlying36 rfl (by kernel_rfl) ?_)
        | (refine wpList_one_slice strE Tryz.underlying25 Tryz.infoLStr rfl (by decide) hVA rfl rfl _ rfl rfl ?_)
        | (refine wpList_one_slice exE Tryz.underlying34 Tryz.infoLEx rfl (by decide) hVE rfl rfl _ rfl rfl ?_)
        | (at_builtin; refine wpList_append_run0 rfl _ _ _ rfl _ _ _ p3 rfl rfl hrun1 ?_)
        | (at_builtin; refine wpList_append_run0 rfl _ _ _ rfl _ _ _ p5 rfl rfl hrun2 ?_))
      go_roundw
      case rel => exact ⟨k + 1, dn ++ [a], rs, an', av', cn', cv', _, _, rfl, rfl, Lib.hid ⟨by rw [HK.out.1]; simp, by rw [HK.out.2]; simp⟩, HT5, HX5, Lib.hid (by rw [List.map_append]; exact HN5.out), Lib.hid (by rw [List.map_append]; exact HV5.out)⟩
      case measure => simp only [RowKit.intOf]; omega

theorem update_tr (N B n : Nat) (hn : n ≤ 900000) (self : St → Ex × St) (hself : ReadsX N B n 35 self) (hle : Le self) (t : St) (w : World) (h : RdAt N w B t) (ht : t.rest.length ≤ n) :
    Calls Tryz.prog 57 #[.pointer (some ⟨B, 0, none⟩)] w (GivesS N B (updateP self t) w) := by
  unfold updateP
  dsimp only
  exact update_way N B n hn self hself hle t w h ht _ _ _ _ _ _ (pairP _) (pairP _) (pairP _)
end
end Go.Proofs.YtenmnpbjnbdeaaaGreatDoor
