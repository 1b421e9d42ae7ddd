/-
  WHAT IS PROVED: an append onto a row of the call's own, and what becomes of a shorter slice of the same row.
-/
import Derived.Test.YtfdjeaieddcgdabGreatDoorBkBase
namespace Go.Proofs.YtfdjeaieddcgdabGreatDoor
open Go.RowKit
set_option linter.unusedVariables false

theorem run_append_keep {P : Program} (w : World) (base : Nat) (t ty e : TypeId) (i : TypeInfo) (z : Value) (size bytes : Nat) (ht : P.underlying t = some (.slice e)) (hi : P.info? e = some i) (hz : i.zero = some z)
    (hsize : i.size = size) (hby : i.bytes = bytes) (hzs : z.cells.size = size) (hsz : 0 < size)
    (v : Value) (n : Nat) (xs : List Value) (hown : w.ownsRow base e size v n xs)
    (a : Addr) (m c : Nat) (news : List Value) (hl : news.length = m * size) (hm0 : 0 < m) (hnews : ∀ j u, news[j]? = some u → w.cell? (a.add j) = some u) (h1 : ∀ u ∈ news, u.oneCell' = true)
    (h63 : n + m ≤ maxLen) (hbytes : (n + m) * bytes ≤ 140737488355328) (hbase : base ≤ w.heap.size) :
    ∃ v' w', (Builtin.append_ #[t, t] ty #[v, .slice (some a) m c]).run P w = .ok v' w' ∧ w'.ownsRow base e size v' (n + m) (xs ++ news) ∧
      ((∃ g cap, v = .slice (some ⟨g, 0, none⟩) n cap ∧ v' = .slice (some ⟨g, 0, none⟩) (n + m) cap ∧ w.grownBy w' (some g)) ∨ (v'.ownBlock = some w.heap.size ∧ w.grownBy w' none)) := by
  subst hsize
  subst hby
  have hsmall : n + m ≤ 9223372036854775807 := by simp only [maxLen] at h63; omega
  have hlen : (xs ++ news).length = (n + m) * i.size := by rw [List.length_append, hown.1, hl, Nat.add_mul]
  have grown : ∀ (old : Nat), old < n + m → ∀ (row : Option Nat),
      (w.drew.alloc (.cells (xs.toArray ++ news.toArray ++ Builtin.zeroCells z.cells (grownCap w (n + m) old e - (n + m))) e)).ownsRow base e i.size
        (.slice (some ⟨w.heap.size, 0, none⟩) (n + m) (grownCap w (n + m) old e)) (n + m) (xs ++ news) ∧
      w.grownBy (w.drew.alloc (.cells (xs.toArray ++ news.toArray ++ Builtin.zeroCells z.cells (grownCap w (n + m) old e - (n + m))) e)) row := by
    intro old ho row
    have hge := grownCap_ge w (n + m) old e
    have hcm : grownCap w (n + m) old e ≤ maxLen := grownCap_le_maxLen w (n + m) old e h63
    refine ⟨⟨hlen, .inr ⟨w.heap.size, _, _, rfl, hbase, Go.heap_alloc_new w.drew _, hge, hcm, ?_, ?_⟩⟩, ⟨rfl, rfl, rfl, by simp, fun k hk _ => Go.heap_alloc_old w.drew _ hk⟩⟩
    · simp only [Array.size_append, List.size_toArray, size_zeroCells, hzs, hown.1, hl, ← Nat.add_mul]
      congr 1
      omega
    · simp only [Array.toList_append, List.append_assoc]
      rw [← List.append_assoc, ← hlen]
      exact List.take_left
  rcases hown.2 with ⟨rfl, rfl⟩ | ⟨g, cap, cur, rfl, hbg, hg, hnc, hcm, hcs, htake⟩
  · have hx : xs = [] := List.eq_nil_of_length_eq_zero (by simpa using hown.1)
    subst hx
    have hr := run_append_nil (P := P) w t ty e i z ht hi hz a m c news hl hnews (by omega) (by omega) (by have hb := hbytes; simp only [Nat.zero_add] at hb; omega)
    have hgr := grown 0 (by omega) none
    simp only [Nat.zero_add, List.nil_append, Array.empty_append] at hgr ⊢
    exact ⟨_, _, hr, hgr.1, .inr ⟨rfl, hgr.2⟩⟩
  · by_cases hroom : n + m ≤ cap
    · have hfit : n * i.size + news.length ≤ cur.size := by rw [hl, hcs, ← Nat.add_mul]; exact Nat.mul_le_mul_right _ hroom
      have hr := run_append_room (P := P) w t ty e i ht hi g n cap cur hg a m c news hl hnews h1 hroom hfit
      refine ⟨_, _, hr, ⟨hlen, .inr ⟨g, cap, _, rfl, hbg, setRow_heap w g cur _ e _ hg, hroom, hcm, ?_, ?_⟩⟩, .inl ⟨g, cap, rfl, rfl, ⟨rfl, rfl, rfl, by simp, fun k _ hk => setRow_other w g k _ (fun e => hk (by rw [e]))⟩⟩⟩
      · simp only [List.size_toArray, List.length_append, List.length_take, List.length_drop, Array.length_toList]
        omega
      · rw [htake, ← hlen]
        exact List.take_left
    · have holds : ∀ j u, xs[j]? = some u → w.cell? ((⟨g, 0, none⟩ : Addr).add j) = some u := hown.cells (g := g) rfl
      have hr := run_append_grow (P := P) w t ty e i z ht hi hz ⟨g, 0, none⟩ n cap xs hown.1 holds a m c news hl hnews (by omega) (by omega) (growslice_fits (by omega) hbytes)
      have hgr := grown cap (by omega) none
      exact ⟨_, _, hr, hgr.1, .inr ⟨rfl, hgr.2⟩⟩

/-- a shorter slice of a row reads its beginning -/
theorem own_prefix {w w' : World} {base e size g n N M c0 cap : Nat} {xs ys zs : List Value} (h0 : w.ownsRow base e size (.slice (some ⟨g, 0, none⟩) n c0) n xs) (hsz : 0 < size)
    (h1 : w.ownsRow base e size (.slice (some ⟨g, 0, none⟩) N cap) N ys) (h2 : w'.ownsRow base e size (.slice (some ⟨g, 0, none⟩) M cap) M zs) (hM : n ≤ M) (hz : zs.take (n * size) = xs) :
    w'.ownsRow base e size (.slice (some ⟨g, 0, none⟩) n c0) n xs := by
  refine ⟨h0.1, ?_⟩
  rcases h0.2 with ⟨h, _⟩ | ⟨g0, k0, cur, e0, b0, a0, n0, m0, s0, t0⟩
  · cases h
  rcases h1.2 with ⟨h, _⟩ | ⟨g1, k1, cur1, e1, b1, a1, n1, m1, s1, t1⟩
  · cases h
  rcases h2.2 with ⟨h, _⟩ | ⟨g2, k2, cur2, e2, b2, a2, n2, m2, s2, t2⟩
  · cases h
  cases e0
  cases e1
  cases e2
  rw [a0] at a1
  cases a1
  have hc : c0 = cap := Nat.eq_of_mul_eq_mul_right hsz (s0.symm.trans s1)
  subst hc
  refine .inr ⟨g, c0, cur2, rfl, b0, a2, n0, m0, s2, ?_⟩
  rw [← hz, ← t2, List.take_take, Nat.min_eq_left (Nat.mul_le_mul_right _ hM)]

/-- a list that is put behind itself, one by one: long has so many marks more, the list is as it was -/
structure GrowJ (base e size : Nat) (w0 w2 : World) (v lv : Value) (n N : Nat) (xs ys : List Value) : Prop where
  long : w2.ownsRow base e size lv N ys
  own : w2.ownsRow base e size v n xs
  pre : n ≤ N ∧ ys.take (n * size) = xs
  at_ : ∀ b, lv.ownBlock = some b → v.ownBlock = some b ∨ w0.heap.size ≤ b
  turn : Turn (fun k => v.ownBlock = some k) w0 w2
theorem GrowJ.alloc {base e size : Nat} {w0 w2 : World} {v lv : Value} {n N : Nat} {xs ys : List Value} (h : GrowJ base e size w0 w2 v lv n N xs ys) (o : Obj) : GrowJ base e size w0 (w2.alloc o) v lv n N xs ys :=
  ⟨h.long.alloc o, h.own.alloc o, h.pre, h.at_, h.turn.trans (Turn.alloc _ _ _)⟩
theorem GrowJ.next {P : Program} {base e size bytes : Nat} {w0 w2 : World} {v lv : Value} {n N : Nat} {xs ys : List Value} (h : GrowJ base e size w0 w2 v lv n N xs ys) (t ty : TypeId) (i : TypeInfo) (z : Value) (ht : P.underlying t = some (.slice e)) (hi : P.info? e = some i) (hz : i.zero = some z)
    (hsize : i.size = size) (hby : i.bytes = bytes) (hzs : z.cells.size = size) (hsz : 0 < size) (a : Addr) (c : Nat) (news : List Value) (hl : news.length = size) (hnews : ∀ j u, news[j]? = some u → w2.cell? (a.add j) = some u) (h1 : ∀ u ∈ news, u.oneCell' = true)
    (h63 : N + 1 ≤ maxLen) (hbytes : (N + 1) * bytes ≤ 140737488355328) (hbase : base ≤ w2.heap.size) :
    ∃ v' w', (Builtin.append_ #[t, t] ty #[lv, .slice (some a) 1 c]).run P w2 = .ok v' w' ∧ GrowJ base e size w0 w' v v' n (N + 1) xs (ys ++ news) ∧ Turn (fun k => lv.ownBlock = some k) w2 w' := by
  obtain ⟨v', w', hr, ho, hc⟩ := run_append_keep w2 base t ty e i z size bytes ht hi hz hsize hby hzs hsz lv N ys h.long a 1 c news (by omega) (by omega) hnews h1 h63 hbytes hbase
  have hyl := h.long.1
  have hpre : (ys ++ news).take (n * size) = xs := by
    rw [List.take_append_of_le_length (by rw [hyl]; exact Nat.mul_le_mul_right _ h.pre.1)]; exact h.pre.2
  rcases hc with ⟨g, cap, rfl, rfl, hg⟩ | ⟨hb, hg⟩
  · have htu : Turn (fun k => (Value.slice (some ⟨g, 0, none⟩) N cap).ownBlock = some k) w2 w' := Turn.grown hg
    refine ⟨_, w', hr, ⟨ho, ?_, ⟨by have := h.pre.1; omega, hpre⟩, h.at_, h.turn.next htu (fun k hk hk2 => ?_)⟩, htu⟩
    · by_cases hv : v.ownBlock = some g
      · rcases own_form h.own with ⟨rfl, _⟩ | ⟨g', c0, rfl, _, _, _, hb⟩
        · cases hv
        · rw [hb] at hv
          cases hv
          exact own_prefix h.own hsz h.long ho (by have := h.pre.1; omega) hpre
      · exact htu.own h.own (fun k hk hk2 => by cases hk2; exact hv hk)
    · rcases h.at_ k hk2 with h3 | h3
      · exact h3
      · omega
  · have htu : Turn (fun k => lv.ownBlock = some k) w2 w' := (Turn.grown hg).mono (fun k _ hk => by cases hk)
    refine ⟨v', w', hr, ⟨ho, (Turn.grown hg).own h.own (fun k hk hk2 => by cases hk2), ⟨by have := h.pre.1; omega, hpre⟩, fun b hb2 => ?_, h.turn.next (Turn.grown hg) (fun k _ hk => by cases hk)⟩, htu⟩
    rw [hb] at hb2
    cases hb2
    exact .inr h.turn.size

theorem wpList_append_runB {P : Program} (w : World) {ops : Array Oper} {rest : List Oper} {o : Oper} {a : Act} {Q : Exit → Act → World → Prop}
    (hw : Region.wanted o (yielded ops a.tmps) = true) (s x : Operand) (t : TypeId) (hop : o.op = Op.call { callee := Callee.builtin Builtin.append, args := #[s, x], argTypes := #[t, t] })
    (v u v' : Value) (w' : World) (hs : a.eval s = v) (hx : a.eval x = u) (hrun : (Builtin.append_ #[t, t] o.type #[v, u]).run P w = .ok v' w')
    (hK : wpList P ops Q rest (a.put o.dst v') w') : wpList P ops Q (o :: rest) a w := by
  refine wpList_step fun K hK' => ?_
  rw [if_pos hw]
  have := hK' _ _ hK
  unfold Oper.wp execOp
  simp only [hop, resolve, invoke, builtin, Sem.run_bind, Sem.run_pure, Result.andThen_ok, List.map_toArray, List.map_cons, List.map_nil, hs, hx, hrun]
  exact this

/-- one cell of a row turned -/
theorem own_setN {w : World} {base e size n g cap : Nat} {xs : List Value} (h : w.ownsRow base e size (.slice (some ⟨g, 0, none⟩) n cap) n xs) (k : Nat) (hk : k < n * size) (u : Value) :
    (w.setCell ⟨g, k, none⟩ u).ownsRow base e size (.slice (some ⟨g, 0, none⟩) n cap) n (xs.set k u) := by
  rcases h.2 with ⟨h0, _⟩ | ⟨g', cap', cur, h0, h1, h2, h3, h4, h5, h6⟩
  · cases h0
  · cases h0
    have hle : n * size ≤ cur.size := by rw [h5]; exact Nat.mul_le_mul_right _ h3
    refine ⟨by rw [List.length_set]; exact h.1, .inr ⟨g, cap, _, rfl, h1, bk_set u h2, h3, h4, by rw [Array.size_modify]; exact h5, ?_⟩⟩
    rw [← h6]
    apply List.ext_getElem?
    intro j
    simp only [List.getElem?_take, List.getElem?_set, Array.getElem?_toList, Array.getElem?_modify, List.length_take, Array.length_toList]
    by_cases hj : j < n * size
    · rw [if_pos hj]
      by_cases hkj : k = j
      · subst hkj
        have h7 : k < cur.size := by omega
        have h8 : k < min (n * size) cur.size := by omega
        simp [h7, h8]
      · simp [hkj, hj]
    · rw [if_neg hj, if_neg (by omega)]
      simp [hj]
theorem cellsE_set : ∀ (E : List Ent) (i : Nat) (x : Ent) (l : Value), E[i]? = some x → cellsE (E.set i ⟨x.v, l, x.n, x.k⟩) = (cellsE E).set (i * 3 + 1) l
  | [], i, x, l, h => by simp at h
  | y :: E, 0, x, l, h => by cases h; rfl
  | y :: E, i + 1, x, l, h => by
    have ih := cellsE_set E i x l (by simpa using h)
    show y.cells ++ cellsE (E.set i _) = (y.cells ++ cellsE E).set ((i + 1) * 3 + 1) l
    rw [ih, List.set_append_right _ _ (by simp [Ent.cells]; omega)]
    congr 2
    simp [Ent.cells]; omega

theorem GrowJ.back {base e size : Nat} {wr wx w2 : World} {v lv : Value} {n N : Nat} {xs ys : List Value} (h : GrowJ base e size wx w2 v lv n N xs ys) (ht : Turn (fun k => v.ownBlock = some k) wr wx) : GrowJ base e size wr w2 v lv n N xs ys :=
  ⟨h.long, h.own, h.pre, fun b hb => (h.at_ b hb).imp id (fun h1 => Nat.le_trans ht.size h1), ht.trans h.turn⟩
/-- where an entry's cells lie, in a row that is so many entries long -/
theorem entry_at {w : World} {base T g c n : Nat} {E : List Ent} (h : w.ownsRow base T 3 (.slice (some ⟨g, 0, none⟩) n c) n (cellsE E)) (hn : E.length = n) {i : Nat} {x : Ent} (hx : E[i]? = some x) :
    w.cell? ⟨g, i * 3, none⟩ = some x.v ∧ w.cell? ⟨g, i * 3 + 1, none⟩ = some x.long ∧ w.cell? ⟨g, i * 3 + 2, none⟩ = some (.int .i64 (x.k : Int)) ∧ g < w.heap.size ∧ w.frozen? ⟨g, i * 3 + 1, none⟩ = false := by
  subst hn
  obtain ⟨g1, c1, h0, _, h1, h2, h3, h4, h5⟩ := entry_lies h hx
  cases h0
  exact ⟨h1, h2, h3, h4, h5⟩

def GrowI (base T e sz : Nat) (mk : Ent → Nat → List Value) (hv : Value) (E : List Ent) (w wr : World) (i : Nat) : Prop :=
  Turn (fun k => blocksE E k ∨ hv.ownBlock = some k) w wr ∧ ∃ E', E'.length = E.length ∧ wr.ownsRow base T 3 hv E.length (cellsE E') ∧ ∀ (j : Nat) (x : Ent), E[j]? = some x → ∃ l, E'[j]? = some ⟨x.v, l, x.n, x.k⟩ ∧ (∃ ao n c, l = .slice ao n c) ∧
    wr.ownsRow base e sz x.v x.n (mk x x.n) ∧ (j < i → wr.ownsRow base e sz l (x.n + 40) (mk x (x.n + 40)) ∧ ∀ b, l.ownBlock = some b → x.v.ownBlock = some b ∨ w.heap.size ≤ b)
theorem grow_start {base B T e sz : Nat} {hv : Value} {E : List Ent} {w : World} (H : Held w base B hv T e sz E) (mk : Ent → Nat → List Value) (M : ∀ x ∈ E, w.ownsRow base e sz x.v x.n (mk x x.n)) : GrowI base T e sz mk hv E w w 0 :=
  ⟨Turn.refl _ _, E, rfl, H.own, fun j x hx => ⟨x.long, hx, H.longs x (List.mem_of_getElem? hx), M x (List.mem_of_getElem? hx), fun h => by omega⟩⟩
theorem grow_next {base B T e sz g0 c0 : Nat} {E : List Ent} {w wr w2 : World} {mk : Ent → Nat → List Value} (H : Held w base B (.slice (some ⟨g0, 0, none⟩) E.length c0) T e sz E) {i : Nat} (h : GrowI base T e sz mk (.slice (some ⟨g0, 0, none⟩) E.length c0) E w wr i) {x : Ent} (hx : E[i]? = some x) {lv : Value}
    (hj : GrowJ base e sz wr w2 x.v lv x.n (x.n + 40) (mk x x.n) (mk x (x.n + 40))) : GrowI base T e sz mk (.slice (some ⟨g0, 0, none⟩) E.length c0) E w (w2.setCell ⟨g0, i * 3 + 1, none⟩ lv) (i + 1) := by
  obtain ⟨ht, E', hlen, ho, hr⟩ := h
  have hil : i < E.length := (List.getElem?_eq_some_iff.1 hx).1
  have hg0 : g0 < w.heap.size := (H.own.lt g0 rfl).2
  have hsep : ∀ y ∈ E, ∀ k, y.v.ownBlock = some k → k ≠ g0 := fun y hy k hk e => (H.sep y hy k hk).2 (by rw [e]; rfl)
  have hlt : ∀ y ∈ E, ∀ k, y.v.ownBlock = some k → k < w.heap.size := fun y hy k hk => by obtain ⟨xs, hxs⟩ := H.rows y hy; exact (hxs.lt k hk).2
  have hxm := List.mem_of_getElem? hx
  have t3 : Turn (fun k => k = g0) w2 (w2.setCell ⟨g0, i * 3 + 1, none⟩ lv) := Turn.setCell _ _ _ _ rfl
  obtain ⟨l0, hl0, _, _, _⟩ := hr i x hx
  have own2 : w2.ownsRow base T 3 (.slice (some ⟨g0, 0, none⟩) E.length c0) E.length (cellsE E') := hj.turn.own ho (fun k hk hk2 => by cases hk; exact hsep x hxm g0 hk2 rfl)
  refine ⟨(ht.next hj.turn (fun k _ hk => .inl ⟨x, hxm, hk⟩)).next t3 (fun k _ hk => .inr (by rw [hk]; rfl)), E'.set i ⟨x.v, lv, x.n, x.k⟩, by rw [List.length_set]; exact hlen, ?_, fun j y hy => ?_⟩
  · have h1 := cellsE_set E' i _ lv hl0
    dsimp only at h1
    rw [h1]
    exact own_setN own2 _ (by omega) lv
  · have hym := List.mem_of_getElem? hy
    by_cases hij : i = j
    · subst hij
      rw [hx] at hy
      cases hy
      have hlb : ∀ b, lv.ownBlock = some b → x.v.ownBlock = some b ∨ w.heap.size ≤ b := fun b hb => by
        rcases hj.at_ b hb with h1 | h1
        · exact .inl h1
        · exact .inr (Nat.le_trans ht.size h1)
      refine ⟨lv, by rw [List.getElem?_set_self (by omega)], ?_, t3.own hj.own (fun k hk => hsep x hxm k hk), fun _ => ⟨t3.own hj.long (fun k hk hk2 => ?_), hlb⟩⟩
      · obtain ⟨ao, cap, h1⟩ := own_slice3 hj.long
        exact ⟨_, _, _, h1⟩
      · rcases hlb k hk with h1 | h1
        · exact hsep x hxm k h1 hk2
        · omega
    · obtain ⟨l, h1, h2, h3, h4⟩ := hr j y hy
      have hne : ∀ k, y.v.ownBlock = some k → ¬ (x.v.ownBlock = some k) := fun k hk hk2 => H.apart i j x y hx hy hij k hk2 hk
      refine ⟨l, by rw [List.getElem?_set_ne hij]; exact h1, h2, t3.own (hj.turn.own h3 hne) (fun k hk => hsep y hym k hk), fun hji => ?_⟩
      obtain ⟨h5, h6⟩ := h4 (by omega)
      refine ⟨t3.own (hj.turn.own h5 (fun k hk hk2 => ?_)) (fun k hk hk2 => ?_), h6⟩
      · rcases h6 k hk with h7 | h7
        · exact hne k h7 hk2
        · have := hlt x hxm k hk2; omega
      · rcases h6 k hk with h7 | h7
        · exact hsep y hym k h7 hk2
        · omega
end Go.Proofs.YtfdjeaieddcgdabGreatDoor
