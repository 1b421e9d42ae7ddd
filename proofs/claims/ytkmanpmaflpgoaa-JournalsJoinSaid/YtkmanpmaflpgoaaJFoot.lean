/-
  WHAT IS PROVED: a disk of the call's own and journals beside it, with the blocks that they take up; rows of records that the call itself puts together.
-/
import Derived.Test.YtkmanpmaflpgoaaJMany
import Derived.Deep.RegionHeld3
namespace Go.Proofs.Ytkmanpmaflpgoaa
open Go.RowKit Go.Lib

/-- as HasX, and S are the blocks -/
def HasS (w0 w : World) (d : Nat) (M : DiskM) (X : List (Nat × Obj)) (S : Nat → Prop) : Prop :=
  ∃ L : LayD, L.d = d ∧ Held w L M X ∧ S = ownX L X ∧ (∀ k, S k → w0.heap.size ≤ k) ∧ Below w0.heap.size w0 w

theorem HasS.x {w0 w : World} {d : Nat} {M : DiskM} {X : List (Nat × Obj)} {S : Nat → Prop} (h : HasS w0 w d M X S) : HasX w0 w d M X := by
  obtain ⟨L, h1, h2, rfl, h3, h4⟩ := h
  exact ⟨L, h1, h2, h3, h4⟩
theorem HasX.s {w0 w : World} {d : Nat} {M : DiskM} {X : List (Nat × Obj)} (h : HasX w0 w d M X) : ∃ S, HasS w0 w d M X S := by
  obtain ⟨L, h1, h2, h3, h4⟩ := h
  exact ⟨_, L, h1, h2, rfl, h3, h4⟩
theorem HasS.below {w0 w : World} {d : Nat} {M : DiskM} {X : List (Nat × Obj)} {S : Nat → Prop} (h : HasS w0 w d M X S) : Below w0.heap.size w0 w := h.x.below
theorem HasS.lt {w0 w : World} {d : Nat} {M : DiskM} {X : List (Nat × Obj)} {S : Nat → Prop} (h : HasS w0 w d M X S) : ∀ k, S k → k < w.heap.size := by
  obtain ⟨L, h1, h2, rfl, h3, h4⟩ := h
  exact h2.lt
theorem HasS.from {w0 w : World} {d : Nat} {M : DiskM} {X : List (Nat × Obj)} {S : Nat → Prop} (h : HasS w0 w d M X S) : ∀ k, S k → w0.heap.size ≤ k := by
  obtain ⟨L, h1, h2, _, h3, h4⟩ := h
  exact h3
theorem HasS.same {w0 w w' : World} {d : Nat} {M : DiskM} {X : List (Nat × Obj)} {S : Nat → Prop} (h : HasS w0 w d M X S) (hk : ∀ k, S k → w'.heap[k]? = w.heap[k]?) (hb : Below w0.heap.size w0 w') : HasS w0 w' d M X S := by
  obtain ⟨L, h1, h2, rfl, h3, h4⟩ := h
  exact ⟨L, h1, h2.same hk, rfl, h3, hb⟩
theorem HasS.kept {w0 w w' : World} {d : Nat} {M : DiskM} {X : List (Nat × Obj)} {S : Nat → Prop} (h : HasS w0 w d M X S) (hb : Below w.heap.size w w') : HasS w0 w' d M X S :=
  h.same (fun k hk => hb.block k (h.lt k hk)) (below_next h.below hb)
theorem HasS.alloc {w0 w : World} {d : Nat} {M : DiskM} {X : List (Nat × Obj)} {S : Nat → Prop} (h : HasS w0 w d M X S) (o : Obj) : HasS w0 (w.alloc o) d M X S := h.kept (below_alloc w o)
theorem HasS.drew {w0 w : World} {d : Nat} {M : DiskM} {X : List (Nat × Obj)} {S : Nat → Prop} (h : HasS w0 w d M X S) : HasS w0 w.drew d M X S := h.kept (Below.refl _ _).drew

/-- a call that tells an error, and what it leaves -/
def DoesS (w0 w : World) (d : Nat) (M : DiskM) (X : List (Nat × Obj)) (S : Nat → Prop) (k : Int) (e : Ending) (w' : World) : Prop := e = .returned (.int .i64 k) ∧ ∃ S', HasS w0 w' d M X S' ∧ MovesX S w S' w'

theorem HasS.of {w0 w w' : World} {L L' : LayD} {M' : DiskM} {X X' : List (Nat × Obj)} (hd : L'.d = L.d) (h : Held w' L' M' X') (hm : MovesX (ownX L X) w (ownX L' X') w') (ho : ∀ k, ownX L X k → w0.heap.size ≤ k) (hb : Below w0.heap.size w0 w) : HasS w0 w' L.d M' X' (ownX L' X') :=
  ⟨L', hd, h, rfl, hm.from hb.size ho, hb.trans (hm.below hb.size ho)⟩

section
variable {w0 w : World} {d : Nat} {M M' : DiskM} {k : Int} {X : List (Nat × Obj)} {S : Nat → Prop}

theorem doesS_of {P : Program} {L : LayD} {M'' : DiskM} {n : Nat} {f : FuncId} {args : Array Value} (hh : Held w L M X) (hc : Calls P f args w (Turns L M' n w)) (ho : ∀ k, ownX L X k → w0.heap.size ≤ k) (hb : Below w0.heap.size w0 w)
    (hk : (n : Int) = k) (hM : M' = M'') : Calls P f args w (DoesS w0 w L.d M'' X (ownX L X) k) :=
  hc.mono fun _ _ ⟨he, _, m, h⟩ => ⟨by rw [he, hk], _, by subst hM; exact HasS.of m.d (hh.moves m h).1 (hh.moves m h).2 ho hb, (hh.moves m h).2⟩

theorem add_s {j stop stop' : Nat} {nm : ByteArray} (h : HasS w0 w d M ((j, jObj d nm stop) :: X) S) (hs : nm.size ≤ 4294967296) (ao : Option Addr) (n cap : Nat) (r : List Nat) (hr : Row8 w ao n cap r)
    (hk : (M.addE nm stop r : Int) = k) (hM : M.addM nm stop r = M') (hS : M.addS nm stop r = stop') :
    Calls Try.prog 10 #[.pointer (some ⟨j, 0, none⟩), .slice ao n cap] w (DoesS w0 w d M' ((j, jObj d nm stop') :: X) S k) := by
  obtain ⟨L, rfl, h2, rfl, h3, h4⟩ := h
  refine (add_any L M nm j stop ao n cap r X w h2 hs hr).mono ?_
  rintro e w' ⟨he, L', hd, hh, hm⟩
  subst hM hS hk
  exact ⟨he, _, HasS.of hd hh hm h3 h4, hm⟩
theorem names_s (h : HasS w0 w d M X S) (hM : M.namesM = M') : Calls Try.prog 16 #[.pointer (some ⟨d, 0, none⟩)] w (DoesS w0 w d M' X S 0) := by
  obtain ⟨L, rfl, h2, rfl, h3, h4⟩ := h
  exact doesS_of h2 (names_any L M w h2.disk) h3 h4 rfl hM
theorem sync_s (h : HasS w0 w d M X S) (nm : ByteArray) (hs : nm.size ≤ 4294967296) (hk : (M.miss nm : Int) = k) (hM : M.syncM nm = M') : Calls Try.prog 30 #[.pointer (some ⟨d, 0, none⟩), .string nm] w (DoesS w0 w d M' X S k) := by
  obtain ⟨L, rfl, h2, rfl, h3, h4⟩ := h
  exact doesS_of h2 (sync_any L M nm w h2.disk hs) h3 h4 hk hM
end

/-- what lies outside those blocks is as it was -/
theorem Row8.moved {w w' : World} {S S' : Nat → Prop} {ao : Option Addr} {n cap : Nat} {l : List Nat} (h : Row8 w ao n cap l) (hm : MovesX S w S' w') (hs : ∀ a, ao = some a → ¬ S a.block) : Row8 w' ao n cap l :=
  h.same fun a ha hn => hm.block a.block (h.lt a ha hn) (hs a ha)
theorem own_moved {w w' : World} {S S' : Nat → Prop} {base e n : Nat} {v : Value} {xs : List Value} (h : w.ownsRow base e 1 v n xs) (hm : MovesX S w S' w') (hs : ∀ g, v.ownBlock = some g → ¬ S g) : w'.ownsRow base e 1 v n xs :=
  ownsRow_same h fun k hk => hm.block k (h.lt k hk).2 (hs k hk)
theorem out_moved {w w' : World} {S S' : Nat → Prop} {g : Nat} (hm : MovesX S w S' w') (hg : g < w.heap.size) (hs : ¬ S g) : ¬ S' g := fun h => by
  rcases hm.news g h with h | h
  · exact hs h
  · omega

/-- records put together by the call itself, out of ones that came in (as they read in w0) -/
structure Put (w0 w : World) (S : Nat → Prop) (v : Value) (vs : List Value) (rs : List (List Nat)) : Prop where
  own : w.ownsRow w0.heap.size 22 1 v vs.length vs
  out : ∀ g, v.ownBlock = some g → ¬ S g
  len : vs.length = rs.length
  each : ∀ (i : Nat) (x : Value) (r : List Nat), vs[i]? = some x → rs[i]? = some r → ∃ ao cap, x = .slice ao r.length cap ∧ Row8 w0 ao r.length cap r

theorem put_nil (w0 w : World) (S : Nat → Prop) : Put w0 w S (.slice none 0 0) [] [] := ⟨World.ownsRow_nil _ _ _ _, fun g hg => by simp [Value.ownBlock] at hg, rfl, fun i x r hx => by simp at hx⟩
theorem Put.moved {w0 w w' : World} {S S' : Nat → Prop} {v : Value} {vs : List Value} {rs : List (List Nat)} (h : Put w0 w S v vs rs) (hm : MovesX S w S' w') : Put w0 w' S' v vs rs :=
  ⟨own_moved h.own hm h.out, fun g hg => out_moved hm (h.own.lt g hg).2 (h.out g hg), h.len, h.each⟩
theorem Put.kept {w0 w w' : World} {S : Nat → Prop} {v : Value} {vs : List Value} {rs : List (List Nat)} (h : Put w0 w S v vs rs) (hb : Below w.heap.size w w') : Put w0 w' S v vs rs :=
  ⟨ownsRow_same h.own fun k hk => hb.block k (h.own.lt k hk).2, h.out, h.len, h.each⟩
theorem Put.row {w0 w : World} {S : Nat → Prop} {v : Value} {vs : List Value} {rs : List (List Nat)} (h : Put w0 w S v vs rs) (hb : Below w0.heap.size w0 w) : ∃ ao cap, v = .slice ao rs.length cap ∧ RowR w ao rs.length cap rs := by
  have h1 := h.own
  rw [h.len] at h1
  rcases h1.2 with ⟨rfl, hn⟩ | ⟨g, cap, cur, rfl, hg, hh, hc, hm, hs, ht⟩
  · refine ⟨none, 0, by rw [hn], ⟨rfl, by omega, by omega, fun _ => rfl, fun a ha => by simp at ha⟩⟩
  · refine ⟨_, cap, rfl, ⟨rfl, hc, hm, fun h => by simp at h, fun a ha j r hr => ?_⟩⟩
    obtain rfl := Option.some.inj ha
    have hj := (List.getElem?_eq_some_iff.1 hr).1
    have hx : vs[j]? = some (vs[j]'(by have := h.len; omega)) := by simp
    obtain ⟨aj, cj, e1, e2⟩ := h.each j _ r hx hr
    have hcell := h1.cells (g := g) rfl j _ hx
    rw [e1] at hcell
    exact ⟨aj, cj, hcell, e2.kept hb⟩

/-- one record behind an own row of them, and where the row then lies -/
theorem run_append_rec (w : World) (ty : TypeId) (base : Nat) (v : Value) (k : Nat) (xs : List Value) (hown : w.ownsRow base 22 1 v k xs)
    (ad : Addr) (cap : Nat) (x : Value) (hx : x.oneCell' = true) (hr : ∀ j u, [x][j]? = some u → w.cell? (ad.add j) = some u) (hb : base ≤ w.heap.size) (hk : k + 1 ≤ 1099511627776) (hsz : ∀ g, v.ownBlock = some g → g < w.heap.size) :
    ∃ v' w', (Builtin.append_ #[33, 33] ty #[v, .slice (some ad) 1 cap]).run Try.prog w = .ok v' w' ∧ w'.ownsRow base 22 1 v' (k + 1) (xs ++ [x]) ∧ w.grownBy w' v.ownBlock ∧ (v'.ownBlock = v.ownBlock ∨ ∃ b, v'.ownBlock = some b ∧ w.heap.size ≤ b) := by
  obtain ⟨i0, hi, hz0, hz1, hz2⟩ := info_parts Try.info22
  have hnl2 : ([x] : List Value).length = 1 * i0.size := by rw [hz1]; rfl
  have hone : ∀ y ∈ [x], y.oneCell' = true := by intro y hy; simp at hy; subst hy; exact hx
  obtain ⟨v', w', hrun, h2, h3, h4⟩ := run_append_own (P := Try.prog) w base 33 ty 22 i0 (.slice none 0 0) 1 24 Try.underlying33 hi hz0 hz1 hz2 rfl (by decide) v k xs hown ad 1 cap [x] rfl hr hone (by unfold maxLen; omega) (by omega) hb
  refine ⟨v', w', hrun, h2, h3, ?_⟩
  rcases hown.2 with ⟨rfl, rfl⟩ | ⟨g, c, cur, rfl, _, hh, hnc, _, hcs, _⟩
  · have hr2 := run_append_nil (P := Try.prog) w 33 ty 22 i0 _ Try.underlying33 hi hz0 ad 1 cap [x] hnl2 hr (by omega) (by omega) (by rw [hz2]; omega)
    rw [hr2] at hrun
    simp only [Result.ok.injEq] at hrun
    rw [← hrun.1]
    exact .inr ⟨w.heap.size, rfl, Nat.le_refl _⟩
  · by_cases hroom : k + 1 ≤ c
    · have hrr := run_append_room (P := Try.prog) w 33 ty 22 i0 Try.underlying33 hi g k c cur hh ad 1 cap [x] hnl2 hr hone hroom (by rw [hz1, hcs]; simp; omega)
      rw [hrr] at hrun
      simp only [Result.ok.injEq] at hrun
      rw [← hrun.1]
      exact .inl rfl
    · have holds : ∀ j u, xs[j]? = some u → w.cell? ((⟨g, 0, none⟩ : Addr).add j) = some u := hown.cells (g := g) rfl
      have hgr := run_append_grow (P := Try.prog) w 33 ty 22 i0 _ Try.underlying33 hi hz0 ⟨g, 0, none⟩ k c xs (by rw [hown.1, hz1]) holds ad 1 cap [x] hnl2 hr (by omega) (by omega) (by rw [hz2]; exact growslice_fits (by omega) (by omega))
      rw [hgr] at hrun
      simp only [Result.ok.injEq] at hrun
      rw [← hrun.1]
      exact .inr ⟨w.heap.size, rfl, Nat.le_refl _⟩

/-- one more is put behind them -/
theorem wpList_put {w0 w : World} {S : Nat → Prop} {ops : Array Oper} {rest : List Oper} {o : Oper} {a : Act} {Q : Exit → Act → World → Prop} (hgd : o.guard = none) (s x : Operand)
    (ho : o.op = .call { callee := .builtin .append, args := #[s, x], argTypes := #[33, 33] })
    (v : Value) (vs : List Value) (rs : List (List Nat)) (ao : Option Addr) (cap : Nat) (r : List Nat) (hs : a.eval s = v) (W : World) (hW : w = W.alloc (.cells #[.slice ao r.length cap] 22)) (hx : a.eval x = .slice (some ⟨W.heap.size, 0, none⟩) 1 1)
    (hbe : Below w0.heap.size w0 W) (hSl : ∀ k, S k → k < W.heap.size) (hp : Put w0 W S v vs rs) (hr : Row8 w0 ao r.length cap r) (hl : rs.length ≤ 1073741824)
    (hQ : ∀ vo vc w', (∀ k, S k → w'.heap[k]? = W.heap[k]?) → Put w0 w' S (.slice vo (rs.length + 1) vc) (vs ++ [.slice ao r.length cap]) (rs ++ [r]) → Below w0.heap.size w0 w' → wpList Try.prog ops Q rest (a.put o.dst (.slice vo (rs.length + 1) vc)) w') : wpList Try.prog ops Q (o :: rest) a w := by
  subst hW
  have hlen := hp.len
  have h0 := hbe.size
  have hsa := World.size_alloc W (.cells #[.slice ao r.length cap] 22)
  have hov := ownsRow_same hp.own (w' := W.alloc (.cells #[.slice ao r.length cap] 22)) (fun k hk => Below.heap_alloc _ _ _ (hp.own.lt k hk).2)
  obtain ⟨v', w', hrun, h1, h2, h3⟩ := run_append_rec (W.alloc (.cells #[.slice ao r.length cap] 22)) o.type w0.heap.size v vs.length vs hov ⟨W.heap.size, 0, none⟩ 1 (.slice ao r.length cap) rfl (cell_one_new _ _ _) (by omega) (by omega) (fun g hg => (hov.lt g hg).2)
  obtain ⟨vo, vc, rfl⟩ := own_slice h1
  have hlen1 : vs.length + 1 = rs.length + 1 := by rw [hlen]
  refine wpList_append_run _ hgd s x 33 33 ho v _ hs hx _ w' hrun ?_
  rw [hlen1]
  refine hQ vo vc w' (fun k hk => ?_) ⟨?_, ?_, by simp [hlen], ?_⟩ ?_
  · have hk1 := hSl k hk
    rw [h2.block k (by omega) (fun e => hp.out k e.symm hk), Below.heap_alloc _ _ _ hk1]
  · rw [← hlen1]
    simpa using h1
  · intro g hg0 hS
    have hg : (Value.slice vo (vs.length + 1) vc).ownBlock = some g := by rw [hlen]; exact hg0
    rcases h3 with e | ⟨b, e, hb⟩
    · exact hp.out g (by rw [← e]; exact hg) hS
    · have e' := hg.symm.trans e
      obtain rfl := Option.some.inj e'
      have := hSl _ hS
      omega
  · intro i y q hy hq
    rcases Nat.lt_trichotomy i vs.length with hi | hi | hi
    · rw [List.getElem?_append_left hi] at hy
      rw [List.getElem?_append_left (by omega)] at hq
      exact hp.each i y q hy hq
    · subst hi
      rw [List.getElem?_append_right (by omega)] at hy
      rw [List.getElem?_append_right (by omega)] at hq
      simp [hlen] at hy hq
      subst hy hq
      exact ⟨ao, cap, rfl, hr⟩
    · have := (List.getElem?_eq_some_iff.1 hq).1
      simp at this; omega
  · exact (hbe.alloc (by omega) _).grown h2 (by omega) fun k hk => (hov.lt k hk).1
end Go.Proofs.Ytkmanpmaflpgoaa
