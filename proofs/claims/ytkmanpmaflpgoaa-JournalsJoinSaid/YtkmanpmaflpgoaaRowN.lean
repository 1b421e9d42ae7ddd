/-
  WHAT IS PROVED: copy into a row of elements of any number of cells; append where the two slices' types have two names; entries appended to entries.
-/
import Derived.Shelf.Spec.SlicesInsert
import Derived.Lib.AppendZerosOnto
import Derived.Test.YtkmanpmaflpgoaaDiskA
namespace Go.Proofs.Ytkmanpmaflpgoaa
open Go.RowKit Go.Lib

theorem copy_rowN {P : Program} (w : World) (dT sT ty elem : TypeId) (size g o dLen dCap : Nat) (a : Addr) (sLen sCap : Nat) (cur : Array Value) (t : TypeId) (cs : List Value)
    (hu : P.underlying dT = some (.slice elem)) (hs : (P.info? elem).map (·.size) = some size)
    (hg : w.heap[g]? = some (.cells cur t (0, 0))) (hn : cs.length = Nat.min sLen dLen * size)
    (hsrc : ∀ j v, cs[j]? = some v → w.cell? (a.add j) = some v) (hfit : o + cs.length ≤ cur.size) (h1 : ∀ v ∈ cs, v.oneCell' = true) :
    (Builtin.copy_ #[dT, sT] ty #[.slice (some ⟨g, o, none⟩) dLen dCap, .slice (some a) sLen sCap]).run P w =
      .ok (goInt (Nat.min sLen dLen)) (w.setRow g (cur.toList.take o ++ cs ++ cur.toList.drop (o + cs.length)).toArray) := by
  have hl := run_loadCells_list (P := P) w a cs hsrc
  have hst := run_storeCells_at P g o t cs 0 cur w hg (by simpa using hfit) h1
  cases hq : P.info? elem with
  | none => simp [hq] at hs
  | some i =>
    have hi : i.size = size := by simpa [hq] using hs
    simp [Builtin.copy_, run_underlying hu, Builtin.lenOf, Builtin.firstCells, sizeOf, typeInfo, hq, hi, ← hn, hl, hst]

theorem append_two {P : Program} (w : World) (t t' ty e e' : TypeId) (ht : P.underlying t = some (.slice e)) (ht' : P.underlying t' = some (.slice e')) (ao bo : Option Addr) (n c m d : Nat) :
    (Builtin.append_ #[t, t'] ty #[.slice ao n c, .slice bo m d]).run P w = (Builtin.append_ #[t, t] ty #[.slice ao n c, .slice bo m d]).run P w := by
  simp [Builtin.append_, run_underlying ht, run_underlying ht']

theorem Try.info70 : (Try.prog.info? 72).map (fun i => (i.zero, i.size, i.bytes)) = some (some (.agg #[.string ⟨#[]⟩, .pointer none]), 2, 24) := by kernel_rfl

/-- the run of an append of entries: the two types may be any names of a slice of entries -/
theorem run_append_ents {w : World} (t t' ty : TypeId) (ht : Try.prog.underlying t = some (.slice 72)) (ht' : Try.prog.underlying t' = some (.slice 72))
    (base : Nat) (v : Value) (k : Nat) (xs : List Value) (hown : w.ownsRow base 72 2 v k xs)
    (ao : Option Addr) (n cap : Nat) (news : List Value) (hl : news.length = n * 2) (hnil : ao = none → n = 0) (hnews : ∀ ad, ao = some ad → ∀ j u, news[j]? = some u → w.cell? (ad.add j) = some u)
    (h1 : ∀ u ∈ news, u.oneCell' = true) (hk : k + n ≤ 1000000) (hbase : base ≤ w.heap.size) :
    ∃ v' w', (Builtin.append_ #[t, t'] ty #[v, .slice ao n cap]).run Try.prog w = .ok v' w' ∧ w'.ownsRow base 72 2 v' (k + n) (xs ++ news) ∧ w.grownBy w' v.ownBlock ∧ (v'.ownBlock = v.ownBlock ∨ ∃ b, v'.ownBlock = some b ∧ w.heap.size ≤ b) := by
  obtain ⟨i0, hi, hz0, hz1, hz2⟩ := info_parts Try.info70
  have hv : ∃ bo m c, v = .slice bo m c := by
    rcases hown.2 with ⟨rfl, _⟩ | ⟨g, c, cur, rfl, _⟩
    · exact ⟨_, _, _, rfl⟩
    · exact ⟨_, _, _, rfl⟩
  obtain ⟨bo, mo, co, hv⟩ := hv
  rw [hv, append_two w t t' _ _ _ ht ht', ← hv]
  clear hv
  cases ao with
  | none =>
    obtain rfl := hnil rfl
    obtain rfl := List.eq_nil_of_length_eq_zero (by simpa using hl)
    refine ⟨v, w, ?_, by simpa using hown, World.grownBy.refl _ _, .inl rfl⟩
    rcases hown.2 with ⟨rfl, rfl⟩ | ⟨g, c, cur, rfl, _, _, hnc, _⟩
    · simp [Builtin.append_, run_underlying ht, sizeOf, typeInfo, hi, Builtin.lenOf, Builtin.firstCells]
    · simp [Builtin.append_, run_underlying ht, sizeOf, typeInfo, hi, Builtin.lenOf, Builtin.firstCells, hnc, storeCells]
  | some ad =>
    have hown' := hown
    obtain ⟨v', w', hr, h2, h3, h4⟩ := run_append_own (P := Try.prog) w base t ty 72 i0 (.agg #[.string ⟨#[]⟩, .pointer none]) 2 24 ht hi hz0 hz1 hz2 rfl (by decide) v k xs hown ad n cap news hl (hnews ad rfl) h1 (by unfold maxLen; omega) (by omega) hbase
    refine ⟨v', w', hr, h2, h3, ?_⟩
    -- where the new slice lies
    rcases h2.2 with ⟨rfl, hz⟩ | ⟨g', cap', cur', rfl, hg', hh', hr'⟩
    · have hk0 : k = 0 := by omega
      rcases hown.2 with ⟨rfl, _⟩ | ⟨g, c, cur, rfl, _⟩
      · exact .inl rfl
      · have := h4.1 rfl
        simp at this
    · rcases Nat.lt_or_ge g' w.heap.size with hlt | hge
      · left
        rcases hown.2 with ⟨rfl, rfl⟩ | ⟨g, c, cur, rfl, _, hh, hnc, _⟩
        · exfalso
          -- a nil slice: what is handed back is nil, or new
          have hne : n ≠ 0 := fun h0 => by have := h4.2 ⟨rfl, h0⟩; simp at this
          have hr2 := run_append_nil (P := Try.prog) w t ty 72 i0 _ ht hi hz0 ad n cap news (by rw [hl, hz1]) (hnews ad rfl) (by omega) (by omega) (by rw [hz2]; omega)
          rw [hr2] at hr
          simp only [Result.ok.injEq, Value.slice.injEq, Option.some.injEq, Addr.mk.injEq] at hr
          omega
        · by_cases hroom : k + n ≤ c
          · have hrr := run_append_room (P := Try.prog) w t ty 72 i0 ht hi g k c cur hh ad n cap news (by rw [hl, hz1]) (hnews ad rfl) h1 hroom (by
              rcases hown'.2 with ⟨h0, _⟩ | ⟨g0, c0, cur0, h0, _, hh0, _, _, hs0, _⟩
              · simp at h0
              · simp only [Value.slice.injEq, Option.some.injEq, Addr.mk.injEq, and_true, true_and] at h0
                obtain ⟨rfl, rfl⟩ := h0
                rw [hh] at hh0
                simp at hh0
                subst hh0
                rw [hz1, hl, hs0]; omega)
            rw [hrr] at hr
            simp only [Result.ok.injEq, Value.slice.injEq, Option.some.injEq, Addr.mk.injEq] at hr
            simp only [Value.ownBlock, hr]
          · exfalso
            have holds : ∀ j u, xs[j]? = some u → w.cell? ((⟨g, 0, none⟩ : Addr).add j) = some u := hown'.cells (g := g) rfl
            have hgr := run_append_grow (P := Try.prog) w t ty 72 i0 _ ht hi hz0 ⟨g, 0, none⟩ k c xs (by rw [hown'.1, hz1]) holds ad n cap news (by rw [hl, hz1]) (hnews ad rfl) (by omega) (by omega) (by rw [hz2]; exact growslice_fits (by omega) (by omega))
            rw [hgr] at hr
            simp only [Result.ok.injEq, Value.slice.injEq, Option.some.injEq, Addr.mk.injEq] at hr
            omega
      · exact .inr ⟨g', rfl, hge⟩

/-- entries appended to what is owned: the two types may be any names of a slice of entries -/
theorem wpList_append_ents {w : World} {ops : Array Oper} {rest : List Oper} {o : Oper} {a : Act} {Q : Exit → Act → World → Prop} (hgd : o.guard = none) (s x : Operand) (t t' : TypeId)
    (ho : o.op = .call { callee := .builtin .append, args := #[s, x], argTypes := #[t, t'] }) (ht : Try.prog.underlying t = some (.slice 72)) (ht' : Try.prog.underlying t' = some (.slice 72))
    (base : Nat) (v : Value) (k : Nat) (xs : List Value) (hs : a.eval s = v) (hown : w.ownsRow base 72 2 v k xs)
    (ao : Option Addr) (n cap : Nat) (news : List Value) (hx : a.eval x = .slice ao n cap) (hl : news.length = n * 2) (hnil : ao = none → n = 0) (hnews : ∀ ad, ao = some ad → ∀ j u, news[j]? = some u → w.cell? (ad.add j) = some u)
    (h1 : ∀ u ∈ news, u.oneCell' = true) (hk : k + n ≤ 1000000) (hbase : base ≤ w.heap.size)
    (h : ∀ v' w', w'.ownsRow base 72 2 v' (k + n) (xs ++ news) → w.grownBy w' v.ownBlock → (v'.ownBlock = v.ownBlock ∨ ∃ b, v'.ownBlock = some b ∧ w.heap.size ≤ b) → wpList Try.prog ops Q rest (a.put o.dst v') w') : wpList Try.prog ops Q (o :: rest) a w := by
  obtain ⟨v', w', hr, h2, h3, h4⟩ := run_append_ents (w := w) t t' o.type ht ht' base v k xs hown ao n cap news hl hnil hnews h1 hk hbase
  exact wpList_append_run w hgd s x t t' ho v _ hs hx v' w' hr (h v' w' h2 h3 h4)
end Go.Proofs.Ytkmanpmaflpgoaa
