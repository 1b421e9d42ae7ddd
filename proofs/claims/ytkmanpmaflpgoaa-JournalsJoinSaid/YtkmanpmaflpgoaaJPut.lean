/-
  WHAT IS PROVED: records that the call itself puts together, many at once, out of any that lie outside the disk's blocks; plain facts on a journal filled up to a block's end.
-/
import Derived.Test.YtkmanpmaflpgoaaJFiles
import Derived.Test.YtkmanpmaflpgoaaOpen3
namespace Go.Proofs.Ytkmanpmaflpgoaa
open Go.RowKit Go.Lib

/-- what fills the last block -/
def fillOf (n : Nat) : List Nat := if 128 - n % 128 > 7 then List.replicate (128 - n % 128 - 7) 0 else List.replicate 121 0
theorem fill_len (n : Nat) : (fillOf n).length ≤ 121 := by unfold fillOf; split <;> rw [List.length_replicate] <;> omega
theorem fill_end (l : List (List Nat)) (h : (allB 0 l).length % 128 ≠ 0) : (allB 0 (l ++ [fillOf (allB 0 l).length])).length % 128 = 0 := by
  rw [allB_snoc, Nat.zero_add, List.length_append]
  generalize (allB 0 l).length = n at *
  unfold fillOf writtenB
  split
  · have e : startN n = n := startN_same (by unfold roomN; omega)
    rw [e, partsB_last true (by rw [List.length_replicate]; unfold roomN; omega), List.length_append, partB_length, List.length_replicate, List.length_replicate]
    omega
  · have e : startN n = n + roomN n := by unfold startN; rw [if_pos (by unfold roomN; omega)]
    have e2 := roomN_next n
    rw [e, partsB_last true (by rw [List.length_replicate, e2]; omega), List.length_append, partB_length, List.length_replicate, List.length_replicate]
    unfold roomN
    omega
theorem join_all (all more : List (List Nat)) (h : (allB 0 all).length % 128 = 0) : allB 0 (all ++ more) = allB 0 all ++ allB 0 more := by
  rw [allB_append, allB_same more (a := 0 + (allB 0 all).length) (b := 0) (by omega)]

/-- a slice of records outside these blocks -/
def Apart (w : World) (S : Nat → Prop) (v : Value) (ao : Option Addr) (n cap : Nat) (rs : List (List Nat)) : Prop :=
  RowR w ao n cap rs ∧ ∀ a, ao = some a → ∀ j r, rs[j]? = some r → ∀ aj cj, w.cell? (a.add j) = some (.slice aj r.length cj) → ∀ b, aj = some b → 0 < r.length → ¬ S b.block ∧ v.ownBlock ≠ some b.block

/-- records put together by the call itself -/
structure PutW (w : World) (B : Nat) (S : Nat → Prop) (v : Value) (vs : List Value) (rs : List (List Nat)) : Prop where
  own : w.ownsRow B 22 1 v vs.length vs
  out : ∀ g, v.ownBlock = some g → ¬ S g
  len : vs.length = rs.length
  each : ∀ (i : Nat) (x : Value) (r : List Nat), vs[i]? = some x → rs[i]? = some r → ∃ ao cap, x = .slice ao r.length cap ∧ Row8 w ao r.length cap r ∧ ∀ a, ao = some a → 0 < r.length → ¬ S a.block ∧ v.ownBlock ≠ some a.block

theorem putW_nil (w : World) (B : Nat) (S : Nat → Prop) : PutW w B S (.slice none 0 0) [] [] := ⟨World.ownsRow_nil _ _ _ _, fun g hg => by simp [Value.ownBlock] at hg, rfl, fun i x r hx => by simp at hx⟩
theorem PutW.moved {w w' : World} {B : Nat} {S S' : Nat → Prop} {v : Value} {vs : List Value} {rs : List (List Nat)} (h : PutW w B S v vs rs) (hm : MovesX S w S' w') : PutW w' B S' v vs rs :=
  ⟨own_moved h.own hm h.out, fun g hg => out_moved hm (h.own.lt g hg).2 (h.out g hg), h.len, fun i x r hx hr => by
    obtain ⟨ao, cap, h1, h2, h3⟩ := h.each i x r hx hr
    exact ⟨ao, cap, h1, h2.same fun a ha hn => hm.block a.block (h2.lt a ha hn) (h3 a ha hn).1, fun a ha hn => ⟨out_moved hm (h2.lt a ha hn) (h3 a ha hn).1, (h3 a ha hn).2⟩⟩⟩
theorem PutW.kept {w w' : World} {B : Nat} {S : Nat → Prop} {v : Value} {vs : List Value} {rs : List (List Nat)} (h : PutW w B S v vs rs) (hb : Below w.heap.size w w') : PutW w' B S v vs rs :=
  h.moved (MovesX.of_below hb)
theorem PutW.row {w : World} {B : Nat} {S : Nat → Prop} {v : Value} {vs : List Value} {rs : List (List Nat)} (h : PutW w B S v vs rs) : ∃ ao cap, v = .slice ao rs.length cap ∧ RowR w ao rs.length cap rs := by
  have h1 := h.own
  rw [h.len] at h1
  rcases h1.2 with ⟨rfl, hn⟩ | ⟨g, cap, cur, rfl, hg, hh, hc, hm, hs, ht⟩
  · refine ⟨none, 0, by rw [hn], ⟨rfl, by omega, by omega, fun _ => rfl, fun a ha => by simp at ha⟩⟩
  · refine ⟨_, cap, rfl, ⟨rfl, hc, hm, fun h => by simp at h, fun a ha j r hr => ?_⟩⟩
    obtain rfl := Option.some.inj ha
    have hj := (List.getElem?_eq_some_iff.1 hr).1
    have hx : vs[j]? = some (vs[j]'(by have := h.len; omega)) := by simp
    obtain ⟨aj, cj, e1, e2, _⟩ := h.each j _ r hx hr
    have hcell := h1.cells (g := g) rfl j _ hx
    rw [e1] at hcell
    exact ⟨aj, cj, hcell, e2⟩

/-- the slices of a slice of records, as values -/
theorem apart_vals {w : World} {a : Addr} {n cap : Nat} {rs : List (List Nat)} {S : Nat → Prop} {v : Value} (h : Apart w S v (some a) n cap rs) :
    ∃ xs : List Value, xs.length = n ∧ (∀ j u, xs[j]? = some u → w.cell? (a.add j) = some u) ∧ (∀ x ∈ xs, x.oneCell' = true) ∧
      ∀ (i : Nat) (x : Value) (r : List Nat), xs[i]? = some x → rs[i]? = some r → ∃ ao cap, x = .slice ao r.length cap ∧ Row8 w ao r.length cap r ∧ ∀ b, ao = some b → 0 < r.length → ¬ S b.block ∧ v.ownBlock ≠ some b.block := by
  obtain ⟨h, hap⟩ := h
  have hlen := h.len
  obtain ⟨xs, h1, h2⟩ := list_of n (fun i (x : Value) => w.cell? (a.add i) = some x ∧ x.oneCell' = true ∧ ∀ r, rs[i]? = some r → ∃ ao cap, x = .slice ao r.length cap ∧ Row8 w ao r.length cap r ∧ ∀ b, ao = some b → 0 < r.length → ¬ S b.block ∧ v.ownBlock ≠ some b.block) (fun i hi => by
    have hr : rs[i]? = some (rs[i]'(by omega)) := by simp
    obtain ⟨aj, cj, h3, h4⟩ := h.cell a rfl i _ hr
    refine ⟨_, h3, rfl, fun r hr' => ?_⟩
    rw [hr] at hr'
    obtain rfl := Option.some.inj hr'
    exact ⟨aj, cj, rfl, h4, hap a rfl i _ hr aj cj h3⟩)
  refine ⟨xs, h1, fun j u hu => (h2 j u hu).1, fun x hx => ?_, fun i x r hx hr => (h2 i x hx).2.2 r hr⟩
  obtain ⟨i, hi⟩ := List.getElem?_of_mem hx
  exact (h2 i x hi).2.1

/-- some records behind an own row of them, and where the row then lies -/
theorem run_append_recs (w : World) (ty : TypeId) (base : Nat) (v : Value) (k : Nat) (xs : List Value) (hown : w.ownsRow base 22 1 v k xs)
    (ad : Addr) (n cap : Nat) (news : List Value) (hn0 : news.length = n) (hr : ∀ j u, news[j]? = some u → w.cell? (ad.add j) = some u) (hone : ∀ y ∈ news, y.oneCell' = true) (hb : base ≤ w.heap.size) (hk : k + n ≤ 1073741824) :
    ∃ v' w', (Builtin.append_ #[33, 33] ty #[v, .slice (some ad) n cap]).run Try.prog w = .ok v' w' ∧ w'.ownsRow base 22 1 v' (k + n) (xs ++ news) ∧ w.grownBy w' v.ownBlock ∧ (v'.ownBlock = v.ownBlock ∨ ∃ b, v'.ownBlock = some b ∧ w.heap.size ≤ b) := by
  obtain ⟨i0, hi, hz0, hz1, hz2⟩ := info_parts Try.info22
  have hnl : news.length = n * 1 := by omega
  have hnl2 : news.length = n * i0.size := by rw [hz1]; exact hnl
  obtain ⟨v', w', hrun, h2, h3, h4⟩ := run_append_own (P := Try.prog) w base 33 ty 22 i0 (.slice none 0 0) 1 24 Try.underlying33 hi hz0 hz1 hz2 rfl (by decide) v k xs hown ad n cap news hnl hr hone (by unfold maxLen; omega) (by omega) hb
  refine ⟨v', w', hrun, h2, h3, ?_⟩
  rcases hown.2 with ⟨rfl, rfl⟩ | ⟨g, c, cur, rfl, _, hh, hnc, _, hcs, _⟩
  · rcases Nat.eq_zero_or_pos n with rfl | hn
    · have := h4.2 ⟨rfl, rfl⟩
      subst this; exact .inl rfl
    · have hr2 := run_append_nil (P := Try.prog) w 33 ty 22 i0 _ Try.underlying33 hi hz0 ad n cap news hnl2 hr hn (by omega) (by rw [hz2]; omega)
      rw [hr2] at hrun
      simp only [Result.ok.injEq] at hrun
      rw [← hrun.1]
      exact .inr ⟨w.heap.size, rfl, Nat.le_refl _⟩
  · by_cases hroom : k + n ≤ c
    · have hrr := run_append_room (P := Try.prog) w 33 ty 22 i0 Try.underlying33 hi g k c cur hh ad n cap news hnl2 hr hone hroom (by rw [hz1, hnl, hcs]; omega)
      rw [hrr] at hrun
      simp only [Result.ok.injEq] at hrun
      rw [← hrun.1]
      exact .inl rfl
    · have holds : ∀ j u, xs[j]? = some u → w.cell? ((⟨g, 0, none⟩ : Addr).add j) = some u := hown.cells (g := g) rfl
      have hgr := run_append_grow (P := Try.prog) w 33 ty 22 i0 _ Try.underlying33 hi hz0 ⟨g, 0, none⟩ k c xs (by rw [hown.1, hz1]) holds ad n cap news hnl2 hr (by omega) (by omega) (by rw [hz2]; exact growslice_fits (by omega) (by omega))
      rw [hgr] at hrun
      simp only [Result.ok.injEq] at hrun
      rw [← hrun.1]
      exact .inr ⟨w.heap.size, rfl, Nat.le_refl _⟩

/-- more are put behind them -/
theorem wpList_puts {w : World} {B : Nat} {S : Nat → Prop} {ops : Array Oper} {rest : List Oper} {o : Oper} {a : Act} {Q : Exit → Act → World → Prop} (hgd : o.guard = none) (s x : Operand)
    (ho : o.op = .call { callee := .builtin .append, args := #[s, x], argTypes := #[33, 33] })
    (v : Value) (vs : List Value) (rs : List (List Nat)) (ao : Option Addr) (n cap : Nat) (ns : List (List Nat)) (hs : a.eval s = v) (hx : a.eval x = .slice ao n cap)
    (hB : B ≤ w.heap.size) (hSl : ∀ k, S k → k < w.heap.size) (hp : PutW w B S v vs rs) (hr : Apart w S v ao n cap ns) (N : Nat) (hN : rs.length + n = N) (hl : N ≤ 1073741824)
    (hQ : ∀ vo vc vs' w', (∀ k, S k → w'.heap[k]? = w.heap[k]?) → PutW w' B S (.slice vo N vc) vs' (rs ++ ns) → Below B w w' → w.grownBy w' v.ownBlock → wpList Try.prog ops Q rest (a.put o.dst (.slice vo N vc)) w') : wpList Try.prog ops Q (o :: rest) a w := by
  obtain ⟨i0, hi, hz0, hz1, hz2⟩ := info_parts Try.info22
  subst hN
  have hlen := hp.len
  have hn := hr.1.len
  cases ao with
  | none =>
    have hc := hr.1.nil rfl
    have hrm := hr.1.room
    obtain rfl : n = 0 := by omega
    subst hc
    obtain rfl : ns = [] := List.eq_nil_of_length_eq_zero hn
    obtain ⟨vo, vc, rfl⟩ := own_slice hp.own
    refine wpList_append_run w hgd s x 33 33 ho _ _ hs hx _ w (run_append_owned_none (P := Try.prog) w B 33 o.type 22 i0 1 Try.underlying33 hi _ vs.length vs hp.own) ?_
    rw [hlen] at hp ⊢
    exact hQ vo vc vs w (fun _ _ => rfl) (by simpa using hp) (Below.refl _ _) (World.grownBy.refl _ _)
  | some ad =>
    obtain ⟨xs, x1, x2, x3, x4⟩ := apart_vals hr
    obtain ⟨v', w', hrun, h2, h3, h4⟩ := run_append_recs w o.type B v vs.length vs hp.own ad n cap xs x1 x2 x3 hB (by omega)
    obtain ⟨vo, vc, rfl⟩ := own_slice h2
    have hown2 := h2
    rw [hlen] at hrun hown2 h4
    refine wpList_append_run w hgd s x 33 33 ho v _ hs hx _ w' hrun ?_
    have hall : (vs ++ xs).length = rs.length + n := by rw [List.length_append, hlen, x1]
    have hk : ∀ (ao : Option Addr) (cap : Nat) (r : List Nat), Row8 w ao r.length cap r → (∀ a, ao = some a → 0 < r.length → ¬ S a.block ∧ v.ownBlock ≠ some a.block) →
        Row8 w' ao r.length cap r ∧ ∀ a, ao = some a → 0 < r.length → ¬ S a.block ∧ (Value.slice vo (rs.length + n) vc).ownBlock ≠ some a.block := fun ao cap r h5 h6 => by
      refine ⟨h5.grown h3 fun a ha hn => (h6 a ha hn).2, fun a ha hn => ⟨(h6 a ha hn).1, fun e => ?_⟩⟩
      rcases h4 with e2 | ⟨b, e2, hb⟩
      · exact (h6 a ha hn).2 (e2.symm.trans e)
      · have e3 := e2.symm.trans e
        obtain rfl := Option.some.inj e3
        have := h5.lt a ha hn
        omega
    refine hQ vo vc (vs ++ xs) w' (fun k hk => h3.block k (hSl k hk) (fun e => hp.out k e.symm hk)) ⟨by rw [hall]; exact hown2, fun g hg hS => ?_, by rw [hall, List.length_append, hn], fun i y r hy hr' => ?_⟩ ?_ h3
    · rcases h4 with e2 | ⟨b, e2, hb⟩
      · exact hp.out g (e2.symm.trans hg) hS
      · have e3 := e2.symm.trans hg
        obtain rfl := Option.some.inj e3
        have := hSl _ hS
        omega
    · rcases Nat.lt_or_ge i vs.length with hi2 | hi2
      · rw [List.getElem?_append_left hi2] at hy
        rw [List.getElem?_append_left (by omega)] at hr'
        obtain ⟨ao, c2, e1, e2, e3⟩ := hp.each i y r hy hr'
        obtain ⟨q1, q2⟩ := hk ao c2 r e2 e3
        exact ⟨ao, c2, e1, q1, q2⟩
      · rw [List.getElem?_append_right hi2] at hy
        rw [List.getElem?_append_right (by omega), ← hlen] at hr'
        obtain ⟨ao, c2, e1, e2, e3⟩ := x4 _ y r hy hr'
        obtain ⟨q1, q2⟩ := hk ao c2 r e2 e3
        exact ⟨ao, c2, e1, q1, q2⟩
    · exact (Below.refl B w).grown h3 hB fun k hk => (hp.own.lt k hk).1

/-- a new block of bytes, as the one record of a new row -/
theorem apart_fill {W : World} {S : Nat → Prop} (B n : Nat) (v : Value) (l : List Nat) (hB : B = W.heap.size) (F : Nat) (hF : Row8 W (some ⟨F, 0, none⟩) n n l) (hln : l.length = n) (hS : ¬ S F) (hv : v.ownBlock ≠ some F) :
    Apart (W.alloc (.cells #[.slice (some ⟨F, 0, none⟩) n n] 22)) S v (some ⟨B, 0, none⟩) 1 1 [l] := by
  subst hB hln
  have hnew := heap_alloc_new W (.cells #[.slice (some ⟨F, 0, none⟩) l.length l.length] 22)
  have hadd : ∀ j, (⟨W.heap.size, 0, none⟩ : Addr).add j = ⟨W.heap.size, j, none⟩ := fun j => by unfold Addr.add; split <;> simp_all
  refine ⟨⟨rfl, by omega, by omega, fun h => by simp at h, fun a ha j r hr => ?_⟩, fun a ha j r hr aj cj hc b hb hn => ?_⟩
  · obtain rfl := Option.some.inj ha
    match j, hr with
    | 0, hr => simp at hr; subst hr; exact ⟨_, _, by rw [hadd]; exact cell_of_row _ W.heap.size 0 _ _ _ hnew, hF.alloc _⟩
    | j + 1, hr => simp at hr
  · obtain rfl := Option.some.inj ha
    match j, hr with
    | 0, hr =>
      have h0 : (W.alloc (.cells #[.slice (some ⟨F, 0, none⟩) l.length l.length] 22)).cell? ⟨W.heap.size, 0, none⟩ = some (.slice (some ⟨F, 0, none⟩) l.length l.length) := cell_of_row _ W.heap.size 0 _ _ _ hnew
      rw [hadd, h0] at hc
      simp only [Option.some.injEq, Value.slice.injEq] at hc
      rw [← hc.1] at hb
      obtain rfl := Option.some.inj hb
      exact ⟨hS, hv⟩
    | j + 1, hr => simp at hr
end Go.Proofs.Ytkmanpmaflpgoaa
