/-
  WHAT IS PROVED: what the reading of a file's records comes to, part by part; where its variables lie; appends within a round.
-/
import Derived.Test.YtkmanpmaflpgoaaJParts
import Derived.Maps.AppendAt
import Derived.RangeFuncBox
namespace Go.Proofs.Ytkmanpmaflpgoaa
open Go.RowKit Go.Shelf

/-! ### Plain -/
def runL : ReadM → List PartM → Option ReadM
  | s, [] => some s
  | s, p :: l => if fits s.begun p.kind then runL (s.put p) l else none
theorem runL_snoc : ∀ (l : List PartM) (s t : ReadM) (p : PartM), runL s l = some t → fits t.begun p.kind = true → runL s (l ++ [p]) = some (t.put p)
  | [], s, t, p, h, hf => by cases h; simp [runL, hf]
  | q :: l, s, t, p, h, hf => by
    simp only [runL, List.cons_append] at h ⊢
    split at h
    · rename_i hq; rw [if_pos hq]; exact runL_snoc l _ t p h hf
    · cases h
theorem readL_all : ∀ (l : List PartM) (s t : ReadM), runL s l = some t → readL s l = t
  | [], s, t, h => by cases h; rfl
  | q :: l, s, t, h => by
    simp only [runL] at h
    split at h
    · rename_i hq; rw [readL, if_pos hq]; exact readL_all l _ t h
    · cases h
theorem readL_stop : ∀ (l q : List PartM) (s t : ReadM) (p : PartM), runL s l = some t → fits t.begun p.kind = false → readL s (l ++ p :: q) = t
  | [], q, s, t, p, h, hf => by cases h; simp [readL, hf]
  | r :: l, q, s, t, p, h, hf => by
    simp only [runL, List.cons_append] at h ⊢
    split at h
    · rename_i hq; rw [readL, if_pos hq]; exact readL_stop l q _ t p h hf
    · cases h
theorem places_len (b : List Nat) (n : Nat) : ∀ a, b.length - a ≤ n → (places b a).length ≤ b.length - a := by
  induction n with
  | zero =>
    intro a h
    rw [places_no (part_end (by omega))]; simp
  | succ n ih =>
    intro a h
    cases hp : partOk b a with
    | false => rw [places_no hp]; simp
    | true =>
      have h1 := (partOk_len hp).1
      have h2 := startN_ge (a + 7 + sizeAt b a)
      have h3 := ih (startN (a + 7 + sizeAt b a)) (by omega)
      rw [places_yes hp, List.length_cons]; omega
theorem part_size {b : List Nat} {a : Nat} (h : partOk b a = true) : sizeAt b a ≤ 121 := by
  unfold partOk at h
  simp only [Bool.and_eq_true, decide_eq_true_eq] at h
  have := roomN_pos a
  omega

/-! ### Slices of slices of bytes -/
theorem Try.info22 : (Try.prog.info? 22).map (fun i => (i.zero, i.size, i.bytes)) = some (some (.slice none 0 0), 1, 24) := by kernel_rfl

theorem Row8.same {w w' : World} {ao : Option Addr} {n cap : Nat} {l : List Nat} (h : Row8 w ao n cap l) (hk : ∀ a, ao = some a → 0 < n → w'.heap[a.block]? = w.heap[a.block]?) : Row8 w' ao n cap l := by
  refine ⟨h.len, h.room, h.most, h.nil, fun a ha j hj => ?_, h.byte⟩
  have h1 := h.cell a ha j hj
  have hbl : (a.add j).block = a.block := by unfold Addr.add; split <;> rfl
  rw [← h1]
  unfold World.cell?
  rw [hbl, hk a ha (by omega)]

/-- records that were read: each reads as it must, in a block of bytes of this call's own that is none of the current one's -/
def RecsAt (B : Nat) (W : World) (vs : List Value) (rs : List (List Nat)) (u : Value) : Prop :=
  vs.length = rs.length ∧ ∀ (j : Nat) (x : Value) (r : List Nat), vs[j]? = some x → rs[j]? = some r → ∃ ao cap, x = .slice ao r.length cap ∧ Row8 W ao r.length cap r ∧
    ∀ a, ao = some a → 0 < r.length → B ≤ a.block ∧ (∃ cs, W.heap[a.block]? = some (.cells cs 5 (0, 0))) ∧ u.ownBlock ≠ some a.block

theorem RecsAt.kept {B : Nat} {W W' : World} {vs : List Value} {rs : List (List Nat)} {u u' : Value} (h : RecsAt B W vs rs u) (hu : ∀ k, u'.ownBlock = some k → u.ownBlock = some k ∨ W.heap.size ≤ k)
    (hk : ∀ k cs, W.heap[k]? = some (.cells cs 5 (0, 0)) → u.ownBlock ≠ some k → W'.heap[k]? = W.heap[k]?) : RecsAt B W' vs rs u' := by
  refine ⟨h.1, fun j x r hx hr => ?_⟩
  obtain ⟨ao, cap, h1, h2, h3⟩ := h.2 j x r hx hr
  refine ⟨ao, cap, h1, h2.same fun a ha hn => ?_, fun a ha hn => ?_⟩
  · obtain ⟨_, ⟨cs, hcs⟩, hne⟩ := h3 a ha hn
    exact hk _ cs hcs hne
  · obtain ⟨h4, ⟨cs, hcs⟩, hne⟩ := h3 a ha hn
    refine ⟨h4, ⟨cs, (hk _ cs hcs hne).trans hcs⟩, fun e => ?_⟩
    rcases hu _ e with h5 | h5
    · exact hne h5
    · have := lt_of_block hcs; omega

/-- where the variables of a reading lie, and what they hold -/
structure ReadVal (w W : World) (s : ReadM) (v u : Value) (vs : List Value) : Prop where
  b2 : Boxed W w.heap.size 33 v
  b3 : Boxed W (w.heap.size + 1) 3 (.int .i64 (s.stop : Int))
  b4 : Boxed W (w.heap.size + 2) 22 u
  b5 : Boxed W (w.heap.size + 3) 4 (.bool s.begun)
  ov : W.ownsRow (w.heap.size + 5) 22 1 v vs.length vs
  ou : W.ownsRow (w.heap.size + 5) 5 1 u s.cur.length (cells8 s.cur)
  one : ∀ x ∈ vs, x.oneCell' = true
  recs : RecsAt w.heap.size W vs s.recs u
  below : Below w.heap.size w W
  byte : ∀ x ∈ s.cur, x < 256

theorem ReadVal.nv {w W : World} {s : ReadM} {v u : Value} {vs : List Value} (h : ReadVal w W s v u vs) : ∀ k, v.ownBlock = some k → w.heap.size + 5 ≤ k := fun k hk => (h.ov.lt k hk).1
theorem ReadVal.nu {w W : World} {s : ReadM} {v u : Value} {vs : List Value} (h : ReadVal w W s v u vs) : ∀ k, u.ownBlock = some k → w.heap.size + 5 ≤ k := fun k hk => (h.ou.lt k hk).1

/-- a step that turns none of them, and no bytes -/
theorem ReadVal.kept {w W W' : World} {s : ReadM} {v u : Value} {vs : List Value} (h : ReadVal w W s v u vs) (hb : Below w.heap.size W W')
    (hk : ∀ (k : Nat) (o : Obj), w.heap.size ≤ k → W.heap[k]? = some o → o.isCells = true → (∀ cs, o ≠ .cells cs 85 (0, 0)) → W'.heap[k]? = some o) : ReadVal w W' s v u vs := by
  have hbox : ∀ {B : Nat} {t : TypeId} {x : Value}, w.heap.size ≤ B → t ≠ 85 → Boxed W B t x → Boxed W' B t x := fun hB ht hx => hk _ _ hB hx rfl (fun cs e => by cases e; exact ht rfl)
  refine ⟨hbox (by omega) (by decide) h.b2, hbox (by omega) (by decide) h.b3, hbox (by omega) (by decide) h.b4, hbox (by omega) (by decide) h.b5, ownsRow_same h.ov fun k hv => ?_, ownsRow_same h.ou fun k hu => ?_, h.one, h.recs.kept (fun k hk => .inl hk) (fun k cs hc _ => ?_), h.below.trans hb, h.byte⟩
  · obtain ⟨cur, hc⟩ := ownsRow_block h.ov hv
    exact (hk k _ (by have := h.nv k hv; omega) hc rfl (fun cs e => by cases e)).trans hc.symm
  · obtain ⟨cur, hc⟩ := ownsRow_block h.ou hu
    exact (hk k _ (by have := h.nu k hu; omega) hc rfl (fun cs e => by cases e)).trans hc.symm
  · by_cases hkw : k < w.heap.size
    · exact hb.block k hkw
    · exact (hk k _ (by omega) hc rfl (fun cs e => by cases e)).trans hc.symm
end Go.Proofs.Ytkmanpmaflpgoaa
