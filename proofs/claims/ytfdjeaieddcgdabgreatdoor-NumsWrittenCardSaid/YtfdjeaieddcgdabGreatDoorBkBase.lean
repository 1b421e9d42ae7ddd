/-
  WHAT IS PROVED: plain facts for a Book: what a call may turn, rows of the call's own that lie apart.
-/
import Derived.Test.YtfdjeaieddcgdabGreatDoorKit
import Derived.Laws.AppendOwn
namespace Go.Proofs.YtfdjeaieddcgdabGreatDoor
open Go.RowKit
set_option linter.unusedVariables false

theorem bk_cell {w : World} {B : Nat} {cs : Array Value} {t : TypeId} (h : w.heap[B]? = some (.cells cs t (0, 0))) (j : Nat) : w.cell? ⟨B, j, none⟩ = cs[j]? := by
  simp [World.cell?, h]
theorem bk_free {w : World} {B : Nat} {cs : Array Value} {t : TypeId} (h : w.heap[B]? = some (.cells cs t (0, 0))) (j : Nat) : w.frozen? ⟨B, j, none⟩ = false := by
  simp [World.frozen?, h]
theorem bk_lt {w : World} {B : Nat} {o : Obj} (h : w.heap[B]? = some o) : B < w.heap.size := (Array.getElem?_eq_some_iff.1 h).1
theorem bk_set {w : World} {B j : Nat} {cs : Array Value} {t : TypeId} (v : Value) (h : w.heap[B]? = some (.cells cs t (0, 0))) : (w.setCell ⟨B, j, none⟩ v).heap[B]? = some (.cells (cs.modify j fun _ => v) t (0, 0)) := by
  obtain ⟨hlt, hk⟩ := Array.getElem?_eq_some_iff.1 h
  show (w.heap.modify B _)[B]? = _
  rw [Array.getElem?_eq_getElem (by rw [Array.size_modify]; exact hlt), Array.getElem_modify_self, hk]
  rfl

/-- WHAT A CALL TURNS: the blocks of S, no other one that was there -/
structure Turn (S : Nat → Prop) (w w' : World) : Prop where
  os : w'.os = w.os
  tape : w'.tape = w.tape
  output : w'.output = w.output
  size : w.heap.size ≤ w'.heap.size
  block : ∀ k, k < w.heap.size → ¬ S k → w'.heap[k]? = w.heap[k]?
theorem Turn.refl (S : Nat → Prop) (w : World) : Turn S w w := ⟨rfl, rfl, rfl, Nat.le_refl _, fun _ _ _ => rfl⟩
theorem Turn.trans {S : Nat → Prop} {w w' w2 : World} (h : Turn S w w') (h' : Turn S w' w2) : Turn S w w2 :=
  ⟨h'.os.trans h.os, h'.tape.trans h.tape, h'.output.trans h.output, Nat.le_trans h.size h'.size, fun k hk hs => (h'.block k (Nat.lt_of_lt_of_le hk h.size) hs).trans (h.block k hk hs)⟩
theorem Turn.mono {S T : Nat → Prop} {w w' : World} (h : Turn S w w') (hs : ∀ k, k < w.heap.size → S k → T k) : Turn T w w' :=
  ⟨h.os, h.tape, h.output, h.size, fun k hk hn => h.block k hk (fun hS => hn (hs k hk hS))⟩
/-- what is new behind w may be turned, too -/
theorem Turn.next {S T : Nat → Prop} {w w' w2 : World} (h : Turn S w w') (h' : Turn T w' w2) (hs : ∀ k, k < w.heap.size → T k → S k) : Turn S w w2 :=
  ⟨h'.os.trans h.os, h'.tape.trans h.tape, h'.output.trans h.output, Nat.le_trans h.size h'.size, fun k hk hn => (h'.block k (Nat.lt_of_lt_of_le hk h.size) (fun hT => hn (hs k hk hT))).trans (h.block k hk hn)⟩
theorem Turn.alloc (S : Nat → Prop) (w : World) (o : Obj) : Turn S w (w.alloc o) := ⟨rfl, rfl, rfl, by simp, fun k hk _ => heap_alloc_old w o hk⟩
theorem Turn.grown {w w' : World} {row : Option Nat} (h : w.grownBy w' row) : Turn (fun k => row = some k) w w' :=
  ⟨h.os, h.tape, h.output, h.size, fun k hk hn => h.block k hk (fun e => hn e.symm)⟩
theorem Turn.setCell (S : Nat → Prop) (w : World) (p : Addr) (v : Value) (h : S p.block) : Turn S w (w.setCell p v) := by
  refine ⟨rfl, rfl, rfl, ?_, fun k hk hn => ?_⟩
  · show _ ≤ (w.heap.modify p.block _).size
    rw [Array.size_modify]; exact Nat.le_refl _
  · show (w.heap.modify p.block _)[k]? = _
    rw [Array.getElem?_modify, if_neg (fun e : p.block = k => hn (e ▸ h))]
theorem Turn.at_ {S : Nat → Prop} {w w' : World} (h : Turn S w w') {k : Nat} {o : Obj} (hk : w.heap[k]? = some o) (hn : ¬ S k) : w'.heap[k]? = some o := (h.block k (bk_lt hk) hn).trans hk
theorem Turn.cell {S : Nat → Prop} {w w' : World} (h : Turn S w w') {p : Addr} {v : Value} (hk : w.cell? p = some v) (hn : ¬ S p.block) : w'.cell? p = some v :=
  (World.cell?_of_block (h.block p.block (World.block_lt_of_cell? w p hk) hn)).trans hk
theorem Turn.own {S : Nat → Prop} {w w' : World} (h : Turn S w w') {base e size n : Nat} {v : Value} {xs : List Value} (ho : w.ownsRow base e size v n xs) (hn : ∀ k, v.ownBlock = some k → ¬ S k) : w'.ownsRow base e size v n xs := by
  refine ⟨ho.1, ?_⟩
  rcases ho.2 with h0 | ⟨g, cap, cur, rfl, h1, h2, h3⟩
  · exact .inl h0
  · exact .inr ⟨g, cap, cur, rfl, h1, h.at_ h2 (hn g rfl), h3⟩

/-- a row's form -/
theorem own_form {w : World} {base e size n : Nat} {v : Value} {xs : List Value} (h : w.ownsRow base e size v n xs) : (v = .slice none 0 0 ∧ n = 0) ∨ ∃ g cap, v = .slice (some ⟨g, 0, none⟩) n cap ∧ base ≤ g ∧ n ≤ cap ∧ cap ≤ maxLen ∧ v.ownBlock = some g := by
  rcases h.2 with h0 | ⟨g, cap, cur, rfl, h1, h2, h3, h4, _⟩
  · exact .inl h0
  · exact .inr ⟨g, cap, rfl, h1, h3, h4, rfl⟩
theorem own_slice3 {w : World} {base e size n : Nat} {v : Value} {xs : List Value} (h : w.ownsRow base e size v n xs) : ∃ ao cap, v = .slice ao n cap := by
  rcases h.2 with ⟨rfl, rfl⟩ | ⟨g, cap, cur, rfl, _⟩
  · exact ⟨_, _, rfl⟩
  · exact ⟨_, _, rfl⟩
/-- one cell of a row of cells turned -/
theorem own_set {w : World} {base e n g cap : Nat} {xs : List Value} (h : w.ownsRow base e 1 (.slice (some ⟨g, 0, none⟩) n cap) n xs) (k : Nat) (hk : k < n) (u : Value) :
    w.cell? ⟨g, k, none⟩ = xs[k]? ∧ w.frozen? ⟨g, k, none⟩ = false ∧ (w.setCell ⟨g, k, none⟩ u).ownsRow base e 1 (.slice (some ⟨g, 0, none⟩) n cap) n (xs.set k u) := by
  rcases h.2 with ⟨h0, _⟩ | ⟨g', cap', cur, h0, h1, h2, h3, h4, h5, h6⟩
  · cases h0
  · cases h0
    have hx := h.1
    refine ⟨?_, bk_free h2 k, by rw [List.length_set]; exact hx, .inr ⟨g, cap, _, rfl, h1, bk_set u h2, h3, h4, ?_, ?_⟩⟩
    · rw [bk_cell h2, ← h6, List.getElem?_take, if_pos (by omega), Array.getElem?_toList]
    · rw [Array.size_modify]; exact h5
    · rw [← h6]
      apply List.ext_getElem?
      intro j
      simp only [List.getElem?_take, List.getElem?_set, Array.getElem?_toList, Array.getElem?_modify, List.length_take, Array.length_toList]
      by_cases hj : j < n * 1
      · rw [if_pos hj]
        by_cases hkj : k = j
        · subst hkj
          have : k < cur.size := by rw [h5]; omega
          simp [this]; omega
        · simp [hkj, hj]
          try (intro; omega)
      · rw [if_neg hj]
        rw [if_neg (by omega)]
        simp [hj]
        try (intro; omega)

/-! ### What a Book keeps -/
structure Ent where
  v : Value
  long : Value
  n : Nat
  k : Nat
def Ent.cells (e : Ent) : List Value := [e.v, e.long, .int .i64 (e.k : Int)]
def cellsE (E : List Ent) : List Value := E.flatMap Ent.cells
theorem cellsE_len (E : List Ent) : (cellsE E).length = E.length * 3 := by
  induction E with
  | nil => rfl
  | cons e E ih => show (e.cells ++ cellsE E).length = _; rw [List.length_append, ih, List.length_cons]; simp [Ent.cells]; omega
theorem cellsE_at : ∀ (E : List Ent) (i : Nat) (e : Ent) (j : Nat), E[i]? = some e → j < 3 → (cellsE E)[i * 3 + j]? = e.cells[j]?
  | [], i, e, j, h, _ => by simp at h
  | y :: E, 0, e, j, h, hj => by
    cases h
    show (y.cells ++ cellsE E)[0 * 3 + j]? = _
    rw [List.getElem?_append_left (by simp [Ent.cells]; omega)]
    congr 1; omega
  | y :: E, i + 1, e, j, h, hj => by
    show (y.cells ++ cellsE E)[(i + 1) * 3 + j]? = _
    rw [List.getElem?_append_right (by simp [Ent.cells]; omega), show (i + 1) * 3 + j - y.cells.length = i * 3 + j by simp [Ent.cells]; omega]
    exact cellsE_at E i e j (by simpa using h) hj
/-- the entries of a list of a Book lie in w; each one's own row, of elements e of so many cells, holds what P says; all lie apart -/
structure Held (w : World) (base : Nat) (B : Nat) (hv : Value) (T e sz : Nat) (E : List Ent) : Prop where
  own : w.ownsRow base T 3 hv E.length (cellsE E)
  notB : hv.ownBlock ≠ some B
  longs : ∀ x ∈ E, ∃ ao n c, x.long = .slice ao n c
  rows : ∀ x ∈ E, ∃ xs, w.ownsRow base e sz x.v x.n xs
  apart : ∀ (i j : Nat) (x y : Ent), E[i]? = some x → E[j]? = some y → i ≠ j → ∀ k, x.v.ownBlock = some k → y.v.ownBlock ≠ some k
  sep : ∀ x ∈ E, ∀ k, x.v.ownBlock = some k → k ≠ B ∧ hv.ownBlock ≠ some k
/-- which blocks are the entries' own -/
def blocksE (E : List Ent) (k : Nat) : Prop := ∃ x ∈ E, x.v.ownBlock = some k
/-- where an entry's cells lie -/
theorem entry_lies {w : World} {base T : Nat} {hv : Value} {E : List Ent} (h : w.ownsRow base T 3 hv E.length (cellsE E)) {i : Nat} {x : Ent} (hx : E[i]? = some x) :
    ∃ g cap, hv = .slice (some ⟨g, 0, none⟩) E.length cap ∧ hv.ownBlock = some g ∧ w.cell? ⟨g, i * 3, none⟩ = some x.v ∧ w.cell? ⟨g, i * 3 + 1, none⟩ = some x.long ∧ w.cell? ⟨g, i * 3 + 2, none⟩ = some (.int .i64 (x.k : Int)) ∧ g < w.heap.size ∧ w.frozen? ⟨g, i * 3 + 1, none⟩ = false := by
  have hlen : i < E.length := (List.getElem?_eq_some_iff.1 hx).1
  rcases own_form h with ⟨_, h0⟩ | ⟨g, cap, rfl, _, _, _, hb⟩
  · omega
  · have hc := h.cells hb
    have key : ∀ j, j < 3 → w.cell? ⟨g, i * 3 + j, none⟩ = x.cells[j]? := fun j hj => by
      have h1 := cellsE_at E i x j hx hj
      have h2 : x.cells[j]? = some (x.cells[j]'(by simp [Ent.cells]; omega)) := by simp
      rw [h2] at h1 ⊢
      have h3 := hc _ _ h1
      rwa [show (⟨g, 0, none⟩ : Addr).add (i * 3 + j) = ⟨g, i * 3 + j, none⟩ by unfold Addr.add; split <;> simp_all] at h3
    refine ⟨g, cap, rfl, hb, key 0 (by omega), key 1 (by omega), key 2 (by omega), (h.lt g hb).2, ?_⟩
    rcases h.2 with ⟨h0, _⟩ | ⟨g', cap', cur, h0, _, h2, _⟩
    · cases h0
    · cases h0; exact bk_free h2 _
end Go.Proofs.YtfdjeaieddcgdabGreatDoor
