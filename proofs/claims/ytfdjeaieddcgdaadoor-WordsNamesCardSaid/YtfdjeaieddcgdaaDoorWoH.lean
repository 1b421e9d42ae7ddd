/-
  WHAT IS PROVED: what the reading of a text's words comes to, piece by piece; where its variables lie; the append of a word.
-/
import Derived.Test.YtfdjeaieddcgdaaDoorWoG
import Derived.RangeFuncBox
namespace Go.Proofs.YtfdjeaieddcgdaaDoor
open Go.RowKit Go.Shelf
set_option linter.unusedVariables false

/-! ### Plain -/
def okL (s : List UInt8) : List WordM → List Nat → Option (List WordM)
  | acc, [] => some acc
  | acc, x :: r => match stepB acc.length (pieceB s x) with
    | .no _ => none
    | .yes k t i => okL s (acc ++ [⟨k, t, i, x⟩]) r
theorem okL_snoc (s : List UInt8) (x k i : Nat) (t : List UInt8) : ∀ (l : List Nat) (acc m : List WordM), okL s acc l = some m → stepB m.length (pieceB s x) = .yes k t i → okL s acc (l ++ [x]) = some (m ++ [⟨k, t, i, x⟩])
  | [], acc, m, h, hs => by
    cases h
    simp [okL, hs]
  | y :: l, acc, m, h, hs => by
    simp only [okL, List.cons_append] at h ⊢
    cases hy : stepB acc.length (pieceB s y) with
    | no e => rw [hy] at h; cases h
    | yes k' t' i' => rw [hy] at h; exact okL_snoc s x k i t l _ m h hs
theorem fold_ok (s : List UInt8) : ∀ (l : List Nat) (acc m : List WordM), okL s acc l = some m → (foldB s acc.length l).behind acc = .ok m
  | [], acc, m, h => by
    cases h
    simp [foldB, Res.behind]
  | y :: l, acc, m, h => by
    simp only [okL, foldB] at h ⊢
    cases hy : stepB acc.length (pieceB s y) with
    | no e => rw [hy] at h; cases h
    | yes k t i =>
      rw [hy] at h
      have ih := fold_ok s l _ m h
      rw [List.length_append, List.length_singleton] at ih
      dsimp only
      cases hf : foldB s (acc.length + 1) l with
      | bad a e => rw [hf] at ih; cases ih
      | ok q => rw [hf] at ih; simp [Res.cons, Res.behind] at ih ⊢; exact ih
theorem fold_bad (s : List UInt8) (x e : Nat) (q : List Nat) : ∀ (l : List Nat) (acc m : List WordM), okL s acc l = some m → stepB m.length (pieceB s x) = .no e → foldB s acc.length (l ++ x :: q) = .bad x e
  | [], acc, m, h, hs => by
    cases h
    simp [foldB, hs]
  | y :: l, acc, m, h, hs => by
    simp only [okL, foldB, List.cons_append] at h ⊢
    cases hy : stepB acc.length (pieceB s y) with
    | no e' => rw [hy] at h; cases h
    | yes k t i =>
      rw [hy] at h
      have ih := fold_bad s x e q l _ m h hs
      rw [List.length_append, List.length_singleton] at ih
      dsimp only
      rw [ih]; rfl
theorem okL_len (s : List UInt8) : ∀ (l : List Nat) (acc m : List WordM), okL s acc l = some m → acc.length ≤ 1024 → m.length ≤ 1024
  | [], acc, m, h, hl => by cases h; exact hl
  | y :: l, acc, m, h, hl => by
    simp only [okL] at h
    cases hy : stepB acc.length (pieceB s y) with
    | no e => rw [hy] at h; cases h
    | yes k t i =>
      rw [hy] at h
      refine okL_len s l _ m h ?_
      have : acc.length ≠ 1024 := by
        intro e
        unfold stepB at hy
        rw [if_pos e] at hy; cases hy
      rw [List.length_append, List.length_singleton]; omega
theorem word_no {p : List UInt8} {e : Nat} (h : wordB p = .no e) : e ≠ 0 := by
  cases p with
  | nil => cases h; decide
  | cons c r =>
    simp only [wordB] at h
    split at h
    · split at h
      · cases h; decide
      · cases h
    · split at h
      · split at h
        · cases h; decide
        · cases h
      · split at h
        · split at h
          · cases h; decide
          · cases h
        · cases h

/-! ### A slice of words -/
def WordM.cells4 (w : WordM) : List Value := [.int .u8 (w.kind : Int), .string (strU w.s), .int .i64 (w.i : Int), .int .i64 (w.pos : Int)]
def cellsW (l : List WordM) : List Value := l.flatMap WordM.cells4
theorem cellsW_append (l m : List WordM) : cellsW (l ++ m) = cellsW l ++ cellsW m := List.flatMap_append
theorem cellsW_length (l : List WordM) : (cellsW l).length = l.length * 4 := by
  induction l with
  | nil => rfl
  | cons w l ih => show (w.cells4 ++ cellsW l).length = _; rw [List.length_append, ih, List.length_cons]; simp [WordM.cells4]; omega
theorem cellsW_one (l : List WordM) : ∀ u ∈ cellsW l, u.oneCell' = true := by
  intro u hu
  obtain ⟨w, _, hw⟩ := List.mem_flatMap.1 hu
  simp only [WordM.cells4, List.mem_cons, List.mem_nil_iff, or_false] at hw
  rcases hw with rfl | rfl | rfl | rfl <;> rfl

theorem Tryd.infoW : (Tryd.prog.info? 29).map (fun i => (i.zero, i.size, i.bytes)) = some (some (.agg #[.int .u8 0, .string ⟨#[]⟩, .int .i64 0, .int .i64 0]), 4, 40) := by kernel_rfl

theorem rowW_same {w w' : World} {base : Nat} {e : TypeId} {size : Nat} {v : Value} {n : Nat} {xs : List Value} (h : w.ownsRow base e size v n xs) (hk : ∀ k, v.ownBlock = some k → w'.heap[k]? = w.heap[k]?) : w'.ownsRow base e size v n xs := by
  refine ⟨h.1, ?_⟩
  rcases h.2 with hn | ⟨g, cap, cur, rfl, hb, hg, rest⟩
  · exact .inl hn
  · exact .inr ⟨g, cap, cur, rfl, hb, (hk g rfl).trans hg, rest⟩
theorem rowW_block {w : World} {base : Nat} {e : TypeId} {size : Nat} {v : Value} {n : Nat} {xs : List Value} (h : w.ownsRow base e size v n xs) {k : Nat} (hk : v.ownBlock = some k) : ∃ cur, w.heap[k]? = some (.cells cur e (0, 0)) := by
  rcases h.2 with ⟨rfl, _⟩ | ⟨g, cap, cur, rfl, _, hg, _⟩
  · simp [Value.ownBlock] at hk
  · simp [Value.ownBlock] at hk
    subst hk
    exact ⟨cur, hg⟩
theorem rowW_slice {w : World} {base e size n : Nat} {v : Value} {xs : List Value} (h : w.ownsRow base e size v n xs) : ∃ ao cap, v = .slice ao n cap := by
  rcases h.2 with ⟨rfl, rfl⟩ | ⟨g, cap, cur, rfl, _⟩
  · exact ⟨_, _, rfl⟩
  · exact ⟨_, _, rfl⟩

/-! ### Where the variables of a reading lie -/
structure OfVal (w W : World) (v : Value) (ws : List WordM) (a e : Nat) : Prop where
  b2 : Boxed W w.heap.size 23 v
  b3 : Boxed W (w.heap.size + 1) 3 (.int .i64 (a : Int))
  b4 : Boxed W (w.heap.size + 2) 24 (.int .i64 (e : Int))
  ov : W.ownsRow (w.heap.size + 4) 29 4 v ws.length (cellsW ws)
  below : Below w.heap.size w W
  size : w.heap.size + 3 < W.heap.size

theorem OfVal.nv {w W : World} {v : Value} {ws : List WordM} {a e : Nat} (h : OfVal w W v ws a e) : ∀ k, v.ownBlock = some k → w.heap.size + 4 ≤ k := fun k hk => (h.ov.lt k hk).1
theorem OfVal.kept {w W W' : World} {v : Value} {ws : List WordM} {a e : Nat} (h : OfVal w W v ws a e) (hb : Below W.heap.size W W') : OfVal w W' v ws a e := by
  have hbox : ∀ {B : Nat} {t : TypeId} {x : Value}, Boxed W B t x → Boxed W' B t x := fun hx => (hb.block _ hx.lt).trans hx
  exact ⟨hbox h.b2, hbox h.b3, hbox h.b4, rowW_same h.ov fun k hk => hb.block k (h.ov.lt k hk).2, h.below.trans (hb.mono (by have := h.size; omega)), Nat.lt_of_lt_of_le h.size hb.size⟩
theorem OfVal.grown {w A B : World} {v : Value} {ws : List WordM} {a e : Nat} {row : Option Nat} {base : Nat} (h : OfVal w A v ws a e) (hg : A.grownBy B row) (hr : ∀ r, row = some r → base ≤ r ∧ ∃ o : Obj, A.heap[r]? = some o ∧ o.isCells = false) (hb : w.heap.size ≤ base) : OfVal w B v ws a e := by
  have far : ∀ (k : Nat) (o : Obj), A.heap[k]? = some o → o.isCells = true → B.heap[k]? = A.heap[k]? := fun k o ho hc => hg.block k (Array.getElem?_eq_some_iff.1 ho).1 (fun e => by
    obtain ⟨_, o', ho', hc'⟩ := hr k e.symm
    rw [ho] at ho'; cases ho'; rw [hc] at hc'; cases hc')
  have hbox : ∀ {B' : Nat} {t : TypeId} {x : Value}, Boxed A B' t x → Boxed B B' t x := fun hx => (far _ _ hx rfl).trans hx
  refine ⟨hbox h.b2, hbox h.b3, hbox h.b4, rowW_same h.ov fun k hk => ?_, ⟨hg.os.trans h.below.os, hg.tape.trans h.below.tape, hg.output.trans h.below.output, by have := hg.size; have := h.size; omega, fun k hk => ?_⟩, Nat.lt_of_lt_of_le h.size hg.size⟩
  · obtain ⟨cur, hc⟩ := rowW_block h.ov hk
    exact far k _ hc rfl
  · rw [hg.block k (by have := h.size; omega) (fun e => by have := (hr k e.symm).1; omega)]
    exact h.below.block k hk
/-- what a round turns of what was there: the boxes of the variables, and the row -/
structure TurnW (w W W' : World) (v : Value) : Prop where
  size : W.heap.size ≤ W'.heap.size
  os : W'.os = W.os
  tape : W'.tape = W.tape
  output : W'.output = W.output
  block : ∀ k, k < W.heap.size → (k < w.heap.size ∨ w.heap.size + 3 ≤ k) → v.ownBlock ≠ some k → W'.heap[k]? = W.heap[k]?
theorem TurnW.from {w W W' : World} {v : Value} {ws : List WordM} {a e : Nat} (h : TurnW w W W' v) (hr : OfVal w W v ws a e) {B : Nat} (hB : w.heap.size + 3 ≤ B) : KeepsFrom B W W' :=
  ⟨h.size, fun k o hk ho hc => (h.block k (Array.getElem?_eq_some_iff.1 ho).1 (.inr (by omega)) (fun e => by
      obtain ⟨c, hcc⟩ := rowW_block hr.ov e
      rw [hcc] at ho; cases ho; cases hc)).trans ho⟩
theorem TurnW.keeps {w W W' : World} {v : Value} {ws : List WordM} {a e : Nat} (h : TurnW w W W' v) (hr : OfVal w W v ws a e) : KeepsW w.heap.size (w.heap.size + 3) W W' :=
  ⟨⟨h.os, h.tape, h.output, by have := h.size; have := hr.size; omega, fun k hk => h.block k (by have := hr.size; omega) (.inl hk) (fun e => by have := hr.nv k e; omega)⟩, h.size, h.block _ hr.size (.inr (Nat.le_refl _)) (fun e => by have := hr.nv _ e; omega)⟩

/-- between two rounds -/
def InvO (w : World) (s : List UInt8) (pre : List Nat) (W : World) : Prop := ∃ v ws, okL s [] pre = some ws ∧ OfVal w W v ws 0 0
/-- behind a round that has ended the loop -/
def OutO (w : World) (s : List UInt8) (id : Nat) (c : Code) (pre : List Nat) (W : World) : Prop :=
  c = .exit id ∧ ∃ a e, (∀ q, foldB s 0 (pre ++ q) = .bad a e) ∧ OfVal w W (.slice none 0 0) [] a e
theorem invO_own {w : World} {s : List UInt8} {base : Nat} (hb : w.heap.size ≤ base) : OwnFrom base (InvO w s) := by
  rintro pre A B row ⟨v, ws, h1, h2⟩ hg hr
  exact ⟨v, ws, h1, h2.grown hg hr hb⟩
theorem outO_own {w : World} {s : List UInt8} {id base : Nat} (hb : w.heap.size ≤ base) (c : Code) : OwnFrom base (OutO w s id c) := by
  rintro pre A B row ⟨h0, a, e, h1, h2⟩ hg hr
  exact ⟨h0, a, e, h1, h2.grown hg hr hb⟩

theorem set_far (w : World) (B j : Nat) (u : Value) (k : Nat) (h : k ≠ B) : (w.setCell ⟨B, j, none⟩ u).heap[k]? = w.heap[k]? := Below.heap_setCell w ⟨B, j, none⟩ u k h

/-- a round that ends the loop: none, where it goes wrong, and how -/
theorem OfVal.out {w W W0 : World} {v : Value} {ws : List WordM} {a0 e0 : Nat} (h0 : OfVal w W0 v ws a0 e0) (h : OfVal w W v ws a0 e0) (hb : Below W0.heap.size W0 W) (a e : Nat) :
    OfVal w (((W.setCell ⟨w.heap.size, 0, none⟩ (.slice none 0 0)).setCell ⟨w.heap.size + 1, 0, none⟩ (.int .i64 (a : Int))).setCell ⟨w.heap.size + 2, 0, none⟩ (.int .i64 (e : Int))) (.slice none 0 0) [] a e ∧
    TurnW w W0 (((W.setCell ⟨w.heap.size, 0, none⟩ (.slice none 0 0)).setCell ⟨w.heap.size + 1, 0, none⟩ (.int .i64 (a : Int))).setCell ⟨w.heap.size + 2, 0, none⟩ (.int .i64 (e : Int))) v := by
  have hs := h.size
  refine ⟨⟨((h.b2.set _).other (by omega) _).other (by omega) _, ((h.b3.other (by omega) _).set _).other (by omega) _, ((h.b4.other (by omega) _).other (by omega) _).set _, World.ownsRow_nil _ _ _ _,
    ((h.below.setCell (p := ⟨w.heap.size, 0, none⟩) (Nat.le_refl _) _).setCell (p := ⟨w.heap.size + 1, 0, none⟩) (by simp) _).setCell (p := ⟨w.heap.size + 2, 0, none⟩) (by simp) _, by simpa using hs⟩, ?_⟩
  exact ⟨by simpa using hb.size, hb.os, hb.tape, hb.output, fun k hk hw _ => by
    rw [set_far _ _ _ _ _ (by omega), set_far _ _ _ _ _ (by omega), set_far _ _ _ _ _ (by omega)]
    exact hb.block k hk⟩

/-- the append of a word, and all that it leaves -/
theorem OfVal.app {w W : World} {v : Value} {ws : List WordM} (h : OfVal w W v ws 0 0) (x : WordM) (hb : ws.length ≤ 1024) :
    ∃ vo vc v2o v2c w5, v = .slice vo ws.length vc ∧ (Builtin.append_ #[23, 23] 23 #[.slice vo ws.length vc, .slice (some ⟨W.heap.size, 0, none⟩) 1 1]).run Tryd.prog (W.alloc (.cells x.cells4.toArray 29)) = .ok (.slice v2o (ws.length + 1) v2c) w5 ∧
      Boxed w5 w.heap.size 23 (.slice vo ws.length vc) ∧ OfVal w (w5.setCell ⟨w.heap.size, 0, none⟩ (.slice v2o (ws.length + 1) v2c)) (.slice v2o (ws.length + 1) v2c) (ws ++ [x]) 0 0 ∧ TurnW w W (w5.setCell ⟨w.heap.size, 0, none⟩ (.slice v2o (ws.length + 1) v2c)) v := by
  obtain ⟨vo, vc, rfl⟩ := rowW_slice h.ov
  obtain ⟨i0, hi, hz0, hz1, hz2⟩ := info_parts Tryd.infoW
  have hA := h.kept (below_alloc W (.cells x.cells4.toArray 29))
  have hnew : (W.alloc (.cells x.cells4.toArray 29)).heap[W.heap.size]? = some (.cells x.cells4.toArray 29 (0, 0)) := heap_alloc_new W _
  have hs := h.size
  obtain ⟨v2, w5, h1, h2, h3, _⟩ := run_append_own (P := Tryd.prog) (W.alloc (.cells x.cells4.toArray 29)) (w.heap.size + 4) 23 23 29 i0 _ 4 40 Tryd.underlying23 hi hz0 hz1 hz2 rfl (by decide) _ _ _ hA.ov ⟨W.heap.size, 0, none⟩ 1 1 x.cells4 rfl
    (fun j u hu => by
      have : (⟨W.heap.size, 0, none⟩ : Addr).add j = ⟨W.heap.size, j, none⟩ := by unfold Addr.add; split <;> simp_all
      rw [this, blk_cell hnew j, List.getElem?_toArray]; exact hu) (fun u hu => cellsW_one [x] u (by simpa [cellsW] using hu)) (by unfold maxLen; omega) (by omega) (by simp; omega)
  obtain ⟨v2o, v2c, rfl⟩ := rowW_slice h2
  have far : ∀ {B : Nat} {t : TypeId} {y : Value}, t ≠ 29 → Boxed (W.alloc (.cells x.cells4.toArray 29)) B t y → Boxed w5 B t y := fun ht hx => hx.kept h3 (hx.not_row ht hA.ov)
  have k2 := far (by decide) hA.b2
  have k3 := far (by decide) hA.b3
  have k4 := far (by decide) hA.b4
  have hb5 : Below w.heap.size w w5 := by
    refine ⟨h3.os.trans h.below.os, h3.tape.trans h.below.tape, h3.output.trans h.below.output, by have := h3.size; simp at this; omega, fun k hk => ?_⟩
    rw [h3.block k (by simp; omega) (fun e => by have := h.nv k e.symm; omega)]
    exact hA.below.block k hk
  have hsz : w.heap.size + 3 < w5.heap.size := by have := h3.size; simp at this; omega
  refine ⟨vo, vc, v2o, v2c, w5, rfl, h1, k2, ⟨k2.set _, k3.other (by omega) _, k4.other (by omega) _, ?_, hb5.setCell (p := ⟨w.heap.size, 0, none⟩) (Nat.le_refl _) _, by simpa using hsz⟩, ?_⟩
  · rw [cellsW_append, List.length_append, List.length_singleton]
    refine rowW_same (by simpa [cellsW] using h2) fun k hk => set_far _ _ _ _ _ (by have := (h2.lt k hk).1; omega)
  · refine ⟨by have := h3.size; simp at this ⊢; omega, h3.os, h3.tape, h3.output, fun k hk hw hv => ?_⟩
    rw [set_far _ _ _ _ _ (by omega), h3.block k (by simp; omega) (fun e => hv e.symm)]
    exact Below.heap_alloc _ _ _ hk
end Go.Proofs.YtfdjeaieddcgdaaDoor
