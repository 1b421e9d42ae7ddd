/-
  WHAT IS PROVED: what the reading of a text's words comes to, piece by piece; where its variables lie; the append of a word. contract of words: the words of a text, or where there is none.
-/
import Derived.Test.YtenmnpbjnbdeaaaGreatDoorMe
import Derived.RangeFuncBox
import Derived.WalkMore
import Derived.ControlIn
namespace Go.Proofs.YtenmnpbjnbdeaaaGreatDoor
section
open Go.RowKit Go.Shelf
set_option linter.unusedVariables false

/-! ### Plain -/
def okL (s : List UInt8) : List WordM → List Nat → Option (List WordM)
  | acc, [] => some acc
  | acc, x :: r => match stepB acc.length (pieceB s x) with
    | .no _ => none
    | .yes k t i => okL s (acc ++ [⟨k, t, i, x⟩]) r
theorem okL_snoc (s : List UInt8) (x k i : Nat) (t : List UInt8) : ∀ (l : List Nat) (acc m : List WordM), okL s acc l = some m → stepB m.length (pieceB s x) = .yes k t i → okL s acc (l ++ [x]) = some (m ++ [⟨k, t, i, x⟩])
  | [], acc, m, h, hs => by
    cases h
    simp [okL, hs]
  | y :: l, acc, m, h, hs => by
    simp only [okL, List.cons_append] at h ⊢
    cases hy : stepB acc.length (pieceB s y) with
    | no e => rw [hy] at h; cases h
    | yes k' t' i' => rw [hy] at h; exact okL_snoc s x k i t l _ m h hs
theorem fold_ok (s : List UInt8) : ∀ (l : List Nat) (acc m : List WordM), okL s acc l = some m → (foldB s acc.length l).behind acc = .ok m
  | [], acc, m, h => by
    cases h
    simp [foldB, Res.behind]
  | y :: l, acc, m, h => by
    simp only [okL, foldB] at h ⊢
    cases hy : stepB acc.length (pieceB s y) with
    | no e => rw [hy] at h; cases h
    | yes k t i =>
      rw [hy] at h
      have ih := fold_ok s l _ m h
      rw [List.length_append, List.length_singleton] at ih
      dsimp only
      cases hf : foldB s (acc.length + 1) l with
      | bad a e => rw [hf] at ih; cases ih
      | ok q => rw [hf] at ih; simp [Res.cons, Res.behind] at ih ⊢; exact ih
theorem fold_bad (s : List UInt8) (x e : Nat) (q : List Nat) : ∀ (l : List Nat) (acc m : List WordM), okL s acc l = some m → stepB m.length (pieceB s x) = .no e → foldB s acc.length (l ++ x :: q) = .bad x e
  | [], acc, m, h, hs => by
    cases h
    simp [foldB, hs]
  | y :: l, acc, m, h, hs => by
    simp only [okL, foldB, List.cons_append] at h ⊢
    cases hy : stepB acc.length (pieceB s y) with
    | no e' => rw [hy] at h; cases h
    | yes k t i =>
      rw [hy] at h
      have ih := fold_bad s x e q l _ m h hs
      rw [List.length_append, List.length_singleton] at ih
      dsimp only
      rw [ih]; rfl
theorem okL_len (s : List UInt8) : ∀ (l : List Nat) (acc m : List WordM), okL s acc l = some m → acc.length ≤ 1024 → m.length ≤ 1024
  | [], acc, m, h, hl => by cases h; exact hl
  | y :: l, acc, m, h, hl => by
    simp only [okL] at h
    cases hy : stepB acc.length (pieceB s y) with
    | no e => rw [hy] at h; cases h
    | yes k t i =>
      rw [hy] at h
      refine okL_len s l _ m h ?_
      have : acc.length ≠ 1024 := by
        intro e
        unfold stepB at hy
        rw [if_pos e] at hy; cases hy
      rw [List.length_append, List.length_singleton]; omega
theorem word_no {p : List UInt8} {e : Nat} (h : wordB p = .no e) : e ≠ 0 := by
  cases p with
  | nil => cases h; decide
  | cons c r =>
    simp only [wordB] at h
    split at h
    · split at h
      · cases h; decide
      · cases h
    · split at h
      · split at h
        · cases h; decide
        · cases h
      · split at h
        · split at h
          · cases h; decide
          · cases h
        · cases h

/-! ### A slice of words -/
def WordM.cells4 (w : WordM) : List Value := [.int .u8 (w.kind : Int), .string (strU w.s), .int .i64 (w.i : Int), .int .i64 (w.pos : Int)]
def cellsW (l : List WordM) : List Value := l.flatMap WordM.cells4
theorem cellsW_append (l m : List WordM) : cellsW (l ++ m) = cellsW l ++ cellsW m := List.flatMap_append
theorem cellsW_one (l : List WordM) : ∀ u ∈ cellsW l, u.oneCell' = true := by
  intro u hu
  obtain ⟨w, _, hw⟩ := List.mem_flatMap.1 hu
  simp only [WordM.cells4, List.mem_cons, List.mem_nil_iff, or_false] at hw
  rcases hw with rfl | rfl | rfl | rfl <;> rfl

theorem Tryz.infoW : (Tryz.prog.info? 90).map (fun i => (i.zero, i.size, i.bytes)) = some (some (.agg #[.int .u8 0, .string ⟨#[]⟩, .int .i64 0, .int .i64 0]), 4, 40) := by kernel_rfl

theorem rowW_same {w w' : World} {base : Nat} {e : TypeId} {size : Nat} {v : Value} {n : Nat} {xs : List Value} (h : w.ownsRow base e size v n xs) (hk : ∀ k, v.ownBlock = some k → w'.heap[k]? = w.heap[k]?) : w'.ownsRow base e size v n xs := by
  refine ⟨h.1, ?_⟩
  rcases h.2 with hn | ⟨g, cap, cur, rfl, hb, hg, rest⟩
  · exact .inl hn
  · exact .inr ⟨g, cap, cur, rfl, hb, (hk g rfl).trans hg, rest⟩
theorem rowW_block {w : World} {base : Nat} {e : TypeId} {size : Nat} {v : Value} {n : Nat} {xs : List Value} (h : w.ownsRow base e size v n xs) {k : Nat} (hk : v.ownBlock = some k) : ∃ cur, w.heap[k]? = some (.cells cur e (0, 0)) := by
  rcases h.2 with ⟨rfl, _⟩ | ⟨g, cap, cur, rfl, _, hg, _⟩
  · simp [Value.ownBlock] at hk
  · simp [Value.ownBlock] at hk
    subst hk
    exact ⟨cur, hg⟩
theorem rowW_slice {w : World} {base e size n : Nat} {v : Value} {xs : List Value} (h : w.ownsRow base e size v n xs) : ∃ ao cap, v = .slice ao n cap := by
  rcases h.2 with ⟨rfl, rfl⟩ | ⟨g, cap, cur, rfl, _⟩
  · exact ⟨_, _, rfl⟩
  · exact ⟨_, _, rfl⟩

/-! ### Where the variables of a reading lie -/
structure OfVal (w W : World) (v : Value) (ws : List WordM) (a e : Nat) : Prop where
  b2 : Boxed W w.heap.size 54 v
  b3 : Boxed W (w.heap.size + 1) 3 (.int .i64 (a : Int))
  b4 : Boxed W (w.heap.size + 2) 40 (.int .i64 (e : Int))
  ov : W.ownsRow (w.heap.size + 4) 90 4 v ws.length (cellsW ws)
  below : Below w.heap.size w W
  size : w.heap.size + 3 < W.heap.size

theorem OfVal.nv {w W : World} {v : Value} {ws : List WordM} {a e : Nat} (h : OfVal w W v ws a e) : ∀ k, v.ownBlock = some k → w.heap.size + 4 ≤ k := fun k hk => (h.ov.lt k hk).1
theorem OfVal.kept {w W W' : World} {v : Value} {ws : List WordM} {a e : Nat} (h : OfVal w W v ws a e) (hb : Below W.heap.size W W') : OfVal w W' v ws a e := by
  have hbox : ∀ {B : Nat} {t : TypeId} {x : Value}, Boxed W B t x → Boxed W' B t x := fun hx => (hb.block _ hx.lt).trans hx
  exact ⟨hbox h.b2, hbox h.b3, hbox h.b4, rowW_same h.ov fun k hk => hb.block k (h.ov.lt k hk).2, h.below.trans (hb.mono (by have := h.size; omega)), Nat.lt_of_lt_of_le h.size hb.size⟩
theorem OfVal.grown {w A B : World} {v : Value} {ws : List WordM} {a e : Nat} {row : Option Nat} {base : Nat} (h : OfVal w A v ws a e) (hg : A.grownBy B row) (hr : ∀ r, row = some r → base ≤ r ∧ ∃ o : Obj, A.heap[r]? = some o ∧ o.isCells = false) (hb : w.heap.size ≤ base) : OfVal w B v ws a e := by
  have far : ∀ (k : Nat) (o : Obj), A.heap[k]? = some o → o.isCells = true → B.heap[k]? = A.heap[k]? := fun k o ho hc => hg.block k (Array.getElem?_eq_some_iff.1 ho).1 (fun e => by
    obtain ⟨_, o', ho', hc'⟩ := hr k e.symm
    rw [ho] at ho'; cases ho'; rw [hc] at hc'; cases hc')
  have hbox : ∀ {B' : Nat} {t : TypeId} {x : Value}, Boxed A B' t x → Boxed B B' t x := fun hx => (far _ _ hx rfl).trans hx
  refine ⟨hbox h.b2, hbox h.b3, hbox h.b4, rowW_same h.ov fun k hk => ?_, ⟨hg.os.trans h.below.os, hg.tape.trans h.below.tape, hg.output.trans h.below.output, by have := hg.size; have := h.size; omega, fun k hk => ?_⟩, Nat.lt_of_lt_of_le h.size hg.size⟩
  · obtain ⟨cur, hc⟩ := rowW_block h.ov hk
    exact far k _ hc rfl
  · rw [hg.block k (by have := h.size; omega) (fun e => by have := (hr k e.symm).1; omega)]
    exact h.below.block k hk
/-- what a round turns of what was there: the boxes of the variables, and the row -/
structure TurnW (w W W' : World) (v : Value) : Prop where
  size : W.heap.size ≤ W'.heap.size
  os : W'.os = W.os
  tape : W'.tape = W.tape
  output : W'.output = W.output
  block : ∀ k, k < W.heap.size → (k < w.heap.size ∨ w.heap.size + 3 ≤ k) → v.ownBlock ≠ some k → W'.heap[k]? = W.heap[k]?
theorem TurnW.from {w W W' : World} {v : Value} {ws : List WordM} {a e : Nat} (h : TurnW w W W' v) (hr : OfVal w W v ws a e) {B : Nat} (hB : w.heap.size + 3 ≤ B) : KeepsFrom B W W' :=
  ⟨h.size, fun k o hk ho hc => (h.block k (Array.getElem?_eq_some_iff.1 ho).1 (.inr (by omega)) (fun e => by
      obtain ⟨c, hcc⟩ := rowW_block hr.ov e
      rw [hcc] at ho; cases ho; cases hc)).trans ho⟩
theorem TurnW.keeps {w W W' : World} {v : Value} {ws : List WordM} {a e : Nat} (h : TurnW w W W' v) (hr : OfVal w W v ws a e) : KeepsW w.heap.size (w.heap.size + 3) W W' :=
  ⟨⟨h.os, h.tape, h.output, by have := h.size; have := hr.size; omega, fun k hk => h.block k (by have := hr.size; omega) (.inl hk) (fun e => by have := hr.nv k e; omega)⟩, h.size, h.block _ hr.size (.inr (Nat.le_refl _)) (fun e => by have := hr.nv _ e; omega)⟩

/-- between two rounds -/
def InvO (w : World) (s : List UInt8) (pre : List Nat) (W : World) : Prop := ∃ v ws, okL s [] pre = some ws ∧ OfVal w W v ws 0 0
/-- behind a round that has ended the loop -/
def OutO (w : World) (s : List UInt8) (id : Nat) (c : Code) (pre : List Nat) (W : World) : Prop :=
  c = .exit id ∧ ∃ a e, (∀ q, foldB s 0 (pre ++ q) = .bad a e) ∧ OfVal w W (.slice none 0 0) [] a e
theorem invO_own {w : World} {s : List UInt8} {base : Nat} (hb : w.heap.size ≤ base) : OwnFrom base (InvO w s) := by
  rintro pre A B row ⟨v, ws, h1, h2⟩ hg hr
  exact ⟨v, ws, h1, h2.grown hg hr hb⟩
theorem outO_own {w : World} {s : List UInt8} {id base : Nat} (hb : w.heap.size ≤ base) (c : Code) : OwnFrom base (OutO w s id c) := by
  rintro pre A B row ⟨h0, a, e, h1, h2⟩ hg hr
  exact ⟨h0, a, e, h1, h2.grown hg hr hb⟩

theorem set_far (w : World) (B j : Nat) (u : Value) (k : Nat) (h : k ≠ B) : (w.setCell ⟨B, j, none⟩ u).heap[k]? = w.heap[k]? := Below.heap_setCell w ⟨B, j, none⟩ u k h

/-- a round that ends the loop: none, where it goes wrong, and how -/
theorem OfVal.out {w W W0 : World} {v : Value} {ws : List WordM} {a0 e0 : Nat} (h0 : OfVal w W0 v ws a0 e0) (h : OfVal w W v ws a0 e0) (hb : Below W0.heap.size W0 W) (a e : Nat) :
    OfVal w (((W.setCell ⟨w.heap.size, 0, none⟩ (.slice none 0 0)).setCell ⟨w.heap.size + 1, 0, none⟩ (.int .i64 (a : Int))).setCell ⟨w.heap.size + 2, 0, none⟩ (.int .i64 (e : Int))) (.slice none 0 0) [] a e ∧
    TurnW w W0 (((W.setCell ⟨w.heap.size, 0, none⟩ (.slice none 0 0)).setCell ⟨w.heap.size + 1, 0, none⟩ (.int .i64 (a : Int))).setCell ⟨w.heap.size + 2, 0, none⟩ (.int .i64 (e : Int))) v := by
  have hs := h.size
  refine ⟨⟨((h.b2.set _).other (by omega) _).other (by omega) _, ((h.b3.other (by omega) _).set _).other (by omega) _, ((h.b4.other (by omega) _).other (by omega) _).set _, World.ownsRow_nil _ _ _ _,
    ((h.below.setCell (p := ⟨w.heap.size, 0, none⟩) (Nat.le_refl _) _).setCell (p := ⟨w.heap.size + 1, 0, none⟩) (by simp) _).setCell (p := ⟨w.heap.size + 2, 0, none⟩) (by simp) _, by simpa using hs⟩, ?_⟩
  exact ⟨by simpa using hb.size, hb.os, hb.tape, hb.output, fun k hk hw _ => by
    rw [set_far _ _ _ _ _ (by omega), set_far _ _ _ _ _ (by omega), set_far _ _ _ _ _ (by omega)]
    exact hb.block k hk⟩

/-- the append of a word, and all that it leaves -/
theorem OfVal.app {w W : World} {v : Value} {ws : List WordM} (h : OfVal w W v ws 0 0) (x : WordM) (hb : ws.length ≤ 1024) :
    ∃ vo vc v2o v2c w5, v = .slice vo ws.length vc ∧ (Builtin.append_ #[54, 54] 54 #[.slice vo ws.length vc, .slice (some ⟨W.heap.size, 0, none⟩) 1 1]).run Tryz.prog (W.alloc (.cells x.cells4.toArray 90)) = .ok (.slice v2o (ws.length + 1) v2c) w5 ∧
      Boxed w5 w.heap.size 54 (.slice vo ws.length vc) ∧ OfVal w (w5.setCell ⟨w.heap.size, 0, none⟩ (.slice v2o (ws.length + 1) v2c)) (.slice v2o (ws.length + 1) v2c) (ws ++ [x]) 0 0 ∧ TurnW w W (w5.setCell ⟨w.heap.size, 0, none⟩ (.slice v2o (ws.length + 1) v2c)) v := by
  obtain ⟨vo, vc, rfl⟩ := rowW_slice h.ov
  obtain ⟨i0, hi, hz0, hz1, hz2⟩ := info_parts Tryz.infoW
  have hA := h.kept (below_alloc W (.cells x.cells4.toArray 90))
  have hnew : (W.alloc (.cells x.cells4.toArray 90)).heap[W.heap.size]? = some (.cells x.cells4.toArray 90 (0, 0)) := heap_alloc_new W _
  have hs := h.size
  obtain ⟨v2, w5, h1, h2, h3, _⟩ := run_append_own (P := Tryz.prog) (W.alloc (.cells x.cells4.toArray 90)) (w.heap.size + 4) 54 54 90 i0 _ 4 40 Tryz.underlying54 hi hz0 hz1 hz2 rfl (by decide) _ _ _ hA.ov ⟨W.heap.size, 0, none⟩ 1 1 x.cells4 rfl
    (fun j u hu => by
      have : (⟨W.heap.size, 0, none⟩ : Addr).add j = ⟨W.heap.size, j, none⟩ := by unfold Addr.add; split <;> simp_all
      rw [this, blk_cell hnew j, List.getElem?_toArray]; exact hu) (fun u hu => cellsW_one [x] u (by simpa [cellsW] using hu)) (by unfold maxLen; omega) (by omega) (by simp; omega)
  obtain ⟨v2o, v2c, rfl⟩ := rowW_slice h2
  have far : ∀ {B : Nat} {t : TypeId} {y : Value}, t ≠ 90 → Boxed (W.alloc (.cells x.cells4.toArray 90)) B t y → Boxed w5 B t y := fun ht hx => hx.kept h3 (hx.not_row ht hA.ov)
  have k2 := far (by decide) hA.b2
  have k3 := far (by decide) hA.b3
  have k4 := far (by decide) hA.b4
  have hb5 : Below w.heap.size w w5 := by
    refine ⟨h3.os.trans h.below.os, h3.tape.trans h.below.tape, h3.output.trans h.below.output, by have := h3.size; simp at this; omega, fun k hk => ?_⟩
    rw [h3.block k (by simp; omega) (fun e => by have := h.nv k e.symm; omega)]
    exact hA.below.block k hk
  have hsz : w.heap.size + 3 < w5.heap.size := by have := h3.size; simp at this; omega
  refine ⟨vo, vc, v2o, v2c, w5, rfl, h1, k2, ⟨k2.set _, k3.other (by omega) _, k4.other (by omega) _, ?_, hb5.setCell (p := ⟨w.heap.size, 0, none⟩) (Nat.le_refl _) _, by simpa using hsz⟩, ?_⟩
  · rw [cellsW_append, List.length_append, List.length_singleton]
    refine rowW_same (by simpa [cellsW] using h2) fun k hk => set_far _ _ _ _ _ (by have := (h2.lt k hk).1; omega)
  · refine ⟨by have := h3.size; simp at this ⊢; omega, h3.os, h3.tape, h3.output, fun k hk hw hv => ?_⟩
    rw [set_far _ _ _ _ _ (by omega), h3.block k (by simp; omega) (fun e => hv e.symm)]
    exact Below.heap_alloc _ _ _ hk
end
section
open Go.RowKit Go.Shelf
attribute [local go_sem] Oper.semAt_some
set_option linter.unusedVariables false

def Res.list : Res → List WordM
  | .ok l => l
  | .bad _ _ => []
def Res.at_ : Res → Nat
  | .ok _ => 0
  | .bad a _ => a
def Res.err : Res → Nat
  | .ok _ => 0
  | .bad _ e => e
/-- what Of hands back -/
def OfRes (r : Res) (w : World) (e : Ending) (w' : World) : Prop :=
  ∃ v, e = .returned (.tuple #[v, .int .i64 (r.at_ : Int), .int .i64 (r.err : Int)]) ∧ w'.ownsRow w.heap.size 90 4 v r.list.length (cellsW r.list) ∧ Below w.heap.size w w'

theorem wpListIn_append_run {F : Fence} {n : Nat} {P : Program} (w : World) {ops : Array Oper} {rest : List Oper} {o : Oper} {a : Act} {Q : Exit → Act → World → Prop}
    (hg : o.guard = none) (s x : Operand) (t : TypeId) (hop : o.op = Op.call { callee := Callee.builtin Builtin.append, args := #[s, x], argTypes := #[t, t] })
    (v u v' : Value) (w' : World) (hs : a.eval s = v) (hx : a.eval x = u) (hrun : (Builtin.append_ #[t, t] o.type #[v, u]).run P w = .ok v' w')
    (hK : wpListIn F n P ops Q rest (a.put o.dst v') w') : wpListIn F n P ops Q (o :: rest) a w := by
  refine wpListIn_plain hg fun K hK' => ?_
  unfold Oper.wpIn
  refine ⟨?_, ?_⟩
  · simp [Oper.about, hop, resolve, Target.leads, Sem.run_pure]
  · rw [Oper.semAt_plain F _ _ (by rw [hop]; intro c hc'; cases hc')]
    simp [execOp, hop, resolve, invoke, builtin, hs, hx, hrun, Result.andThen]
    exact hK' _ _ hK

theorem TurnW.behind {w W W1 W2 : World} {v : Value} (h : Below W.heap.size W W1) (h' : TurnW w W1 W2 v) : TurnW w W W2 v :=
  ⟨Nat.le_trans h.size h'.size, h'.os.trans h.os, h'.tape.trans h.tape, h'.output.trans h.output, fun k hk hw hv => (h'.block k (Nat.lt_of_lt_of_le hk h.size) hw hv).trans (h.block k hk)⟩

theorem word_size {p : List UInt8} {k i : Nat} {t : List UInt8} (h : wordB p = .yes k t i) (hp : p.length ≤ 4096) : t.length ≤ 4096 := by
  cases p with
  | nil => cases h
  | cons c r =>
    simp only [wordB] at h
    split at h
    · split at h
      · cases h
      · cases h; unfold Lib.toLowerA; rw [List.length_map]; exact hp
    · split at h
      · split at h
        · cases h
        · cases h; simp
      · split at h
        · split at h
          · cases h
          · cases h; omega
        · cases h; exact hp

/-- the last stores put back what lies there -/
theorem OfVal.stored {w W : World} {v : Value} {ws : List WordM} {a e : Nat} (h : OfVal w W v ws a e) (a' e' : Nat) : OfVal w (((W.setCell ⟨w.heap.size, 0, none⟩ v).setCell ⟨w.heap.size + 1, 0, none⟩ (.int .i64 (a' : Int))).setCell ⟨w.heap.size + 2, 0, none⟩ (.int .i64 (e' : Int))).drew v ws a' e' := by
  have hs := h.size
  have h1 : OfVal w (((W.setCell ⟨w.heap.size, 0, none⟩ v).setCell ⟨w.heap.size + 1, 0, none⟩ (.int .i64 (a' : Int))).setCell ⟨w.heap.size + 2, 0, none⟩ (.int .i64 (e' : Int))) v ws a' e' :=
    ⟨((h.b2.set _).other (by omega) _).other (by omega) _, ((h.b3.other (by omega) _).set _).other (by omega) _, ((h.b4.other (by omega) _).other (by omega) _).set _,
      rowW_same h.ov fun k hk => by have := h.nv k hk; rw [set_far _ _ _ _ _ (by omega), set_far _ _ _ _ _ (by omega), set_far _ _ _ _ _ (by omega)],
      ((h.below.setCell (p := ⟨w.heap.size, 0, none⟩) (Nat.le_refl _) _).setCell (p := ⟨w.heap.size + 1, 0, none⟩) (by simp) _).setCell (p := ⟨w.heap.size + 2, 0, none⟩) (by simp) _, by simpa using hs⟩
  exact h1.kept (Below.refl _ _).drew
theorem OfVal.fin {w W : World} {v : Value} {ws : List WordM} {a e D : Nat} (h : OfVal w W v ws a e) (a' e' : Nat) (hD : w.heap.size + 4 ≤ D) (hK : W.heap[D]? = some (Obj.deferred (some []))) :
    (((W.setCell ⟨w.heap.size, 0, none⟩ v).setCell ⟨w.heap.size + 1, 0, none⟩ (.int .i64 (a' : Int))).setCell ⟨w.heap.size + 2, 0, none⟩ (.int .i64 (e' : Int))).drew.heap[D]? = some (Obj.deferred (some [])) ∧
    OfVal w ((((W.setCell ⟨w.heap.size, 0, none⟩ v).setCell ⟨w.heap.size + 1, 0, none⟩ (.int .i64 (a' : Int))).setCell ⟨w.heap.size + 2, 0, none⟩ (.int .i64 (e' : Int))).drew.putObj D (.deferred none)) v ws a' e' := by
  have h1 := h.stored a' e'
  have hK1 : (((W.setCell ⟨w.heap.size, 0, none⟩ v).setCell ⟨w.heap.size + 1, 0, none⟩ (.int .i64 (a' : Int))).setCell ⟨w.heap.size + 2, 0, none⟩ (.int .i64 (e' : Int))).drew.heap[D]? = some (Obj.deferred (some [])) := by
    show (((W.setCell ⟨w.heap.size, 0, none⟩ v).setCell ⟨w.heap.size + 1, 0, none⟩ (.int .i64 (a' : Int))).setCell ⟨w.heap.size + 2, 0, none⟩ (.int .i64 (e' : Int))).heap[D]? = _
    rw [set_far _ _ _ _ _ (by omega), set_far _ _ _ _ _ (by omega), set_far _ _ _ _ _ (by omega)]; exact hK
  exact ⟨hK1, h1.grown (grownBy_putObj' _ D _) (fun r e => by cases e; exact ⟨hD, _, hK1, rfl⟩) (by omega)⟩
theorem ownBase_W {w : World} {b e size n : Nat} {v : Value} {xs : List Value} (h : w.ownsRow (b + 4) e size v n xs) : w.ownsRow b e size v n xs := by
  refine ⟨h.1, ?_⟩
  rcases h.2 with h0 | ⟨g, cap, cur, hv, hg, r⟩
  · exact .inl h0
  · exact .inr ⟨g, cap, cur, hv, by omega, r⟩

theorem of_results {fn : Func} {tmps : Array Value} {W : World} {B C D : Nat} {v x y : Value} (hres : fn.results = #[.cell 2 54, .cell 3 3, .cell 4 40])
    (h2 : tmps[2]? = some (.pointer (some ⟨B, 0, none⟩))) (h3 : tmps[3]? = some (.pointer (some ⟨C, 0, none⟩))) (h4 : tmps[4]? = some (.pointer (some ⟨D, 0, none⟩)))
    (b2 : Boxed W B 54 v) (b3 : Boxed W C 3 x) (b4 : Boxed W D 40 y) : (results fn tmps).run Tryz.prog W = .ok (.tuple #[v, x, y]) W := by
  have z2 := b2.cell
  have z3 := b3.cell
  have z4 := b4.cell
  simp [results, hres, h2, h3, h4, go_sem, z2, z3, z4]

theorem clone_any (s : ByteArray) (w : World) (hs : s.size ≤ 4096) : Calls Tryz.prog 40 #[.string s] w fun e w' => e = .returned (.string s) ∧ Below w.heap.size w w' := by
  have hC := Tryz.stringslite_Clone s w (by omega)
  go_enter Tryz.func40, Tryz.ntmps40
  go_wp2_with (go_at_call 83; refine hC.mono ?_; rintro e w1 ⟨rfl, hb1⟩)
  go_ret
  exact ⟨rfl, hb1⟩

set_option maxRecDepth 100000 in
set_option maxHeartbeats 8000000 in
theorem of_short (s : ByteArray) (w : World) (hw : Wo w) (hs : s.size ≤ 4096) :
    Calls Tryz.prog 18 #[.string s] w (OfRes (foldB s.data.toList 0 (piecesB s.data.toList)) w) := by
  refine (callsIn_wide (n := 6)).1 ?_
  refine callsIn_of_wp_marks Tryz.func18 rfl trivial ?_ rfl
  simp only [Tryz.ntmps18, List.size_toArray, List.length_cons, List.length_nil, Nat.reduceAdd, Nat.reduceSub, Array.replicate_succ, Array.replicate_zero, List.push_toArray, List.append_toArray, List.nil_append, List.cons_append]
  gi_wp2_with fail
  refine wpIn_wide.2 (wp_scope_straight ((wpIn_wide (n := 6)).1 ?_))
  gi_wp2_with fail
  refine wpIn_wide.2 (wp_label ?_)
  gi_wp2_with fail
  refine ⟨trivial, callsIn_wide.2 ((pieces_n s _).mono ?_)⟩
  rintro e w' ⟨rfl, rfl⟩
  gi_wp2_with fail
  obtain ⟨W0, hW0⟩ : ∃ W0, W0 = (((w.alloc (.cells #[.slice none 0 0] 54)).alloc (.cells #[.int .i64 0] 3)).alloc (.cells #[.int .i64 0] 40)).alloc (.cells #[.string s] 9) := ⟨_, rfl⟩
  rw [← hW0]
  have hsz : W0.heap.size = w.heap.size + 4 := by rw [hW0]; simp
  have hbW : Below w.heap.size w W0 := by
    rw [hW0]
    exact (((below_alloc w _).trans ((below_alloc _ _).mono (by simp))).trans ((below_alloc _ _).mono (by simp; omega))).trans ((below_alloc _ _).mono (by simp; omega))
  have hbn : W0.heap[w.heap.size + 3]? = some (.cells #[.string s] 9 (0, 0)) := by
    rw [hW0]
    have := heap_alloc_new (((w.alloc (.cells #[.slice none 0 0] 54)).alloc (.cells #[.int .i64 0] 3)).alloc (.cells #[.int .i64 0] 40)) (.cells #[.string s] 9)
    simpa only [World.size_alloc, Nat.add_assoc, Nat.reduceAdd] using this
  have hb2 : Boxed W0 w.heap.size 54 (.slice none 0 0) := by
    rw [hW0]; exact (((Boxed.new w _ _).alloc _).alloc _).alloc _
  have hb3 : Boxed W0 (w.heap.size + 1) 3 (.int .i64 ((0 : Nat) : Int)) := by
    rw [hW0]
    have := Boxed.new (w.alloc (.cells #[.slice none 0 0] 54)) 3 (.int .i64 0)
    rw [World.size_alloc] at this
    exact (this.alloc _).alloc _
  have hb4 : Boxed W0 (w.heap.size + 2) 40 (.int .i64 ((0 : Nat) : Int)) := by
    rw [hW0]
    have := Boxed.new ((w.alloc (.cells #[.slice none 0 0] 54)).alloc (.cells #[.int .i64 0] 3)) 40 (.int .i64 0)
    rw [World.size_alloc, World.size_alloc] at this
    exact this.alloc _
  have hinit : OfVal w W0 (.slice none 0 0) [] 0 0 := ⟨hb2, hb3, hb4, World.ownsRow_nil _ _ _ _, hbW, by omega⟩
  have hlow : ∀ wk, Below w.heap.size w wk → Wo wk := fun wk hb => hw.kept hb
  have HLOW := Lib.hid hlow
  clear hW0 hb2 hb3 hb4 hlow
  refine wpIn_rangeFunc_ownH rfl (by omega) (gf := 74) (lb := #[.pointer (some ⟨w.heap.size + 1 + 1 + 1, 0, none⟩)]) rfl trivial (enters_of Tryz.func74 (by kernel_rfl) rfl)
    (pieces_stop 5 (by omega) w.heap.size (w.heap.size + 3) s W0 (by omega) (by omega) hbn (HLOW.out _ hbW) (fun wk hb => HLOW.out wk (hbW.trans hb))) keepsW_t (keepsW_b (by omega) (by omega)) (Below.refl _ _) (fun _ => rfl)
    (InvO w s.data.toList) (OutO w s.data.toList 0) (invO_own (by omega)) (outO_own (by omega)) ⟨_, [], rfl, hinit⟩
    (fun x a' W => a' = { tmps := #[.string s, undef, .pointer (some ⟨w.heap.size, 0, none⟩), .pointer (some ⟨w.heap.size + 1, 0, none⟩), .pointer (some ⟨w.heap.size + 2, 0, none⟩), .int .i64 (x : Int), .string (s.extract x (x + extentB (s.data.toList.drop x))), undef, undef, .string s, .int .i64 (s.size : Int), .bool (decide (4096 < (s.size : Int))), .string s, .func (.func 74) #[] #[.pointer (some ⟨w.heap.size + 1 + 1 + 1, 0, none⟩)], .int .i64 (x : Int), .string (s.extract x (x + extentB (s.data.toList.drop x))), undef, undef, undef, undef, undef, undef, undef, undef, undef, undef, undef, undef, undef, undef, undef, undef, undef, undef, undef, undef, undef, undef, undef, undef, undef, undef, undef, undef], defers := [] })
    (fun x a' _ X Y row hs hg hr => hs)
    ?assign ?body ?done ?stop
  case assign =>
    rintro ll pre x W K hI hK
    dsimp only [encW]
    gi_wp2
    exact hK _ _ (KeepsFrom.refl _ _) ⟨Below.refl _ _, Nat.le_refl _, rfl⟩ hI rfl
  case body =>
    rintro ll pre x a' W hl ⟨rr, hrr⟩ ⟨v, ws, i1, i2⟩ rfl hlt
    have hlen := okL_len _ _ _ _ i1 (Nat.zero_le _)
    have hpd : (s.extract x (x + extentB (s.data.toList.drop x))).data.toList = pieceB s.data.toList x := by rw [Lib.extract_data]; unfold pieceB; congr 1; omega
    have hWd := word_any (s.extract x (x + extentB (s.data.toList.drop x))) W (HLOW.out W i2.below) (by rw [Lib.size_eq, Lib.extract_data]; simp; have := str_len s; simp at this; omega) (by rw [hpd]; exact whole_of _)
    rw [hpd] at hWd
    obtain ⟨vo, vc, rfl⟩ := rowW_slice i2.ov
    obtain ⟨py, hpy⟩ : ∃ py, s.extract x (x + extentB (s.data.toList.drop x)) = py := ⟨_, rfl⟩
    rw [hpy] at hWd ⊢
    clear hpy hpd hinit hbn hbW
    have I1 := Lib.hid i1
    have I2 := Lib.hid i2
    obtain ⟨g, hg⟩ : ∃ g, wordB (pieceB s.data.toList x) = g := ⟨_, rfl⟩
    rw [hg] at hWd
    have HG := Lib.hid hg
    clear hg i1
    have hsz2 := i2.size
    clear i2
    by_cases h24 : ws.length = 1024
    · have HST : Hid (stepB ws.length (pieceB s.data.toList x) = .no 3) := by show _ = _; unfold stepB; rw [if_pos h24]
      have hd : ((ws.length : Int) == 1024) = true := by rw [h24]; rfl
      clear h24
      cases g with
      | no e =>
        gi_wp2_with fail
        refine ⟨trivial, CallsIn.inRound _ (callsIn_wide.2 (hWd.mono ?_))⟩
        rintro e' w1 ⟨rfl, hb1⟩
        have H1 := Lib.hid (I2.out.kept hb1)
        have c2 := H1.out.b2.cell
        have c3 := H1.out.b3.cell
        have c4 := H1.out.b4.cell
        have f2 := H1.out.b2.frozen
        have f3 := H1.out.b3.frozen
        have f4 := H1.out.b4.frozen
        have HB1 := Lib.hid hb1
        have hz1 := hb1.size
        clear hb1
        have H2 := Lib.hid (H1.out.kept (below_alloc w1 (.cells #[.int .u8 0, .string ⟨#[]⟩, .int .i64 0, .int .i64 0] 90)))
        have d2 := H2.out.b2.cell
        have d3 := H2.out.b3.cell
        have d4 := H2.out.b4.cell
        have g2 := H2.out.b2.frozen
        have g3 := H2.out.b3.frozen
        have g4 := H2.out.b4.frozen
        dsimp only [gotA, gotE]
        gi_wp2_with fail
        obtain ⟨HO', HT'⟩ := OfVal.out I2.out (H1.out.kept (below_alloc w1 (.cells #[.int .u8 0, .string ⟨#[]⟩, .int .i64 0, .int .i64 0] 90))) (HB1.out.trans ((below_alloc w1 _).mono hz1)) x 3
        refine ⟨HT'.from I2.out (by omega), rfl, x, 3, fun q => ?_, HO'⟩
        rw [List.append_assoc]
        exact fold_bad _ _ _ _ _ _ _ I1.out HST.out
      | yes k t i =>
        gi_wp2_with fail
        refine ⟨trivial, CallsIn.inRound _ (callsIn_wide.2 (hWd.mono ?_))⟩
        rintro e' w1 ⟨rfl, hb1⟩
        have H1 := Lib.hid (I2.out.kept hb1)
        have c2 := H1.out.b2.cell
        have c3 := H1.out.b3.cell
        have c4 := H1.out.b4.cell
        have f2 := H1.out.b2.frozen
        have f3 := H1.out.b3.frozen
        have f4 := H1.out.b4.frozen
        have HB1 := Lib.hid hb1
        have hz1 := hb1.size
        clear hb1
        have H2 := Lib.hid (H1.out.kept (below_alloc w1 (.cells #[.int .u8 (k : Int), .string (strU t), .int .i64 (i : Int), .int .i64 0] 90)))
        have d2 := H2.out.b2.cell
        have d3 := H2.out.b3.cell
        have d4 := H2.out.b4.cell
        have g2 := H2.out.b2.frozen
        have g3 := H2.out.b3.frozen
        have g4 := H2.out.b4.frozen
        dsimp only [gotA, gotE]
        gi_wp2_with fail
        obtain ⟨HO', HT'⟩ := OfVal.out I2.out H2.out (HB1.out.trans ((below_alloc w1 _).mono hz1)) x 3
        refine ⟨HT'.from I2.out (by omega), rfl, x, 3, fun q => ?_, HO'⟩
        rw [List.append_assoc]
        exact fold_bad _ _ _ _ _ _ _ I1.out HST.out
    · have hd : ((ws.length : Int) == 1024) = false := by rw [beq_eq_false_iff_ne]; omega
      have HST : Hid (stepB ws.length (pieceB s.data.toList x) = g) := by show _ = _; unfold stepB; rw [if_neg h24, HG.out]
      cases g with
      | no e =>
        have he0 := word_no HG.out
        have hne : ((e : Int) != 0) = true := by simp; omega
        gi_wp2_with fail
        refine ⟨trivial, CallsIn.inRound _ (callsIn_wide.2 (hWd.mono ?_))⟩
        rintro e' w1 ⟨rfl, hb1⟩
        have H1 := Lib.hid (I2.out.kept hb1)
        have c2 := H1.out.b2.cell
        have c3 := H1.out.b3.cell
        have c4 := H1.out.b4.cell
        have f2 := H1.out.b2.frozen
        have f3 := H1.out.b3.frozen
        have f4 := H1.out.b4.frozen
        have HB1 := Lib.hid hb1
        have hz1 := hb1.size
        clear hb1
        have H2 := Lib.hid (H1.out.kept (below_alloc w1 (.cells #[.int .u8 0, .string ⟨#[]⟩, .int .i64 0, .int .i64 0] 90)))
        have d2 := H2.out.b2.cell
        have d3 := H2.out.b3.cell
        have d4 := H2.out.b4.cell
        have g2 := H2.out.b2.frozen
        have g3 := H2.out.b3.frozen
        have g4 := H2.out.b4.frozen
        dsimp only [gotA, gotE]
        gi_wp2_with fail
        obtain ⟨HO', HT'⟩ := OfVal.out I2.out (H1.out.kept (below_alloc w1 (.cells #[.int .u8 0, .string ⟨#[]⟩, .int .i64 0, .int .i64 0] 90))) (HB1.out.trans ((below_alloc w1 _).mono hz1)) x e
        refine ⟨HT'.from I2.out (by omega), rfl, x, e, fun q => ?_, HO'⟩
        rw [List.append_assoc]
        exact fold_bad _ _ _ _ _ _ _ I1.out HST.out
      | yes k t i =>
        have HSZ : Hid ((strU t).size ≤ 4096) := Lib.hid (by rw [strU_size]; exact word_size HG.out (by have := str_len s; unfold pieceB; simp at this ⊢; omega))
        have i2s := I2.out.size
        gi_wp2_with fail
        refine ⟨trivial, CallsIn.inRound _ (callsIn_wide.2 (hWd.mono ?_))⟩
        rintro e' w1 ⟨rfl, hb1⟩
        have H1 := Lib.hid (I2.out.kept hb1)
        have c2 := H1.out.b2.cell
        have c3 := H1.out.b3.cell
        have c4 := H1.out.b4.cell
        have f2 := H1.out.b2.frozen
        have f3 := H1.out.b3.frozen
        have f4 := H1.out.b4.frozen
        have HB1 := Lib.hid hb1
        have hz1 := hb1.size
        clear hb1
        have H2 := Lib.hid (H1.out.kept (below_alloc w1 (.cells #[.int .u8 (k : Int), .string (strU t), .int .i64 (i : Int), .int .i64 0] 90)))
        have d2 := H2.out.b2.cell
        have d3 := H2.out.b3.cell
        have d4 := H2.out.b4.cell
        have g2 := H2.out.b2.frozen
        have g3 := H2.out.b3.frozen
        have g4 := H2.out.b4.frozen
        dsimp only [gotA, gotE]
        gi_wp2_with fail
        have hnw : w1.heap.size ≠ w.heap.size := by have := i2s; omega
        refine ⟨trivial, CallsIn.inRound _ (callsIn_wide.2 ((clone_any (strU t) _ HSZ.out).mono ?_))⟩
        rintro e' w2 ⟨rfl, hb2⟩
        have HF := Lib.hid ((Four.new w1 90 (.int .u8 (k : Int)) (.string (strU t)) (.int .i64 (i : Int)) (.int .i64 0)).kept hb2)
        obtain ⟨q0, q1, q2, q3⟩ := HF.out.cells
        obtain ⟨r0, r1, r2, r3⟩ := HF.out.free
        have HW2 := Lib.hid (H2.out.kept hb2)
        have HB2 := Lib.hid hb2
        clear hb2 d2 d3 d4 g2 g3 g4 c2 c3 c4 f2 f3 f4
        have c2 := HW2.out.b2.cell
        have f2 := HW2.out.b2.frozen
        have hb3 : Below W.heap.size W ((w2.setCell ⟨w1.heap.size, 3, none⟩ (.int .i64 (x : Int))).setCell ⟨w1.heap.size, 1, none⟩ (.string (strU t))) :=
          (((HB1.out.trans ((below_alloc w1 _).mono hz1)).trans (HB2.out.mono (by simp; omega))).setCell (p := ⟨w1.heap.size, 3, none⟩) hz1 _).setCell (p := ⟨w1.heap.size, 1, none⟩) hz1 _
        obtain ⟨vo', vc', v2o, v2c, w5, hvv, hrun, hk2, hv5, ht5⟩ := (I2.out.kept hb3).app ⟨k, t, i, x⟩ hlen
        cases hvv
        simp only [WordM.cells4, World.size_setCell] at hrun
        have e2 := hk2.cell
        have g5 := hk2.frozen
        have HV5 := Lib.hid hv5
        have HT5 := Lib.hid (TurnW.behind hb3 ht5)
        clear hb3 hk2 hv5 ht5
        have HRUN := Lib.hid hrun
        clear hrun
        gi_wp2_with (gi_at_builtin; refine wpListIn_append_run _ rfl _ _ _ rfl _ _ _ _ rfl rfl HRUN.out ?_)
        exact ⟨HT5.out.from I2.out (by omega), HT5.out.keeps I2.out, _, _, okL_snoc _ _ _ _ _ _ _ _ I1.out HST.out, HV5.out⟩
  case done =>
    rintro D xs W hD rfl ⟨v, ws, i1, i2⟩ hK
    have HS : Hid (foldB s.data.toList 0 (piecesB s.data.toList) = .ok ws) := by
      show _ = _
      have := fold_ok _ _ _ _ i1
      cases hf : foldB s.data.toList 0 (piecesB s.data.toList) with
      | bad a e => rw [List.length_nil, hf] at this; cases this
      | ok q => rw [List.length_nil, hf] at this; simp [Res.behind] at this; rw [this]
    obtain ⟨vo, vc, rfl⟩ := rowW_slice i2.ov
    have c2 := i2.b2.cell
    have c3 := i2.b3.cell
    have c4 := i2.b4.cell
    have f2 := i2.b2.frozen
    have f3 := i2.b3.frozen
    have f4 := i2.b4.frozen
    have I2 := Lib.hid i2
    have HKD := Lib.hid hK
    clear i1 i2 hK hinit hbn
    gi_wp2_with fail
    refine wpIn_wide.2 ?_
    go_region
    gi_wp2
    obtain ⟨HK1, HF1⟩ := OfVal.fin I2.out 0 0 (by omega) HKD.out
    rw [Exit.noGoto_ret]
    refine ⟨by simp, .inl ⟨_, _, rfl, run_takeDeferred HK1, ?_⟩⟩
    refine ⟨.tuple #[.slice vo ws.length vc, .int .i64 (0 : Int), .int .i64 (0 : Int)], ?_, ?_⟩
    · exact of_results Tryz.results18 rfl rfl rfl HF1.b2 HF1.b3 HF1.b4
    · rw [HS.out]
      exact ⟨_, rfl, ownBase_W HF1.ov, HF1.below⟩
  case stop =>
    rintro D c pre W hD ⟨q, hq⟩ ⟨rfl, a, e, i1, i2⟩ hK
    have HS : Hid (foldB s.data.toList 0 (piecesB s.data.toList) = .bad a e) := by
      show _ = _
      rw [← hq]; exact i1 q
    have c2 := i2.b2.cell
    have c3 := i2.b3.cell
    have c4 := i2.b4.cell
    have f2 := i2.b2.frozen
    have f3 := i2.b3.frozen
    have f4 := i2.b4.frozen
    have I2 := Lib.hid i2
    have HKD := Lib.hid hK
    clear i1 i2 hK hinit hbn
    gi_wp2_with fail
    refine wpIn_wide.2 ?_
    go_region
    gi_wp2
    obtain ⟨HK1, HF1⟩ := OfVal.fin I2.out a e (by omega) HKD.out
    rw [Exit.noGoto_ret]
    refine ⟨by simp, .inl ⟨_, _, rfl, run_takeDeferred HK1, ?_⟩⟩
    refine ⟨.tuple #[.slice none 0 0, .int .i64 (a : Int), .int .i64 (e : Int)], ?_, ?_⟩
    · exact of_results Tryz.results18 rfl rfl rfl HF1.b2 HF1.b3 HF1.b4
    · rw [HS.out]
      exact ⟨_, rfl, ownBase_W HF1.ov, HF1.below⟩
end
end Go.Proofs.YtenmnpbjnbdeaaaGreatDoor
