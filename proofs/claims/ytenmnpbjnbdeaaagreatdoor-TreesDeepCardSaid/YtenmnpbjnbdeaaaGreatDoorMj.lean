/-
  WHAT IS PROVED: a reader of words: what is next, a step, a word that is taken, or must be there; names, numbers. blocks that hold one expression: kept, stored, read, handed back. contracts of a reader's own steps: the next word, over it, taking it, needing it. a frame whose result lies in a block; contracts: a word that must be there, a name; expressions that are laid of others.
-/
import Derived.Test.YtenmnpbjnbdeaaaGreatDoorMi
import Derived.Test.YtenmnpbjnbdeaaaGreatDoorMh
import Derived.Great.BuildSlice
import Derived.Laws.CopyOwn
import Derived.Lib.SlicesS
namespace Go.Proofs.YtenmnpbjnbdeaaaGreatDoor
section
open Go.RowKit Go.Shelf
set_option linter.unusedVariables false

/-- the slice v reads as what is left of the words; it lies in no block of S -/
def RowT (N B : Nat) (w : World) (v : Value) (l : List WordM) : Prop :=
  ∃ ao cap, v = .slice ao l.length cap ∧ l.length ≤ cap ∧ cap ≤ 9223372036854775807 ∧ (l = [] ∨ ∃ g o, ao = some ⟨g, o, none⟩ ∧ (g ≠ B ∧ g < N) ∧ g < w.heap.size ∧ ∀ (j : Nat) (u : Value), (cellsW l)[j]? = some u → w.cell? ⟨g, o + j, none⟩ = some u)
theorem RowT.turn {N B : Nat} {w w' : World} {v : Value} {l : List WordM} (h : RowT N B w v l) (ht : Turn (· = B) w w') : RowT N B w' v l := by
  obtain ⟨ao, cap, e, h1, h2, h3⟩ := h
  refine ⟨ao, cap, e, h1, h2, ?_⟩
  rcases h3 with h3 | ⟨g, o, e2, q1, q2, q3⟩
  · exact .inl h3
  · exact .inr ⟨g, o, e2, q1, Nat.lt_of_lt_of_le q2 ht.size, fun j u hu => ht.cell (q3 j u hu) q1.1⟩
theorem RowT.of_row {N B : Nat} {w : World} {v : Value} {l : List WordM} (h : RowW w v l) (hB : ∀ g, v.ownBlock = some g → g ≠ B ∧ g < N) : RowT N B w v l := by
  rcases h with ⟨h1, h2⟩ | ⟨g, cap, h1, h2, h3, h4, h5⟩
  · subst h2; exact ⟨none, 0, h1, Nat.le_refl _, by omega, .inl rfl⟩
  · exact ⟨_, cap, h1, h2, h3, .inr ⟨g, 0, rfl, hB g (by rw [h1]; rfl), h4, fun j u hu => by rw [Nat.zero_add]; exact h5 j u hu⟩⟩
def opsL : List (ByteArray × Value) := [
  (strU wOr, .agg #[.int .u8 18, .int .i64 1]), (strU wAnd, .agg #[.int .u8 17, .int .i64 2]), (strU [61], .agg #[.int .u8 11, .int .i64 3]), (strU [60, 62], .agg #[.int .u8 12, .int .i64 3]),
  (strU [60], .agg #[.int .u8 13, .int .i64 3]), (strU [60, 61], .agg #[.int .u8 14, .int .i64 3]), (strU [62], .agg #[.int .u8 15, .int .i64 3]), (strU [62, 61], .agg #[.int .u8 16, .int .i64 3]),
  (strU [43], .agg #[.int .u8 5, .int .i64 4]), (strU wMinus, .agg #[.int .u8 6, .int .i64 4]), (strU [124, 124], .agg #[.int .u8 10, .int .i64 4]), (strU wStar, .agg #[.int .u8 7, .int .i64 5]),
  (strU [47], .agg #[.int .u8 8, .int .i64 5]), (strU [37], .agg #[.int .u8 9, .int .i64 5])]
/-- A READER AT B: what is left of its words, whether one was wrong, the signs' map -/
structure Rd0 (N : Nat) (w : World) (B : Nat) (v : Value) (M : Nat) (t : St) : Prop where
  at_ : w.heap[B]? = some (.cells #[v, .bool t.wrong, .map (some M)] 107 (0, 0))
  row : RowT N B w v t.rest
  ops : MapsTo w M opsL
  notB : M ≠ B
  low : B < N ∧ M < N
  le : N ≤ w.heap.size
  short : ∀ x ∈ t.rest, x.s.length ≤ 5000
def RdAt (N : Nat) (w : World) (B : Nat) (t : St) : Prop := ∃ v M, Rd0 N w B v M t
theorem RdAt.le {N : Nat} {w : World} {B : Nat} {t : St} (h : RdAt N w B t) : N ≤ w.heap.size := by obtain ⟨v, M, h⟩ := h; exact h.le
theorem RdAt.lt {N : Nat} {w : World} {B : Nat} {t : St} (h : RdAt N w B t) : B < w.heap.size := by obtain ⟨v, M, h⟩ := h; exact bk_lt h.at_
theorem Rd0.kept {N : Nat} {w w' : World} {B : Nat} {v : Value} {M : Nat} {t : St} (h : Rd0 N w B v M t) (hb : Below w.heap.size w w') : Rd0 N w' B v M t :=
  ⟨(hb.block B (bk_lt h.at_)).trans h.at_, h.row.turn (Turn.of_below hb), h.ops.kept (hb.block _ h.ops.lt), h.notB, h.low, Nat.le_trans h.le hb.size, h.short⟩
theorem RdAt.kept {N : Nat} {w w' : World} {B : Nat} {t : St} (h : RdAt N w B t) (hb : Below w.heap.size w w') : RdAt N w' B t := by
  obtain ⟨v, M, h⟩ := h; exact ⟨v, M, h.kept hb⟩
theorem Rd0.set {N : Nat} {w : World} {B : Nat} {v : Value} {M : Nat} {t : St} (h : Rd0 N w B v M t) (j : Nat) (u v' : Value) (t' : St) (hc : (#[v, .bool t.wrong, .map (some M)] : Array Value).modify j (fun _ => u) = #[v', .bool t'.wrong, .map (some M)]) (hr : RowT N B w v' t'.rest) (hs : ∀ x ∈ t'.rest, x.s.length ≤ 5000) : Rd0 N (w.setCell ⟨B, j, none⟩ u) B v' M t' := by
  have ht : Turn (· = B) w (w.setCell ⟨B, j, none⟩ u) := Turn.setCell _ w _ _ rfl
  exact ⟨by rw [bk_set u h.at_, hc], hr.turn ht, h.ops.kept (ht.block _ h.ops.lt h.notB), h.notB, h.low, Nat.le_trans h.le ht.size, hs⟩

def wordV (x : WordM) : Value := .agg #[.int .u8 (x.kind : Int), .string (strU x.s), .int .i64 (x.i : Int), .int .i64 (x.pos : Int)]
theorem RowT.first {N B : Nat} {w : World} {v : Value} {x : WordM} {l : List WordM} (h : RowT N B w v (x :: l)) : ∃ g o cap, v = .slice (some ⟨g, o, none⟩) (l.length + 1) cap ∧ l.length + 1 ≤ cap ∧ cap ≤ 9223372036854775807 ∧ (g ≠ B ∧ g < N) ∧ g < w.heap.size ∧
    w.cell? ⟨g, o, none⟩ = some (.int .u8 (x.kind : Int)) ∧ w.cell? ⟨g, o + 1, none⟩ = some (.string (strU x.s)) ∧ w.cell? ⟨g, o + 2, none⟩ = some (.int .i64 (x.i : Int)) ∧ w.cell? ⟨g, o + 3, none⟩ = some (.int .i64 (x.pos : Int)) ∧ (∀ (j : Nat) (u : Value), (cellsW l)[j]? = some u → w.cell? ⟨g, o + 4 + j, none⟩ = some u) := by
  obtain ⟨ao, cap, e, h1, h2, h3⟩ := h
  rcases h3 with h3 | ⟨g, o, rfl, q1, q2, q3⟩
  · cases h3
  · refine ⟨g, o, cap, e, h1, h2, q1, q2, q3 0 _ rfl, q3 1 _ rfl, q3 2 _ rfl, q3 3 _ rfl, fun j u hu => ?_⟩
    have := q3 (4 + j) u (by
      show (x.cells4 ++ cellsW l)[4 + j]? = _
      rw [List.getElem?_append_right (by simp [WordM.cells4])]
      simpa [WordM.cells4] using hu)
    rwa [← Nat.add_assoc] at this
/-- behind the first word -/
theorem RowT.rest {N B : Nat} {w : World} {x : WordM} {l : List WordM} {g o cap : Nat} (h : RowT N B w (.slice (some ⟨g, o, none⟩) (l.length + 1) cap) (x :: l)) (ao : Option Addr) (ha : l ≠ [] → ao = some ⟨g, o + 4, none⟩) : RowT N B w (.slice ao l.length (cap - 1)) l := by
  obtain ⟨g2, o2, cap2, e, h1, h2, q1, q2, _, _, _, _, q3⟩ := h.first
  cases e
  refine ⟨ao, cap - 1, rfl, by omega, by omega, ?_⟩
  by_cases hl : l = []
  · exact .inl hl
  · exact .inr ⟨g, o + 4, ha hl, q1, q2, q3⟩
end
section
open Go.RowKit Go.Shelf
set_option linter.unusedVariables false

def exArr (a : Atom) (u : Value) : Array Value := (eA a u)
/-- block g holds one expression -/
def ExB (w : World) (g : Nat) (a : Atom) (u : Value) : Prop := w.heap[g]? = some (.cells (exArr a u) 36 (0, 0))
theorem ExB.lt {w : World} {g : Nat} {a : Atom} {u : Value} (h : ExB w g a u) : g < w.heap.size := bk_lt h
theorem ExB.kept {w w' : World} {g : Nat} {a : Atom} {u : Value} (h : ExB w g a u) (hb : Below w.heap.size w w') : ExB w' g a u := (hb.block g h.lt).trans h
theorem ExB.turn {S : Nat → Prop} {w w' : World} {g : Nat} {a : Atom} {u : Value} (h : ExB w g a u) (ht : Turn S w w') (hn : ¬ S g) : ExB w' g a u := (ht.block g h.lt hn).trans h
theorem ExB.cells {w : World} {g : Nat} {a : Atom} {u : Value} (h : ExB w g a u) : w.cell? ⟨g, 0, none⟩ = some (.int .u8 (a.kind : Int)) ∧ w.cell? ⟨g, 1, none⟩ = some (.int .u8 (a.op : Int)) ∧ w.cell? ⟨g, 2, none⟩ = some (.string (strU a.table)) ∧ w.cell? ⟨g, 3, none⟩ = some (.string (strU a.name)) ∧ w.cell? ⟨g, 4, none⟩ = some (.int .u8 (a.vk : Int)) ∧ w.cell? ⟨g, 5, none⟩ = some (.int .i64 a.vi) ∧ w.cell? ⟨g, 6, none⟩ = some (.string (strU a.vs)) ∧ w.cell? ⟨g, 7, none⟩ = some (.bool a.star) ∧ w.cell? ⟨g, 8, none⟩ = some u :=
  ⟨bk_cell h 0, bk_cell h 1, bk_cell h 2, bk_cell h 3, bk_cell h 4, bk_cell h 5, bk_cell h 6, bk_cell h 7, bk_cell h 8⟩
theorem ExB.free {w : World} {g : Nat} {a : Atom} {u : Value} (h : ExB w g a u) : w.frozen? ⟨g, 0, none⟩ = false ∧ w.frozen? ⟨g, 1, none⟩ = false ∧ w.frozen? ⟨g, 2, none⟩ = false ∧ w.frozen? ⟨g, 3, none⟩ = false ∧ w.frozen? ⟨g, 4, none⟩ = false ∧ w.frozen? ⟨g, 5, none⟩ = false ∧ w.frozen? ⟨g, 6, none⟩ = false ∧ w.frozen? ⟨g, 7, none⟩ = false ∧ w.frozen? ⟨g, 8, none⟩ = false :=
  ⟨bk_free h 0, bk_free h 1, bk_free h 2, bk_free h 3, bk_free h 4, bk_free h 5, bk_free h 6, bk_free h 7, bk_free h 8⟩
theorem ExB.row {w : World} {g : Nat} {a : Atom} {u : Value} (h : w.heap[g]? = some (.cells (exArr a u) 36 (0, 0))) : ExB w g a u := h
theorem ExB.set {w : World} {g : Nat} {old : Array Value} (h : w.heap[g]? = some (.cells old 36 (0, 0))) (a : Atom) (u : Value) : ExB (w.setRow g (exArr a u)) g a u := setRow_heap w g _ _ _ _ h
theorem Turn.setRow (S : Nat → Prop) (w : World) (g : Nat) (cs : Array Value) (h : S g) : Turn S w (w.setRow g cs) := ⟨rfl, rfl, rfl, by simp, fun k _ hn => setRow_other w g k cs fun e => hn (e ▸ h)⟩
theorem set9 {w : World} {g : Nat} {o0 o1 o2 o3 o4 o5 o6 o7 o8 : Value} {t : TypeId} (h : w.heap[g]? = some (.cells #[o0, o1, o2, o3, o4, o5, o6, o7, o8] t (0, 0))) (a0 a1 a2 a3 a4 a5 a6 a7 a8 : Value) :
    (((((((((w.setCell ⟨g, 0, none⟩ a0).setCell ⟨g, 1, none⟩ a1).setCell ⟨g, 2, none⟩ a2).setCell ⟨g, 3, none⟩ a3).setCell ⟨g, 4, none⟩ a4).setCell ⟨g, 5, none⟩ a5).setCell ⟨g, 6, none⟩ a6).setCell ⟨g, 7, none⟩ a7).setCell ⟨g, 8, none⟩ a8) = w.setRow g #[a0, a1, a2, a3, a4, a5, a6, a7, a8] := by
  have key : ∀ (cs : Array Value) (i : Nat) (v : Value), (w.setRow g cs).setCell ⟨g, i, none⟩ v = w.setRow g (cs.setIfInBounds i v) := fun cs i v => by
    rw [setCell_eq_setRow _ g i cs t (0, 0) v (setRow_heap w g _ _ _ _ h), setRow_setRow]
  have e0 : w.setCell ⟨g, 0, none⟩ a0 = w.setRow g #[a0, o1, o2, o3, o4, o5, o6, o7, o8] := (setCell_eq_setRow w g 0 _ t (0, 0) a0 h).trans (congrArg (w.setRow g) rfl)
  have e1 : (w.setRow g #[a0, o1, o2, o3, o4, o5, o6, o7, o8]).setCell ⟨g, 1, none⟩ a1 = w.setRow g #[a0, a1, o2, o3, o4, o5, o6, o7, o8] := (key _ 1 a1).trans (congrArg (w.setRow g) rfl)
  have e2 : (w.setRow g #[a0, a1, o2, o3, o4, o5, o6, o7, o8]).setCell ⟨g, 2, none⟩ a2 = w.setRow g #[a0, a1, a2, o3, o4, o5, o6, o7, o8] := (key _ 2 a2).trans (congrArg (w.setRow g) rfl)
  have e3 : (w.setRow g #[a0, a1, a2, o3, o4, o5, o6, o7, o8]).setCell ⟨g, 3, none⟩ a3 = w.setRow g #[a0, a1, a2, a3, o4, o5, o6, o7, o8] := (key _ 3 a3).trans (congrArg (w.setRow g) rfl)
  have e4 : (w.setRow g #[a0, a1, a2, a3, o4, o5, o6, o7, o8]).setCell ⟨g, 4, none⟩ a4 = w.setRow g #[a0, a1, a2, a3, a4, o5, o6, o7, o8] := (key _ 4 a4).trans (congrArg (w.setRow g) rfl)
  have e5 : (w.setRow g #[a0, a1, a2, a3, a4, o5, o6, o7, o8]).setCell ⟨g, 5, none⟩ a5 = w.setRow g #[a0, a1, a2, a3, a4, a5, o6, o7, o8] := (key _ 5 a5).trans (congrArg (w.setRow g) rfl)
  have e6 : (w.setRow g #[a0, a1, a2, a3, a4, a5, o6, o7, o8]).setCell ⟨g, 6, none⟩ a6 = w.setRow g #[a0, a1, a2, a3, a4, a5, a6, o7, o8] := (key _ 6 a6).trans (congrArg (w.setRow g) rfl)
  have e7 : (w.setRow g #[a0, a1, a2, a3, a4, a5, a6, o7, o8]).setCell ⟨g, 7, none⟩ a7 = w.setRow g #[a0, a1, a2, a3, a4, a5, a6, a7, o8] := (key _ 7 a7).trans (congrArg (w.setRow g) rfl)
  have e8 : (w.setRow g #[a0, a1, a2, a3, a4, a5, a6, a7, o8]).setCell ⟨g, 8, none⟩ a8 = w.setRow g #[a0, a1, a2, a3, a4, a5, a6, a7, a8] := (key _ 8 a8).trans (congrArg (w.setRow g) rfl)
  rw [e0, e1, e2, e3, e4, e5, e6, e7, e8]
theorem REs.one {P : Nat → Prop} {w : World} {u : Value} {l : Exs} (h : REs P w u l) : u.oneCell' = true := by
  rcases h with ⟨rfl, _⟩ | ⟨g, cap, rfl, _⟩ <;> rfl
theorem REs.slice {P : Nat → Prop} {w : World} {u : Value} {l : Exs} (h : REs P w u l) : ∃ ao n cap, u = .slice ao n cap := by
  rcases h with ⟨rfl, _⟩ | ⟨g, cap, rfl, _⟩ <;> exact ⟨_, _, _, rfl⟩
def zeroE : Array Value := zA
theorem exArr_one (a : Atom) (u : Value) (hu : u.oneCell' = true) : (exArr a u).all (·.oneCell') = true := by
  rw [← Array.all_toList]
  show (true && (true && (true && (true && (true && (true && (true && (true && (u.oneCell' && true))))))))) = true
  rw [hu]; rfl
/-- the store of an expression into a block of one -/
theorem wpList_store_ex {w : World} {ops : Array Oper} {rest : List Oper} {o : Oper} {a : Act} {Q : Exit → Act → World → Prop} (hgd : o.guard = none) (x y : Operand) (ho : o.op = .store 36 x y)
    (g : Nat) (at' : Atom) (u : Value) (hx : a.eval x = .pointer (some ⟨g, 0, none⟩)) (hy : a.eval y = exVal at' u) (hu : u.oneCell' = true)
    (old : Array Value) (hg : w.heap[g]? = some (.cells old 36 (0, 0))) (hold : old.size = 9)
    (h : wpList Tryz.prog ops Q rest (a.put o.dst undef) (w.setRow g (exArr at' u))) : wpList Tryz.prog ops Q (o :: rest) a w :=
  wpList_store_row hgd 36 x y ho g (exArr at' u) hx hy _ old hg (by kernel_rfl) hold (exArr_one _ _ hu) h
/-- what a function hands back whose result lies in a block -/
theorem ex_results {fn : Func} {tmps : Array Value} {W : World} {R k : Nat} {a : Atom} {u : Value} (hres : fn.results = #[.cell k 36]) (h : ExB W R a u) (h2 : tmps[k]? = some (.pointer (some ⟨R, 0, none⟩))) :
    (results fn tmps).run Tryz.prog W = .ok (exVal a u) W := by
  obtain ⟨c0, c1, c2, c3, c4, c5, c6, c7, c8⟩ := h.cells
  simp [results, hres, h2, go_sem, c0, c1, c2, c3, c4, c5, c6, c7, c8, exVal]
/-- WHAT A FUNCTION LEAVES THAT READS AN EXPRESSION -/
def GivesX (N B : Nat) (x : Ex × St) (w : World) (e : Ending) (w' : World) : Prop :=
  ∃ u, e = .returned (exVal x.1.a u) ∧ REs (w.heap.size ≤ ·) w' u x.1.l ∧ RdAt N w' B x.2 ∧ Turn (· = B) w w'
end
section
open Go.RowKit Go.Shelf
set_option linter.unusedVariables false

theorem word_res {fn : Func} {tmps : Array Value} {W : World} {B k : Nat} {a b c d : Value} (hres : fn.results = #[.cell k 90]) (h : Four W B 90 a b c d)
    (h2 : tmps[k]? = some (.pointer (some ⟨B, 0, none⟩))) : (results fn tmps).run Tryz.prog W = .ok (.agg #[a, b, c, d]) W := by
  obtain ⟨c0, c1, c2, c3⟩ := h.cells
  simp [results, hres, h2, go_sem, c0, c1, c2, c3]

set_option maxRecDepth 100000 in
set_option maxHeartbeats 2000000 in
theorem next_any (N B : Nat) (t : St) (w : World) (h : RdAt N w B t) :
    Calls Tryz.prog 93 #[.pointer (some ⟨B, 0, none⟩)] w fun e w' => e = .returned (wordV t.next) ∧ Below w.heap.size w w' := by
  obtain ⟨v, M, h⟩ := h
  obtain ⟨l, wr⟩ := t
  have hlt := bk_lt h.at_
  have hne : B ≠ w.heap.size := by omega
  have c0 : w.cell? ⟨B, 0, none⟩ = some v := bk_cell h.at_ 0
  have c1 : w.cell? ⟨B, 1, none⟩ = some (.bool wr) := bk_cell h.at_ 1
  cases wr with
  | true =>
    clear h
    go_enter Tryz.func93, Tryz.ntmps93
    go_wp2
    exact bodyPost_ret (word_res Tryz.results93 (Four.new _ _ _ _ _ _) rfl) rfl ⟨rfl, below_alloc _ _⟩
  | false =>
    cases l with
    | nil =>
      obtain ⟨ao, cap, rfl, _⟩ := h.row
      clear h
      go_enter Tryz.func93, Tryz.ntmps93
      go_wp2
      exact bodyPost_ret (word_res Tryz.results93 (Four.new _ _ _ _ _ _) rfl) rfl ⟨rfl, below_alloc _ _⟩
    | cons x l =>
      obtain ⟨g, o, cap, rfl, h1, h2, h3, h4, p0, p1, p2, p3, _⟩ := h.row.first
      have hg : g ≠ w.heap.size := by omega
      have hn : (((l.length : Int) + 1) == 0) = false := by rw [beq_eq_false_iff_ne]; omega
      clear h
      go_enter Tryz.func93, Tryz.ntmps93
      go_wp2
      exact bodyPost_ret (word_res Tryz.results93 (Four.new _ _ _ _ _ _) rfl) rfl ⟨rfl, below_alloc _ _⟩

/-- over a word that is there -/
theorem step_any (N B : Nat) (t : St) (w : World) (h : RdAt N w B t) (hr : t.rest ≠ []) :
    Calls Tryz.prog 94 #[.pointer (some ⟨B, 0, none⟩)] w fun e w' => e = .returned (.tuple #[]) ∧ RdAt N w' B t.step ∧ Turn (· = B) w w' := by
  obtain ⟨v, M, h⟩ := h
  obtain ⟨l, wr⟩ := t
  cases l with
  | nil => exact absurd rfl hr
  | cons x l =>
    obtain ⟨g, o, cap, rfl, h1, h2, h3, h4, _⟩ := h.row.first
    have H := Lib.hid h
    have c0 : w.cell? ⟨B, 0, none⟩ = some (.slice (some ⟨g, o, none⟩) (l.length + 1) cap) := bk_cell h.at_ 0
    have f0 : w.frozen? ⟨B, 0, none⟩ = false := bk_free h.at_ 0
    have hge : (1 : Int) ≤ (l.length : Int) + 1 := by omega
    have hge2 : 1 ≤ l.length + 1 := by omega
    clear h hr
    by_cases hc : cap = 1
    · subst hc
      obtain rfl : l = [] := List.eq_nil_of_length_eq_zero (by omega)
      go_enter Tryz.func94, Tryz.ntmps94
      go_wp2
      go_end0
      exact ⟨rfl, ⟨_, M, H.out.set 0 _ _ ⟨[], wr⟩ rfl (H.out.row.rest _ (fun e => absurd rfl e)) (fun y hy => absurd hy (by simp))⟩, Turn.setCell _ w _ _ rfl⟩
    · go_enter Tryz.func94, Tryz.ntmps94
      go_wp2
      go_end0
      exact ⟨rfl, ⟨_, M, H.out.set 0 _ _ ⟨l, wr⟩ rfl (H.out.row.rest _ (fun e => rfl)) (fun y hy => H.out.short y (List.mem_cons_of_mem _ hy))⟩, Turn.setCell _ w _ _ rfl⟩

theorem St.next_of_has {t : St} {s : List UInt8} (h : t.has s = true) : t.next.kind ≠ 3 ∧ t.next.s = s := by
  unfold St.has at h
  simp only [Bool.not_eq_true', Bool.or_eq_false_iff, beq_eq_false_iff_ne, bne_eq_false_iff_eq] at h
  exact h
theorem St.next_of_no {t : St} {s : List UInt8} (h : t.has s = false) : t.next.kind = 3 ∨ t.next.s ≠ s := by
  unfold St.has at h
  simp only [Bool.not_eq_false', Bool.or_eq_true, beq_iff_eq, bne_iff_ne] at h
  exact h
theorem St.rest_ne {t : St} {s : List UInt8} (h : t.has s = true) (hs : s ≠ []) : t.rest ≠ [] := by
  have := (St.has_lt h hs).1
  intro e; rw [e] at this; simp at this
theorem strU_eq {a b : List UInt8} : strU a = strU b ↔ a = b := ⟨fun h => by
  have := congrArg (fun x : ByteArray => x.data.toList) h
  simpa [strU] using this, fun h => by rw [h]⟩
theorem str_no {x y : ByteArray} (h : x ≠ y) : (x.toList == y.toList) = false := Bool.eq_false_iff.2 fun e => h ((Lib.bytes_beq_iff x y).1 e)

/-- a word that is there is taken -/
theorem take_yes (N B : Nat) (t : St) (s : ByteArray) (w : World) (h : RdAt N w B t) (ht : t.has s.data.toList = true) (hs : s.data.toList ≠ []) :
    Calls Tryz.prog 54 #[.pointer (some ⟨B, 0, none⟩), .string s] w fun e w' => e = .returned (.bool true) ∧ RdAt N w' B t.step ∧ Turn (· = B) w w' := by
  obtain ⟨hk, hw⟩ := St.next_of_has ht
  have hne := St.rest_ne ht hs
  have HR := Lib.hid h
  have hN := next_any N B t w h
  unfold wordV at hN
  rw [hw, strU_of] at hN
  obtain ⟨k, hkk⟩ : ∃ k, t.next.kind = k := ⟨_, rfl⟩
  obtain ⟨i, hi⟩ : ∃ i, t.next.i = i := ⟨_, rfl⟩
  obtain ⟨p, hp⟩ : ∃ p, t.next.pos = p := ⟨_, rfl⟩
  rw [hkk, hi, hp] at hN
  have hk3 : ((k : Int) == 3) = false := by rw [beq_eq_false_iff_ne]; omega
  clear hk hw hkk hi hp h ht
  go_enter Tryz.func54, Tryz.ntmps54
  go_wp2_with fail
  refine hN.mono ?_
  rintro e w1 ⟨rfl, hb1⟩
  have HR1 := Lib.hid (HR.out.kept hb1)
  have HB1 := Lib.hid hb1
  clear hb1
  go_wp2_with fail
  refine (step_any N B t _ (HR1.out.kept (below_alloc _ _)) hne).mono ?_
  rintro e w2 ⟨rfl, h2, ht2⟩
  have H2 := Lib.hid (And.intro h2 ((Turn.of_below (HB1.out.trans ((below_alloc _ _).mono HB1.out.size))).trans ht2))
  clear h2 ht2
  go_wp2_with fail
  go_ret
  exact ⟨rfl, H2.out.1, H2.out.2⟩
/-- one that is not there is left -/
theorem take_no (N B : Nat) (t : St) (s : ByteArray) (w : World) (h : RdAt N w B t) (ht : t.has s.data.toList = false) :
    Calls Tryz.prog 54 #[.pointer (some ⟨B, 0, none⟩), .string s] w fun e w' => e = .returned (.bool false) ∧ RdAt N w' B t ∧ Below w.heap.size w w' := by
  have hw := St.next_of_no ht
  have HR := Lib.hid h
  have hN := next_any N B t w h
  unfold wordV at hN
  obtain ⟨k, hkk⟩ : ∃ k, t.next.kind = k := ⟨_, rfl⟩
  obtain ⟨i, hi⟩ : ∃ i, t.next.i = i := ⟨_, rfl⟩
  obtain ⟨p, hp⟩ : ∃ p, t.next.pos = p := ⟨_, rfl⟩
  obtain ⟨z, hz⟩ : ∃ z, strU t.next.s = z := ⟨_, rfl⟩
  rw [hkk, hi, hp, hz] at hN
  rw [hkk] at hw
  by_cases hk : k = 3
  · subst hk
    clear hw hkk hi hp h ht hz
    go_enter Tryz.func54, Tryz.ntmps54
    go_wp2_with fail
    refine hN.mono ?_
    rintro e w1 ⟨rfl, hb1⟩
    have H2 := Lib.hid (And.intro (HR.out.kept (hb1.trans ((below_alloc _ (.cells #[.int .u8 3, .string z, .int .i64 (i : Int), .int .i64 (p : Int)] 90)).mono hb1.size))) (hb1.trans ((below_alloc _ (.cells #[.int .u8 3, .string z, .int .i64 (i : Int), .int .i64 (p : Int)] 90)).mono hb1.size)))
    clear hb1
    go_wp2_with fail
    go_ret
    exact ⟨rfl, H2.out.1, H2.out.2⟩
  · have hk3 : ((k : Int) == 3) = false := by rw [beq_eq_false_iff_ne]; omega
    have hzs : (z.toList == s.toList) = false := str_no <| by
      rcases hw with hw | hw
      · exact absurd hw hk
      · intro e; apply hw; rw [← e, ← hz, strU_data]
    clear hw hkk hi hp h ht hz hk
    go_enter Tryz.func54, Tryz.ntmps54
    go_wp2_with fail
    refine hN.mono ?_
    rintro e w1 ⟨rfl, hb1⟩
    have H2 := Lib.hid (And.intro (HR.out.kept (hb1.trans ((below_alloc _ (.cells #[.int .u8 (k : Int), .string z, .int .i64 (i : Int), .int .i64 (p : Int)] 90)).mono hb1.size))) (hb1.trans ((below_alloc _ (.cells #[.int .u8 (k : Int), .string z, .int .i64 (i : Int), .int .i64 (p : Int)] 90)).mono hb1.size)))
    clear hb1
    go_wp2_with fail
    go_ret
    exact ⟨rfl, H2.out.1, H2.out.2⟩
end
section
open Go.RowKit Go.Shelf
set_option linter.unusedVariables false

/-- a call under way whose result lies in block R -/
structure Fr (N B R : Nat) (w wi : World) (t : St) : Prop where
  rd : RdAt N wi B t
  turn : Turn (· = B) w wi
  res : wi.heap[R]? = some (.cells zeroE 36 (0, 0))
  hB : B < w.heap.size
  hR : w.heap.size ≤ R
  hN : N ≤ R
theorem Fr.start {N B : Nat} {w : World} {t : St} (h : RdAt N w B t) : Fr N B w.heap.size w (w.alloc (.cells zeroE 36)) t :=
  ⟨h.kept (below_alloc _ _), Turn.alloc _ _ _, heap_alloc_new _ _, h.lt, Nat.le_refl _, h.le⟩
theorem Fr.call {N B R : Nat} {w wi wj : World} {t t' : St} (h : Fr N B R w wi t) (hr : RdAt N wj B t') (ht : Turn (· = B) wi wj) : Fr N B R w wj t' :=
  ⟨hr, h.turn.trans ht, (ht.block R (bk_lt h.res) (fun e => by have := h.hB; have := h.hR; omega)).trans h.res, h.hB, h.hR, h.hN⟩
theorem Fr.new {N B R : Nat} {w wi wj : World} {t : St} (h : Fr N B R w wi t) (hb : Below wi.heap.size wi wj) : Fr N B R w wj t := h.call (h.rd.kept hb) (Turn.of_below hb)
theorem Fr.past {N B R : Nat} {w wi : World} {t : St} (h : Fr N B R w wi t) {k : Nat} (hk : wi.heap.size ≤ k) : R < k := Nat.lt_of_lt_of_le (bk_lt h.res) hk
theorem Fr.notB {N B R : Nat} {w wi : World} {t : St} (h : Fr N B R w wi t) {k : Nat} (hk : R < k) : ¬ k = B := by have := h.hB; have := h.hR; omega
/-- a slice of what a call has given, as the frame sees it -/
theorem Fr.got {N B R : Nat} {w wi wj : World} {t : St} {u : Value} {l : Exs} (h : Fr N B R w wi t) (hs : REs (wi.heap.size ≤ ·) wj u l) : REs (R < ·) wj u l := hs.mono fun k hk _ => h.past hk
theorem Fr.keep {N B R : Nat} {w wi wj : World} {t : St} {u : Value} {l : Exs} (h : Fr N B R w wi t) (hs : REs (R < ·) wi u l) (ht : Turn (· = B) wi wj) : REs (R < ·) wj u l := hs.turn ht fun k hk => h.notB hk
theorem Fr.done {N B R : Nat} {w wi : World} {t : St} {a : Atom} {u : Value} {l : Exs} (h : Fr N B R w wi t) (hs : REs (R < ·) wi u l) : GivesX N B (⟨a, l⟩, t) w (.returned (exVal a u)) (wi.setRow R (exArr a u)) := by
  have ht : Turn (· = R) wi (wi.setRow R (exArr a u)) := Turn.setRow _ _ _ _ rfl
  refine ⟨u, rfl, (hs.turn ht (fun k hk e => by omega)).mono (fun k hk _ => by have := h.hR; omega), ?_, ?_⟩
  · obtain ⟨v, M, q⟩ := h.rd
    have hN := h.hN
    have hlow := q.low
    refine ⟨v, M, (ht.block B (bk_lt q.at_) (fun e => by omega)).trans q.at_, ?_, q.ops.kept (ht.block M q.ops.lt fun e => by omega), q.notB, q.low, Nat.le_trans q.le ht.size, q.short⟩
    obtain ⟨ao, cap, e, h1, h2, h3⟩ := q.row
    refine ⟨ao, cap, e, h1, h2, ?_⟩
    rcases h3 with h3 | ⟨g, o, e2, q1, q2, q3⟩
    · exact .inl h3
    · exact .inr ⟨g, o, e2, q1, Nat.lt_of_lt_of_le q2 ht.size, fun j v hv => ht.cell (q3 j v hv) (fun e => by have := q1.2; change g = R at e; omega)⟩
  · exact h.turn.next ht (fun k hk e => by have := h.hR; omega)

theorem Fr.setRow {N B R : Nat} {w wi : World} {t : St} (h : Fr N B R w wi t) {X : Nat} (hX : R < X) (cs : Array Value) : Fr N B R w (wi.setRow X cs) t := by
  have ht : Turn (· = X) wi (wi.setRow X cs) := Turn.setRow _ _ _ _ rfl
  have h1 := h.hB
  have h2 := h.hR
  have h3 := h.hN
  refine ⟨?_, h.turn.next ht (fun k hk e => by omega), (ht.block R (bk_lt h.res) (by omega)).trans h.res, h1, h2, h3⟩
  obtain ⟨v, M, q⟩ := h.rd
  have hlow := q.low
  refine ⟨v, M, (ht.block B (bk_lt q.at_) (by omega)).trans q.at_, ?_, q.ops.kept (ht.block M q.ops.lt (by omega)), q.notB, q.low, Nat.le_trans q.le ht.size, q.short⟩
  obtain ⟨ao, cap, e, h1, h2, h3⟩ := q.row
  refine ⟨ao, cap, e, h1, h2, ?_⟩
  rcases h3 with h3 | ⟨g, o, e2, q1, q2, q3⟩
  · exact .inl h3
  · exact .inr ⟨g, o, e2, q1, Nat.lt_of_lt_of_le q2 ht.size, fun j v hv => ht.cell (q3 j v hv) (fun e => by have := q1.2; change g = X at e; omega)⟩

theorem St.need_yes {t : St} {s : List UInt8} (h : t.has s = true) : t.need s = t.step := by unfold St.need; rw [if_pos h]
theorem St.need_no {t : St} {s : List UInt8} (h : t.has s = false) : t.need s = t.bad := by unfold St.need; rw [if_neg (by rw [h]; simp)]
theorem Rd0.bad {N B : Nat} {w : World} {v : Value} {M : Nat} {t : St} (h : Rd0 N w B v M t) : Rd0 N (w.setCell ⟨B, 1, none⟩ (.bool true)) B v M t.bad := h.set 1 _ _ t.bad rfl h.row h.short
set_option maxHeartbeats 1000000 in
theorem need_any (N B : Nat) (t : St) (s : ByteArray) (w : World) (h : RdAt N w B t) (hs : s.data.toList ≠ []) :
    Calls Tryz.prog 60 #[.pointer (some ⟨B, 0, none⟩), .string s] w fun e w' => e = .returned (.tuple #[]) ∧ RdAt N w' B (t.need s.data.toList) ∧ Turn (· = B) w w' := by
  cases ht : t.has s.data.toList with
  | true =>
    rw [St.need_yes ht]
    go_enter Tryz.func60, Tryz.ntmps60
    go_wp2_with fail
    refine (take_yes N B t s w h ht hs).mono ?_
    rintro e w1 ⟨rfl, hr, ht⟩
    have H := Lib.hid (And.intro hr ht)
    clear hr ht
    go_wp2_with fail
    go_end0
    exact ⟨rfl, H.out.1, H.out.2⟩
  | false =>
    rw [St.need_no ht]
    go_enter Tryz.func60, Tryz.ntmps60
    go_wp2_with fail
    refine (take_no N B t s w h ht).mono ?_
    rintro e w1 ⟨rfl, ⟨v, M, hr⟩, hb⟩
    have c1 : w1.cell? ⟨B, 1, none⟩ = some (.bool t.wrong) := bk_cell hr.at_ 1
    have f1 : w1.frozen? ⟨B, 1, none⟩ = false := bk_free hr.at_ 1
    have HR := Lib.hid hr
    have HB := Lib.hid hb
    clear hr hb h ht
    go_wp2_with fail
    go_end0
    exact ⟨rfl, ⟨v, M, HR.out.bad⟩, (Turn.of_below HB.out).trans (Turn.setCell _ w1 _ _ rfl)⟩

theorem nameP_yes {t : St} (h1 : t.next.kind = 1) (h2 : nameB t.next.s = true) : nameP t = (t.next.s, t.step) := by unfold nameP; rw [if_pos ⟨h1, h2⟩]
theorem nameP_no {t : St} (h : ¬ (t.next.kind = 1 ∧ nameB t.next.s = true)) : nameP t = ([], t.bad) := by unfold nameP; rw [if_neg h]
theorem rest_of_kind {t : St} (h : t.next.kind ≠ 0) : t.rest ≠ [] := by
  intro e
  apply h
  unfold St.next
  rw [e]
  split <;> rfl
theorem RdAt.short {N B : Nat} {w : World} {t : St} (h : RdAt N w B t) : t.next.s.length ≤ 5000 := by
  obtain ⟨v, M, h⟩ := h
  unfold St.next
  split
  · exact Nat.zero_le _
  · cases hr : t.rest with
    | nil => exact Nat.zero_le _
    | cons x r => exact h.short x (by rw [hr]; exact List.mem_cons_self)
set_option maxHeartbeats 2000000 in
theorem name_tr (N B : Nat) (t : St) (w : World) (h : RdAt N w B t) :
    Calls Tryz.prog 61 #[.pointer (some ⟨B, 0, none⟩)] w fun e w' => e = .returned (.string (strU (nameP t).1)) ∧ RdAt N w' B (nameP t).2 ∧ Turn (· = B) w w' := by
  have HR := Lib.hid h
  have hz := h.short
  have hN := next_any N B t w h
  unfold wordV at hN
  have hY := fun w => name_yes (strU t.next.s) (nameB t.next.s) (by rw [strU_data]) w (by rw [strU_size]; omega)
  by_cases hk : t.next.kind = 1
  · cases hb : nameB t.next.s with
    | true =>
      rw [nameP_yes hk hb]
      have hne := rest_of_kind (t := t) (by omega)
      rw [hb] at hY
      obtain ⟨i, hi⟩ : ∃ i, t.next.i = i := ⟨_, rfl⟩
      obtain ⟨p, hp⟩ : ∃ p, t.next.pos = p := ⟨_, rfl⟩
      obtain ⟨z, hzz⟩ : ∃ z, strU t.next.s = z := ⟨_, rfl⟩
      rw [hk, hi, hp, hzz] at hN
      rw [hzz] at hY
      dsimp only
      rw [hzz]
      clear hk hb hi hp hzz h
      go_enter Tryz.func61, Tryz.ntmps61
      go_wp2_with fail
      refine hN.mono ?_
      rintro e w1 ⟨rfl, hb1⟩
      obtain ⟨w2, hw2⟩ : ∃ w2, w2 = w1.alloc (.cells #[.int .u8 1, .string z, .int .i64 (i : Int), .int .i64 (p : Int)] 90) := ⟨_, rfl⟩
      have HB2 : Hid (Below w.heap.size w w2) := Lib.hid (by rw [hw2]; exact hb1.trans ((below_alloc _ _).mono hb1.size))
      have hgB : ¬ w1.heap.size = B := by have := hb1.size; have := HR.out.lt; omega
      have HF2 : Hid (Four w2 w1.heap.size 90 (.int .u8 1) (.string z) (.int .i64 (i : Int)) (.int .i64 (p : Int))) := Lib.hid (by rw [hw2]; exact Four.new _ _ _ _ _ _)
      clear hb1
      go_wp2_with (go_at_call 22; rw [← hw2]; refine (hY _).mono ?_; rintro e w3 ⟨rfl, hb3⟩; have HB3 := Lib.hid (HB2.out.trans (hb3.mono HB2.out.size)); obtain ⟨q0, q1, q2, q3⟩ := (HF2.out.kept hb3).cells; have HRX := HR.out.kept HB3.out; obtain ⟨vx, M, hrx⟩ := HRX; have d1 : w3.cell? ⟨B, 1, none⟩ = some (.bool t.wrong) := bk_cell hrx.at_ 1; have e1 := bk_free hrx.at_ 1; have HX := Lib.hid hrx; clear hb3 hrx)
      refine (step_any N B t _ (HR.out.kept HB3.out) hne).mono ?_
      rintro e w4 ⟨rfl, hr, ht⟩
      have H := Lib.hid (And.intro hr ((Turn.of_below HB3.out).trans ht))
      have c1 : w4.cell? ⟨w1.heap.size, 1, none⟩ = some (.string z) := ht.cell q1 hgB
      clear hr ht d1 e1
      go_wp2_with fail
      go_ret
      exact ⟨rfl, H.out.1, H.out.2⟩
    | false =>
      rw [nameP_no (by rw [hb]; simp)]
      rw [hb] at hY
      obtain ⟨i, hi⟩ : ∃ i, t.next.i = i := ⟨_, rfl⟩
      obtain ⟨p, hp⟩ : ∃ p, t.next.pos = p := ⟨_, rfl⟩
      obtain ⟨z, hzz⟩ : ∃ z, strU t.next.s = z := ⟨_, rfl⟩
      rw [hk, hi, hp, hzz] at hN
      rw [hzz] at hY
      dsimp only
      clear hk hb hi hp hzz h
      go_enter Tryz.func61, Tryz.ntmps61
      go_wp2_with fail
      refine hN.mono ?_
      rintro e w1 ⟨rfl, hb1⟩
      obtain ⟨w2, hw2⟩ : ∃ w2, w2 = w1.alloc (.cells #[.int .u8 1, .string z, .int .i64 (i : Int), .int .i64 (p : Int)] 90) := ⟨_, rfl⟩
      have HB2 : Hid (Below w.heap.size w w2) := Lib.hid (by rw [hw2]; exact hb1.trans ((below_alloc _ _).mono hb1.size))
      have hgB : ¬ w1.heap.size = B := by have := hb1.size; have := HR.out.lt; omega
      have HF2 : Hid (Four w2 w1.heap.size 90 (.int .u8 1) (.string z) (.int .i64 (i : Int)) (.int .i64 (p : Int))) := Lib.hid (by rw [hw2]; exact Four.new _ _ _ _ _ _)
      clear hb1
      go_wp2_with (go_at_call 22; rw [← hw2]; refine (hY _).mono ?_; rintro e w3 ⟨rfl, hb3⟩; have HB3 := Lib.hid (HB2.out.trans (hb3.mono HB2.out.size)); obtain ⟨q0, q1, q2, q3⟩ := (HF2.out.kept hb3).cells; have HRX := HR.out.kept HB3.out; obtain ⟨vx, M, hrx⟩ := HRX; have d1 : w3.cell? ⟨B, 1, none⟩ = some (.bool t.wrong) := bk_cell hrx.at_ 1; have e1 := bk_free hrx.at_ 1; have HX := Lib.hid hrx; clear hb3 hrx)
      go_ret
      exact ⟨rfl, ⟨vx, M, HX.out.bad⟩, (Turn.of_below HB3.out).trans (Turn.setCell _ _ _ _ rfl)⟩
  · rw [nameP_no (fun h => hk h.1)]
    obtain ⟨i, hi⟩ : ∃ i, t.next.i = i := ⟨_, rfl⟩
    obtain ⟨p, hp⟩ : ∃ p, t.next.pos = p := ⟨_, rfl⟩
    obtain ⟨z, hzz⟩ : ∃ z, strU t.next.s = z := ⟨_, rfl⟩
    obtain ⟨k, hkk⟩ : ∃ k, t.next.kind = k := ⟨_, rfl⟩
    rw [hkk, hi, hp, hzz] at hN
    rw [hkk] at hk
    have hk1 : ¬ (k : Int) = 1 := by omega
    dsimp only
    clear hk hkk hi hp hzz h hY
    go_enter Tryz.func61, Tryz.ntmps61
    go_wp2_with fail
    refine hN.mono ?_
    rintro e w1 ⟨rfl, hb1⟩
    obtain ⟨w2, hw2⟩ : ∃ w2, w2 = w1.alloc (.cells #[.int .u8 (k : Int), .string z, .int .i64 (i : Int), .int .i64 (p : Int)] 90) := ⟨_, rfl⟩
    have HB2 : Hid (Below w.heap.size w w2) := Lib.hid (by rw [hw2]; exact hb1.trans ((below_alloc _ _).mono hb1.size))
    have hgB : ¬ w1.heap.size = B := by have := hb1.size; have := HR.out.lt; omega
    have HF2 : Hid (Four w2 w1.heap.size 90 (.int .u8 (k : Int)) (.string z) (.int .i64 (i : Int)) (.int .i64 (p : Int))) := Lib.hid (by rw [hw2]; exact Four.new _ _ _ _ _ _)
    clear hb1
    obtain ⟨vx, M, hrx⟩ := HR.out.kept HB2.out
    have d1 : w2.cell? ⟨B, 1, none⟩ = some (.bool t.wrong) := bk_cell hrx.at_ 1
    have e1 := bk_free hrx.at_ 1
    have HX := Lib.hid hrx
    have HB3 := HB2
    rw [hw2] at d1 e1
    clear hrx
    go_wp2_with fail
    go_ret
    rw [← hw2]
    exact ⟨rfl, ⟨vx, M, HX.out.bad⟩, (Turn.of_below HB3.out).trans (Turn.setCell _ _ _ _ rfl)⟩

theorem alloc_at {w : World} {o : Obj} {k : Nat} (h : w.heap.size = k) : (w.alloc o).heap[k]? = some o := by subst h; exact heap_alloc_new w o
theorem below_two (w : World) (o p : Obj) : Below w.heap.size w ((w.alloc o).alloc p) := (below_alloc _ _).trans ((below_alloc _ _).mono (by simp))
theorem below_three (w : World) (o p q : Obj) : Below w.heap.size w (((w.alloc o).alloc p).alloc q) := (below_two _ _ _).trans ((below_alloc _ _).mono (by simp; omega))
theorem below_four (w : World) (o p q r : Obj) : Below w.heap.size w ((((w.alloc o).alloc p).alloc q).alloc r) := (below_three _ _ _ _).trans ((below_alloc _ _).mono (by simp; omega))
set_option maxHeartbeats 1000000 in
theorem literal_tr (k : Nat) (i : Int) (s : List UInt8) (w : World) : Calls Tryz.prog 188 #[.agg #[.int .u8 (k : Int), .int .i64 i, .string (strU s)]] w fun e w' => e = .returned (exVal (litE k i s).a nS) ∧ Below w.heap.size w w' := by
  go_enter Tryz.func188, Tryz.ntmps188
  go_wp2
  exact bodyPost_ret (ex_results (R := w.heap.size + 1) (a := (litE k i s).a) (u := .slice none 0 0) Tryz.results188 (alloc_at (by simp)) rfl) rfl ⟨rfl, below_two _ _ _⟩
set_option maxHeartbeats 1000000 in
theorem unary_tr (op : Nat) (x : Ex) (u : Value) (P : Nat → Prop) (w : World) (hs : REs P w u x.l) (hP : ∀ k, w.heap.size ≤ k → P k) : Calls Tryz.prog 146 #[.int .u8 (op : Int), exVal x.a u] w fun e w' => ∃ v, e = .returned (exVal (oneE op x).a v) ∧ REs P w' v (oneE op x).l ∧ Below w.heap.size w w' := by
  have h1 := hs.one
  have HS := Lib.hid hs
  unfold exVal
  clear hs
  go_enter Tryz.func146, Tryz.ntmps146
  go_wp2
  refine bodyPost_ret (ex_results (R := w.heap.size + 1) (a := (oneE op x).a) (u := .slice (some ⟨w.heap.size + 1 + 1, 0, none⟩) 1 1) Tryz.results146 ((heap_alloc_old _ _ (by simp)).trans (alloc_at (by simp))) rfl) rfl ⟨_, rfl, ?_, below_three _ _ _ _⟩
  exact REs.of_block (us := [u]) (l := [x]) (alloc_at (by simp)) rfl ⟨HS.out.below (below_three _ _ _ _), trivial⟩ (hP _ (by omega)) (by simp) 1 rfl
set_option maxHeartbeats 1000000 in
theorem binary_tr (op : Nat) (x y : Ex) (u v : Value) (P : Nat → Prop) (w : World) (hs : REs P w u x.l) (hv : REs P w v y.l) (hP : ∀ k, w.heap.size ≤ k → P k) : Calls Tryz.prog 118 #[.int .u8 (op : Int), exVal x.a u, exVal y.a v] w fun e w' => ∃ z, e = .returned (exVal (twoE op x y).a z) ∧ REs P w' z (twoE op x y).l ∧ Below w.heap.size w w' := by
  have h1 := hs.one
  have h2 := hv.one
  have HS := Lib.hid hs
  have HV := Lib.hid hv
  unfold exVal
  clear hs hv
  go_enter Tryz.func118, Tryz.ntmps118
  go_wp2
  refine bodyPost_ret (ex_results (R := w.heap.size + 1 + 1) (a := (twoE op x y).a) (u := .slice (some ⟨w.heap.size + 1 + 1 + 1, 0, none⟩) 2 2) Tryz.results118 ((heap_alloc_old _ _ (by simp)).trans (alloc_at (by simp))) rfl) rfl ⟨_, rfl, ?_, below_four _ _ _ _ _⟩
  exact REs.of_block (us := [u, v]) (l := [x, y]) (alloc_at (by simp)) rfl ⟨HS.out.below (below_four _ _ _ _ _), HV.out.below (below_four _ _ _ _ _), trivial⟩ (hP _ (by omega)) (by simp) 2 rfl
end
end Go.Proofs.YtenmnpbjnbdeaaaGreatDoor
