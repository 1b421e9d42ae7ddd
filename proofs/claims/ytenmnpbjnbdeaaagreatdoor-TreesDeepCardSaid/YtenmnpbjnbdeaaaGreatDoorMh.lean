/-
  WHAT IS PROVED: plain facts for a Book: what a call may turn, rows of the call's own that lie apart. a map of the call's own, keyed by texts: what a store makes of it, what it tells at a text.
-/
import Derived.Test.YtenmnpbjnbdeaaaGreatDoorMa
import Derived.Laws.AppendOwn
import Derived.Maps.OwnOps
namespace Go.Proofs.YtenmnpbjnbdeaaaGreatDoor
section
open Go.RowKit
set_option linter.unusedVariables false

theorem bk_cell {w : World} {B : Nat} {cs : Array Value} {t : TypeId} (h : w.heap[B]? = some (.cells cs t (0, 0))) (j : Nat) : w.cell? ⟨B, j, none⟩ = cs[j]? := by
  simp [World.cell?, h]
theorem bk_free {w : World} {B : Nat} {cs : Array Value} {t : TypeId} (h : w.heap[B]? = some (.cells cs t (0, 0))) (j : Nat) : w.frozen? ⟨B, j, none⟩ = false := by
  simp [World.frozen?, h]
theorem bk_lt {w : World} {B : Nat} {o : Obj} (h : w.heap[B]? = some o) : B < w.heap.size := (Array.getElem?_eq_some_iff.1 h).1
theorem bk_set {w : World} {B j : Nat} {cs : Array Value} {t : TypeId} (v : Value) (h : w.heap[B]? = some (.cells cs t (0, 0))) : (w.setCell ⟨B, j, none⟩ v).heap[B]? = some (.cells (cs.modify j fun _ => v) t (0, 0)) := by
  obtain ⟨hlt, hk⟩ := Array.getElem?_eq_some_iff.1 h
  show (w.heap.modify B _)[B]? = _
  rw [Array.getElem?_eq_getElem (by rw [Array.size_modify]; exact hlt), Array.getElem_modify_self, hk]
  rfl

/-- WHAT A CALL TURNS: the blocks of S, no other one that was there -/
structure Turn (S : Nat → Prop) (w w' : World) : Prop where
  os : w'.os = w.os
  tape : w'.tape = w.tape
  output : w'.output = w.output
  size : w.heap.size ≤ w'.heap.size
  block : ∀ k, k < w.heap.size → ¬ S k → w'.heap[k]? = w.heap[k]?
theorem Turn.refl (S : Nat → Prop) (w : World) : Turn S w w := ⟨rfl, rfl, rfl, Nat.le_refl _, fun _ _ _ => rfl⟩
theorem Turn.trans {S : Nat → Prop} {w w' w2 : World} (h : Turn S w w') (h' : Turn S w' w2) : Turn S w w2 :=
  ⟨h'.os.trans h.os, h'.tape.trans h.tape, h'.output.trans h.output, Nat.le_trans h.size h'.size, fun k hk hs => (h'.block k (Nat.lt_of_lt_of_le hk h.size) hs).trans (h.block k hk hs)⟩
theorem Turn.mono {S T : Nat → Prop} {w w' : World} (h : Turn S w w') (hs : ∀ k, k < w.heap.size → S k → T k) : Turn T w w' :=
  ⟨h.os, h.tape, h.output, h.size, fun k hk hn => h.block k hk (fun hS => hn (hs k hk hS))⟩
/-- what is new behind w may be turned, too -/
theorem Turn.next {S T : Nat → Prop} {w w' w2 : World} (h : Turn S w w') (h' : Turn T w' w2) (hs : ∀ k, k < w.heap.size → T k → S k) : Turn S w w2 :=
  ⟨h'.os.trans h.os, h'.tape.trans h.tape, h'.output.trans h.output, Nat.le_trans h.size h'.size, fun k hk hn => (h'.block k (Nat.lt_of_lt_of_le hk h.size) (fun hT => hn (hs k hk hT))).trans (h.block k hk hn)⟩
theorem Turn.alloc (S : Nat → Prop) (w : World) (o : Obj) : Turn S w (w.alloc o) := ⟨rfl, rfl, rfl, by simp, fun k hk _ => heap_alloc_old w o hk⟩
theorem Turn.grown {w w' : World} {row : Option Nat} (h : w.grownBy w' row) : Turn (fun k => row = some k) w w' :=
  ⟨h.os, h.tape, h.output, h.size, fun k hk hn => h.block k hk (fun e => hn e.symm)⟩
theorem Turn.setCell (S : Nat → Prop) (w : World) (p : Addr) (v : Value) (h : S p.block) : Turn S w (w.setCell p v) := by
  refine ⟨rfl, rfl, rfl, ?_, fun k hk hn => ?_⟩
  · show _ ≤ (w.heap.modify p.block _).size
    rw [Array.size_modify]; exact Nat.le_refl _
  · show (w.heap.modify p.block _)[k]? = _
    rw [Array.getElem?_modify, if_neg (fun e : p.block = k => hn (e ▸ h))]
theorem Turn.at_ {S : Nat → Prop} {w w' : World} (h : Turn S w w') {k : Nat} {o : Obj} (hk : w.heap[k]? = some o) (hn : ¬ S k) : w'.heap[k]? = some o := (h.block k (bk_lt hk) hn).trans hk
theorem Turn.cell {S : Nat → Prop} {w w' : World} (h : Turn S w w') {p : Addr} {v : Value} (hk : w.cell? p = some v) (hn : ¬ S p.block) : w'.cell? p = some v :=
  (World.cell?_of_block (h.block p.block (World.block_lt_of_cell? w p hk) hn)).trans hk
theorem Turn.own {S : Nat → Prop} {w w' : World} (h : Turn S w w') {base e size n : Nat} {v : Value} {xs : List Value} (ho : w.ownsRow base e size v n xs) (hn : ∀ k, v.ownBlock = some k → ¬ S k) : w'.ownsRow base e size v n xs := by
  refine ⟨ho.1, ?_⟩
  rcases ho.2 with h0 | ⟨g, cap, cur, rfl, h1, h2, h3⟩
  · exact .inl h0
  · exact .inr ⟨g, cap, cur, rfl, h1, h.at_ h2 (hn g rfl), h3⟩

/-! ### What a Book keeps -/
structure Ent where
  v : Value
  long : Value
  n : Nat
  k : Nat
def Ent.cells (e : Ent) : List Value := [e.v, e.long, .int .i64 (e.k : Int)]
end
section
open Go.RowKit Go.MapKept
set_option linter.unusedVariables false

/-- block M is a map with these texts and values, in this order -/
def MapsTo (w : World) (M : Nat) (L : List (ByteArray × Value)) : Prop :=
  ∃ es clock, w.heap[M]? = some (.map es clock) ∧ es.toList.map (fun e => (e.key, e.val)) = L.map fun p => (Value.string p.1, p.2)
theorem MapsTo.lt {w : World} {M : Nat} {L : List (ByteArray × Value)} (h : MapsTo w M L) : M < w.heap.size := by
  obtain ⟨es, c, hb, _⟩ := h; exact bk_lt hb
theorem MapsTo.kept {w w' : World} {M : Nat} {L : List (ByteArray × Value)} (h : MapsTo w M L) (he : w'.heap[M]? = w.heap[M]?) : MapsTo w' M L := by
  obtain ⟨es, c, hb, hl⟩ := h; exact ⟨es, c, he.trans hb, hl⟩
/-- the first value at a text -/
def findS (s : ByteArray) : List (ByteArray × Value) → Option Value
  | [] => none
  | p :: L => if s = p.1 then some p.2 else findS s L
theorem find_maps (s : ByteArray) : ∀ (L : List (ByteArray × Value)) (es : List MapEntry) (i : Nat), es.map (fun e => (e.key, e.val)) = L.map (fun p => (Value.string p.1, p.2)) →
    ∃ r, Instr.findNow .string (.string s) es i = some r ∧ r.map (·.2) = findS s L
  | [], [], i, _ => ⟨none, rfl, rfl⟩
  | [], _ :: _, _, h => by simp at h
  | _ :: _, [], _, h => by simp at h
  | p :: L, e :: es, i, h => by
    simp only [List.map_cons, List.cons.injEq, Prod.mk.injEq] at h
    obtain ⟨⟨h1, h2⟩, h3⟩ := h
    unfold Instr.findNow findS
    rw [h1]
    by_cases hs : s = p.1
    · subst hs
      refine ⟨some (i, e.val), by simp only [Instr.sameNow]; rw [show (p.1 == p.1) = true from (bytes_beq _ _).2 rfl], by simp [h2]⟩
    · obtain ⟨r, q1, q2⟩ := find_maps s L es (i + 1) h3
      refine ⟨r, ?_, by rw [if_neg hs]; exact q2⟩
      have : Instr.sameNow .string (.string s) (.string p.1) = some false := by
        simp only [Instr.sameNow]; rw [show (s == p.1) = false from Bool.eq_false_iff.2 fun h => hs ((bytes_beq _ _).1 h)]
      rw [this]; exact q1
theorem run_look {P : Program} {w : World} {M : Nat} {L : List (ByteArray × Value)} (h : MapsTo w M L) {t k e : TypeId} (ht : P.underlying t = some (.map k e)) (hk : P.underlying k = some .string) {z : Value} (hz : (zeroValue e).run P w = .ok z w) (s : ByteArray) :
    (Instr.lookup t (.map (some M)) (.string s) false).run P w = .ok ((findS s L).getD z) w := by
  obtain ⟨es, c, hb, hl⟩ := h
  obtain ⟨r, h1, h2⟩ := find_maps s L es.toList 0 hl
  rw [← h2]
  have hc := run_checkKey (w := w) (k := .string s) hk trivial es.isEmpty 9999
  have hf := run_findKey (w := w) hk h1
  cases r with
  | none => simp [Instr.lookup, run_underlying ht, Go.MapKept.run_getObj_map hb, hc, hf, hz, Result.andThen]
  | some r => simp [Instr.lookup, run_underlying ht, Go.MapKept.run_getObj_map hb, hc, hf, Result.andThen]
/-- what a store of a new text leaves -/
theorem run_store {P : Program} {w : World} {M : Nat} {L : List (ByteArray × Value)} (h : MapsTo w M L) {t k e : TypeId} (ht : P.underlying t = some (.map k e)) (hk : P.underlying k = some .string) (s : ByteArray) (v : Value) (hn : findS s L = none) :
    ∃ w', (Instr.mapUpdate t (.map (some M)) (.string s) v).run P w = .ok () w' ∧ MapsTo w' M (L ++ [(s, v)]) ∧ Turn (· = M) w w' ∧ w'.heap.size = w.heap.size := by
  obtain ⟨es, c, hb, hl⟩ := h
  obtain ⟨r, h1, h2⟩ := find_maps s L es.toList 0 hl
  rw [hn] at h2
  have hr : r = none := by cases r <;> simp_all
  subst hr
  have hc := run_checkKey (w := w) (k := .string s) hk trivial false 9999
  have hf := run_findKey (w := w) hk h1
  refine ⟨{ w with heap := w.heap.setIfInBounds M (.map (es.push { key := .string s, val := v, born := c }) (c + 1)) }, by simp only [Instr.mapUpdate, Sem.run_bind, run_underlying ht, Go.MapKept.run_getObj_map hb, hc, hf, Result.andThen]; exact Go.MapKept.run_setObj_map _ hb, ⟨_, _, (heap_set hb).1, ?_⟩, ⟨rfl, rfl, rfl, by simp, fun j _ hj => (heap_set hb).2 j hj⟩, by simp⟩
  rw [Array.toList_push, List.map_append, List.map_append, hl]; rfl
theorem MapsTo.made (w : World) : MapsTo (w.alloc (.map #[] 0)) w.heap.size [] := ⟨#[], 0, heap_alloc_new w _, rfl⟩
end
end Go.Proofs.YtenmnpbjnbdeaaaGreatDoor
