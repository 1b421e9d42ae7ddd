/-
  WHAT IS PROVED: a slice of acts; Great.
-/
import Derived.Test.YtkmanpmaflpgoaaKit
namespace Go.Proofs.Ytkmanpmaflpgoaa
open Go.RowKit Go.ChangeShapes Go.Lib

/-- one act, as its seven cells have it -/
structure ActM where
  kind : Nat
  nm : ByteArray
  to : ByteArray
  bo : Option Addr
  bn : Nat
  bc : Nat
  z : List Nat
  at_ : Int
  n : Int
  names : Bool
def ActM.cells (x : ActM) : List Value := [.int .u8 (x.kind : Int), .string x.nm, .string x.to, .slice x.bo x.bn x.bc, .int .i64 x.at_, .int .i64 x.n, .bool x.names]

structure RowAct (w : World) (ao : Option Addr) (n cap : Nat) (l : List ActM) : Prop where
  len : l.length = n
  room : n ≤ cap
  most : cap ≤ 9223372036854775807
  nil : ao = none → cap = 0
  cell : ∀ a, ao = some a → ∀ i x, l[i]? = some x → ∀ j v, x.cells[j]? = some v → w.cell? (a.add (i * 7 + j)) = some v
  each : ∀ x ∈ l, Row8 w x.bo x.bn x.bc x.z ∧ x.kind < 256 ∧ x.bn ≤ 140737488351232 ∧ x.nm.size ≤ 140737488351232 ∧ x.to.size ≤ 140737488351232

theorem RowAct.lt {w : World} {ao : Option Addr} {n cap : Nat} {l : List ActM} (h : RowAct w ao n cap l) : ∀ a, ao = some a → 0 < n → a.block < w.heap.size := by
  intro a ha hn
  have hx : l[0]? = some (l[0]'(by rw [h.len]; exact hn)) := by simp [h.len, hn]
  have := World.block_lt_of_cell? w _ (h.cell a ha 0 _ hx 0 _ rfl)
  simpa [Addr.add] using this
theorem RowAct.kept {w w' : World} {ao : Option Addr} {n cap : Nat} {l : List ActM} (h : RowAct w ao n cap l) (hb : Below w.heap.size w w') : RowAct w' ao n cap l := by
  refine ⟨h.len, h.room, h.most, h.nil, fun a ha i x hx j v hv => ?_, fun x hx => ⟨(h.each x hx).1.kept hb, (h.each x hx).2⟩⟩
  have hn : 0 < n := by rw [← h.len]; exact List.length_pos_of_mem (List.mem_of_getElem? hx)
  rw [hb.cell (p := a.add (i * 7 + j)) (by have := h.lt a ha hn; unfold Addr.add; split <;> simpa using this)]
  exact h.cell a ha i x hx j v hv
theorem RowAct.lies {w : World} {ao : Option Addr} {n cap : Nat} {l : List ActM} (h : RowAct w ao n cap l) (hn : 0 < n) :
    ∃ b off, ao = some ⟨b, off, none⟩ ∧ ∀ i x, l[i]? = some x → ∀ j v, x.cells[j]? = some v → w.cell? ⟨b, off + (i * 7 + j), none⟩ = some v := by
  cases ao with
  | none => have := h.nil rfl; have := h.room; omega
  | some a =>
    obtain ⟨b, off, sp⟩ := a
    have hx : l[0]? = some (l[0]'(by rw [h.len]; exact hn)) := by simp [h.len, hn]
    have h0 := h.cell _ rfl 0 _ hx 0 _ rfl
    have hsp : sp = none := by
      cases sp with
      | none => rfl
      | some x =>
        simp [Addr.add, World.cell?] at h0
        split at h0 <;> simp at h0
    subst hsp
    refine ⟨b, off, rfl, fun i x hx j v hv => ?_⟩
    have h1 := h.cell _ rfl i x hx j v hv
    rw [Addr.add_lit] at h1
    exact h1

/-- what is small enough to be gone through -/
def Small (l : List ActM) : Prop := l.length ≤ 200 ∧ ∀ x ∈ l, x.bn ≤ 40000 ∧ x.nm.size ≤ 40000 ∧ x.to.size ≤ 40000

end Go.Proofs.Ytkmanpmaflpgoaa
