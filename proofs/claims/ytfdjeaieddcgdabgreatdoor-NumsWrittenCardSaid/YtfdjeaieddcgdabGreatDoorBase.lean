/-
  WHAT IS PROVED: what it is for a slice of bytes to read as a list, and that this stays so behind new blocks, and behind writes to other ones.
-/
import Derived.WalkKit
import Derived.WalkSpells
import Derived.WalkLawsBesides
import Derived.BigQuiet
import Derived.Deep.QuietTactic
import Derived.Lib.Hide
import Derived.OpenShut
import Derived.Test.YtfdjeaieddcgdabGreatDoorPure
namespace Go.Proofs.YtfdjeaieddcgdabGreatDoor
open Go.RowKit

/-- bytes as cells -/
def cells8 (l : List Nat) : List Value := l.map fun x : Nat => Value.int .u8 (x : Int)

/-- THE SLICE 'ao, n, cap' READS AS THE BYTES l -/
structure Row8 (w : World) (ao : Option Addr) (n cap : Nat) (l : List Nat) : Prop where
  len : l.length = n
  room : n ≤ cap
  most : cap ≤ 9223372036854775807
  nil : ao = none → cap = 0
  cell : ∀ a, ao = some a → ∀ j, j < n → w.cell? (a.add j) = some (.int .u8 (l.getD j 0 : Nat))
  byte : ∀ x ∈ l, x < 256

theorem Row8.below {B : Nat} {w w' : World} {ao : Option Addr} {n cap : Nat} {l : List Nat} (h : Row8 w ao n cap l) (hb : Below B w w') (hB : ∀ a, ao = some a → 0 < n → a.block < B) : Row8 w' ao n cap l := by
  refine ⟨h.len, h.room, h.most, h.nil, fun a ha j hj => ?_, h.byte⟩
  rw [hb.cell (p := a.add j) (by have := hB a ha (by omega); unfold Addr.add; split <;> simpa using this)]
  exact h.cell a ha j hj

theorem Row8.lt {w : World} {ao : Option Addr} {n cap : Nat} {l : List Nat} (h : Row8 w ao n cap l) : ∀ a, ao = some a → 0 < n → a.block < w.heap.size := by
  intro a ha hn
  have := World.block_lt_of_cell? w _ (h.cell a ha 0 hn)
  simpa [Addr.add] using this

/-- nothing that was there has turned: it reads as it did -/
theorem Row8.kept {w w' : World} {ao : Option Addr} {n cap : Nat} {l : List Nat} (h : Row8 w ao n cap l) (hb : Below w.heap.size w w') : Row8 w' ao n cap l := h.below hb h.lt

theorem below_alloc (w : World) (o : Obj) : Below w.heap.size w (w.alloc o) := (Below.refl _ _).alloc (Nat.le_refl _) o
theorem Row8.alloc {w : World} {ao : Option Addr} {n cap : Nat} {l : List Nat} (h : Row8 w ao n cap l) (o : Obj) : Row8 (w.alloc o) ao n cap l := h.kept (below_alloc w o)
theorem Row8.drew {w : World} {ao : Option Addr} {n cap : Nat} {l : List Nat} (h : Row8 w ao n cap l) : Row8 w.drew ao n cap l := h.kept (Below.refl _ _).drew

theorem cells8_getElem? (l : List Nat) (j : Nat) (h : j < l.length) : (cells8 l)[j]? = some (.int .u8 (l.getD j 0 : Nat)) := by
  simp [cells8, h]

theorem cells8_length (l : List Nat) : (cells8 l).length = l.length := by simp [cells8]
theorem cells8_append (l m : List Nat) : cells8 l ++ cells8 m = cells8 (l ++ m) := by simp [cells8]
theorem cells8_one (l : List Nat) : ∀ u ∈ cells8 l, u.oneCell' = true := by
  intro u hu
  obtain ⟨_, _, rfl⟩ := List.mem_map.1 hu
  rfl

/-- what the call owns reads as its bytes -/
theorem Row8.of_owns {w : World} {base e : Nat} {v : Value} {l : List Nat} (h : w.ownsRow base e 1 v l.length (cells8 l)) (hb : ∀ x ∈ l, x < 256) :
    ∃ ao cap, v = .slice ao l.length cap ∧ Row8 w ao l.length cap l ∧ (∀ a, ao = some a → base ≤ a.block ∧ a.off = 0 ∧ a.spot = .none) := by
  rcases h.2 with ⟨rfl, hn⟩ | ⟨g, cap, cur, rfl, hg, hh, hc, hm, hs, ht⟩
  · obtain rfl : l = [] := List.eq_nil_of_length_eq_zero hn
    exact ⟨.none, 0, rfl, ⟨rfl, Nat.le_refl _, by simp, fun _ => rfl, fun a ha => by simp at ha, hb⟩, fun a ha => by simp at ha⟩
  · refine ⟨some ⟨g, 0, .none⟩, cap, rfl, ⟨rfl, hc, hm, fun h => by simp at h, fun a ha j hj => ?_, hb⟩, fun a ha => by simp at ha; subst ha; exact ⟨hg, rfl, rfl⟩⟩
    obtain rfl := Option.some.inj ha
    exact h.cells (g := g) rfl j _ (cells8_getElem? l j hj)

end Go.Proofs.YtfdjeaieddcgdabGreatDoor
