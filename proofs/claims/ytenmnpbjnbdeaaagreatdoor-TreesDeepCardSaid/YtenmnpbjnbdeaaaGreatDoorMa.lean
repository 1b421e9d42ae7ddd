/-
  WHAT IS PROVED: plain facts on the digits of numbers to the base 128, on lists of bytes, and what a reading of them comes to. No program is named here. plain facts on what the bytes at the head of a list tell as a number. No program is named here. what it is for a slice of bytes to read as a list, and that this stays so behind new blocks, and behind writes to other ones. the kit of these proofs: slices that read as lists of bytes or of strings, appends to what is owned, regions that draw their order and turn nothing.
-/
import Derived.WalkKit
import Derived.WalkSpells
import Derived.WalkLawsBesides
import Derived.BigQuiet
import Derived.Deep.QuietTactic
import Derived.Lib.Hide
import Derived.OpenShut
import Derived.Test.YtenmnpbjnbdeaaaGreatDoorRows
import Derived.Lib.SlBytesConst
import Derived.SizedLaws
import Derived.SliceStrings
import Derived.Laws.AppendOwnNone
import Derived.Deep.RegionWith
import Derived.Lib.OwnKind
namespace Go.Proofs.YtenmnpbjnbdeaaaGreatDoor
section
end
section
end
section
open Go.RowKit

/-- THE SLICE 'ao, n, cap' READS AS THE BYTES l -/
structure Row8 (w : World) (ao : Option Addr) (n cap : Nat) (l : List Nat) : Prop where
  len : l.length = n
  room : n ≤ cap
  most : cap ≤ 9223372036854775807
  nil : ao = none → cap = 0
  cell : ∀ a, ao = some a → ∀ j, j < n → w.cell? (a.add j) = some (.int .u8 (l.getD j 0 : Nat))
  byte : ∀ x ∈ l, x < 256

theorem Row8.below {B : Nat} {w w' : World} {ao : Option Addr} {n cap : Nat} {l : List Nat} (h : Row8 w ao n cap l) (hb : Below B w w') (hB : ∀ a, ao = some a → 0 < n → a.block < B) : Row8 w' ao n cap l := by
  refine ⟨h.len, h.room, h.most, h.nil, fun a ha j hj => ?_, h.byte⟩
  rw [hb.cell (p := a.add j) (by have := hB a ha (by omega); unfold Addr.add; split <;> simpa using this)]
  exact h.cell a ha j hj

theorem Row8.lt {w : World} {ao : Option Addr} {n cap : Nat} {l : List Nat} (h : Row8 w ao n cap l) : ∀ a, ao = some a → 0 < n → a.block < w.heap.size := by
  intro a ha hn
  have := World.block_lt_of_cell? w _ (h.cell a ha 0 hn)
  simpa [Addr.add] using this

/-- nothing that was there has turned: it reads as it did -/
theorem Row8.kept {w w' : World} {ao : Option Addr} {n cap : Nat} {l : List Nat} (h : Row8 w ao n cap l) (hb : Below w.heap.size w w') : Row8 w' ao n cap l := h.below hb h.lt

theorem below_alloc (w : World) (o : Obj) : Below w.heap.size w (w.alloc o) := (Below.refl _ _).alloc (Nat.le_refl _) o
theorem Row8.alloc {w : World} {ao : Option Addr} {n cap : Nat} {l : List Nat} (h : Row8 w ao n cap l) (o : Obj) : Row8 (w.alloc o) ao n cap l := h.kept (below_alloc w o)
theorem Row8.drew {w : World} {ao : Option Addr} {n cap : Nat} {l : List Nat} (h : Row8 w ao n cap l) : Row8 w.drew ao n cap l := h.kept (Below.refl _ _).drew

end
section
open Go.RowKit Go.ChangeShapes

theorem Tryz.info8 : (Tryz.prog.info? 5).map (fun i => (i.zero, i.size, i.bytes)) = some (some (.int .u8 0), 1, 1) := by kernel_rfl

theorem wf_u8 {a : Int} (h : (Lit.int .u8 a).wf = true) : 0 ≤ a ∧ a ≤ 255 := by simpa [Lit.wf, IntKind.min, IntKind.max, IntKind.signed, IntKind.bits] using h

theorem Row8.lies {w : World} {ao : Option Addr} {n cap : Nat} {l : List Nat} (h : Row8 w ao n cap l) (hn : 0 < n) :
    ∃ b off, ao = some ⟨b, off, none⟩ ∧ ∀ j c, l[j]? = some (c : Nat) → w.cell? ⟨b, off + j, none⟩ = some (.int .u8 (c : Int)) := by
  cases ao with
  | none => have := h.nil rfl; have := h.room; omega
  | some a =>
    obtain ⟨b, off, sp⟩ := a
    have h0 := h.cell _ rfl 0 hn
    have hsp : sp = none := by
      cases sp with
      | none => rfl
      | some x =>
        simp [Addr.add, World.cell?] at h0
        split at h0 <;> simp at h0
    subst hsp
    refine ⟨b, off, rfl, fun j c hc => ?_⟩
    have hj := (List.getElem?_eq_some_iff.1 hc).1
    have h1 := h.cell _ rfl j (by have := h.len; omega)
    rw [Addr.add_lit] at h1
    rw [h1]
    simp [List.getD, hc]

theorem row_nil (w : World) : Row8 w none 0 0 [] := ⟨rfl, Nat.le_refl _, by omega, fun _ => rfl, fun a ha => by simp at ha, fun x hx => by simp at hx⟩

theorem below_step {w wk w' : World} {o : Obj} (h : Below w.heap.size w wk) (h' : Below (wk.alloc o).heap.size (wk.alloc o) w') : Below w.heap.size w w' :=
  (h.alloc h.size o).trans (h'.mono (by have := h.size; simp; omega))

theorem below_next {w wk w' : World} (h : Below w.heap.size w wk) (h' : Below wk.heap.size wk w') : Below w.heap.size w w' := h.trans (h'.mono h.size)

theorem Row8.step {wk w' : World} {o : Obj} {ao : Option Addr} {n cap : Nat} {l : List Nat} (h : Row8 wk ao n cap l) (h' : Below (wk.alloc o).heap.size (wk.alloc o) w') : Row8 w' ao n cap l := (h.alloc o).kept h'

/-- the worlds in which all that is in w stands as it does in w -/
def BW (w : World) : Type := { w' : World // Below w.heap.size w w' }

def bwOf (w : World) (n : BW w) : World := n.1

instance (w : World) : Nonempty (BW w) := ⟨⟨w, Below.refl _ _⟩⟩

theorem bwOf_below (w : World) (n : BW w) : Below w.heap.size w (bwOf w n) := n.2

theorem bwOf_cell (w : World) (a : Addr) (v : Value) (h : w.cell? a = some v) : ∀ n : BW w, (bwOf w n).cell? a = some v := fun n =>
  ((bwOf_below w n).cell (World.block_lt_of_cell? w a h)).trans h

/-- a callee that turns nothing that was there -/
theorem below_of {P : Program} {f : FuncId} {args : Array Value} {w : World} {n : BW w} {v : Value}
    (h : Calls P f args (bwOf w n) fun e w' => e = .returned v ∧ Below (bwOf w n).heap.size (bwOf w n) w') :
    Calls P f args (bwOf w n) fun e w'' => e = .returned v ∧ ∃ m : BW w, w'' = bwOf w m :=
  h.mono fun _ w' ⟨he, hb⟩ => ⟨he, ⟨w', below_next (bwOf_below w n) hb⟩, rfl⟩

theorem wp_region_bw {P : Program} {id : Nat} {Q : Exit → Act → World → Prop} {a : Act} {w : World} {l : List Oper} (hm : P.follows .mixedOrders = true) (hB : Region.lexB .any l.toArray = true)
    (h : wpQuiet P l.toArray (fun w' => ∃ n : BW w, w' = bwOf w n) (fun a' => ∀ w', (∃ n : BW w, w' = bwOf w n) → Q .normal a' w') l a) : (Code.region id l.toArray true).wp P Q a w :=
  wp_region_quiet (C := fun w' => ∃ n : BW w, w' = bwOf w n) hm hB ⟨⟨w.drew, (Below.refl _ _).drew⟩, rfl⟩ (by simpa using h)

/-- a slice's end -/
theorem Row8.from {w : World} {b off n cap : Nat} {l : List Nat} (h : Row8 w (some ⟨b, off, none⟩) n cap l) (k : Nat) (hk : k ≤ n) (hc : k < cap) : Row8 w (some ⟨b, off + k, none⟩) (n - k) (cap - k) (l.drop k) := by
  have h1 := h.len
  have h2 := h.room
  have h3 := h.most
  refine ⟨by simp; omega, by omega, by omega, fun h => by simp at h, fun a ha j hj => ?_, fun x hx => h.byte x (List.mem_of_mem_drop hx)⟩
  obtain rfl := Option.some.inj ha
  have := h.cell _ rfl (k + j) (by omega)
  rw [Addr.add_lit] at this ⊢
  rw [Nat.add_assoc, this]
  have : k + j < l.length := by omega
  simp [List.getD]

/-- an empty piece reads as nothing -/
theorem Row8.empty {w : World} {ao : Option Addr} {cap : Nat} (h : ao = none → cap = 0) (hm : cap ≤ 9223372036854775807) : Row8 w ao 0 cap [] :=
  ⟨rfl, Nat.zero_le _, hm, h, fun a _ j hj => by omega, fun x hx => by simp at hx⟩

/-- a slice of bytes that came in -/
theorem row_in (W : World) (x : Addr) (l c : Nat) (zs : List Int) (hl : l ≤ c) (hm : c ≤ maxLen) (hz : zs.length = c) (hcell : ∀ i, i < zs.length → W.cell? (x.add i) = some (.int .u8 (zs.getD i 0)))
    (hwz : ∀ n ∈ zs, (Lit.int .u8 n).wf = true) : Row8 W (some x) l c ((zs.take l).map Int.toNat) := by
  refine ⟨by simp; omega, hl, by unfold maxLen at hm; exact hm, fun h => by simp at h, fun a ha j hj => ?_, fun y hy => ?_⟩
  · obtain rfl := Option.some.inj ha
    rw [hcell j (by omega)]
    have hw := wf_u8 (hwz (zs[j]'(by omega)) (List.getElem_mem _))
    have : j < zs.length := by omega
    simp [List.getD, this, hj]
    omega
  · obtain ⟨z, hz', rfl⟩ := List.mem_map.1 hy
    have := wf_u8 (hwz z (List.mem_of_mem_take hz'))
    omega

theorem ret_val {k : IntKind} {a b : Int} (h : a = b) : Ending.returned (.int k a) = .returned (.int k b) := by rw [h]

/-- THE SLICE 'ao, n, cap' READS AS THE STRINGS ss -/
structure RowS (w : World) (ao : Option Addr) (n cap : Nat) (ss : List ByteArray) : Prop where
  len : ss.length = n
  room : n ≤ cap
  most : cap ≤ 9223372036854775807
  nil : ao = none → cap = 0
  cell : ∀ a, ao = some a → ∀ j, j < n → w.cell? (a.add j) = some (.string (ss.getD j ByteArray.empty))
  size : ∀ s ∈ ss, s.size ≤ 140737488351232

theorem RowS.lt {w : World} {ao : Option Addr} {n cap : Nat} {l : List ByteArray} (h : RowS w ao n cap l) : ∀ a, ao = some a → 0 < n → a.block < w.heap.size := by
  intro a ha hn
  have := World.block_lt_of_cell? w _ (h.cell a ha 0 hn)
  simpa [Addr.add] using this

theorem RowS.kept {w w' : World} {ao : Option Addr} {n cap : Nat} {l : List ByteArray} (h : RowS w ao n cap l) (hb : Below w.heap.size w w') : RowS w' ao n cap l := by
  refine ⟨h.len, h.room, h.most, h.nil, fun a ha j hj => ?_, h.size⟩
  rw [hb.cell (p := a.add j) (by have := h.lt a ha (by omega); unfold Addr.add; split <;> simpa using this)]
  exact h.cell a ha j hj

theorem RowS.lies {w : World} {ao : Option Addr} {n cap : Nat} {l : List ByteArray} (h : RowS w ao n cap l) (hn : 0 < n) :
    ∃ b off, ao = some ⟨b, off, none⟩ ∧ ∀ j c, l[j]? = some (c : ByteArray) → w.cell? ⟨b, off + j, none⟩ = some (.string c) := by
  cases ao with
  | none => have := h.nil rfl; have := h.room; omega
  | some a =>
    obtain ⟨b, off, sp⟩ := a
    have h0 := h.cell _ rfl 0 hn
    have hsp : sp = none := by
      cases sp with
      | none => rfl
      | some x =>
        simp [Addr.add, World.cell?] at h0
        split at h0 <;> simp at h0
    subst hsp
    refine ⟨b, off, rfl, fun j c hc => ?_⟩
    have hj := (List.getElem?_eq_some_iff.1 hc).1
    have h1 := h.cell _ rfl j (by have := h.len; omega)
    rw [Addr.add_lit] at h1
    rw [h1]
    simp [List.getD, hc]

/-- how many letters there are -/
def letters (ss : List ByteArray) : Nat := (ss.map ByteArray.size).sum

end
end Go.Proofs.YtenmnpbjnbdeaaaGreatDoor
