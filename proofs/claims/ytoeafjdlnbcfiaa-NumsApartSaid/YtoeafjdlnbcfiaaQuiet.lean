/-
  WHAT IS PROVED: a region that draws its order, whose operations read what was there and whose calls turn nothing that was there, is walked once, in the order of the text.
-/
import Derived.Test.YtoeafjdlnbcfiaaNumsG
namespace Go.Proofs.Ytoeafjdlnbcfiaa
open Go.RowKit

/-- the worlds in which all that is in w stands as it does in w -/
def BW (w : World) : Type := { w' : World // Below w.heap.size w w' }
def bwOf (w : World) (n : BW w) : World := n.1

instance (w : World) : Nonempty (BW w) := ⟨⟨w, Below.refl _ _⟩⟩

theorem bwOf_below (w : World) (n : BW w) : Below w.heap.size w (bwOf w n) := n.2
theorem bwOf_cell (w : World) (a : Addr) (v : Value) (h : w.cell? a = some v) : ∀ n : BW w, (bwOf w n).cell? a = some v := fun n =>
  ((bwOf_below w n).cell (World.block_lt_of_cell? w a h)).trans h
theorem bwOf_row {w : World} {ao : Option Addr} {n cap : Nat} {l : List Nat} (h : Row8 w ao n cap l) (m : BW w) : Row8 (bwOf w m) ao n cap l := h.kept (bwOf_below w m)

/-- a callee that turns nothing that was there -/
theorem below_of {P : Program} {f : FuncId} {args : Array Value} {w : World} {n : BW w} {v : Value}
    (h : Calls P f args (bwOf w n) fun e w' => e = .returned v ∧ Below (bwOf w n).heap.size (bwOf w n) w') :
    Calls P f args (bwOf w n) fun e w'' => e = .returned v ∧ ∃ m : BW w, w'' = bwOf w m :=
  h.mono fun _ w' ⟨he, hb⟩ => ⟨he, ⟨w', below_next (bwOf_below w n) hb⟩, rfl⟩

theorem wp_region_bw {P : Program} {id : Nat} {Q : Exit → Act → World → Prop} {a : Act} {w : World} {l : List Oper} (hm : P.follows .mixedOrders = true) (hB : Region.lexB .any l.toArray = true)
    (h : wpQuiet P l.toArray (fun w' => ∃ n : BW w, w' = bwOf w n) (fun a' => ∀ w', (∃ n : BW w, w' = bwOf w n) → Q .normal a' w') l a) : (Code.region id l.toArray true).wp P Q a w :=
  wp_region_quiet (C := fun w' => ∃ n : BW w, w' = bwOf w n) hm hB ⟨⟨w.drew, (Below.refl _ _).drew⟩, rfl⟩ (by simpa using h)

theorem says_below {f : FuncId} {args : Array Value} {b : Bool} {w : World} (h : Calls Try.prog f args w (Says b w)) : Calls Try.prog f args w fun e w' => e = .returned (.bool b) ∧ Below w.heap.size w w' :=
  h.mono fun _ _ ⟨he, _, hk⟩ => ⟨he, by subst hk; exact ⟨rfl, rfl, rfl, Nat.le_refl _, fun _ _ => rfl⟩⟩

/-- a slice's end -/
theorem Row8.from {w : World} {b off n cap : Nat} {l : List Nat} (h : Row8 w (some ⟨b, off, none⟩) n cap l) (k : Nat) (hk : k ≤ n) (hc : k < cap) : Row8 w (some ⟨b, off + k, none⟩) (n - k) (cap - k) (l.drop k) := by
  have h1 := h.len
  have h2 := h.room
  have h3 := h.most
  refine ⟨by simp; omega, by omega, by omega, fun h => by simp at h, fun a ha j hj => ?_, fun x hx => h.byte x (List.mem_of_mem_drop hx)⟩
  obtain rfl := Option.some.inj ha
  have := h.cell _ rfl (k + j) (by omega)
  rw [Addr.add_lit] at this ⊢
  rw [Nat.add_assoc, this]
  have : k + j < l.length := by omega
  simp [List.getD]

theorem Row8.upto {w : World} {ao : Option Addr} {n cap : Nat} {l : List Nat} (h : Row8 w ao n cap l) (k : Nat) (hk : k ≤ n) : Row8 w ao k cap (l.take k) := by
  have h1 := h.len
  have h2 := h.room
  refine ⟨by simp; omega, by omega, h.most, h.nil, fun a ha j hj => ?_, fun x hx => h.byte x (List.mem_of_mem_take hx)⟩
  rw [h.cell a ha j (by omega)]
  simp [List.getD, hj]

/-- an empty piece reads as nothing -/
theorem Row8.empty {w : World} {ao : Option Addr} {cap : Nat} (h : ao = none → cap = 0) (hm : cap ≤ 9223372036854775807) : Row8 w ao 0 cap [] :=
  ⟨rfl, Nat.zero_le _, hm, h, fun a _ j hj => by omega, fun x hx => by simp at hx⟩
/-- Beyond, of one number -/
theorem beyond_one (n : Nat) (w : World) (hn : n ≤ 9223372036854775807) (b : Bool) (hb : decide (1048576 < n) = b) :
    Calls Try.prog 10 #[.slice (some ⟨w.heap.size, 0, none⟩) 1 1] (w.alloc (.cells #[.int .i64 (n : Int)] 3)) fun e w' =>
      e = .returned (.bool b) ∧ w.alloc (.cells #[.int .i64 (n : Int)] 3) = w' := by
  have := beyond_any w.heap.size 1 [n] (w.alloc (.cells #[.int .i64 (n : Int)] 3)) (rowI_one w n 3) (by simp) (by simpa using hn)
  refine this.mono ?_
  rintro e w' ⟨rfl, rfl⟩
  refine ⟨?_, rfl⟩
  have h : [n].sum = n := by simp
  rw [h, hb]

end Go.Proofs.Ytoeafjdlnbcfiaa
