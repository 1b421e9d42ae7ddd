/-
  WHAT IS PROVED: the kit of these proofs: slices that read as lists of bytes or of strings, appends to what is owned, regions that draw their order and turn nothing.
-/
import Derived.Test.YtfdjeaieddcgdabGreatDoorRows
import Derived.Test.YtfdjeaieddcgdabGreatDoorBase
import Derived.Test.YtfdjeaieddcgdabGreatDoorGetPure
import Derived.Lib.SlBytesConst
import Derived.SizedLaws
import Derived.SliceStrings
import Derived.Laws.AppendOwnNone
import Derived.Deep.RegionWith
import Derived.Lib.OwnKind
namespace Go.Proofs.YtfdjeaieddcgdabGreatDoor
open Go.RowKit Go.ChangeShapes

/-- numbers as a string's bytes -/
def strB (l : List Nat) : ByteArray := ⟨(l.map UInt8.ofNat).toArray⟩
theorem strB_eq (l : List Nat) : strOfNums (l.map fun x : Nat => (x : Int)) = strB l := by
  unfold strOfNums strB
  congr 1
  simp

theorem Tryz.info8 : (Tryz.prog.info? 5).map (fun i => (i.zero, i.size, i.bytes)) = some (some (.int .u8 0), 1, 1) := by kernel_rfl

theorem wf_u64 {a : Int} (h : (Lit.int .u64 a).wf = true) : 0 ≤ a ∧ a ≤ 18446744073709551615 := by simpa [Lit.wf, IntKind.min, IntKind.max, IntKind.signed, IntKind.bits] using h
theorem wf_i64 {a : Int} (h : (Lit.int .i64 a).wf = true) : -9223372036854775808 ≤ a ∧ a ≤ 9223372036854775807 := by simpa [Lit.wf, IntKind.min, IntKind.max, IntKind.signed, IntKind.bits] using h
theorem wf_u16 {a : Int} (h : (Lit.int .u16 a).wf = true) : 0 ≤ a ∧ a ≤ 65535 := by simpa [Lit.wf, IntKind.min, IntKind.max, IntKind.signed, IntKind.bits] using h
theorem wf_u8 {a : Int} (h : (Lit.int .u8 a).wf = true) : 0 ≤ a ∧ a ≤ 255 := by simpa [Lit.wf, IntKind.min, IntKind.max, IntKind.signed, IntKind.bits] using h

theorem Row8.lies {w : World} {ao : Option Addr} {n cap : Nat} {l : List Nat} (h : Row8 w ao n cap l) (hn : 0 < n) :
    ∃ b off, ao = some ⟨b, off, none⟩ ∧ ∀ j c, l[j]? = some (c : Nat) → w.cell? ⟨b, off + j, none⟩ = some (.int .u8 (c : Int)) := by
  cases ao with
  | none => have := h.nil rfl; have := h.room; omega
  | some a =>
    obtain ⟨b, off, sp⟩ := a
    have h0 := h.cell _ rfl 0 hn
    have hsp : sp = none := by
      cases sp with
      | none => rfl
      | some x =>
        simp [Addr.add, World.cell?] at h0
        split at h0 <;> simp at h0
    subst hsp
    refine ⟨b, off, rfl, fun j c hc => ?_⟩
    have hj := (List.getElem?_eq_some_iff.1 hc).1
    have h1 := h.cell _ rfl j (by have := h.len; omega)
    rw [Addr.add_lit] at h1
    rw [h1]
    simp [List.getD, hc]

/-- what a comparison leaves: its answer; the world but for draws -/
def Says (b : Bool) (w : World) (e : Ending) (w' : World) : Prop := e = .returned (.bool b) ∧ ∃ k, w.drewN k = w'

theorem same_next {l m : List Nat} {k c : Nat} (h : l.take k = m.take k) (hl : l[k]? = some c) (hm : m[k]? = some c) : l.take (k + 1) = m.take (k + 1) := by
  rw [List.take_add_one, List.take_add_one, h, hl, hm]

theorem drewN_add (w : World) (j k : Nat) : (w.drewN j).drewN k = w.drewN (j + k) := by
  simp [World.drewN, Nat.add_assoc]

theorem row_nil (w : World) : Row8 w none 0 0 [] := ⟨rfl, Nat.le_refl _, by omega, fun _ => rfl, fun a ha => by simp at ha, fun x hx => by simp at hx⟩

/-- bytes that are written out: a new block -/
theorem row_new (w : World) (l : List Nat) (n B : Nat) (fr : Nat × Nat) (hB : w.heap.size = B) (hn : l.length = n) (hl : ∀ x ∈ l, x < 256) (h : n ≤ 1000) : Row8 (w.alloc (.cells (cells8 l).toArray 5 fr)) (some ⟨B, 0, none⟩) n n l := by
  subst hn hB
  refine ⟨rfl, Nat.le_refl _, by omega, fun h => by simp at h, fun a ha j hj => ?_, hl⟩
  obtain rfl := Option.some.inj ha
  have hadd : (⟨w.heap.size, 0, none⟩ : Addr).add j = ⟨w.heap.size, j, none⟩ := by unfold Addr.add; split <;> simp_all
  have hnew := heap_alloc_new w (.cells (cells8 l).toArray 5 fr)
  rw [hadd]
  refine (cell_of_row _ w.heap.size j _ _ _ hnew).trans ?_
  rw [List.getElem?_toArray]
  exact cells8_getElem? l j hj

theorem below_step {w wk w' : World} {o : Obj} (h : Below w.heap.size w wk) (h' : Below (wk.alloc o).heap.size (wk.alloc o) w') : Below w.heap.size w w' :=
  (h.alloc h.size o).trans (h'.mono (by have := h.size; simp; omega))

theorem below_next {w wk w' : World} (h : Below w.heap.size w wk) (h' : Below wk.heap.size wk w') : Below w.heap.size w w' := h.trans (h'.mono h.size)

theorem Row8.step {wk w' : World} {o : Obj} {ao : Option Addr} {n cap : Nat} {l : List Nat} (h : Row8 wk ao n cap l) (h' : Below (wk.alloc o).heap.size (wk.alloc o) w') : Row8 w' ao n cap l := (h.alloc o).kept h'

/-- the worlds in which all that is in w stands as it does in w -/
def BW (w : World) : Type := { w' : World // Below w.heap.size w w' }

def bwOf (w : World) (n : BW w) : World := n.1

instance (w : World) : Nonempty (BW w) := ⟨⟨w, Below.refl _ _⟩⟩

theorem bwOf_below (w : World) (n : BW w) : Below w.heap.size w (bwOf w n) := n.2

theorem bwOf_cell (w : World) (a : Addr) (v : Value) (h : w.cell? a = some v) : ∀ n : BW w, (bwOf w n).cell? a = some v := fun n =>
  ((bwOf_below w n).cell (World.block_lt_of_cell? w a h)).trans h

theorem bwOf_row {w : World} {ao : Option Addr} {n cap : Nat} {l : List Nat} (h : Row8 w ao n cap l) (m : BW w) : Row8 (bwOf w m) ao n cap l := h.kept (bwOf_below w m)

/-- a callee that turns nothing that was there -/
theorem below_of {P : Program} {f : FuncId} {args : Array Value} {w : World} {n : BW w} {v : Value}
    (h : Calls P f args (bwOf w n) fun e w' => e = .returned v ∧ Below (bwOf w n).heap.size (bwOf w n) w') :
    Calls P f args (bwOf w n) fun e w'' => e = .returned v ∧ ∃ m : BW w, w'' = bwOf w m :=
  h.mono fun _ w' ⟨he, hb⟩ => ⟨he, ⟨w', below_next (bwOf_below w n) hb⟩, rfl⟩

theorem wp_region_bw {P : Program} {id : Nat} {Q : Exit → Act → World → Prop} {a : Act} {w : World} {l : List Oper} (hm : P.follows .mixedOrders = true) (hB : Region.lexB .any l.toArray = true)
    (h : wpQuiet P l.toArray (fun w' => ∃ n : BW w, w' = bwOf w n) (fun a' => ∀ w', (∃ n : BW w, w' = bwOf w n) → Q .normal a' w') l a) : (Code.region id l.toArray true).wp P Q a w :=
  wp_region_quiet (C := fun w' => ∃ n : BW w, w' = bwOf w n) hm hB ⟨⟨w.drew, (Below.refl _ _).drew⟩, rfl⟩ (by simpa using h)

theorem says_below {f : FuncId} {args : Array Value} {b : Bool} {w : World} (h : Calls Tryz.prog f args w (Says b w)) : Calls Tryz.prog f args w fun e w' => e = .returned (.bool b) ∧ Below w.heap.size w w' :=
  h.mono fun _ _ ⟨he, _, hk⟩ => ⟨he, by subst hk; exact ⟨rfl, rfl, rfl, Nat.le_refl _, fun _ _ => rfl⟩⟩

/-- a slice's end -/
theorem Row8.from {w : World} {b off n cap : Nat} {l : List Nat} (h : Row8 w (some ⟨b, off, none⟩) n cap l) (k : Nat) (hk : k ≤ n) (hc : k < cap) : Row8 w (some ⟨b, off + k, none⟩) (n - k) (cap - k) (l.drop k) := by
  have h1 := h.len
  have h2 := h.room
  have h3 := h.most
  refine ⟨by simp; omega, by omega, by omega, fun h => by simp at h, fun a ha j hj => ?_, fun x hx => h.byte x (List.mem_of_mem_drop hx)⟩
  obtain rfl := Option.some.inj ha
  have := h.cell _ rfl (k + j) (by omega)
  rw [Addr.add_lit] at this ⊢
  rw [Nat.add_assoc, this]
  have : k + j < l.length := by omega
  simp [List.getD]

theorem Row8.upto {w : World} {ao : Option Addr} {n cap : Nat} {l : List Nat} (h : Row8 w ao n cap l) (k : Nat) (hk : k ≤ n) : Row8 w ao k cap (l.take k) := by
  have h1 := h.len
  have h2 := h.room
  refine ⟨by simp; omega, by omega, h.most, h.nil, fun a ha j hj => ?_, fun x hx => h.byte x (List.mem_of_mem_take hx)⟩
  rw [h.cell a ha j (by omega)]
  simp [List.getD, hj]

/-- an empty piece reads as nothing -/
theorem Row8.empty {w : World} {ao : Option Addr} {cap : Nat} (h : ao = none → cap = 0) (hm : cap ≤ 9223372036854775807) : Row8 w ao 0 cap [] :=
  ⟨rfl, Nat.zero_le _, hm, h, fun a _ j hj => by omega, fun x hx => by simp at hx⟩

/-- a slice of bytes that came in -/
theorem row_in (W : World) (x : Addr) (l c : Nat) (zs : List Int) (hl : l ≤ c) (hm : c ≤ maxLen) (hz : zs.length = c) (hcell : ∀ i, i < zs.length → W.cell? (x.add i) = some (.int .u8 (zs.getD i 0)))
    (hwz : ∀ n ∈ zs, (Lit.int .u8 n).wf = true) : Row8 W (some x) l c ((zs.take l).map Int.toNat) := by
  refine ⟨by simp; omega, hl, by unfold maxLen at hm; exact hm, fun h => by simp at h, fun a ha j hj => ?_, fun y hy => ?_⟩
  · obtain rfl := Option.some.inj ha
    rw [hcell j (by omega)]
    have hw := wf_u8 (hwz (zs[j]'(by omega)) (List.getElem_mem _))
    have : j < zs.length := by omega
    simp [List.getD, this, hj]
    omega
  · obtain ⟨z, hz', rfl⟩ := List.mem_map.1 hy
    have := wf_u8 (hwz z (List.mem_of_mem_take hz'))
    omega

theorem ret_val {k : IntKind} {a b : Int} (h : a = b) : Ending.returned (.int k a) = .returned (.int k b) := by rw [h]

/-- a string's bytes as numbers -/
def strN (s : ByteArray) : List Nat := s.data.toList.map UInt8.toNat

/-- what a string's conversion lays reads as its bytes -/
theorem row_of_str (w : World) (s : ByteArray) (hs : s.size ≤ 4294967296) :
    Row8 (w.alloc (.cells (bytesRow s (grownCap w s.size 0 5)) 5 ((bytesRow s (grownCap w s.size 0 5)).size, (bytesRow s (grownCap w s.size 0 5)).size + 1)))
      (some ⟨w.heap.size, 0, none⟩) s.size (grownCap w s.size 0 5) (strN s) := by
  have hg := grownCap_ge w s.size 0 5
  refine ⟨by simp [strN], hg, ?_, fun h => by simp at h, fun a ha j hj => ?_, ?_⟩
  · have := grownCap_le_maxLen w s.size 0 5 (by unfold maxLen; omega)
    unfold maxLen at this; exact this
  · obtain rfl := Option.some.inj ha
    have hadd : (⟨w.heap.size, 0, none⟩ : Addr).add j = ⟨w.heap.size, j, none⟩ := by unfold Addr.add; split <;> simp_all
    have hnew := heap_alloc_new w (.cells (bytesRow s (grownCap w s.size 0 5)) 5 ((bytesRow s (grownCap w s.size 0 5)).size, (bytesRow s (grownCap w s.size 0 5)).size + 1))
    rw [hadd]
    have hd : j < s.data.size := hj
    have e : (bytesRow s (grownCap w s.size 0 5))[j]? = some (.int .u8 ((strN s).getD j 0 : Nat)) := by
      unfold bytesRow strN
      rw [Array.getElem?_append_left (by simpa using hd)]
      have e1 : s.data[j]? = some s.data[j] := Array.getElem?_eq_getElem hd
      have e2 : s.data.toList[j]? = some s.data[j] := by rw [Array.getElem?_toList]; exact e1
      simp [List.getD, e1, e2]
    exact (cell_of_row _ w.heap.size j _ _ _ hnew).trans e
  · intro x hx
    obtain ⟨y, _, rfl⟩ := List.mem_map.1 hx
    exact y.toNat_lt

theorem grown_of_below {w w' : World} (h : Below w.heap.size w w') : w.grownBy w' none := ⟨h.os, h.tape, h.output, h.size, fun k hk _ => h.block k hk⟩

theorem own_shape {w : World} {base e n : Nat} {v : Value} {xs : List Value} (h : w.ownsRow base e 1 v n xs) (hn : 0 < n) : ∃ g cap, v = .slice (some ⟨g, 0, none⟩) n cap ∧ base ≤ g ∧ n ≤ cap ∧ cap ≤ 9223372036854775807 := by
  rcases h.2 with ⟨_, h0⟩ | ⟨g, cap, cur, rfl, hg, _, hc, hm, _⟩
  · omega
  · exact ⟨g, cap, rfl, hg, hc, by unfold maxLen at hm; exact hm⟩

/-- append of bytes that read as a list, nil or not, onto what the call owns -/
theorem wpList_append_row {w : World} {ops : Array Oper} {rest : List Oper} {o : Oper} {a : Act} {Q : Exit → Act → World → Prop} (hgd : o.guard = none) (s x : Operand)
    (ho : o.op = .call { callee := .builtin .append, args := #[s, x], argTypes := #[29, 29] })
    (base : Nat) (v : Value) (k : Nat) (xs : List Nat) (hs : a.eval s = v) (hown : w.ownsRow base 5 1 v k (cells8 xs))
    (ao : Option Addr) (n cap : Nat) (l : List Nat) (hx : a.eval x = .slice ao n cap) (hr : Row8 w ao n cap l) (hbytes : k + n ≤ 1099511627776) (hbase : base ≤ w.heap.size)
    (h : ∀ v' w', w'.ownsRow base 5 1 v' (k + n) (cells8 (xs ++ l)) → w.grownBy w' v.ownBlock → wpList Tryz.prog ops Q rest (a.put o.dst v') w') : wpList Tryz.prog ops Q (o :: rest) a w := by
  obtain ⟨i0, hi, hz0, hz1, hz2⟩ := info_parts Tryz.info8
  cases ao with
  | none =>
    have hc := hr.nil rfl
    have hrm := hr.room
    obtain rfl : n = 0 := by omega
    subst hc
    have hl := List.eq_nil_of_length_eq_zero hr.len
    subst hl
    exact wpList_append_own_none hgd s x 29 ho base 5 i0 1 Tryz.underlying29 hi v k (cells8 xs) hs hown hx (h v w (by simpa using hown) (World.grownBy.refl _ _))
  | some ad =>
    have hl := hr.len
    refine wpList_append_own w hgd s x 29 ho base 5 i0 (.int .u8 0) 1 1 Tryz.underlying29 hi hz0 hz1 hz2 rfl (by decide) v k (cells8 xs) hs hown ad n cap (cells8 l) hx (by simp [cells8_length, hl]) ?_ (cells8_one _) (by unfold maxLen; omega) (by omega) hbase ?_
    · intro j u hu
      have hj : j < l.length := by have := (List.getElem?_eq_some_iff.1 hu).1; simpa [cells8] using this
      rw [cells8_getElem? _ _ hj] at hu
      rw [hr.cell ad rfl j (by omega)]; exact hu
    · intro v' w' h1 h2 _
      rw [cells8_append] at h1
      exact h v' w' h1 h2

theorem own_ne_own {w : World} {b b' e e' n n' : Nat} {v v' : Value} {xs xs' : List Value} (h : w.ownsRow b e 1 v n xs) (h' : w.ownsRow b' e' 1 v' n' xs') (he : e ≠ e') : v.ownBlock = none ∨ v.ownBlock ≠ v'.ownBlock := by
  rcases h.2 with ⟨rfl, _⟩ | ⟨g, cap, cur, rfl, _, hh, _⟩
  · exact .inl rfl
  · right
    rcases h'.2 with ⟨rfl, _⟩ | ⟨g', cap', cur', rfl, _, hh', _⟩
    · simp [Value.ownBlock]
    · intro e
      have : g = g' := by simpa [Value.ownBlock] using e
      subst this
      rw [hh] at hh'
      simp at hh'
      exact he hh'.2

theorem grown_trans {w w1 w2 : World} {row : Option Nat} (h : w.grownBy w1 row) (h' : w1.grownBy w2 row) : w.grownBy w2 row :=
  ⟨h'.os.trans h.os, h'.tape.trans h.tape, h'.output.trans h.output, Nat.le_trans h.size h'.size, fun k hk hn => (h'.block k (Nat.lt_of_lt_of_le hk h.size) hn).trans (h.block k hk hn)⟩

theorem own_base {w : World} {b b' e n : Nat} {v : Value} {xs : List Value} (h : w.ownsRow b e 1 v n xs) (hb : b' ≤ b) : w.ownsRow b' e 1 v n xs := by
  refine ⟨h.1, ?_⟩
  rcases h.2 with h0 | ⟨g, cap, cur, hv, hg, r⟩
  · exact .inl h0
  · exact .inr ⟨g, cap, cur, hv, by omega, r⟩

theorem strB_inj (l m : List Nat) (hl : ∀ x ∈ l, x < 256) (hm : ∀ x ∈ m, x < 256) (h : strB l = strB m) : l = m := by
  have h1 : l.map UInt8.ofNat = m.map UInt8.ofNat := by
    have := congrArg (fun s => s.data.toList) h
    simpa [strB] using this
  have key : ∀ (a : List Nat), (∀ x ∈ a, x < 256) → (a.map UInt8.ofNat).map UInt8.toNat = a := by
    intro a ha
    rw [List.map_map]
    conv => rhs; rw [← List.map_id a]
    apply List.map_congr_left
    intro x hx
    have := ha x hx
    simp
    omega
  rw [← key l hl, h1, key m hm]

/-- a conversion of bytes that read as a list -/
theorem conv_row {w : World} {ao : Option Addr} {n cap : Nat} {l : List Nat} (h : Row8 w ao n cap l) :
    (convert 29 9 (.slice ao n cap)).run Tryz.prog w = .ok (.string (strB l)) w := by
  rcases Nat.eq_zero_or_pos n with rfl | hn
  · have hl := List.eq_nil_of_length_eq_zero h.len
    subst hl
    cases ao with
    | none => exact run_convert_bytes_nil w 29 5 Tryz.underlying29 Tryz.underlying5 0 cap 9 Tryz.underlying9
    | some a =>
      rw [run_convert_bytes_string w 29 9 5 _ 0 cap Tryz.underlying29 Tryz.underlying5 Tryz.underlying9]
      have := run_bytesToString (P := Tryz.prog) w a 0 cap [] (by
        have := run_loadCells_list (P := Tryz.prog) w a [] (fun j v hj => by simp at hj)
        simpa using this)
      exact this
  · obtain ⟨b, off, rfl, hc⟩ := h.lies hn
    have := run_convert_bytes_arg (P := Tryz.prog) w 29 5 Tryz.underlying29 Tryz.underlying5 b off n cap (l.map fun x : Nat => (x : Int)) (by simp [h.len])
      (fun i hi => by
        have hil : i < l.length := by rw [h.len]; exact hi
        rw [hc i (l[i]) (by simp [hil])]
        simp [List.getD, hil]) 9 Tryz.underlying9
    rw [strB_eq] at this
    exact this

theorem toList_ne {a b : ByteArray} (h : ¬ a = b) : (a.toList == b.toList) = false := by
  rw [beq_eq_false_iff_ne]
  intro e
  apply h
  rw [ByteArray.toList_eq, ByteArray.toList_eq] at e
  cases a; cases b
  simp at e
  rw [e]

/-- THE SLICE 'ao, n, cap' READS AS THE STRINGS ss -/
structure RowS (w : World) (ao : Option Addr) (n cap : Nat) (ss : List ByteArray) : Prop where
  len : ss.length = n
  room : n ≤ cap
  most : cap ≤ 9223372036854775807
  nil : ao = none → cap = 0
  cell : ∀ a, ao = some a → ∀ j, j < n → w.cell? (a.add j) = some (.string (ss.getD j ByteArray.empty))
  size : ∀ s ∈ ss, s.size ≤ 140737488351232

theorem rowS_nil (w : World) : RowS w none 0 0 [] := ⟨rfl, Nat.le_refl _, by omega, fun _ => rfl, fun a ha => by simp at ha, fun x hx => by simp at hx⟩

theorem rowS_in (W : World) (x : Addr) (l c : Nat) (ss : List ByteArray) (hl : l ≤ c) (hm : c ≤ maxLen) (hz : ss.length = c) (hcell : ∀ i, i < ss.length → W.cell? (x.add i) = some (.string (ss.getD i ByteArray.empty)))
    (hs : ∀ s ∈ ss, s.size ≤ 140737488351232) : RowS W (some x) l c (ss.take l) := by
  refine ⟨by simp; omega, hl, by unfold maxLen at hm; exact hm, fun h => by simp at h, fun a ha j hj => ?_, fun y hy => hs y (List.mem_of_mem_take hy)⟩
  obtain rfl := Option.some.inj ha
  rw [hcell j (by omega)]
  have : j < ss.length := by omega
  simp [List.getD, this, hj]

theorem RowS.lt {w : World} {ao : Option Addr} {n cap : Nat} {l : List ByteArray} (h : RowS w ao n cap l) : ∀ a, ao = some a → 0 < n → a.block < w.heap.size := by
  intro a ha hn
  have := World.block_lt_of_cell? w _ (h.cell a ha 0 hn)
  simpa [Addr.add] using this

theorem RowS.kept {w w' : World} {ao : Option Addr} {n cap : Nat} {l : List ByteArray} (h : RowS w ao n cap l) (hb : Below w.heap.size w w') : RowS w' ao n cap l := by
  refine ⟨h.len, h.room, h.most, h.nil, fun a ha j hj => ?_, h.size⟩
  rw [hb.cell (p := a.add j) (by have := h.lt a ha (by omega); unfold Addr.add; split <;> simpa using this)]
  exact h.cell a ha j hj

theorem RowS.lies {w : World} {ao : Option Addr} {n cap : Nat} {l : List ByteArray} (h : RowS w ao n cap l) (hn : 0 < n) :
    ∃ b off, ao = some ⟨b, off, none⟩ ∧ ∀ j c, l[j]? = some (c : ByteArray) → w.cell? ⟨b, off + j, none⟩ = some (.string c) := by
  cases ao with
  | none => have := h.nil rfl; have := h.room; omega
  | some a =>
    obtain ⟨b, off, sp⟩ := a
    have h0 := h.cell _ rfl 0 hn
    have hsp : sp = none := by
      cases sp with
      | none => rfl
      | some x =>
        simp [Addr.add, World.cell?] at h0
        split at h0 <;> simp at h0
    subst hsp
    refine ⟨b, off, rfl, fun j c hc => ?_⟩
    have hj := (List.getElem?_eq_some_iff.1 hc).1
    have h1 := h.cell _ rfl j (by have := h.len; omega)
    rw [Addr.add_lit] at h1
    rw [h1]
    simp [List.getD, hc]

/-- how many letters there are -/
def letters (ss : List ByteArray) : Nat := (ss.map ByteArray.size).sum

theorem letters_next (ss : List ByteArray) (k : Nat) (s : ByteArray) (h : ss[k]? = some s) : letters (ss.take (k + 1)) = letters (ss.take k) + s.size := by
  unfold letters
  rw [List.take_add_one, h]; simp

theorem letters_le (ss : List ByteArray) (k : Nat) : letters (ss.take k) ≤ letters ss := by
  have h : letters (ss.take k ++ ss.drop k) = letters ss := by rw [List.take_append_drop]
  unfold letters at h ⊢
  rw [List.map_append, List.sum_append] at h; omega

theorem mem_weightsAll {H : Type} {P : Program} {e : TypeId} {l : List (DataW H)} {d : DataW H} {n : Nat} (hd : d ∈ l) (hn : n ∈ d.weights P e) : n ∈ DataW.weightsAll P e l := by
  induction l with
  | nil => cases hd
  | cons x r ih =>
    simp only [DataW.weightsAll, List.mem_append]
    rcases List.mem_cons.1 hd with rfl | h
    · exact .inl hn
    · exact .inr (ih h)

/-- each string of a slice of strings lies within the form's own reach -/
theorem sized_strs {H : Type} {P : Program} {ts : List TypeId} {ds : List (DataW H)} (h : (DataW.weightsEach P ts ds).all (· ≤ reachBytes) = true) {j : Nat} {t e : TypeId} {ss : List ByteArray} {k : Nat}
    (ht : ts[j]? = some t) (hd : ds[j]? = some (.slice (strs (ss.take k)) (strs (ss.drop k)))) (hu : P.underlying t = some (.slice e)) : ∀ s ∈ ss, s.size ≤ 140737488351232 := by
  intro s hs
  have hm : s.data.toList.length ∈ DataW.weights P t (.slice (strs (H := H) (ss.take k)) (strs (ss.drop k))) := by
    simp only [DataW.weights, hu, List.mem_cons, List.mem_append]
    rw [← List.take_append_drop k ss] at hs
    right
    rcases List.mem_append.1 hs with h1 | h1
    · exact .inl (mem_weightsAll (d := .lit (.string s.data.toList)) (List.mem_map.2 ⟨s, h1, rfl⟩) (by simp [DataW.weights]))
    · exact .inr (mem_weightsAll (d := .lit (.string s.data.toList)) (List.mem_map.2 ⟨s, h1, rfl⟩) (by simp [DataW.weights]))
  have := List.all_eq_true.1 h _ (DataW.weights_mem_each ht hd _ hm)
  exact of_decide_eq_true this

theorem grownBy_drewN {w w' : World} {row : Option Nat} (h : w.grownBy w' row) (k : Nat) : w.grownBy (w'.drewN k) row := ⟨h.os, h.tape, h.output, h.size, h.block⟩

theorem grownBy_setCell (w : World) (B : Nat) (u : Value) : w.grownBy (w.setCell ⟨B, 0, none⟩ u) (some B) :=
  ⟨rfl, rfl, rfl, by simp, fun k _ hk => Below.heap_setCell w ⟨B, 0, none⟩ u k (fun e => hk (by rw [e]))⟩

theorem own_ne {w : World} {base e e' : Nat} {v : Value} {n : Nat} {xs : List Value} (h : w.ownsRow base e 1 v n xs) {B : Nat} {u : Value} (hB : w.heap[B]? = some (.cells #[u] e' (0, 0))) (he : e ≠ e') : v.ownBlock ≠ some B := by
  rcases h.2 with ⟨rfl, _⟩ | ⟨g, cap, cur, rfl, hg, hh, _⟩
  · simp [Value.ownBlock]
  · intro e
    obtain rfl : g = B := by simpa [Value.ownBlock] using e
    rw [hh] at hB
    simp at hB
    exact he hB.2
end Go.Proofs.YtfdjeaieddcgdabGreatDoor
