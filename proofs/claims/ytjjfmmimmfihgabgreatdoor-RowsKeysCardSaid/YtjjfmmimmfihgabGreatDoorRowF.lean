/-
  WHAT IS PROVED: what a table looks like as bytes: PutTable, at a table that may be.
-/
import Derived.Test.YtjjfmmimmfihgabGreatDoorRowE
namespace Go.Proofs.YtjjfmmimmfihgabGreatDoor
open Go.RowKit Go.Lib
set_option linter.unusedVariables false

/-- a slice of structs, as it lies -/
structure RowG {α : Type} (cells : α → List Value) (sz : Nat) (w : World) (ao : Option Addr) (n cap : Nat) (l : List α) : Prop where
  len : l.length = n
  room : n ≤ cap
  most : cap ≤ 9223372036854775807
  nil : ao = none → cap = 0
  cell : ∀ a, ao = some a → ∀ i x, l[i]? = some x → ∀ j v, (cells x)[j]? = some v → w.cell? (a.add (i * sz + j)) = some v
section
variable {α : Type} {cells : α → List Value} {sz : Nat}
theorem RowG.lt {w : World} {ao : Option Addr} {n cap : Nat} {l : List α} (hc : ∀ x, ∃ v, (cells x)[0]? = some v) (h : RowG cells sz w ao n cap l) : ∀ a, ao = some a → 0 < n → a.block < w.heap.size := by
  intro a ha hn
  have hx : l[0]? = some (l[0]'(by rw [h.len]; exact hn)) := by simp [h.len, hn]
  obtain ⟨v, hv⟩ := hc (l[0]'(by rw [h.len]; exact hn))
  have := World.block_lt_of_cell? w _ (h.cell a ha 0 _ hx 0 _ hv)
  simpa [Addr.add] using this
theorem RowG.below {B : Nat} {w w' : World} {ao : Option Addr} {n cap : Nat} {l : List α} (h : RowG cells sz w ao n cap l) (hb : Below B w w') (hB : ∀ a, ao = some a → 0 < n → a.block < B) : RowG cells sz w' ao n cap l := by
  refine ⟨h.len, h.room, h.most, h.nil, fun a ha i x hx j v hv => ?_⟩
  have hn : 0 < n := by rw [← h.len]; exact List.length_pos_of_mem (List.mem_of_getElem? hx)
  rw [hb.cell (p := a.add (i * sz + j)) (by have := hB a ha hn; unfold Addr.add; split <;> simpa using this)]
  exact h.cell a ha i x hx j v hv
theorem RowG.lies {w : World} {ao : Option Addr} {n cap : Nat} {l : List α} (hc : ∀ x, ∃ v, (cells x)[0]? = some v) (h : RowG cells sz w ao n cap l) (hn : 0 < n) :
    ∃ b off, ao = some ⟨b, off, none⟩ ∧ ∀ i x, l[i]? = some x → ∀ j v, (cells x)[j]? = some v → w.cell? ⟨b, off + i * sz + j, none⟩ = some v := by
  cases ao with
  | none => have := h.nil rfl; have := h.room; omega
  | some a =>
    obtain ⟨b, off, sp⟩ := a
    have hx : l[0]? = some (l[0]'(by rw [h.len]; exact hn)) := by simp [h.len, hn]
    obtain ⟨v0, hv0⟩ := hc (l[0]'(by rw [h.len]; exact hn))
    have h0 := h.cell _ rfl 0 _ hx 0 _ hv0
    have hsp : sp = none := by
      cases sp with
      | none => rfl
      | some x =>
        simp [Addr.add, World.cell?] at h0
        split at h0 <;> simp at h0
    subst hsp
    refine ⟨b, off, rfl, fun i x hx j v hv => ?_⟩
    have h1 := h.cell _ rfl i x hx j v hv
    rw [Addr.add_lit, ← Nat.add_assoc] at h1
    exact h1
theorem rowG_nil (w : World) : RowG cells sz w none 0 0 [] := ⟨rfl, Nat.le_refl _, by omega, fun _ => rfl, fun a ha => by cases ha⟩
end
structure ColM where
  s : ByteArray
  k : Nat
  p : Bool
  q : Bool
  r : Bool
def ColM.cells (x : ColM) : List Value := [.string x.s, .int .u8 (x.k : Int), .bool x.p, .bool x.q, .bool x.r]
structure IdxM where
  s : ByteArray
  c : Int
def IdxM.cells (x : IdxM) : List Value := [.string x.s, .int .i64 x.c]
theorem col_ne (x : ColM) : ∃ v, (ColM.cells x)[0]? = some v := ⟨_, rfl⟩
theorem idx_ne (x : IdxM) : ∃ v, (IdxM.cells x)[0]? = some v := ⟨_, rfl⟩
def ColM.fits (x : ColM) : Bool := decide (x.s.size ≤ 16) && (x.k == 1 || x.k == 2)
def IdxM.fits (n : Nat) (x : IdxM) : Bool := decide (x.s.size ≤ 16) && decide (0 ≤ x.c) && decide (x.c < (n : Int))

theorem nameFits_any (s : ByteArray) (hs : s.size ≤ 140737488351232) (w : World) :
    Calls Tryz.prog 71 #[.string s] w fun e w' => e = .returned (.bool (decide (s.size ≤ 16))) ∧ Below w.heap.size w w' := by
  have h1 : decide ((s.size : Int) ≤ 16) = decide (s.size ≤ 16) := by rw [decide_eq_decide]; omega
  go_enter Tryz.func71, Tryz.ntmps71
  go_wp2
  go_ret
  exact ⟨rfl, Below.refl _ _⟩
set_option maxRecDepth 100000 in
set_option maxHeartbeats 4000000 in
theorem columnFits_any (s : ByteArray) (k : Nat) (p q r : Bool) (hs : s.size ≤ 140737488351232) (w : World) :
    Calls Tryz.prog 74 #[.agg #[.string s, .int .u8 (k : Int), .bool p, .bool q, .bool r]] w fun e w' => e = .returned (.bool (ColM.fits ⟨s, k, p, q, r⟩)) ∧ Below w.heap.size w w' := by
  have h1 : ((k : Int) == 1) = (k == 1) := by rw [Bool.eq_iff_iff]; simp; omega
  have h2 : ((k : Int) == 2) = (k == 2) := by rw [Bool.eq_iff_iff]; simp; omega
  unfold ColM.fits
  dsimp only
  generalize hx : decide (s.size ≤ 16) = x
  generalize hy : (k == 1) = y at *
  generalize hz : (k == 2) = z at *
  have c0 := cell_of_block (heap_alloc_new w (.cells #[.string s, .int .u8 (k : Int), .bool p, .bool q, .bool r] 56)) 1
  go_enter Tryz.func74, Tryz.ntmps74
  go_wp2_with fail
  refine (nameFits_any s hs _).mono ?_
  rw [hx]
  rintro e w1 ⟨rfl, hb⟩
  have c1 : w1.cell? ⟨w.heap.size, 1, none⟩ = some (.int .u8 (k : Int)) := (hb.cell (by simp)).trans c0
  have HB := Lib.hid (below_step (Below.refl _ _) hb)
  clear hb c0 hx
  cases x <;> cases y <;> cases z
  all_goals go_wp2
  all_goals go_ret
  all_goals exact ⟨rfl, HB.out⟩
theorem colBad_any (s : ByteArray) (k : Nat) (p q r : Bool) (hs : s.size ≤ 140737488351232) (w : World) :
    Calls Tryz.prog 73 #[.agg #[.string s, .int .u8 (k : Int), .bool p, .bool q, .bool r]] w fun e w' => e = .returned (.bool (!ColM.fits ⟨s, k, p, q, r⟩)) ∧ Below w.heap.size w w' := by
  go_enter Tryz.func73, Tryz.ntmps73
  go_wp2_with fail
  refine (columnFits_any s k p q r hs _).mono ?_
  rintro e w1 ⟨rfl, hb⟩
  have H1 := Lib.hid (below_step (Below.refl _ _) hb)
  clear hb
  go_wp2
  go_ret
  exact ⟨rfl, H1.out⟩
set_option maxRecDepth 100000 in
set_option maxHeartbeats 4000000 in
theorem indexFits_any (s : ByteArray) (c : Int) (n : Nat) (hs : s.size ≤ 140737488351232) (w : World) :
    Calls Tryz.prog 70 #[.agg #[.string s, .int .i64 c], .int .i64 (n : Int)] w fun e w' => e = .returned (.bool (IdxM.fits n ⟨s, c⟩)) ∧ Below w.heap.size w w' := by
  unfold IdxM.fits
  dsimp only
  generalize hx : decide (s.size ≤ 16) = x
  generalize hy : decide (0 ≤ c) = y
  generalize hz : decide (c < (n : Int)) = z
  have c0 := cell_of_block (heap_alloc_new w (.cells #[.string s, .int .i64 c] 58)) 1
  go_enter Tryz.func70, Tryz.ntmps70
  go_wp2_with fail
  refine (nameFits_any s hs _).mono ?_
  rw [hx]
  rintro e w1 ⟨rfl, hb⟩
  have c1 : w1.cell? ⟨w.heap.size, 1, none⟩ = some (.int .i64 c) := (hb.cell (by simp)).trans c0
  have HB := Lib.hid (below_step (Below.refl _ _) hb)
  clear hb c0 hx
  cases x <;> cases y <;> cases z
  all_goals go_wp2
  all_goals go_ret
  all_goals exact ⟨rfl, HB.out⟩
theorem idxBad_any (s : ByteArray) (c : Int) (T : Nat) (co : Option Addr) (cn cc : Nat) (hs : s.size ≤ 140737488351232) (w : World) (hT : w.cell? ⟨T, 1, none⟩ = some (.slice co cn cc)) :
    Calls Tryz.prog 69 #[.agg #[.string s, .int .i64 c], .pointer (some ⟨T, 0, none⟩)] w fun e w' => e = .returned (.bool (!IdxM.fits cn ⟨s, c⟩)) ∧ Below w.heap.size w w' := by
  have hT1 : (w.alloc (.cells #[.string s, .int .i64 c] 58)).cell? ⟨T, 1, none⟩ = some (.slice co cn cc) := ((below_alloc w _).cell (World.block_lt_of_cell? w _ hT)).trans hT
  clear hT
  go_enter Tryz.func69, Tryz.ntmps69
  go_wp2_with fail
  refine (indexFits_any s c cn hs _).mono ?_
  rintro e w1 ⟨rfl, hb⟩
  have H1 := Lib.hid (below_step (Below.refl _ _) hb)
  clear hb hT1
  go_wp2
  go_ret
  exact ⟨rfl, H1.out⟩
set_option maxRecDepth 100000 in
set_option maxHeartbeats 2000000 in
theorem indexCol_any (ao : Option Addr) (n cap : Nat) (l : List ColM) (w : World) (hr : RowG ColM.cells 5 w ao n cap l) (hsz : ∀ x ∈ l, x.s.size ≤ 140737488351232) :
    Calls Tryz.prog 105 #[.slice ao n cap, .func (.func 73) #[] #[]] w fun e w' => ∃ r : Int, e = .returned (.int .i64 r) ∧ decide (0 ≤ r) = !l.all ColM.fits ∧ Below w.heap.size w w' := by
  have hlen := Lib.hid hr.len
  have hroom := hr.room
  have hmost := hr.most
  rcases Nat.eq_zero_or_pos n with rfl | hpos
  · have h0 : l = [] := List.eq_nil_of_length_eq_zero hlen.out
    subst h0
    clear hr
    go_enter Tryz.func105, Tryz.ntmps105
    go_wp2
    refine wp_loop_rounds 1 ?_
    rw [rounds_succ]
    go_wp2
    go_ret
    exact ⟨-1, rfl, rfl, Below.refl _ _⟩
  · obtain ⟨b, off, rfl, hcell0⟩ := hr.lies col_ne hpos
    have HR := Lib.hid hr
    have HS := Lib.hid hsz
    clear hr hcell0 hsz
    go_enter Tryz.func105, Tryz.ntmps105
    go_wp2_with fail
    go_loopw [8] (fun i wr => ∃ k : Nat, k ≤ n ∧ i = .int .i64 k ∧ Hid ((l.take k).all ColM.fits = true) ∧ Hid (Below w.heap.size w wr)) (fun i _ => n - (RowKit.intOf i).toNat)
    case atStart => exact ⟨0, by omega, rfl, Lib.hid rfl, Lib.hid (Below.refl _ _)⟩
    case round =>
      obtain ⟨k, hk, rfl, hS, HB⟩ := hrel
      by_cases hlt : k < n
      · obtain ⟨x, hx⟩ : ∃ x, l[k]? = some x := ⟨l[k]'(by rw [hlen.out]; exact hlt), by simp [hlen.out, hlt]⟩
        obtain ⟨b', off', he, hcell⟩ := (HR.out.below HB.out (HR.out.lt col_ne)).lies col_ne hpos
        simp only [Option.some.injEq, Addr.mk.injEq, and_true] at he
        obtain ⟨rfl, rfl⟩ := he
        have hxs := HS.out x (List.mem_of_getElem? hx)
        have HX := Lib.hid hx
        have hc := hcell k x hx
        obtain ⟨s, kk, p, q, r⟩ := x
        have c0 : wr.cell? ⟨b, off + k * 5, none⟩ = some (.string s) := hc 0 _ rfl
        have c1 : wr.cell? ⟨b, off + k * 5 + 1, none⟩ = some (.int .u8 (kk : Int)) := hc 1 _ rfl
        have c2 : wr.cell? ⟨b, off + k * 5 + 2, none⟩ = some (.bool p) := hc 2 _ rfl
        have c3 : wr.cell? ⟨b, off + k * 5 + 3, none⟩ = some (.bool q) := hc 3 _ rfl
        have c4 : wr.cell? ⟨b, off + k * 5 + 4, none⟩ = some (.bool r) := hc 4 _ rfl
        simp only at hxs
        clear hx hc hcell
        go_wp2_with fail
        refine (colBad_any s kk p q r hxs _).mono ?_
        rintro e w2 ⟨rfl, hb⟩
        have HB2 := Lib.hid (below_next HB.out hb)
        clear hb c0 c1 c2 c3 c4
        cases hf : ColM.fits ⟨s, kk, p, q, r⟩ with
        | false =>
          have HF := Lib.hid hf
          clear hf
          go_wp2
          go_ret
          refine ⟨(k : Int), rfl, ?_, HB2.out⟩
          have h1 : l.all ColM.fits = false := by
            rw [List.all_eq_false]
            exact ⟨_, List.mem_of_getElem? HX.out, by rw [HF.out]; simp⟩
          rw [h1]
          simp
        | true =>
          have HF := Lib.hid hf
          clear hf
          go_wp2
          go_roundw
          case rel => exact ⟨k + 1, by omega, by go_num, Lib.hid (by rw [List.take_add_one, HX.out, List.all_append, hS.out]; simp [HF.out]), HB2⟩
          case measure => simp [RowKit.intOf]; omega
      · obtain rfl : k = n := by omega
        have h1 := hS.out
        rw [List.take_of_length_le (by rw [hlen.out]; omega)] at h1
        have H1 := Lib.hid h1
        clear h1
        go_wp2_with fail
        go_ret
        exact ⟨-1, rfl, by rw [H1.out]; rfl, HB.out⟩
theorem containsCol_any (ao : Option Addr) (n cap : Nat) (l : List ColM) (w : World) (hr : RowG ColM.cells 5 w ao n cap l) (hsz : ∀ x ∈ l, x.s.size ≤ 140737488351232) :
    Calls Tryz.prog 72 #[.slice ao n cap, .func (.func 73) #[] #[]] w fun e w' => e = .returned (.bool (!l.all ColM.fits)) ∧ Below w.heap.size w w' := by
  have HR := Lib.hid hr
  have HS := Lib.hid hsz
  clear hr hsz
  go_enter Tryz.func72, Tryz.ntmps72
  go_wp2_with fail
  refine (indexCol_any ao n cap l _ HR.out HS.out).mono ?_
  rintro e w1 ⟨r, rfl, hd, hb⟩
  have HB := Lib.hid hb
  clear hb
  go_wp2
  go_ret
  exact ⟨rfl, HB.out⟩
set_option maxRecDepth 100000 in
set_option maxHeartbeats 2000000 in
theorem indexIdx_any (ao : Option Addr) (n cap : Nat) (l : List IdxM) (T : Nat) (co : Option Addr) (cn cc : Nat) (w : World) (hr : RowG IdxM.cells 2 w ao n cap l) (hsz : ∀ x ∈ l, x.s.size ≤ 140737488351232) (hT : w.cell? ⟨T, 1, none⟩ = some (.slice co cn cc)) :
    Calls Tryz.prog 106 #[.slice ao n cap, .func (.func 69) #[] #[.pointer (some ⟨T, 0, none⟩)]] w fun e w' => ∃ r : Int, e = .returned (.int .i64 r) ∧ decide (0 ≤ r) = !l.all (IdxM.fits cn) ∧ Below w.heap.size w w' := by
  have hlen := Lib.hid hr.len
  have hroom := hr.room
  have hmost := hr.most
  rcases Nat.eq_zero_or_pos n with rfl | hpos
  · have h0 : l = [] := List.eq_nil_of_length_eq_zero hlen.out
    subst h0
    clear hr
    go_enter Tryz.func106, Tryz.ntmps106
    go_wp2
    refine wp_loop_rounds 1 ?_
    rw [rounds_succ]
    go_wp2
    go_ret
    exact ⟨-1, rfl, rfl, Below.refl _ _⟩
  · obtain ⟨b, off, rfl, hcell0⟩ := hr.lies idx_ne hpos
    have HR := Lib.hid hr
    have HS := Lib.hid hsz
    have HT := Lib.hid hT
    clear hT
    clear hr hcell0 hsz
    go_enter Tryz.func106, Tryz.ntmps106
    go_wp2_with fail
    go_loopw [8] (fun i wr => ∃ k : Nat, k ≤ n ∧ i = .int .i64 k ∧ Hid ((l.take k).all (IdxM.fits cn) = true) ∧ Hid (Below w.heap.size w wr)) (fun i _ => n - (RowKit.intOf i).toNat)
    case atStart => exact ⟨0, by omega, rfl, Lib.hid rfl, Lib.hid (Below.refl _ _)⟩
    case round =>
      obtain ⟨k, hk, rfl, hS, HB⟩ := hrel
      by_cases hlt : k < n
      · obtain ⟨x, hx⟩ : ∃ x, l[k]? = some x := ⟨l[k]'(by rw [hlen.out]; exact hlt), by simp [hlen.out, hlt]⟩
        obtain ⟨b', off', he, hcell⟩ := (HR.out.below HB.out (HR.out.lt idx_ne)).lies idx_ne hpos
        simp only [Option.some.injEq, Addr.mk.injEq, and_true] at he
        obtain ⟨rfl, rfl⟩ := he
        have hxs := HS.out x (List.mem_of_getElem? hx)
        have HX := Lib.hid hx
        have hc := hcell k x hx
        obtain ⟨s, c⟩ := x
        have c0 : wr.cell? ⟨b, off + k * 2, none⟩ = some (.string s) := hc 0 _ rfl
        have c1 : wr.cell? ⟨b, off + k * 2 + 1, none⟩ = some (.int .i64 c) := hc 1 _ rfl
        simp only at hxs
        clear hx hc hcell
        go_wp2_with fail
        refine (idxBad_any s c T co cn cc hxs _ ((HB.out.cell (World.block_lt_of_cell? w _ HT.out)).trans HT.out)).mono ?_
        rintro e w2 ⟨rfl, hb⟩
        have HB2 := Lib.hid (below_next HB.out hb)
        clear hb c0 c1
        cases hf : IdxM.fits cn ⟨s, c⟩ with
        | false =>
          have HF := Lib.hid hf
          clear hf
          go_wp2
          go_ret
          refine ⟨(k : Int), rfl, ?_, HB2.out⟩
          have h1 : l.all (IdxM.fits cn) = false := by
            rw [List.all_eq_false]
            exact ⟨_, List.mem_of_getElem? HX.out, by rw [HF.out]; simp⟩
          rw [h1]
          simp
        | true =>
          have HF := Lib.hid hf
          clear hf
          go_wp2
          go_roundw
          case rel => exact ⟨k + 1, by omega, by go_num, Lib.hid (by rw [List.take_add_one, HX.out, List.all_append, hS.out]; simp [HF.out]), HB2⟩
          case measure => simp [RowKit.intOf]; omega
      · obtain rfl : k = n := by omega
        have h1 := hS.out
        rw [List.take_of_length_le (by rw [hlen.out]; omega)] at h1
        have H1 := Lib.hid h1
        clear h1
        go_wp2_with fail
        go_ret
        exact ⟨-1, rfl, by rw [H1.out]; rfl, HB.out⟩
theorem containsIdx_any (ao : Option Addr) (n cap : Nat) (l : List IdxM) (T : Nat) (co : Option Addr) (cn cc : Nat) (w : World) (hr : RowG IdxM.cells 2 w ao n cap l) (hsz : ∀ x ∈ l, x.s.size ≤ 140737488351232) (hT : w.cell? ⟨T, 1, none⟩ = some (.slice co cn cc)) :
    Calls Tryz.prog 75 #[.slice ao n cap, .func (.func 69) #[] #[.pointer (some ⟨T, 0, none⟩)]] w fun e w' => e = .returned (.bool (!l.all (IdxM.fits cn))) ∧ Below w.heap.size w w' := by
  have HR := Lib.hid hr
  have HS := Lib.hid hsz
  have HT := Lib.hid hT
  clear hT
  clear hr hsz
  go_enter Tryz.func75, Tryz.ntmps75
  go_wp2_with fail
  refine (indexIdx_any ao n cap l T co cn cc _ HR.out HS.out HT.out).mono ?_
  rintro e w1 ⟨r, rfl, hd, hb⟩
  have HB := Lib.hid hb
  clear hb
  go_wp2
  go_ret
  exact ⟨rfl, HB.out⟩
end Go.Proofs.YtjjfmmimmfihgabGreatDoor
