/-
  WHAT IS PROVED: a slice of acts; Great.
-/
import Derived.Test.YtdeggklfjdgfjaaKit
namespace Go.Proofs.Ytdeggklfjdgfjaa
open Go.RowKit Go.ChangeShapes Go.Lib

/-- one act, as its seven cells have it -/
structure ActM where
  kind : Nat
  nm : ByteArray
  to : ByteArray
  bo : Option Addr
  bn : Nat
  bc : Nat
  z : List Nat
  at_ : Int
  n : Int
  names : Bool
def ActM.cells (x : ActM) : List Value := [.int .u8 (x.kind : Int), .string x.nm, .string x.to, .slice x.bo x.bn x.bc, .int .i64 x.at_, .int .i64 x.n, .bool x.names]

structure RowAct (w : World) (ao : Option Addr) (n cap : Nat) (l : List ActM) : Prop where
  len : l.length = n
  room : n ≤ cap
  most : cap ≤ 9223372036854775807
  nil : ao = none → cap = 0
  cell : ∀ a, ao = some a → ∀ i x, l[i]? = some x → ∀ j v, x.cells[j]? = some v → w.cell? (a.add (i * 7 + j)) = some v
  each : ∀ x ∈ l, Row8 w x.bo x.bn x.bc x.z ∧ x.kind < 256 ∧ x.bn ≤ 140737488351232 ∧ x.nm.size ≤ 140737488351232 ∧ x.to.size ≤ 140737488351232

theorem RowAct.lt {w : World} {ao : Option Addr} {n cap : Nat} {l : List ActM} (h : RowAct w ao n cap l) : ∀ a, ao = some a → 0 < n → a.block < w.heap.size := by
  intro a ha hn
  have hx : l[0]? = some (l[0]'(by rw [h.len]; exact hn)) := by simp [h.len, hn]
  have := World.block_lt_of_cell? w _ (h.cell a ha 0 _ hx 0 _ rfl)
  simpa [Addr.add] using this
theorem RowAct.kept {w w' : World} {ao : Option Addr} {n cap : Nat} {l : List ActM} (h : RowAct w ao n cap l) (hb : Below w.heap.size w w') : RowAct w' ao n cap l := by
  refine ⟨h.len, h.room, h.most, h.nil, fun a ha i x hx j v hv => ?_, fun x hx => ⟨(h.each x hx).1.kept hb, (h.each x hx).2⟩⟩
  have hn : 0 < n := by rw [← h.len]; exact List.length_pos_of_mem (List.mem_of_getElem? hx)
  rw [hb.cell (p := a.add (i * 7 + j)) (by have := h.lt a ha hn; unfold Addr.add; split <;> simpa using this)]
  exact h.cell a ha i x hx j v hv
theorem RowAct.lies {w : World} {ao : Option Addr} {n cap : Nat} {l : List ActM} (h : RowAct w ao n cap l) (hn : 0 < n) :
    ∃ b off, ao = some ⟨b, off, none⟩ ∧ ∀ i x, l[i]? = some x → ∀ j v, x.cells[j]? = some v → w.cell? ⟨b, off + (i * 7 + j), none⟩ = some v := by
  cases ao with
  | none => have := h.nil rfl; have := h.room; omega
  | some a =>
    obtain ⟨b, off, sp⟩ := a
    have hx : l[0]? = some (l[0]'(by rw [h.len]; exact hn)) := by simp [h.len, hn]
    have h0 := h.cell _ rfl 0 _ hx 0 _ rfl
    have hsp : sp = none := by
      cases sp with
      | none => rfl
      | some x =>
        simp [Addr.add, World.cell?] at h0
        split at h0 <;> simp at h0
    subst hsp
    refine ⟨b, off, rfl, fun i x hx j v hv => ?_⟩
    have h1 := h.cell _ rfl i x hx j v hv
    rw [Addr.add_lit] at h1
    exact h1

/-- what is small enough to be gone through -/
def Small (l : List ActM) : Prop := l.length ≤ 200 ∧ ∀ x ∈ l, x.bn ≤ 40000 ∧ x.nm.size ≤ 40000 ∧ x.to.size ≤ 40000

set_option maxRecDepth 100000 in
set_option maxHeartbeats 2000000 in
/-- Great: what it says is of no account, but that where it says no all is small -/
theorem great_any (ao : Option Addr) (n cap : Nat) (l : List ActM) (w : World) (hr : RowAct w ao n cap l) :
    Calls Try.prog 34 #[.slice ao n cap] w fun e w' => ∃ v : Bool, e = .returned (.bool v) ∧ (v = false → Small l) ∧ Below w.heap.size w w' := by
  have hlen := Lib.hid hr.len
  have hroom := hr.room
  have hmost := hr.most
  rcases Nat.eq_zero_or_pos n with rfl | hpos
  · have h0 : l = [] := List.eq_nil_of_length_eq_zero hlen.out
    subst h0
    clear hr
    go_enter Try.func34, Try.ntmps34
    go_wp2
    refine wp_loop_rounds 1 ?_
    rw [rounds_succ]
    go_wp2
    go_ret
    exact ⟨false, rfl, fun _ => ⟨by simp, by simp⟩, Below.refl _ _⟩
  · obtain ⟨b, off, rfl, hcell⟩ := hr.lies hpos
    have HR := Lib.hid hr
    have HS := Lib.hid hr.each
    clear hr hcell
    go_enter Try.func34, Try.ntmps34
    go_wp2_with fail
    go_loopw [3, 4] (fun t i wr => ∃ k s : Nat, k ≤ n ∧ i = .int .i64 k ∧ t = .int .i64 s ∧ s ≤ 40000 ∧ Hid (∀ x ∈ l.take k, x.bn ≤ 40000 ∧ x.nm.size ≤ 40000 ∧ x.to.size ≤ 40000) ∧ Hid (Below w.heap.size w wr)) (fun _ i _ => n - (RowKit.intOf i).toNat)
    case atStart => exact ⟨0, 0, by omega, rfl, rfl, by omega, Lib.hid (by simp), Lib.hid (Below.refl _ _)⟩
    case round =>
      obtain ⟨k, s, hk, rfl, rfl, hs, hS, HB⟩ := hrel
      by_cases hlt : k < n
      · obtain ⟨x, hx⟩ : ∃ x, l[k]? = some x := ⟨l[k]'(by rw [hlen.out]; exact hlt), by simp [hlen.out, hlt]⟩
        obtain ⟨b', off', he, hcell⟩ := (HR.out.kept HB.out).lies hpos
        simp only [Option.some.injEq, Addr.mk.injEq, and_true] at he
        obtain ⟨rfl, rfl⟩ := he
        have c1 : wr.cell? ⟨b, off + k * 7 + 1, none⟩ = some (.string x.nm) := by rw [Nat.add_assoc]; exact hcell k x hx 1 _ rfl
        have c2 : wr.cell? ⟨b, off + k * 7 + 2, none⟩ = some (.string x.to) := by rw [Nat.add_assoc]; exact hcell k x hx 2 _ rfl
        have c3 : wr.cell? ⟨b, off + k * 7 + 3, none⟩ = some (.slice x.bo x.bn x.bc) := by rw [Nat.add_assoc]; exact hcell k x hx 3 _ rfl
        have q1 := bwOf_cell wr _ _ c1
        have q2 := bwOf_cell wr _ _ c2
        have q3 := bwOf_cell wr _ _ c3
        obtain ⟨_, _, x1, x2, x3⟩ := HS.out x (List.mem_of_getElem? hx)
        have HX := Lib.hid hx
        clear hx hcell
        go_wp2_with fail
        refine wp_region_bw (w := wr) (by kernel_rfl) (by kernel_rfl) ?_
        repeat (go_big_quiet_step (fail))
        refine wpQuiet_nil ?_
        rintro w3 ⟨m3, rfl⟩
        have HB3 := Lib.hid (below_next HB.out (bwOf_below wr m3))
        by_cases hbig : 40000 < s + 1 + x.bn + x.nm.size + x.to.size
        · go_wp2
          go_ret
          exact ⟨true, rfl, (fun h => nomatch h), HB3.out⟩
        · go_wp2
          go_roundw
          case rel => exact ⟨k + 1, s + 1 + x.bn + x.nm.size + x.to.size, by omega, by go_num, by go_num, by omega, Lib.hid (by
            intro y hy
            rw [List.take_add_one, HX.out] at hy
            rcases List.mem_append.1 hy with hy | hy
            · exact hS.out y hy
            · simp at hy; subst hy; omega), HB3⟩
          case measure => simp [RowKit.intOf]; omega
      · obtain rfl : k = n := by omega
        have h1 := hS.out
        rw [List.take_of_length_le (by rw [hlen.out]; omega)] at h1
        have H1 := Lib.hid h1
        clear h1
        go_wp2_with fail
        go_ret
        exact ⟨_, rfl, fun h => ⟨by have := hlen.out; have := of_decide_eq_false h; omega, H1.out⟩, HB.out⟩
end Go.Proofs.Ytdeggklfjdgfjaa
