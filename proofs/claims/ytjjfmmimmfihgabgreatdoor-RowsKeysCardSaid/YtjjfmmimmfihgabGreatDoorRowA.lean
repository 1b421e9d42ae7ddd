/-
  WHAT IS PROVED: slices of values as they lie; whether one of them may not be; how many there may be.
-/
import Derived.Test.YtjjfmmimmfihgabGreatDoorValA
import Derived.Test.YtjjfmmimmfihgabGreatDoorNumsG
namespace Go.Proofs.YtjjfmmimmfihgabGreatDoor
open Go.RowKit Go.Lib
set_option linter.unusedVariables false

def Val.cells3 (x : Val) : List Value := [.int .u8 (x.k : Int), .int .i64 x.i, .string x.s]
structure RowV (w : World) (ao : Option Addr) (n cap : Nat) (l : List Val) : Prop where
  len : l.length = n
  room : n ≤ cap
  most : cap ≤ 9223372036854775807
  nil : ao = none → cap = 0
  cell : ∀ a, ao = some a → ∀ i x, l[i]? = some x → ∀ j v, x.cells3[j]? = some v → w.cell? (a.add (i * 3 + j)) = some v
  each : ∀ x ∈ l, x.In
theorem RowV.lt {w : World} {ao : Option Addr} {n cap : Nat} {l : List Val} (h : RowV w ao n cap l) : ∀ a, ao = some a → 0 < n → a.block < w.heap.size := by
  intro a ha hn
  have hx : l[0]? = some (l[0]'(by rw [h.len]; exact hn)) := by simp [h.len, hn]
  have := World.block_lt_of_cell? w _ (h.cell a ha 0 _ hx 0 _ rfl)
  simpa [Addr.add] using this
theorem RowV.below {B : Nat} {w w' : World} {ao : Option Addr} {n cap : Nat} {l : List Val} (h : RowV w ao n cap l) (hb : Below B w w') (hB : ∀ a, ao = some a → 0 < n → a.block < B) : RowV w' ao n cap l := by
  refine ⟨h.len, h.room, h.most, h.nil, fun a ha i x hx j v hv => ?_, h.each⟩
  have hn : 0 < n := by rw [← h.len]; exact List.length_pos_of_mem (List.mem_of_getElem? hx)
  rw [hb.cell (p := a.add (i * 3 + j)) (by have := hB a ha hn; unfold Addr.add; split <;> simpa using this)]
  exact h.cell a ha i x hx j v hv
theorem RowV.kept {w w' : World} {ao : Option Addr} {n cap : Nat} {l : List Val} (h : RowV w ao n cap l) (hb : Below w.heap.size w w') : RowV w' ao n cap l := h.below hb h.lt
theorem RowV.lies {w : World} {ao : Option Addr} {n cap : Nat} {l : List Val} (h : RowV w ao n cap l) (hn : 0 < n) :
    ∃ b off, ao = some ⟨b, off, none⟩ ∧ b < w.heap.size ∧ ∀ i x, l[i]? = some x → ∀ j v, x.cells3[j]? = some v → w.cell? ⟨b, off + (i * 3 + j), none⟩ = some v := by
  cases ao with
  | none => have := h.nil rfl; have := h.room; omega
  | some a =>
    obtain ⟨b, off, sp⟩ := a
    have hx : l[0]? = some (l[0]'(by rw [h.len]; exact hn)) := by simp [h.len, hn]
    have h0 := h.cell _ rfl 0 _ hx 0 _ rfl
    have hsp : sp = none := by
      cases sp with
      | none => rfl
      | some x =>
        simp [Addr.add, World.cell?] at h0
        split at h0 <;> simp at h0
    subst hsp
    refine ⟨b, off, rfl, h.lt _ rfl hn, fun i x hx j v hv => ?_⟩
    have h1 := h.cell _ rfl i x hx j v hv
    rw [Addr.add_lit] at h1
    exact h1
theorem RowV.at3 {w : World} {b off n cap : Nat} {l : List Val} (h : RowV w (some ⟨b, off, none⟩) n cap l) {k : Nat} {x : Val} (hx : l[k]? = some x) :
    w.cell? ⟨b, off + k * 3, none⟩ = some (.int .u8 (x.k : Int)) ∧ w.cell? ⟨b, off + k * 3 + 1, none⟩ = some (.int .i64 x.i) ∧ w.cell? ⟨b, off + k * 3 + 2, none⟩ = some (.string x.s) := by
  have h1 := h.cell _ rfl k x hx
  refine ⟨?_, ?_, ?_⟩
  · have := h1 0 _ rfl
    rw [Addr.add_lit] at this
    exact this
  · have := h1 1 _ rfl
    rw [Addr.add_lit] at this
    rw [Nat.add_assoc]; exact this
  · have := h1 2 _ rfl
    rw [Addr.add_lit] at this
    rw [Nat.add_assoc]; exact this

theorem invalid1_any (k : Nat) (i : Int) (s : ByteArray) (w : World) (hk : k < 256) :
    Calls Tryz.prog 94 #[.agg #[.int .u8 (k : Int), .int .i64 i, .string s]] w fun e w' => e = .returned (.bool (!Val.fine ⟨k, i, s⟩)) ∧ Below w.heap.size w w' := by
  go_enter Tryz.func94, Tryz.ntmps94
  go_wp2_with fail
  refine (check_any k i s _ hk).mono ?_
  rintro e w1 ⟨rfl, hb⟩
  have H1 := Lib.hid (below_step (Below.refl _ _) hb)
  clear hb
  go_wp2
  go_ret
  exact ⟨rfl, H1.out⟩
set_option maxRecDepth 100000 in
set_option maxHeartbeats 2000000 in
theorem indexV_any (ao : Option Addr) (n cap : Nat) (l : List Val) (w : World) (hr : RowV w ao n cap l) :
    Calls Tryz.prog 116 #[.slice ao n cap, .func (.func 94) #[] #[]] w fun e w' => ∃ r : Int, e = .returned (.int .i64 r) ∧ decide (0 ≤ r) = !l.all Val.fine ∧ Below w.heap.size w w' := by
  have hlen := Lib.hid hr.len
  have hroom := hr.room
  have hmost := hr.most
  rcases Nat.eq_zero_or_pos n with rfl | hpos
  · have h0 : l = [] := List.eq_nil_of_length_eq_zero hlen.out
    subst h0
    clear hr
    go_enter Tryz.func116, Tryz.ntmps116
    go_wp2
    refine wp_loop_rounds 1 ?_
    rw [rounds_succ]
    go_wp2
    go_ret
    exact ⟨-1, rfl, rfl, Below.refl _ _⟩
  · obtain ⟨b, off, rfl, hblt, hcell⟩ := hr.lies hpos
    have HR := Lib.hid hr
    clear hr hcell
    go_enter Tryz.func116, Tryz.ntmps116
    go_wp2_with fail
    go_loopw [8] (fun i wr => ∃ k : Nat, k ≤ n ∧ i = .int .i64 k ∧ Hid ((l.take k).all Val.fine = true) ∧ Hid (Below w.heap.size w wr)) (fun i _ => n - (RowKit.intOf i).toNat)
    case atStart => exact ⟨0, by omega, rfl, Lib.hid rfl, Lib.hid (Below.refl _ _)⟩
    case round =>
      obtain ⟨k, hk, rfl, hS, HB⟩ := hrel
      by_cases hlt : k < n
      · obtain ⟨x, hx⟩ : ∃ x, l[k]? = some x := ⟨l[k]'(by rw [hlen.out]; exact hlt), by simp [hlen.out, hlt]⟩
        obtain ⟨c0, c1, c2⟩ := (HR.out.kept HB.out).at3 hx
        have hxin := HR.out.each x (List.mem_of_getElem? hx)
        have HX := Lib.hid hx
        have hxk := hxin.k
        obtain ⟨xk, xi, xs⟩ := x
        simp only at c0 c1 c2 hxk
        clear hx hxin
        go_wp2_with fail
        refine (invalid1_any xk xi xs _ hxk).mono ?_
        rintro e w2 ⟨rfl, hb⟩
        have HB2 := Lib.hid (below_next HB.out hb)
        clear hb c0 c1 c2
        cases hf : Val.fine ⟨xk, xi, xs⟩ with
        | false =>
          have HF := Lib.hid hf
          clear hf
          go_wp2
          go_ret
          refine ⟨(k : Int), rfl, ?_, HB2.out⟩
          have h1 : l.all Val.fine = false := by
            rw [List.all_eq_false]
            exact ⟨_, List.mem_of_getElem? HX.out, by rw [HF.out]; simp⟩
          rw [h1]
          simp
        | true =>
          have HF := Lib.hid hf
          clear hf
          go_wp2
          go_roundw
          case rel => exact ⟨k + 1, by omega, by go_num, Lib.hid (by rw [List.take_add_one, HX.out, List.all_append, hS.out]; simp [HF.out]), HB2⟩
          case measure => simp [RowKit.intOf]; omega
      · obtain rfl : k = n := by omega
        have h1 := hS.out
        rw [List.take_of_length_le (by rw [hlen.out]; omega)] at h1
        have H1 := Lib.hid h1
        clear h1
        go_wp2_with fail
        go_ret
        exact ⟨-1, rfl, by rw [H1.out]; rfl, HB.out⟩
theorem anyInvalid_any (ao : Option Addr) (n cap : Nat) (l : List Val) (w : World) (hr : RowV w ao n cap l) :
    Calls Tryz.prog 57 #[.slice ao n cap] w fun e w' => e = .returned (.bool (!l.all Val.fine)) ∧ Below w.heap.size w w' := by
  have hc : Calls Tryz.prog 93 #[.slice ao n cap, .func (.func 94) #[] #[]] w fun e w' => e = .returned (.bool (!l.all Val.fine)) ∧ Below w.heap.size w w' := by
    have HR := Lib.hid hr
    clear hr
    go_enter Tryz.func93, Tryz.ntmps93
    go_wp2_with fail
    refine (indexV_any ao n cap l _ HR.out).mono ?_
    rintro e w1 ⟨r, rfl, hd, hb⟩
    have HB := Lib.hid hb
    clear hb
    go_wp2
    go_ret
    exact ⟨rfl, HB.out⟩
  go_enter Tryz.func57, Tryz.ntmps57
  go_wp2_with fail
  refine hc.mono ?_
  rintro e w1 ⟨rfl, hb⟩
  have HB := Lib.hid hb
  clear hb
  go_wp2
  go_ret
  exact ⟨rfl, HB.out⟩
/-- may they stand in a row? -/
def chkV (l : List Val) : Nat := if 16 < l.length then 3 else if l.all Val.fine = false then 1 else 0
theorem rcheckV_any (ao : Option Addr) (n cap : Nat) (l : List Val) (w : World) (hr : RowV w ao n cap l) :
    Calls Tryz.prog 25 #[.slice ao n cap] w fun e w' => e = .returned (.int .i64 (chkV l : Int)) ∧ Below w.heap.size w w' := by
  have hlen := hr.len
  have hroom := hr.room
  have hmost := hr.most
  unfold chkV
  by_cases h : 16 < l.length
  · rw [if_pos h]
    have h1 : decide ((16 : Int) < (n : Int)) = true := by rw [decide_eq_true_iff]; omega
    clear hr h
    go_enter Tryz.func25, Tryz.ntmps25
    go_wp2
    go_ret
    exact ⟨rfl, Below.refl _ _⟩
  · rw [if_neg h]
    have h1 : decide ((16 : Int) < (n : Int)) = false := by rw [decide_eq_false_iff_not]; omega
    have HR := Lib.hid hr
    clear hr h
    cases hf : l.all Val.fine with
    | false =>
      rw [if_pos rfl]
      go_enter Tryz.func25, Tryz.ntmps25
      go_wp2_with fail
      refine (anyInvalid_any ao n cap l _ HR.out).mono ?_
      rw [hf]
      rintro e w1 ⟨rfl, hb⟩
      have HB := Lib.hid hb
      clear hb
      go_wp2
      go_ret
      exact ⟨rfl, HB.out⟩
    | true =>
      rw [if_neg (by simp)]
      go_enter Tryz.func25, Tryz.ntmps25
      go_wp2_with fail
      refine (anyInvalid_any ao n cap l _ HR.out).mono ?_
      rw [hf]
      rintro e w1 ⟨rfl, hb⟩
      have HB := Lib.hid hb
      clear hb
      go_wp2
      go_ret
      exact ⟨rfl, HB.out⟩
end Go.Proofs.YtjjfmmimmfihgabGreatDoor
