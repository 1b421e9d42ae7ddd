/-
  WHAT IS PROVED: contracts of the statements' own helpers: TwinBytes, ValuesSize, fine.
-/
import Derived.Test.YtjjfmmimmfihgabGreatDoorRowL
namespace Go.Proofs.YtjjfmmimmfihgabGreatDoor
open Go.RowKit Go.Lib
set_option linter.unusedVariables false

/-- what TwinBytes hands back: the same bytes in new memory, with room -/
def TwinOwn (l : List Nat) (w : World) (e : Ending) (w' : World) : Prop :=
  ∃ g cap, e = .returned (.slice (some ⟨g, 0, none⟩) l.length cap) ∧ w'.ownsRow w.heap.size 5 1 (.slice (some ⟨g, 0, none⟩) l.length cap) l.length (cells8 l) ∧ Below w.heap.size w w'
theorem own_less {w : World} {base e n m g cap : Nat} {xs ys : List Value} (h : w.ownsRow base e 1 (.slice (some ⟨g, 0, none⟩) (n + m) cap) (n + m) (xs ++ ys)) (hx : xs.length = n) : w.ownsRow base e 1 (.slice (some ⟨g, 0, none⟩) n cap) n xs := by
  refine ⟨by omega, ?_⟩
  rcases h.2 with ⟨h0, _⟩ | ⟨g', cap', cur, h0, h1, h2, h3, h4, h5, h6⟩
  · cases h0
  · simp only [Value.slice.injEq, Option.some.injEq, Addr.mk.injEq, and_true] at h0
    obtain ⟨rfl, _, rfl⟩ := h0
    refine .inr ⟨g, cap, cur, rfl, h1, h2, by omega, h4, h5, ?_⟩
    have := congrArg (List.take (n * 1)) h6
    rw [List.take_take, List.take_append_of_le_length (by omega)] at this
    rw [show min (n * 1) ((n + m) * 1) = n * 1 by omega] at this
    rw [this, List.take_of_length_le (by omega)]
set_option maxRecDepth 100000 in
set_option maxHeartbeats 2000000 in
theorem twinOwn_any (ao : Option Addr) (n cap : Nat) (l : List Nat) (w : World) (hr : Row8 w ao n cap l) (hn : n ≤ 4294967296) :
    Calls Tryz.prog 16 #[.slice ao n cap] w (TwinOwn l w) := by
  obtain ⟨i0, hi, hz0, hz1, hz2⟩ := info_parts Tryz.info8
  have HR := Lib.hid hr
  have hlen := Lib.hid hr.len
  have hbyte := Lib.hid hr.byte
  have hroom := hr.room
  have hmost := hr.most
  clear hr
  go_enter Tryz.func16, Tryz.ntmps16
  go_wp2_with (at_make; refine wpList_make_own _ rfl _ _ 29 rfl w.heap.size 5 i0 (.int .u8 0) 1 Tryz.underlying29 hi hz0 hz1 _ _ _ (n + 1) rfl rfl (by omega) (by rw [hz2]; omega) (by unfold maxLen; omega) (Nat.le_refl _) ?_)
  intro w1 hown1 hg1
  have hb1 : Below w.heap.size w w1 := (Below.refl w.heap.size w).grown hg1 (Nat.le_refl _) (fun k hk => by cases hk)
  have HO := Lib.hid hown1
  have HB1 := Lib.hid hb1
  clear hown1 hg1 hb1
  go_wp2
  go_loopw [3, 4] (fun v i wr => ∃ k : Nat, k ≤ n ∧ i = .int .i64 k ∧ Hid (wr.ownsRow w.heap.size 5 1 v k (cells8 (l.take k))) ∧ Hid (Below w.heap.size w wr)) (fun _ i _ => n - (RowKit.intOf i).toNat)
  case atStart => exact ⟨0, by omega, rfl, HO, HB1⟩
  case round =>
    obtain ⟨k, hk, rfl, hO, hbel⟩ := hrel
    have hsz := hbel.out.size
    by_cases hlt : k < n
    · obtain ⟨b, off, rfl, hcell⟩ := (HR.out.kept hbel.out).lies (by omega)
      obtain ⟨c, hc⟩ : ∃ c, l[k]? = some c := ⟨l[k]'(by rw [hlen.out]; exact hlt), by rw [List.getElem?_eq_getElem]⟩
      have hck := hcell k c hc
      have hcb := hbyte.out c (List.mem_of_getElem? hc)
      have HN : Hid (l.take (k + 1) = l.take k ++ [c]) := by
        show _ = _
        rw [List.take_add_one, hc]; rfl
      have HRow := Lib.hid (row_new wr [c] 1 wr.heap.size (0, 0) rfl rfl (by intro x hx; simp at hx; omega) (by omega))
      clear hcell hc
      go_wp2_with (at_builtin; refine wpList_append_row rfl (.tmp 15) (.tmp 20) rfl w.heap.size _ _ _ rfl (hO.out.alloc _) (some ⟨wr.heap.size, 0, none⟩) 1 1 [c] rfl HRow.out (by omega) (by simp; omega) ?_)
      intro v' w2 hown2 hg2
      have hR : Hid (w2.ownsRow w.heap.size 5 1 v' (k + 1) (cells8 (l.take (k + 1)))) := by
        show World.ownsRow _ _ _ _ _ _ _
        rw [HN.out]; exact hown2
      have hB : Hid (Below w.heap.size w w2) := (hbel.out.alloc hsz _).grown hg2 (by simp; omega) (fun j hj => (hO.out.lt j hj).1)
      clear hown2 hg2
      go_wp2
      go_roundw
      case rel => exact ⟨k + 1, by omega, by go_num, hR, hB⟩
      case measure => simp [RowKit.intOf]; omega
    · obtain rfl : k = n := by omega
      have HRow := Lib.hid (row_new wr [77] 1 wr.heap.size (0, 0) rfl rfl (by intro x hx; simp at hx; omega) (by omega))
      go_wp2_with (at_builtin; refine wpList_append_row rfl (.tmp 22) (.tmp 23) rfl w.heap.size _ _ _ rfl (hO.out.alloc _) (some ⟨wr.heap.size, 0, none⟩) 1 1 [77] rfl HRow.out (by omega) (by simp; omega) ?_)
      intro v' w2 hown2 hg2
      have hB : Hid (Below w.heap.size w w2) := (hbel.out.alloc hsz _).grown hg2 (by simp; omega) (fun j hj => (hO.out.lt j hj).1)
      have hfull : l.take k = l := List.take_of_length_le (by rw [hlen.out]; omega)
      rw [hfull] at hown2
      obtain ⟨g, cap2, rfl, hg, hc1, hc2⟩ := own_shape hown2 (by omega)
      have HO2 := Lib.hid hown2
      clear hown2 hg2 hfull HRow
      go_wp2
      go_ret
      have hll := hlen.out
      exact ⟨g, cap2, by rw [hll]; rfl, by rw [hll]; exact own_less (by rw [cells8_append]; exact HO2.out) (by simp [cells8, hll]), hB.out⟩

set_option maxRecDepth 100000 in
set_option maxHeartbeats 4000000 in
theorem valuesSize_any (ao : Option Addr) (n cap : Nat) (vs : List Val) (w : World) (hr : RowV w ao n cap vs) :
    Calls Tryz.prog 13 #[.slice ao n cap] w fun e w' => ∃ r : Int, e = .returned (.int .i64 r) ∧ Below w.heap.size w w' := by
  have hlen := Lib.hid hr.len
  have hroom := hr.room
  have hmost := hr.most
  rcases Nat.eq_zero_or_pos n with rfl | hpos
  · clear hr
    go_enter Tryz.func13, Tryz.ntmps13
    go_wp2
    refine wp_loop_rounds 1 ?_
    rw [rounds_succ]
    go_wp2
    go_ret
    exact ⟨_, rfl, Below.refl _ _⟩
  · obtain ⟨b, off, rfl, hblt, hcell⟩ := hr.lies hpos
    have HR := Lib.hid hr
    clear hr hcell
    go_enter Tryz.func13, Tryz.ntmps13
    go_wp2_with fail
    go_loopw [3, 4] (fun t i wr => ∃ (k : Nat) (s : Int), k ≤ n ∧ i = .int .i64 k ∧ t = .int .i64 s ∧ Hid (Below w.heap.size w wr)) (fun _ i _ => n - (RowKit.intOf i).toNat)
    case atStart => exact ⟨0, _, by omega, rfl, rfl, Lib.hid (Below.refl _ _)⟩
    case round =>
      obtain ⟨k, s, hk, rfl, rfl, HB⟩ := hrel
      by_cases hlt : k < n
      · by_cases hs : s ≤ 1048576
        · have hs2 : decide (s ≤ 1048576) = true := by simpa using hs
          obtain ⟨x, hx⟩ : ∃ x, vs[k]? = some x := ⟨vs[k]'(by rw [hlen.out]; exact hlt), by simp [hlen.out, hlt]⟩
          obtain ⟨c0, c1, c2⟩ := (HR.out.kept HB.out).at3 hx
          obtain ⟨xk, xi, xs⟩ := x
          simp only at c0 c1 c2
          clear hx hs
          go_wp2
          go_roundw
          case rel => exact ⟨k + 1, _, by omega, by go_num, rfl, HB⟩
          case measure => simp [RowKit.intOf]; omega
        · have hs2 : decide (s ≤ 1048576) = false := by simpa using hs
          clear hs
          go_wp2
          go_ret
          exact ⟨_, rfl, HB.out⟩
      · obtain rfl : k = n := by omega
        go_wp2
        go_ret
        exact ⟨_, rfl, HB.out⟩
set_option maxRecDepth 100000 in
set_option maxHeartbeats 4000000 in
theorem fine5_any (ao : Option Addr) (n cap : Nat) (vs : List Val) (w : World) (hr : RowV w ao n cap vs) :
    Calls Tryz.prog 14 #[.slice ao n cap] w fun e w' => e = .returned (.bool (vs.all Val.fine && decide (vs.length ≤ 16))) ∧ Below w.heap.size w w' := by
  have hlen := Lib.hid hr.len
  have hroom := hr.room
  have hmost := hr.most
  have hd : decide ((n : Int) ≤ 16) = decide (vs.length ≤ 16) := by rw [hr.len, decide_eq_decide]; omega
  generalize decide (vs.length ≤ 16) = D at *
  rcases Nat.eq_zero_or_pos n with rfl | hpos
  · have h0 : vs = [] := List.eq_nil_of_length_eq_zero hlen.out
    subst h0
    have hd2 : D = true := by rw [← hd]; rfl
    subst hd2
    clear hr hd
    go_enter Tryz.func14, Tryz.ntmps14
    go_wp2
    refine wp_loop_rounds 1 ?_
    rw [rounds_succ]
    go_wp2
    go_ret
    exact ⟨rfl, Below.refl _ _⟩
  · obtain ⟨b, off, rfl, hblt, hcell⟩ := hr.lies hpos
    have HR := Lib.hid hr
    clear hr hcell
    go_enter Tryz.func14, Tryz.ntmps14
    go_wp2_with fail
    go_loopw [3] (fun i wr => ∃ k : Nat, k ≤ n ∧ i = .int .i64 k ∧ Hid ((vs.take k).all Val.fine = true) ∧ Hid (Below w.heap.size w wr)) (fun i _ => n - (RowKit.intOf i).toNat)
    case atStart => exact ⟨0, by omega, rfl, Lib.hid rfl, Lib.hid (Below.refl _ _)⟩
    case round =>
      obtain ⟨k, hk, rfl, hS, HB⟩ := hrel
      by_cases hlt : k < n
      · obtain ⟨x, hx⟩ : ∃ x, vs[k]? = some x := ⟨vs[k]'(by rw [hlen.out]; exact hlt), by simp [hlen.out, hlt]⟩
        obtain ⟨c0, c1, c2⟩ := (HR.out.kept HB.out).at3 hx
        have hxk := (HR.out.each x (List.mem_of_getElem? hx)).k
        have HX := Lib.hid hx
        obtain ⟨xk, xi, xs⟩ := x
        simp only at c0 c1 c2 hxk
        clear hx
        go_wp2_with fail
        refine (check_any xk xi xs _ hxk).mono ?_
        rintro e w2 ⟨rfl, hb⟩
        have HB2 := Lib.hid (below_next HB.out hb)
        clear hb c0 c1 c2
        cases hf : Val.fine ⟨xk, xi, xs⟩ with
        | false =>
          have HF := Lib.hid hf
          clear hf
          go_wp2
          go_ret
          have h1 : vs.all Val.fine = false := by
            rw [List.all_eq_false]
            exact ⟨_, List.mem_of_getElem? HX.out, by rw [HF.out]; simp⟩
          exact ⟨by rw [h1]; rfl, HB2.out⟩
        | true =>
          have HF := Lib.hid hf
          clear hf
          go_wp2
          go_roundw
          case rel => exact ⟨k + 1, by omega, by go_num, Lib.hid (by rw [List.take_add_one, HX.out, List.all_append, hS.out]; simp [HF.out]), HB2⟩
          case measure => simp [RowKit.intOf]; omega
      · obtain rfl : k = n := by omega
        have h1 := hS.out
        rw [List.take_of_length_le (by rw [hlen.out]; omega)] at h1
        have H1 := Lib.hid h1
        clear h1
        go_wp2_with fail
        go_ret
        exact ⟨by rw [H1.out]; rfl, HB.out⟩
end Go.Proofs.YtjjfmmimmfihgabGreatDoor
