/-
  WHAT IS PROVED: contracts of a Book's kind of bytes: marks; they are written into every list.
-/
import Derived.Test.YtfdjeaieddcgdabGreatDoorBkBase
namespace Go.Proofs.YtfdjeaieddcgdabGreatDoor
open Go.RowKit
set_option linter.unusedVariables false

def mk8 (k : Nat) : Value := .int .u8 ((1 + k % 250 : Nat) : Int)
set_option maxHeartbeats 1000000 in
theorem markByte_any (k : Nat) (hk : k ≤ 1000000) (w : World) : Calls Tryz.prog 229 #[.int .i64 (k : Int)] w fun e w' => e = .returned (mk8 k) ∧ w = w' := by
  go_enter Tryz.func229, Tryz.ntmps229
  go_wp2
  go_ret
  refine ⟨?_, rfl⟩
  unfold mk8
  show Ending.returned (.int .u8 _) = _
  go_num
set_option maxHeartbeats 1000000 in
theorem isByte_any (k : Nat) (hk : k ≤ 1000000) (w : World) : Calls Tryz.prog 248 #[mk8 k, .int .i64 (k : Int)] w fun e w' => e = .returned (.bool true) ∧ w = w' := by
  unfold mk8
  go_enter Tryz.func248, Tryz.ntmps248
  go_wp2
  go_ret
  refine ⟨?_, rfl⟩
  simp

/-- so far every list is written over: what is known between two of them -/
def FillI (base e sz : Nat) (mk : Ent → List Value) (E : List Ent) (w wr : World) (i : Nat) : Prop :=
  Turn (blocksE E) w wr ∧ ∀ (j : Nat) (x : Ent), E[j]? = some x → (j < i → wr.ownsRow base e sz x.v x.n (mk x)) ∧ (i ≤ j → ∃ xs, wr.ownsRow base e sz x.v x.n xs)
theorem fill_start {base B T e sz : Nat} {hv : Value} {E : List Ent} {w : World} (H : Held w base B hv T e sz E) (mk : Ent → List Value) : FillI base e sz mk E w w 0 :=
  ⟨Turn.refl _ _, fun j x hx => ⟨fun h => by omega, fun _ => H.rows x (List.mem_of_getElem? hx)⟩⟩
theorem fill_next {base B T e sz : Nat} {hv : Value} {E : List Ent} {w w0 wr w2 : World} {mk : Ent → List Value} (H : Held w0 base B hv T e sz E) {i : Nat} (h : FillI base e sz mk E w wr i) {x : Ent} (hx : E[i]? = some x)
    (ht : Turn (fun k => x.v.ownBlock = some k) wr w2) (ho : w2.ownsRow base e sz x.v x.n (mk x)) : FillI base e sz mk E w w2 (i + 1) := by
  refine ⟨h.1.next ht (fun k _ hk => ⟨x, List.mem_of_getElem? hx, hk⟩), fun j y hy => ?_⟩
  by_cases hij : i = j
  · subst hij
    rw [hx] at hy
    cases hy
    exact ⟨fun _ => ho, fun h => by omega⟩
  · have hne : ∀ k, y.v.ownBlock = some k → ¬ (x.v.ownBlock = some k) := fun k hk hk2 => H.apart i j x y hx hy hij k hk2 hk
    obtain ⟨h1, h2⟩ := h.2 j y hy
    refine ⟨fun hj => ht.own (h1 (by omega)) hne, fun hj => ?_⟩
    obtain ⟨xs, hxs⟩ := h2 (by omega)
    exact ⟨xs, ht.own hxs hne⟩
theorem fill_end {base e sz : Nat} {E : List Ent} {w wr : World} {mk : Ent → List Value} (h : FillI base e sz mk E w wr E.length) : Turn (blocksE E) w wr ∧ ∀ x ∈ E, wr.ownsRow base e sz x.v x.n (mk x) := by
  refine ⟨h.1, fun x hx => ?_⟩
  obtain ⟨j, hj⟩ := List.mem_iff_getElem?.1 hx
  exact (h.2 j x hj).1 (List.getElem?_eq_some_iff.1 hj).1
theorem Held.free {w : World} {base B T e sz : Nat} {hv : Value} {E : List Ent} (H : Held w base B hv T e sz E) : ¬ blocksE E B ∧ ∀ k, hv.ownBlock = some k → ¬ blocksE E k :=
  ⟨fun ⟨x, hx, hk⟩ => (H.sep x hx B hk).1 rfl, fun k hk ⟨x, hx, hk2⟩ => (H.sep x hx k hk2).2 hk⟩

theorem take_set {ys : List Value} {kk : Nat} {v : Value} (h : ys.take kk = List.replicate kk v) (hk : kk < ys.length) (u : Unit) : (ys.set kk v).take (kk + 1) = List.replicate (kk + 1) v := by
  rw [List.take_add_one, List.getElem?_set_self hk, List.take_set_of_le (Nat.le_refl _), h, List.replicate_succ']; rfl
theorem Turn.drew (S : Nat → Prop) (w : World) : Turn S w w.drew := ⟨rfl, rfl, rfl, Nat.le_refl _, fun _ _ _ => rfl⟩
theorem own_alloc {w wx : World} {base e size n : Nat} {v : Value} {xs : List Value} {o : Obj} (h : w.ownsRow base e size v n xs) (hw : w.alloc o = wx) : wx.ownsRow base e size v n xs := hw ▸ h.alloc o
set_option maxRecDepth 100000 in
set_option maxHeartbeats 4000000 in
theorem fillByte_any (B base : Nat) (hv : Value) (E : List Ent) (w : World) (hB : w.cell? ⟨B, 1, none⟩ = some hv) (hl : E.length ≤ 1000) (hk : ∀ x ∈ E, x.k ≤ 1000000 ∧ x.n ≤ 1099511627776) (H : Held w base B hv 225 5 1 E) :
    Calls Tryz.prog 97 #[.pointer (some ⟨B, 0, none⟩)] w fun e w' => e = .returned (.tuple #[]) ∧ Turn (blocksE E) w w' ∧ ∀ x ∈ E, w'.ownsRow base 5 1 x.v x.n (List.replicate x.n (mk8 x.k)) := by
  have HH := Lib.hid H
  have HKK := Lib.hid hk
  have HBB := Lib.hid hB
  obtain ⟨ho, hc, hhv⟩ := own_slice3 H.own
  subst hhv
  clear H hk hB
  go_enter Tryz.func97, Tryz.ntmps97
  go_wp2_with fail
  go_loopw [2] (fun iv wr => ∃ i : Nat, i ≤ E.length ∧ iv = .int .i64 i ∧ Hid (FillI base 5 1 (fun x => List.replicate x.n (mk8 x.k)) E w wr i)) (fun iv _ => E.length - (intOf iv).toNat)
  case atStart => exact ⟨0, by omega, rfl, Lib.hid (fill_start HH.out _)⟩
  case round =>
    obtain ⟨i, hi, rfl, HF⟩ := hrel
    have b0 : wr.cell? ⟨B, 1, none⟩ = some (.slice ho E.length hc) := HF.out.1.cell HBB.out HH.out.free.1
    by_cases hlt : i < E.length
    · obtain ⟨x, hx⟩ : ∃ x, E[i]? = some x := ⟨E[i], by simp [hlt]⟩
      obtain ⟨g0, c0, e0, _, p0, p1, p2, _, _⟩ := entry_lies (HF.out.1.own HH.out.own HH.out.free.2) hx
      cases e0
      obtain ⟨hxk, hxn⟩ := HKK.out x (List.mem_of_getElem? hx)
      obtain ⟨xs, hxs⟩ := (HF.out.2 i x hx).2 (Nat.le_refl _)
      have HX := Lib.hid hx
      clear hx
      obtain ⟨lo, ln, lc, hlong⟩ := HH.out.longs x (List.mem_of_getElem? HX.out)
      obtain ⟨v, long, n, k⟩ := x
      dsimp only at hxk hxn hxs p0 p1 p2 hlong
      subst hlong
      obtain ⟨ao, cap, rfl⟩ := own_slice3 hxs
      obtain ⟨m, hm⟩ : ∃ m, 1 + k % 250 = m := ⟨_, rfl⟩
      have MK : ∀ w : World, Calls Tryz.prog 229 #[.int .i64 (k : Int)] w fun e w' => e = .returned (.int .u8 (m : Int)) ∧ w = w' := by rw [← hm]; exact fun w => markByte_any k hxk w
      have HMK : Hid (mk8 k = .int .u8 (m : Int)) := by rw [← hm]; rfl
      clear hm
      have HXS := Lib.hid hxs
      clear hxs
      obtain ⟨wx, hwx⟩ : ∃ wx, wr.alloc (.cells #[.slice ao n cap, .slice lo ln lc, .int .i64 (k : Int)] 225) = wx := ⟨_, rfl⟩
      have HAX : Hid (wx.heap[wr.heap.size]? = some (.cells #[.slice ao n cap, .slice lo ln lc, .int .i64 (k : Int)] 225 (0, 0))) := by rw [← hwx]; exact heap_alloc_new _ _
      have HTX : Hid (Turn (fun k => (Value.slice ao n cap).ownBlock = some k) wr wx) := by rw [← hwx]; exact Turn.alloc _ _ _
      have x0 : wx.cell? ⟨wr.heap.size, 0, none⟩ = some (.slice ao n cap) := bk_cell HAX.out 0
      have HWX := Lib.hid hwx
      clear hwx
      go_wp2_with fail
      rw [HWX.out]
      go_loopw [4] (fun kv w2 => ∃ kk : Nat, kk ≤ n ∧ kv = .int .i64 kk ∧ Hid (w2.heap[wr.heap.size]? = some (.cells #[.slice ao n cap, .slice lo ln lc, .int .i64 (k : Int)] 225 (0, 0))) ∧ Hid (Turn (fun k => (Value.slice ao n cap).ownBlock = some k) wr w2) ∧ Hid (∃ ys, w2.ownsRow base 5 1 (.slice ao n cap) n ys ∧ ys.take kk = List.replicate kk (mk8 k))) (fun kv _ => n - (intOf kv).toNat)
      case atStart => exact ⟨0, by omega, rfl, HAX, HTX, Lib.hid ⟨xs, own_alloc HXS.out HWX.out, rfl⟩⟩
      case round =>
        obtain ⟨kk, hkk, rfl, HA, HT, HY⟩ := hrel
        rename World => w2
        have y0 : w2.cell? ⟨wr.heap.size, 0, none⟩ = some (.slice ao n cap) := bk_cell HA.out 0
        have y2 : w2.cell? ⟨wr.heap.size, 2, none⟩ = some (.int .i64 (k : Int)) := bk_cell HA.out 2
        by_cases hlk : kk < n
        · obtain ⟨ys, hy, hyt⟩ := HY.out
          rcases own_form hy with ⟨_, hn0⟩ | ⟨g, cap', h0, _, hnc, hcm, hob⟩
          · omega
          cases h0
          obtain ⟨s1, s2, s3⟩ := own_set hy kk hlk (.int .u8 (m : Int))
          obtain ⟨u, hu⟩ : ∃ u, ys[kk]? = some u := ⟨_, List.getElem?_eq_getElem (by have := hy.1; omega)⟩
          rw [hu] at s1
          have hg : g < w2.heap.size := World.block_lt_of_cell? w2 _ s1
          have HNX : Hid (∃ zs, (w2.setCell ⟨g, kk, none⟩ (.int .u8 (m : Int))).ownsRow base 5 1 (.slice (some ⟨g, 0, none⟩) n cap) n zs ∧ zs.take (kk + 1) = List.replicate (kk + 1) (mk8 k)) := Lib.hid ⟨_, s3, by
            rw [HMK.out]
            rw [HMK.out] at hyt
            exact take_set hyt (by have := hy.1; omega) ()⟩
          have HNT : Hid (Turn (fun k => (Value.slice (some ⟨g, 0, none⟩) n cap).ownBlock = some k) wr (w2.setCell ⟨g, kk, none⟩ (.int .u8 (m : Int)))) := Lib.hid (HT.out.trans (Turn.setCell _ _ _ _ hob))
          have hgw : g ≠ wr.heap.size := fun e => by have := (HXS.out.lt g hob).2; omega
          have HNA : Hid ((w2.setCell ⟨g, kk, none⟩ (.int .u8 (m : Int))).heap[wr.heap.size]? = some (.cells #[.slice (some ⟨g, 0, none⟩) n cap, .slice lo ln lc, .int .i64 (k : Int)] 225 (0, 0))) := Lib.hid ((Turn.setCell (fun k => k = g) w2 ⟨g, kk, none⟩ _ rfl).at_ HA.out (fun e => hgw e.symm))
          clear hy hyt hu s3 hob
          go_wp2_with fail
          go_region_with (go_at_call 229; refine (MK _).mono ?_; rintro e w1 ⟨rfl, rfl⟩)
          all_goals go_wp2_with fail
          all_goals go_roundw
          all_goals first
            | exact ⟨kk + 1, by omega, by go_num, HNA, Lib.hid (HNT.out.trans (Turn.drew _ _)), HNX⟩
            | (simp [RowKit.intOf]; omega)
        · obtain rfl : kk = n := by omega
          go_wp2_with fail
          go_roundw
          case rel => exact ⟨i + 1, by omega, by go_num, Lib.hid (fill_next HH.out HF.out HX.out HT.out (by obtain ⟨ys, h1, h2⟩ := HY.out; have := h1.1; rw [List.take_of_length_le (by omega)] at h2; rw [h2] at h1; exact h1))⟩
          case measure => simp [RowKit.intOf]; omega
    · obtain rfl : i = E.length := by omega
      go_wp2_with fail
      exact bodyPost_end (v := .tuple #[]) (by simp [results, go_sem]) rfl ⟨rfl, fill_end HF.out⟩
end Go.Proofs.YtfdjeaieddcgdabGreatDoor
