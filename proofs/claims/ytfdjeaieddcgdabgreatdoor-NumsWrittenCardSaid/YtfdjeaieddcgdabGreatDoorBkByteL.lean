/-
  WHAT IS PROVED: contracts of a Book's kind of bytes: all lists are looked at.
-/
import Derived.Test.YtfdjeaieddcgdabGreatDoorBkByteG
namespace Go.Proofs.YtfdjeaieddcgdabGreatDoor
open Go.RowKit
set_option linter.unusedVariables false

theorem Turn.ofBelow {w w' : World} (h : Below w.heap.size w w') : Turn (fun _ => False) w w' := ⟨h.os, h.tape, h.output, h.size, fun k hk _ => h.block k hk⟩
/-- a cell of a row of one value -/
theorem marks_cell {w : World} {base e n g c : Nat} {u : Value} (h : w.ownsRow base e 1 (.slice (some ⟨g, 0, none⟩) n c) n (List.replicate n u)) (k : Nat) (hk : k < n) : w.cell? ⟨g, k, none⟩ = some u := by
  have := (own_set h k hk u).1
  rw [this, List.getElem?_replicate, if_pos hk]

set_option maxRecDepth 100000 in
set_option maxHeartbeats 4000000 in
theorem lookByte_any (B base : Nat) (hv : Value) (E : List Ent) (w0 w : World) (hB : w.cell? ⟨B, 1, none⟩ = some hv) (hl : E.length ≤ 1000) (hk : ∀ x ∈ E, x.k ≤ 1000000 ∧ x.n ≤ 1099511627776)
    (G : GrowI base 225 5 1 (fun x n => List.replicate n (mk8 x.k)) hv E w0 w E.length) :
    Calls Tryz.prog 135 #[.pointer (some ⟨B, 0, none⟩)] w fun e w' => e = .returned (.bool true) ∧ Turn (fun _ => False) w w' := by
  obtain ⟨_, E', hlen, ho, hr⟩ := G
  have HR := Lib.hid hr
  have HLEN := Lib.hid hlen
  have HO := Lib.hid ho
  have HKK := Lib.hid hk
  have HBB := Lib.hid hB
  rcases own_form ho with ⟨h0, hE⟩ | ⟨g0, hc, h0, _, _, _, hob⟩
  · subst h0
    clear hr hk hB hlen ho
    go_enter Tryz.func135, Tryz.ntmps135
    have b0 := HBB.out
    go_wp2_with fail
    go_loop [3] (fun iv => iv = .int .i64 0) (fun _ => 0)
    case atStart => rfl
    case round =>
      obtain rfl := hrel
      go_wp2_with fail
      go_ret
      exact ⟨rfl, Turn.refl _ _⟩
  subst h0
  clear hr hk hB hlen ho hob
  go_enter Tryz.func135, Tryz.ntmps135
  go_wp2_with fail
  go_loopw [3] (fun iv wr => ∃ i : Nat, i ≤ E.length ∧ iv = .int .i64 i ∧ Hid (Turn (fun _ => False) w wr)) (fun iv _ => E.length - (intOf iv).toNat)
  case atStart => exact ⟨0, by omega, rfl, Lib.hid (Turn.refl _ _)⟩
  case round =>
    obtain ⟨i, hi, rfl, HT⟩ := hrel
    have b0 : wr.cell? ⟨B, 1, none⟩ = some (.slice (some ⟨g0, 0, none⟩) E.length hc) := HT.out.cell HBB.out id
    by_cases hlt : i < E.length
    · obtain ⟨x, hx⟩ : ∃ x, E[i]? = some x := ⟨E[i], by simp [hlt]⟩
      obtain ⟨l0, hl0, _, hxs, hls⟩ := HR.out i x hx
      obtain ⟨hls, _⟩ := hls hlt
      obtain ⟨p0, p1, p2, _, _⟩ := entry_at (HT.out.own HO.out (fun _ _ => id)) HLEN.out hl0
      obtain ⟨hxk, hxn⟩ := HKK.out x (List.mem_of_getElem? hx)
      have hxs2 := HT.out.own hxs (fun _ _ => id)
      have hls2 := HT.out.own hls (fun _ _ => id)
      clear hx hl0 hxs hls
      obtain ⟨v, long, n, k⟩ := x
      dsimp only at hxk hxn hxs2 hls2 p0 p1 p2
      obtain ⟨ao, cap, rfl⟩ := own_slice3 hxs2
      obtain ⟨lo, lc, rfl⟩ := own_slice3 hls2
      obtain ⟨m, hm⟩ : ∃ m, 1 + k % 250 = m := ⟨_, rfl⟩
      have MI : ∀ w : World, Calls Tryz.prog 248 #[.int .u8 (m : Int), .int .i64 (k : Int)] w fun e w' => e = .returned (.bool true) ∧ Below w.heap.size w w' := by rw [← hm]; exact fun w => (isByte_any k hxk w).mono fun _ _ ⟨h1, h2⟩ => ⟨h1, by subst h2; exact Below.refl _ _⟩
      have hmk : mk8 k = .int .u8 (m : Int) := by rw [← hm]; rfl
      rw [hmk] at hxs2 hls2
      clear hm hmk
      obtain ⟨wx, hwx⟩ : ∃ wx, wr.alloc (.cells #[.slice ao n cap, .slice lo (n + 40) lc, .int .i64 (k : Int)] 225) = wx := ⟨_, rfl⟩
      have HAX : Hid (wx.heap[wr.heap.size]? = some (.cells #[.slice ao n cap, .slice lo (n + 40) lc, .int .i64 (k : Int)] 225 (0, 0))) := by rw [← hwx]; exact heap_alloc_new _ _
      have HTX : Hid (Turn (fun _ => False) w wx) := by rw [← hwx]; exact Lib.hid (HT.out.trans (Turn.alloc _ _ _))
      have HXS := Lib.hid (own_alloc hxs2 hwx)
      have HLS := Lib.hid (own_alloc hls2 hwx)
      have x0 : wx.cell? ⟨wr.heap.size, 0, none⟩ = some (.slice ao n cap) := bk_cell HAX.out 0
      have x1 : wx.cell? ⟨wr.heap.size, 1, none⟩ = some (.slice lo (n + 40) lc) := bk_cell HAX.out 1
      have HWX := Lib.hid hwx
      clear hwx hxs2 hls2
      go_wp2_with fail
      rw [HWX.out]
      go_wp2_with fail
      go_loopw [5] (fun kv w2 => ∃ kk : Nat, kk ≤ n + 40 ∧ kv = .int .i64 kk ∧ Hid (Turn (fun _ => False) wx w2)) (fun kv _ => n + 40 - (intOf kv).toNat)
      case atStart => exact ⟨0, by omega, rfl, Lib.hid (Turn.refl _ _)⟩
      case round =>
        obtain ⟨kk, hkk, rfl, HK⟩ := hrel
        rename World => w2
        have y0 : w2.cell? ⟨wr.heap.size, 0, none⟩ = some (.slice ao n cap) := HK.out.cell x0 id
        have y1 : w2.cell? ⟨wr.heap.size, 1, none⟩ = some (.slice lo (n + 40) lc) := HK.out.cell x1 id
        have y2 : w2.cell? ⟨wr.heap.size, 2, none⟩ = some (.int .i64 (k : Int)) := HK.out.cell (bk_cell HAX.out 2) id
        by_cases hlk : kk < n + 40
        · have q0 := bwOf_cell w2 _ _ y0
          have q1 := bwOf_cell w2 _ _ y1
          have q2 := bwOf_cell w2 _ _ y2
          have hls := HK.out.own HLS.out (fun _ _ => id)
          rcases own_form hls with ⟨_, h0⟩ | ⟨lg, _, h0, _⟩
          · omega
          cases h0
          have z0 := bwOf_cell w2 _ _ (marks_cell hls kk hlk)
          clear hls
          by_cases hkn : kk < n
          · have hxs := HK.out.own HXS.out (fun _ _ => id)
            rcases own_form hxs with ⟨_, h0⟩ | ⟨vg, _, h0, _⟩
            · omega
            cases h0
            have z1 := bwOf_cell w2 _ _ (marks_cell hxs kk hkn)
            clear hxs
            go_wp2_with fail
            refine wp_region_bw (w := w2) (by kernel_rfl) (by kernel_rfl) ?_
            repeat (go_big_quiet_step ((go_at_call 248; exact below_of (MI _))))
            refine wpQuiet_nil ?_
            rintro w7 ⟨m7, h7⟩
            have B7 : Hid (Turn (fun _ => False) w2 w7) := by rw [h7]; exact Lib.hid (Turn.ofBelow (bwOf_below w2 m7))
            clear h7
            go_wp2_with fail
            go_roundw
            case rel => exact ⟨kk + 1, by omega, by go_num, Lib.hid (HK.out.trans B7.out)⟩
            case measure => simp [RowKit.intOf]; omega
          · go_wp2_with fail
            refine wp_region_bw (w := w2) (by kernel_rfl) (by kernel_rfl) ?_
            repeat (go_big_quiet_step ((go_at_call 248; exact below_of (MI _))))
            refine wpQuiet_nil ?_
            rintro w7 ⟨m7, h7⟩
            have B7 : Hid (Turn (fun _ => False) w2 w7) := by rw [h7]; exact Lib.hid (Turn.ofBelow (bwOf_below w2 m7))
            clear h7
            go_wp2_with fail
            go_roundw
            case rel => exact ⟨kk + 1, by omega, by go_num, Lib.hid (HK.out.trans B7.out)⟩
            case measure => simp [RowKit.intOf]; omega
        · obtain rfl : kk = n + 40 := by omega
          go_wp2_with fail
          go_roundw
          case rel => exact ⟨i + 1, by omega, by go_num, Lib.hid (HTX.out.trans HK.out)⟩
          case measure => simp [RowKit.intOf]; omega
    · obtain rfl : i = E.length := by omega
      go_wp2_with fail
      go_ret
      exact ⟨rfl, HT.out⟩
end Go.Proofs.YtfdjeaieddcgdabGreatDoor
