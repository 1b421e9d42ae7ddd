/-
  WHAT IS PROVED: contracts of the statements' helpers on records: SameBytes and SameRecords of what reads alike, RecordsSize.
-/
import Derived.Test.YtkmanpmaflpgoaaJOpen
namespace Go.Proofs.Ytkmanpmaflpgoaa
open Go.RowKit Go.Lib

set_option maxRecDepth 100000 in
set_option maxHeartbeats 2000000 in
theorem sameBytes_same (ao bo : Option Addr) (n cap cap2 : Nat) (l : List Nat) (w : World) (ha : Row8 w ao n cap l) (hb : Row8 w bo n cap2 l) :
    Calls Try.prog 18 #[.slice ao n cap, .slice bo n cap2] w fun e w' => e = .returned (.bool true) ∧ Below w.heap.size w w' := by
  have hlen := Lib.hid ha.len
  have hroom := ha.room
  have hmost := ha.most
  have hroom2 := hb.room
  have hmost2 := hb.most
  have HA := Lib.hid ha
  have HB := Lib.hid hb
  clear ha hb
  go_enter Try.func18, Try.ntmps18
  go_wp2_with fail
  go_loopw [5] (fun i wr => ∃ k : Nat, k ≤ n ∧ i = .int .i64 k ∧ Hid (Below w.heap.size w wr)) (fun i _ => n - (RowKit.intOf i).toNat)
  case atStart => exact ⟨0, by omega, rfl, Lib.hid (Below.refl _ _)⟩
  case round =>
    obtain ⟨k, hk, rfl, HK⟩ := hrel
    by_cases hlt : k < n
    · obtain ⟨x, hx⟩ : ∃ x, l[k]? = some x := ⟨l[k]'(by rw [hlen.out]; exact hlt), by simp [hlen.out, hlt]⟩
      obtain ⟨b1, o1, rfl, hc1⟩ := (HA.out.kept HK.out).lies (by omega)
      obtain ⟨b2, o2, rfl, hc2⟩ := (HB.out.kept HK.out).lies (by omega)
      have q1 := bwOf_cell wr _ _ (hc1 k x hx)
      have q2 := bwOf_cell wr _ _ (hc2 k x hx)
      clear hc1 hc2 hx
      have mixed : Try.prog.follows .mixedOrders = true := by kernel_rfl
      go_wp2_with fail
      refine wp_region_bw (w := wr) (by kernel_rfl) (by kernel_rfl) ?_
      repeat (go_big_quiet_step (fail))
      refine wpQuiet_nil ?_
      rintro w7 ⟨m7, h7⟩
      have B7 : Hid (Below wr.heap.size wr w7) := by rw [h7]; exact bwOf_below wr m7
      clear h7
      go_wp2_with fail
      go_roundw
      case rel => exact ⟨k + 1, by omega, by go_num, Lib.hid (below_next HK.out B7.out)⟩
      case measure => simp [RowKit.intOf]; omega
    · obtain rfl : k = n := by omega
      go_wp2_with fail
      go_ret
      exact ⟨rfl, HK.out⟩

theorem RowR.lies {w : World} {ao : Option Addr} {n cap : Nat} {l : List (List Nat)} (h : RowR w ao n cap l) (hn : 0 < n) :
    ∃ b off, ao = some ⟨b, off, none⟩ ∧ ∀ j r, l[j]? = some (r : List Nat) → ∃ aj cj, w.cell? ⟨b, off + j, none⟩ = some (.slice aj r.length cj) ∧ Row8 w aj r.length cj r := by
  cases ao with
  | none => have := h.nil rfl; have := h.room; omega
  | some a =>
    obtain ⟨b, off, sp⟩ := a
    have hl := h.len
    obtain ⟨aj, cj, h0, _⟩ := h.cell _ rfl 0 (l[0]'(by omega)) (by simp)
    have hsp : sp = none := by
      cases sp with
      | none => rfl
      | some x =>
        simp [Addr.add, World.cell?] at h0
        split at h0 <;> simp at h0
    subst hsp
    refine ⟨b, off, rfl, fun j r hr => ?_⟩
    obtain ⟨aj, cj, h1, h2⟩ := h.cell _ rfl j r hr
    rw [Addr.add_lit] at h1
    exact ⟨aj, cj, h1, h2⟩

set_option maxRecDepth 100000 in
set_option maxHeartbeats 2000000 in
theorem sameRecords_same (ao bo : Option Addr) (n cap cap2 : Nat) (rs : List (List Nat)) (w : World) (ha : RowR w ao n cap rs) (hb : RowR w bo n cap2 rs) :
    Calls Try.prog 15 #[.slice ao n cap, .slice bo n cap2] w fun e w' => e = .returned (.bool true) ∧ Below w.heap.size w w' := by
  have hlen := Lib.hid ha.len
  have hroom := ha.room
  have hmost := ha.most
  have hroom2 := hb.room
  have hmost2 := hb.most
  have HA := Lib.hid ha
  have HB := Lib.hid hb
  clear ha hb
  go_enter Try.func15, Try.ntmps15
  go_wp2_with fail
  go_loopw [5] (fun i wr => ∃ k : Nat, k ≤ n ∧ i = .int .i64 k ∧ Hid (Below w.heap.size w wr)) (fun i _ => n - (RowKit.intOf i).toNat)
  case atStart => exact ⟨0, by omega, rfl, Lib.hid (Below.refl _ _)⟩
  case round =>
    obtain ⟨k, hk, rfl, HK⟩ := hrel
    by_cases hlt : k < n
    · obtain ⟨x, hx⟩ : ∃ x, rs[k]? = some x := ⟨rs[k]'(by rw [hlen.out]; exact hlt), by simp [hlen.out, hlt]⟩
      obtain ⟨b1, o1, rfl, hc1⟩ := (HA.out.kept HK.out).lies (by omega)
      obtain ⟨b2, o2, rfl, hc2⟩ := (HB.out.kept HK.out).lies (by omega)
      obtain ⟨a1, k1, hc1, hr1⟩ := hc1 k x hx
      obtain ⟨a2, k2, hc2, hr2⟩ := hc2 k x hx
      have q1 := bwOf_cell wr _ _ hc1
      have q2 := bwOf_cell wr _ _ hc2
      have R1 := Lib.hid hr1
      have R2 := Lib.hid hr2
      clear hc1 hc2 hx hr1 hr2
      have mixed : Try.prog.follows .mixedOrders = true := by kernel_rfl
      go_wp2_with fail
      refine wp_region_bw (w := wr) (by kernel_rfl) (by kernel_rfl) ?_
      repeat (go_big_quiet_step ((go_at_call 18; exact below_of (sameBytes_same a1 a2 x.length k1 k2 x _ (bwOf_row R1.out _) (bwOf_row R2.out _)))))
      refine wpQuiet_nil ?_
      rintro w7 ⟨m7, h7⟩
      have B7 : Hid (Below wr.heap.size wr w7) := by rw [h7]; exact bwOf_below wr m7
      clear h7
      go_wp2_with fail
      go_roundw
      case rel => exact ⟨k + 1, by omega, by go_num, Lib.hid (below_next HK.out B7.out)⟩
      case measure => simp [RowKit.intOf]; omega
    · obtain rfl : k = n := by omega
      go_wp2_with fail
      go_ret
      exact ⟨rfl, HK.out⟩

theorem bytesOf_next (rs : List (List Nat)) (k : Nat) (r : List Nat) (h : rs[k]? = some r) : bytesOf (rs.take (k + 1)) = bytesOf (rs.take k) + r.length := by
  unfold bytesOf
  rw [List.take_add_one, h]; simp
theorem bytesOf_le (rs : List (List Nat)) (k : Nat) : bytesOf (rs.take k) ≤ bytesOf rs := by
  have h : bytesOf (rs.take k ++ rs.drop k) = bytesOf rs := by rw [List.take_append_drop]
  unfold bytesOf at h ⊢
  rw [List.map_append, List.sum_append] at h; omega

set_option maxHeartbeats 1000000 in
/-- RecordsSize: their number and all their bytes, where that is at most 1048576; else more than that -/
theorem recordsSize_any (ao : Option Addr) (n cap : Nat) (rs : List (List Nat)) (w : World) (hr : RowR w ao n cap rs) (hn : n ≤ 140737488351232) (hb : ∀ r ∈ rs, r.length ≤ 140737488351232) :
    Calls Try.prog 31 #[.slice ao n cap] w fun e w' => ∃ v : Nat, e = .returned (.int .i64 (v : Int)) ∧ (v = n + bytesOf rs ∨ (1048576 < v ∧ 1048576 < n + bytesOf rs)) ∧ w = w' := by
  have hlen := Lib.hid hr.len
  have hroom := hr.room
  have hmost := hr.most
  rcases Nat.eq_zero_or_pos n with rfl | hpos
  · have h0 : rs = [] := List.eq_nil_of_length_eq_zero hlen.out
    subst h0
    clear hr
    go_enter Try.func31, Try.ntmps31
    go_wp2
    refine wp_loop_rounds 1 ?_
    rw [rounds_succ]
    go_wp2
    go_ret
    exact ⟨0, rfl, .inl rfl, rfl⟩
  · obtain ⟨b, off, rfl, hcell⟩ := hr.lies hpos
    have HC := Lib.hid hcell
    have HS := Lib.hid hb
    clear hr hcell hb
    go_enter Try.func31, Try.ntmps31
    go_wp2
    go_loop [3, 4] (fun t i => ∃ k s : Nat, k ≤ n ∧ i = .int .i64 k ∧ t = .int .i64 s ∧ Hid (s = n + bytesOf (rs.take k)) ∧ s ≤ 281474976710656) (fun _ i => n - (RowKit.intOf i).toNat)
    case atStart => exact ⟨0, n, by omega, rfl, rfl, Lib.hid (by simp [bytesOf]), by omega⟩
    case round =>
      obtain ⟨k, s, hk, rfl, rfl, hS, hs⟩ := hrel
      by_cases hlt : k < n
      · by_cases hbig : s ≤ 1048576
        · obtain ⟨x, hx⟩ : ∃ x, rs[k]? = some x := ⟨rs[k]'(by rw [hlen.out]; exact hlt), by simp [hlen.out, hlt]⟩
          obtain ⟨aj, cj, hc, _⟩ := HC.out k x hx
          have HN := Lib.hid (bytesOf_next rs k x hx)
          have hxs := HS.out x (List.mem_of_getElem? hx)
          clear hx
          go_wp2_with fail
          have hsz : Calls Try.prog 47 #[.slice aj x.length cj] w fun e w' => e = .returned (.int .i64 (x.length : Int)) ∧ w = w' := by
            go_enter Try.func47, Try.ntmps47
            go_wp2
            go_ret
            exact ⟨rfl, rfl⟩
          refine hsz.mono ?_
          rintro e w' ⟨rfl, rfl⟩
          clear hsz
          go_wp2
          go_round
          case rel => exact ⟨k + 1, s + x.length, by omega, by go_num, by go_num, Lib.hid (by rw [HN.out, hS.out]; omega), by omega⟩
          case measure => simp [RowKit.intOf]; omega
        · go_wp2
          go_ret
          have := bytesOf_le rs k
          have := hS.out
          exact ⟨s, rfl, .inr ⟨by omega, by omega⟩, rfl⟩
      · obtain rfl : k = n := by omega
        go_wp2
        go_ret
        have h1 := hS.out
        rw [List.take_of_length_le (by rw [hlen.out]; omega)] at h1
        exact ⟨s, rfl, .inl h1, rfl⟩
end Go.Proofs.Ytkmanpmaflpgoaa
