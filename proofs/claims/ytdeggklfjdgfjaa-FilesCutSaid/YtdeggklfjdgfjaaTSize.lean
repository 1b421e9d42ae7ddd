/-
  WHAT IS PROVED: contract of TextsSize.
-/
import Derived.Test.YtdeggklfjdgfjaaKit
namespace Go.Proofs.Ytdeggklfjdgfjaa
open Go.RowKit Go.ChangeShapes

set_option maxHeartbeats 1000000 in
/-- TextsSize: their number and all their letters, where that is at most 1048576; else more than that -/
theorem textsSize_any (ao : Option Addr) (n cap : Nat) (ss : List ByteArray) (w : World) (hr : RowS w ao n cap ss) (hn : n ≤ 140737488351232) :
    Calls Try.prog 26 #[.slice ao n cap] w fun e w' => ∃ v : Nat, e = .returned (.int .i64 (v : Int)) ∧ (v = n + letters ss ∨ (1048576 < v ∧ 1048576 < n + letters ss)) ∧ w = w' := by
  have hlen := Lib.hid hr.len
  have hroom := hr.room
  have hmost := hr.most
  rcases Nat.eq_zero_or_pos n with rfl | hpos
  · have h0 : ss = [] := List.eq_nil_of_length_eq_zero hlen.out
    subst h0
    clear hr
    go_enter Try.func26, Try.ntmps26
    go_wp2
    refine wp_loop_rounds 1 ?_
    rw [rounds_succ]
    go_wp2
    go_ret
    exact ⟨0, rfl, .inl rfl, rfl⟩
  · obtain ⟨b, off, rfl, hcell⟩ := hr.lies hpos
    have HC := Lib.hid hcell
    have HS := Lib.hid hr.size
    clear hr hcell
    go_enter Try.func26, Try.ntmps26
    go_wp2
    go_loop [3, 4] (fun t i => ∃ k s : Nat, k ≤ n ∧ i = .int .i64 k ∧ t = .int .i64 s ∧ Hid (s = n + letters (ss.take k)) ∧ s ≤ 281474976710656) (fun _ i => n - (intOf i).toNat)
    case atStart => exact ⟨0, n, by omega, rfl, rfl, Lib.hid (by simp [letters]), by omega⟩
    case round =>
      obtain ⟨k, s, hk, rfl, rfl, hS, hs⟩ := hrel
      by_cases hlt : k < n
      · by_cases hbig : s ≤ 1048576
        · obtain ⟨x, hx⟩ : ∃ x, ss[k]? = some x := ⟨ss[k]'(by rw [hlen.out]; exact hlt), by simp [hlen.out, hlt]⟩
          have hc := HC.out k x hx
          have HN := Lib.hid (letters_next ss k x hx)
          have hxs := HS.out x (List.mem_of_getElem? hx)
          clear hx
          go_wp2
          go_round
          case rel => exact ⟨k + 1, s + x.size, by omega, by go_num, by go_num, Lib.hid (by rw [HN.out, hS.out]; omega), by omega⟩
          case measure => simp [intOf]; omega
        · go_wp2
          go_ret
          have := letters_le ss k
          have := hS.out
          exact ⟨s, rfl, .inr ⟨by omega, by omega⟩, rfl⟩
      · obtain rfl : k = n := by omega
        go_wp2
        go_ret
        have h1 := hS.out
        rw [List.take_of_length_le (by rw [hlen.out]; omega)] at h1
        exact ⟨s, rfl, .inl h1, rfl⟩

end Go.Proofs.Ytdeggklfjdgfjaa
