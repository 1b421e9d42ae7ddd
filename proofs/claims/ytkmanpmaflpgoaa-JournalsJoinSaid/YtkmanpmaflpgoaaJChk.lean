/-
  WHAT IS PROVED: contracts of journals: room, start, kindOf, mixed.
-/
import Derived.Test.YtkmanpmaflpgoaaKit
import Derived.Test.YtkmanpmaflpgoaaJouPure
import Derived.Laws.BitsAllLaws
namespace Go.Proofs.Ytkmanpmaflpgoaa
open Go.RowKit Go.Lib

theorem bit_u32 (s : Nat) (h : s < 4294967296) : bits .xor .u32 ((s : Int) / 2) (bits .and .u32 2197175160 (-(bits .and .u32 (s : Int) 1) % 4294967296)) = (stepC s : Int) := by
  have h1 : bits .and .u32 (s : Int) 1 = ((s % 2 : Nat) : Int) := by
    rw [u32_and (s : Int) 1 (by omega) (by omega) (by omega) (by omega)]
    have : (s : Int).toNat &&& (1 : Int).toNat = s % 2 := by rw [Int.toNat_natCast]; exact Nat.and_one_is_mod s
    rw [this]
  rw [h1]
  unfold stepC
  have hd : (s : Int) / 2 = ((s / 2 : Nat) : Int) := by omega
  rw [hd]
  rcases Nat.mod_two_eq_zero_or_one s with h0 | h0
  · rw [h0]
    have e1 : (-((0 : Nat) : Int)) % 4294967296 = 0 := by decide
    have e2 : bits .and .u32 2197175160 0 = 0 := by decide
    rw [e1, e2, u32_xor _ 0 (by omega) (by omega) (by omega) (by omega), Int.toNat_natCast]
    rfl
  · rw [h0]
    have e1 : (-((1 : Nat) : Int)) % 4294967296 = 4294967295 := by decide
    have e2 : bits .and .u32 2197175160 4294967295 = 2197175160 := by
      rw [u32_and _ _ (by omega) (by omega) (by omega) (by omega)]; decide
    rw [e1, e2, u32_xor _ _ (by omega) (by omega) (by omega) (by omega), Int.toNat_natCast]
    rfl

theorem room_n (a : Nat) (w : World) : Calls Try.prog 44 #[.int .i64 a] w fun e w' => e = .returned (.int .i64 (roomN a : Nat)) ∧ w = w' := by
  have h : ((128 : Int) - (a : Int) % 128) = ((roomN a : Nat) : Int) := by unfold roomN; omega
  have H := Lib.hid h
  clear h
  go_enter Try.func44, Try.ntmps44
  go_wp2
  go_ret
  exact ⟨ret_val H.out, rfl⟩

theorem start_n (a : Nat) (ha : a ≤ 1099511627776) (w : World) : Calls Try.prog 43 #[.int .i64 a] w fun e w' => e = .returned (.int .i64 (startN a : Nat)) ∧ w = w' := by
  have hr := roomN_pos a
  by_cases h : roomN a ≤ 7
  · have H : Hid (startN a = a + roomN a) := by show _ = _; unfold startN; rw [if_pos h]
    go_enter Try.func43, Try.ntmps43
    go_wp2_with fail
    refine (room_n a w).mono ?_
    rintro e w' ⟨rfl, rfl⟩
    go_wp2
    go_ret
    exact ⟨ret_val (by rw [H.out]; omega), rfl⟩
  · have H : Hid (startN a = a) := by show _ = _; unfold startN; rw [if_neg h]
    go_enter Try.func43, Try.ntmps43
    go_wp2_with fail
    refine (room_n a w).mono ?_
    rintro e w' ⟨rfl, rfl⟩
    go_wp2
    go_ret
    exact ⟨ret_val (by rw [H.out]), rfl⟩

theorem kindOf_n (b c : Bool) (w : World) : Calls Try.prog 45 #[.bool b, .bool c] w fun e w' => e = .returned (.int .u8 (kindN b c : Nat)) ∧ w = w' := by
  cases b <;> cases c
  all_goals
    go_enter Try.func45, Try.ntmps45
    go_wp2
    go_ret
    exact ⟨rfl, rfl⟩

set_option maxHeartbeats 1000000 in
theorem mixed_n (s c : Nat) (hs : s < 4294967296) (hc : c < 256) (w : World) : Calls Try.prog 61 #[.int .u32 s, .int .u8 c] w fun e w' => e = .returned (.int .u32 (mixC s c : Nat)) ∧ w = w' := by
  have HX : Hid (bits .xor .u32 (s : Int) (c : Int) = ((s ^^^ c : Nat) : Int)) := by
    show _ = _
    rw [u32_xor _ _ (by omega) (by omega) (by omega) (by omega), Int.toNat_natCast, Int.toNat_natCast]
  have hx := xorC_lt hs hc
  go_enter Try.func61, Try.ntmps61
  go_wp2
  rw [HX.out]
  go_loop [0, 9] (fun x i => ∃ k : Nat, k ≤ 8 ∧ i = .int .i64 k ∧ x = .int .u32 (stepsC k (s ^^^ c) : Nat)) (fun _ i => 8 - (intOf i).toNat)
  case atStart => exact ⟨0, by omega, rfl, rfl⟩
  case round =>
    obtain ⟨k, hk, rfl, rfl⟩ := hrel
    have hlt := stepsC_lt k hx
    by_cases h8 : k < 8
    · have HB := Lib.hid (bit_u32 _ hlt)
      have HN : Hid (stepsC (k + 1) (s ^^^ c) = stepC (stepsC k (s ^^^ c))) := by show _ = _; rfl
      clear hx
      generalize stepsC k (s ^^^ c) = x at *
      go_wp2
      go_round
      case rel => exact ⟨k + 1, by omega, by go_num, by rw [HN.out, ← HB.out]⟩
      case measure => simp [intOf]; omega
    · obtain rfl : k = 8 := by omega
      go_wp2
      go_ret
      exact ⟨rfl, rfl⟩
end Go.Proofs.Ytkmanpmaflpgoaa
