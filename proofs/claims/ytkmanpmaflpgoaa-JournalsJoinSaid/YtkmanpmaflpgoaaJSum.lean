/-
  WHAT IS PROVED: contract of journals: a part's checksum.
-/
import Derived.Test.YtkmanpmaflpgoaaJChk
namespace Go.Proofs.Ytkmanpmaflpgoaa
open Go.RowKit Go.Lib

theorem sum_next (k : Nat) (d : List Nat) (j : Nat) (hj : j < d.length) : sumC k (d.take (j + 1)) = mixC (sumC k (d.take j)) (d.getD j 0) := by
  rw [List.take_add_one, ← sumC_next]
  congr 2
  simp [List.getD, hj]

theorem crc_of (k : Nat) (d : List Nat) (hk : k < 256) (hd : ∀ x ∈ d, x < 256) : bits .xor .u32 IntKind.u32.max ((sumC k d : Nat) : Int) = ((crcN k d : Nat) : Int) := by
  have h := sumC_lt hk d hd
  have e0 : IntKind.u32.max = 4294967295 := rfl
  rw [e0, u32_xor _ _ (by omega) (by omega) (by omega) (by omega), Int.toNat_natCast]
  unfold crcN
  have e : (4294967295 : Int).toNat = 2 ^ 32 - 1 := rfl
  rw [e, Nat.xor_comm]
  congr 1
  generalize sumC k d = s at *
  apply Nat.eq_of_testBit_eq
  intro i
  rw [Nat.testBit_xor, Nat.testBit_two_pow_sub_one, show (4294967295 : Nat) - s = 2 ^ 32 - (s + 1) by omega, Nat.testBit_two_pow_sub_succ (by omega)]
  by_cases hi : i < 32
  · simp [hi]
  · have : s.testBit i = false := Nat.testBit_lt_two_pow (Nat.lt_of_lt_of_le (show s < 2 ^ 32 from h) (Nat.pow_le_pow_right (n := 2) (by decide) (show 32 ≤ i by omega)))
    simp [hi, this]

set_option maxHeartbeats 2000000 in
theorem checksum_n (k : Nat) (hk : k < 256) (ao : Option Addr) (n cap : Nat) (d : List Nat) (w : World) (hr : Row8 w ao n cap d) :
    Calls Try.prog 55 #[.agg #[.int .u8 k, .slice ao n cap]] w fun e w' => e = .returned (.int .u32 (crcN k d : Nat)) ∧ Below w.heap.size w w' := by
  have hlen := hr.len
  have hroom := hr.room
  have hmost := hr.most
  have hby := hr.byte
  have HB := Lib.hid (below_alloc w (.cells #[.int .u8 k, .slice ao n cap] 85))
  have HR := Lib.hid (hr.alloc (.cells #[.int .u8 k, .slice ao n cap] 85))
  have HC := Lib.hid (crc_of k d hk hby)
  have HLEN := Lib.hid hlen
  have hn63 : n ≤ 9223372036854775807 := Nat.le_trans hroom hmost
  clear hr hlen
  have hk' : (k : Int) ≤ 255 := by omega
  go_enter Try.func55, Try.ntmps55
  go_wp2_with fail
  refine (mixed_n 4294967295 k (by omega) hk _).mono ?_
  rintro e w' ⟨rfl, rfl⟩
  go_wp2_with fail
  go_loop [3, 12] (fun x i => ∃ j : Nat, j ≤ n ∧ i = .int .i64 j ∧ x = .int .u32 (sumC k (d.take j) : Nat)) (fun _ i => n - (intOf i).toNat)
  case atStart => exact ⟨0, by omega, rfl, rfl⟩
  case round =>
    obtain ⟨j, hj, rfl, rfl⟩ := hrel
    by_cases hlt : j < n
    · obtain ⟨b, off, rfl, hcell⟩ := HR.out.lies (by omega)
      have hjd : j < d.length := by rw [HLEN.out]; exact hlt
      have hx := hcell j (d.getD j 0) (by simp [List.getD, hjd])
      have hb : d.getD j 0 < 256 := hby _ (by simp [List.getD, hjd])
      have HN := Lib.hid (sum_next k d j hjd)
      have hsl := sumC_lt hk (d.take j) (fun x hx => hby x (List.mem_of_mem_take hx))
      clear hcell
      generalize sumC k (d.take j) = s at *
      generalize d.getD j 0 = c at *
      go_wp2_with fail
      refine (mixed_n s c hsl hb _).mono ?_
      rintro e w' ⟨rfl, rfl⟩
      go_wp2
      go_round
      case rel => exact ⟨j + 1, by omega, by go_num, by rw [HN.out]⟩
      case measure => simp [intOf]; omega
    · obtain rfl : j = n := by omega
      have hfull : d.take j = d := List.take_of_length_le (by rw [HLEN.out]; omega)
      rw [hfull]
      have hsl := sumC_lt hk d hby
      clear hfull
      go_wp2
      go_ret
      exact ⟨ret_val HC.out, HB.out⟩
end Go.Proofs.Ytkmanpmaflpgoaa
