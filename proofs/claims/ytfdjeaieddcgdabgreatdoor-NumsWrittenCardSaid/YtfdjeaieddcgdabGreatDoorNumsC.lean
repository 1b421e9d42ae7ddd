/-
  WHAT IS PROVED: contracts of package nums: fold, unfold, PutSigned, PutText.
-/
import Derived.Laws.DeepNot64
import Derived.Test.YtfdjeaieddcgdabGreatDoorNumsB
namespace Go.Proofs.YtfdjeaieddcgdabGreatDoor
open Go.RowKit

theorem bv_comm {n : Nat} (a b : BitVec n) : a ^^^ b = b ^^^ a := BitVec.xor_comm a b
theorem xor_i64_comm (a b : Int) : bits .xor .i64 a b = bits .xor .i64 b a := by
  show IntKind.i64.wrap ((BitVec.ofInt 64 a ^^^ BitVec.ofInt 64 b).toNat : Int) = IntKind.i64.wrap ((BitVec.ofInt 64 b ^^^ BitVec.ofInt 64 a).toNat : Int)
  rw [bv_comm]
theorem xor_u64_zero (a : Nat) (ha : a < 18446744073709551616) : bits .xor .u64 (a : Int) 0 = (a : Int) := by
  have := bits_xor_u64_nat a 0 ha (by omega)
  simpa using this
theorem xor_u64_ones (a : Nat) (ha : a < 18446744073709551616) : bits .xor .u64 (a : Int) 18446744073709551615 = 18446744073709551615 - (a : Int) := by
  show IntKind.u64.wrap ((BitVec.ofInt 64 (a : Int) ^^^ BitVec.allOnes 64).toNat : Int) = _
  rw [BitVec.xor_allOnes, BitVec.toNat_not, BitVec.ofInt_natCast, BitVec.toNat_ofNat, IntKind.wrap_u64]
  have : a % 2 ^ 64 = a := Nat.mod_eq_of_lt (by omega)
  rw [this]; omega
theorem xor_i64_zero (a : Nat) (ha : a < 9223372036854775808) : bits .xor .i64 (a : Int) 0 = (a : Int) := by
  show IntKind.i64.wrap ((BitVec.ofInt 64 (a : Int) ^^^ 0#64).toNat : Int) = _
  rw [BitVec.xor_zero, BitVec.ofInt_natCast, BitVec.toNat_ofNat, IntKind.wrap_i64]
  omega

/-- a number with a sign, folded -/
def foldN (x : Int) : Nat := if 0 ≤ x then (2 * x).toNat else (-2 * x - 1).toNat
def unfoldN (n : Nat) : Int := if n % 2 = 0 then (n / 2 : Nat) else -1 - (n / 2 : Nat)

theorem fold_lt (x : Int) (hx : -9223372036854775808 ≤ x ∧ x ≤ 9223372036854775807) : foldN x < 18446744073709551616 := by unfold foldN; split <;> omega
theorem unfold_fold (x : Int) : unfoldN (foldN x) = x := by unfold foldN unfoldN; split <;> split <;> omega

theorem fold_val (x : Int) (hx : -9223372036854775808 ≤ x ∧ x ≤ 9223372036854775807) :
    bits .xor .u64 (IntKind.u64.wrap (IntKind.u64.wrap x * 2)) (IntKind.u64.wrap (x / 9223372036854775808)) = (foldN x : Int) := by
  simp only [IntKind.wrap_u64]
  unfold foldN
  split
  · have h1 : (x % 18446744073709551616 * 2) % 18446744073709551616 = ((2 * x).toNat : Int) := by omega
    have h2 : x / 9223372036854775808 % 18446744073709551616 = 0 := by omega
    rw [h1, h2, xor_u64_zero _ (by omega)]
  · have h1 : (x % 18446744073709551616 * 2) % 18446744073709551616 = ((18446744073709551616 + 2 * x).toNat : Int) := by omega
    have h2 : x / 9223372036854775808 % 18446744073709551616 = 18446744073709551615 := by omega
    rw [h1, h2, xor_u64_ones _ (by omega)]
    omega

theorem unfold_val (n : Nat) (hn : n < 18446744073709551616) :
    bits .xor .i64 ((n : Int) / 2) (wrap64 (-wrap64 (bits .and .u64 (n : Int) 1))) = unfoldN n := by
  have h1 : bits .and .u64 (n : Int) 1 = ((n % 2 : Nat) : Int) := by
    have := bits_and_u64_nat n 1 hn (by omega)
    rw [Nat.and_one_is_mod] at this
    exact this
  rw [h1]
  unfold unfoldN
  split
  · rename_i h
    rw [h]
    have h2 : wrap64 (-wrap64 ((0 : Nat) : Int)) = 0 := by unfold wrap64; omega
    rw [h2]
    exact xor_i64_zero (n / 2) (by omega)
  · have h : n % 2 = 1 := by omega
    rw [h]
    have h2 : wrap64 (-wrap64 ((1 : Nat) : Int)) = -1 := by unfold wrap64; omega
    rw [h2, xor_i64_comm]
    exact i64_not (n / 2) (by omega)

theorem fold_any (x : Int) (hx : -9223372036854775808 ≤ x ∧ x ≤ 9223372036854775807) (w : World) :
    Calls Tryz.prog 183 #[.int .i64 x] w fun e w' => e = .returned (.int .u64 (foldN x : Int)) ∧ w = w' := by
  go_enter Tryz.func183, Tryz.ntmps183
  go_wp2
  go_ret
  exact ⟨ret_val (fold_val x hx), rfl⟩
theorem unfold_any (n : Nat) (hn : n < 18446744073709551616) (w : World) :
    Calls Tryz.prog 313 #[.int .u64 (n : Int)] w fun e w' => e = .returned (.int .i64 (unfoldN n)) ∧ w = w' := by
  go_enter Tryz.func313, Tryz.ntmps313
  go_wp2
  go_ret
  exact ⟨ret_val (unfold_val n hn), rfl⟩

theorem putSigned_any (ao : Option Addr) (n cap : Nat) (l : List Nat) (x : Int) (hx : -9223372036854775808 ≤ x ∧ x ≤ 9223372036854775807) (w : World) (hr : Row8 w ao n cap l) (hn : n ≤ 4294967296) :
    Calls Tryz.prog 54 #[.slice ao n cap, .int .i64 x] w (New8 w (l ++ vb (foldN x))) := by
  have HR := Lib.hid hr
  clear hr
  go_enter Tryz.func54, Tryz.ntmps54
  go_wp2_with fail
  refine (fold_any x hx w).mono ?_
  rintro e w' ⟨rfl, rfl⟩
  go_wp2_with fail
  refine (put_any ao n cap l (foldN x) (fold_lt x hx) w HR.out hn).mono ?_
  rintro e w1 ⟨a, n1, c1, rfl, h1, h2, h3⟩
  have H1 := Lib.hid h1
  clear h1
  go_wp2
  go_ret
  exact ⟨a, n1, c1, rfl, H1.out, h2, h3⟩

set_option maxHeartbeats 1000000 in
theorem putText_any (ao : Option Addr) (n cap : Nat) (l : List Nat) (s : ByteArray) (w : World) (hr : Row8 w ao n cap l) (hn : n ≤ 4294967296) (hs : s.size ≤ 4294967296) :
    Calls Tryz.prog 55 #[.slice ao n cap, .string s] w (New8 w (l ++ vb s.size ++ strN s)) := by
  have HR := Lib.hid hr
  clear hr
  have hcv := fun w : World => run_bytes_of_string (P := Tryz.prog) w 9 29 5 s Tryz.underlying9 Tryz.underlying29 Tryz.underlying5
  go_enter Tryz.func55, Tryz.ntmps55
  go_wp2_with fail
  refine (bytesOf_any s.size (by omega) w).mono ?_
  rintro e w1 ⟨v, rfl, hown, hb⟩
  obtain ⟨a1, c1, rfl, hr1, ha1⟩ := Row8.of_owns hown (vb_byte s.size)
  have HR1 := Lib.hid hr1
  have hl10 := vb_len64 (n := s.size) (by omega)
  clear hr1 hown ha1
  go_wp2_with fail
  have h2 := row_of_str w1 s hs
  have hP := (parts3 (w1.alloc (.cells (bytesRow s (grownCap w1 s.size 0 5)) 5 ((bytesRow s (grownCap w1 s.size 0 5)).size, (bytesRow s (grownCap w1 s.size 0 5)).size + 1)))
    ⟨ao, n, cap, l⟩ ⟨a1, (vb s.size).length, c1, vb s.size⟩ ⟨some ⟨w1.heap.size, 0, none⟩, s.size, grownCap w1 s.size 0 5, strN s⟩ ((HR.out.kept hb).alloc _) (HR1.out.alloc _) h2).kept (Below.refl _ _).drew
  have hz : (w1.alloc (.cells (bytesRow s (grownCap w1 s.size 0 5)) 5 ((bytesRow s (grownCap w1 s.size 0 5)).size, (bytesRow s (grownCap w1 s.size 0 5)).size + 1))).heap.size = w1.heap.size + 1 := by simp
  rw [hz] at hP
  refine (collect_any (w1.heap.size + 1) 3 [⟨ao, n, cap, l⟩, ⟨a1, (vb s.size).length, c1, vb s.size⟩, ⟨some ⟨w1.heap.size, 0, none⟩, s.size, grownCap w1 s.size 0 5, strN s⟩] _ hP (by simp) (by simp [total]; omega)).mono ?_
  rintro e w2 ⟨v, rfl, hown, hb2⟩
  have hs1 := hb.size
  clear hP h2 hz hcv
  go_wp2
  go_ret
  have hf : flat [⟨ao, n, cap, l⟩, ⟨a1, (vb s.size).length, c1, vb s.size⟩, ⟨some ⟨w1.heap.size, 0, none⟩, s.size, grownCap w1 s.size 0 5, strN s⟩] = l ++ vb s.size ++ strN s := by simp [flat]
  rw [hf] at hown
  refine new8_of rfl hown ?_ (by simp; omega) ?_
  · exact (((hb.alloc hs1 _).alloc (by simp; omega) _).drew).trans (hb2.mono (by simp; omega))
  · intro x hx
    simp only [List.mem_append] at hx
    rcases hx with (h | h) | h
    · exact HR.out.byte x h
    · exact vb_byte _ x h
    · obtain ⟨y, _, rfl⟩ := List.mem_map.1 h
      exact y.toNat_lt
end Go.Proofs.YtfdjeaieddcgdabGreatDoor
