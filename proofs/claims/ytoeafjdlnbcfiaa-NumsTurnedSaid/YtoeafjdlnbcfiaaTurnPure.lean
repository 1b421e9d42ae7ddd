/-
  WHAT IS PROVED: plain facts on the bytes of a number with a sign and of it with all bits turned.
-/
import Derived.Laws.BitsAllLaws
import Derived.Test.YtoeafjdlnbcfiaaNumsC
import Derived.Test.YtoeafjdlnbcfiaaVbPure
namespace Go.Proofs.Ytoeafjdlnbcfiaa

theorem vb_pair (m : Nat) : ∃ c r, vb (2 * m) = c :: r ∧ vb (2 * m + 1) = (c + 1) :: r ∧ c % 2 = 0 ∧ c + 1 < 256 := by
  by_cases h : 2 * m < 128
  · exact ⟨2 * m, [], vb_low h, vb_low (by omega), by omega, by omega⟩
  · refine ⟨2 * m % 128 + 128, vb (2 * m / 128), vb_more (by omega), ?_, by omega, by omega⟩
    rw [vb_more (by omega), show (2 * m + 1) / 128 = 2 * m / 128 by omega, show (2 * m + 1) % 128 = 2 * m % 128 + 1 by omega]

theorem xor_next (c : Nat) (h : c < 256) (h2 : c % 2 = 0) : c ^^^ (c + 1) = 1 ∧ (c + 1) ^^^ c = 1 := by
  have : ∀ c, c < 256 → c % 2 = 0 → c ^^^ (c + 1) = 1 ∧ (c + 1) ^^^ c = 1 := by decide +kernel
  exact this c h h2

theorem turned (x : Int) : ∃ p q r, vb (foldN x) = p :: r ∧ vb (foldN (-1 - x)) = q :: r ∧ p < 256 ∧ q < 256 ∧ p ^^^ q = 1 ∧ (0 ≤ x → p % 2 = 0) ∧ (x < 0 → p % 2 = 1) := by
  by_cases h : 0 ≤ x
  · obtain ⟨c, r, h1, h2, h3, h4⟩ := vb_pair x.toNat
    have e1 : foldN x = 2 * x.toNat := by unfold foldN; rw [if_pos h]; omega
    have e2 : foldN (-1 - x) = 2 * x.toNat + 1 := by unfold foldN; rw [if_neg (by omega)]; omega
    rw [e1, e2]
    exact ⟨c, c + 1, r, h1, h2, by omega, h4, (xor_next c (by omega) h3).1, fun _ => h3, fun hn => by omega⟩
  · obtain ⟨c, r, h1, h2, h3, h4⟩ := vb_pair (-1 - x).toNat
    have e1 : foldN x = 2 * (-1 - x).toNat + 1 := by unfold foldN; rw [if_neg h]; omega
    have e2 : foldN (-1 - x) = 2 * (-1 - x).toNat := by unfold foldN; rw [if_pos (by omega)]; omega
    rw [e1, e2]
    exact ⟨c + 1, c, r, h2, h1, h4, by omega, (xor_next c (by omega) h3).2, fun hn => by omega, fun _ => by omega⟩

theorem not_i64 (x : Int) (hx : -9223372036854775808 ≤ x ∧ x ≤ 9223372036854775807) : bits .xor .i64 (-1) x = -1 - x := by
  show IntKind.i64.wrap ((BitVec.ofInt 64 (-1) ^^^ BitVec.ofInt 64 x).toNat : Int) = _
  have h1 : BitVec.ofInt 64 (-1) = BitVec.allOnes 64 := by decide
  rw [h1, BitVec.allOnes_xor, BitVec.toNat_not, BitVec.toNat_ofInt, IntKind.wrap_i64]
  omega

theorem and1_u8 (p : Nat) (h : p < 256) : bits .and .u8 (p : Int) 1 = ((p % 2 : Nat) : Int) := by
  have := u8_and_nat p 1 h (by omega)
  rw [Nat.and_one_is_mod] at this
  exact this

end Go.Proofs.Ytoeafjdlnbcfiaa
