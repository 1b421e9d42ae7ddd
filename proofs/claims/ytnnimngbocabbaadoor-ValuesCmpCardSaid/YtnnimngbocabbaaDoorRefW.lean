/-
  WHAT IS PROVED: contracts of the document's own functions on values: the digits of a number.
-/
import Derived.Test.YtnnimngbocabbaaDoorRefV
namespace Go.Proofs.YtnnimngbocabbaaDoor
open Go.RowKit Go.Lib
set_option linter.unusedVariables false

def strOf : Value → ByteArray
  | .string s => s
  | _ => ⟨#[]⟩
/-- a digit's sign, from the constant of ten -/
theorem ten_at (d : Nat) (h : d < 10) : ((⟨#[48, 49, 50, 51, 52, 53, 54, 55, 56, 57]⟩ : ByteArray).extract d (d + 1)).toList = [UInt8.ofNat (48 + d)] := by
  rcases (show d = 0 ∨ d = 1 ∨ d = 2 ∨ d = 3 ∨ d = 4 ∨ d = 5 ∨ d = 6 ∨ d = 7 ∨ d = 8 ∨ d = 9 by omega) with rfl | rfl | rfl | rfl | rfl | rfl | rfl | rfl | rfl | rfl <;> decide +kernel
theorem toL (s : ByteArray) : s.toList = s.data.toList := ByteArray.toList_eq s
theorem toL_append (s t : ByteArray) : (s ++ t).toList = s.toList ++ t.toList := by simp [toL]
theorem ofL (s : ByteArray) : (⟨s.toList.toArray⟩ : ByteArray) = s := by rw [toL]
theorem dec_step (m : Nat) : decDigits m = (if m / 10 = 0 then [] else decDigits (m / 10)) ++ [UInt8.ofNat (48 + m % 10)] := by
  by_cases h : m < 10
  · rw [decDigits_one h, if_pos (by omega), Nat.mod_eq_of_lt h]; rfl
  · conv => lhs; rw [decDigits]
    rw [dif_neg h, if_neg (by omega)]
theorem dec_len (n : Nat) (h : n ≤ 9223372036854775807) : (decDigits n).length ≤ 21 := by
  have := itoa_length_le (n : Int) (by omega) (by omega)
  rwa [itoa_nonneg] at this
theorem str_len (s : ByteArray) : s.size = s.toList.length := by rw [toL]; rfl
set_option maxRecDepth 100000 in
set_option maxHeartbeats 2000000 in
theorem digits_pos (n : Nat) (hn : n ≤ 9223372036854775807) (w : World) :
    Calls Tryd.prog 35 #[.int .i64 (n : Int)] w fun e w' => e = .returned (.string ⟨(decDigits n).toArray⟩) ∧ w' = w := by
  have h0 : ((n : Int) == -9223372036854775808) = false := by rw [beq_eq_false_iff_ne]; omega
  have h1 : decide ((n : Int) < 0) = false := by rw [decide_eq_false_iff_not]; omega
  go_enter Tryd.func35, Tryd.ntmps35
  go_wp2
  go_loopw [0, 3] (fun x y wr => ∃ (m : Nat) (s : ByteArray), m ≤ n ∧ x = .int .i64 m ∧ y = .string s ∧ Hid (s.toList = [] ∧ m = n ∨ s.toList ≠ [] ∧ decDigits n = (if m = 0 then [] else decDigits m) ++ s.toList) ∧ wr = w) (fun x y _ => (RowKit.intOf x).toNat + if (strOf y).toList = [] then 1 else 0)
  case atStart => exact ⟨n, ⟨#[]⟩, by omega, rfl, rfl, Lib.hid (.inl ⟨by simp [toL], rfl⟩), rfl⟩
  case round =>
    obtain ⟨m, s, hm, rfl, rfl, HR, rfl⟩ := hrel
    have hsz : s.size ≤ 21 := by
      rw [str_len]
      rcases HR.out with ⟨h, _⟩ | ⟨_, h⟩
      · rw [h]; simp
      · have := dec_len n hn
        rw [h, List.length_append] at this
        omega
    have hno : ¬ 9223372036854775807 < min (m % 10 + 1) 10 - m % 10 + s.size := by omega
    have hten : ∀ s : ByteArray, ((⟨#[48, 49, 50, 51, 52, 53, 54, 55, 56, 57]⟩ : ByteArray).extract (m % 10) (m % 10 + 1) ++ s).toList = UInt8.ofNat (48 + m % 10) :: s.toList := fun s => by
      rw [toL_append, ten_at _ (by omega)]; rfl
    have HT := Lib.hid hten
    clear hten hsz
    by_cases hs : s.toList = []
    · have HS := Lib.hid hs
      have he : s.toList.isEmpty = true := by rw [hs]; rfl
      clear hs
      go_wp2
      obtain ⟨_, rfl⟩ : s.toList = [] ∧ m = n := by rcases HR.out with h | h; exact h; exact absurd HS.out h.1
      refine ⟨⟨m / 10, _, by omega, by simp, rfl, Lib.hid (.inr ⟨by rw [HT.out]; simp, ?_⟩), trivial⟩, ?_⟩
      · rw [HT.out, HS.out, dec_step m]
      · simp only [strOf, HT.out, HS.out, RowKit.intOf]
        simp
        omega
    · have he : s.toList.isEmpty = false := by rw [Bool.eq_false_iff, Ne, List.isEmpty_iff]; exact hs
      have HD : decDigits n = (if m = 0 then [] else decDigits m) ++ s.toList := by rcases HR.out with h | h; exact absurd h.1 hs; exact h.2
      have HDD := Lib.hid HD
      have HS := Lib.hid hs
      clear HD hs
      by_cases hz : m = 0
      · subst hz
        go_wp2
        go_ret
        refine ⟨?_, rfl⟩
        have := HDD.out
        simp at this
        show Ending.returned (.string s) = _
        rw [this, ofL]
      · have hp : decide ((0 : Int) < (m : Int)) = true := by rw [decide_eq_true_iff]; omega
        go_wp2
        refine ⟨⟨m / 10, _, by omega, by simp, rfl, Lib.hid (.inr ⟨by rw [HT.out]; simp, ?_⟩), trivial⟩, ?_⟩
        · have := HDD.out
          rw [if_neg hz, dec_step m] at this
          rw [HT.out, this]
          simp
        · simp only [strOf, HT.out, RowKit.intOf]
          have hs2 := HS.out
          simp [hs2]
          omega
end Go.Proofs.YtnnimngbocabbaaDoor
