/-
  WHAT IS PROVED: contracts of the document's own functions on values: Check, Yes, Int, Truth, Cmp. contracts of the document's own functions on values: the digits of a number. contracts of the document's own functions on values: digits, texts. the document's own reckoning with two numbers. the document's own reckoning with two numbers: products, quotients, remainders.
-/
import Derived.Test.YtjjfmmimmfihgaaDoorLawD
import Derived.IntWalk
namespace Go.Proofs.YtjjfmmimmfihgaaDoor
section
open Go.RowKit Go.Lib
set_option linter.unusedVariables false

theorem rcheck_any (k : Nat) (i : Int) (s : ByteArray) (w : World) (hk : k < 256) :
    Calls Tryd.prog 33 #[.agg #[.int .u8 (k : Int), .int .i64 i, .string s]] w fun e w' => e = .returned (.bool (Val.fine ⟨k, i, s⟩)) ∧ Below w.heap.size w w' := by
  have hs : s.data.size = s.size := rfl
  rcases (show k = 0 ∨ k = 1 ∨ k = 2 ∨ 2 < k by omega) with rfl | rfl | rfl | h
  · go_enter Tryd.func33, Tryd.ntmps33
    go_wp2
    all_goals go_ret
    all_goals refine ⟨ret_bool ?_, below_alloc _ _⟩
    all_goals simp_all [Val.fine, isEmpty_size]
  · go_enter Tryd.func33, Tryd.ntmps33
    go_wp2
    all_goals go_ret
    all_goals refine ⟨ret_bool ?_, below_alloc _ _⟩
    all_goals simp_all [Val.fine, isEmpty_size]
  · go_enter Tryd.func33, Tryd.ntmps33
    go_wp2
    all_goals go_ret
    all_goals refine ⟨ret_bool ?_, below_alloc _ _⟩
    all_goals simp_all [Val.fine]
    all_goals omega
  · have h0 : ((k : Int) == 0) = false := by rw [beq_eq_false_iff_ne]; omega
    have h1 : ((k : Int) == 1) = false := by rw [beq_eq_false_iff_ne]; omega
    have h2 : ((k : Int) == 2) = false := by rw [beq_eq_false_iff_ne]; omega
    go_enter Tryd.func33, Tryd.ntmps33
    go_wp2
    all_goals go_ret
    all_goals refine ⟨ret_bool ?_, below_alloc _ _⟩
    have e0 : (k == 0) = false := by rw [beq_eq_false_iff_ne]; omega
    have e1 : (k == 1) = false := by rw [beq_eq_false_iff_ne]; omega
    have e2 : (k == 2) = false := by rw [beq_eq_false_iff_ne]; omega
    simp [Val.fine, e0, e1, e2]
theorem rint_any (i : Int) (w : World) :
    Calls Tryd.prog 34 #[.int .i64 i] w fun e w' => e = .returned (.agg #[.int .u8 1, .int .i64 i, .string ⟨#[]⟩]) ∧ Below w.heap.size w w' := by
  go_enter Tryd.func34, Tryd.ntmps34
  go_wp2
  exact bodyPost_ret (v := .agg #[.int .u8 1, .int .i64 i, .string ⟨#[]⟩]) (by simp [results, go_sem]) rfl ⟨rfl, below_alloc _ _⟩
theorem ryes_any (b : Bool) (w : World) :
    Calls Tryd.prog 35 #[.bool b] w fun e w' => e = .returned (.agg #[.int .u8 1, .int .i64 (bitI b), .string ⟨#[]⟩]) ∧ Below w.heap.size w w' := by
  cases b
  · go_enter Tryd.func35, Tryd.ntmps35
    go_wp2_with (go_at_call 34; refine (rint_any _ _).mono ?_; rintro e w1 ⟨rfl, hb⟩; obtain ⟨hc, hf⟩ := bcell hb; have hz := hb.size)
    refine bodyPost_ret (v := .agg #[.int .u8 1, .int .i64 0, .string ⟨#[]⟩]) (by simp [results, go_sem, hc]) rfl ⟨rfl, ?_⟩
    exact (((below_step (Below.refl _ _) hb).setCell (Nat.le_refl _) _).setCell (Nat.le_refl _) _).setCell (Nat.le_refl _) _
  · go_enter Tryd.func35, Tryd.ntmps35
    go_wp2_with (go_at_call 34; refine (rint_any _ _).mono ?_; rintro e w1 ⟨rfl, hb⟩; obtain ⟨hc, hf⟩ := bcell hb; have hz := hb.size)
    refine bodyPost_ret (v := .agg #[.int .u8 1, .int .i64 1, .string ⟨#[]⟩]) (by simp [results, go_sem, hc]) rfl ⟨rfl, ?_⟩
    exact (((below_step (Below.refl _ _) hb).setCell (Nat.le_refl _) _).setCell (Nat.le_refl _) _).setCell (Nat.le_refl _) _

theorem cmp_less : ∀ (a b : List UInt8), compareBytes a b = if Op.bytesLess a b = true then -1 else if a = b then 0 else 1
  | [], [] => rfl
  | [], _ :: _ => rfl
  | _ :: _, [] => by simp [compareBytes, Op.bytesLess]
  | a :: x, b :: y => by
    unfold compareBytes Op.bytesLess
    rw [cmp_less x y]
    by_cases h1 : a < b
    · simp [h1]
    · by_cases h2 : b < a
      · have h3 : ¬ a = b := fun h => by subst h; exact h1 h2
        simp [h1, h2, h3]
      · have h3 : a = b := UInt8.le_antisymm (UInt8.not_lt.1 h2) (UInt8.not_lt.1 h1)
        subst h3
        simp [h1]
theorem cmpS_less (s t : ByteArray) : cmpS s t = if Op.bytesLess s.toList t.toList = true then -1 else if s.toList = t.toList then 0 else 1 := by
  rw [ByteArray.toList_eq, ByteArray.toList_eq]
  exact cmp_less _ _
set_option maxRecDepth 100000 in
set_option maxHeartbeats 2000000 in
theorem rcmp_any (k : Nat) (i : Int) (s : ByteArray) (l : Nat) (j : Int) (t : ByteArray) (w : World) :
    Calls Tryd.prog 38 #[.agg #[.int .u8 (k : Int), .int .i64 i, .string s], .agg #[.int .u8 (l : Int), .int .i64 j, .string t]] w fun e w' => e = .returned (.int .i64 (Val.cmp ⟨k, i, s⟩ ⟨l, j, t⟩)) ∧ Below w.heap.size w w' := by
  have hr : Val.cmp ⟨k, i, s⟩ ⟨l, j, t⟩ = if k < l then -1 else if l < k then 1 else if i < j then -1 else if j < i then 1 else cmpS s t := rfl
  by_cases h1 : k < l
  · rw [if_pos h1] at hr
    rw [hr]
    clear hr
    have e1 : decide ((k : Int) < (l : Int)) = true := by rw [decide_eq_true_iff]; omega
    go_enter Tryd.func38, Tryd.ntmps38
    go_wp2
    go_ret
    exact ⟨rfl, (below_alloc _ _).alloc (by simp) _⟩
  · rw [if_neg h1] at hr
    by_cases h2 : l < k
    · rw [if_pos h2] at hr
      rw [hr]
      clear hr
      have e1 : decide ((k : Int) < (l : Int)) = false := by rw [decide_eq_false_iff_not]; omega
      have e2 : ((k : Int) == (l : Int)) = false := by rw [beq_eq_false_iff_ne]; omega
      go_enter Tryd.func38, Tryd.ntmps38
      go_wp2
      go_ret
      exact ⟨rfl, (below_alloc _ _).alloc (by simp) _⟩
    · obtain rfl : k = l := by omega
      rw [if_neg h2] at hr
      by_cases h3 : i < j
      · rw [if_pos h3] at hr
        rw [hr]
        clear hr
        have e3 : decide (i < j) = true := by rw [decide_eq_true_iff]; omega
        go_enter Tryd.func38, Tryd.ntmps38
        go_wp2
        go_ret
        exact ⟨rfl, (below_alloc _ _).alloc (by simp) _⟩
      · rw [if_neg h3] at hr
        by_cases h4 : j < i
        · rw [if_pos h4] at hr
          rw [hr]
          clear hr
          have e3 : decide (i < j) = false := by rw [decide_eq_false_iff_not]; omega
          have e4 : (i == j) = false := by rw [beq_eq_false_iff_ne]; omega
          go_enter Tryd.func38, Tryd.ntmps38
          go_wp2
          go_ret
          exact ⟨rfl, (below_alloc _ _).alloc (by simp) _⟩
        · obtain rfl : i = j := by omega
          rw [if_neg h4] at hr
          rw [hr]
          clear hr
          go_enter Tryd.func38, Tryd.ntmps38
          go_wp2
          all_goals go_ret
          all_goals refine ⟨?_, (below_alloc _ _).alloc (by simp) _⟩
          all_goals rw [cmpS_less]
          all_goals simp_all
end
section
open Go.RowKit Go.Lib
set_option linter.unusedVariables false

def strOf : Value → ByteArray
  | .string s => s
  | _ => ⟨#[]⟩
/-- a digit's sign, from the constant of ten -/
theorem ten_at (d : Nat) (h : d < 10) : ((⟨#[48, 49, 50, 51, 52, 53, 54, 55, 56, 57]⟩ : ByteArray).extract d (d + 1)).toList = [UInt8.ofNat (48 + d)] := by
  rcases (show d = 0 ∨ d = 1 ∨ d = 2 ∨ d = 3 ∨ d = 4 ∨ d = 5 ∨ d = 6 ∨ d = 7 ∨ d = 8 ∨ d = 9 by omega) with rfl | rfl | rfl | rfl | rfl | rfl | rfl | rfl | rfl | rfl <;> decide +kernel
theorem toL (s : ByteArray) : s.toList = s.data.toList := ByteArray.toList_eq s
theorem toL_append (s t : ByteArray) : (s ++ t).toList = s.toList ++ t.toList := by simp [toL]
theorem ofL (s : ByteArray) : (⟨s.toList.toArray⟩ : ByteArray) = s := by rw [toL]
theorem dec_step (m : Nat) : decDigits m = (if m / 10 = 0 then [] else decDigits (m / 10)) ++ [UInt8.ofNat (48 + m % 10)] := by
  by_cases h : m < 10
  · rw [decDigits_one h, if_pos (by omega), Nat.mod_eq_of_lt h]; rfl
  · conv => lhs; rw [decDigits]
    rw [dif_neg h, if_neg (by omega)]
theorem dec_len (n : Nat) (h : n ≤ 9223372036854775807) : (decDigits n).length ≤ 21 := by
  have := itoa_length_le (n : Int) (by omega) (by omega)
  rwa [itoa_nonneg] at this
theorem str_len (s : ByteArray) : s.size = s.toList.length := by rw [toL]; rfl
set_option maxRecDepth 100000 in
set_option maxHeartbeats 2000000 in
theorem digits_pos (n : Nat) (hn : n ≤ 9223372036854775807) (w : World) :
    Calls Tryd.prog 55 #[.int .i64 (n : Int)] w fun e w' => e = .returned (.string ⟨(decDigits n).toArray⟩) ∧ w' = w := by
  have h0 : ((n : Int) == -9223372036854775808) = false := by rw [beq_eq_false_iff_ne]; omega
  have h1 : decide ((n : Int) < 0) = false := by rw [decide_eq_false_iff_not]; omega
  go_enter Tryd.func55, Tryd.ntmps55
  go_wp2
  go_loopw [0, 3] (fun x y wr => ∃ (m : Nat) (s : ByteArray), m ≤ n ∧ x = .int .i64 m ∧ y = .string s ∧ Hid (s.toList = [] ∧ m = n ∨ s.toList ≠ [] ∧ decDigits n = (if m = 0 then [] else decDigits m) ++ s.toList) ∧ wr = w) (fun x y _ => (RowKit.intOf x).toNat + if (strOf y).toList = [] then 1 else 0)
  case atStart => exact ⟨n, ⟨#[]⟩, by omega, rfl, rfl, Lib.hid (.inl ⟨by simp [toL], rfl⟩), rfl⟩
  case round =>
    obtain ⟨m, s, hm, rfl, rfl, HR, rfl⟩ := hrel
    have hsz : s.size ≤ 21 := by
      rw [str_len]
      rcases HR.out with ⟨h, _⟩ | ⟨_, h⟩
      · rw [h]; simp
      · have := dec_len n hn
        rw [h, List.length_append] at this
        omega
    have hno : ¬ 9223372036854775807 < min (m % 10 + 1) 10 - m % 10 + s.size := by omega
    have hten : ∀ s : ByteArray, ((⟨#[48, 49, 50, 51, 52, 53, 54, 55, 56, 57]⟩ : ByteArray).extract (m % 10) (m % 10 + 1) ++ s).toList = UInt8.ofNat (48 + m % 10) :: s.toList := fun s => by
      rw [toL_append, ten_at _ (by omega)]; rfl
    have HT := Lib.hid hten
    clear hten hsz
    by_cases hs : s.toList = []
    · have HS := Lib.hid hs
      have he : s.toList.isEmpty = true := by rw [hs]; rfl
      clear hs
      go_wp2
      obtain ⟨_, rfl⟩ : s.toList = [] ∧ m = n := by rcases HR.out with h | h; exact h; exact absurd HS.out h.1
      refine ⟨⟨m / 10, _, by omega, by simp, rfl, Lib.hid (.inr ⟨by rw [HT.out]; simp, ?_⟩), trivial⟩, ?_⟩
      · rw [HT.out, HS.out, dec_step m]
      · simp only [strOf, HT.out, HS.out, RowKit.intOf]
        simp
        omega
    · have he : s.toList.isEmpty = false := by rw [Bool.eq_false_iff, Ne, List.isEmpty_iff]; exact hs
      have HD : decDigits n = (if m = 0 then [] else decDigits m) ++ s.toList := by rcases HR.out with h | h; exact absurd h.1 hs; exact h.2
      have HDD := Lib.hid HD
      have HS := Lib.hid hs
      clear HD hs
      by_cases hz : m = 0
      · subst hz
        go_wp2
        go_ret
        refine ⟨?_, rfl⟩
        have := HDD.out
        simp at this
        show Ending.returned (.string s) = _
        rw [this, ofL]
      · have hp : decide ((0 : Int) < (m : Int)) = true := by rw [decide_eq_true_iff]; omega
        go_wp2
        refine ⟨⟨m / 10, _, by omega, by simp, rfl, Lib.hid (.inr ⟨by rw [HT.out]; simp, ?_⟩), trivial⟩, ?_⟩
        · have := HDD.out
          rw [if_neg hz, dec_step m] at this
          rw [HT.out, this]
          simp
        · simp only [strOf, HT.out, RowKit.intOf]
          have hs2 := HS.out
          simp [hs2]
          omega
end
section
open Go.RowKit Go.Lib
set_option linter.unusedVariables false

theorem take_one (s : ByteArray) (k : Nat) (h : k < s.size) : s.data.toList.take (k + 1) = s.data.toList.take k ++ [s[k]] := by
  rw [List.take_add_one, List.getElem?_eq_getElem (show k < s.data.toList.length by exact h)]
  rfl
theorem piece (s : ByteArray) (k : Nat) (h : k < s.size) : (s.extract k (k + 1)).toList = [s[k]] := by
  rw [toL, ByteArray.data_extract]
  have h2 : k < s.data.toList.length := h
  simp
  rw [List.drop_eq_getElem_cons h2]
  rfl
theorem dec_size (n : Nat) (h : n ≤ 9223372036854775807) : (⟨(decDigits n).toArray⟩ : ByteArray).size ≤ 21 := by
  rw [str_len]
  have := dec_len n h
  simpa [toL] using this
set_option maxRecDepth 100000 in
set_option maxHeartbeats 2000000 in
theorem digits_any (n : Int) (i0 : -9223372036854775808 ≤ n) (i1 : n ≤ 9223372036854775807) (w : World) :
    Calls Tryd.prog 55 #[.int .i64 n] w fun e w' => e = .returned (.string ⟨(itoa n).toArray⟩) ∧ w' = w := by
  by_cases h : 0 ≤ n
  · obtain ⟨m, rfl⟩ := Int.eq_ofNat_of_zero_le h
    rw [itoa_nonneg]
    exact digits_pos m (by omega) w
  · by_cases hm : n = -9223372036854775808
    · have ht : (⟨(itoa n).toArray⟩ : ByteArray) = ⟨#[45, 57, 50, 50, 51, 51, 55, 50, 48, 51, 54, 56, 53, 52, 55, 55, 53, 56, 48, 56]⟩ := by subst hm; decide +kernel
      have hm2 : (n == -9223372036854775808) = true := by rw [hm]; rfl
      rw [ht]
      clear hm ht
      go_enter Tryd.func55, Tryd.ntmps55
      go_wp2
      go_ret
      exact ⟨rfl, rfl⟩
    · have hm2 : (n == -9223372036854775808) = false := by simpa using hm
      have h1 : decide (n < 0) = true := by rw [decide_eq_true_iff]; omega
      have hw : IntKind.i64.wrap (-n) = -n := IntWalk.i64_in _ (by omega)
      have hn : -n = ((n.natAbs : Nat) : Int) := by omega
      have hsz : ¬ 9223372036854775807 < 1 + (⟨(decDigits n.natAbs).toArray⟩ : ByteArray).size := by have := dec_size n.natAbs (by omega); omega
      have hi : itoa n = 45 :: decDigits n.natAbs := by unfold itoa; rw [if_pos (by omega)]
      have HN := Lib.hid (⟨hn, hi⟩ : _ ∧ _)
      have hc : ∀ w, Calls Tryd.prog 55 #[.int .i64 (-n)] w fun e w' => e = .returned (.string ⟨(decDigits n.natAbs).toArray⟩) ∧ w' = w := fun w => by rw [hn]; exact digits_pos n.natAbs (by omega) w
      clear hm hn hi
      go_enter Tryd.func55, Tryd.ntmps55
      go_wp2_with (go_at_call 55; refine (hc _).mono ?_; rintro e w1 ⟨rfl, rfl⟩)
      go_ret
      refine ⟨?_, rfl⟩
      rw [HN.out.2]
      rfl
end
section
open Go.RowKit Go.Lib
set_option linter.unusedVariables false

def Reckons (r : Int × Nat) (w : World) (e : Ending) (w' : World) : Prop := e = .returned (.tuple #[.int .i64 r.1, .int .i64 (r.2 : Int)]) ∧ w' = w
theorem reckons_of {r : Int × Nat} {x : Int} {y : Nat} {w : World} (h : r = (x, y)) : Reckons r w (.returned (.tuple #[.int .i64 x, .int .i64 (y : Int)])) w := by subst h; exact ⟨rfl, rfl⟩
set_option maxHeartbeats 2000000 in
theorem rreckon5 (a b : Int) (w : World) (a0 : -9223372036854775808 ≤ a) (a1 : a ≤ 9223372036854775807) (b0 : -9223372036854775808 ≤ b) (b1 : b ≤ 9223372036854775807) :
    Calls Tryd.prog 39 #[.int .u8 5, .int .i64 a, .int .i64 b] w (Reckons (Val.reckon 5 a b) w) := by
  rw [Val.reckon5]
  by_cases h : Val.fits (a + b) = true
  · rw [if_pos h]
    have hf : -9223372036854775808 ≤ a + b ∧ a + b ≤ 9223372036854775807 := by simpa [Val.fits] using h
    have hw : IntKind.i64.wrap (a + b) = a + b := IntWalk.i64_in _ hf
    rcases (show 0 < b ∨ b < 0 ∨ b = 0 by omega) with hb | hb | hb
    · have p1 : decide (0 < b) = true := by simpa using hb
      have p2 : decide (b < 0) = false := by rw [decide_eq_false_iff_not]; omega
      have p3 : IntKind.i64.wrap (9223372036854775807 - b) = 9223372036854775807 - b := IntWalk.i64_in _ (by omega)
      have p4 : decide (9223372036854775807 - b < a) = false := by rw [decide_eq_false_iff_not]; omega
      clear h
      go_enter Tryd.func39, Tryd.ntmps39
      go_wp2
      go_ret2
      exact reckons_of rfl
    · have p1 : decide (0 < b) = false := by rw [decide_eq_false_iff_not]; omega
      have p2 : decide (b < 0) = true := by simpa using hb
      have p3 : IntKind.i64.wrap (-9223372036854775808 - b) = -9223372036854775808 - b := IntWalk.i64_in _ (by omega)
      have p4 : decide (a < -9223372036854775808 - b) = false := by rw [decide_eq_false_iff_not]; omega
      clear h
      go_enter Tryd.func39, Tryd.ntmps39
      go_wp2
      go_ret2
      exact reckons_of rfl
    · subst hb
      clear h
      go_enter Tryd.func39, Tryd.ntmps39
      go_wp2
      go_ret2
      exact reckons_of (by simp)
  · rw [if_neg h]
    have hf : ¬ (-9223372036854775808 ≤ a + b ∧ a + b ≤ 9223372036854775807) := by simpa [Val.fits] using h
    rcases (show 0 < b ∨ b < 0 by omega) with hb | hb
    · have p1 : decide (0 < b) = true := by simpa using hb
      have p3 : IntKind.i64.wrap (9223372036854775807 - b) = 9223372036854775807 - b := IntWalk.i64_in _ (by omega)
      have p4 : decide (9223372036854775807 - b < a) = true := by rw [decide_eq_true_iff]; omega
      clear h
      go_enter Tryd.func39, Tryd.ntmps39
      go_wp2
      go_ret2
      exact reckons_of rfl
    · have p1 : decide (0 < b) = false := by rw [decide_eq_false_iff_not]; omega
      have p2 : decide (b < 0) = true := by simpa using hb
      have p3 : IntKind.i64.wrap (-9223372036854775808 - b) = -9223372036854775808 - b := IntWalk.i64_in _ (by omega)
      have p4 : decide (a < -9223372036854775808 - b) = true := by rw [decide_eq_true_iff]; omega
      clear h
      go_enter Tryd.func39, Tryd.ntmps39
      go_wp2
      go_ret2
      exact reckons_of rfl
set_option maxHeartbeats 2000000 in
theorem rreckon6 (a b : Int) (w : World) (a0 : -9223372036854775808 ≤ a) (a1 : a ≤ 9223372036854775807) (b0 : -9223372036854775808 ≤ b) (b1 : b ≤ 9223372036854775807) :
    Calls Tryd.prog 39 #[.int .u8 6, .int .i64 a, .int .i64 b] w (Reckons (Val.reckon 6 a b) w) := by
  rw [Val.reckon6]
  by_cases h : Val.fits (a - b) = true
  · rw [if_pos h]
    have hf : -9223372036854775808 ≤ a - b ∧ a - b ≤ 9223372036854775807 := by simpa [Val.fits] using h
    have hw : IntKind.i64.wrap (a - b) = a - b := IntWalk.i64_in _ hf
    rcases (show 0 < b ∨ b < 0 ∨ b = 0 by omega) with hb | hb | hb
    · have p3 : IntKind.i64.wrap (-9223372036854775808 + b) = -9223372036854775808 + b := IntWalk.i64_in _ (by omega)
      have p4 : decide (a < -9223372036854775808 + b) = false := by rw [decide_eq_false_iff_not]; omega
      have p1 : decide (0 < b) = true := by simpa using hb
      have p2 : decide (b < 0) = false := by rw [decide_eq_false_iff_not]; omega
      clear h
      go_enter Tryd.func39, Tryd.ntmps39
      go_wp2
      go_ret2
      exact reckons_of rfl
    · have p3 : IntKind.i64.wrap (9223372036854775807 + b) = 9223372036854775807 + b := IntWalk.i64_in _ (by omega)
      have p4 : decide (9223372036854775807 + b < a) = false := by rw [decide_eq_false_iff_not]; omega
      have p1 : decide (0 < b) = false := by rw [decide_eq_false_iff_not]; omega
      have p2 : decide (b < 0) = true := by simpa using hb
      clear h
      go_enter Tryd.func39, Tryd.ntmps39
      go_wp2
      go_ret2
      exact reckons_of rfl
    · subst hb
      clear h
      go_enter Tryd.func39, Tryd.ntmps39
      go_wp2
      go_ret2
      exact reckons_of (by simp)
  · rw [if_neg h]
    have hf : ¬ (-9223372036854775808 ≤ a - b ∧ a - b ≤ 9223372036854775807) := by simpa [Val.fits] using h
    rcases (show 0 < b ∨ b < 0 by omega) with hb | hb
    · have p3 : IntKind.i64.wrap (-9223372036854775808 + b) = -9223372036854775808 + b := IntWalk.i64_in _ (by omega)
      have p4 : decide (a < -9223372036854775808 + b) = true := by rw [decide_eq_true_iff]; omega
      have p1 : decide (0 < b) = true := by simpa using hb
      have p2 : decide (b < 0) = false := by rw [decide_eq_false_iff_not]; omega
      clear h
      go_enter Tryd.func39, Tryd.ntmps39
      go_wp2
      go_ret2
      exact reckons_of rfl
    · have p3 : IntKind.i64.wrap (9223372036854775807 + b) = 9223372036854775807 + b := IntWalk.i64_in _ (by omega)
      have p4 : decide (9223372036854775807 + b < a) = true := by rw [decide_eq_true_iff]; omega
      have p1 : decide (0 < b) = false := by rw [decide_eq_false_iff_not]; omega
      have p2 : decide (b < 0) = true := by simpa using hb
      clear h
      go_enter Tryd.func39, Tryd.ntmps39
      go_wp2
      go_ret2
      exact reckons_of rfl
end
section
open Go.RowKit Go.Lib
set_option linter.unusedVariables false

set_option maxHeartbeats 2000000 in
theorem rreckon7 (a b : Int) (w : World) (a0 : -9223372036854775808 ≤ a) (a1 : a ≤ 9223372036854775807) (b0 : -9223372036854775808 ≤ b) (b1 : b ≤ 9223372036854775807) :
    Calls Tryd.prog 39 #[.int .u8 7, .int .i64 a, .int .i64 b] w (Reckons (Val.reckon 7 a b) w) := by
  rw [Val.reckon7]
  by_cases hz : a = 0 ∨ b = 0
  · have e : a * b = 0 := by rcases hz with rfl | rfl <;> simp
    rw [e, if_pos (by decide)]
    have hz2 : (a == 0) = false → (b == 0) = true := fun h => by rcases hz with h1 | h1; exact absurd h1 (by simpa using h); simpa using h1
    by_cases h1 : a = 0
    · subst h1
      clear hz hz2 e
      go_enter Tryd.func39, Tryd.ntmps39
      go_wp2
      all_goals go_ret2
      all_goals exact reckons_of rfl
    · have h2 : (a == 0) = false := by simpa using h1
      have h3 := hz2 h2
      clear hz hz2 e
      go_enter Tryd.func39, Tryd.ntmps39
      go_wp2
      all_goals go_ret2
      all_goals exact reckons_of rfl
  · have za : (a == 0) = false := by rw [beq_eq_false_iff_ne]; exact fun h => hz (.inl h)
    have zb : (b == 0) = false := by rw [beq_eq_false_iff_ne]; exact fun h => hz (.inr h)
    have zb2 : b ≠ 0 := fun h => hz (.inr h)
    by_cases hf : Val.fits (a * b) = true
    · rw [if_pos hf]
      have h := Val.fits_out hf
      have hw := IntWalk.wrap64_in _ h
      by_cases ha : a = -1
      · have ha2 : (a == -1) = true := by simpa using ha
        have hb2 : (b == -9223372036854775808) = false := by rw [beq_eq_false_iff_ne]; intro e; rw [ha, e] at h; omega
        have ha3 : (a == -9223372036854775808) = false := by rw [beq_eq_false_iff_ne]; omega
        have HE := Lib.hid (⟨ha, fun e => by rw [ha, e] at h; omega⟩ : a = -1 ∧ b ≠ -9223372036854775808)
        obtain ⟨h0, h1⟩ := h
        clear hf ha hz
        go_enter Tryd.func39, Tryd.ntmps39
        go_wp2
        all_goals go_ret2
        all_goals first | exact reckons_of rfl | (refine reckons_of (Prod.ext ?_ rfl); show a * b = _; obtain ⟨x1, x2⟩ := HE.out; rw [x1]; (try unfold wrap64); omega)
      · have ha2 : (a == -1) = false := by simpa using ha
        by_cases hb : b = -1
        · have hb2 : (b == -1) = true := by simpa using hb
          have ha3 : (a == -9223372036854775808) = false := by rw [beq_eq_false_iff_ne]; intro e; rw [hb, e] at h; omega
          have hb3 : (b == -9223372036854775808) = false := by rw [beq_eq_false_iff_ne]; omega
          have HE := Lib.hid (⟨hb, fun e => by rw [hb, e] at h; omega⟩ : b = -1 ∧ a ≠ -9223372036854775808)
          obtain ⟨h0, h1⟩ := h
          clear hf ha hb hz
          go_enter Tryd.func39, Tryd.ntmps39
          go_wp2
          all_goals go_ret2
          all_goals first | exact reckons_of rfl | (refine reckons_of (Prod.ext ?_ rfl); show a * b = _; obtain ⟨x1, x2⟩ := HE.out; rw [x1]; (try unfold wrap64); omega)
        · have hb2 : (b == -1) = false := by simpa using hb
          have hd : (a * b).tdiv b = a := Int.mul_tdiv_cancel _ zb2
          have haa : (a == a) = true := by simp
          obtain ⟨h0, h1⟩ := h
          clear hf hz
          go_enter Tryd.func39, Tryd.ntmps39
          go_wp2
          all_goals go_ret2
          all_goals exact reckons_of rfl
    · rw [Bool.not_eq_true] at hf
      rw [if_neg (by rw [hf]; simp)]
      have hn := Val.fits_not hf
      by_cases ha : a = -1
      · have ha2 : (a == -1) = true := by simpa using ha
        have hb2 : (b == -9223372036854775808) = true := by rw [beq_iff_eq]; rw [ha] at hn; omega
        clear hf ha hz hn
        go_enter Tryd.func39, Tryd.ntmps39
        go_wp2
        all_goals go_ret2
        all_goals exact reckons_of rfl
      · have ha2 : (a == -1) = false := by simpa using ha
        by_cases hb : b = -1
        · have hb2 : (b == -1) = true := by simpa using hb
          have ha3 : (a == -9223372036854775808) = true := by rw [beq_iff_eq]; rw [hb] at hn; omega
          clear hf ha hb hz hn
          go_enter Tryd.func39, Tryd.ntmps39
          go_wp2
          all_goals go_ret2
          all_goals exact reckons_of rfl
        · have hb2 : (b == -1) = false := by simpa using hb
          have hne := wrap_mul hf b0 b1
          have h0 : -9223372036854775808 ≤ wrap64 (a * b) ∧ wrap64 (a * b) ≤ 9223372036854775807 := by unfold wrap64; omega
          have hq : Val.fits ((wrap64 (a * b)).tdiv b) = true := by
            by_cases h : Val.fits ((wrap64 (a * b)).tdiv b) = true
            · exact h
            · exact absurd (Val.fits_tdiv h0.1 h0.2 zb2 (by simpa using h)).2 hb
          obtain ⟨q0, q1⟩ := Val.fits_out hq
          have hne2 : ((wrap64 (a * b)).tdiv b == a) = false := by simpa using hne
          clear hf hz hn h0 hq
          go_enter Tryd.func39, Tryd.ntmps39
          go_wp2
          all_goals go_ret2
          all_goals first | exact reckons_of rfl | (exfalso; rename_i hh; simp [ha, hb, hne] at hh)
set_option maxHeartbeats 2000000 in
theorem rreckon8 (a b : Int) (w : World) (a0 : -9223372036854775808 ≤ a) (a1 : a ≤ 9223372036854775807) (b0 : -9223372036854775808 ≤ b) (b1 : b ≤ 9223372036854775807) :
    Calls Tryd.prog 39 #[.int .u8 8, .int .i64 a, .int .i64 b] w (Reckons (Val.reckon 8 a b) w) := by
  rw [Val.reckon8]
  by_cases hb : b = 0
  · subst hb
    go_enter Tryd.func39, Tryd.ntmps39
    go_wp2
    all_goals go_ret2
    all_goals exact reckons_of rfl
  · have hb' : (b == 0) = false := by simpa using hb
    rw [if_neg hb]
    by_cases hm : b = -1
    · subst hm
      have e : a.tdiv (-1) = -a := by rw [Int.tdiv_neg, Int.tdiv_one]
      rw [e]
      by_cases ha : a = -9223372036854775808
      · subst ha
        go_enter Tryd.func39, Tryd.ntmps39
        go_wp2
        all_goals go_ret2
        all_goals exact reckons_of rfl
      · have ha2 : (a == -9223372036854775808) = false := by rw [beq_eq_false_iff_ne]; omega
        rw [if_pos (Val.fits_of (by omega) (by omega))]
        have hw : IntKind.i64.wrap (-a) = -a := IntWalk.i64_in _ (by omega)
        clear ha e
        go_enter Tryd.func39, Tryd.ntmps39
        go_wp2
        all_goals go_ret2
        all_goals exact reckons_of rfl
    · have hb2 : (b == -1) = false := by simpa using hm
      have hf : Val.fits (a.tdiv b) = true := by
        by_cases h : Val.fits (a.tdiv b) = true
        · exact h
        · exact absurd (Val.fits_tdiv a0 a1 hb (by simpa using h)).2 hm
      obtain ⟨h0, h1⟩ := Val.fits_out hf
      rw [if_pos hf]
      clear hf hm
      go_enter Tryd.func39, Tryd.ntmps39
      go_wp2
      all_goals go_ret2
      all_goals exact reckons_of rfl
set_option maxHeartbeats 2000000 in
theorem rreckon9 (a b : Int) (w : World) (a0 : -9223372036854775808 ≤ a) (a1 : a ≤ 9223372036854775807) (b0 : -9223372036854775808 ≤ b) (b1 : b ≤ 9223372036854775807) :
    Calls Tryd.prog 39 #[.int .u8 9, .int .i64 a, .int .i64 b] w (Reckons (Val.reckon 9 a b) w) := by
  rw [Val.reckon9]
  by_cases hb : b = 0
  · subst hb
    go_enter Tryd.func39, Tryd.ntmps39
    go_wp2
    all_goals go_ret2
    all_goals exact reckons_of rfl
  · have hb' : (b == 0) = false := by simpa using hb
    rw [if_neg hb]
    by_cases hm : b = -1
    · subst hm
      have e : a.tmod (-1) = 0 := by rw [Int.tmod_neg, Int.tmod_one]
      rw [e]
      go_enter Tryd.func39, Tryd.ntmps39
      go_wp2
      all_goals go_ret2
      all_goals exact reckons_of rfl
    · have hb2 : (b == -1) = false := by simpa using hm
      obtain ⟨h0, h1⟩ := Val.tmod_bound b a0 a1
      clear hm
      go_enter Tryd.func39, Tryd.ntmps39
      go_wp2
      all_goals go_ret2
      all_goals exact reckons_of rfl
end
end Go.Proofs.YtjjfmmimmfihgaaDoor
