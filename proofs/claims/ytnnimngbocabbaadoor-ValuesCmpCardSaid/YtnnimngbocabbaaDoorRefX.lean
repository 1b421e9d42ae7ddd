/-
  WHAT IS PROVED: contracts of the document's own functions on values: digits, texts.
-/
import Derived.Test.YtnnimngbocabbaaDoorRefW
namespace Go.Proofs.YtnnimngbocabbaaDoor
open Go.RowKit Go.Lib
set_option linter.unusedVariables false

theorem take_one (s : ByteArray) (k : Nat) (h : k < s.size) : s.data.toList.take (k + 1) = s.data.toList.take k ++ [s[k]] := by
  rw [List.take_add_one, List.getElem?_eq_getElem (show k < s.data.toList.length by exact h)]
  rfl
theorem piece (s : ByteArray) (k : Nat) (h : k < s.size) : (s.extract k (k + 1)).toList = [s[k]] := by
  rw [toL, ByteArray.data_extract]
  have h2 : k < s.data.toList.length := h
  simp
  rw [List.drop_eq_getElem_cons h2]
  rfl
theorem dec_size (n : Nat) (h : n ≤ 9223372036854775807) : (⟨(decDigits n).toArray⟩ : ByteArray).size ≤ 21 := by
  rw [str_len]
  have := dec_len n h
  simpa [toL] using this
set_option maxRecDepth 100000 in
set_option maxHeartbeats 2000000 in
theorem digits_any (n : Int) (i0 : -9223372036854775808 ≤ n) (i1 : n ≤ 9223372036854775807) (w : World) :
    Calls Tryd.prog 35 #[.int .i64 n] w fun e w' => e = .returned (.string ⟨(itoa n).toArray⟩) ∧ w' = w := by
  by_cases h : 0 ≤ n
  · obtain ⟨m, rfl⟩ := Int.eq_ofNat_of_zero_le h
    rw [itoa_nonneg]
    exact digits_pos m (by omega) w
  · by_cases hm : n = -9223372036854775808
    · have ht : (⟨(itoa n).toArray⟩ : ByteArray) = ⟨#[45, 57, 50, 50, 51, 51, 55, 50, 48, 51, 54, 56, 53, 52, 55, 55, 53, 56, 48, 56]⟩ := by subst hm; decide +kernel
      have hm2 : (n == -9223372036854775808) = true := by rw [hm]; rfl
      rw [ht]
      clear hm ht
      go_enter Tryd.func35, Tryd.ntmps35
      go_wp2
      go_ret
      exact ⟨rfl, rfl⟩
    · have hm2 : (n == -9223372036854775808) = false := by simpa using hm
      have h1 : decide (n < 0) = true := by rw [decide_eq_true_iff]; omega
      have hw : IntKind.i64.wrap (-n) = -n := IntWalk.i64_in _ (by omega)
      have hn : -n = ((n.natAbs : Nat) : Int) := by omega
      have hsz : ¬ 9223372036854775807 < 1 + (⟨(decDigits n.natAbs).toArray⟩ : ByteArray).size := by have := dec_size n.natAbs (by omega); omega
      have hi : itoa n = 45 :: decDigits n.natAbs := by unfold itoa; rw [if_pos (by omega)]
      have HN := Lib.hid (⟨hn, hi⟩ : _ ∧ _)
      have hc : ∀ w, Calls Tryd.prog 35 #[.int .i64 (-n)] w fun e w' => e = .returned (.string ⟨(decDigits n.natAbs).toArray⟩) ∧ w' = w := fun w => by rw [hn]; exact digits_pos n.natAbs (by omega) w
      clear hm hn hi
      go_enter Tryd.func35, Tryd.ntmps35
      go_wp2_with (go_at_call 35; refine (hc _).mono ?_; rintro e w1 ⟨rfl, rfl⟩)
      go_ret
      refine ⟨?_, rfl⟩
      rw [HN.out.2]
      rfl
set_option maxRecDepth 100000 in
set_option maxHeartbeats 2000000 in
theorem rtext_any (k : Nat) (i : Int) (s : ByteArray) (w : World) (hk : k < 256) (i0 : -9223372036854775808 ≤ i) (i1 : i ≤ 9223372036854775807) :
    Calls Tryd.prog 19 #[.agg #[.int .u8 (k : Int), .int .i64 i, .string s]] w fun e w' => e = .returned (.string (Val.text ⟨k, i, s⟩)) ∧ Below w.heap.size w w' := by
  by_cases hf : Val.fine ⟨k, i, s⟩ = true
  · rcases Val.fine_cases hf with h | ⟨n, h⟩ | ⟨t, h, ht⟩
    · obtain ⟨rfl, rfl, rfl⟩ := Val.mk.inj h
      go_enter Tryd.func19, Tryd.ntmps19
      go_wp2_with (go_at_call 15; refine (rcheck_any _ _ _ _ hk).mono ?_; rw [hf]; rintro e w1 ⟨rfl, hb⟩; obtain ⟨hc, hg⟩ := bcell hb)
      go_ret
      exact ⟨rfl, below_step (Below.refl _ _) hb⟩
    · obtain ⟨rfl, rfl, rfl⟩ := Val.mk.inj h
      by_cases hm : i = -9223372036854775808
      · have ht : Val.text ⟨1, i, noS⟩ = ⟨#[40, 45, 57, 50, 50, 51, 51, 55, 50, 48, 51, 54, 56, 53, 52, 55, 55, 53, 56, 48, 55, 32, 45, 32, 49, 41]⟩ := by subst hm; decide +kernel
        have hm2 : (i == -9223372036854775808) = true := by rw [hm]; rfl
        rw [ht]
        clear hm ht
        go_enter Tryd.func19, Tryd.ntmps19
        go_wp2_with (go_at_call 15; refine (rcheck_any _ _ _ _ hk).mono ?_; rw [hf]; rintro e w1 ⟨rfl, hb⟩; obtain ⟨hc, hg⟩ := bcell hb)
        go_ret
        exact ⟨rfl, below_step (Below.refl _ _) hb⟩
      · have ht : Val.text ⟨1, i, noS⟩ = ⟨(itoa i).toArray⟩ := Val.text_num i hm
        have hm2 : (i == -9223372036854775808) = false := by simpa using hm
        rw [ht]
        clear hm ht
        go_enter Tryd.func19, Tryd.ntmps19
        go_wp2_with (first | (go_at_call 15; refine (rcheck_any _ _ _ _ hk).mono ?_; rw [hf]; rintro e w1 ⟨rfl, hb⟩; obtain ⟨hc, hg⟩ := bcell hb) | (go_at_call 35; refine (digits_any i i0 i1 _).mono ?_; rintro e w2 ⟨rfl, rfl⟩))
        go_ret
        exact ⟨rfl, below_step (Below.refl _ _) hb⟩
    · obtain ⟨rfl, rfl, rfl⟩ := Val.mk.inj h
      have hx : Val.text ⟨2, 0, s⟩ = ⟨(39 :: Val.dbl s.data.toList ++ [39]).toArray⟩ := Val.text_txt s ht
      rw [hx]
      clear hx
      go_enter Tryd.func19, Tryd.ntmps19
      go_wp2_with (go_at_call 15; refine (rcheck_any _ _ _ _ hk).mono ?_; rw [hf]; rintro e w1 ⟨rfl, hb⟩; obtain ⟨hc, hg⟩ := bcell hb; have c0 := (hc w.heap.size 0 (by simp)).trans (cell_of_block (heap_alloc_new w (.cells #[.int .u8 2, .int .i64 0, .string s] 24)) 0); have c1 := (hc w.heap.size 1 (by simp)).trans (cell_of_block (heap_alloc_new w (.cells #[.int .u8 2, .int .i64 0, .string s] 24)) 1); have c2 := (hc w.heap.size 2 (by simp)).trans (cell_of_block (heap_alloc_new w (.cells #[.int .u8 2, .int .i64 0, .string s] 24)) 2); simp at c0 c1 c2)
      have HB := Lib.hid hb
      clear hb hc hg
      go_loopw [3, 4] (fun y x wr => ∃ (j : Nat) (acc : ByteArray), j ≤ s.size ∧ x = .int .i64 j ∧ y = .string acc ∧ Hid (acc.toList = Val.dbl (s.data.toList.take j)) ∧ wr = w1) (fun _ x _ => s.size - (RowKit.intOf x).toNat)
      case atStart => exact ⟨0, ⟨#[]⟩, by omega, rfl, rfl, Lib.hid (by simp [toL, Val.dbl]), rfl⟩
      case round =>
        obtain ⟨j, acc, hj, rfl, rfl, HR, rfl⟩ := hrel
        have hac : acc.size ≤ 1024 := by
          rw [str_len, HR.out, dbl_length]
          have h1 : (s.data.toList.take j).count 39 ≤ (s.data.toList.take j).length := List.count_le_length
          have h2 : (s.data.toList.take j).length ≤ j := by rw [List.length_take]; omega
          omega
        by_cases hlt : j < s.size
        · have n1 : ¬ 9223372036854775807 < acc.size + 2 := by omega
          have n2 : ¬ 9223372036854775807 < acc.size + (min (j + 1) s.size - j) := by omega
          have htk : s.data.toList.take (j + 1) = s.data.toList.take j ++ [s[j]] := take_one s j hlt
          have HTK := Lib.hid htk
          clear htk hac
          by_cases h39 : s[j] = 39
          · have hb9 : ((s[j].toNat : Int) == 39) = true := by rw [h39]; rfl
            have H9 := Lib.hid h39
            clear h39
            go_wp2
            refine ⟨⟨j + 1, _, by omega, by simp, rfl, Lib.hid ?_, trivial⟩, ?_⟩
            · rw [toL_append, HR.out, HTK.out, dbl_append, H9.out]
              simp [toL, Val.dbl]
            · simp [RowKit.intOf]
              omega
          · have hb9 : ((s[j].toNat : Int) == 39) = false := by
              rw [beq_eq_false_iff_ne]
              intro h
              apply h39
              apply UInt8.toNat_inj.1
              have : (39 : UInt8).toNat = 39 := rfl
              omega
            have H9 := Lib.hid h39
            clear h39
            go_wp2
            refine ⟨⟨j + 1, _, by omega, by simp, rfl, Lib.hid ?_, trivial⟩, ?_⟩
            · rw [toL_append, HR.out, HTK.out, dbl_append, piece s j hlt]
              simp [Val.dbl, H9.out]
            · simp [RowKit.intOf]
              omega
        · obtain rfl : j = s.size := by omega
          have n1 : ¬ 9223372036854775807 < 1 + acc.size := by omega
          have n2 : ¬ 9223372036854775807 < 1 + acc.size + 1 := by omega
          have hall : acc = ⟨(Val.dbl s.data.toList).toArray⟩ := by
            have h := HR.out
            rw [List.take_of_length_le (show s.data.toList.length ≤ s.size by exact Nat.le_refl _)] at h
            rw [← h, ofL]
          have HA := Lib.hid hall
          clear hall hac
          go_wp2
          go_ret
          refine ⟨?_, below_step (Below.refl _ _) HB.out⟩
          rw [HA.out]
          exact congrArg (fun x => Ending.returned (.string x)) (quote_text _)
  · rw [Bool.not_eq_true] at hf
    have ht : Val.text ⟨k, i, s⟩ = noS := if_pos hf
    rw [ht]
    clear ht
    go_enter Tryd.func19, Tryd.ntmps19
    go_wp2_with (go_at_call 15; refine (rcheck_any _ _ _ _ hk).mono ?_; rw [hf]; rintro e w1 ⟨rfl, hb⟩; obtain ⟨hc, hg⟩ := bcell hb)
    go_ret
    exact ⟨rfl, below_step (Below.refl _ _) hb⟩
end Go.Proofs.YtnnimngbocabbaaDoor
