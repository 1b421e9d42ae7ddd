/-
  WHAT IS PROVED: contracts of words: how far a string goes; which sign begins a text; how far what begins a text goes.
-/
import Derived.Test.YtfdjeaieddcgdaaDoorWoA
namespace Go.Proofs.YtfdjeaieddcgdaaDoor
open Go.RowKit Go.ChangeShapes
set_option linter.unusedVariables false

theorem prefix_any (s p : ByteArray) (w : World) (b : Bool) (h : Lib.hasPrefix s.data.toList p.data.toList = b) :
    Calls Tryd.prog 33 #[.string s, .string p] w fun e w' => e = .returned (.bool b) ∧ w = w' := by
  rw [← h]
  exact (Tryd.strings_HasPrefix s p w).mono fun e w' ⟨h1, h2⟩ => ⟨h1, h2.symm⟩

theorem ext_drop (s : ByteArray) (k : Nat) : (s.extract k s.size).data.toList = s.data.toList.drop k := by
  rw [Lib.extract_data, List.take_of_length_le (by rw [List.length_drop, str_len]; omega)]

theorem closeB_other (c : UInt8) (r : List UInt8) (h : c ≠ 39) : closeB (c :: r) = (closeB r).map (· + 1) := by
  cases r with
  | nil => simp [closeB, h]
  | cons d r => simp [closeB, h]
theorem closeB_two (r : List UInt8) : closeB (39 :: 39 :: r) = (closeB r).map (· + 2) := by simp [closeB]
theorem closeB_one (r : List UInt8) (h : r.head? ≠ some 39) : closeB (39 :: r) = some 1 := by
  cases r with
  | nil => simp [closeB]
  | cons d r => have : d ≠ 39 := fun e => h (by simp [e]); simp [closeB, this]

theorem drop_ways (l : List UInt8) (k : Nat) (hk : k < l.length) :
    (∃ c, c ≠ 39 ∧ l.drop k = c :: l.drop (k + 1)) ∨ (l.drop k = 39 :: 39 :: l.drop (k + 2) ∧ k + 2 ≤ l.length) ∨ (l.drop k = 39 :: l.drop (k + 1) ∧ (l.drop (k + 1)).head? ≠ some 39) := by
  have h1 : l.drop k = l[k] :: l.drop (k + 1) := List.drop_eq_getElem_cons hk
  by_cases hc : l[k] = 39
  · rw [hc] at h1
    by_cases hd : (l.drop (k + 1)).head? = some 39
    · right; left
      have hk2 : k + 1 < l.length := by
        apply Nat.lt_of_not_le
        intro h
        rw [List.drop_eq_nil_iff.2 h] at hd; cases hd
      have h2 : l.drop (k + 1) = l[k + 1] :: l.drop (k + 2) := List.drop_eq_getElem_cons hk2
      rw [h2] at hd h1
      have : l[k + 1] = 39 := Option.some.inj (show some l[k + 1] = some 39 from hd)
      rw [this] at h1
      exact ⟨h1, by omega⟩
    · exact .inr (.inr ⟨h1, hd⟩)
  · exact .inl ⟨_, hc, h1⟩

theorem has_none (c : UInt8) (r : List UInt8) (h : c ≠ 39) : Lib.hasPrefix (c :: r) [39, 39] = false ∧ Lib.hasPrefix (c :: r) [39] = false := by
  have : ((39 : UInt8) == c) = false := by rw [beq_eq_false_iff_ne]; exact fun e => h e.symm
  simp [Lib.hasPrefix, List.isPrefixOf, this]
theorem has_two (r : List UInt8) : Lib.hasPrefix (39 :: 39 :: r) [39, 39] = true := by simp [Lib.hasPrefix, List.isPrefixOf]
theorem has_one (r : List UInt8) (h : r.head? ≠ some 39) : Lib.hasPrefix (39 :: r) [39, 39] = false ∧ Lib.hasPrefix (39 :: r) [39] = true := by
  cases r with
  | nil => simp [Lib.hasPrefix, List.isPrefixOf]
  | cons d r =>
    have : ((39 : UInt8) == d) = false := by rw [beq_eq_false_iff_ne]; intro e; exact h (by simp [← e])
    simp [Lib.hasPrefix, List.isPrefixOf, this]

theorem closeB_go {l : List UInt8} {k : Nat} {t : Option Nat} (m : Nat) (h : t = (closeB (l.drop k)).map (· + (k - 1))) (hk : 1 ≤ k) (hs : closeB (l.drop k) = (closeB (l.drop (k + m))).map (· + m)) : t = (closeB (l.drop (k + m))).map (· + (k + m - 1)) := by
  rw [h, hs, Option.map_map]
  congr 1
  funext x
  show x + m + (k - 1) = _
  omega

set_option maxHeartbeats 1000000 in
theorem quoted_any (s : ByteArray) (w : World) (hs : s.size ≤ 9223372036854775000) (h0 : 0 < s.size) :
    Calls Tryd.prog 42 #[.string s] w fun e w' => e = .returned (.int .i64 (quotedB s.data.toList : Nat)) ∧ w = w' := by
  obtain ⟨r, hr⟩ : ∃ r, quotedB s.data.toList = r := ⟨_, rfl⟩
  rw [hr]
  have HR := Lib.hid hr
  clear hr
  go_enter Tryd.func42, Tryd.ntmps42
  go_wp2
  go_loop [3] (fun i => ∃ k : Nat, k ≤ s.size ∧ 1 ≤ k ∧ i = .int .i64 k ∧ Hid (closeB s.data.toList.tail = (closeB (s.data.toList.drop k)).map (· + (k - 1)))) (fun i => s.size - (intOf i).toNat)
  case atStart => exact ⟨1, h0, Nat.le_refl _, rfl, Lib.hid (by rw [List.drop_one]; simp)⟩
  case round =>
    obtain ⟨k, hk, hk1, rfl, HP⟩ := hrel
    by_cases hlt : k < s.size
    · rcases drop_ways s.data.toList k (by rw [str_len]; exact hlt) with ⟨c, hc, hd⟩ | ⟨hd, hk2⟩ | ⟨hd, hh⟩
      · have h1 := prefix_any (s.extract k s.size) ⟨#[39, 39]⟩ w false (by rw [ext_drop, hd]; exact (has_none c _ hc).1)
        have h2 := prefix_any (s.extract k s.size) ⟨#[39]⟩ w false (by rw [ext_drop, hd]; exact (has_none c _ hc).2)
        have HN := Lib.hid (closeB_go 1 HP.out hk1 (by rw [hd]; exact closeB_other c _ hc))
        clear hd hc
        go_wp2_with (go_at_call 33; first | (with_reducible refine h1.mono ?_) | (with_reducible refine h2.mono ?_); rintro e w' ⟨rfl, rfl⟩)
        all_goals
          go_round
          case rel => exact ⟨k + 1, by omega, by omega, by go_num, HN⟩
          case measure => simp [intOf]; omega
      · have h1 := prefix_any (s.extract k s.size) ⟨#[39, 39]⟩ w true (by rw [ext_drop, hd]; exact has_two _)
        have HN := Lib.hid (closeB_go 2 HP.out hk1 (by rw [hd]; exact closeB_two _))
        rw [str_len] at hk2
        clear hd
        go_wp2_with (go_at_call 33; refine h1.mono ?_; rintro e w' ⟨rfl, rfl⟩)
        go_round
        case rel => exact ⟨k + 2, by omega, by omega, by go_num, HN⟩
        case measure => simp [intOf]; omega
      · have h1 := prefix_any (s.extract k s.size) ⟨#[39, 39]⟩ w false (by rw [ext_drop, hd]; exact (has_one _ hh).1)
        have h2 := prefix_any (s.extract k s.size) ⟨#[39]⟩ w true (by rw [ext_drop, hd]; exact (has_one _ hh).2)
        have HN : Hid (r = k + 1) := by
          show _ = _
          rw [← HR.out]
          unfold quotedB
          rw [HP.out, hd, closeB_one _ hh]
          simp
          omega
        clear hd hh
        go_wp2_with (go_at_call 33; first | (with_reducible refine h1.mono ?_) | (with_reducible refine h2.mono ?_); rintro e w' ⟨rfl, rfl⟩)
        go_ret
        exact ⟨ret_val (by rw [HN.out]; simp), rfl⟩
    · go_wp2
      go_ret
      refine ⟨ret_val ?_, rfl⟩
      have hd : s.data.toList.drop k = [] := List.drop_eq_nil_iff.2 (by rw [str_len]; omega)
      rw [← HR.out]
      unfold quotedB
      rw [HP.out, hd]
      rfl
end Go.Proofs.YtfdjeaieddcgdaaDoor
