/-
  WHAT IS PROVED: contracts of words: how far a string goes; which sign begins a text; how far what begins a text goes. contracts of words: which sign begins a text. contracts of words: how far what begins a text goes; what a piece is. each two signs that end a text replaced by one: as the library's function says it; what a whole piece is.
-/
import Derived.Test.YtenmnpbjnbdeaaaGreatDoorMc
import Derived.Test.YtenmnpbjnbdeaaaGreatDoorMb
namespace Go.Proofs.YtenmnpbjnbdeaaaGreatDoor
section
open Go.RowKit Go.ChangeShapes
set_option linter.unusedVariables false

theorem prefix_any (s p : ByteArray) (w : World) (b : Bool) (h : Lib.hasPrefix s.data.toList p.data.toList = b) :
    Calls Tryz.prog 81 #[.string s, .string p] w fun e w' => e = .returned (.bool b) ∧ w = w' := by
  rw [← h]
  exact (Tryz.strings_HasPrefix s p w).mono fun e w' ⟨h1, h2⟩ => ⟨h1, h2.symm⟩

theorem ext_drop (s : ByteArray) (k : Nat) : (s.extract k s.size).data.toList = s.data.toList.drop k := by
  rw [Lib.extract_data, List.take_of_length_le (by rw [List.length_drop, str_len]; omega)]

theorem closeB_other (c : UInt8) (r : List UInt8) (h : c ≠ 39) : closeB (c :: r) = (closeB r).map (· + 1) := by
  cases r with
  | nil => simp [closeB, h]
  | cons d r => simp [closeB, h]
theorem closeB_two (r : List UInt8) : closeB (39 :: 39 :: r) = (closeB r).map (· + 2) := by simp [closeB]
theorem closeB_one (r : List UInt8) (h : r.head? ≠ some 39) : closeB (39 :: r) = some 1 := by
  cases r with
  | nil => simp [closeB]
  | cons d r => have : d ≠ 39 := fun e => h (by simp [e]); simp [closeB, this]

theorem drop_ways (l : List UInt8) (k : Nat) (hk : k < l.length) :
    (∃ c, c ≠ 39 ∧ l.drop k = c :: l.drop (k + 1)) ∨ (l.drop k = 39 :: 39 :: l.drop (k + 2) ∧ k + 2 ≤ l.length) ∨ (l.drop k = 39 :: l.drop (k + 1) ∧ (l.drop (k + 1)).head? ≠ some 39) := by
  have h1 : l.drop k = l[k] :: l.drop (k + 1) := List.drop_eq_getElem_cons hk
  by_cases hc : l[k] = 39
  · rw [hc] at h1
    by_cases hd : (l.drop (k + 1)).head? = some 39
    · right; left
      have hk2 : k + 1 < l.length := by
        apply Nat.lt_of_not_le
        intro h
        rw [List.drop_eq_nil_iff.2 h] at hd; cases hd
      have h2 : l.drop (k + 1) = l[k + 1] :: l.drop (k + 2) := List.drop_eq_getElem_cons hk2
      rw [h2] at hd h1
      have : l[k + 1] = 39 := Option.some.inj (show some l[k + 1] = some 39 from hd)
      rw [this] at h1
      exact ⟨h1, by omega⟩
    · exact .inr (.inr ⟨h1, hd⟩)
  · exact .inl ⟨_, hc, h1⟩

theorem has_none (c : UInt8) (r : List UInt8) (h : c ≠ 39) : Lib.hasPrefix (c :: r) [39, 39] = false ∧ Lib.hasPrefix (c :: r) [39] = false := by
  have : ((39 : UInt8) == c) = false := by rw [beq_eq_false_iff_ne]; exact fun e => h e.symm
  simp [Lib.hasPrefix, List.isPrefixOf, this]
theorem has_two (r : List UInt8) : Lib.hasPrefix (39 :: 39 :: r) [39, 39] = true := by simp [Lib.hasPrefix, List.isPrefixOf]
theorem has_one (r : List UInt8) (h : r.head? ≠ some 39) : Lib.hasPrefix (39 :: r) [39, 39] = false ∧ Lib.hasPrefix (39 :: r) [39] = true := by
  cases r with
  | nil => simp [Lib.hasPrefix, List.isPrefixOf]
  | cons d r =>
    have : ((39 : UInt8) == d) = false := by rw [beq_eq_false_iff_ne]; intro e; exact h (by simp [← e])
    simp [Lib.hasPrefix, List.isPrefixOf, this]

theorem closeB_go {l : List UInt8} {k : Nat} {t : Option Nat} (m : Nat) (h : t = (closeB (l.drop k)).map (· + (k - 1))) (hk : 1 ≤ k) (hs : closeB (l.drop k) = (closeB (l.drop (k + m))).map (· + m)) : t = (closeB (l.drop (k + m))).map (· + (k + m - 1)) := by
  rw [h, hs, Option.map_map]
  congr 1
  funext x
  show x + m + (k - 1) = _
  omega

set_option maxHeartbeats 1000000 in
theorem quoted_any (s : ByteArray) (w : World) (hs : s.size ≤ 9223372036854775000) (h0 : 0 < s.size) :
    Calls Tryz.prog 122 #[.string s] w fun e w' => e = .returned (.int .i64 (quotedB s.data.toList : Nat)) ∧ w = w' := by
  obtain ⟨r, hr⟩ : ∃ r, quotedB s.data.toList = r := ⟨_, rfl⟩
  rw [hr]
  have HR := Lib.hid hr
  clear hr
  go_enter Tryz.func122, Tryz.ntmps122
  go_wp2
  go_loop [3] (fun i => ∃ k : Nat, k ≤ s.size ∧ 1 ≤ k ∧ i = .int .i64 k ∧ Hid (closeB s.data.toList.tail = (closeB (s.data.toList.drop k)).map (· + (k - 1)))) (fun i => s.size - (intOf i).toNat)
  case atStart => exact ⟨1, h0, Nat.le_refl _, rfl, Lib.hid (by rw [List.drop_one]; simp)⟩
  case round =>
    obtain ⟨k, hk, hk1, rfl, HP⟩ := hrel
    by_cases hlt : k < s.size
    · rcases drop_ways s.data.toList k (by rw [str_len]; exact hlt) with ⟨c, hc, hd⟩ | ⟨hd, hk2⟩ | ⟨hd, hh⟩
      · have h1 := prefix_any (s.extract k s.size) ⟨#[39, 39]⟩ w false (by rw [ext_drop, hd]; exact (has_none c _ hc).1)
        have h2 := prefix_any (s.extract k s.size) ⟨#[39]⟩ w false (by rw [ext_drop, hd]; exact (has_none c _ hc).2)
        have HN := Lib.hid (closeB_go 1 HP.out hk1 (by rw [hd]; exact closeB_other c _ hc))
        clear hd hc
        go_wp2_with (go_at_call 81; first | (with_reducible refine h1.mono ?_) | (with_reducible refine h2.mono ?_); rintro e w' ⟨rfl, rfl⟩)
        all_goals
          go_round
          case rel => exact ⟨k + 1, by omega, by omega, by go_num, HN⟩
          case measure => simp [intOf]; omega
      · have h1 := prefix_any (s.extract k s.size) ⟨#[39, 39]⟩ w true (by rw [ext_drop, hd]; exact has_two _)
        have HN := Lib.hid (closeB_go 2 HP.out hk1 (by rw [hd]; exact closeB_two _))
        rw [str_len] at hk2
        clear hd
        go_wp2_with (go_at_call 81; refine h1.mono ?_; rintro e w' ⟨rfl, rfl⟩)
        go_round
        case rel => exact ⟨k + 2, by omega, by omega, by go_num, HN⟩
        case measure => simp [intOf]; omega
      · have h1 := prefix_any (s.extract k s.size) ⟨#[39, 39]⟩ w false (by rw [ext_drop, hd]; exact (has_one _ hh).1)
        have h2 := prefix_any (s.extract k s.size) ⟨#[39]⟩ w true (by rw [ext_drop, hd]; exact (has_one _ hh).2)
        have HN : Hid (r = k + 1) := by
          show _ = _
          rw [← HR.out]
          unfold quotedB
          rw [HP.out, hd, closeB_one _ hh]
          simp
          omega
        clear hd hh
        go_wp2_with (go_at_call 81; first | (with_reducible refine h1.mono ?_) | (with_reducible refine h2.mono ?_); rintro e w' ⟨rfl, rfl⟩)
        go_ret
        exact ⟨ret_val (by rw [HN.out]; simp), rfl⟩
    · go_wp2
      go_ret
      refine ⟨ret_val ?_, rfl⟩
      have hd : s.data.toList.drop k = [] := List.drop_eq_nil_iff.2 (by rw [str_len]; omega)
      rw [← HR.out]
      unfold quotedB
      rw [HP.out, hd]
      rfl
end
section
open Go.RowKit Go.ChangeShapes
set_option linter.unusedVariables false

theorem run_at {A : Array Value} {k : Nat} {v : Value} (w : World) (hk : k < 16) (h : A[k]? = some v) : (Instr.index 187 (.agg A) (.int .i64 (k : Int))).run Tryz.prog w = .ok v w := by
  simp [Instr.index, run_underlying Tryz.underlying187, asIntOf, go_sem, h, hk]

/-- a sign's bytes -/
def sgB (j : Nat) : ByteArray := ⟨(signsB.getD j []).toArray⟩
/-- WHAT WORDS NEEDS OF THE VARIABLES: the signs; a number of the library's; an error of the library's -/
structure Wo (w : World) : Prop where
  sign : ∀ j, j < 16 → w.cell? ⟨0, j, none⟩ = some (.string (sgB j))
  max : ∃ m, w.cell? ⟨2, 0, none⟩ = some (.int .i64 m)
  range : ∃ ev, w.cell? ⟨6, 0, none⟩ = some ev ∧ (ev = .nilIface ∨ ∃ te pe, ev = .iface te pe)
theorem Wo.kept {w w' : World} (h : Wo w) (hb : Below w.heap.size w w') : Wo w' := by
  refine ⟨fun j hj => ?_, ?_, ?_⟩
  · rw [hb.cell (p := ⟨0, j, none⟩) (World.block_lt_of_cell? w _ (h.sign j hj))]; exact h.sign j hj
  · obtain ⟨m, hm⟩ := h.max
    exact ⟨m, (hb.cell (World.block_lt_of_cell? w _ hm)).trans hm⟩
  · obtain ⟨ev, he, hv⟩ := h.range
    exact ⟨ev, (hb.cell (World.block_lt_of_cell? w _ he)).trans he, hv⟩

theorem sg_prefix (k : Nat) (l : List UInt8) : (signsB.getD k []).isPrefixOf l = Lib.hasPrefix l (sgB k).data.toList := by
  unfold Lib.hasPrefix sgB; simp
theorem sg_size (k : Nat) : (signsB.getD k []).length = (sgB k).size := by unfold sgB; simp [ByteArray.size]
theorem find_next {p : List UInt8 → Bool} (k : Nat) (hk : k < 16) : (signsB.drop k).find? p = if p (signsB.getD k []) then some (signsB.getD k []) else (signsB.drop (k + 1)).find? p := by
  have hl : k < signsB.length := hk
  rw [List.drop_eq_getElem_cons hl, List.find?_cons]
  have : signsB.getD k [] = signsB[k] := by simp [List.getD, List.getElem?_eq_getElem hl]
  rw [this]
  cases p signsB[k] <;> rfl

set_option maxHeartbeats 1000000 in
set_option maxRecDepth 100000 in
theorem sign_any (s : ByteArray) (w : World) (hw : Wo w) (hs : s.size ≤ 9223372036854775000) :
    Calls Tryz.prog 123 #[.string s] w fun e w' => e = .returned (.int .i64 (signB s.data.toList : Nat)) ∧ w = w' := by
  obtain ⟨r, hr⟩ : ∃ r, signB s.data.toList = r := ⟨_, rfl⟩
  rw [hr]
  have HR := Lib.hid hr
  clear hr
  have q0 := hw.sign 0 (by omega)
  have q1 := hw.sign 1 (by omega)
  have q2 := hw.sign 2 (by omega)
  have q3 := hw.sign 3 (by omega)
  have q4 := hw.sign 4 (by omega)
  have q5 := hw.sign 5 (by omega)
  have q6 := hw.sign 6 (by omega)
  have q7 := hw.sign 7 (by omega)
  have q8 := hw.sign 8 (by omega)
  have q9 := hw.sign 9 (by omega)
  have q10 := hw.sign 10 (by omega)
  have q11 := hw.sign 11 (by omega)
  have q12 := hw.sign 12 (by omega)
  have q13 := hw.sign 13 (by omega)
  have q14 := hw.sign 14 (by omega)
  have q15 := hw.sign 15 (by omega)
  go_enter Tryz.func123, Tryz.ntmps123
  go_wp2
  obtain ⟨A, hA⟩ : ∃ A, A = #[Value.string (sgB 0), Value.string (sgB 1), Value.string (sgB 2), Value.string (sgB 3), Value.string (sgB 4), Value.string (sgB 5), Value.string (sgB 6), Value.string (sgB 7), Value.string (sgB 8), Value.string (sgB 9), Value.string (sgB 10), Value.string (sgB 11), Value.string (sgB 12), Value.string (sgB 13), Value.string (sgB 14), Value.string (sgB 15)] := ⟨_, rfl⟩
  rw [← hA]
  have hget : ∀ k, k < 16 → A[k]? = some (Value.string (sgB k)) := by
    intro k hk
    subst hA
    have : k = 0 ∨ k = 1 ∨ k = 2 ∨ k = 3 ∨ k = 4 ∨ k = 5 ∨ k = 6 ∨ k = 7 ∨ k = 8 ∨ k = 9 ∨ k = 10 ∨ k = 11 ∨ k = 12 ∨ k = 13 ∨ k = 14 ∨ k = 15 := by omega
    rcases this with rfl | rfl | rfl | rfl | rfl | rfl | rfl | rfl | rfl | rfl | rfl | rfl | rfl | rfl | rfl | rfl <;> rfl
  have hsz : A.size = 16 := by subst hA; rfl
  have HGET := Lib.hid hget
  clear hA hget q0 q1 q2 q3 q4 q5 q6 q7 q8 q9 q10 q11 q12 q13 q14 q15
  go_loop [6] (fun i => ∃ k : Nat, k ≤ 16 ∧ i = .int .i64 k ∧ Hid (signsB.find? (fun x => x.isPrefixOf s.data.toList) = (signsB.drop k).find? (fun x => x.isPrefixOf s.data.toList))) (fun i => 16 - (intOf i).toNat)
  case atStart => exact ⟨0, by omega, rfl, Lib.hid rfl⟩
  case round =>
    obtain ⟨k, hk, rfl, HP⟩ := hrel
    by_cases hlt : k < 16
    · have hg := HGET.out k hlt
      obtain ⟨x, hx⟩ : ∃ x, sgB k = x := ⟨_, rfl⟩
      rw [hx] at hg
      have HX := Lib.hid hx
      clear hx
      have hi := run_at w hlt hg
      obtain ⟨b, hb⟩ : ∃ b, Lib.hasPrefix s.data.toList x.data.toList = b := ⟨_, rfl⟩
      have h1 := prefix_any s x w b hb
      have HB := Lib.hid hb
      clear hb hg
      cases b
      · go_wp2_with (go_at_call 81; refine h1.mono ?_; rintro e w' ⟨rfl, rfl⟩)
        go_round
        case rel =>
          refine ⟨k + 1, by omega, by go_num, Lib.hid ?_⟩
          rw [HP.out, find_next k hlt, sg_prefix, HX.out, HB.out]
          rfl
        case measure => simp [intOf]; omega
      · go_wp2_with (go_at_call 81; refine h1.mono ?_; rintro e w' ⟨rfl, rfl⟩)
        go_ret
        refine ⟨ret_val ?_, rfl⟩
        rw [← HR.out]
        unfold signB
        rw [HP.out, find_next k hlt, sg_prefix, HX.out, HB.out, ← HX.out, ← sg_size]
        rfl
    · go_wp2
      go_ret
      refine ⟨ret_val ?_, rfl⟩
      obtain rfl : k = 16 := by omega
      rw [← HR.out]
      unfold signB
      rw [HP.out]
      rfl
end
section
open Go.RowKit Go.ChangeShapes
set_option linter.unusedVariables false

theorem str_cons (s : ByteArray) (h : 0 < s.size) : s.data.toList = s[0] :: s.data.toList.drop 1 := by
  have h1 := str_get s 0 h
  have hl : 0 < s.data.toList.length := by rw [str_len]; exact h
  have := List.drop_eq_getElem_cons hl
  rw [List.drop_zero] at this
  rw [List.getElem?_eq_getElem hl] at h1
  rw [Option.some.inj h1] at this
  exact this

theorem has_first (c : UInt8) (r : List UInt8) : Lib.hasPrefix (c :: r) [39] = decide (c = 39) := by
  simp only [Lib.hasPrefix, List.isPrefixOf, Bool.and_true]
  rw [Bool.eq_iff_iff]
  simp only [beq_iff_eq, decide_eq_true_eq]
  exact eq_comm

set_option maxHeartbeats 1000000 in
theorem extent_any (s : ByteArray) (w : World) (hw : Wo w) (hs : s.size ≤ 9223372036854775000) (h0 : 0 < s.size) :
    Calls Tryz.prog 76 #[.string s] w fun e w' => e = .returned (.int .i64 (extentB s.data.toList : Nat)) ∧ w = w' := by
  have hcons := str_cons s h0
  have hL := letter_any s[0] w
  have hD := digit_any s[0] w
  have hP := prefix_any s ⟨#[39]⟩ w (decide (s[0] = 39)) (by rw [hcons]; exact has_first _ _)
  have hF := run_follow s w (by omega)
  have hG := run_digit s w (by omega)
  have hQ := quoted_any s w hs h0
  have hS := sign_any s w hw hs
  obtain ⟨r, hr⟩ : ∃ r, extentB s.data.toList = r := ⟨_, rfl⟩
  rw [hr]
  have HR : Hid ((if letter s[0] then runB follow s.data.toList else if digitB s[0] then runB digitB s.data.toList else if s[0] = 39 then quotedB s.data.toList else signB s.data.toList) = r) := by
    show _ = _
    rw [← hr, hcons]
    rfl
  clear hr hcons
  obtain ⟨bl, hbl⟩ : ∃ b, letter s[0] = b := ⟨_, rfl⟩
  obtain ⟨bd, hbd⟩ : ∃ b, digitB s[0] = b := ⟨_, rfl⟩
  obtain ⟨bq, hbq⟩ : ∃ b, decide (s[0] = 39) = b := ⟨_, rfl⟩
  rw [hbl] at hL HR
  rw [hbd] at hD HR
  rw [hbq] at hP
  have HQ := Lib.hid hbq
  clear hbl hbd hbq
  cases bl
  · cases bd
    · cases bq
      · go_enter Tryz.func76, Tryz.ntmps76
        go_wp2_with (first | (go_at_call 77; refine hL.mono ?_; rintro e w' ⟨rfl, rfl⟩) | (go_at_call 79; refine hD.mono ?_; rintro e w' ⟨rfl, rfl⟩) | (go_at_call 81; refine hP.mono ?_; rintro e w' ⟨rfl, rfl⟩) | (go_at_call 123; refine hS.mono ?_; rintro e w' ⟨rfl, rfl⟩))
        go_ret
        refine ⟨ret_val ?_, rfl⟩
        have h := HR.out
        rw [if_neg (by simp), if_neg (by simp), if_neg (of_decide_eq_false HQ.out)] at h
        rw [h]
      · go_enter Tryz.func76, Tryz.ntmps76
        go_wp2_with (first | (go_at_call 77; refine hL.mono ?_; rintro e w' ⟨rfl, rfl⟩) | (go_at_call 79; refine hD.mono ?_; rintro e w' ⟨rfl, rfl⟩) | (go_at_call 81; refine hP.mono ?_; rintro e w' ⟨rfl, rfl⟩) | (go_at_call 122; refine hQ.mono ?_; rintro e w' ⟨rfl, rfl⟩))
        go_ret
        refine ⟨ret_val ?_, rfl⟩
        have h := HR.out
        rw [if_neg (by simp), if_neg (by simp), if_pos (of_decide_eq_true HQ.out)] at h
        rw [h]
    · go_enter Tryz.func76, Tryz.ntmps76
      go_wp2_with (first | (go_at_call 77; refine hL.mono ?_; rintro e w' ⟨rfl, rfl⟩) | (go_at_call 79; refine hD.mono ?_; rintro e w' ⟨rfl, rfl⟩) | (go_at_call 42; refine hG.mono ?_; rintro e w' ⟨rfl, rfl⟩))
      go_ret
      refine ⟨ret_val ?_, rfl⟩
      have h := HR.out
      rw [if_neg (by simp), if_pos trivial] at h
      rw [h]
  · go_enter Tryz.func76, Tryz.ntmps76
    go_wp2_with (first | (go_at_call 77; refine hL.mono ?_; rintro e w' ⟨rfl, rfl⟩) | (go_at_call 42; refine hF.mono ?_; rintro e w' ⟨rfl, rfl⟩))
    go_ret
    refine ⟨ret_val ?_, rfl⟩
    have h := HR.out
    rw [if_pos trivial] at h
    rw [h]
end
section
open Go.Lib

theorem undbl_other (b : UInt8) (r : List UInt8) (h : [39, 39].isPrefixOf (b :: r) = false) : undbl (b :: r) = b :: undbl r := by
  cases r with
  | nil => rfl
  | cons d r =>
    rw [undbl, if_neg]
    rintro ⟨rfl, rfl⟩
    revert h; simp [List.isPrefixOf]
theorem replaceK_undbl : ∀ (n : Nat) (l : List UInt8), l.length ≤ n → replaceK [39, 39] [39] (count l [39, 39]) l = undbl l
  | _, [], _ => rfl
  | 0, b :: r, h => by simp at h
  | n + 1, b :: r, h => by
    have hr : r.length ≤ n := by simpa using h
    cases hp : ([39, 39] : List UInt8).isPrefixOf (b :: r) with
    | true =>
      have hi : index (b :: r) [39, 39] = ((0 : Nat) : Int) := by unfold index; rw [if_pos hp]; rfl
      obtain ⟨t, ht⟩ := List.isPrefixOf_iff_prefix.1 hp
      rw [count_hit (by simp) hi, Nat.add_comm, replaceK_hit _ _ _ _ 0 hi]
      rw [← ht]
      show [] ++ [39] ++ replaceK [39, 39] [39] (count t [39, 39]) t = undbl (39 :: 39 :: t)
      have htl : t.length ≤ n := by have := congrArg List.length ht; simp at this h; omega
      rw [replaceK_undbl n t htl, undbl, if_pos ⟨rfl, rfl⟩]; rfl
    | false =>
      rw [undbl_other b r hp, ← replaceK_undbl n r hr]
      have hge := index_ge r [39, 39]
      by_cases hi : index r [39, 39] = -1
      · have h1 : index (b :: r) [39, 39] = -1 := by unfold index; rw [hp, hi]; rfl
        rw [count_miss h1, count_miss hi]; rfl
      · obtain ⟨i, hi'⟩ : ∃ i : Nat, index r [39, 39] = i := ⟨(index r [39, 39]).toNat, by omega⟩
        have h1 : index (b :: r) [39, 39] = ((i + 1 : Nat) : Int) := by
          unfold index
          rw [hp, hi']
          have : ((i : Int) == -1) = false := by rw [beq_eq_false_iff_ne]; omega
          rw [this]; rfl
        rw [count_hit (by simp) h1, count_hit (by simp) hi', Nat.add_comm 1, Nat.add_comm 1, replaceK_hit _ _ _ _ (i + 1) h1, replaceK_hit _ _ _ _ i hi']
        have : (b :: r).drop (i + 1 + ([39, 39] : List UInt8).length) = r.drop (i + ([39, 39] : List UInt8).length) := by
          rw [show i + 1 + ([39, 39] : List UInt8).length = i + ([39, 39] : List UInt8).length + 1 by simp, List.drop_succ_cons]
        rw [this]
        simp
theorem replace_undbl (l : List UInt8) : replaceAll l [39, 39] [39] = undbl l := by
  unfold replaceAll replace replaceNum
  rw [if_neg (by decide), if_pos (by left; decide)]
  exact replaceK_undbl l.length l (Nat.le_refl _)

/-- what a text's beginning may be -/
structure WholeP (p : List UInt8) : Prop where
  name : ∀ c r, p = c :: r → letter c = true → ∀ x ∈ p, follow x = true
  num : ∀ c r, p = c :: r → digitB c = true → ∀ x ∈ p, digitB x = true
  text : ∀ r, p = 39 :: r → 2 ≤ p.length
theorem whole_of (l : List UInt8) : WholeP (l.take (extentB l)) := by
  cases l with
  | nil => exact ⟨(fun c r h => by cases h), (fun c r h => by cases h), (fun r h => by cases h)⟩
  | cons d s =>
    obtain ⟨z, hz⟩ : ∃ z, extentB (d :: s) = z := ⟨_, rfl⟩
    rw [hz]
    cases z with
    | zero => exact ⟨(fun c r h => by cases h), (fun c r h => by cases h), (fun r h => by cases h)⟩
    | succ z =>
      have hz' := hz
      simp only [extentB] at hz
      refine ⟨fun c r h hl => ?_, fun c r h hd => ?_, fun r h => ?_⟩
      · rw [List.take_succ_cons] at h
        obtain rfl : d = c := by cases h; rfl
        rw [if_pos hl] at hz
        rw [← hz]
        exact run_all follow _
      · rw [List.take_succ_cons] at h
        obtain rfl : d = c := by cases h; rfl
        rw [if_neg (by rw [(digit_not d hd).2]; simp), if_pos hd] at hz
        rw [← hz]
        exact run_all digitB _
      · rw [List.take_succ_cons] at h
        obtain rfl : d = 39 := by cases h; rfl
        rw [if_neg (by decide), if_neg (by decide), if_pos rfl] at hz
        have hle := extentB_le (39 :: s)
        rw [hz'] at hle
        rw [List.length_take, Nat.min_eq_left hle]
        unfold quotedB at hz
        rw [List.tail_cons] at hz
        cases hc : closeB s with
        | none => rw [hc] at hz; cases hz
        | some k =>
          rw [hc] at hz
          have := (closeB_le s k hc).1
          have hz2 : k + 1 = z + 1 := hz
          omega
end
end Go.Proofs.YtenmnpbjnbdeaaaGreatDoor
