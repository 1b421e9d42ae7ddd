/-
  WHAT IS PROVED: contracts of words: how far what begins a text goes; what a piece is.
-/
import Derived.Test.YtfdjeaieddcgdaaDoorWoC
namespace Go.Proofs.YtfdjeaieddcgdaaDoor
open Go.RowKit Go.ChangeShapes
set_option linter.unusedVariables false

theorem str_cons (s : ByteArray) (h : 0 < s.size) : s.data.toList = s[0] :: s.data.toList.drop 1 := by
  have h1 := str_get s 0 h
  have hl : 0 < s.data.toList.length := by rw [str_len]; exact h
  have := List.drop_eq_getElem_cons hl
  rw [List.drop_zero] at this
  rw [List.getElem?_eq_getElem hl] at h1
  rw [Option.some.inj h1] at this
  exact this

theorem has_first (c : UInt8) (r : List UInt8) : Lib.hasPrefix (c :: r) [39] = decide (c = 39) := by
  simp only [Lib.hasPrefix, List.isPrefixOf, Bool.and_true]
  rw [Bool.eq_iff_iff]
  simp only [beq_iff_eq, decide_eq_true_eq]
  exact eq_comm

set_option maxHeartbeats 1000000 in
theorem extent_any (s : ByteArray) (w : World) (hw : Wo w) (hs : s.size ≤ 9223372036854775000) (h0 : 0 < s.size) :
    Calls Tryd.prog 28 #[.string s] w fun e w' => e = .returned (.int .i64 (extentB s.data.toList : Nat)) ∧ w = w' := by
  have hcons := str_cons s h0
  have hL := letter_any s[0] w
  have hD := digit_any s[0] w
  have hP := prefix_any s ⟨#[39]⟩ w (decide (s[0] = 39)) (by rw [hcons]; exact has_first _ _)
  have hF := run_follow s w (by omega)
  have hG := run_digit s w (by omega)
  have hQ := quoted_any s w hs h0
  have hS := sign_any s w hw hs
  obtain ⟨r, hr⟩ : ∃ r, extentB s.data.toList = r := ⟨_, rfl⟩
  rw [hr]
  have HR : Hid ((if letter s[0] then runB follow s.data.toList else if digitB s[0] then runB digitB s.data.toList else if s[0] = 39 then quotedB s.data.toList else signB s.data.toList) = r) := by
    show _ = _
    rw [← hr, hcons]
    rfl
  clear hr hcons
  obtain ⟨bl, hbl⟩ : ∃ b, letter s[0] = b := ⟨_, rfl⟩
  obtain ⟨bd, hbd⟩ : ∃ b, digitB s[0] = b := ⟨_, rfl⟩
  obtain ⟨bq, hbq⟩ : ∃ b, decide (s[0] = 39) = b := ⟨_, rfl⟩
  rw [hbl] at hL HR
  rw [hbd] at hD HR
  rw [hbq] at hP
  have HQ := Lib.hid hbq
  clear hbl hbd hbq
  cases bl
  · cases bd
    · cases bq
      · go_enter Tryd.func28, Tryd.ntmps28
        go_wp2_with (first | (go_at_call 29; refine hL.mono ?_; rintro e w' ⟨rfl, rfl⟩) | (go_at_call 31; refine hD.mono ?_; rintro e w' ⟨rfl, rfl⟩) | (go_at_call 33; refine hP.mono ?_; rintro e w' ⟨rfl, rfl⟩) | (go_at_call 43; refine hS.mono ?_; rintro e w' ⟨rfl, rfl⟩))
        go_ret
        refine ⟨ret_val ?_, rfl⟩
        have h := HR.out
        rw [if_neg (by simp), if_neg (by simp), if_neg (of_decide_eq_false HQ.out)] at h
        rw [h]
      · go_enter Tryd.func28, Tryd.ntmps28
        go_wp2_with (first | (go_at_call 29; refine hL.mono ?_; rintro e w' ⟨rfl, rfl⟩) | (go_at_call 31; refine hD.mono ?_; rintro e w' ⟨rfl, rfl⟩) | (go_at_call 33; refine hP.mono ?_; rintro e w' ⟨rfl, rfl⟩) | (go_at_call 42; refine hQ.mono ?_; rintro e w' ⟨rfl, rfl⟩))
        go_ret
        refine ⟨ret_val ?_, rfl⟩
        have h := HR.out
        rw [if_neg (by simp), if_neg (by simp), if_pos (of_decide_eq_true HQ.out)] at h
        rw [h]
    · go_enter Tryd.func28, Tryd.ntmps28
      go_wp2_with (first | (go_at_call 29; refine hL.mono ?_; rintro e w' ⟨rfl, rfl⟩) | (go_at_call 31; refine hD.mono ?_; rintro e w' ⟨rfl, rfl⟩) | (go_at_call 22; refine hG.mono ?_; rintro e w' ⟨rfl, rfl⟩))
      go_ret
      refine ⟨ret_val ?_, rfl⟩
      have h := HR.out
      rw [if_neg (by simp), if_pos trivial] at h
      rw [h]
  · go_enter Tryd.func28, Tryd.ntmps28
    go_wp2_with (first | (go_at_call 29; refine hL.mono ?_; rintro e w' ⟨rfl, rfl⟩) | (go_at_call 22; refine hF.mono ?_; rintro e w' ⟨rfl, rfl⟩))
    go_ret
    refine ⟨ret_val ?_, rfl⟩
    have h := HR.out
    rw [if_pos trivial] at h
    rw [h]
end Go.Proofs.YtfdjeaieddcgdaaDoor
