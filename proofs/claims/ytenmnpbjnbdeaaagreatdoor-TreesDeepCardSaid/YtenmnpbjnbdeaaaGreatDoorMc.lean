/-
  WHAT IS PROVED: contracts of words: what a byte is; how many such bytes begin a text.
-/
import Derived.Test.YtenmnpbjnbdeaaaGreatDoorMa
import Derived.Test.YtenmnpbjnbdeaaaGreatDoorMb
import Derived.Test.YtenmnpbjnbdeaaaGreatDoorShelf
namespace Go.Proofs.YtenmnpbjnbdeaaaGreatDoor
section
open Go.RowKit Go.ChangeShapes
set_option linter.unusedVariables false

theorem ret_bool {a b : Bool} (h : a = b) : Ending.returned (.bool a) = .returned (.bool b) := by rw [h]

theorem blank_any (c : UInt8) (w : World) : Calls Tryz.prog 75 #[.int .u8 (c.toNat : Int)] w fun e w' => e = .returned (.bool (blank c)) ∧ w = w' := by
  have hc := c.toNat_lt
  have H : Hid (blank c = (c.toNat == 32 || c.toNat == 9 || c.toNat == 10 || c.toNat == 13)) := rfl
  obtain ⟨b, hb⟩ : ∃ b, blank c = b := ⟨_, rfl⟩
  rw [hb] at H ⊢
  clear hb
  obtain ⟨n, hn⟩ : ∃ n, c.toNat = n := ⟨_, rfl⟩
  rw [hn] at H hc ⊢
  clear hn
  go_enter Tryz.func75, Tryz.ntmps75
  go_wp2
  all_goals
    go_ret
    refine ⟨ret_bool ?_, rfl⟩
    rw [H.out, Bool.eq_iff_iff]; simp; omega

theorem small_any (c : UInt8) (w : World) : Calls Tryz.prog 41 #[.int .u8 (c.toNat : Int)] w fun e w' => e = .returned (.bool (small c)) ∧ w = w' := by
  have hc := c.toNat_lt
  have H : Hid (small c = (decide (97 ≤ c.toNat) && decide (c.toNat ≤ 122))) := rfl
  obtain ⟨b, hb⟩ : ∃ b, small c = b := ⟨_, rfl⟩
  rw [hb] at H ⊢
  clear hb
  obtain ⟨n, hn⟩ : ∃ n, c.toNat = n := ⟨_, rfl⟩
  rw [hn] at H hc ⊢
  clear hn
  go_enter Tryz.func41, Tryz.ntmps41
  go_wp2
  all_goals
    go_ret
    refine ⟨ret_bool ?_, rfl⟩
    rw [H.out, Bool.eq_iff_iff]; simp; omega

theorem digit_any (c : UInt8) (w : World) : Calls Tryz.prog 79 #[.int .u8 (c.toNat : Int)] w fun e w' => e = .returned (.bool (digitB c)) ∧ w = w' := by
  have hc := c.toNat_lt
  have H : Hid (digitB c = (decide (48 ≤ c.toNat) && decide (c.toNat ≤ 57))) := rfl
  obtain ⟨b, hb⟩ : ∃ b, digitB c = b := ⟨_, rfl⟩
  rw [hb] at H ⊢
  clear hb
  obtain ⟨n, hn⟩ : ∃ n, c.toNat = n := ⟨_, rfl⟩
  rw [hn] at H hc ⊢
  clear hn
  go_enter Tryz.func79, Tryz.ntmps79
  go_wp2
  all_goals
    go_ret
    refine ⟨ret_bool ?_, rfl⟩
    rw [H.out, Bool.eq_iff_iff]; simp; omega

theorem letter_any (c : UInt8) (w : World) : Calls Tryz.prog 77 #[.int .u8 (c.toNat : Int)] w fun e w' => e = .returned (.bool (letter c)) ∧ w = w' := by
  have hc := c.toNat_lt
  have H : Hid (letter c = (small c || (decide (65 ≤ c.toNat) && decide (c.toNat ≤ 90)))) := rfl
  have hS := small_any c w
  obtain ⟨b, hb⟩ : ∃ b, letter c = b := ⟨_, rfl⟩
  obtain ⟨s, hs⟩ : ∃ s, small c = s := ⟨_, rfl⟩
  rw [hs] at hS H
  rw [hb] at H ⊢
  clear hb hs
  obtain ⟨n, hn⟩ : ∃ n, c.toNat = n := ⟨_, rfl⟩
  rw [hn] at H hc hS ⊢
  clear hn
  cases s
  · go_enter Tryz.func77, Tryz.ntmps77
    go_wp2_with (go_at_call 41; refine hS.mono ?_; rintro e w' ⟨rfl, rfl⟩)
    all_goals
      go_ret
      refine ⟨ret_bool ?_, rfl⟩
      rw [H.out, Bool.eq_iff_iff]; simp; omega
  · go_enter Tryz.func77, Tryz.ntmps77
    go_wp2_with (go_at_call 41; refine hS.mono ?_; rintro e w' ⟨rfl, rfl⟩)
    go_ret
    exact ⟨ret_bool (by rw [H.out]; rfl), rfl⟩

theorem follow_any (c : UInt8) (w : World) : Calls Tryz.prog 43 #[.int .u8 (c.toNat : Int)] w fun e w' => e = .returned (.bool (follow c)) ∧ w = w' := by
  have hc := c.toNat_lt
  have H : Hid (follow c = (letter c || (digitB c || c.toNat == 95))) := rfl
  have hL := letter_any c w
  have hD := digit_any c w
  obtain ⟨b, hb⟩ : ∃ b, follow c = b := ⟨_, rfl⟩
  obtain ⟨s, hs⟩ : ∃ s, letter c = s := ⟨_, rfl⟩
  obtain ⟨d, hd⟩ : ∃ d, digitB c = d := ⟨_, rfl⟩
  rw [hs] at hL H
  rw [hd] at hD H
  rw [hb] at H ⊢
  clear hb hs hd
  obtain ⟨n, hn⟩ : ∃ n, c.toNat = n := ⟨_, rfl⟩
  rw [hn] at H hc hL hD ⊢
  clear hn
  cases s
  · cases d
    · go_enter Tryz.func43, Tryz.ntmps43
      go_wp2_with (first | (go_at_call 77; refine hL.mono ?_; rintro e w' ⟨rfl, rfl⟩) | (go_at_call 79; refine hD.mono ?_; rintro e w' ⟨rfl, rfl⟩))
      all_goals
        go_ret
        refine ⟨ret_bool ?_, rfl⟩
        rw [H.out, Bool.eq_iff_iff]; simp; omega
    · go_enter Tryz.func43, Tryz.ntmps43
      go_wp2_with (first | (go_at_call 77; refine hL.mono ?_; rintro e w' ⟨rfl, rfl⟩) | (go_at_call 79; refine hD.mono ?_; rintro e w' ⟨rfl, rfl⟩))
      go_ret
      exact ⟨ret_bool (by rw [H.out]; rfl), rfl⟩
  · go_enter Tryz.func43, Tryz.ntmps43
    go_wp2_with (first | (go_at_call 77; refine hL.mono ?_; rintro e w' ⟨rfl, rfl⟩) | (go_at_call 79; refine hD.mono ?_; rintro e w' ⟨rfl, rfl⟩))
    go_ret
    exact ⟨ret_bool (by rw [H.out]; rfl), rfl⟩

/-- how many bytes are such -/
theorem runB_at (p : UInt8 → Bool) (l : List UInt8) (k : Nat) (h : ∀ c ∈ l.take k, p c = true) (hk : k ≤ l.length) : (∀ c, l[k]? = some c → p c = false) → runB p l = k := by
  induction l generalizing k with
  | nil => intro _; simp at hk; subst hk; rfl
  | cons d r ih =>
    intro hs
    cases k with
    | zero => rw [runB_cons, hs d rfl]; rfl
    | succ k =>
      rw [runB_cons, h d (by simp), if_pos rfl, ih k (fun c hc => h c (by simp [hc])) (by simpa using hk) (fun c hc => hs c (by simpa using hc))]

theorem str_len (s : ByteArray) : s.data.toList.length = s.size := (Lib.size_eq s).symm
theorem str_get (s : ByteArray) (k : Nat) (h : k < s.size) : s.data.toList[k]? = some s[k] := by
  rw [Array.getElem?_toList]; exact Array.getElem?_eq_getElem h
theorem take_next {p : UInt8 → Bool} {l : List UInt8} {k : Nat} {c : UInt8} (hc : l[k]? = some c) (h : ∀ c ∈ l.take k, p c = true) (hp : p c = true) : ∀ c ∈ l.take (k + 1), p c = true := by
  intro d hd
  rw [List.take_add_one, hc] at hd
  rcases List.mem_append.1 hd with hd | hd
  · exact h d hd
  · simp at hd; subst hd; exact hp

set_option maxHeartbeats 1000000 in
theorem run_blank (s : ByteArray) (w : World) (hs : s.size ≤ 9223372036854775807) :
    Calls Tryz.prog 42 #[.string s, .func (.func 75) #[] #[]] w fun e w' => e = .returned (.int .i64 (runB blank s.data.toList : Nat)) ∧ w = w' := by
  obtain ⟨r, hr⟩ : ∃ r, runB blank s.data.toList = r := ⟨_, rfl⟩
  rw [hr]
  have HR := Lib.hid hr
  clear hr
  go_enter Tryz.func42, Tryz.ntmps42
  go_wp2
  go_loop [5] (fun i => ∃ k : Nat, k ≤ s.size ∧ i = .int .i64 k ∧ Hid (∀ c ∈ s.data.toList.take k, blank c = true)) (fun i => s.size - (intOf i).toNat)
  case atStart => exact ⟨0, Nat.zero_le _, rfl, Lib.hid (fun c hc => by simp at hc)⟩
  case round =>
    obtain ⟨k, hk, rfl, HP⟩ := hrel
    by_cases hlt : k < s.size
    · have HG := Lib.hid (str_get s k hlt)
      have hF := blank_any s[k] w
      obtain ⟨b, hb⟩ : ∃ b, blank s[k] = b := ⟨_, rfl⟩
      rw [hb] at hF
      have HB := Lib.hid hb
      clear hb
      cases b
      · go_wp2_with (go_at_call 75; refine hF.mono ?_; rintro e w' ⟨rfl, rfl⟩)
        go_ret
        refine ⟨ret_val ?_, rfl⟩
        rw [← HR.out, runB_at blank _ k HP.out (by have := str_len s; omega) (fun c hc => by rw [HG.out] at hc; cases hc; exact HB.out)]
      · go_wp2_with (go_at_call 75; refine hF.mono ?_; rintro e w' ⟨rfl, rfl⟩)
        go_round
        case rel => exact ⟨k + 1, by omega, by go_num, Lib.hid (take_next HG.out HP.out HB.out)⟩
        case measure => simp [intOf]; omega
    · go_wp2
      go_ret
      refine ⟨ret_val ?_, rfl⟩
      rw [← HR.out, runB_at blank _ k HP.out (by have := str_len s; omega) (fun c hc => by rw [List.getElem?_eq_none (by have := str_len s; omega)] at hc; cases hc)]

set_option maxHeartbeats 1000000 in
theorem run_follow (s : ByteArray) (w : World) (hs : s.size ≤ 9223372036854775807) :
    Calls Tryz.prog 42 #[.string s, .func (.func 43) #[] #[]] w fun e w' => e = .returned (.int .i64 (runB follow s.data.toList : Nat)) ∧ w = w' := by
  obtain ⟨r, hr⟩ : ∃ r, runB follow s.data.toList = r := ⟨_, rfl⟩
  rw [hr]
  have HR := Lib.hid hr
  clear hr
  go_enter Tryz.func42, Tryz.ntmps42
  go_wp2
  go_loop [5] (fun i => ∃ k : Nat, k ≤ s.size ∧ i = .int .i64 k ∧ Hid (∀ c ∈ s.data.toList.take k, follow c = true)) (fun i => s.size - (intOf i).toNat)
  case atStart => exact ⟨0, Nat.zero_le _, rfl, Lib.hid (fun c hc => by simp at hc)⟩
  case round =>
    obtain ⟨k, hk, rfl, HP⟩ := hrel
    by_cases hlt : k < s.size
    · have HG := Lib.hid (str_get s k hlt)
      have hF := follow_any s[k] w
      obtain ⟨b, hb⟩ : ∃ b, follow s[k] = b := ⟨_, rfl⟩
      rw [hb] at hF
      have HB := Lib.hid hb
      clear hb
      cases b
      · go_wp2_with (go_at_call 43; refine hF.mono ?_; rintro e w' ⟨rfl, rfl⟩)
        go_ret
        refine ⟨ret_val ?_, rfl⟩
        rw [← HR.out, runB_at follow _ k HP.out (by have := str_len s; omega) (fun c hc => by rw [HG.out] at hc; cases hc; exact HB.out)]
      · go_wp2_with (go_at_call 43; refine hF.mono ?_; rintro e w' ⟨rfl, rfl⟩)
        go_round
        case rel => exact ⟨k + 1, by omega, by go_num, Lib.hid (take_next HG.out HP.out HB.out)⟩
        case measure => simp [intOf]; omega
    · go_wp2
      go_ret
      refine ⟨ret_val ?_, rfl⟩
      rw [← HR.out, runB_at follow _ k HP.out (by have := str_len s; omega) (fun c hc => by rw [List.getElem?_eq_none (by have := str_len s; omega)] at hc; cases hc)]

set_option maxHeartbeats 1000000 in
theorem run_digit (s : ByteArray) (w : World) (hs : s.size ≤ 9223372036854775807) :
    Calls Tryz.prog 42 #[.string s, .func (.func 79) #[] #[]] w fun e w' => e = .returned (.int .i64 (runB digitB s.data.toList : Nat)) ∧ w = w' := by
  obtain ⟨r, hr⟩ : ∃ r, runB digitB s.data.toList = r := ⟨_, rfl⟩
  rw [hr]
  have HR := Lib.hid hr
  clear hr
  go_enter Tryz.func42, Tryz.ntmps42
  go_wp2
  go_loop [5] (fun i => ∃ k : Nat, k ≤ s.size ∧ i = .int .i64 k ∧ Hid (∀ c ∈ s.data.toList.take k, digitB c = true)) (fun i => s.size - (intOf i).toNat)
  case atStart => exact ⟨0, Nat.zero_le _, rfl, Lib.hid (fun c hc => by simp at hc)⟩
  case round =>
    obtain ⟨k, hk, rfl, HP⟩ := hrel
    by_cases hlt : k < s.size
    · have HG := Lib.hid (str_get s k hlt)
      have hF := digit_any s[k] w
      obtain ⟨b, hb⟩ : ∃ b, digitB s[k] = b := ⟨_, rfl⟩
      rw [hb] at hF
      have HB := Lib.hid hb
      clear hb
      cases b
      · go_wp2_with (go_at_call 79; refine hF.mono ?_; rintro e w' ⟨rfl, rfl⟩)
        go_ret
        refine ⟨ret_val ?_, rfl⟩
        rw [← HR.out, runB_at digitB _ k HP.out (by have := str_len s; omega) (fun c hc => by rw [HG.out] at hc; cases hc; exact HB.out)]
      · go_wp2_with (go_at_call 79; refine hF.mono ?_; rintro e w' ⟨rfl, rfl⟩)
        go_round
        case rel => exact ⟨k + 1, by omega, by go_num, Lib.hid (take_next HG.out HP.out HB.out)⟩
        case measure => simp [intOf]; omega
    · go_wp2
      go_ret
      refine ⟨ret_val ?_, rfl⟩
      rw [← HR.out, runB_at digitB _ k HP.out (by have := str_len s; omega) (fun c hc => by rw [List.getElem?_eq_none (by have := str_len s; omega)] at hc; cases hc)]
end
end Go.Proofs.YtenmnpbjnbdeaaaGreatDoor
