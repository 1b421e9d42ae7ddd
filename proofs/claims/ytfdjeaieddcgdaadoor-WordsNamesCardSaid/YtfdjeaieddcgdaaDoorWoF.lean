/-
  WHAT IS PROVED: contract of words: the word that a piece is, whatever it is.
-/
import Derived.Test.YtfdjeaieddcgdaaDoorWoE
namespace Go.Proofs.YtfdjeaieddcgdaaDoor
open Go.RowKit Go.ChangeShapes
set_option linter.unusedVariables false

theorem size_zero {s : ByteArray} (h : s.size = 0) : s = ⟨#[]⟩ := by
  obtain ⟨⟨l⟩⟩ := s
  have : l.length = 0 := h
  rw [List.length_eq_zero_iff.1 this]

set_option maxHeartbeats 1000000 in
theorem word_name_long (s : ByteArray) (w : World) (hw : Wo w) (hs : s.size ≤ 4096) (h0 : 0 < s.size) (hl : letter s[0] = true) (hall : ∀ c ∈ s.data.toList, follow c = true) (h : 16 < s.size) :
    Calls Tryd.prog 19 #[.string s] w (GotR (.no 4) w) := by
  have HB := Lib.hid (below_alloc w (.cells #[.int .u8 0, .string ⟨#[]⟩, .int .i64 0, .int .i64 0] 29))
  have HN := Lib.hid (Four.new w 29 (.int .u8 0) (.string ⟨#[]⟩) (.int .i64 0) (.int .i64 0))
  have hW := hw.kept HB.out
  have hne : s.toList = [] → False := fun e => by rw [Lib.toList_data] at e; have := str_len s; rw [e] at this; simp at this; omega
  have hemp : s.toList.isEmpty = false := by cases h : s.toList with
    | nil => exact (hne h).elim
    | cons c r => rfl
  have hC := (show Calls Tryd.prog 30 #[.string s] (w.alloc (.cells #[.int .u8 0, .string ⟨#[]⟩, .int .i64 0, .int .i64 0] 29)) (fun e w' => e = .returned (.tuple #[.agg #[.int .u8 0, .string ⟨#[]⟩, .int .i64 0, .int .i64 0], .int .i64 4]) ∧ Below (w.alloc (.cells #[.int .u8 0, .string ⟨#[]⟩, .int .i64 0, .int .i64 0] 29)).heap.size (w.alloc (.cells #[.int .u8 0, .string ⟨#[]⟩, .int .i64 0, .int .i64 0] 29)) w') by have := name_any s (w.alloc (.cells #[.int .u8 0, .string ⟨#[]⟩, .int .i64 0, .int .i64 0] 29)) hs hall; rw [if_pos h] at this; exact this)
  clear hne hW hall
  go_enter Tryd.func19, Tryd.ntmps19
  go_wp2_with (first | (go_at_call 29; refine (letter_any s[0] _).mono ?_; rw [hl]; rintro e w' ⟨rfl, rfl⟩) | (go_at_call 30; refine hC.mono ?_; rintro e w1 ⟨rfl, hb1⟩; have HN1 := Lib.hid (HN.out.kept hb1); have HB1 := Lib.hid (below_step (Below.refl _ _) hb1); obtain ⟨q0, q1, q2, q3⟩ := HN1.out.cells; obtain ⟨f0, f1, f2, f3⟩ := HN1.out.free; clear hb1))
  exact bodyPost_ret (word_results Tryd.results19 (HN1.out.set _ _ _ _) rfl rfl) rfl ⟨rfl, below_set4 HB1.out (Nat.le_refl _) _ _ _ _⟩

set_option maxHeartbeats 1000000 in
theorem word_name (s : ByteArray) (w : World) (hw : Wo w) (hs : s.size ≤ 4096) (h0 : 0 < s.size) (hl : letter s[0] = true) (hall : ∀ c ∈ s.data.toList, follow c = true) (h : ¬ 16 < s.size) :
    Calls Tryd.prog 19 #[.string s] w (GotR (.yes 1 (Lib.toLowerA s.data.toList) 0) w) := by
  have HB := Lib.hid (below_alloc w (.cells #[.int .u8 0, .string ⟨#[]⟩, .int .i64 0, .int .i64 0] 29))
  have HN := Lib.hid (Four.new w 29 (.int .u8 0) (.string ⟨#[]⟩) (.int .i64 0) (.int .i64 0))
  have hW := hw.kept HB.out
  have hne : s.toList = [] → False := fun e => by rw [Lib.toList_data] at e; have := str_len s; rw [e] at this; simp at this; omega
  have hemp : s.toList.isEmpty = false := by cases h : s.toList with
    | nil => exact (hne h).elim
    | cons c r => rfl
  have hC := (show Calls Tryd.prog 30 #[.string s] (w.alloc (.cells #[.int .u8 0, .string ⟨#[]⟩, .int .i64 0, .int .i64 0] 29)) (fun e w' => e = .returned (.tuple #[.agg #[.int .u8 1, .string (strU (Lib.toLowerA s.data.toList)), .int .i64 0, .int .i64 0], .int .i64 0]) ∧ Below (w.alloc (.cells #[.int .u8 0, .string ⟨#[]⟩, .int .i64 0, .int .i64 0] 29)).heap.size (w.alloc (.cells #[.int .u8 0, .string ⟨#[]⟩, .int .i64 0, .int .i64 0] 29)) w') by have := name_any s (w.alloc (.cells #[.int .u8 0, .string ⟨#[]⟩, .int .i64 0, .int .i64 0] 29)) hs hall; rw [if_neg h] at this; exact this)
  clear hne hW hall
  go_enter Tryd.func19, Tryd.ntmps19
  go_wp2_with (first | (go_at_call 29; refine (letter_any s[0] _).mono ?_; rw [hl]; rintro e w' ⟨rfl, rfl⟩) | (go_at_call 30; refine hC.mono ?_; rintro e w1 ⟨rfl, hb1⟩; have HN1 := Lib.hid (HN.out.kept hb1); have HB1 := Lib.hid (below_step (Below.refl _ _) hb1); obtain ⟨q0, q1, q2, q3⟩ := HN1.out.cells; obtain ⟨f0, f1, f2, f3⟩ := HN1.out.free; clear hb1))
  exact bodyPost_ret (word_results Tryd.results19 (HN1.out.set _ _ _ _) rfl rfl) rfl ⟨rfl, below_set4 HB1.out (Nat.le_refl _) _ _ _ _⟩

set_option maxHeartbeats 1000000 in
theorem word_num_long (s : ByteArray) (w : World) (hw : Wo w) (hs : s.size ≤ 4096) (h0 : 0 < s.size) (hl : letter s[0] = false) (hd : digitB s[0] = true) (hall : ∀ c ∈ s.data.toList, digitB c = true) (h : numB s.data.toList = none) :
    Calls Tryd.prog 19 #[.string s] w (GotR (.no 12) w) := by
  have HB := Lib.hid (below_alloc w (.cells #[.int .u8 0, .string ⟨#[]⟩, .int .i64 0, .int .i64 0] 29))
  have HN := Lib.hid (Four.new w 29 (.int .u8 0) (.string ⟨#[]⟩) (.int .i64 0) (.int .i64 0))
  have hW := hw.kept HB.out
  have hne : s.toList = [] → False := fun e => by rw [Lib.toList_data] at e; have := str_len s; rw [e] at this; simp at this; omega
  have hemp : s.toList.isEmpty = false := by cases h : s.toList with
    | nil => exact (hne h).elim
    | cons c r => rfl
  have hC := (show Calls Tryd.prog 32 #[.string s] (w.alloc (.cells #[.int .u8 0, .string ⟨#[]⟩, .int .i64 0, .int .i64 0] 29)) (fun e w' => e = .returned (.tuple #[.agg #[.int .u8 0, .string ⟨#[]⟩, .int .i64 0, .int .i64 0], .int .i64 12]) ∧ Below (w.alloc (.cells #[.int .u8 0, .string ⟨#[]⟩, .int .i64 0, .int .i64 0] 29)).heap.size (w.alloc (.cells #[.int .u8 0, .string ⟨#[]⟩, .int .i64 0, .int .i64 0] 29)) w') by have := number_any s (w.alloc (.cells #[.int .u8 0, .string ⟨#[]⟩, .int .i64 0, .int .i64 0] 29)) hW hs h0 hall; rw [h] at this; exact this)
  clear hne hW hall
  go_enter Tryd.func19, Tryd.ntmps19
  go_wp2_with (first | (go_at_call 29; refine (letter_any s[0] _).mono ?_; rw [hl]; rintro e w' ⟨rfl, rfl⟩) | (go_at_call 31; refine (digit_any s[0] _).mono ?_; rw [hd]; rintro e w' ⟨rfl, rfl⟩) | (go_at_call 32; refine hC.mono ?_; rintro e w1 ⟨rfl, hb1⟩; have HN1 := Lib.hid (HN.out.kept hb1); have HB1 := Lib.hid (below_step (Below.refl _ _) hb1); obtain ⟨q0, q1, q2, q3⟩ := HN1.out.cells; obtain ⟨f0, f1, f2, f3⟩ := HN1.out.free; clear hb1))
  exact bodyPost_ret (word_results Tryd.results19 (HN1.out.set _ _ _ _) rfl rfl) rfl ⟨rfl, below_set4 HB1.out (Nat.le_refl _) _ _ _ _⟩

set_option maxHeartbeats 1000000 in
theorem word_num (s : ByteArray) (w : World) (hw : Wo w) (hs : s.size ≤ 4096) (h0 : 0 < s.size) (hl : letter s[0] = false) (hd : digitB s[0] = true) (n : Nat) (hall : ∀ c ∈ s.data.toList, digitB c = true) (h : numB s.data.toList = some n) :
    Calls Tryd.prog 19 #[.string s] w (GotR (.yes 2 [] n) w) := by
  have HB := Lib.hid (below_alloc w (.cells #[.int .u8 0, .string ⟨#[]⟩, .int .i64 0, .int .i64 0] 29))
  have HN := Lib.hid (Four.new w 29 (.int .u8 0) (.string ⟨#[]⟩) (.int .i64 0) (.int .i64 0))
  have hW := hw.kept HB.out
  have hne : s.toList = [] → False := fun e => by rw [Lib.toList_data] at e; have := str_len s; rw [e] at this; simp at this; omega
  have hemp : s.toList.isEmpty = false := by cases h : s.toList with
    | nil => exact (hne h).elim
    | cons c r => rfl
  have hC := (show Calls Tryd.prog 32 #[.string s] (w.alloc (.cells #[.int .u8 0, .string ⟨#[]⟩, .int .i64 0, .int .i64 0] 29)) (fun e w' => e = .returned (.tuple #[.agg #[.int .u8 2, .string (strU []), .int .i64 (n : Int), .int .i64 0], .int .i64 0]) ∧ Below (w.alloc (.cells #[.int .u8 0, .string ⟨#[]⟩, .int .i64 0, .int .i64 0] 29)).heap.size (w.alloc (.cells #[.int .u8 0, .string ⟨#[]⟩, .int .i64 0, .int .i64 0] 29)) w') by have := number_any s (w.alloc (.cells #[.int .u8 0, .string ⟨#[]⟩, .int .i64 0, .int .i64 0] 29)) hW hs h0 hall; rw [h] at this; exact this)
  clear hne hW hall
  go_enter Tryd.func19, Tryd.ntmps19
  go_wp2_with (first | (go_at_call 29; refine (letter_any s[0] _).mono ?_; rw [hl]; rintro e w' ⟨rfl, rfl⟩) | (go_at_call 31; refine (digit_any s[0] _).mono ?_; rw [hd]; rintro e w' ⟨rfl, rfl⟩) | (go_at_call 32; refine hC.mono ?_; rintro e w1 ⟨rfl, hb1⟩; have HN1 := Lib.hid (HN.out.kept hb1); have HB1 := Lib.hid (below_step (Below.refl _ _) hb1); obtain ⟨q0, q1, q2, q3⟩ := HN1.out.cells; obtain ⟨f0, f1, f2, f3⟩ := HN1.out.free; clear hb1))
  exact bodyPost_ret (word_results Tryd.results19 (HN1.out.set _ _ _ _) rfl rfl) rfl ⟨rfl, below_set4 HB1.out (Nat.le_refl _) _ _ _ _⟩

set_option maxHeartbeats 1000000 in
theorem word_text_long (s : ByteArray) (w : World) (hw : Wo w) (hs : s.size ≤ 4096) (h0 : 0 < s.size) (hl : letter s[0] = false) (hd : digitB s[0] = false) (hq : Lib.hasPrefix s.data.toList (⟨#[39]⟩ : ByteArray).data.toList = true) (hall : 2 ≤ s.size) (h : 512 < (undbl (insideB s.data.toList)).length) :
    Calls Tryd.prog 19 #[.string s] w (GotR (.no 3) w) := by
  have HB := Lib.hid (below_alloc w (.cells #[.int .u8 0, .string ⟨#[]⟩, .int .i64 0, .int .i64 0] 29))
  have HN := Lib.hid (Four.new w 29 (.int .u8 0) (.string ⟨#[]⟩) (.int .i64 0) (.int .i64 0))
  have hW := hw.kept HB.out
  have hne : s.toList = [] → False := fun e => by rw [Lib.toList_data] at e; have := str_len s; rw [e] at this; simp at this; omega
  have hemp : s.toList.isEmpty = false := by cases h : s.toList with
    | nil => exact (hne h).elim
    | cons c r => rfl
  have hC := (show Calls Tryd.prog 34 #[.string s] (w.alloc (.cells #[.int .u8 0, .string ⟨#[]⟩, .int .i64 0, .int .i64 0] 29)) (fun e w' => e = .returned (.tuple #[.agg #[.int .u8 0, .string ⟨#[]⟩, .int .i64 0, .int .i64 0], .int .i64 3]) ∧ Below (w.alloc (.cells #[.int .u8 0, .string ⟨#[]⟩, .int .i64 0, .int .i64 0] 29)).heap.size (w.alloc (.cells #[.int .u8 0, .string ⟨#[]⟩, .int .i64 0, .int .i64 0] 29)) w') by have := text_piece s (w.alloc (.cells #[.int .u8 0, .string ⟨#[]⟩, .int .i64 0, .int .i64 0] 29)) hW hs hall; rw [if_pos h] at this; exact this)
  clear hne hW hall
  go_enter Tryd.func19, Tryd.ntmps19
  go_wp2_with (first | (go_at_call 29; refine (letter_any s[0] _).mono ?_; rw [hl]; rintro e w' ⟨rfl, rfl⟩) | (go_at_call 31; refine (digit_any s[0] _).mono ?_; rw [hd]; rintro e w' ⟨rfl, rfl⟩) | (go_at_call 33; refine (prefix_any s ⟨#[39]⟩ _ _ hq).mono ?_; rintro e w' ⟨rfl, rfl⟩) | (go_at_call 34; refine hC.mono ?_; rintro e w1 ⟨rfl, hb1⟩; have HN1 := Lib.hid (HN.out.kept hb1); have HB1 := Lib.hid (below_step (Below.refl _ _) hb1); obtain ⟨q0, q1, q2, q3⟩ := HN1.out.cells; obtain ⟨f0, f1, f2, f3⟩ := HN1.out.free; clear hb1))
  exact bodyPost_ret (word_results Tryd.results19 (HN1.out.set _ _ _ _) rfl rfl) rfl ⟨rfl, below_set4 HB1.out (Nat.le_refl _) _ _ _ _⟩

set_option maxHeartbeats 1000000 in
theorem word_text (s : ByteArray) (w : World) (hw : Wo w) (hs : s.size ≤ 4096) (h0 : 0 < s.size) (hl : letter s[0] = false) (hd : digitB s[0] = false) (hq : Lib.hasPrefix s.data.toList (⟨#[39]⟩ : ByteArray).data.toList = true) (hall : 2 ≤ s.size) (h : ¬ 512 < (undbl (insideB s.data.toList)).length) :
    Calls Tryd.prog 19 #[.string s] w (GotR (.yes 3 (undbl (insideB s.data.toList)) 0) w) := by
  have HB := Lib.hid (below_alloc w (.cells #[.int .u8 0, .string ⟨#[]⟩, .int .i64 0, .int .i64 0] 29))
  have HN := Lib.hid (Four.new w 29 (.int .u8 0) (.string ⟨#[]⟩) (.int .i64 0) (.int .i64 0))
  have hW := hw.kept HB.out
  have hne : s.toList = [] → False := fun e => by rw [Lib.toList_data] at e; have := str_len s; rw [e] at this; simp at this; omega
  have hemp : s.toList.isEmpty = false := by cases h : s.toList with
    | nil => exact (hne h).elim
    | cons c r => rfl
  have hC := (show Calls Tryd.prog 34 #[.string s] (w.alloc (.cells #[.int .u8 0, .string ⟨#[]⟩, .int .i64 0, .int .i64 0] 29)) (fun e w' => e = .returned (.tuple #[.agg #[.int .u8 3, .string (strU (undbl (insideB s.data.toList))), .int .i64 0, .int .i64 0], .int .i64 0]) ∧ Below (w.alloc (.cells #[.int .u8 0, .string ⟨#[]⟩, .int .i64 0, .int .i64 0] 29)).heap.size (w.alloc (.cells #[.int .u8 0, .string ⟨#[]⟩, .int .i64 0, .int .i64 0] 29)) w') by have := text_piece s (w.alloc (.cells #[.int .u8 0, .string ⟨#[]⟩, .int .i64 0, .int .i64 0] 29)) hW hs hall; rw [if_neg h] at this; exact this)
  clear hne hW hall
  go_enter Tryd.func19, Tryd.ntmps19
  go_wp2_with (first | (go_at_call 29; refine (letter_any s[0] _).mono ?_; rw [hl]; rintro e w' ⟨rfl, rfl⟩) | (go_at_call 31; refine (digit_any s[0] _).mono ?_; rw [hd]; rintro e w' ⟨rfl, rfl⟩) | (go_at_call 33; refine (prefix_any s ⟨#[39]⟩ _ _ hq).mono ?_; rintro e w' ⟨rfl, rfl⟩) | (go_at_call 34; refine hC.mono ?_; rintro e w1 ⟨rfl, hb1⟩; have HN1 := Lib.hid (HN.out.kept hb1); have HB1 := Lib.hid (below_step (Below.refl _ _) hb1); obtain ⟨q0, q1, q2, q3⟩ := HN1.out.cells; obtain ⟨f0, f1, f2, f3⟩ := HN1.out.free; clear hb1))
  exact bodyPost_ret (word_results Tryd.results19 (HN1.out.set _ _ _ _) rfl rfl) rfl ⟨rfl, below_set4 HB1.out (Nat.le_refl _) _ _ _ _⟩

set_option maxHeartbeats 1000000 in
theorem word_sign (s : ByteArray) (w : World) (hs : s.size ≤ 4096) (h0 : 0 < s.size) (hl : letter s[0] = false) (hd : digitB s[0] = false) (hq : Lib.hasPrefix s.data.toList (⟨#[39]⟩ : ByteArray).data.toList = false) :
    Calls Tryd.prog 19 #[.string s] w (GotR (.yes 4 s.data.toList 0) w) := by
  have hne : s.toList = [] → False := fun e => by rw [Lib.toList_data] at e; have := str_len s; rw [e] at this; simp at this; omega
  have hemp : s.toList.isEmpty = false := by cases h : s.toList with
    | nil => exact (hne h).elim
    | cons c r => rfl
  clear hne
  go_enter Tryd.func19, Tryd.ntmps19
  go_wp2_with (first | (go_at_call 29; refine (letter_any s[0] _).mono ?_; rw [hl]; rintro e w' ⟨rfl, rfl⟩) | (go_at_call 31; refine (digit_any s[0] _).mono ?_; rw [hd]; rintro e w' ⟨rfl, rfl⟩) | (go_at_call 33; refine (prefix_any s ⟨#[39]⟩ _ _ hq).mono ?_; rintro e w' ⟨rfl, rfl⟩))
  refine bodyPost_ret (word_results Tryd.results19 (Four.new w _ (.int .u8 4) (.string s) (.int .i64 0) (.int .i64 0)) rfl rfl) rfl ⟨?_, below_alloc w _⟩
  show _ = Ending.returned (.tuple #[.agg #[_, .string (strU s.data.toList), _, _], _])
  rw [strU_of]; rfl

theorem word_empty (w : World) : Calls Tryd.prog 19 #[.string ⟨#[]⟩] w (GotR (.no 4) w) := by
  have HB := Lib.hid (below_alloc w (.cells #[.int .u8 0, .string ⟨#[]⟩, .int .i64 0, .int .i64 0] 29))
  have HN := Lib.hid (Four.new w 29 (.int .u8 0) (.string ⟨#[]⟩) (.int .i64 0) (.int .i64 0))
  go_enter Tryd.func19, Tryd.ntmps19
  go_wp2_with fail
  exact bodyPost_ret (word_results Tryd.results19 HN.out rfl rfl) rfl ⟨rfl, HB.out⟩

theorem word_any (s : ByteArray) (w : World) (hw : Wo w) (hs : s.size ≤ 4096) (hp : WholeP s.data.toList) :
    Calls Tryd.prog 19 #[.string s] w (GotR (wordB s.data.toList) w) := by
  rcases Nat.eq_zero_or_pos s.size with h | h0
  · rw [size_zero h]; exact word_empty w
  have hcons := str_cons s h0
  have hlen := str_len s
  have hB : wordB s.data.toList = if letter s[0] then (if 16 < s.data.toList.length then .no 4 else .yes 1 (Lib.toLowerA s.data.toList) 0)
    else if digitB s[0] then (match numB s.data.toList with | none => .no 12 | some n => .yes 2 [] n)
    else if s[0] = 39 then (if 512 < (undbl (insideB s.data.toList)).length then .no 3 else .yes 3 (undbl (insideB s.data.toList)) 0)
    else .yes 4 s.data.toList 0 := by rw [hcons]; rfl
  rw [hB, hlen]
  cases hl : letter s[0] with
  | true =>
    have hall := hp.name _ _ hcons hl
    rw [if_pos rfl]
    by_cases h : 16 < s.size
    · rw [if_pos h]; exact word_name_long s w hw hs h0 hl hall h
    · rw [if_neg h]; exact word_name s w hw hs h0 hl hall h
  | false =>
    rw [if_neg (by simp)]
    cases hd : digitB s[0] with
    | true =>
      have hall := hp.num _ _ hcons hd
      rw [if_pos rfl]
      cases h : numB s.data.toList with
      | none => exact word_num_long s w hw hs h0 hl hd hall h
      | some n => exact word_num s w hw hs h0 hl hd n hall h
    | false =>
      rw [if_neg (by simp)]
      have hq : Lib.hasPrefix s.data.toList (⟨#[39]⟩ : ByteArray).data.toList = decide (s[0] = 39) := by rw [hcons]; exact has_first _ _
      by_cases h39 : s[0] = 39
      · rw [if_pos h39]
        rw [decide_eq_true h39] at hq
        have h2 : 2 ≤ s.size := by
          rw [h39] at hcons
          have := hp.text _ hcons
          omega
        by_cases h : 512 < (undbl (insideB s.data.toList)).length
        · rw [if_pos h]; exact word_text_long s w hw hs h0 hl hd hq h2 h
        · rw [if_neg h]; exact word_text s w hw hs h0 hl hd hq h2 h
      · rw [if_neg h39]
        rw [decide_eq_false h39] at hq
        exact word_sign s w hs h0 hl hd hq
end Go.Proofs.YtfdjeaieddcgdaaDoor
