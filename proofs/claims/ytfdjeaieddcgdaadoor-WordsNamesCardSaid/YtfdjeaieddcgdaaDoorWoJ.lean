/-
  WHAT IS PROVED: contracts of words: the words of whatever text; whether a text is a name.
-/
import Derived.Test.YtfdjeaieddcgdaaDoorWoI
namespace Go.Proofs.YtfdjeaieddcgdaaDoor
open Go.RowKit Go.Shelf
set_option linter.unusedVariables false

set_option maxRecDepth 100000 in
set_option maxHeartbeats 2000000 in
theorem of_long (s : ByteArray) (w : World) (hs : 4096 < s.size) : Calls Tryd.prog 11 #[.string s] w (OfRes (.bad 0 3) w) := by
  have hd : decide ((4096 : Int) < (s.size : Int)) = true := by simp; omega
  refine (callsIn_wide (n := 6)).1 ?_
  refine callsIn_of_wp_marks Tryd.func11 rfl trivial ?_ rfl
  simp only [Tryd.ntmps11, List.size_toArray, List.length_cons, List.length_nil, Nat.reduceAdd, Nat.reduceSub, Array.replicate_succ, Array.replicate_zero, List.push_toArray, List.append_toArray, List.nil_append, List.cons_append]
  gi_wp2_with fail
  refine wpIn_wide.2 (wp_scope_straight ((wpIn_wide (n := 6)).1 ?_))
  gi_wp2_with fail
  rw [Exit.noGoto_ret]
  have hb2 : Boxed (((w.alloc (.cells #[.slice none 0 0] 23)).alloc (.cells #[.int .i64 0] 3)).alloc (.cells #[.int .i64 3] 24)) w.heap.size 23 (.slice none 0 0) := ((Boxed.new w _ _).alloc _).alloc _
  have hb3 : Boxed (((w.alloc (.cells #[.slice none 0 0] 23)).alloc (.cells #[.int .i64 0] 3)).alloc (.cells #[.int .i64 3] 24)) (w.heap.size + 1) 3 (.int .i64 0) := by
    have := Boxed.new (w.alloc (.cells #[.slice none 0 0] 23)) 3 (.int .i64 0)
    rw [World.size_alloc] at this
    exact this.alloc _
  have hb4 : Boxed (((w.alloc (.cells #[.slice none 0 0] 23)).alloc (.cells #[.int .i64 0] 3)).alloc (.cells #[.int .i64 3] 24)) (w.heap.size + 1 + 1) 24 (.int .i64 3) := by
    have := Boxed.new ((w.alloc (.cells #[.slice none 0 0] 23)).alloc (.cells #[.int .i64 0] 3)) 24 (.int .i64 3)
    rw [World.size_alloc, World.size_alloc] at this
    exact this
  refine ⟨.tuple #[.slice none 0 0, .int .i64 0, .int .i64 3], of_results Tryd.results11 rfl rfl rfl hb2 hb3 hb4, ?_⟩
  exact ⟨_, rfl, World.ownsRow_nil _ _ _ _, ((below_alloc w _).trans ((below_alloc _ _).mono (by simp))).trans ((below_alloc _ _).mono (by simp; omega))⟩

/-- the words of any text, or where there is none -/
theorem of_any (s : ByteArray) (w : World) (hw : Wo w) : Calls Tryd.prog 11 #[.string s] w (OfRes (ofB s.data.toList) w) := by
  unfold ofB
  by_cases h : 4096 < s.data.toList.length
  · rw [if_pos h]; exact of_long s w (by rw [← str_len]; exact h)
  · rw [if_neg h]; exact of_short s w hw (by rw [← str_len]; omega)

def keysB : List (List UInt8) := [[115, 101, 108, 101, 99, 116], [102, 114, 111, 109], [119, 104, 101, 114, 101], [103, 114, 111, 117, 112], [98, 121], [104, 97, 118, 105, 110, 103], [111, 114, 100, 101, 114], [108, 105, 109, 105, 116], [111, 102, 102, 115, 101, 116], [106, 111, 105, 110], [111, 110], [97, 115], [97, 110, 100], [111, 114], [110, 111, 116], [110, 117, 108, 108], [105, 115], [105, 110], [105, 110, 115, 101, 114, 116], [105, 110, 116, 111], [118, 97, 108, 117, 101, 115], [117, 112, 100, 97, 116, 101], [115, 101, 116], [100, 101, 108, 101, 116, 101], [99, 114, 101, 97, 116, 101], [116, 97, 98, 108, 101], [100, 114, 111, 112], [105, 110, 100, 101, 120], [112, 114, 105, 109, 97, 114, 121], [107, 101, 121], [117, 110, 105, 113, 117, 101], [105, 110, 116], [116, 101, 120, 116], [97, 115, 99], [100, 101, 115, 99]]
def keyB (l : List UInt8) : Bool := keysB.contains l

set_option maxHeartbeats 4000000 in
theorem key_any (s : ByteArray) (w : World) : Calls Tryd.prog 25 #[.string s] w fun e w' => e = .returned (.bool (keyB s.data.toList)) ∧ w = w' := by
  have H : Hid (keyB s.data.toList = keysB.contains s.toList) := by show _ = _; rw [Lib.toList_data]; rfl
  obtain ⟨b, hb⟩ : ∃ b, keyB s.data.toList = b := ⟨_, rfl⟩
  rw [hb] at H ⊢
  clear hb
  go_enter Tryd.func25, Tryd.ntmps25
  go_wp2
  all_goals
    go_ret
    refine ⟨ret_bool ?_, rfl⟩
    rw [H.out]
    simp only [keysB, List.contains_cons, List.contains_nil]
    simp_all

/-- may a text be a name? -/
def nameB (l : List UInt8) : Bool := match l with
  | [] => false
  | c :: r => decide ((c :: r).length ≤ 16) && (small c && (decide (runB follow (c :: r) = (c :: r).length) && ((c :: r) == Lib.toLowerA (c :: r) && !keyB (c :: r))))

set_option maxHeartbeats 1000000 in
theorem name0 (s : ByteArray) (w : World) (h : s = ⟨#[]⟩) :
    Calls Tryd.prog 15 #[.string s] w fun e w' => e = .returned (.bool false) ∧ Below w.heap.size w w' := by
  subst h
  go_enter Tryd.func15, Tryd.ntmps15
  go_wp2_with (fail)
  go_ret
  exact ⟨rfl, Below.refl _ _⟩

set_option maxHeartbeats 1000000 in
theorem name1 (s : ByteArray) (w : World) (h : 16 < s.size) :
    Calls Tryd.prog 15 #[.string s] w fun e w' => e = .returned (.bool false) ∧ Below w.heap.size w w' := by
  have hne : s.toList = [] → False := fun e => by rw [Lib.toList_data] at e; have := str_len s; rw [e] at this; simp at this; omega
  have hemp : s.toList.isEmpty = false := by cases h : s.toList with
    | nil => exact (hne h).elim
    | cons c r => rfl
  clear hne
  have hd : decide ((16 : Int) < (s.size : Int)) = true := by simp; omega
  go_enter Tryd.func15, Tryd.ntmps15
  go_wp2_with (fail)
  go_ret
  exact ⟨rfl, Below.refl _ _⟩

set_option maxHeartbeats 1000000 in
theorem name2 (s : ByteArray) (w : World) (h0 : 0 < s.size) (h : ¬ 16 < s.size) (hl : small s[0] = false) :
    Calls Tryd.prog 15 #[.string s] w fun e w' => e = .returned (.bool false) ∧ Below w.heap.size w w' := by
  have hne : s.toList = [] → False := fun e => by rw [Lib.toList_data] at e; have := str_len s; rw [e] at this; simp at this; omega
  have hemp : s.toList.isEmpty = false := by cases h : s.toList with
    | nil => exact (hne h).elim
    | cons c r => rfl
  clear hne
  have hd : decide ((16 : Int) < (s.size : Int)) = false := by simp; omega
  go_enter Tryd.func15, Tryd.ntmps15
  go_wp2_with ((go_at_call 21; refine (small_any s[0] _).mono ?_; rw [hl]; rintro e w' ⟨rfl, rfl⟩))
  go_ret
  exact ⟨rfl, Below.refl _ _⟩

set_option maxHeartbeats 1000000 in
theorem name3 (s : ByteArray) (w : World) (h0 : 0 < s.size) (h : ¬ 16 < s.size) (hl : small s[0] = true) (hf : ¬ runB follow s.data.toList = s.size) :
    Calls Tryd.prog 15 #[.string s] w fun e w' => e = .returned (.bool false) ∧ Below w.heap.size w w' := by
  have hne : s.toList = [] → False := fun e => by rw [Lib.toList_data] at e; have := str_len s; rw [e] at this; simp at this; omega
  have hemp : s.toList.isEmpty = false := by cases h : s.toList with
    | nil => exact (hne h).elim
    | cons c r => rfl
  clear hne
  have hd : decide ((16 : Int) < (s.size : Int)) = false := by simp; omega
  have hR := run_follow s w (by omega)
  obtain ⟨r, hr⟩ : ∃ r, runB follow s.data.toList = r := ⟨_, rfl⟩
  rw [hr] at hR hf
  clear hr
  have hq : ((r : Int) == (s.size : Int)) = false := by rw [beq_eq_false_iff_ne]; omega
  go_enter Tryd.func15, Tryd.ntmps15
  go_wp2_with (first | (go_at_call 21; refine (small_any s[0] _).mono ?_; rw [hl]; rintro e w' ⟨rfl, rfl⟩) | (go_at_call 22; refine hR.mono ?_; rintro e w' ⟨rfl, rfl⟩))
  go_ret
  exact ⟨rfl, Below.refl _ _⟩

theorem follow_all {s : ByteArray} (h : runB follow s.data.toList = s.size) : ∀ c ∈ s.data.toList, follow c = true := by
  have := run_all follow s.data.toList
  rw [h, ← str_len, List.take_length] at this; exact this

set_option maxHeartbeats 1000000 in
theorem name4 (s : ByteArray) (w : World) (h0 : 0 < s.size) (h : ¬ 16 < s.size) (hl : small s[0] = true) (hf : runB follow s.data.toList = s.size) (he : (s.data.toList == Lib.toLowerA s.data.toList) = false) :
    Calls Tryd.prog 15 #[.string s] w fun e w' => e = .returned (.bool false) ∧ Below w.heap.size w w' := by
  have hne : s.toList = [] → False := fun e => by rw [Lib.toList_data] at e; have := str_len s; rw [e] at this; simp at this; omega
  have hemp : s.toList.isEmpty = false := by cases h : s.toList with
    | nil => exact (hne h).elim
    | cons c r => rfl
  clear hne
  have hd : decide ((16 : Int) < (s.size : Int)) = false := by simp; omega
  have hall := follow_all hf
  have hT := Tryd.strings_ToLower_ascii s w (by omega) (fun j b hj => by
    have := hall b (List.mem_of_getElem? hj)
    revert this
    exact forall_u8 (fun c => follow c = true → c.toNat < 128) (by decide +kernel) b)
  obtain ⟨u, hu⟩ : ∃ u, (⟨(Lib.toLowerA s.data.toList).toArray⟩ : ByteArray) = u := ⟨_, rfl⟩
  rw [hu] at hT
  have he' : (s.toList == u.toList) = false := by rw [Lib.toList_data, Lib.toList_data, ← hu]; exact he
  clear hu he hall
  have hR := run_follow s w (by omega)
  obtain ⟨r, hr⟩ : ∃ r, runB follow s.data.toList = r := ⟨_, rfl⟩
  rw [hr] at hR hf
  clear hr
  have hq : ((r : Int) == (s.size : Int)) = true := by rw [hf]; simp
  go_enter Tryd.func15, Tryd.ntmps15
  go_wp2_with (first | (go_at_call 21; refine (small_any s[0] _).mono ?_; rw [hl]; rintro e w' ⟨rfl, rfl⟩) | (go_at_call 22; refine hR.mono ?_; rintro e w' ⟨rfl, rfl⟩) | (go_at_call 24; refine hT.mono ?_; rintro e w1 ⟨rfl, hb1⟩; have HB1 := Lib.hid hb1; clear hb1))
  go_ret
  exact ⟨rfl, HB1.out⟩

set_option maxHeartbeats 1000000 in
theorem name5 (s : ByteArray) (w : World) (h0 : 0 < s.size) (h : ¬ 16 < s.size) (hl : small s[0] = true) (hf : runB follow s.data.toList = s.size) (he : (s.data.toList == Lib.toLowerA s.data.toList) = true) (hk : keyB s.data.toList = true) :
    Calls Tryd.prog 15 #[.string s] w fun e w' => e = .returned (.bool false) ∧ Below w.heap.size w w' := by
  have hne : s.toList = [] → False := fun e => by rw [Lib.toList_data] at e; have := str_len s; rw [e] at this; simp at this; omega
  have hemp : s.toList.isEmpty = false := by cases h : s.toList with
    | nil => exact (hne h).elim
    | cons c r => rfl
  clear hne
  have hd : decide ((16 : Int) < (s.size : Int)) = false := by simp; omega
  have hall := follow_all hf
  have hT := Tryd.strings_ToLower_ascii s w (by omega) (fun j b hj => by
    have := hall b (List.mem_of_getElem? hj)
    revert this
    exact forall_u8 (fun c => follow c = true → c.toNat < 128) (by decide +kernel) b)
  obtain ⟨u, hu⟩ : ∃ u, (⟨(Lib.toLowerA s.data.toList).toArray⟩ : ByteArray) = u := ⟨_, rfl⟩
  rw [hu] at hT
  have he' : (s.toList == u.toList) = true := by rw [Lib.toList_data, Lib.toList_data, ← hu]; exact he
  clear hu he hall
  have hR := run_follow s w (by omega)
  obtain ⟨r, hr⟩ : ∃ r, runB follow s.data.toList = r := ⟨_, rfl⟩
  rw [hr] at hR hf
  clear hr
  have hq : ((r : Int) == (s.size : Int)) = true := by rw [hf]; simp
  go_enter Tryd.func15, Tryd.ntmps15
  go_wp2_with (first | (go_at_call 21; refine (small_any s[0] _).mono ?_; rw [hl]; rintro e w' ⟨rfl, rfl⟩) | (go_at_call 22; refine hR.mono ?_; rintro e w' ⟨rfl, rfl⟩) | (go_at_call 24; refine hT.mono ?_; rintro e w1 ⟨rfl, hb1⟩; have HB1 := Lib.hid hb1; clear hb1) | (go_at_call 25; refine (key_any s _).mono ?_; rw [hk]; rintro e w' ⟨rfl, rfl⟩))
  go_ret
  exact ⟨rfl, HB1.out⟩

set_option maxHeartbeats 1000000 in
theorem name6 (s : ByteArray) (w : World) (h0 : 0 < s.size) (h : ¬ 16 < s.size) (hl : small s[0] = true) (hf : runB follow s.data.toList = s.size) (he : (s.data.toList == Lib.toLowerA s.data.toList) = true) (hk : keyB s.data.toList = false) :
    Calls Tryd.prog 15 #[.string s] w fun e w' => e = .returned (.bool true) ∧ Below w.heap.size w w' := by
  have hne : s.toList = [] → False := fun e => by rw [Lib.toList_data] at e; have := str_len s; rw [e] at this; simp at this; omega
  have hemp : s.toList.isEmpty = false := by cases h : s.toList with
    | nil => exact (hne h).elim
    | cons c r => rfl
  clear hne
  have hd : decide ((16 : Int) < (s.size : Int)) = false := by simp; omega
  have hall := follow_all hf
  have hT := Tryd.strings_ToLower_ascii s w (by omega) (fun j b hj => by
    have := hall b (List.mem_of_getElem? hj)
    revert this
    exact forall_u8 (fun c => follow c = true → c.toNat < 128) (by decide +kernel) b)
  obtain ⟨u, hu⟩ : ∃ u, (⟨(Lib.toLowerA s.data.toList).toArray⟩ : ByteArray) = u := ⟨_, rfl⟩
  rw [hu] at hT
  have he' : (s.toList == u.toList) = true := by rw [Lib.toList_data, Lib.toList_data, ← hu]; exact he
  clear hu he hall
  have hR := run_follow s w (by omega)
  obtain ⟨r, hr⟩ : ∃ r, runB follow s.data.toList = r := ⟨_, rfl⟩
  rw [hr] at hR hf
  clear hr
  have hq : ((r : Int) == (s.size : Int)) = true := by rw [hf]; simp
  go_enter Tryd.func15, Tryd.ntmps15
  go_wp2_with (first | (go_at_call 21; refine (small_any s[0] _).mono ?_; rw [hl]; rintro e w' ⟨rfl, rfl⟩) | (go_at_call 22; refine hR.mono ?_; rintro e w' ⟨rfl, rfl⟩) | (go_at_call 24; refine hT.mono ?_; rintro e w1 ⟨rfl, hb1⟩; have HB1 := Lib.hid hb1; clear hb1) | (go_at_call 25; refine (key_any s _).mono ?_; rw [hk]; rintro e w' ⟨rfl, rfl⟩))
  go_ret
  exact ⟨rfl, HB1.out⟩

theorem name_is (s : ByteArray) (w : World) (hs : s.size ≤ 9223372036854775000) : Calls Tryd.prog 15 #[.string s] w fun e w' => e = .returned (.bool (nameB s.data.toList)) ∧ Below w.heap.size w w' := by
  rcases Nat.eq_zero_or_pos s.size with h | h0
  · rw [size_zero h]; exact name0 _ w rfl
  have hcons := str_cons s h0
  have hlen := str_len s
  have hB : nameB s.data.toList = (decide (s.data.toList.length ≤ 16) && (small s[0] && (decide (runB follow s.data.toList = s.data.toList.length) && (s.data.toList == Lib.toLowerA s.data.toList && !keyB s.data.toList)))) := by
    rw [hcons]; rfl
  rw [hB, hlen]
  by_cases h : 16 < s.size
  · rw [decide_eq_false (by omega)]; exact name1 s w h
  rw [decide_eq_true (by omega), Bool.true_and]
  cases hl : small s[0] with
  | false => exact name2 s w h0 h hl
  | true =>
    rw [Bool.true_and]
    by_cases hf : runB follow s.data.toList = s.size
    · rw [decide_eq_true hf, Bool.true_and]
      cases he : s.data.toList == Lib.toLowerA s.data.toList with
      | false => exact name4 s w h0 h hl hf he
      | true =>
        rw [Bool.true_and]
        cases hk : keyB s.data.toList with
        | false => exact name6 s w h0 h hl hf he hk
        | true => exact name5 s w h0 h hl hf he hk
    · rw [decide_eq_false hf]; exact name3 s w h0 h hl hf
end Go.Proofs.YtfdjeaieddcgdaaDoor
