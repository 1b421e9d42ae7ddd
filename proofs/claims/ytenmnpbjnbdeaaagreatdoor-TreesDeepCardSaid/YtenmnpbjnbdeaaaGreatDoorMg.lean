/-
  WHAT IS PROVED: contracts of words: the words of whatever text; whether a text is a name. slices of words: what they read as; that two that read alike are the same. contracts of the statements' own functions on words: alive, bad.
-/
import Derived.Test.YtenmnpbjnbdeaaaGreatDoorMf
namespace Go.Proofs.YtenmnpbjnbdeaaaGreatDoor
section
open Go.RowKit Go.Shelf
set_option linter.unusedVariables false

set_option maxRecDepth 100000 in
set_option maxHeartbeats 2000000 in
theorem of_long (s : ByteArray) (w : World) (hs : 4096 < s.size) : Calls Tryz.prog 18 #[.string s] w (OfRes (.bad 0 3) w) := by
  have hd : decide ((4096 : Int) < (s.size : Int)) = true := by simp; omega
  refine (callsIn_wide (n := 6)).1 ?_
  refine callsIn_of_wp_marks Tryz.func18 rfl trivial ?_ rfl
  simp only [Tryz.ntmps18, List.size_toArray, List.length_cons, List.length_nil, Nat.reduceAdd, Nat.reduceSub, Array.replicate_succ, Array.replicate_zero, List.push_toArray, List.append_toArray, List.nil_append, List.cons_append]
  gi_wp2_with fail
  refine wpIn_wide.2 (wp_scope_straight ((wpIn_wide (n := 6)).1 ?_))
  gi_wp2_with fail
  rw [Exit.noGoto_ret]
  have hb2 : Boxed (((w.alloc (.cells #[.slice none 0 0] 54)).alloc (.cells #[.int .i64 0] 3)).alloc (.cells #[.int .i64 3] 40)) w.heap.size 54 (.slice none 0 0) := ((Boxed.new w _ _).alloc _).alloc _
  have hb3 : Boxed (((w.alloc (.cells #[.slice none 0 0] 54)).alloc (.cells #[.int .i64 0] 3)).alloc (.cells #[.int .i64 3] 40)) (w.heap.size + 1) 3 (.int .i64 0) := by
    have := Boxed.new (w.alloc (.cells #[.slice none 0 0] 54)) 3 (.int .i64 0)
    rw [World.size_alloc] at this
    exact this.alloc _
  have hb4 : Boxed (((w.alloc (.cells #[.slice none 0 0] 54)).alloc (.cells #[.int .i64 0] 3)).alloc (.cells #[.int .i64 3] 40)) (w.heap.size + 1 + 1) 40 (.int .i64 3) := by
    have := Boxed.new ((w.alloc (.cells #[.slice none 0 0] 54)).alloc (.cells #[.int .i64 0] 3)) 40 (.int .i64 3)
    rw [World.size_alloc, World.size_alloc] at this
    exact this
  refine ⟨.tuple #[.slice none 0 0, .int .i64 0, .int .i64 3], of_results Tryz.results18 rfl rfl rfl hb2 hb3 hb4, ?_⟩
  exact ⟨_, rfl, World.ownsRow_nil _ _ _ _, ((below_alloc w _).trans ((below_alloc _ _).mono (by simp))).trans ((below_alloc _ _).mono (by simp; omega))⟩

/-- the words of any text, or where there is none -/
theorem of_any (s : ByteArray) (w : World) (hw : Wo w) : Calls Tryz.prog 18 #[.string s] w (OfRes (ofB s.data.toList) w) := by
  unfold ofB
  by_cases h : 4096 < s.data.toList.length
  · rw [if_pos h]; exact of_long s w (by rw [← str_len]; exact h)
  · rw [if_neg h]; exact of_short s w hw (by rw [← str_len]; omega)

def keysB : List (List UInt8) := [[115, 101, 108, 101, 99, 116], [102, 114, 111, 109], [119, 104, 101, 114, 101], [103, 114, 111, 117, 112], [98, 121], [104, 97, 118, 105, 110, 103], [111, 114, 100, 101, 114], [108, 105, 109, 105, 116], [111, 102, 102, 115, 101, 116], [106, 111, 105, 110], [111, 110], [97, 115], [97, 110, 100], [111, 114], [110, 111, 116], [110, 117, 108, 108], [105, 115], [105, 110], [105, 110, 115, 101, 114, 116], [105, 110, 116, 111], [118, 97, 108, 117, 101, 115], [117, 112, 100, 97, 116, 101], [115, 101, 116], [100, 101, 108, 101, 116, 101], [99, 114, 101, 97, 116, 101], [116, 97, 98, 108, 101], [100, 114, 111, 112], [105, 110, 100, 101, 120], [112, 114, 105, 109, 97, 114, 121], [107, 101, 121], [117, 110, 105, 113, 117, 101], [105, 110, 116], [116, 101, 120, 116], [97, 115, 99], [100, 101, 115, 99]]
def keyB (l : List UInt8) : Bool := keysB.contains l

set_option maxHeartbeats 4000000 in
theorem key_any (s : ByteArray) (w : World) : Calls Tryz.prog 45 #[.string s] w fun e w' => e = .returned (.bool (keyB s.data.toList)) ∧ w = w' := by
  have H : Hid (keyB s.data.toList = keysB.contains s.toList) := by show _ = _; rw [Lib.toList_data]; rfl
  obtain ⟨b, hb⟩ : ∃ b, keyB s.data.toList = b := ⟨_, rfl⟩
  rw [hb] at H ⊢
  clear hb
  go_enter Tryz.func45, Tryz.ntmps45
  go_wp2
  all_goals
    go_ret
    refine ⟨ret_bool ?_, rfl⟩
    rw [H.out]
    simp only [keysB, List.contains_cons, List.contains_nil]
    simp_all

/-- may a text be a name? -/
def nameB (l : List UInt8) : Bool := match l with
  | [] => false
  | c :: r => decide ((c :: r).length ≤ 16) && (small c && (decide (runB follow (c :: r) = (c :: r).length) && ((c :: r) == Lib.toLowerA (c :: r) && !keyB (c :: r))))

set_option maxHeartbeats 1000000 in
theorem name0 (s : ByteArray) (w : World) (h : s = ⟨#[]⟩) :
    Calls Tryz.prog 22 #[.string s] w fun e w' => e = .returned (.bool false) ∧ Below w.heap.size w w' := by
  subst h
  go_enter Tryz.func22, Tryz.ntmps22
  go_wp2_with (fail)
  go_ret
  exact ⟨rfl, Below.refl _ _⟩

set_option maxHeartbeats 1000000 in
theorem name1 (s : ByteArray) (w : World) (h : 16 < s.size) :
    Calls Tryz.prog 22 #[.string s] w fun e w' => e = .returned (.bool false) ∧ Below w.heap.size w w' := by
  have hne : s.toList = [] → False := fun e => by rw [Lib.toList_data] at e; have := str_len s; rw [e] at this; simp at this; omega
  have hemp : s.toList.isEmpty = false := by cases h : s.toList with
    | nil => exact (hne h).elim
    | cons c r => rfl
  clear hne
  have hd : decide ((16 : Int) < (s.size : Int)) = true := by simp; omega
  go_enter Tryz.func22, Tryz.ntmps22
  go_wp2_with (fail)
  go_ret
  exact ⟨rfl, Below.refl _ _⟩

set_option maxHeartbeats 1000000 in
theorem name2 (s : ByteArray) (w : World) (h0 : 0 < s.size) (h : ¬ 16 < s.size) (hl : small s[0] = false) :
    Calls Tryz.prog 22 #[.string s] w fun e w' => e = .returned (.bool false) ∧ Below w.heap.size w w' := by
  have hne : s.toList = [] → False := fun e => by rw [Lib.toList_data] at e; have := str_len s; rw [e] at this; simp at this; omega
  have hemp : s.toList.isEmpty = false := by cases h : s.toList with
    | nil => exact (hne h).elim
    | cons c r => rfl
  clear hne
  have hd : decide ((16 : Int) < (s.size : Int)) = false := by simp; omega
  go_enter Tryz.func22, Tryz.ntmps22
  go_wp2_with ((go_at_call 41; refine (small_any s[0] _).mono ?_; rw [hl]; rintro e w' ⟨rfl, rfl⟩))
  go_ret
  exact ⟨rfl, Below.refl _ _⟩

set_option maxHeartbeats 1000000 in
theorem name3 (s : ByteArray) (w : World) (h0 : 0 < s.size) (h : ¬ 16 < s.size) (hl : small s[0] = true) (hf : ¬ runB follow s.data.toList = s.size) :
    Calls Tryz.prog 22 #[.string s] w fun e w' => e = .returned (.bool false) ∧ Below w.heap.size w w' := by
  have hne : s.toList = [] → False := fun e => by rw [Lib.toList_data] at e; have := str_len s; rw [e] at this; simp at this; omega
  have hemp : s.toList.isEmpty = false := by cases h : s.toList with
    | nil => exact (hne h).elim
    | cons c r => rfl
  clear hne
  have hd : decide ((16 : Int) < (s.size : Int)) = false := by simp; omega
  have hR := run_follow s w (by omega)
  obtain ⟨r, hr⟩ : ∃ r, runB follow s.data.toList = r := ⟨_, rfl⟩
  rw [hr] at hR hf
  clear hr
  have hq : ((r : Int) == (s.size : Int)) = false := by rw [beq_eq_false_iff_ne]; omega
  go_enter Tryz.func22, Tryz.ntmps22
  go_wp2_with (first | (go_at_call 41; refine (small_any s[0] _).mono ?_; rw [hl]; rintro e w' ⟨rfl, rfl⟩) | (go_at_call 42; refine hR.mono ?_; rintro e w' ⟨rfl, rfl⟩))
  go_ret
  exact ⟨rfl, Below.refl _ _⟩

theorem follow_all {s : ByteArray} (h : runB follow s.data.toList = s.size) : ∀ c ∈ s.data.toList, follow c = true := by
  have := run_all follow s.data.toList
  rw [h, ← str_len, List.take_length] at this; exact this

set_option maxHeartbeats 1000000 in
theorem name4 (s : ByteArray) (w : World) (h0 : 0 < s.size) (h : ¬ 16 < s.size) (hl : small s[0] = true) (hf : runB follow s.data.toList = s.size) (he : (s.data.toList == Lib.toLowerA s.data.toList) = false) :
    Calls Tryz.prog 22 #[.string s] w fun e w' => e = .returned (.bool false) ∧ Below w.heap.size w w' := by
  have hne : s.toList = [] → False := fun e => by rw [Lib.toList_data] at e; have := str_len s; rw [e] at this; simp at this; omega
  have hemp : s.toList.isEmpty = false := by cases h : s.toList with
    | nil => exact (hne h).elim
    | cons c r => rfl
  clear hne
  have hd : decide ((16 : Int) < (s.size : Int)) = false := by simp; omega
  have hall := follow_all hf
  have hT := Tryz.strings_ToLower_ascii s w (by omega) (fun j b hj => by
    have := hall b (List.mem_of_getElem? hj)
    revert this
    exact forall_u8 (fun c => follow c = true → c.toNat < 128) (by decide +kernel) b)
  obtain ⟨u, hu⟩ : ∃ u, (⟨(Lib.toLowerA s.data.toList).toArray⟩ : ByteArray) = u := ⟨_, rfl⟩
  rw [hu] at hT
  have he' : (s.toList == u.toList) = false := by rw [Lib.toList_data, Lib.toList_data, ← hu]; exact he
  clear hu he hall
  have hR := run_follow s w (by omega)
  obtain ⟨r, hr⟩ : ∃ r, runB follow s.data.toList = r := ⟨_, rfl⟩
  rw [hr] at hR hf
  clear hr
  have hq : ((r : Int) == (s.size : Int)) = true := by rw [hf]; simp
  go_enter Tryz.func22, Tryz.ntmps22
  go_wp2_with (first | (go_at_call 41; refine (small_any s[0] _).mono ?_; rw [hl]; rintro e w' ⟨rfl, rfl⟩) | (go_at_call 42; refine hR.mono ?_; rintro e w' ⟨rfl, rfl⟩) | (go_at_call 44; refine hT.mono ?_; rintro e w1 ⟨rfl, hb1⟩; have HB1 := Lib.hid hb1; clear hb1))
  go_ret
  exact ⟨rfl, HB1.out⟩

set_option maxHeartbeats 1000000 in
theorem name5 (s : ByteArray) (w : World) (h0 : 0 < s.size) (h : ¬ 16 < s.size) (hl : small s[0] = true) (hf : runB follow s.data.toList = s.size) (he : (s.data.toList == Lib.toLowerA s.data.toList) = true) (hk : keyB s.data.toList = true) :
    Calls Tryz.prog 22 #[.string s] w fun e w' => e = .returned (.bool false) ∧ Below w.heap.size w w' := by
  have hne : s.toList = [] → False := fun e => by rw [Lib.toList_data] at e; have := str_len s; rw [e] at this; simp at this; omega
  have hemp : s.toList.isEmpty = false := by cases h : s.toList with
    | nil => exact (hne h).elim
    | cons c r => rfl
  clear hne
  have hd : decide ((16 : Int) < (s.size : Int)) = false := by simp; omega
  have hall := follow_all hf
  have hT := Tryz.strings_ToLower_ascii s w (by omega) (fun j b hj => by
    have := hall b (List.mem_of_getElem? hj)
    revert this
    exact forall_u8 (fun c => follow c = true → c.toNat < 128) (by decide +kernel) b)
  obtain ⟨u, hu⟩ : ∃ u, (⟨(Lib.toLowerA s.data.toList).toArray⟩ : ByteArray) = u := ⟨_, rfl⟩
  rw [hu] at hT
  have he' : (s.toList == u.toList) = true := by rw [Lib.toList_data, Lib.toList_data, ← hu]; exact he
  clear hu he hall
  have hR := run_follow s w (by omega)
  obtain ⟨r, hr⟩ : ∃ r, runB follow s.data.toList = r := ⟨_, rfl⟩
  rw [hr] at hR hf
  clear hr
  have hq : ((r : Int) == (s.size : Int)) = true := by rw [hf]; simp
  go_enter Tryz.func22, Tryz.ntmps22
  go_wp2_with (first | (go_at_call 41; refine (small_any s[0] _).mono ?_; rw [hl]; rintro e w' ⟨rfl, rfl⟩) | (go_at_call 42; refine hR.mono ?_; rintro e w' ⟨rfl, rfl⟩) | (go_at_call 44; refine hT.mono ?_; rintro e w1 ⟨rfl, hb1⟩; have HB1 := Lib.hid hb1; clear hb1) | (go_at_call 45; refine (key_any s _).mono ?_; rw [hk]; rintro e w' ⟨rfl, rfl⟩))
  go_ret
  exact ⟨rfl, HB1.out⟩

set_option maxHeartbeats 1000000 in
theorem name6 (s : ByteArray) (w : World) (h0 : 0 < s.size) (h : ¬ 16 < s.size) (hl : small s[0] = true) (hf : runB follow s.data.toList = s.size) (he : (s.data.toList == Lib.toLowerA s.data.toList) = true) (hk : keyB s.data.toList = false) :
    Calls Tryz.prog 22 #[.string s] w fun e w' => e = .returned (.bool true) ∧ Below w.heap.size w w' := by
  have hne : s.toList = [] → False := fun e => by rw [Lib.toList_data] at e; have := str_len s; rw [e] at this; simp at this; omega
  have hemp : s.toList.isEmpty = false := by cases h : s.toList with
    | nil => exact (hne h).elim
    | cons c r => rfl
  clear hne
  have hd : decide ((16 : Int) < (s.size : Int)) = false := by simp; omega
  have hall := follow_all hf
  have hT := Tryz.strings_ToLower_ascii s w (by omega) (fun j b hj => by
    have := hall b (List.mem_of_getElem? hj)
    revert this
    exact forall_u8 (fun c => follow c = true → c.toNat < 128) (by decide +kernel) b)
  obtain ⟨u, hu⟩ : ∃ u, (⟨(Lib.toLowerA s.data.toList).toArray⟩ : ByteArray) = u := ⟨_, rfl⟩
  rw [hu] at hT
  have he' : (s.toList == u.toList) = true := by rw [Lib.toList_data, Lib.toList_data, ← hu]; exact he
  clear hu he hall
  have hR := run_follow s w (by omega)
  obtain ⟨r, hr⟩ : ∃ r, runB follow s.data.toList = r := ⟨_, rfl⟩
  rw [hr] at hR hf
  clear hr
  have hq : ((r : Int) == (s.size : Int)) = true := by rw [hf]; simp
  go_enter Tryz.func22, Tryz.ntmps22
  go_wp2_with (first | (go_at_call 41; refine (small_any s[0] _).mono ?_; rw [hl]; rintro e w' ⟨rfl, rfl⟩) | (go_at_call 42; refine hR.mono ?_; rintro e w' ⟨rfl, rfl⟩) | (go_at_call 44; refine hT.mono ?_; rintro e w1 ⟨rfl, hb1⟩; have HB1 := Lib.hid hb1; clear hb1) | (go_at_call 45; refine (key_any s _).mono ?_; rw [hk]; rintro e w' ⟨rfl, rfl⟩))
  go_ret
  exact ⟨rfl, HB1.out⟩

theorem name_is (s : ByteArray) (w : World) (hs : s.size ≤ 9223372036854775000) : Calls Tryz.prog 22 #[.string s] w fun e w' => e = .returned (.bool (nameB s.data.toList)) ∧ Below w.heap.size w w' := by
  rcases Nat.eq_zero_or_pos s.size with h | h0
  · rw [size_zero h]; exact name0 _ w rfl
  have hcons := str_cons s h0
  have hlen := str_len s
  have hB : nameB s.data.toList = (decide (s.data.toList.length ≤ 16) && (small s[0] && (decide (runB follow s.data.toList = s.data.toList.length) && (s.data.toList == Lib.toLowerA s.data.toList && !keyB s.data.toList)))) := by
    rw [hcons]; rfl
  rw [hB, hlen]
  by_cases h : 16 < s.size
  · rw [decide_eq_false (by omega)]; exact name1 s w h
  rw [decide_eq_true (by omega), Bool.true_and]
  cases hl : small s[0] with
  | false => exact name2 s w h0 h hl
  | true =>
    rw [Bool.true_and]
    by_cases hf : runB follow s.data.toList = s.size
    · rw [decide_eq_true hf, Bool.true_and]
      cases he : s.data.toList == Lib.toLowerA s.data.toList with
      | false => exact name4 s w h0 h hl hf he
      | true =>
        rw [Bool.true_and]
        cases hk : keyB s.data.toList with
        | false => exact name6 s w h0 h hl hf he hk
        | true => exact name5 s w h0 h hl hf he hk
    · rw [decide_eq_false hf]; exact name3 s w h0 h hl hf
end
section
open Go.RowKit Go.Shelf
set_option linter.unusedVariables false

/-- THE SLICE v READS AS THE WORDS l -/
def RowW (w : World) (v : Value) (l : List WordM) : Prop :=
  (v = .slice none 0 0 ∧ l = []) ∨ ∃ g cap, v = .slice (some ⟨g, 0, none⟩) l.length cap ∧ l.length ≤ cap ∧ cap ≤ 9223372036854775807 ∧ g < w.heap.size ∧ ∀ (j : Nat) (u : Value), (cellsW l)[j]? = some u → w.cell? ⟨g, j, none⟩ = some u
theorem RowW.kept {w w' : World} {v : Value} {l : List WordM} (h : RowW w v l) (hb : Below w.heap.size w w') : RowW w' v l := by
  rcases h with h | ⟨g, cap, h1, h2, h3, h4, h5⟩
  · exact .inl h
  · exact .inr ⟨g, cap, h1, h2, h3, Nat.lt_of_lt_of_le h4 hb.size, fun j u hu => (hb.cell (p := ⟨g, j, none⟩) h4).trans (h5 j u hu)⟩
theorem RowW.of_own {w : World} {base : Nat} {v : Value} {l : List WordM} (h : w.ownsRow base 90 4 v l.length (cellsW l)) : RowW w v l := by
  have hc := fun g => @World.ownsRow.cells w base 90 4 v l.length (cellsW l) h g
  rcases h.2 with ⟨h1, h2⟩ | ⟨g, cap, cur, h1, hg, hh, hn, hm, _⟩
  · exact .inl ⟨h1, List.eq_nil_of_length_eq_zero h2⟩
  · refine .inr ⟨g, cap, h1, hn, by unfold maxLen at hm; exact hm, (Array.getElem?_eq_some_iff.1 hh).1, fun j u hu => ?_⟩
    have := hc g (by rw [h1]; rfl) j u hu
    rwa [show (⟨g, 0, none⟩ : Addr).add j = ⟨g, j, none⟩ by unfold Addr.add; split <;> simp_all] at this
theorem RowW.slice {w : World} {v : Value} {l : List WordM} (h : RowW w v l) : ∃ ao cap, v = .slice ao l.length cap ∧ l.length ≤ cap ∧ cap ≤ 9223372036854775807 := by
  rcases h with ⟨rfl, rfl⟩ | ⟨g, cap, h1, h2, h3, _⟩
  · exact ⟨_, _, rfl, Nat.le_refl _, by omega⟩
  · exact ⟨_, _, h1, h2, h3⟩
theorem cellsW_at : ∀ (l : List WordM) (k : Nat) (x : WordM) (j : Nat), l[k]? = some x → j < 4 → (cellsW l)[k * 4 + j]? = x.cells4[j]?
  | [], k, x, j, h, _ => by simp at h
  | y :: l, 0, x, j, h, hj => by
    cases h
    show (y.cells4 ++ cellsW l)[0 * 4 + j]? = _
    rw [List.getElem?_append_left (by simp [WordM.cells4]; omega)]
    congr 1; omega
  | y :: l, k + 1, x, j, h, hj => by
    show (y.cells4 ++ cellsW l)[(k + 1) * 4 + j]? = _
    rw [List.getElem?_append_right (by simp [WordM.cells4]; omega), show (k + 1) * 4 + j - y.cells4.length = k * 4 + j by simp [WordM.cells4]; omega]
    exact cellsW_at l k x j (by simpa using h) hj
/-- where the words of a slice lie -/
theorem RowW.lies {w : World} {v : Value} {l : List WordM} (h : RowW w v l) {k : Nat} {x : WordM} (hx : l[k]? = some x) : ∃ g cap, v = .slice (some ⟨g, 0, none⟩) l.length cap ∧
    w.cell? ⟨g, k * 4, none⟩ = some (.int .u8 (x.kind : Int)) ∧ w.cell? ⟨g, k * 4 + 1, none⟩ = some (.string (strU x.s)) ∧ w.cell? ⟨g, k * 4 + 2, none⟩ = some (.int .i64 (x.i : Int)) ∧ w.cell? ⟨g, k * 4 + 3, none⟩ = some (.int .i64 (x.pos : Int)) := by
  rcases h with ⟨_, rfl⟩ | ⟨g, cap, h1, h2, h3, h4, h5⟩
  · simp at hx
  · exact ⟨g, cap, h1, h5 _ _ ((cellsW_at l k x 0 hx (by omega)).trans rfl), h5 _ _ ((cellsW_at l k x 1 hx (by omega)).trans rfl), h5 _ _ ((cellsW_at l k x 2 hx (by omega)).trans rfl), h5 _ _ ((cellsW_at l k x 3 hx (by omega)).trans rfl)⟩

end
section
open Go.RowKit Go.Shelf
set_option linter.unusedVariables false

theorem of_ok (s : ByteArray) (l : List WordM) (h : ofB s.data.toList = .ok l) (w : World) (hw : Wo w) :
    Calls Tryz.prog 18 #[.string s] w fun e w' => ∃ v, e = .returned (.tuple #[v, .int .i64 0, .int .i64 0]) ∧ RowW w' v l ∧ Below w.heap.size w w' := by
  have := of_any s w hw
  rw [h] at this
  exact this.mono fun e w' ⟨v, h1, h2, h3⟩ => ⟨v, h1, RowW.of_own h2, h3⟩
theorem of_bad (s : ByteArray) (a f : Nat) (h : ofB s.data.toList = .bad a f) (w : World) (hw : Wo w) :
    Calls Tryz.prog 18 #[.string s] w fun e w' => ∃ ao cap, e = .returned (.tuple #[.slice ao 0 cap, .int .i64 (a : Int), .int .i64 (f : Int)]) ∧ Below w.heap.size w w' := by
  have := of_any s w hw
  rw [h] at this
  refine this.mono fun e w' ⟨v, h1, h2, h3⟩ => ?_
  obtain ⟨ao, cap, rfl⟩ := rowW_slice h2
  exact ⟨ao, cap, h1, h3⟩

theorem name_yes (s : ByteArray) (b : Bool) (h : nameB s.data.toList = b) (w : World) (hs : s.size ≤ 9223372036854775000) : Calls Tryz.prog 22 #[.string s] w fun e w' => e = .returned (.bool b) ∧ Below w.heap.size w w' := by
  rw [← h]; exact name_is s w hs

end
end Go.Proofs.YtenmnpbjnbdeaaaGreatDoor
