/-
  WHAT IS PROVED: the walk of the statement WordsTexts.
-/
import Derived.Test.YtfdjeaieddcgdaaDoorWoO
import Derived.Test.YtfdjeaieddcgdaaDoorWoLaw
namespace Go.Proofs.YtfdjeaieddcgdaaDoor
open Go.RowKit Go.Shelf
set_option linter.unusedVariables false

theorem of_any6 (s : ByteArray) (w : World) (hw : Wo w) : Calls Tryd.prog 11 #[.string s] w fun e w' => ∃ v x y, e = .returned (.tuple #[v, .int .i64 (x : Int), .int .i64 (y : Int)]) ∧ Below w.heap.size w w' :=
  (of_any s w hw).mono fun e w' ⟨v, h1, _, h3⟩ => ⟨v, _, _, h1, h3⟩
theorem one_cells (s : ByteArray) (k : Nat) : (#[Value.int .u8 (k : Int), .string s, .int .i64 0, .int .i64 0] : Array Value).toList = cellsW [⟨k, s.data.toList, 0, 0⟩] := by
  simp [cellsW, WordM.cells4, strU_of]
theorem texts_data (S M : List UInt8) : (strU (textT S) ++ ⟨#[32]⟩ ++ strU M).data.toList = textT S ++ 32 :: M := by
  rw [show (⟨#[32]⟩ : ByteArray) = strU [32] from rfl, strU_append, strU_append, strU_data]; simp
theorem ofB_pos {s : List UInt8} {p e : Nat} (hs : s.length ≤ 4096) (h : ofB s = .bad p e) : p < s.length ∧ e ≠ 0 := by
  rw [ofB_lex, if_neg (by omega)] at h
  refine ⟨by have := lexB_lt p e (s.length + 1) 0 0 s (by omega) h; omega, lexB_err _ _ _ _ _ h⟩

set_option maxRecDepth 100000 in
set_option maxHeartbeats 8000000 in
theorem texts_1 (s more : ByteArray) (w : World) (hw : Wo w) (hs : s.size ≤ 1500) (hm : more.size ≤ 500) (h : 512 < s.size) :
    Calls Tryd.prog 6 #[.string s, .string more] w fun e w' => e = .returned (.bool true) ∧ Below w.heap.size w w' := by
  have h1 : ¬ 1500 < s.size := by omega
  have h2 : ¬ 500 < more.size := by omega
  have htl := textT_len s.data.toList
  rw [str_len] at htl
  obtain ⟨T, hT⟩ : ∃ T, strU (textT s.data.toList) = T := ⟨_, rfl⟩
  have hTs : T.size = (textT s.data.toList).length := by rw [← hT, strU_size]
  have HTS := Lib.hid hTs
  have htb : T.size ≤ 3002 := by rw [hTs]; omega
  have htb2 : 2 ≤ T.size := by rw [hTs]; omega
  have hz1 : ¬ 9223372036854775807 < T.size + 1 := by omega
  have hz2 : ¬ 9223372036854775807 < T.size + 1 + more.size := by omega
  have hD : (T ++ ⟨#[32]⟩ ++ more).data.toList = textT s.data.toList ++ 32 :: more.data.toList := by
    rw [← hT]
    have := texts_data s.data.toList more.data.toList
    rwa [strU_of] at this
  have hX : ∀ v w, RowW w v [⟨3, s.data.toList, 0, 0⟩] → Calls Tryd.prog 13 #[v, .bool false] w fun e w' => e = .returned (.string T) ∧ Below w.heap.size w w' := fun v w h => by
    rw [← hT]
    exact text_any6 v [⟨3, s.data.toList, 0, 0⟩] false w h (fun x hx => by
      rw [List.mem_singleton.1 hx]
      exact ⟨.inr (.inr (.inl rfl)), by show 0 < _; decide, by show s.data.toList.length ≤ _; rw [str_len]; omega⟩) (by show (textT s.data.toList).length ≤ _; omega)
  have hO : ofB (T.extract 0 (T.size - 1)).data.toList = .bad 0 4 := by
    rw [Lib.extract_data, ← hT, strU_data, strU_size]
    have : ((textT s.data.toList).drop 0).take ((textT s.data.toList).length - 1 - 0) = 39 :: dblB s.data.toList := by
      unfold textT
      rw [List.drop_zero]
      have hl : (39 :: (dblB s.data.toList ++ [39])).length - 1 - 0 = (39 :: dblB s.data.toList).length := by simp
      rw [hl, ← List.cons_append, List.take_append_of_le_length (Nat.le_refl _), List.take_length]
    rw [this]
    exact texts_open _ (by rw [str_len]; exact hs)
  have C1 := fun w hw => of_bad (T ++ ⟨#[32]⟩ ++ more) 0 3 (by rw [hD]; exact texts_long _ _ (by rw [str_len]; exact h) (by rw [str_len]; exact hs) (by rw [str_len]; exact hm)) w hw
  clear hD hT hTs htl
  have HB0 := Lib.hid (Below.refl w.heap.size w)
  have HW0 := Lib.hid hw
  clear hw
  go_enter Tryd.func6, Tryd.ntmps6
  go_wp2_with fail
  refine (alive_yes6 _ HW0.out).mono ?_
  rintro e w1 ⟨rfl, hb1⟩
  have HB1 := Lib.hid (HB0.out.trans (hb1.mono HB0.out.size))
  have HW1 := Lib.hid (HW0.out.kept hb1)
  clear hb1
  go_wp2_with fail
  refine (hX _ _ (RowW.of_lit (heap_alloc_new _ _) (one_cells s 3) (by simp) 1 rfl)).mono ?_
  rintro e w2 ⟨rfl, hb2⟩
  have HB2 := Lib.hid (HB1.out.trans (((below_alloc _ _).trans (hb2.mono (by simp))).mono HB1.out.size))
  have HW2 := Lib.hid ((HW1.out.kept (below_alloc _ _)).kept hb2)
  clear hb2
  go_wp2_with fail
  refine (C1 _ HW2.out).mono ?_
  rintro e w3 ⟨oa, ca, rfl, hb3⟩
  have HB3 := Lib.hid (HB2.out.trans (hb3.mono HB2.out.size))
  have HW3 := Lib.hid (HW2.out.kept hb3)
  clear hb3
  go_wp2_with fail
  refine (of_any6 _ _ HW3.out).mono ?_
  rintro e w4 ⟨vb, xb, yb, rfl, hb4⟩
  have HB4 := Lib.hid (HB3.out.trans (hb4.mono HB3.out.size))
  have HW4 := Lib.hid (HW3.out.kept hb4)
  clear hb4
  go_wp2_with fail
  go_ret
  exact ⟨rfl, HB4.out⟩

set_option maxRecDepth 100000 in
set_option maxHeartbeats 8000000 in
theorem texts_2 (s more : ByteArray) (w : World) (hw : Wo w) (hs : s.size ≤ 1500) (hm : more.size ≤ 500) (h : ¬ 512 < s.size) (k f : Nat) (hb : ofB more.data.toList = .bad k f) :
    Calls Tryd.prog 6 #[.string s, .string more] w fun e w' => e = .returned (.bool true) ∧ Below w.heap.size w w' := by
  have h1 : ¬ 1500 < s.size := by omega
  have h2 : ¬ 500 < more.size := by omega
  have htl := textT_len s.data.toList
  rw [str_len] at htl
  obtain ⟨T, hT⟩ : ∃ T, strU (textT s.data.toList) = T := ⟨_, rfl⟩
  have hTs : T.size = (textT s.data.toList).length := by rw [← hT, strU_size]
  have HTS := Lib.hid hTs
  have htb : T.size ≤ 3002 := by rw [hTs]; omega
  have htb2 : 2 ≤ T.size := by rw [hTs]; omega
  have hz1 : ¬ 9223372036854775807 < T.size + 1 := by omega
  have hz2 : ¬ 9223372036854775807 < T.size + 1 + more.size := by omega
  have hD : (T ++ ⟨#[32]⟩ ++ more).data.toList = textT s.data.toList ++ 32 :: more.data.toList := by
    rw [← hT]
    have := texts_data s.data.toList more.data.toList
    rwa [strU_of] at this
  have hX : ∀ v w, RowW w v [⟨3, s.data.toList, 0, 0⟩] → Calls Tryd.prog 13 #[v, .bool false] w fun e w' => e = .returned (.string T) ∧ Below w.heap.size w w' := fun v w h => by
    rw [← hT]
    exact text_any6 v [⟨3, s.data.toList, 0, 0⟩] false w h (fun x hx => by
      rw [List.mem_singleton.1 hx]
      exact ⟨.inr (.inr (.inl rfl)), by show 0 < _; decide, by show s.data.toList.length ≤ _; rw [str_len]; omega⟩) (by show (textT s.data.toList).length ≤ _; omega)
  have hO : ofB (T.extract 0 (T.size - 1)).data.toList = .bad 0 4 := by
    rw [Lib.extract_data, ← hT, strU_data, strU_size]
    have : ((textT s.data.toList).drop 0).take ((textT s.data.toList).length - 1 - 0) = 39 :: dblB s.data.toList := by
      unfold textT
      rw [List.drop_zero]
      have hl : (39 :: (dblB s.data.toList ++ [39])).length - 1 - 0 = (39 :: dblB s.data.toList).length := by simp
      rw [hl, ← List.cons_append, List.take_append_of_le_length (Nat.le_refl _), List.take_length]
    rw [this]
    exact texts_open _ (by rw [str_len]; exact hs)
  have hk := (ofB_pos (by rw [str_len]; omega) hb)
  rw [str_len] at hk
  have hk1 : k ≤ 500 := by omega
  have hf : ((f : Int) != 0) = true := by simp; omega
  have C1 := fun w hw => of_bad (T ++ ⟨#[32]⟩ ++ more) (k + T.size + 1) f (by rw [hD, hTs]; exact texts_bad _ _ k f (by rw [str_len]; omega) (by rw [str_len]; exact hm) hb) w hw
  have C2 := fun w hw => of_bad more k f hb w hw
  clear hb hk
  clear hD hT hTs htl
  have HB0 := Lib.hid (Below.refl w.heap.size w)
  have HW0 := Lib.hid hw
  clear hw
  go_enter Tryd.func6, Tryd.ntmps6
  go_wp2_with fail
  refine (alive_yes6 _ HW0.out).mono ?_
  rintro e w1 ⟨rfl, hb1⟩
  have HB1 := Lib.hid (HB0.out.trans (hb1.mono HB0.out.size))
  have HW1 := Lib.hid (HW0.out.kept hb1)
  clear hb1
  go_wp2_with fail
  refine (hX _ _ (RowW.of_lit (heap_alloc_new _ _) (one_cells s 3) (by simp) 1 rfl)).mono ?_
  rintro e w2 ⟨rfl, hb2⟩
  have HB2 := Lib.hid (HB1.out.trans (((below_alloc _ _).trans (hb2.mono (by simp))).mono HB1.out.size))
  have HW2 := Lib.hid ((HW1.out.kept (below_alloc _ _)).kept hb2)
  clear hb2
  go_wp2_with fail
  refine (C1 _ HW2.out).mono ?_
  rintro e w3 ⟨oa, ca, rfl, hb3⟩
  have HB3 := Lib.hid (HB2.out.trans (hb3.mono HB2.out.size))
  have HW3 := Lib.hid (HW2.out.kept hb3)
  clear hb3
  go_wp2_with fail
  refine (C2 _ HW3.out).mono ?_
  rintro e w4 ⟨ob, cb, rfl, hb4⟩
  have HB4 := Lib.hid (HB3.out.trans (hb4.mono HB3.out.size))
  have HW4 := Lib.hid (HW3.out.kept hb4)
  clear hb4
  go_wp2_with fail
  go_ret
  exact ⟨rfl, HB4.out⟩

set_option maxRecDepth 100000 in
set_option maxHeartbeats 8000000 in
theorem texts_3 (s more : ByteArray) (w : World) (hw : Wo w) (hs : s.size ≤ 1500) (hm : more.size ≤ 500) (h : ¬ 512 < s.size) (m o : List WordM) (hb : ofB more.data.toList = .ok m) (hc : ofB (textT s.data.toList ++ 32 :: more.data.toList) = .ok (⟨3, s.data.toList, 0, 0⟩ :: o)) :
    Calls Tryd.prog 6 #[.string s, .string more] w fun e w' => e = .returned (.bool true) ∧ Below w.heap.size w w' := by
  have h1 : ¬ 1500 < s.size := by omega
  have h2 : ¬ 500 < more.size := by omega
  have htl := textT_len s.data.toList
  rw [str_len] at htl
  obtain ⟨T, hT⟩ : ∃ T, strU (textT s.data.toList) = T := ⟨_, rfl⟩
  have hTs : T.size = (textT s.data.toList).length := by rw [← hT, strU_size]
  have HTS := Lib.hid hTs
  have htb : T.size ≤ 3002 := by rw [hTs]; omega
  have htb2 : 2 ≤ T.size := by rw [hTs]; omega
  have hz1 : ¬ 9223372036854775807 < T.size + 1 := by omega
  have hz2 : ¬ 9223372036854775807 < T.size + 1 + more.size := by omega
  have hD : (T ++ ⟨#[32]⟩ ++ more).data.toList = textT s.data.toList ++ 32 :: more.data.toList := by
    rw [← hT]
    have := texts_data s.data.toList more.data.toList
    rwa [strU_of] at this
  have hX : ∀ v w, RowW w v [⟨3, s.data.toList, 0, 0⟩] → Calls Tryd.prog 13 #[v, .bool false] w fun e w' => e = .returned (.string T) ∧ Below w.heap.size w w' := fun v w h => by
    rw [← hT]
    exact text_any6 v [⟨3, s.data.toList, 0, 0⟩] false w h (fun x hx => by
      rw [List.mem_singleton.1 hx]
      exact ⟨.inr (.inr (.inl rfl)), by show 0 < _; decide, by show s.data.toList.length ≤ _; rw [str_len]; omega⟩) (by show (textT s.data.toList).length ≤ _; omega)
  have hO : ofB (T.extract 0 (T.size - 1)).data.toList = .bad 0 4 := by
    rw [Lib.extract_data, ← hT, strU_data, strU_size]
    have : ((textT s.data.toList).drop 0).take ((textT s.data.toList).length - 1 - 0) = 39 :: dblB s.data.toList := by
      unfold textT
      rw [List.drop_zero]
      have hl : (39 :: (dblB s.data.toList ++ [39])).length - 1 - 0 = (39 :: dblB s.data.toList).length := by simp
      rw [hl, ← List.cons_append, List.take_append_of_le_length (Nat.le_refl _), List.take_length]
    rw [this]
    exact texts_open _ (by rw [str_len]; exact hs)
  have C1 := fun w hw => of_ok (T ++ ⟨#[32]⟩ ++ more) (⟨3, s.data.toList, 0, 0⟩ :: o) (by rw [hD]; exact hc) w hw
  have C2 := fun w hw => of_ok more m hb w hw
  have C3 := fun w hw => of_bad (T.extract 0 (T.size - 1)) 0 4 hO w hw
  clear hb hc hO
  clear hD hT hTs htl
  have HB0 := Lib.hid (Below.refl w.heap.size w)
  have HW0 := Lib.hid hw
  clear hw
  go_enter Tryd.func6, Tryd.ntmps6
  go_wp2_with fail
  refine (alive_yes6 _ HW0.out).mono ?_
  rintro e w1 ⟨rfl, hb1⟩
  have HB1 := Lib.hid (HB0.out.trans (hb1.mono HB0.out.size))
  have HW1 := Lib.hid (HW0.out.kept hb1)
  clear hb1
  go_wp2_with fail
  refine (hX _ _ (RowW.of_lit (heap_alloc_new _ _) (one_cells s 3) (by simp) 1 rfl)).mono ?_
  rintro e w2 ⟨rfl, hb2⟩
  have HB2 := Lib.hid (HB1.out.trans (((below_alloc _ _).trans (hb2.mono (by simp))).mono HB1.out.size))
  have HW2 := Lib.hid ((HW1.out.kept (below_alloc _ _)).kept hb2)
  clear hb2
  go_wp2_with fail
  refine (C1 _ HW2.out).mono ?_
  rintro e w3 ⟨va, rfl, hra, hb3⟩
  have HB3 := Lib.hid (HB2.out.trans (hb3.mono HB2.out.size))
  have HW3 := Lib.hid (HW2.out.kept hb3)
  clear hb3
  obtain ⟨oa, ca, rfl, hna, hma⟩ := hra.slice
  have Ra := Lib.hid hra
  clear hra
  go_wp2_with fail
  refine (C2 _ HW3.out).mono ?_
  rintro e w4 ⟨vb, rfl, hrb, hb4⟩
  have HB4 := Lib.hid (HB3.out.trans (hb4.mono HB3.out.size))
  have HW4 := Lib.hid (HW3.out.kept hb4)
  have Ra' := Lib.hid (Ra.out.kept hb4)
  clear hb4
  obtain ⟨ob, cb, rfl, hnb, hmb⟩ := hrb.slice
  have Rb := Lib.hid hrb
  clear hrb
  go_wp2_with fail
  refine (C3 _ HW4.out).mono ?_
  rintro e w5 ⟨oc, cc, rfl, hb5⟩
  have HB5 := Lib.hid (HB4.out.trans (hb5.mono HB4.out.size))
  have HW5 := Lib.hid (HW4.out.kept hb5)
  have Ra'' := Lib.hid (Ra'.out.kept hb5)
  have Rb' := Lib.hid (Rb.out.kept hb5)
  clear hb5
  obtain ⟨g1, q1, e1, p0, p1, p2, p3⟩ := Ra''.out.lies (k := 0) (x := ⟨3, s.data.toList, 0, 0⟩) rfl
  rw [strU_of] at p1
  cases e1
  simp only [Nat.zero_mul, Nat.zero_add] at p0 p1 p2 p3
  have hlen : 0 < (⟨3, s.data.toList, 0, 0⟩ :: o : List WordM).length := by simp
  go_wp2_with fail
  go_ret
  exact ⟨rfl, HB5.out⟩

set_option maxRecDepth 100000 in
set_option maxHeartbeats 8000000 in
theorem texts_0a (s more : ByteArray) (w : World) (hw : Wo w) (ha : s.size ≤ 140737488351232) (hb : more.size ≤ 140737488351232) (hs : 1500 < s.size) :
    Calls Tryd.prog 6 #[.string s, .string more] w fun e w' => e = .returned (.bool true) ∧ Below w.heap.size w w' := by
  have HB0 := Lib.hid (Below.refl w.heap.size w)
  have HW0 := Lib.hid hw
  clear hw
  go_enter Tryd.func6, Tryd.ntmps6
  go_wp2_with fail
  refine (alive_yes6 _ HW0.out).mono ?_
  rintro e w1 ⟨rfl, hb1⟩
  have HB1 := Lib.hid (HB0.out.trans (hb1.mono HB0.out.size))
  have HW1 := Lib.hid (HW0.out.kept hb1)
  clear hb1
  go_wp2_with fail
  refine (alive_yes6 _ HW1.out).mono ?_
  rintro e w2 ⟨rfl, hb2⟩
  have HB2 := Lib.hid (HB1.out.trans (hb2.mono HB1.out.size))
  have HW2 := Lib.hid (HW1.out.kept hb2)
  clear hb2
  go_wp2_with fail
  go_ret
  exact ⟨rfl, HB2.out⟩

set_option maxRecDepth 100000 in
set_option maxHeartbeats 8000000 in
theorem texts_0b (s more : ByteArray) (w : World) (hw : Wo w) (ha : s.size ≤ 140737488351232) (hb : more.size ≤ 140737488351232) (hs : ¬ 1500 < s.size) (hm : 500 < more.size) :
    Calls Tryd.prog 6 #[.string s, .string more] w fun e w' => e = .returned (.bool true) ∧ Below w.heap.size w w' := by
  have HB0 := Lib.hid (Below.refl w.heap.size w)
  have HW0 := Lib.hid hw
  clear hw
  go_enter Tryd.func6, Tryd.ntmps6
  go_wp2_with fail
  refine (alive_yes6 _ HW0.out).mono ?_
  rintro e w1 ⟨rfl, hb1⟩
  have HB1 := Lib.hid (HB0.out.trans (hb1.mono HB0.out.size))
  have HW1 := Lib.hid (HW0.out.kept hb1)
  clear hb1
  go_wp2_with fail
  refine (alive_yes6 _ HW1.out).mono ?_
  rintro e w2 ⟨rfl, hb2⟩
  have HB2 := Lib.hid (HB1.out.trans (hb2.mono HB1.out.size))
  have HW2 := Lib.hid (HW1.out.kept hb2)
  clear hb2
  go_wp2_with fail
  go_ret
  exact ⟨rfl, HB2.out⟩

theorem walk_WordsTexts (s : ByteArray) (ha : s.size ≤ 140737488351232) (more : ByteArray) (hb : more.size ≤ 140737488351232) {w : World} (hw : Wo w) :
    Calls Tryd.prog 6 #[.string s, .string more] w fun e w' => e = .returned (.bool true) ∧ Below w.heap.size w w' := by
  by_cases h1 : 1500 < s.size
  · exact texts_0a s more w hw ha hb h1
  by_cases h2 : 500 < more.size
  · exact texts_0b s more w hw ha hb h1 h2
  by_cases h : 512 < s.size
  · exact texts_1 s more w hw (by omega) (by omega) h
  cases hm : ofB more.data.toList with
  | bad k f => exact texts_2 s more w hw (by omega) (by omega) h k f hm
  | ok m =>
    obtain ⟨o, ho⟩ := texts_ok s.data.toList more.data.toList m (by rw [str_len]; omega) (by rw [str_len]; omega) hm
    exact texts_3 s more w hw (by omega) (by omega) h m o hm ho
end Go.Proofs.YtfdjeaieddcgdaaDoor
