/-
  WHAT IS PROVED: the walk of ValuesJoin.
-/
import Derived.Test.YtjjfmmimmfihgaaDoorMerge
namespace Go.Proofs.YtjjfmmimmfihgaaDoor
open Go.RowKit Go.Lib
set_option linter.unusedVariables false

theorem two_txt {A B : ByteArray} (ha : A.size ≤ 512) (hb : B.size ≤ 512) : Val.two 10 ⟨2, 0, A⟩ ⟨2, 0, B⟩ = if A.size + B.size ≤ 512 then (⟨2, 0, A ++ B⟩, 0) else (⟨0, 0, ⟨#[]⟩⟩, 3) := by
  have fa : Val.fine ⟨2, 0, A⟩ = true := by simp [Val.fine, ha]
  have fb : Val.fine ⟨2, 0, B⟩ = true := by simp [Val.fine, hb]
  rw [fine_two (by rw [fa, fb]; simp)]
  unfold Val.two0
  rw [if_neg (by omega), if_neg (by simp), if_pos rfl]
  show (if (A ++ B).size ≤ 512 then (Val.txt (A ++ B), 0) else (Val.nil, 3)) = _
  rw [ByteArray.size_append]
  rfl
theorem two_txt_long {A B : ByteArray} (h : 512 < A.size ∨ 512 < B.size) : Val.two 10 ⟨2, 0, A⟩ ⟨2, 0, B⟩ = (⟨0, 0, ⟨#[]⟩⟩, 1) := by
  refine nil_two ?_
  rcases h with h | h
  · right; right; left; simp [Val.fine]; omega
  · right; right; right; simp [Val.fine]; omega
/-- what joining three texts tells -/
theorem join_cases (A B C : ByteArray) : ∃ xk xi xs e yk yi ys f, Val.two 10 ⟨2, 0, A⟩ ⟨2, 0, B⟩ = (⟨xk, xi, xs⟩, e) ∧ Val.two 10 ⟨2, 0, B⟩ ⟨2, 0, C⟩ = (⟨yk, yi, ys⟩, f) ∧
    xk < 256 ∧ (-9223372036854775808 ≤ xi ∧ xi ≤ 9223372036854775807) ∧ yk < 256 ∧ (-9223372036854775808 ≤ yi ∧ yi ≤ 9223372036854775807) ∧
    (512 < A.size ∧ e = 1 ∨ A.size ≤ 512 ∧ 512 < B.size ∧ e = 1 ∨ A.size ≤ 512 ∧ B.size ≤ 512 ∧ 512 < C.size ∧ e ≠ 1 ∧ f = 1 ∨
      A.size ≤ 512 ∧ B.size ≤ 512 ∧ C.size ≤ 512 ∧ (¬ A.size + B.size ≤ 512 ∧ e = 3 ∨ A.size + B.size ≤ 512 ∧ e = 0 ∧ f ≠ 0 ∨
        A.size + B.size ≤ 512 ∧ e = 0 ∧ f = 0 ∧ ∃ uk ui us g, Val.two 10 ⟨xk, xi, xs⟩ ⟨2, 0, C⟩ = (⟨uk, ui, us⟩, g) ∧ Val.two 10 ⟨2, 0, A⟩ ⟨yk, yi, ys⟩ = (⟨uk, ui, us⟩, g) ∧ (g = 0 ∧ us = A ++ B ++ C ∨ g ≠ 0))) := by
  by_cases ha : A.size ≤ 512
  · by_cases hb : B.size ≤ 512
    · by_cases hc : C.size ≤ 512
      · by_cases hab : A.size + B.size ≤ 512
        · by_cases hbc : B.size + C.size ≤ 512
          · have e1 := two_txt ha hb
            have e2 := two_txt hb hc
            rw [if_pos hab] at e1
            rw [if_pos hbc] at e2
            refine ⟨2, 0, A ++ B, 0, 2, 0, B ++ C, 0, e1, e2, by omega, by omega, by omega, by omega, Or.inr (Or.inr (Or.inr ⟨ha, hb, hc, Or.inr (Or.inr ⟨hab, rfl, rfl, ?_⟩)⟩))⟩
            have e3 := two_txt (A := A ++ B) (B := C) (by rw [ByteArray.size_append]; omega) hc
            have e4 := two_txt (A := A) (B := B ++ C) ha (by rw [ByteArray.size_append]; omega)
            rw [ByteArray.size_append] at e3 e4
            rw [← Nat.add_assoc, ← ByteArray.append_assoc] at e4
            by_cases h : A.size + B.size + C.size ≤ 512
            · rw [if_pos h] at e3 e4
              exact ⟨_, _, _, _, e3, e4, Or.inl ⟨rfl, rfl⟩⟩
            · rw [if_neg h] at e3 e4
              exact ⟨_, _, _, _, e3, e4, Or.inr (by omega)⟩
          · have e1 := two_txt ha hb
            have e2 := two_txt hb hc
            rw [if_pos hab] at e1
            rw [if_neg hbc] at e2
            exact ⟨_, _, _, _, _, _, _, _, e1, e2, by omega, by omega, by omega, by omega, Or.inr (Or.inr (Or.inr ⟨ha, hb, hc, Or.inr (Or.inl ⟨hab, rfl, by omega⟩)⟩))⟩
        · have e1 := two_txt ha hb
          rw [if_neg hab] at e1
          have e2 := two_txt hb hc
          by_cases hbc : B.size + C.size ≤ 512
          · rw [if_pos hbc] at e2
            exact ⟨_, _, _, _, _, _, _, _, e1, e2, by omega, by omega, by omega, by omega, Or.inr (Or.inr (Or.inr ⟨ha, hb, hc, Or.inl ⟨hab, rfl⟩⟩))⟩
          · rw [if_neg hbc] at e2
            exact ⟨_, _, _, _, _, _, _, _, e1, e2, by omega, by omega, by omega, by omega, Or.inr (Or.inr (Or.inr ⟨ha, hb, hc, Or.inl ⟨hab, rfl⟩⟩))⟩
      · have e1 := two_txt ha hb
        have e2 := two_txt_long (A := B) (B := C) (Or.inr (by omega))
        by_cases hab : A.size + B.size ≤ 512
        · rw [if_pos hab] at e1
          exact ⟨_, _, _, _, _, _, _, _, e1, e2, by omega, by omega, by omega, by omega, Or.inr (Or.inr (Or.inl ⟨ha, hb, by omega, by omega, rfl⟩))⟩
        · rw [if_neg hab] at e1
          exact ⟨_, _, _, _, _, _, _, _, e1, e2, by omega, by omega, by omega, by omega, Or.inr (Or.inr (Or.inl ⟨ha, hb, by omega, by omega, rfl⟩))⟩
    · exact ⟨_, _, _, _, _, _, _, _, two_txt_long (Or.inr (by omega)), two_txt_long (Or.inl (by omega)), by omega, by omega, by omega, by omega, Or.inr (Or.inl ⟨ha, by omega, rfl⟩)⟩
  · by_cases hb : B.size ≤ 512 ∧ C.size ≤ 512
    · have e2 := two_txt hb.1 hb.2
      by_cases hbc : B.size + C.size ≤ 512
      · rw [if_pos hbc] at e2
        exact ⟨_, _, _, _, _, _, _, _, two_txt_long (Or.inl (by omega)), e2, by omega, by omega, by omega, by omega, Or.inl ⟨by omega, rfl⟩⟩
      · rw [if_neg hbc] at e2
        exact ⟨_, _, _, _, _, _, _, _, two_txt_long (Or.inl (by omega)), e2, by omega, by omega, by omega, by omega, Or.inl ⟨by omega, rfl⟩⟩
    · exact ⟨_, _, _, _, _, _, _, _, two_txt_long (Or.inl (by omega)), two_txt_long (by omega), by omega, by omega, by omega, by omega, Or.inl ⟨by omega, rfl⟩⟩
/-- a text joined with none; a number's digits -/
theorem join_none {A : ByteArray} (ha : A.size ≤ 512) : Val.two 10 ⟨2, 0, A⟩ ⟨2, 0, ⟨#[]⟩⟩ = (⟨2, 0, A⟩, 0) ∧ Val.two 10 ⟨2, 0, ⟨#[]⟩⟩ ⟨2, 0, A⟩ = (⟨2, 0, A⟩, 0) := by
  have hz : (⟨#[]⟩ : ByteArray).size = 0 := rfl
  refine ⟨?_, ?_⟩
  · rw [two_txt ha (by omega), if_pos (by omega)]
    rw [show A ++ (⟨#[]⟩ : ByteArray) = A from ByteArray.append_empty]
  · rw [two_txt (by omega) ha, if_pos (by omega)]
    rw [show (⟨#[]⟩ : ByteArray) ++ A = A from ByteArray.empty_append]
theorem join_digits (i : Int) (i0 : -9223372036854775808 ≤ i) (i1 : i ≤ 9223372036854775807) : ∃ dg : ByteArray, Val.two 10 ⟨1, i, ⟨#[]⟩⟩ ⟨2, 0, ⟨#[]⟩⟩ = (⟨2, 0, dg⟩, 0) ∧ Val.two 10 ⟨2, 0, ⟨#[]⟩⟩ ⟨1, i, ⟨#[]⟩⟩ = (⟨2, 0, dg⟩, 0) ∧ (i ≠ -9223372036854775808 → Val.text ⟨1, i, ⟨#[]⟩⟩ = dg) := by
  have hl := itoa_length_le i i0 i1
  have hz : (⟨(itoa i).toArray⟩ : ByteArray).size ≤ 512 := by
    show (itoa i).toArray.size ≤ 512
    simp; omega
  refine ⟨⟨(itoa i).toArray⟩, ?_, ?_, ?_⟩
  · show Val.two 10 (Val.num i) (Val.txt noS) = _
    rw [fine_two (by rw [Val.fine_num, show Val.fine (Val.txt noS) = true from rfl]; simp)]
    unfold Val.two0
    rw [if_neg (by omega), if_neg (by simp [Val.num, Val.txt]), if_pos rfl]
    show (if ((⟨(itoa i).toArray⟩ : ByteArray) ++ noS).size ≤ 512 then (Val.txt ((⟨(itoa i).toArray⟩ : ByteArray) ++ noS), 0) else (Val.nil, 3)) = _
    rw [show (⟨(itoa i).toArray⟩ : ByteArray) ++ noS = ⟨(itoa i).toArray⟩ from ByteArray.append_empty, if_pos hz]
    rfl
  · show Val.two 10 (Val.txt noS) (Val.num i) = _
    rw [fine_two (by rw [Val.fine_num, show Val.fine (Val.txt noS) = true from rfl]; simp)]
    unfold Val.two0
    rw [if_neg (by omega), if_neg (by simp [Val.num, Val.txt]), if_pos rfl]
    show (if (noS ++ (⟨(itoa i).toArray⟩ : ByteArray)).size ≤ 512 then (Val.txt (noS ++ (⟨(itoa i).toArray⟩ : ByteArray)), 0) else (Val.nil, 3)) = _
    rw [show noS ++ (⟨(itoa i).toArray⟩ : ByteArray) = ⟨(itoa i).toArray⟩ from ByteArray.empty_append, if_pos hz]
    rfl
  · intro h
    unfold Val.text
    rw [if_neg (by rw [show Val.fine ⟨1, i, ⟨#[]⟩⟩ = true from rfl]; simp), if_neg (by simp), if_neg (by simp), if_neg h]
set_option maxRecDepth 100000 in
set_option maxHeartbeats 16000000 in
theorem join_long (l0 l1 l2 : ByteArray) (z0b : l0.size ≤ 140737488351232) (z1b : l1.size ≤ 140737488351232) (z2b : l2.size ≤ 140737488351232) (i : Int) (i0 : -9223372036854775808 ≤ i) (i1 : i ≤ 9223372036854775807) (hbig : decide ((2000 : Int) < (l0.size : Int) + (l1.size : Int) + (l2.size : Int)) = true) (w : World) (hw : Wd w) :
    Calls Tryd.prog 6 #[.agg #[.string l0, .string l1, .string l2], .int .i64 i] w fun e w' => e = .returned (.bool true) ∧ Below w.heap.size w w' := by
  obtain ⟨w0, hW⟩ : ∃ w0, w0 = w.alloc (.cells #[.string l0, .string l1, .string l2] 39) := ⟨_, rfl⟩
  have H0 : Hid (Fam w [(w.heap.size, .cells #[.string l0, .string l1, .string l2] 39 (0, 0))] w0) := Lib.hid (by rw [hW]; exact fam_n1 ..)
  have HW : Hid (∀ x, Below w.heap.size w x → Wd x) := Lib.hid (fun _ h => hw.kept h)
  clear hw
  go_enter Tryd.func6, Tryd.ntmps6
  go_wp2_with fail
  rw [← hW]
  clear hW
  refine stepF H0.out (fun hB => alive_yes _ (HW.out _ hB)) ?_
  intro w1 H1 _
  have s0 : w1.cell? ⟨w.heap.size, 0, none⟩ = some (.string l0) := H1.out.cell (b := w.heap.size) (cs := #[.string l0, .string l1, .string l2]) (t := 39) (fr := (0, 0)) (List.mem_cons_self ..) (0)
  have s1 : w1.cell? ⟨w.heap.size, 1, none⟩ = some (.string l1) := H1.out.cell (b := w.heap.size) (cs := #[.string l0, .string l1, .string l2]) (t := 39) (fr := (0, 0)) (List.mem_cons_self ..) (1)
  have s2 : w1.cell? ⟨w.heap.size, 2, none⟩ = some (.string l2) := H1.out.cell (b := w.heap.size) (cs := #[.string l0, .string l1, .string l2]) (t := 39) (fr := (0, 0)) (List.mem_cons_self ..) (2)
  go_wp2_with fail
  clear s0 s1 s2
  refine stepF H1.out (fun hB => alive_yes _ (HW.out _ hB)) ?_
  intro w2 H2 _
  go_wp2_with fail
  go_ret
  exact ⟨rfl, H2.out.below⟩
set_option maxRecDepth 100000 in
set_option maxHeartbeats 16000000 in
theorem join_body (l0 l1 l2 : ByteArray) (z0b : l0.size ≤ 140737488351232) (z1b : l1.size ≤ 140737488351232) (z2b : l2.size ≤ 140737488351232) (i : Int) (i0 : -9223372036854775808 ≤ i) (i1 : i ≤ 9223372036854775807) (hbig : decide ((2000 : Int) < (l0.size : Int) + (l1.size : Int) + (l2.size : Int)) = false) (hbn : ¬ 2000 < l0.size + l1.size + l2.size)
    (xk : Nat) (xi : Int) (xs : ByteArray) (e : Nat) (yk : Nat) (yi : Int) (ys : ByteArray) (f : Nat) (dg : ByteArray) (hr1 : Val.two 10 ⟨2, 0, l0⟩ ⟨2, 0, l1⟩ = (⟨xk, xi, xs⟩, e)) (hr2 : Val.two 10 ⟨2, 0, l1⟩ ⟨2, 0, l2⟩ = (⟨yk, yi, ys⟩, f))
    (xkb : xk < 256) (xi0 : -9223372036854775808 ≤ xi) (xi1 : xi ≤ 9223372036854775807) (ykb : yk < 256) (yi0 : -9223372036854775808 ≤ yi) (yi1 : yi ≤ 9223372036854775807)
    (hd1 : Val.two 10 ⟨1, i, ⟨#[]⟩⟩ ⟨2, 0, ⟨#[]⟩⟩ = (⟨2, 0, dg⟩, 0)) (hd2 : Val.two 10 ⟨2, 0, ⟨#[]⟩⟩ ⟨1, i, ⟨#[]⟩⟩ = (⟨2, 0, dg⟩, 0)) (hdt : i ≠ -9223372036854775808 → Val.text ⟨1, i, ⟨#[]⟩⟩ = dg)
    (hn1 : l0.size ≤ 512 → Val.two 10 ⟨2, 0, l0⟩ ⟨2, 0, ⟨#[]⟩⟩ = (⟨2, 0, l0⟩, 0)) (hn2 : l0.size ≤ 512 → Val.two 10 ⟨2, 0, ⟨#[]⟩⟩ ⟨2, 0, l0⟩ = (⟨2, 0, l0⟩, 0))
    (hc : 512 < l0.size ∧ e = 1 ∨ l0.size ≤ 512 ∧ 512 < l1.size ∧ e = 1 ∨ l0.size ≤ 512 ∧ l1.size ≤ 512 ∧ 512 < l2.size ∧ e ≠ 1 ∧ f = 1 ∨
      l0.size ≤ 512 ∧ l1.size ≤ 512 ∧ l2.size ≤ 512 ∧ (¬ l0.size + l1.size ≤ 512 ∧ e = 3 ∨ l0.size + l1.size ≤ 512 ∧ e = 0 ∧ f ≠ 0 ∨
        l0.size + l1.size ≤ 512 ∧ e = 0 ∧ f = 0 ∧ ∃ uk ui us g, Val.two 10 ⟨xk, xi, xs⟩ ⟨2, 0, l2⟩ = (⟨uk, ui, us⟩, g) ∧ Val.two 10 ⟨2, 0, l0⟩ ⟨yk, yi, ys⟩ = (⟨uk, ui, us⟩, g) ∧ (g = 0 ∧ us = l0 ++ l1 ++ l2 ∨ g ≠ 0))) (w : World) (hw : Wd w) :
    Calls Tryd.prog 6 #[.agg #[.string l0, .string l1, .string l2], .int .i64 i] w fun e w' => e = .returned (.bool true) ∧ Below w.heap.size w w' := by
  have Kr1 := Lib.hid hr1
  have Kr2 := Lib.hid hr2
  have Kd1 := Lib.hid hd1
  have Kd2 := Lib.hid hd2
  have Kdt := Lib.hid hdt
  have Kn1 := Lib.hid hn1
  have Kn2 := Lib.hid hn2
  have KC := Lib.hid hc
  clear hr1 hr2 hd1 hd2 hdt hn1 hn2 hc
  obtain ⟨w0, hW⟩ : ∃ w0, w0 = w.alloc (.cells #[.string l0, .string l1, .string l2] 39) := ⟨_, rfl⟩
  have H0 : Hid (Fam w [(w.heap.size, .cells #[.string l0, .string l1, .string l2] 39 (0, 0))] w0) := Lib.hid (by rw [hW]; exact fam_n1 ..)
  have HW : Hid (∀ x, Below w.heap.size w x → Wd x) := Lib.hid (fun _ h => hw.kept h)
  clear hw
  go_enter Tryd.func6, Tryd.ntmps6
  go_wp2_with fail
  rw [← hW]
  clear hW
  refine stepF H0.out (fun hB => alive_yes _ (HW.out _ hB)) ?_
  intro w1 H1 _
  have s0 : w1.cell? ⟨w.heap.size, 0, none⟩ = some (.string l0) := H1.out.cell (b := w.heap.size) (cs := #[.string l0, .string l1, .string l2]) (t := 39) (fr := (0, 0)) (List.mem_cons_self ..) (0)
  have s1 : w1.cell? ⟨w.heap.size, 1, none⟩ = some (.string l1) := H1.out.cell (b := w.heap.size) (cs := #[.string l0, .string l1, .string l2]) (t := 39) (fr := (0, 0)) (List.mem_cons_self ..) (1)
  have s2 : w1.cell? ⟨w.heap.size, 2, none⟩ = some (.string l2) := H1.out.cell (b := w.heap.size) (cs := #[.string l0, .string l1, .string l2]) (t := 39) (fr := (0, 0)) (List.mem_cons_self ..) (2)
  go_wp2_with fail
  clear s0 s1 s2
  have s0 : w1.cell? ⟨w.heap.size, 0, none⟩ = some (.string l0) := H1.out.cell (b := w.heap.size) (cs := #[.string l0, .string l1, .string l2]) (t := 39) (fr := (0, 0)) (List.mem_cons_self ..) (0)
  have s1 : w1.cell? ⟨w.heap.size, 1, none⟩ = some (.string l1) := H1.out.cell (b := w.heap.size) (cs := #[.string l0, .string l1, .string l2]) (t := 39) (fr := (0, 0)) (List.mem_cons_self ..) (1)
  have z0 : w.heap.size < w1.heap.size := lt_of_block (H1.out.get (b := w.heap.size) (o := .cells #[.string l0, .string l1, .string l2] 39 (0, 0)) (List.mem_cons_self ..))
  have HM := H1
  have HL := H1
  apply wp_merge (R := fun b x => Hid (Fam w ((b, .cells #[.int .u8 (xk : Int), .int .i64 xi, .string xs] 25 (0, 0)) :: [(w.heap.size, .cells #[.string l0, .string l1, .string l2] 39 (0, 0))]) x))
  case h =>
    go_region_held3 (fun x => x.cell? ⟨w.heap.size, 0, none⟩ = some (.string l0) ∧ x.cell? ⟨w.heap.size, 1, none⟩ = some (.string l1)) (first | with_reducible exact ⟨s0, s1⟩ | with_reducible exact ⟨keep_drew s0, keep_drew s1⟩ | with_reducible exact ⟨keep_drew (keep_alloc s0), keep_drew (keep_alloc s1)⟩ | with_reducible exact ⟨keep_alloc (keep_drew s0), keep_alloc (keep_drew s1)⟩ | with_reducible exact SS.out | with_reducible exact ⟨keep_alloc SS.out.1, keep_alloc SS.out.2⟩ | with_reducible exact ⟨(set3_other (by omega) _ _ _ _).trans SS.out.1, (set3_other (by omega) _ _ _ _).trans SS.out.2⟩) ((first | (go_at_call_of 15 (l0); (first | ((first | refine stepF HM.out (fun hB => s_any l0 _) ?_ | refine stepF HM.out.drew' (fun hB => s_any l0 _) ?_); intro u1 HM HL; have t0 : u1.cell? ⟨w.heap.size, 0, none⟩ = some (.string l0) := HL.out.cell (b := w.heap.size) (cs := #[.string l0, .string l1, .string l2]) (t := 39) (fr := (0, 0)) (List.mem_cons_self ..) (0); have t1 : u1.cell? ⟨w.heap.size, 1, none⟩ = some (.string l1) := HL.out.cell (b := w.heap.size) (cs := #[.string l0, .string l1, .string l2]) (t := 39) (fr := (0, 0)) (List.mem_cons_self ..) (1); have SS := Lib.hid (show _ from (And.intro t0 t1)); clear t0 t1; have z0 : w.heap.size < u1.heap.size := lt_of_block (HL.out.get (b := w.heap.size) (o := .cells #[.string l0, .string l1, .string l2] 39 (0, 0)) (List.mem_cons_self ..))) | ((first | refine stepZ HM.out (fun hB => s_any l0 _) ?_ | refine stepZ HM.out.zero (fun hB => s_any l0 _) ?_ | refine stepZ HM.out.zero.drew' (fun hB => s_any l0 _) ?_ | refine stepZ HM.out.drew'.zero (fun hB => s_any l0 _) ?_ | refine stepZ HM.out.drew' (fun hB => s_any l0 _) ?_); intro u1 HM HL; have t0 : u1.cell? ⟨w.heap.size, 0, none⟩ = some (.string l0) := HL.out.cell (b := w.heap.size) (cs := #[.string l0, .string l1, .string l2]) (t := 39) (fr := (0, 0)) (List.mem_cons_self ..) (0); have t1 : u1.cell? ⟨w.heap.size, 1, none⟩ = some (.string l1) := HL.out.cell (b := w.heap.size) (cs := #[.string l0, .string l1, .string l2]) (t := 39) (fr := (0, 0)) (List.mem_cons_self ..) (1); have SS := Lib.hid (show _ from (And.intro t0 t1)); clear t0 t1; have z0 : w.heap.size < u1.heap.size := lt_of_block (HL.out.get (b := w.heap.size) (o := .cells #[.string l0, .string l1, .string l2] 39 (0, 0)) (List.mem_cons_self ..)); have r0 : u1.cell? ⟨_, 0, none⟩ = some (.int .u8 0) := HM.out.cell 0; have r1 : u1.cell? ⟨_, 1, none⟩ = some (.int .i64 0) := HM.out.cell 1; have r2 : u1.cell? ⟨_, 2, none⟩ = some (.string ⟨#[]⟩) := HM.out.cell 2; have f0 : u1.frozen? ⟨_, 0, none⟩ = false := HM.out.free 0; have f1 : u1.frozen? ⟨_, 1, none⟩ = false := HM.out.free 1; have f2 : u1.frozen? ⟨_, 2, none⟩ = false := HM.out.free 2; have z9 : _ < u1.heap.size := lt_of_block HM.out.new))) | (go_at_call_of 15 (l1); (first | ((first | refine stepF HM.out (fun hB => s_any l1 _) ?_ | refine stepF HM.out.drew' (fun hB => s_any l1 _) ?_); intro u2 HM HL; have t0 : u2.cell? ⟨w.heap.size, 0, none⟩ = some (.string l0) := HL.out.cell (b := w.heap.size) (cs := #[.string l0, .string l1, .string l2]) (t := 39) (fr := (0, 0)) (List.mem_cons_self ..) (0); have t1 : u2.cell? ⟨w.heap.size, 1, none⟩ = some (.string l1) := HL.out.cell (b := w.heap.size) (cs := #[.string l0, .string l1, .string l2]) (t := 39) (fr := (0, 0)) (List.mem_cons_self ..) (1); have SS := Lib.hid (show _ from (And.intro t0 t1)); clear t0 t1; have z0 : w.heap.size < u2.heap.size := lt_of_block (HL.out.get (b := w.heap.size) (o := .cells #[.string l0, .string l1, .string l2] 39 (0, 0)) (List.mem_cons_self ..))) | ((first | refine stepZ HM.out (fun hB => s_any l1 _) ?_ | refine stepZ HM.out.zero (fun hB => s_any l1 _) ?_ | refine stepZ HM.out.zero.drew' (fun hB => s_any l1 _) ?_ | refine stepZ HM.out.drew'.zero (fun hB => s_any l1 _) ?_ | refine stepZ HM.out.drew' (fun hB => s_any l1 _) ?_); intro u2 HM HL; have t0 : u2.cell? ⟨w.heap.size, 0, none⟩ = some (.string l0) := HL.out.cell (b := w.heap.size) (cs := #[.string l0, .string l1, .string l2]) (t := 39) (fr := (0, 0)) (List.mem_cons_self ..) (0); have t1 : u2.cell? ⟨w.heap.size, 1, none⟩ = some (.string l1) := HL.out.cell (b := w.heap.size) (cs := #[.string l0, .string l1, .string l2]) (t := 39) (fr := (0, 0)) (List.mem_cons_self ..) (1); have SS := Lib.hid (show _ from (And.intro t0 t1)); clear t0 t1; have z0 : w.heap.size < u2.heap.size := lt_of_block (HL.out.get (b := w.heap.size) (o := .cells #[.string l0, .string l1, .string l2] 39 (0, 0)) (List.mem_cons_self ..)); have r0 : u2.cell? ⟨_, 0, none⟩ = some (.int .u8 0) := HM.out.cell 0; have r1 : u2.cell? ⟨_, 1, none⟩ = some (.int .i64 0) := HM.out.cell 1; have r2 : u2.cell? ⟨_, 2, none⟩ = some (.string ⟨#[]⟩) := HM.out.cell 2; have f0 : u2.frozen? ⟨_, 0, none⟩ = false := HM.out.free 0; have f1 : u2.frozen? ⟨_, 1, none⟩ = false := HM.out.free 1; have f2 : u2.frozen? ⟨_, 2, none⟩ = false := HM.out.free 2; have z9 : _ < u2.heap.size := lt_of_block HM.out.new))) | (go_at_call 8; (first | ((first | refine stepF HM.out (fun hB => two_is 10 2 0 l0 2 0 l1 xk xi xs e (by omega) (by omega) (by omega) (by omega) (by omega) (by omega) (by omega) Kr1.out _ (HW.out _ hB)) ?_ | refine stepF HM.out.drew' (fun hB => two_is 10 2 0 l0 2 0 l1 xk xi xs e (by omega) (by omega) (by omega) (by omega) (by omega) (by omega) (by omega) Kr1.out _ (HW.out _ hB)) ?_); intro u3 HM HL; have t0 : u3.cell? ⟨w.heap.size, 0, none⟩ = some (.string l0) := HL.out.cell (b := w.heap.size) (cs := #[.string l0, .string l1, .string l2]) (t := 39) (fr := (0, 0)) (List.mem_cons_self ..) (0); have t1 : u3.cell? ⟨w.heap.size, 1, none⟩ = some (.string l1) := HL.out.cell (b := w.heap.size) (cs := #[.string l0, .string l1, .string l2]) (t := 39) (fr := (0, 0)) (List.mem_cons_self ..) (1); have SS := Lib.hid (show _ from (And.intro t0 t1)); clear t0 t1; have z0 : w.heap.size < u3.heap.size := lt_of_block (HL.out.get (b := w.heap.size) (o := .cells #[.string l0, .string l1, .string l2] 39 (0, 0)) (List.mem_cons_self ..))) | ((first | refine stepZ HM.out (fun hB => two_is 10 2 0 l0 2 0 l1 xk xi xs e (by omega) (by omega) (by omega) (by omega) (by omega) (by omega) (by omega) Kr1.out _ (HW.out _ hB)) ?_ | refine stepZ HM.out.zero (fun hB => two_is 10 2 0 l0 2 0 l1 xk xi xs e (by omega) (by omega) (by omega) (by omega) (by omega) (by omega) (by omega) Kr1.out _ (HW.out _ hB)) ?_ | refine stepZ HM.out.zero.drew' (fun hB => two_is 10 2 0 l0 2 0 l1 xk xi xs e (by omega) (by omega) (by omega) (by omega) (by omega) (by omega) (by omega) Kr1.out _ (HW.out _ hB)) ?_ | refine stepZ HM.out.drew'.zero (fun hB => two_is 10 2 0 l0 2 0 l1 xk xi xs e (by omega) (by omega) (by omega) (by omega) (by omega) (by omega) (by omega) Kr1.out _ (HW.out _ hB)) ?_ | refine stepZ HM.out.drew' (fun hB => two_is 10 2 0 l0 2 0 l1 xk xi xs e (by omega) (by omega) (by omega) (by omega) (by omega) (by omega) (by omega) Kr1.out _ (HW.out _ hB)) ?_); intro u3 HM HL; have t0 : u3.cell? ⟨w.heap.size, 0, none⟩ = some (.string l0) := HL.out.cell (b := w.heap.size) (cs := #[.string l0, .string l1, .string l2]) (t := 39) (fr := (0, 0)) (List.mem_cons_self ..) (0); have t1 : u3.cell? ⟨w.heap.size, 1, none⟩ = some (.string l1) := HL.out.cell (b := w.heap.size) (cs := #[.string l0, .string l1, .string l2]) (t := 39) (fr := (0, 0)) (List.mem_cons_self ..) (1); have SS := Lib.hid (show _ from (And.intro t0 t1)); clear t0 t1; have z0 : w.heap.size < u3.heap.size := lt_of_block (HL.out.get (b := w.heap.size) (o := .cells #[.string l0, .string l1, .string l2] 39 (0, 0)) (List.mem_cons_self ..)); have r0 : u3.cell? ⟨_, 0, none⟩ = some (.int .u8 0) := HM.out.cell 0; have r1 : u3.cell? ⟨_, 1, none⟩ = some (.int .i64 0) := HM.out.cell 1; have r2 : u3.cell? ⟨_, 2, none⟩ = some (.string ⟨#[]⟩) := HM.out.cell 2; have f0 : u3.frozen? ⟨_, 0, none⟩ = false := HM.out.free 0; have f1 : u3.frozen? ⟨_, 1, none⟩ = false := HM.out.free 1; have f2 : u3.frozen? ⟨_, 2, none⟩ = false := HM.out.free 2; have z9 : _ < u3.heap.size := lt_of_block HM.out.new)))))
    all_goals (first | (obtain ⟨bx, hx, HO⟩ := endF (.cells #[.int .u8 (xk : Int), .int .i64 xi, .string xs] 25 (0, 0)) HM.out; refine ⟨rfl, ?_⟩; (try rw [← hx] at HO); rw [← hx]; exact ⟨bx, rfl, HO⟩) | (obtain ⟨bx, hx, HO⟩ := endZ (.int .u8 (xk : Int)) (.int .i64 xi) (.string xs) HM.out; refine ⟨rfl, ?_⟩; (try rw [← hx] at HO); rw [← hx]; exact ⟨bx, rfl, HO⟩))
  intro bx w2 H2
  clear HM HL s0 s1 z0
  clear H1
  go_wp2_with fail
  have s0 : w2.cell? ⟨w.heap.size, 1, none⟩ = some (.string l1) := H2.out.cell (b := w.heap.size) (cs := #[.string l0, .string l1, .string l2]) (t := 39) (fr := (0, 0)) (List.mem_cons_of_mem _ (List.mem_cons_self ..)) (1)
  have s1 : w2.cell? ⟨w.heap.size, 2, none⟩ = some (.string l2) := H2.out.cell (b := w.heap.size) (cs := #[.string l0, .string l1, .string l2]) (t := 39) (fr := (0, 0)) (List.mem_cons_of_mem _ (List.mem_cons_self ..)) (2)
  have z0 : bx < w2.heap.size := lt_of_block (H2.out.get (b := bx) (o := .cells #[.int .u8 (xk : Int), .int .i64 xi, .string xs] 25 (0, 0)) (List.mem_cons_self ..))
  have z1 : w.heap.size < w2.heap.size := lt_of_block (H2.out.get (b := w.heap.size) (o := .cells #[.string l0, .string l1, .string l2] 39 (0, 0)) (List.mem_cons_of_mem _ (List.mem_cons_self ..)))
  have HM := H2
  have HL := H2
  apply wp_merge (R := fun b x => Hid (Fam w ((b, .cells #[.int .u8 (yk : Int), .int .i64 yi, .string ys] 25 (0, 0)) :: [(bx, .cells #[.int .u8 (xk : Int), .int .i64 xi, .string xs] 25 (0, 0)), (w.heap.size, .cells #[.string l0, .string l1, .string l2] 39 (0, 0))]) x))
  case h =>
    go_region_held3 (fun x => x.cell? ⟨w.heap.size, 1, none⟩ = some (.string l1) ∧ x.cell? ⟨w.heap.size, 2, none⟩ = some (.string l2)) (first | with_reducible exact ⟨s0, s1⟩ | with_reducible exact ⟨keep_drew s0, keep_drew s1⟩ | with_reducible exact ⟨keep_drew (keep_alloc s0), keep_drew (keep_alloc s1)⟩ | with_reducible exact ⟨keep_alloc (keep_drew s0), keep_alloc (keep_drew s1)⟩ | with_reducible exact SS.out | with_reducible exact ⟨keep_alloc SS.out.1, keep_alloc SS.out.2⟩ | with_reducible exact ⟨(set3_other (by omega) _ _ _ _).trans SS.out.1, (set3_other (by omega) _ _ _ _).trans SS.out.2⟩) ((first | (go_at_call_of 15 (l1); (first | ((first | refine stepF HM.out (fun hB => s_any l1 _) ?_ | refine stepF HM.out.drew' (fun hB => s_any l1 _) ?_); intro u1 HM HL; have t0 : u1.cell? ⟨w.heap.size, 1, none⟩ = some (.string l1) := HL.out.cell (b := w.heap.size) (cs := #[.string l0, .string l1, .string l2]) (t := 39) (fr := (0, 0)) (List.mem_cons_of_mem _ (List.mem_cons_self ..)) (1); have t1 : u1.cell? ⟨w.heap.size, 2, none⟩ = some (.string l2) := HL.out.cell (b := w.heap.size) (cs := #[.string l0, .string l1, .string l2]) (t := 39) (fr := (0, 0)) (List.mem_cons_of_mem _ (List.mem_cons_self ..)) (2); have SS := Lib.hid (show _ from (And.intro t0 t1)); clear t0 t1; have z0 : bx < u1.heap.size := lt_of_block (HL.out.get (b := bx) (o := .cells #[.int .u8 (xk : Int), .int .i64 xi, .string xs] 25 (0, 0)) (List.mem_cons_self ..)); have z1 : w.heap.size < u1.heap.size := lt_of_block (HL.out.get (b := w.heap.size) (o := .cells #[.string l0, .string l1, .string l2] 39 (0, 0)) (List.mem_cons_of_mem _ (List.mem_cons_self ..)))) | ((first | refine stepZ HM.out (fun hB => s_any l1 _) ?_ | refine stepZ HM.out.zero (fun hB => s_any l1 _) ?_ | refine stepZ HM.out.zero.drew' (fun hB => s_any l1 _) ?_ | refine stepZ HM.out.drew'.zero (fun hB => s_any l1 _) ?_ | refine stepZ HM.out.drew' (fun hB => s_any l1 _) ?_); intro u1 HM HL; have t0 : u1.cell? ⟨w.heap.size, 1, none⟩ = some (.string l1) := HL.out.cell (b := w.heap.size) (cs := #[.string l0, .string l1, .string l2]) (t := 39) (fr := (0, 0)) (List.mem_cons_of_mem _ (List.mem_cons_self ..)) (1); have t1 : u1.cell? ⟨w.heap.size, 2, none⟩ = some (.string l2) := HL.out.cell (b := w.heap.size) (cs := #[.string l0, .string l1, .string l2]) (t := 39) (fr := (0, 0)) (List.mem_cons_of_mem _ (List.mem_cons_self ..)) (2); have SS := Lib.hid (show _ from (And.intro t0 t1)); clear t0 t1; have z0 : bx < u1.heap.size := lt_of_block (HL.out.get (b := bx) (o := .cells #[.int .u8 (xk : Int), .int .i64 xi, .string xs] 25 (0, 0)) (List.mem_cons_self ..)); have z1 : w.heap.size < u1.heap.size := lt_of_block (HL.out.get (b := w.heap.size) (o := .cells #[.string l0, .string l1, .string l2] 39 (0, 0)) (List.mem_cons_of_mem _ (List.mem_cons_self ..))); have r0 : u1.cell? ⟨_, 0, none⟩ = some (.int .u8 0) := HM.out.cell 0; have r1 : u1.cell? ⟨_, 1, none⟩ = some (.int .i64 0) := HM.out.cell 1; have r2 : u1.cell? ⟨_, 2, none⟩ = some (.string ⟨#[]⟩) := HM.out.cell 2; have f0 : u1.frozen? ⟨_, 0, none⟩ = false := HM.out.free 0; have f1 : u1.frozen? ⟨_, 1, none⟩ = false := HM.out.free 1; have f2 : u1.frozen? ⟨_, 2, none⟩ = false := HM.out.free 2; have z9 : _ < u1.heap.size := lt_of_block HM.out.new))) | (go_at_call_of 15 (l2); (first | ((first | refine stepF HM.out (fun hB => s_any l2 _) ?_ | refine stepF HM.out.drew' (fun hB => s_any l2 _) ?_); intro u2 HM HL; have t0 : u2.cell? ⟨w.heap.size, 1, none⟩ = some (.string l1) := HL.out.cell (b := w.heap.size) (cs := #[.string l0, .string l1, .string l2]) (t := 39) (fr := (0, 0)) (List.mem_cons_of_mem _ (List.mem_cons_self ..)) (1); have t1 : u2.cell? ⟨w.heap.size, 2, none⟩ = some (.string l2) := HL.out.cell (b := w.heap.size) (cs := #[.string l0, .string l1, .string l2]) (t := 39) (fr := (0, 0)) (List.mem_cons_of_mem _ (List.mem_cons_self ..)) (2); have SS := Lib.hid (show _ from (And.intro t0 t1)); clear t0 t1; have z0 : bx < u2.heap.size := lt_of_block (HL.out.get (b := bx) (o := .cells #[.int .u8 (xk : Int), .int .i64 xi, .string xs] 25 (0, 0)) (List.mem_cons_self ..)); have z1 : w.heap.size < u2.heap.size := lt_of_block (HL.out.get (b := w.heap.size) (o := .cells #[.string l0, .string l1, .string l2] 39 (0, 0)) (List.mem_cons_of_mem _ (List.mem_cons_self ..)))) | ((first | refine stepZ HM.out (fun hB => s_any l2 _) ?_ | refine stepZ HM.out.zero (fun hB => s_any l2 _) ?_ | refine stepZ HM.out.zero.drew' (fun hB => s_any l2 _) ?_ | refine stepZ HM.out.drew'.zero (fun hB => s_any l2 _) ?_ | refine stepZ HM.out.drew' (fun hB => s_any l2 _) ?_); intro u2 HM HL; have t0 : u2.cell? ⟨w.heap.size, 1, none⟩ = some (.string l1) := HL.out.cell (b := w.heap.size) (cs := #[.string l0, .string l1, .string l2]) (t := 39) (fr := (0, 0)) (List.mem_cons_of_mem _ (List.mem_cons_self ..)) (1); have t1 : u2.cell? ⟨w.heap.size, 2, none⟩ = some (.string l2) := HL.out.cell (b := w.heap.size) (cs := #[.string l0, .string l1, .string l2]) (t := 39) (fr := (0, 0)) (List.mem_cons_of_mem _ (List.mem_cons_self ..)) (2); have SS := Lib.hid (show _ from (And.intro t0 t1)); clear t0 t1; have z0 : bx < u2.heap.size := lt_of_block (HL.out.get (b := bx) (o := .cells #[.int .u8 (xk : Int), .int .i64 xi, .string xs] 25 (0, 0)) (List.mem_cons_self ..)); have z1 : w.heap.size < u2.heap.size := lt_of_block (HL.out.get (b := w.heap.size) (o := .cells #[.string l0, .string l1, .string l2] 39 (0, 0)) (List.mem_cons_of_mem _ (List.mem_cons_self ..))); have r0 : u2.cell? ⟨_, 0, none⟩ = some (.int .u8 0) := HM.out.cell 0; have r1 : u2.cell? ⟨_, 1, none⟩ = some (.int .i64 0) := HM.out.cell 1; have r2 : u2.cell? ⟨_, 2, none⟩ = some (.string ⟨#[]⟩) := HM.out.cell 2; have f0 : u2.frozen? ⟨_, 0, none⟩ = false := HM.out.free 0; have f1 : u2.frozen? ⟨_, 1, none⟩ = false := HM.out.free 1; have f2 : u2.frozen? ⟨_, 2, none⟩ = false := HM.out.free 2; have z9 : _ < u2.heap.size := lt_of_block HM.out.new))) | (go_at_call 8; (first | ((first | refine stepF HM.out (fun hB => two_is 10 2 0 l1 2 0 l2 yk yi ys f (by omega) (by omega) (by omega) (by omega) (by omega) (by omega) (by omega) Kr2.out _ (HW.out _ hB)) ?_ | refine stepF HM.out.drew' (fun hB => two_is 10 2 0 l1 2 0 l2 yk yi ys f (by omega) (by omega) (by omega) (by omega) (by omega) (by omega) (by omega) Kr2.out _ (HW.out _ hB)) ?_); intro u3 HM HL; have t0 : u3.cell? ⟨w.heap.size, 1, none⟩ = some (.string l1) := HL.out.cell (b := w.heap.size) (cs := #[.string l0, .string l1, .string l2]) (t := 39) (fr := (0, 0)) (List.mem_cons_of_mem _ (List.mem_cons_self ..)) (1); have t1 : u3.cell? ⟨w.heap.size, 2, none⟩ = some (.string l2) := HL.out.cell (b := w.heap.size) (cs := #[.string l0, .string l1, .string l2]) (t := 39) (fr := (0, 0)) (List.mem_cons_of_mem _ (List.mem_cons_self ..)) (2); have SS := Lib.hid (show _ from (And.intro t0 t1)); clear t0 t1; have z0 : bx < u3.heap.size := lt_of_block (HL.out.get (b := bx) (o := .cells #[.int .u8 (xk : Int), .int .i64 xi, .string xs] 25 (0, 0)) (List.mem_cons_self ..)); have z1 : w.heap.size < u3.heap.size := lt_of_block (HL.out.get (b := w.heap.size) (o := .cells #[.string l0, .string l1, .string l2] 39 (0, 0)) (List.mem_cons_of_mem _ (List.mem_cons_self ..)))) | ((first | refine stepZ HM.out (fun hB => two_is 10 2 0 l1 2 0 l2 yk yi ys f (by omega) (by omega) (by omega) (by omega) (by omega) (by omega) (by omega) Kr2.out _ (HW.out _ hB)) ?_ | refine stepZ HM.out.zero (fun hB => two_is 10 2 0 l1 2 0 l2 yk yi ys f (by omega) (by omega) (by omega) (by omega) (by omega) (by omega) (by omega) Kr2.out _ (HW.out _ hB)) ?_ | refine stepZ HM.out.zero.drew' (fun hB => two_is 10 2 0 l1 2 0 l2 yk yi ys f (by omega) (by omega) (by omega) (by omega) (by omega) (by omega) (by omega) Kr2.out _ (HW.out _ hB)) ?_ | refine stepZ HM.out.drew'.zero (fun hB => two_is 10 2 0 l1 2 0 l2 yk yi ys f (by omega) (by omega) (by omega) (by omega) (by omega) (by omega) (by omega) Kr2.out _ (HW.out _ hB)) ?_ | refine stepZ HM.out.drew' (fun hB => two_is 10 2 0 l1 2 0 l2 yk yi ys f (by omega) (by omega) (by omega) (by omega) (by omega) (by omega) (by omega) Kr2.out _ (HW.out _ hB)) ?_); intro u3 HM HL; have t0 : u3.cell? ⟨w.heap.size, 1, none⟩ = some (.string l1) := HL.out.cell (b := w.heap.size) (cs := #[.string l0, .string l1, .string l2]) (t := 39) (fr := (0, 0)) (List.mem_cons_of_mem _ (List.mem_cons_self ..)) (1); have t1 : u3.cell? ⟨w.heap.size, 2, none⟩ = some (.string l2) := HL.out.cell (b := w.heap.size) (cs := #[.string l0, .string l1, .string l2]) (t := 39) (fr := (0, 0)) (List.mem_cons_of_mem _ (List.mem_cons_self ..)) (2); have SS := Lib.hid (show _ from (And.intro t0 t1)); clear t0 t1; have z0 : bx < u3.heap.size := lt_of_block (HL.out.get (b := bx) (o := .cells #[.int .u8 (xk : Int), .int .i64 xi, .string xs] 25 (0, 0)) (List.mem_cons_self ..)); have z1 : w.heap.size < u3.heap.size := lt_of_block (HL.out.get (b := w.heap.size) (o := .cells #[.string l0, .string l1, .string l2] 39 (0, 0)) (List.mem_cons_of_mem _ (List.mem_cons_self ..))); have r0 : u3.cell? ⟨_, 0, none⟩ = some (.int .u8 0) := HM.out.cell 0; have r1 : u3.cell? ⟨_, 1, none⟩ = some (.int .i64 0) := HM.out.cell 1; have r2 : u3.cell? ⟨_, 2, none⟩ = some (.string ⟨#[]⟩) := HM.out.cell 2; have f0 : u3.frozen? ⟨_, 0, none⟩ = false := HM.out.free 0; have f1 : u3.frozen? ⟨_, 1, none⟩ = false := HM.out.free 1; have f2 : u3.frozen? ⟨_, 2, none⟩ = false := HM.out.free 2; have z9 : _ < u3.heap.size := lt_of_block HM.out.new)))))
    all_goals (first | (obtain ⟨bx, hx, HO⟩ := endF (.cells #[.int .u8 (yk : Int), .int .i64 yi, .string ys] 25 (0, 0)) HM.out; refine ⟨rfl, ?_⟩; (try rw [← hx] at HO); rw [← hx]; exact ⟨bx, rfl, HO⟩) | (obtain ⟨bx, hx, HO⟩ := endZ (.int .u8 (yk : Int)) (.int .i64 yi) (.string ys) HM.out; refine ⟨rfl, ?_⟩; (try rw [← hx] at HO); rw [← hx]; exact ⟨bx, rfl, HO⟩))
  intro by_ w3 H3
  clear HM HL s0 s1 z0 z1
  clear H2
  rcases KC.out with ⟨c0, c1⟩ | ⟨c0, c1, c2⟩ | ⟨c0, c1, c2, c3, c4⟩ | ⟨c0, c1, c2, hcc⟩
  · clear KC
    have G0 : decide (512 < (l0.size : Int)) = true := by rw [decide_eq_true_iff]; omega
    have E1 : (((e : Nat) : Int) == 1) = true := by rw [beq_iff_eq]; omega
    clear c0 c1
    have s0 : w3.cell? ⟨by_, 0, none⟩ = some (.int .u8 (yk : Int)) := H3.out.cell (b := by_) (cs := #[.int .u8 (yk : Int), .int .i64 yi, .string ys]) (t := 25) (fr := (0, 0)) (List.mem_cons_self ..) (0)
    have s1 : w3.cell? ⟨by_, 1, none⟩ = some (.int .i64 yi) := H3.out.cell (b := by_) (cs := #[.int .u8 (yk : Int), .int .i64 yi, .string ys]) (t := 25) (fr := (0, 0)) (List.mem_cons_self ..) (1)
    have s2 : w3.cell? ⟨by_, 2, none⟩ = some (.string ys) := H3.out.cell (b := by_) (cs := #[.int .u8 (yk : Int), .int .i64 yi, .string ys]) (t := 25) (fr := (0, 0)) (List.mem_cons_self ..) (2)
    have s3 : w3.cell? ⟨bx, 0, none⟩ = some (.int .u8 (xk : Int)) := H3.out.cell (b := bx) (cs := #[.int .u8 (xk : Int), .int .i64 xi, .string xs]) (t := 25) (fr := (0, 0)) (List.mem_cons_of_mem _ (List.mem_cons_self ..)) (0)
    have s4 : w3.cell? ⟨bx, 1, none⟩ = some (.int .i64 xi) := H3.out.cell (b := bx) (cs := #[.int .u8 (xk : Int), .int .i64 xi, .string xs]) (t := 25) (fr := (0, 0)) (List.mem_cons_of_mem _ (List.mem_cons_self ..)) (1)
    have s5 : w3.cell? ⟨bx, 2, none⟩ = some (.string xs) := H3.out.cell (b := bx) (cs := #[.int .u8 (xk : Int), .int .i64 xi, .string xs]) (t := 25) (fr := (0, 0)) (List.mem_cons_of_mem _ (List.mem_cons_self ..)) (2)
    have s6 : w3.cell? ⟨w.heap.size, 0, none⟩ = some (.string l0) := H3.out.cell (b := w.heap.size) (cs := #[.string l0, .string l1, .string l2]) (t := 39) (fr := (0, 0)) (List.mem_cons_of_mem _ (List.mem_cons_of_mem _ (List.mem_cons_self ..))) (0)
    have s7 : w3.cell? ⟨w.heap.size, 1, none⟩ = some (.string l1) := H3.out.cell (b := w.heap.size) (cs := #[.string l0, .string l1, .string l2]) (t := 39) (fr := (0, 0)) (List.mem_cons_of_mem _ (List.mem_cons_of_mem _ (List.mem_cons_self ..))) (1)
    have s8 : w3.cell? ⟨w.heap.size, 2, none⟩ = some (.string l2) := H3.out.cell (b := w.heap.size) (cs := #[.string l0, .string l1, .string l2]) (t := 39) (fr := (0, 0)) (List.mem_cons_of_mem _ (List.mem_cons_of_mem _ (List.mem_cons_self ..))) (2)
    go_wp2_with fail
    go_ret
    exact ⟨rfl, H3.out.below⟩
  · clear KC
    have G0 : decide (512 < (l0.size : Int)) = false := by rw [decide_eq_false_iff_not]; omega
    have G1 : decide (512 < (l1.size : Int)) = true := by rw [decide_eq_true_iff]; omega
    have E1 : (((e : Nat) : Int) == 1) = true := by rw [beq_iff_eq]; omega
    clear c0 c1 c2
    have s0 : w3.cell? ⟨by_, 0, none⟩ = some (.int .u8 (yk : Int)) := H3.out.cell (b := by_) (cs := #[.int .u8 (yk : Int), .int .i64 yi, .string ys]) (t := 25) (fr := (0, 0)) (List.mem_cons_self ..) (0)
    have s1 : w3.cell? ⟨by_, 1, none⟩ = some (.int .i64 yi) := H3.out.cell (b := by_) (cs := #[.int .u8 (yk : Int), .int .i64 yi, .string ys]) (t := 25) (fr := (0, 0)) (List.mem_cons_self ..) (1)
    have s2 : w3.cell? ⟨by_, 2, none⟩ = some (.string ys) := H3.out.cell (b := by_) (cs := #[.int .u8 (yk : Int), .int .i64 yi, .string ys]) (t := 25) (fr := (0, 0)) (List.mem_cons_self ..) (2)
    have s3 : w3.cell? ⟨bx, 0, none⟩ = some (.int .u8 (xk : Int)) := H3.out.cell (b := bx) (cs := #[.int .u8 (xk : Int), .int .i64 xi, .string xs]) (t := 25) (fr := (0, 0)) (List.mem_cons_of_mem _ (List.mem_cons_self ..)) (0)
    have s4 : w3.cell? ⟨bx, 1, none⟩ = some (.int .i64 xi) := H3.out.cell (b := bx) (cs := #[.int .u8 (xk : Int), .int .i64 xi, .string xs]) (t := 25) (fr := (0, 0)) (List.mem_cons_of_mem _ (List.mem_cons_self ..)) (1)
    have s5 : w3.cell? ⟨bx, 2, none⟩ = some (.string xs) := H3.out.cell (b := bx) (cs := #[.int .u8 (xk : Int), .int .i64 xi, .string xs]) (t := 25) (fr := (0, 0)) (List.mem_cons_of_mem _ (List.mem_cons_self ..)) (2)
    have s6 : w3.cell? ⟨w.heap.size, 0, none⟩ = some (.string l0) := H3.out.cell (b := w.heap.size) (cs := #[.string l0, .string l1, .string l2]) (t := 39) (fr := (0, 0)) (List.mem_cons_of_mem _ (List.mem_cons_of_mem _ (List.mem_cons_self ..))) (0)
    have s7 : w3.cell? ⟨w.heap.size, 1, none⟩ = some (.string l1) := H3.out.cell (b := w.heap.size) (cs := #[.string l0, .string l1, .string l2]) (t := 39) (fr := (0, 0)) (List.mem_cons_of_mem _ (List.mem_cons_of_mem _ (List.mem_cons_self ..))) (1)
    have s8 : w3.cell? ⟨w.heap.size, 2, none⟩ = some (.string l2) := H3.out.cell (b := w.heap.size) (cs := #[.string l0, .string l1, .string l2]) (t := 39) (fr := (0, 0)) (List.mem_cons_of_mem _ (List.mem_cons_of_mem _ (List.mem_cons_self ..))) (2)
    go_wp2_with fail
    go_ret
    exact ⟨rfl, H3.out.below⟩
  · clear KC
    have G0 : decide (512 < (l0.size : Int)) = false := by rw [decide_eq_false_iff_not]; omega
    have G1 : decide (512 < (l1.size : Int)) = false := by rw [decide_eq_false_iff_not]; omega
    have G2 : decide (512 < (l2.size : Int)) = true := by rw [decide_eq_true_iff]; omega
    have E1 : (((e : Nat) : Int) == 1) = false := by rw [beq_eq_false_iff_ne]; omega
    have F1 : (((f : Nat) : Int) == 1) = true := by rw [beq_iff_eq]; omega
    clear c0 c1 c2 c3 c4
    have s0 : w3.cell? ⟨by_, 0, none⟩ = some (.int .u8 (yk : Int)) := H3.out.cell (b := by_) (cs := #[.int .u8 (yk : Int), .int .i64 yi, .string ys]) (t := 25) (fr := (0, 0)) (List.mem_cons_self ..) (0)
    have s1 : w3.cell? ⟨by_, 1, none⟩ = some (.int .i64 yi) := H3.out.cell (b := by_) (cs := #[.int .u8 (yk : Int), .int .i64 yi, .string ys]) (t := 25) (fr := (0, 0)) (List.mem_cons_self ..) (1)
    have s2 : w3.cell? ⟨by_, 2, none⟩ = some (.string ys) := H3.out.cell (b := by_) (cs := #[.int .u8 (yk : Int), .int .i64 yi, .string ys]) (t := 25) (fr := (0, 0)) (List.mem_cons_self ..) (2)
    have s3 : w3.cell? ⟨bx, 0, none⟩ = some (.int .u8 (xk : Int)) := H3.out.cell (b := bx) (cs := #[.int .u8 (xk : Int), .int .i64 xi, .string xs]) (t := 25) (fr := (0, 0)) (List.mem_cons_of_mem _ (List.mem_cons_self ..)) (0)
    have s4 : w3.cell? ⟨bx, 1, none⟩ = some (.int .i64 xi) := H3.out.cell (b := bx) (cs := #[.int .u8 (xk : Int), .int .i64 xi, .string xs]) (t := 25) (fr := (0, 0)) (List.mem_cons_of_mem _ (List.mem_cons_self ..)) (1)
    have s5 : w3.cell? ⟨bx, 2, none⟩ = some (.string xs) := H3.out.cell (b := bx) (cs := #[.int .u8 (xk : Int), .int .i64 xi, .string xs]) (t := 25) (fr := (0, 0)) (List.mem_cons_of_mem _ (List.mem_cons_self ..)) (2)
    have s6 : w3.cell? ⟨w.heap.size, 0, none⟩ = some (.string l0) := H3.out.cell (b := w.heap.size) (cs := #[.string l0, .string l1, .string l2]) (t := 39) (fr := (0, 0)) (List.mem_cons_of_mem _ (List.mem_cons_of_mem _ (List.mem_cons_self ..))) (0)
    have s7 : w3.cell? ⟨w.heap.size, 1, none⟩ = some (.string l1) := H3.out.cell (b := w.heap.size) (cs := #[.string l0, .string l1, .string l2]) (t := 39) (fr := (0, 0)) (List.mem_cons_of_mem _ (List.mem_cons_of_mem _ (List.mem_cons_self ..))) (1)
    have s8 : w3.cell? ⟨w.heap.size, 2, none⟩ = some (.string l2) := H3.out.cell (b := w.heap.size) (cs := #[.string l0, .string l1, .string l2]) (t := 39) (fr := (0, 0)) (List.mem_cons_of_mem _ (List.mem_cons_of_mem _ (List.mem_cons_self ..))) (2)
    go_wp2_with fail
    go_ret
    exact ⟨rfl, H3.out.below⟩
  · clear KC
    have G0 : decide (512 < (l0.size : Int)) = false := by rw [decide_eq_false_iff_not]; omega
    have G1 : decide (512 < (l1.size : Int)) = false := by rw [decide_eq_false_iff_not]; omega
    have G2 : decide (512 < (l2.size : Int)) = false := by rw [decide_eq_false_iff_not]; omega
    have c512 := Lib.hid c0
    rcases hcc with ⟨c3, c4⟩ | ⟨c3, c4, c5⟩ | ⟨c3, c4, c5, uk, ui, us, g, hu1, hu2, hg⟩
    · skip
      have D0 : decide ((l0.size : Int) + (l1.size : Int) ≤ 512) = false := by rw [decide_eq_false_iff_not]; omega
      have E0 : (((e : Nat) : Int) == 0) = false := by rw [beq_eq_false_iff_ne]; omega
      have E0n : (((e : Nat) : Int) != 0) = true := by rw [bne_iff_ne]; omega
      have E3n : (((e : Nat) : Int) != 3) = false := by rw [bne_eq_false_iff_eq]; omega
      clear c0 c1 c2 c3 c4
      have s0 : w3.cell? ⟨w.heap.size, 0, none⟩ = some (.string l0) := H3.out.cell (b := w.heap.size) (cs := #[.string l0, .string l1, .string l2]) (t := 39) (fr := (0, 0)) (List.mem_cons_of_mem _ (List.mem_cons_of_mem _ (List.mem_cons_self ..))) (0)
      have s1 : w3.cell? ⟨w.heap.size, 1, none⟩ = some (.string l1) := H3.out.cell (b := w.heap.size) (cs := #[.string l0, .string l1, .string l2]) (t := 39) (fr := (0, 0)) (List.mem_cons_of_mem _ (List.mem_cons_of_mem _ (List.mem_cons_self ..))) (1)
      have s2 : w3.cell? ⟨w.heap.size, 2, none⟩ = some (.string l2) := H3.out.cell (b := w.heap.size) (cs := #[.string l0, .string l1, .string l2]) (t := 39) (fr := (0, 0)) (List.mem_cons_of_mem _ (List.mem_cons_of_mem _ (List.mem_cons_self ..))) (2)
      go_wp2_with fail
      clear s0 s1 s2
      refine stepF H3.out (fun hB => n_any _ _) ?_
      intro y1 HA1 _
      go_wp2_with fail
      refine stepF HA1.out (fun hB => s_any _ _) ?_
      intro y2 HA2 _
      go_wp2_with fail
      refine stepF HA2.out (fun hB => two_is 10 1 i _ 2 0 _ 2 0 dg 0 (by omega) (by omega) (by omega) i0 i1 (by omega) (by omega) Kd1.out _ (HW.out _ hB)) ?_
      intro y3 HA3 _
      go_wp2_with fail
      have HD0 := Lib.hid (HA3.out.add (below_alloc y3 (.cells #[.int .u8 2, .int .i64 0, .string dg] 25)) (Nat.le_refl _) (heap_alloc_new _ _))
      obtain ⟨bd, hbd⟩ : ∃ x, x = y3.heap.size := ⟨_, rfl⟩
      obtain ⟨y4, hy4⟩ : ∃ x, x = y3.alloc (.cells #[.int .u8 2, .int .i64 0, .string dg] 25) := ⟨_, rfl⟩
      rw [← hbd, ← hy4] at HD0
      rw [← hbd, ← hy4]
      clear hbd hy4 HA1 HA2 HA3 H3
      by_cases hm : i = -9223372036854775808
      · have M0 : (i == -9223372036854775808) = true := by simpa using hm
        clear hm
        have p0 : y4.cell? ⟨bd, 0, none⟩ = some (.int .u8 2) := HD0.out.cell (b := bd) (cs := #[.int .u8 2, .int .i64 0, .string dg]) (t := 25) (fr := (0, 0)) (List.mem_cons_self ..) (0)
        have p1 : y4.cell? ⟨bd, 1, none⟩ = some (.int .i64 0) := HD0.out.cell (b := bd) (cs := #[.int .u8 2, .int .i64 0, .string dg]) (t := 25) (fr := (0, 0)) (List.mem_cons_self ..) (1)
        have p2 : y4.cell? ⟨bd, 2, none⟩ = some (.string dg) := HD0.out.cell (b := bd) (cs := #[.int .u8 2, .int .i64 0, .string dg]) (t := 25) (fr := (0, 0)) (List.mem_cons_self ..) (2)
        have p3 : y4.cell? ⟨w.heap.size, 0, none⟩ = some (.string l0) := HD0.out.cell (b := w.heap.size) (cs := #[.string l0, .string l1, .string l2]) (t := 39) (fr := (0, 0)) (List.mem_cons_of_mem _ (List.mem_cons_of_mem _ (List.mem_cons_of_mem _ (List.mem_cons_self ..)))) (0)
        have q0 := bwOf_cell y4 _ _ p0
        have q1 := bwOf_cell y4 _ _ p1
        have q2 := bwOf_cell y4 _ _ p2
        have q3 := bwOf_cell y4 _ _ p3
        clear p0 p1 p2 p3
        refine wp_region_bw (w := y4) (by kernel_rfl) (by kernel_rfl) ?_
        repeat (go_big_quiet_step (fail))
        go_big_quiet_step ((go_at_call 15; exact below_of (s_any _ _)))
        repeat (go_big_quiet_step (fail))
        go_big_quiet_step ((go_at_call 15; exact below_of (s_any _ _)))
        repeat (go_big_quiet_step (fail))
        go_big_quiet_step ((go_at_call 15; exact below_of (s_any _ _)))
        repeat (go_big_quiet_step (fail))
        go_big_quiet_step ((go_at_call 12; exact below_of (two_yes 10 2 0 l0 2 0 _ 2 0 l0 0 (by omega) (by omega) (by omega) (by omega) (by omega) (by omega) (by omega) (Kn1.out c512.out) _ (HW.out _ (below_end HD0.out.below (bwOf_below _ _))))))
        repeat (go_big_quiet_step (fail))
        go_big_quiet_step ((go_at_call 15; exact below_of (s_any _ _)))
        repeat (go_big_quiet_step (fail))
        go_big_quiet_step ((go_at_call 15; exact below_of (s_any _ _)))
        repeat (go_big_quiet_step (fail))
        go_big_quiet_step ((go_at_call 15; exact below_of (s_any _ _)))
        repeat (go_big_quiet_step (fail))
        go_big_quiet_step ((go_at_call 12; exact below_of (two_yes 10 2 0 _ 2 0 l0 2 0 l0 0 (by omega) (by omega) (by omega) (by omega) (by omega) (by omega) (by omega) (Kn2.out c512.out) _ (HW.out _ (below_end HD0.out.below (bwOf_below _ _))))))
        repeat (go_big_quiet_step (fail))
        go_big_quiet_step ((go_at_call 15; exact below_of (s_any _ _)))
        repeat (go_big_quiet_step (fail))
        go_big_quiet_step ((go_at_call 11; exact below_of (n_any _ _)))
        repeat (go_big_quiet_step (fail))
        go_big_quiet_step ((go_at_call 12; exact below_of (two_yes 10 2 0 _ 1 i _ 2 0 dg 0 (by omega) (by omega) (by omega) (by omega) (by omega) i0 i1 Kd2.out _ (HW.out _ (below_end HD0.out.below (bwOf_below _ _))))))
        repeat (go_big_quiet_step (fail))
        refine wpQuiet_nil ?_
        rintro y5 ⟨m, rfl⟩
        have H9 := Lib.hid (HD0.out.kept (bwOf_below y4 m))
        clear q0 q1 q2 q3
        generalize bwOf y4 m = y5 at *
        go_wp2
        go_ret
        exact ⟨rfl, H9.out.below⟩
      · have M0 : (i == -9223372036854775808) = false := by simpa using hm
        have KT := Lib.hid (Kdt.out hm)
        clear hm
        have p0 : y4.cell? ⟨bd, 0, none⟩ = some (.int .u8 2) := HD0.out.cell (b := bd) (cs := #[.int .u8 2, .int .i64 0, .string dg]) (t := 25) (fr := (0, 0)) (List.mem_cons_self ..) (0)
        have p1 : y4.cell? ⟨bd, 1, none⟩ = some (.int .i64 0) := HD0.out.cell (b := bd) (cs := #[.int .u8 2, .int .i64 0, .string dg]) (t := 25) (fr := (0, 0)) (List.mem_cons_self ..) (1)
        have p2 : y4.cell? ⟨bd, 2, none⟩ = some (.string dg) := HD0.out.cell (b := bd) (cs := #[.int .u8 2, .int .i64 0, .string dg]) (t := 25) (fr := (0, 0)) (List.mem_cons_self ..) (2)
        have p3 : y4.cell? ⟨w.heap.size, 0, none⟩ = some (.string l0) := HD0.out.cell (b := w.heap.size) (cs := #[.string l0, .string l1, .string l2]) (t := 39) (fr := (0, 0)) (List.mem_cons_of_mem _ (List.mem_cons_of_mem _ (List.mem_cons_of_mem _ (List.mem_cons_self ..)))) (0)
        have q0 := bwOf_cell y4 _ _ p0
        have q1 := bwOf_cell y4 _ _ p1
        have q2 := bwOf_cell y4 _ _ p2
        have q3 := bwOf_cell y4 _ _ p3
        clear p0 p1 p2 p3
        refine wp_region_bw (w := y4) (by kernel_rfl) (by kernel_rfl) ?_
        repeat (go_big_quiet_step (fail))
        go_big_quiet_step ((go_at_call 15; exact below_of (s_any _ _)))
        repeat (go_big_quiet_step (fail))
        go_big_quiet_step ((go_at_call 15; exact below_of (s_any _ _)))
        repeat (go_big_quiet_step (fail))
        go_big_quiet_step ((go_at_call 15; exact below_of (s_any _ _)))
        repeat (go_big_quiet_step (fail))
        go_big_quiet_step ((go_at_call 12; exact below_of (two_yes 10 2 0 l0 2 0 _ 2 0 l0 0 (by omega) (by omega) (by omega) (by omega) (by omega) (by omega) (by omega) (Kn1.out c512.out) _ (HW.out _ (below_end HD0.out.below (bwOf_below _ _))))))
        repeat (go_big_quiet_step (fail))
        go_big_quiet_step ((go_at_call 15; exact below_of (s_any _ _)))
        repeat (go_big_quiet_step (fail))
        go_big_quiet_step ((go_at_call 15; exact below_of (s_any _ _)))
        repeat (go_big_quiet_step (fail))
        go_big_quiet_step ((go_at_call 15; exact below_of (s_any _ _)))
        repeat (go_big_quiet_step (fail))
        go_big_quiet_step ((go_at_call 12; exact below_of (two_yes 10 2 0 _ 2 0 l0 2 0 l0 0 (by omega) (by omega) (by omega) (by omega) (by omega) (by omega) (by omega) (Kn2.out c512.out) _ (HW.out _ (below_end HD0.out.below (bwOf_below _ _))))))
        repeat (go_big_quiet_step (fail))
        go_big_quiet_step ((go_at_call 11; exact below_of (n_any _ _)))
        repeat (go_big_quiet_step (fail))
        go_big_quiet_step ((go_at_call 16; exact below_of (text_is 1 i _ dg (by omega) i0 i1 KT.out _ (HW.out _ (below_end HD0.out.below (bwOf_below _ _))))))
        repeat (go_big_quiet_step (fail))
        go_big_quiet_step ((go_at_call 15; exact below_of (s_any _ _)))
        repeat (go_big_quiet_step (fail))
        go_big_quiet_step ((go_at_call 11; exact below_of (n_any _ _)))
        repeat (go_big_quiet_step (fail))
        go_big_quiet_step ((go_at_call 12; exact below_of (two_yes 10 2 0 _ 1 i _ 2 0 dg 0 (by omega) (by omega) (by omega) (by omega) (by omega) i0 i1 Kd2.out _ (HW.out _ (below_end HD0.out.below (bwOf_below _ _))))))
        repeat (go_big_quiet_step (fail))
        refine wpQuiet_nil ?_
        rintro y5 ⟨m, rfl⟩
        have H9 := Lib.hid (HD0.out.kept (bwOf_below y4 m))
        clear q0 q1 q2 q3
        generalize bwOf y4 m = y5 at *
        go_wp2
        go_ret
        exact ⟨rfl, H9.out.below⟩
    · skip
      have D0 : decide ((l0.size : Int) + (l1.size : Int) ≤ 512) = true := by rw [decide_eq_true_iff]; omega
      have E0 : (((e : Nat) : Int) == 0) = true := by rw [beq_iff_eq]; omega
      have E0n : (((e : Nat) : Int) != 0) = false := by rw [bne_eq_false_iff_eq]; omega
      have F0 : (((f : Nat) : Int) == 0) = false := by rw [beq_eq_false_iff_ne]; omega
      clear c0 c1 c2 c3 c4 c5
      have s0 : w3.cell? ⟨w.heap.size, 0, none⟩ = some (.string l0) := H3.out.cell (b := w.heap.size) (cs := #[.string l0, .string l1, .string l2]) (t := 39) (fr := (0, 0)) (List.mem_cons_of_mem _ (List.mem_cons_of_mem _ (List.mem_cons_self ..))) (0)
      have s1 : w3.cell? ⟨w.heap.size, 1, none⟩ = some (.string l1) := H3.out.cell (b := w.heap.size) (cs := #[.string l0, .string l1, .string l2]) (t := 39) (fr := (0, 0)) (List.mem_cons_of_mem _ (List.mem_cons_of_mem _ (List.mem_cons_self ..))) (1)
      have s2 : w3.cell? ⟨w.heap.size, 2, none⟩ = some (.string l2) := H3.out.cell (b := w.heap.size) (cs := #[.string l0, .string l1, .string l2]) (t := 39) (fr := (0, 0)) (List.mem_cons_of_mem _ (List.mem_cons_of_mem _ (List.mem_cons_self ..))) (2)
      go_wp2_with fail
      clear s0 s1 s2
      refine stepF H3.out (fun hB => n_any _ _) ?_
      intro y1 HA1 _
      go_wp2_with fail
      refine stepF HA1.out (fun hB => s_any _ _) ?_
      intro y2 HA2 _
      go_wp2_with fail
      refine stepF HA2.out (fun hB => two_is 10 1 i _ 2 0 _ 2 0 dg 0 (by omega) (by omega) (by omega) i0 i1 (by omega) (by omega) Kd1.out _ (HW.out _ hB)) ?_
      intro y3 HA3 _
      go_wp2_with fail
      have HD0 := Lib.hid (HA3.out.add (below_alloc y3 (.cells #[.int .u8 2, .int .i64 0, .string dg] 25)) (Nat.le_refl _) (heap_alloc_new _ _))
      obtain ⟨bd, hbd⟩ : ∃ x, x = y3.heap.size := ⟨_, rfl⟩
      obtain ⟨y4, hy4⟩ : ∃ x, x = y3.alloc (.cells #[.int .u8 2, .int .i64 0, .string dg] 25) := ⟨_, rfl⟩
      rw [← hbd, ← hy4] at HD0
      rw [← hbd, ← hy4]
      clear hbd hy4 HA1 HA2 HA3 H3
      by_cases hm : i = -9223372036854775808
      · have M0 : (i == -9223372036854775808) = true := by simpa using hm
        clear hm
        have p0 : y4.cell? ⟨bd, 0, none⟩ = some (.int .u8 2) := HD0.out.cell (b := bd) (cs := #[.int .u8 2, .int .i64 0, .string dg]) (t := 25) (fr := (0, 0)) (List.mem_cons_self ..) (0)
        have p1 : y4.cell? ⟨bd, 1, none⟩ = some (.int .i64 0) := HD0.out.cell (b := bd) (cs := #[.int .u8 2, .int .i64 0, .string dg]) (t := 25) (fr := (0, 0)) (List.mem_cons_self ..) (1)
        have p2 : y4.cell? ⟨bd, 2, none⟩ = some (.string dg) := HD0.out.cell (b := bd) (cs := #[.int .u8 2, .int .i64 0, .string dg]) (t := 25) (fr := (0, 0)) (List.mem_cons_self ..) (2)
        have p3 : y4.cell? ⟨w.heap.size, 0, none⟩ = some (.string l0) := HD0.out.cell (b := w.heap.size) (cs := #[.string l0, .string l1, .string l2]) (t := 39) (fr := (0, 0)) (List.mem_cons_of_mem _ (List.mem_cons_of_mem _ (List.mem_cons_of_mem _ (List.mem_cons_self ..)))) (0)
        have q0 := bwOf_cell y4 _ _ p0
        have q1 := bwOf_cell y4 _ _ p1
        have q2 := bwOf_cell y4 _ _ p2
        have q3 := bwOf_cell y4 _ _ p3
        clear p0 p1 p2 p3
        refine wp_region_bw (w := y4) (by kernel_rfl) (by kernel_rfl) ?_
        repeat (go_big_quiet_step (fail))
        go_big_quiet_step ((go_at_call 15; exact below_of (s_any _ _)))
        repeat (go_big_quiet_step (fail))
        go_big_quiet_step ((go_at_call 15; exact below_of (s_any _ _)))
        repeat (go_big_quiet_step (fail))
        go_big_quiet_step ((go_at_call 15; exact below_of (s_any _ _)))
        repeat (go_big_quiet_step (fail))
        go_big_quiet_step ((go_at_call 12; exact below_of (two_yes 10 2 0 l0 2 0 _ 2 0 l0 0 (by omega) (by omega) (by omega) (by omega) (by omega) (by omega) (by omega) (Kn1.out c512.out) _ (HW.out _ (below_end HD0.out.below (bwOf_below _ _))))))
        repeat (go_big_quiet_step (fail))
        go_big_quiet_step ((go_at_call 15; exact below_of (s_any _ _)))
        repeat (go_big_quiet_step (fail))
        go_big_quiet_step ((go_at_call 15; exact below_of (s_any _ _)))
        repeat (go_big_quiet_step (fail))
        go_big_quiet_step ((go_at_call 15; exact below_of (s_any _ _)))
        repeat (go_big_quiet_step (fail))
        go_big_quiet_step ((go_at_call 12; exact below_of (two_yes 10 2 0 _ 2 0 l0 2 0 l0 0 (by omega) (by omega) (by omega) (by omega) (by omega) (by omega) (by omega) (Kn2.out c512.out) _ (HW.out _ (below_end HD0.out.below (bwOf_below _ _))))))
        repeat (go_big_quiet_step (fail))
        go_big_quiet_step ((go_at_call 15; exact below_of (s_any _ _)))
        repeat (go_big_quiet_step (fail))
        go_big_quiet_step ((go_at_call 11; exact below_of (n_any _ _)))
        repeat (go_big_quiet_step (fail))
        go_big_quiet_step ((go_at_call 12; exact below_of (two_yes 10 2 0 _ 1 i _ 2 0 dg 0 (by omega) (by omega) (by omega) (by omega) (by omega) i0 i1 Kd2.out _ (HW.out _ (below_end HD0.out.below (bwOf_below _ _))))))
        repeat (go_big_quiet_step (fail))
        refine wpQuiet_nil ?_
        rintro y5 ⟨m, rfl⟩
        have H9 := Lib.hid (HD0.out.kept (bwOf_below y4 m))
        clear q0 q1 q2 q3
        generalize bwOf y4 m = y5 at *
        go_wp2
        go_ret
        exact ⟨rfl, H9.out.below⟩
      · have M0 : (i == -9223372036854775808) = false := by simpa using hm
        have KT := Lib.hid (Kdt.out hm)
        clear hm
        have p0 : y4.cell? ⟨bd, 0, none⟩ = some (.int .u8 2) := HD0.out.cell (b := bd) (cs := #[.int .u8 2, .int .i64 0, .string dg]) (t := 25) (fr := (0, 0)) (List.mem_cons_self ..) (0)
        have p1 : y4.cell? ⟨bd, 1, none⟩ = some (.int .i64 0) := HD0.out.cell (b := bd) (cs := #[.int .u8 2, .int .i64 0, .string dg]) (t := 25) (fr := (0, 0)) (List.mem_cons_self ..) (1)
        have p2 : y4.cell? ⟨bd, 2, none⟩ = some (.string dg) := HD0.out.cell (b := bd) (cs := #[.int .u8 2, .int .i64 0, .string dg]) (t := 25) (fr := (0, 0)) (List.mem_cons_self ..) (2)
        have p3 : y4.cell? ⟨w.heap.size, 0, none⟩ = some (.string l0) := HD0.out.cell (b := w.heap.size) (cs := #[.string l0, .string l1, .string l2]) (t := 39) (fr := (0, 0)) (List.mem_cons_of_mem _ (List.mem_cons_of_mem _ (List.mem_cons_of_mem _ (List.mem_cons_self ..)))) (0)
        have q0 := bwOf_cell y4 _ _ p0
        have q1 := bwOf_cell y4 _ _ p1
        have q2 := bwOf_cell y4 _ _ p2
        have q3 := bwOf_cell y4 _ _ p3
        clear p0 p1 p2 p3
        refine wp_region_bw (w := y4) (by kernel_rfl) (by kernel_rfl) ?_
        repeat (go_big_quiet_step (fail))
        go_big_quiet_step ((go_at_call 15; exact below_of (s_any _ _)))
        repeat (go_big_quiet_step (fail))
        go_big_quiet_step ((go_at_call 15; exact below_of (s_any _ _)))
        repeat (go_big_quiet_step (fail))
        go_big_quiet_step ((go_at_call 15; exact below_of (s_any _ _)))
        repeat (go_big_quiet_step (fail))
        go_big_quiet_step ((go_at_call 12; exact below_of (two_yes 10 2 0 l0 2 0 _ 2 0 l0 0 (by omega) (by omega) (by omega) (by omega) (by omega) (by omega) (by omega) (Kn1.out c512.out) _ (HW.out _ (below_end HD0.out.below (bwOf_below _ _))))))
        repeat (go_big_quiet_step (fail))
        go_big_quiet_step ((go_at_call 15; exact below_of (s_any _ _)))
        repeat (go_big_quiet_step (fail))
        go_big_quiet_step ((go_at_call 15; exact below_of (s_any _ _)))
        repeat (go_big_quiet_step (fail))
        go_big_quiet_step ((go_at_call 15; exact below_of (s_any _ _)))
        repeat (go_big_quiet_step (fail))
        go_big_quiet_step ((go_at_call 12; exact below_of (two_yes 10 2 0 _ 2 0 l0 2 0 l0 0 (by omega) (by omega) (by omega) (by omega) (by omega) (by omega) (by omega) (Kn2.out c512.out) _ (HW.out _ (below_end HD0.out.below (bwOf_below _ _))))))
        repeat (go_big_quiet_step (fail))
        go_big_quiet_step ((go_at_call 11; exact below_of (n_any _ _)))
        repeat (go_big_quiet_step (fail))
        go_big_quiet_step ((go_at_call 16; exact below_of (text_is 1 i _ dg (by omega) i0 i1 KT.out _ (HW.out _ (below_end HD0.out.below (bwOf_below _ _))))))
        repeat (go_big_quiet_step (fail))
        go_big_quiet_step ((go_at_call 15; exact below_of (s_any _ _)))
        repeat (go_big_quiet_step (fail))
        go_big_quiet_step ((go_at_call 11; exact below_of (n_any _ _)))
        repeat (go_big_quiet_step (fail))
        go_big_quiet_step ((go_at_call 12; exact below_of (two_yes 10 2 0 _ 1 i _ 2 0 dg 0 (by omega) (by omega) (by omega) (by omega) (by omega) i0 i1 Kd2.out _ (HW.out _ (below_end HD0.out.below (bwOf_below _ _))))))
        repeat (go_big_quiet_step (fail))
        refine wpQuiet_nil ?_
        rintro y5 ⟨m, rfl⟩
        have H9 := Lib.hid (HD0.out.kept (bwOf_below y4 m))
        clear q0 q1 q2 q3
        generalize bwOf y4 m = y5 at *
        go_wp2
        go_ret
        exact ⟨rfl, H9.out.below⟩
    · have KU1 := Lib.hid hu1
      have KU2 := Lib.hid hu2
      clear hu1 hu2
      have D0 : decide ((l0.size : Int) + (l1.size : Int) ≤ 512) = true := by rw [decide_eq_true_iff]; omega
      have E0 : (((e : Nat) : Int) == 0) = true := by rw [beq_iff_eq]; omega
      have E0n : (((e : Nat) : Int) != 0) = false := by rw [bne_eq_false_iff_eq]; omega
      have F0 : (((f : Nat) : Int) == 0) = true := by rw [beq_iff_eq]; omega
      have R1 : ¬ 9223372036854775807 < l0.size + l1.size := by omega
      have R2 : ¬ 9223372036854775807 < l0.size + l1.size + l2.size := by omega
      have R3 : ¬ 9223372036854775807 < (l0 ++ l1).size + l2.size := by rw [ByteArray.size_append]; omega
      have KG := Lib.hid hg
      clear c0 c1 c2 c3 c4 c5 hg
      have s0 : w3.cell? ⟨w.heap.size, 0, none⟩ = some (.string l0) := H3.out.cell (b := w.heap.size) (cs := #[.string l0, .string l1, .string l2]) (t := 39) (fr := (0, 0)) (List.mem_cons_of_mem _ (List.mem_cons_of_mem _ (List.mem_cons_self ..))) (0)
      have s1 : w3.cell? ⟨w.heap.size, 1, none⟩ = some (.string l1) := H3.out.cell (b := w.heap.size) (cs := #[.string l0, .string l1, .string l2]) (t := 39) (fr := (0, 0)) (List.mem_cons_of_mem _ (List.mem_cons_of_mem _ (List.mem_cons_self ..))) (1)
      have s2 : w3.cell? ⟨w.heap.size, 2, none⟩ = some (.string l2) := H3.out.cell (b := w.heap.size) (cs := #[.string l0, .string l1, .string l2]) (t := 39) (fr := (0, 0)) (List.mem_cons_of_mem _ (List.mem_cons_of_mem _ (List.mem_cons_self ..))) (2)
      go_wp2_with fail
      clear s0 s1 s2
      have s0 : w3.cell? ⟨bx, 0, none⟩ = some (.int .u8 (xk : Int)) := H3.out.cell (b := bx) (cs := #[.int .u8 (xk : Int), .int .i64 xi, .string xs]) (t := 25) (fr := (0, 0)) (List.mem_cons_of_mem _ (List.mem_cons_self ..)) (0)
      have s1 : w3.cell? ⟨bx, 1, none⟩ = some (.int .i64 xi) := H3.out.cell (b := bx) (cs := #[.int .u8 (xk : Int), .int .i64 xi, .string xs]) (t := 25) (fr := (0, 0)) (List.mem_cons_of_mem _ (List.mem_cons_self ..)) (1)
      have s2 : w3.cell? ⟨bx, 2, none⟩ = some (.string xs) := H3.out.cell (b := bx) (cs := #[.int .u8 (xk : Int), .int .i64 xi, .string xs]) (t := 25) (fr := (0, 0)) (List.mem_cons_of_mem _ (List.mem_cons_self ..)) (2)
      have s3 : w3.cell? ⟨w.heap.size, 2, none⟩ = some (.string l2) := H3.out.cell (b := w.heap.size) (cs := #[.string l0, .string l1, .string l2]) (t := 39) (fr := (0, 0)) (List.mem_cons_of_mem _ (List.mem_cons_of_mem _ (List.mem_cons_self ..))) (2)
      have z0 : by_ < w3.heap.size := lt_of_block (H3.out.get (b := by_) (o := .cells #[.int .u8 (yk : Int), .int .i64 yi, .string ys] 25 (0, 0)) (List.mem_cons_self ..))
      have z1 : bx < w3.heap.size := lt_of_block (H3.out.get (b := bx) (o := .cells #[.int .u8 (xk : Int), .int .i64 xi, .string xs] 25 (0, 0)) (List.mem_cons_of_mem _ (List.mem_cons_self ..)))
      have z2 : w.heap.size < w3.heap.size := lt_of_block (H3.out.get (b := w.heap.size) (o := .cells #[.string l0, .string l1, .string l2] 39 (0, 0)) (List.mem_cons_of_mem _ (List.mem_cons_of_mem _ (List.mem_cons_self ..))))
      have HM := H3
      have HL := H3
      apply wp_merge (R := fun b x => Hid (Fam w ((b, .cells #[.int .u8 (uk : Int), .int .i64 ui, .string us] 25 (0, 0)) :: [(by_, .cells #[.int .u8 (yk : Int), .int .i64 yi, .string ys] 25 (0, 0)), (bx, .cells #[.int .u8 (xk : Int), .int .i64 xi, .string xs] 25 (0, 0)), (w.heap.size, .cells #[.string l0, .string l1, .string l2] 39 (0, 0))]) x))
      case h =>
        go_region_held3 (fun x => x.cell? ⟨bx, 0, none⟩ = some (.int .u8 (xk : Int)) ∧ x.cell? ⟨bx, 1, none⟩ = some (.int .i64 xi) ∧ x.cell? ⟨bx, 2, none⟩ = some (.string xs) ∧ x.cell? ⟨w.heap.size, 2, none⟩ = some (.string l2)) (first | with_reducible exact ⟨s0, s1, s2, s3⟩ | with_reducible exact ⟨keep_drew s0, keep_drew s1, keep_drew s2, keep_drew s3⟩ | with_reducible exact ⟨keep_drew (keep_alloc s0), keep_drew (keep_alloc s1), keep_drew (keep_alloc s2), keep_drew (keep_alloc s3)⟩ | with_reducible exact ⟨keep_alloc (keep_drew s0), keep_alloc (keep_drew s1), keep_alloc (keep_drew s2), keep_alloc (keep_drew s3)⟩ | with_reducible exact SS.out | with_reducible exact ⟨keep_alloc SS.out.1, keep_alloc SS.out.2.1, keep_alloc SS.out.2.2.1, keep_alloc SS.out.2.2.2⟩ | with_reducible exact ⟨(set3_other (by omega) _ _ _ _).trans SS.out.1, (set3_other (by omega) _ _ _ _).trans SS.out.2.1, (set3_other (by omega) _ _ _ _).trans SS.out.2.2.1, (set3_other (by omega) _ _ _ _).trans SS.out.2.2.2⟩) ((first | (go_at_call_of 15 (l2); (first | ((first | refine stepF HM.out (fun hB => s_any l2 _) ?_ | refine stepF HM.out.drew' (fun hB => s_any l2 _) ?_); intro u1 HM HL; have t0 : u1.cell? ⟨bx, 0, none⟩ = some (.int .u8 (xk : Int)) := HL.out.cell (b := bx) (cs := #[.int .u8 (xk : Int), .int .i64 xi, .string xs]) (t := 25) (fr := (0, 0)) (List.mem_cons_of_mem _ (List.mem_cons_self ..)) (0); have t1 : u1.cell? ⟨bx, 1, none⟩ = some (.int .i64 xi) := HL.out.cell (b := bx) (cs := #[.int .u8 (xk : Int), .int .i64 xi, .string xs]) (t := 25) (fr := (0, 0)) (List.mem_cons_of_mem _ (List.mem_cons_self ..)) (1); have t2 : u1.cell? ⟨bx, 2, none⟩ = some (.string xs) := HL.out.cell (b := bx) (cs := #[.int .u8 (xk : Int), .int .i64 xi, .string xs]) (t := 25) (fr := (0, 0)) (List.mem_cons_of_mem _ (List.mem_cons_self ..)) (2); have t3 : u1.cell? ⟨w.heap.size, 2, none⟩ = some (.string l2) := HL.out.cell (b := w.heap.size) (cs := #[.string l0, .string l1, .string l2]) (t := 39) (fr := (0, 0)) (List.mem_cons_of_mem _ (List.mem_cons_of_mem _ (List.mem_cons_self ..))) (2); have SS := Lib.hid (show _ from (And.intro t0 (And.intro t1 (And.intro t2 t3)))); clear t0 t1 t2 t3; have z0 : by_ < u1.heap.size := lt_of_block (HL.out.get (b := by_) (o := .cells #[.int .u8 (yk : Int), .int .i64 yi, .string ys] 25 (0, 0)) (List.mem_cons_self ..)); have z1 : bx < u1.heap.size := lt_of_block (HL.out.get (b := bx) (o := .cells #[.int .u8 (xk : Int), .int .i64 xi, .string xs] 25 (0, 0)) (List.mem_cons_of_mem _ (List.mem_cons_self ..))); have z2 : w.heap.size < u1.heap.size := lt_of_block (HL.out.get (b := w.heap.size) (o := .cells #[.string l0, .string l1, .string l2] 39 (0, 0)) (List.mem_cons_of_mem _ (List.mem_cons_of_mem _ (List.mem_cons_self ..))))) | ((first | refine stepZ HM.out (fun hB => s_any l2 _) ?_ | refine stepZ HM.out.zero (fun hB => s_any l2 _) ?_ | refine stepZ HM.out.zero.drew' (fun hB => s_any l2 _) ?_ | refine stepZ HM.out.drew'.zero (fun hB => s_any l2 _) ?_ | refine stepZ HM.out.drew' (fun hB => s_any l2 _) ?_); intro u1 HM HL; have t0 : u1.cell? ⟨bx, 0, none⟩ = some (.int .u8 (xk : Int)) := HL.out.cell (b := bx) (cs := #[.int .u8 (xk : Int), .int .i64 xi, .string xs]) (t := 25) (fr := (0, 0)) (List.mem_cons_of_mem _ (List.mem_cons_self ..)) (0); have t1 : u1.cell? ⟨bx, 1, none⟩ = some (.int .i64 xi) := HL.out.cell (b := bx) (cs := #[.int .u8 (xk : Int), .int .i64 xi, .string xs]) (t := 25) (fr := (0, 0)) (List.mem_cons_of_mem _ (List.mem_cons_self ..)) (1); have t2 : u1.cell? ⟨bx, 2, none⟩ = some (.string xs) := HL.out.cell (b := bx) (cs := #[.int .u8 (xk : Int), .int .i64 xi, .string xs]) (t := 25) (fr := (0, 0)) (List.mem_cons_of_mem _ (List.mem_cons_self ..)) (2); have t3 : u1.cell? ⟨w.heap.size, 2, none⟩ = some (.string l2) := HL.out.cell (b := w.heap.size) (cs := #[.string l0, .string l1, .string l2]) (t := 39) (fr := (0, 0)) (List.mem_cons_of_mem _ (List.mem_cons_of_mem _ (List.mem_cons_self ..))) (2); have SS := Lib.hid (show _ from (And.intro t0 (And.intro t1 (And.intro t2 t3)))); clear t0 t1 t2 t3; have z0 : by_ < u1.heap.size := lt_of_block (HL.out.get (b := by_) (o := .cells #[.int .u8 (yk : Int), .int .i64 yi, .string ys] 25 (0, 0)) (List.mem_cons_self ..)); have z1 : bx < u1.heap.size := lt_of_block (HL.out.get (b := bx) (o := .cells #[.int .u8 (xk : Int), .int .i64 xi, .string xs] 25 (0, 0)) (List.mem_cons_of_mem _ (List.mem_cons_self ..))); have z2 : w.heap.size < u1.heap.size := lt_of_block (HL.out.get (b := w.heap.size) (o := .cells #[.string l0, .string l1, .string l2] 39 (0, 0)) (List.mem_cons_of_mem _ (List.mem_cons_of_mem _ (List.mem_cons_self ..)))); have r0 : u1.cell? ⟨_, 0, none⟩ = some (.int .u8 0) := HM.out.cell 0; have r1 : u1.cell? ⟨_, 1, none⟩ = some (.int .i64 0) := HM.out.cell 1; have r2 : u1.cell? ⟨_, 2, none⟩ = some (.string ⟨#[]⟩) := HM.out.cell 2; have f0 : u1.frozen? ⟨_, 0, none⟩ = false := HM.out.free 0; have f1 : u1.frozen? ⟨_, 1, none⟩ = false := HM.out.free 1; have f2 : u1.frozen? ⟨_, 2, none⟩ = false := HM.out.free 2; have z9 : _ < u1.heap.size := lt_of_block HM.out.new))) | (go_at_call 8; (first | ((first | refine stepF HM.out (fun hB => two_is 10 xk xi xs 2 0 l2 uk ui us g (by omega) xkb (by omega) xi0 xi1 (by omega) (by omega) KU1.out _ (HW.out _ hB)) ?_ | refine stepF HM.out.drew' (fun hB => two_is 10 xk xi xs 2 0 l2 uk ui us g (by omega) xkb (by omega) xi0 xi1 (by omega) (by omega) KU1.out _ (HW.out _ hB)) ?_); intro u2 HM HL; have t0 : u2.cell? ⟨bx, 0, none⟩ = some (.int .u8 (xk : Int)) := HL.out.cell (b := bx) (cs := #[.int .u8 (xk : Int), .int .i64 xi, .string xs]) (t := 25) (fr := (0, 0)) (List.mem_cons_of_mem _ (List.mem_cons_self ..)) (0); have t1 : u2.cell? ⟨bx, 1, none⟩ = some (.int .i64 xi) := HL.out.cell (b := bx) (cs := #[.int .u8 (xk : Int), .int .i64 xi, .string xs]) (t := 25) (fr := (0, 0)) (List.mem_cons_of_mem _ (List.mem_cons_self ..)) (1); have t2 : u2.cell? ⟨bx, 2, none⟩ = some (.string xs) := HL.out.cell (b := bx) (cs := #[.int .u8 (xk : Int), .int .i64 xi, .string xs]) (t := 25) (fr := (0, 0)) (List.mem_cons_of_mem _ (List.mem_cons_self ..)) (2); have t3 : u2.cell? ⟨w.heap.size, 2, none⟩ = some (.string l2) := HL.out.cell (b := w.heap.size) (cs := #[.string l0, .string l1, .string l2]) (t := 39) (fr := (0, 0)) (List.mem_cons_of_mem _ (List.mem_cons_of_mem _ (List.mem_cons_self ..))) (2); have SS := Lib.hid (show _ from (And.intro t0 (And.intro t1 (And.intro t2 t3)))); clear t0 t1 t2 t3; have z0 : by_ < u2.heap.size := lt_of_block (HL.out.get (b := by_) (o := .cells #[.int .u8 (yk : Int), .int .i64 yi, .string ys] 25 (0, 0)) (List.mem_cons_self ..)); have z1 : bx < u2.heap.size := lt_of_block (HL.out.get (b := bx) (o := .cells #[.int .u8 (xk : Int), .int .i64 xi, .string xs] 25 (0, 0)) (List.mem_cons_of_mem _ (List.mem_cons_self ..))); have z2 : w.heap.size < u2.heap.size := lt_of_block (HL.out.get (b := w.heap.size) (o := .cells #[.string l0, .string l1, .string l2] 39 (0, 0)) (List.mem_cons_of_mem _ (List.mem_cons_of_mem _ (List.mem_cons_self ..))))) | ((first | refine stepZ HM.out (fun hB => two_is 10 xk xi xs 2 0 l2 uk ui us g (by omega) xkb (by omega) xi0 xi1 (by omega) (by omega) KU1.out _ (HW.out _ hB)) ?_ | refine stepZ HM.out.zero (fun hB => two_is 10 xk xi xs 2 0 l2 uk ui us g (by omega) xkb (by omega) xi0 xi1 (by omega) (by omega) KU1.out _ (HW.out _ hB)) ?_ | refine stepZ HM.out.zero.drew' (fun hB => two_is 10 xk xi xs 2 0 l2 uk ui us g (by omega) xkb (by omega) xi0 xi1 (by omega) (by omega) KU1.out _ (HW.out _ hB)) ?_ | refine stepZ HM.out.drew'.zero (fun hB => two_is 10 xk xi xs 2 0 l2 uk ui us g (by omega) xkb (by omega) xi0 xi1 (by omega) (by omega) KU1.out _ (HW.out _ hB)) ?_ | refine stepZ HM.out.drew' (fun hB => two_is 10 xk xi xs 2 0 l2 uk ui us g (by omega) xkb (by omega) xi0 xi1 (by omega) (by omega) KU1.out _ (HW.out _ hB)) ?_); intro u2 HM HL; have t0 : u2.cell? ⟨bx, 0, none⟩ = some (.int .u8 (xk : Int)) := HL.out.cell (b := bx) (cs := #[.int .u8 (xk : Int), .int .i64 xi, .string xs]) (t := 25) (fr := (0, 0)) (List.mem_cons_of_mem _ (List.mem_cons_self ..)) (0); have t1 : u2.cell? ⟨bx, 1, none⟩ = some (.int .i64 xi) := HL.out.cell (b := bx) (cs := #[.int .u8 (xk : Int), .int .i64 xi, .string xs]) (t := 25) (fr := (0, 0)) (List.mem_cons_of_mem _ (List.mem_cons_self ..)) (1); have t2 : u2.cell? ⟨bx, 2, none⟩ = some (.string xs) := HL.out.cell (b := bx) (cs := #[.int .u8 (xk : Int), .int .i64 xi, .string xs]) (t := 25) (fr := (0, 0)) (List.mem_cons_of_mem _ (List.mem_cons_self ..)) (2); have t3 : u2.cell? ⟨w.heap.size, 2, none⟩ = some (.string l2) := HL.out.cell (b := w.heap.size) (cs := #[.string l0, .string l1, .string l2]) (t := 39) (fr := (0, 0)) (List.mem_cons_of_mem _ (List.mem_cons_of_mem _ (List.mem_cons_self ..))) (2); have SS := Lib.hid (show _ from (And.intro t0 (And.intro t1 (And.intro t2 t3)))); clear t0 t1 t2 t3; have z0 : by_ < u2.heap.size := lt_of_block (HL.out.get (b := by_) (o := .cells #[.int .u8 (yk : Int), .int .i64 yi, .string ys] 25 (0, 0)) (List.mem_cons_self ..)); have z1 : bx < u2.heap.size := lt_of_block (HL.out.get (b := bx) (o := .cells #[.int .u8 (xk : Int), .int .i64 xi, .string xs] 25 (0, 0)) (List.mem_cons_of_mem _ (List.mem_cons_self ..))); have z2 : w.heap.size < u2.heap.size := lt_of_block (HL.out.get (b := w.heap.size) (o := .cells #[.string l0, .string l1, .string l2] 39 (0, 0)) (List.mem_cons_of_mem _ (List.mem_cons_of_mem _ (List.mem_cons_self ..)))); have r0 : u2.cell? ⟨_, 0, none⟩ = some (.int .u8 0) := HM.out.cell 0; have r1 : u2.cell? ⟨_, 1, none⟩ = some (.int .i64 0) := HM.out.cell 1; have r2 : u2.cell? ⟨_, 2, none⟩ = some (.string ⟨#[]⟩) := HM.out.cell 2; have f0 : u2.frozen? ⟨_, 0, none⟩ = false := HM.out.free 0; have f1 : u2.frozen? ⟨_, 1, none⟩ = false := HM.out.free 1; have f2 : u2.frozen? ⟨_, 2, none⟩ = false := HM.out.free 2; have z9 : _ < u2.heap.size := lt_of_block HM.out.new)))))
        all_goals (first | (obtain ⟨bx, hx, HO⟩ := endF (.cells #[.int .u8 (uk : Int), .int .i64 ui, .string us] 25 (0, 0)) HM.out; refine ⟨rfl, ?_⟩; (try rw [← hx] at HO); rw [← hx]; exact ⟨bx, rfl, HO⟩) | (obtain ⟨bx, hx, HO⟩ := endZ (.int .u8 (uk : Int)) (.int .i64 ui) (.string us) HM.out; refine ⟨rfl, ?_⟩; (try rw [← hx] at HO); rw [← hx]; exact ⟨bx, rfl, HO⟩))
      intro bu w4 H4
      clear HM HL s0 s1 s2 s3 z0 z1 z2
      clear H3
      go_wp2_with fail
      have s0 : w4.cell? ⟨by_, 0, none⟩ = some (.int .u8 (yk : Int)) := H4.out.cell (b := by_) (cs := #[.int .u8 (yk : Int), .int .i64 yi, .string ys]) (t := 25) (fr := (0, 0)) (List.mem_cons_of_mem _ (List.mem_cons_self ..)) (0)
      have s1 : w4.cell? ⟨by_, 1, none⟩ = some (.int .i64 yi) := H4.out.cell (b := by_) (cs := #[.int .u8 (yk : Int), .int .i64 yi, .string ys]) (t := 25) (fr := (0, 0)) (List.mem_cons_of_mem _ (List.mem_cons_self ..)) (1)
      have s2 : w4.cell? ⟨by_, 2, none⟩ = some (.string ys) := H4.out.cell (b := by_) (cs := #[.int .u8 (yk : Int), .int .i64 yi, .string ys]) (t := 25) (fr := (0, 0)) (List.mem_cons_of_mem _ (List.mem_cons_self ..)) (2)
      have s3 : w4.cell? ⟨w.heap.size, 0, none⟩ = some (.string l0) := H4.out.cell (b := w.heap.size) (cs := #[.string l0, .string l1, .string l2]) (t := 39) (fr := (0, 0)) (List.mem_cons_of_mem _ (List.mem_cons_of_mem _ (List.mem_cons_of_mem _ (List.mem_cons_self ..)))) (0)
      have z0 : bu < w4.heap.size := lt_of_block (H4.out.get (b := bu) (o := .cells #[.int .u8 (uk : Int), .int .i64 ui, .string us] 25 (0, 0)) (List.mem_cons_self ..))
      have z1 : by_ < w4.heap.size := lt_of_block (H4.out.get (b := by_) (o := .cells #[.int .u8 (yk : Int), .int .i64 yi, .string ys] 25 (0, 0)) (List.mem_cons_of_mem _ (List.mem_cons_self ..)))
      have z2 : bx < w4.heap.size := lt_of_block (H4.out.get (b := bx) (o := .cells #[.int .u8 (xk : Int), .int .i64 xi, .string xs] 25 (0, 0)) (List.mem_cons_of_mem _ (List.mem_cons_of_mem _ (List.mem_cons_self ..))))
      have z3 : w.heap.size < w4.heap.size := lt_of_block (H4.out.get (b := w.heap.size) (o := .cells #[.string l0, .string l1, .string l2] 39 (0, 0)) (List.mem_cons_of_mem _ (List.mem_cons_of_mem _ (List.mem_cons_of_mem _ (List.mem_cons_self ..)))))
      have HM := H4
      have HL := H4
      apply wp_merge (R := fun b x => Hid (Fam w ((b, .cells #[.int .u8 (uk : Int), .int .i64 ui, .string us] 25 (0, 0)) :: [(bu, .cells #[.int .u8 (uk : Int), .int .i64 ui, .string us] 25 (0, 0)), (by_, .cells #[.int .u8 (yk : Int), .int .i64 yi, .string ys] 25 (0, 0)), (bx, .cells #[.int .u8 (xk : Int), .int .i64 xi, .string xs] 25 (0, 0)), (w.heap.size, .cells #[.string l0, .string l1, .string l2] 39 (0, 0))]) x))
      case h =>
        go_region_held3 (fun x => x.cell? ⟨by_, 0, none⟩ = some (.int .u8 (yk : Int)) ∧ x.cell? ⟨by_, 1, none⟩ = some (.int .i64 yi) ∧ x.cell? ⟨by_, 2, none⟩ = some (.string ys) ∧ x.cell? ⟨w.heap.size, 0, none⟩ = some (.string l0)) (first | with_reducible exact ⟨s0, s1, s2, s3⟩ | with_reducible exact ⟨keep_drew s0, keep_drew s1, keep_drew s2, keep_drew s3⟩ | with_reducible exact ⟨keep_drew (keep_alloc s0), keep_drew (keep_alloc s1), keep_drew (keep_alloc s2), keep_drew (keep_alloc s3)⟩ | with_reducible exact ⟨keep_alloc (keep_drew s0), keep_alloc (keep_drew s1), keep_alloc (keep_drew s2), keep_alloc (keep_drew s3)⟩ | with_reducible exact SS.out | with_reducible exact ⟨keep_alloc SS.out.1, keep_alloc SS.out.2.1, keep_alloc SS.out.2.2.1, keep_alloc SS.out.2.2.2⟩ | with_reducible exact ⟨(set3_other (by omega) _ _ _ _).trans SS.out.1, (set3_other (by omega) _ _ _ _).trans SS.out.2.1, (set3_other (by omega) _ _ _ _).trans SS.out.2.2.1, (set3_other (by omega) _ _ _ _).trans SS.out.2.2.2⟩) ((first | (go_at_call_of 15 (l0); (first | ((first | refine stepF HM.out (fun hB => s_any l0 _) ?_ | refine stepF HM.out.drew' (fun hB => s_any l0 _) ?_); intro u1 HM HL; have t0 : u1.cell? ⟨by_, 0, none⟩ = some (.int .u8 (yk : Int)) := HL.out.cell (b := by_) (cs := #[.int .u8 (yk : Int), .int .i64 yi, .string ys]) (t := 25) (fr := (0, 0)) (List.mem_cons_of_mem _ (List.mem_cons_self ..)) (0); have t1 : u1.cell? ⟨by_, 1, none⟩ = some (.int .i64 yi) := HL.out.cell (b := by_) (cs := #[.int .u8 (yk : Int), .int .i64 yi, .string ys]) (t := 25) (fr := (0, 0)) (List.mem_cons_of_mem _ (List.mem_cons_self ..)) (1); have t2 : u1.cell? ⟨by_, 2, none⟩ = some (.string ys) := HL.out.cell (b := by_) (cs := #[.int .u8 (yk : Int), .int .i64 yi, .string ys]) (t := 25) (fr := (0, 0)) (List.mem_cons_of_mem _ (List.mem_cons_self ..)) (2); have t3 : u1.cell? ⟨w.heap.size, 0, none⟩ = some (.string l0) := HL.out.cell (b := w.heap.size) (cs := #[.string l0, .string l1, .string l2]) (t := 39) (fr := (0, 0)) (List.mem_cons_of_mem _ (List.mem_cons_of_mem _ (List.mem_cons_of_mem _ (List.mem_cons_self ..)))) (0); have SS := Lib.hid (show _ from (And.intro t0 (And.intro t1 (And.intro t2 t3)))); clear t0 t1 t2 t3; have z0 : bu < u1.heap.size := lt_of_block (HL.out.get (b := bu) (o := .cells #[.int .u8 (uk : Int), .int .i64 ui, .string us] 25 (0, 0)) (List.mem_cons_self ..)); have z1 : by_ < u1.heap.size := lt_of_block (HL.out.get (b := by_) (o := .cells #[.int .u8 (yk : Int), .int .i64 yi, .string ys] 25 (0, 0)) (List.mem_cons_of_mem _ (List.mem_cons_self ..))); have z2 : bx < u1.heap.size := lt_of_block (HL.out.get (b := bx) (o := .cells #[.int .u8 (xk : Int), .int .i64 xi, .string xs] 25 (0, 0)) (List.mem_cons_of_mem _ (List.mem_cons_of_mem _ (List.mem_cons_self ..)))); have z3 : w.heap.size < u1.heap.size := lt_of_block (HL.out.get (b := w.heap.size) (o := .cells #[.string l0, .string l1, .string l2] 39 (0, 0)) (List.mem_cons_of_mem _ (List.mem_cons_of_mem _ (List.mem_cons_of_mem _ (List.mem_cons_self ..)))))) | ((first | refine stepZ HM.out (fun hB => s_any l0 _) ?_ | refine stepZ HM.out.zero (fun hB => s_any l0 _) ?_ | refine stepZ HM.out.zero.drew' (fun hB => s_any l0 _) ?_ | refine stepZ HM.out.drew'.zero (fun hB => s_any l0 _) ?_ | refine stepZ HM.out.drew' (fun hB => s_any l0 _) ?_); intro u1 HM HL; have t0 : u1.cell? ⟨by_, 0, none⟩ = some (.int .u8 (yk : Int)) := HL.out.cell (b := by_) (cs := #[.int .u8 (yk : Int), .int .i64 yi, .string ys]) (t := 25) (fr := (0, 0)) (List.mem_cons_of_mem _ (List.mem_cons_self ..)) (0); have t1 : u1.cell? ⟨by_, 1, none⟩ = some (.int .i64 yi) := HL.out.cell (b := by_) (cs := #[.int .u8 (yk : Int), .int .i64 yi, .string ys]) (t := 25) (fr := (0, 0)) (List.mem_cons_of_mem _ (List.mem_cons_self ..)) (1); have t2 : u1.cell? ⟨by_, 2, none⟩ = some (.string ys) := HL.out.cell (b := by_) (cs := #[.int .u8 (yk : Int), .int .i64 yi, .string ys]) (t := 25) (fr := (0, 0)) (List.mem_cons_of_mem _ (List.mem_cons_self ..)) (2); have t3 : u1.cell? ⟨w.heap.size, 0, none⟩ = some (.string l0) := HL.out.cell (b := w.heap.size) (cs := #[.string l0, .string l1, .string l2]) (t := 39) (fr := (0, 0)) (List.mem_cons_of_mem _ (List.mem_cons_of_mem _ (List.mem_cons_of_mem _ (List.mem_cons_self ..)))) (0); have SS := Lib.hid (show _ from (And.intro t0 (And.intro t1 (And.intro t2 t3)))); clear t0 t1 t2 t3; have z0 : bu < u1.heap.size := lt_of_block (HL.out.get (b := bu) (o := .cells #[.int .u8 (uk : Int), .int .i64 ui, .string us] 25 (0, 0)) (List.mem_cons_self ..)); have z1 : by_ < u1.heap.size := lt_of_block (HL.out.get (b := by_) (o := .cells #[.int .u8 (yk : Int), .int .i64 yi, .string ys] 25 (0, 0)) (List.mem_cons_of_mem _ (List.mem_cons_self ..))); have z2 : bx < u1.heap.size := lt_of_block (HL.out.get (b := bx) (o := .cells #[.int .u8 (xk : Int), .int .i64 xi, .string xs] 25 (0, 0)) (List.mem_cons_of_mem _ (List.mem_cons_of_mem _ (List.mem_cons_self ..)))); have z3 : w.heap.size < u1.heap.size := lt_of_block (HL.out.get (b := w.heap.size) (o := .cells #[.string l0, .string l1, .string l2] 39 (0, 0)) (List.mem_cons_of_mem _ (List.mem_cons_of_mem _ (List.mem_cons_of_mem _ (List.mem_cons_self ..))))); have r0 : u1.cell? ⟨_, 0, none⟩ = some (.int .u8 0) := HM.out.cell 0; have r1 : u1.cell? ⟨_, 1, none⟩ = some (.int .i64 0) := HM.out.cell 1; have r2 : u1.cell? ⟨_, 2, none⟩ = some (.string ⟨#[]⟩) := HM.out.cell 2; have f0 : u1.frozen? ⟨_, 0, none⟩ = false := HM.out.free 0; have f1 : u1.frozen? ⟨_, 1, none⟩ = false := HM.out.free 1; have f2 : u1.frozen? ⟨_, 2, none⟩ = false := HM.out.free 2; have z9 : _ < u1.heap.size := lt_of_block HM.out.new))) | (go_at_call 8; (first | ((first | refine stepF HM.out (fun hB => two_is 10 2 0 l0 yk yi ys uk ui us g (by omega) (by omega) ykb (by omega) (by omega) yi0 yi1 KU2.out _ (HW.out _ hB)) ?_ | refine stepF HM.out.drew' (fun hB => two_is 10 2 0 l0 yk yi ys uk ui us g (by omega) (by omega) ykb (by omega) (by omega) yi0 yi1 KU2.out _ (HW.out _ hB)) ?_); intro u2 HM HL; have t0 : u2.cell? ⟨by_, 0, none⟩ = some (.int .u8 (yk : Int)) := HL.out.cell (b := by_) (cs := #[.int .u8 (yk : Int), .int .i64 yi, .string ys]) (t := 25) (fr := (0, 0)) (List.mem_cons_of_mem _ (List.mem_cons_self ..)) (0); have t1 : u2.cell? ⟨by_, 1, none⟩ = some (.int .i64 yi) := HL.out.cell (b := by_) (cs := #[.int .u8 (yk : Int), .int .i64 yi, .string ys]) (t := 25) (fr := (0, 0)) (List.mem_cons_of_mem _ (List.mem_cons_self ..)) (1); have t2 : u2.cell? ⟨by_, 2, none⟩ = some (.string ys) := HL.out.cell (b := by_) (cs := #[.int .u8 (yk : Int), .int .i64 yi, .string ys]) (t := 25) (fr := (0, 0)) (List.mem_cons_of_mem _ (List.mem_cons_self ..)) (2); have t3 : u2.cell? ⟨w.heap.size, 0, none⟩ = some (.string l0) := HL.out.cell (b := w.heap.size) (cs := #[.string l0, .string l1, .string l2]) (t := 39) (fr := (0, 0)) (List.mem_cons_of_mem _ (List.mem_cons_of_mem _ (List.mem_cons_of_mem _ (List.mem_cons_self ..)))) (0); have SS := Lib.hid (show _ from (And.intro t0 (And.intro t1 (And.intro t2 t3)))); clear t0 t1 t2 t3; have z0 : bu < u2.heap.size := lt_of_block (HL.out.get (b := bu) (o := .cells #[.int .u8 (uk : Int), .int .i64 ui, .string us] 25 (0, 0)) (List.mem_cons_self ..)); have z1 : by_ < u2.heap.size := lt_of_block (HL.out.get (b := by_) (o := .cells #[.int .u8 (yk : Int), .int .i64 yi, .string ys] 25 (0, 0)) (List.mem_cons_of_mem _ (List.mem_cons_self ..))); have z2 : bx < u2.heap.size := lt_of_block (HL.out.get (b := bx) (o := .cells #[.int .u8 (xk : Int), .int .i64 xi, .string xs] 25 (0, 0)) (List.mem_cons_of_mem _ (List.mem_cons_of_mem _ (List.mem_cons_self ..)))); have z3 : w.heap.size < u2.heap.size := lt_of_block (HL.out.get (b := w.heap.size) (o := .cells #[.string l0, .string l1, .string l2] 39 (0, 0)) (List.mem_cons_of_mem _ (List.mem_cons_of_mem _ (List.mem_cons_of_mem _ (List.mem_cons_self ..)))))) | ((first | refine stepZ HM.out (fun hB => two_is 10 2 0 l0 yk yi ys uk ui us g (by omega) (by omega) ykb (by omega) (by omega) yi0 yi1 KU2.out _ (HW.out _ hB)) ?_ | refine stepZ HM.out.zero (fun hB => two_is 10 2 0 l0 yk yi ys uk ui us g (by omega) (by omega) ykb (by omega) (by omega) yi0 yi1 KU2.out _ (HW.out _ hB)) ?_ | refine stepZ HM.out.zero.drew' (fun hB => two_is 10 2 0 l0 yk yi ys uk ui us g (by omega) (by omega) ykb (by omega) (by omega) yi0 yi1 KU2.out _ (HW.out _ hB)) ?_ | refine stepZ HM.out.drew'.zero (fun hB => two_is 10 2 0 l0 yk yi ys uk ui us g (by omega) (by omega) ykb (by omega) (by omega) yi0 yi1 KU2.out _ (HW.out _ hB)) ?_ | refine stepZ HM.out.drew' (fun hB => two_is 10 2 0 l0 yk yi ys uk ui us g (by omega) (by omega) ykb (by omega) (by omega) yi0 yi1 KU2.out _ (HW.out _ hB)) ?_); intro u2 HM HL; have t0 : u2.cell? ⟨by_, 0, none⟩ = some (.int .u8 (yk : Int)) := HL.out.cell (b := by_) (cs := #[.int .u8 (yk : Int), .int .i64 yi, .string ys]) (t := 25) (fr := (0, 0)) (List.mem_cons_of_mem _ (List.mem_cons_self ..)) (0); have t1 : u2.cell? ⟨by_, 1, none⟩ = some (.int .i64 yi) := HL.out.cell (b := by_) (cs := #[.int .u8 (yk : Int), .int .i64 yi, .string ys]) (t := 25) (fr := (0, 0)) (List.mem_cons_of_mem _ (List.mem_cons_self ..)) (1); have t2 : u2.cell? ⟨by_, 2, none⟩ = some (.string ys) := HL.out.cell (b := by_) (cs := #[.int .u8 (yk : Int), .int .i64 yi, .string ys]) (t := 25) (fr := (0, 0)) (List.mem_cons_of_mem _ (List.mem_cons_self ..)) (2); have t3 : u2.cell? ⟨w.heap.size, 0, none⟩ = some (.string l0) := HL.out.cell (b := w.heap.size) (cs := #[.string l0, .string l1, .string l2]) (t := 39) (fr := (0, 0)) (List.mem_cons_of_mem _ (List.mem_cons_of_mem _ (List.mem_cons_of_mem _ (List.mem_cons_self ..)))) (0); have SS := Lib.hid (show _ from (And.intro t0 (And.intro t1 (And.intro t2 t3)))); clear t0 t1 t2 t3; have z0 : bu < u2.heap.size := lt_of_block (HL.out.get (b := bu) (o := .cells #[.int .u8 (uk : Int), .int .i64 ui, .string us] 25 (0, 0)) (List.mem_cons_self ..)); have z1 : by_ < u2.heap.size := lt_of_block (HL.out.get (b := by_) (o := .cells #[.int .u8 (yk : Int), .int .i64 yi, .string ys] 25 (0, 0)) (List.mem_cons_of_mem _ (List.mem_cons_self ..))); have z2 : bx < u2.heap.size := lt_of_block (HL.out.get (b := bx) (o := .cells #[.int .u8 (xk : Int), .int .i64 xi, .string xs] 25 (0, 0)) (List.mem_cons_of_mem _ (List.mem_cons_of_mem _ (List.mem_cons_self ..)))); have z3 : w.heap.size < u2.heap.size := lt_of_block (HL.out.get (b := w.heap.size) (o := .cells #[.string l0, .string l1, .string l2] 39 (0, 0)) (List.mem_cons_of_mem _ (List.mem_cons_of_mem _ (List.mem_cons_of_mem _ (List.mem_cons_self ..))))); have r0 : u2.cell? ⟨_, 0, none⟩ = some (.int .u8 0) := HM.out.cell 0; have r1 : u2.cell? ⟨_, 1, none⟩ = some (.int .i64 0) := HM.out.cell 1; have r2 : u2.cell? ⟨_, 2, none⟩ = some (.string ⟨#[]⟩) := HM.out.cell 2; have f0 : u2.frozen? ⟨_, 0, none⟩ = false := HM.out.free 0; have f1 : u2.frozen? ⟨_, 1, none⟩ = false := HM.out.free 1; have f2 : u2.frozen? ⟨_, 2, none⟩ = false := HM.out.free 2; have z9 : _ < u2.heap.size := lt_of_block HM.out.new)))))
        all_goals (first | (obtain ⟨bx, hx, HO⟩ := endF (.cells #[.int .u8 (uk : Int), .int .i64 ui, .string us] 25 (0, 0)) HM.out; refine ⟨rfl, ?_⟩; (try rw [← hx] at HO); rw [← hx]; exact ⟨bx, rfl, HO⟩) | (obtain ⟨bx, hx, HO⟩ := endZ (.int .u8 (uk : Int)) (.int .i64 ui) (.string us) HM.out; refine ⟨rfl, ?_⟩; (try rw [← hx] at HO); rw [← hx]; exact ⟨bx, rfl, HO⟩))
      intro bv w5 H5
      clear HM HL s0 s1 s2 s3 z0 z1 z2 z3
      clear H4
      rcases KG.out with ⟨g0, g1⟩ | g0
      · clear KG
        have GE : (((g : Nat) : Int) == 0) = true := by rw [beq_iff_eq]; omega
        have GN : (((g : Nat) : Int) != 0) = false := by rw [bne_eq_false_iff_eq]; omega
        subst g1
        clear g0
        have s0 : w5.cell? ⟨w.heap.size, 0, none⟩ = some (.string l0) := H5.out.cell (b := w.heap.size) (cs := #[.string l0, .string l1, .string l2]) (t := 39) (fr := (0, 0)) (List.mem_cons_of_mem _ (List.mem_cons_of_mem _ (List.mem_cons_of_mem _ (List.mem_cons_of_mem _ (List.mem_cons_self ..))))) (0)
        have s1 : w5.cell? ⟨w.heap.size, 1, none⟩ = some (.string l1) := H5.out.cell (b := w.heap.size) (cs := #[.string l0, .string l1, .string l2]) (t := 39) (fr := (0, 0)) (List.mem_cons_of_mem _ (List.mem_cons_of_mem _ (List.mem_cons_of_mem _ (List.mem_cons_of_mem _ (List.mem_cons_self ..))))) (1)
        have s2 : w5.cell? ⟨w.heap.size, 2, none⟩ = some (.string l2) := H5.out.cell (b := w.heap.size) (cs := #[.string l0, .string l1, .string l2]) (t := 39) (fr := (0, 0)) (List.mem_cons_of_mem _ (List.mem_cons_of_mem _ (List.mem_cons_of_mem _ (List.mem_cons_of_mem _ (List.mem_cons_self ..))))) (2)
        have t0 : w5.cell? ⟨bv, 0, none⟩ = some (.int .u8 (uk : Int)) := H5.out.cell (b := bv) (cs := #[.int .u8 (uk : Int), .int .i64 ui, .string (l0 ++ l1 ++ l2)]) (t := 25) (fr := (0, 0)) (List.mem_cons_self ..) (0)
        have t1 : w5.cell? ⟨bv, 1, none⟩ = some (.int .i64 ui) := H5.out.cell (b := bv) (cs := #[.int .u8 (uk : Int), .int .i64 ui, .string (l0 ++ l1 ++ l2)]) (t := 25) (fr := (0, 0)) (List.mem_cons_self ..) (1)
        have t2 : w5.cell? ⟨bv, 2, none⟩ = some (.string (l0 ++ l1 ++ l2)) := H5.out.cell (b := bv) (cs := #[.int .u8 (uk : Int), .int .i64 ui, .string (l0 ++ l1 ++ l2)]) (t := 25) (fr := (0, 0)) (List.mem_cons_self ..) (2)
        have t3 : w5.cell? ⟨bu, 0, none⟩ = some (.int .u8 (uk : Int)) := H5.out.cell (b := bu) (cs := #[.int .u8 (uk : Int), .int .i64 ui, .string (l0 ++ l1 ++ l2)]) (t := 25) (fr := (0, 0)) (List.mem_cons_of_mem _ (List.mem_cons_self ..)) (0)
        have t4 : w5.cell? ⟨bu, 1, none⟩ = some (.int .i64 ui) := H5.out.cell (b := bu) (cs := #[.int .u8 (uk : Int), .int .i64 ui, .string (l0 ++ l1 ++ l2)]) (t := 25) (fr := (0, 0)) (List.mem_cons_of_mem _ (List.mem_cons_self ..)) (1)
        have t5 : w5.cell? ⟨bu, 2, none⟩ = some (.string (l0 ++ l1 ++ l2)) := H5.out.cell (b := bu) (cs := #[.int .u8 (uk : Int), .int .i64 ui, .string (l0 ++ l1 ++ l2)]) (t := 25) (fr := (0, 0)) (List.mem_cons_of_mem _ (List.mem_cons_self ..)) (2)
        go_wp2_with fail
        clear t0 t1 t2 t3 t4 t5
        clear s0 s1 s2
        refine stepF H5.out (fun hB => n_any _ _) ?_
        intro y1 HA1 _
        go_wp2_with fail
        refine stepF HA1.out (fun hB => s_any _ _) ?_
        intro y2 HA2 _
        go_wp2_with fail
        refine stepF HA2.out (fun hB => two_is 10 1 i _ 2 0 _ 2 0 dg 0 (by omega) (by omega) (by omega) i0 i1 (by omega) (by omega) Kd1.out _ (HW.out _ hB)) ?_
        intro y3 HA3 _
        go_wp2_with fail
        have HD0 := Lib.hid (HA3.out.add (below_alloc y3 (.cells #[.int .u8 2, .int .i64 0, .string dg] 25)) (Nat.le_refl _) (heap_alloc_new _ _))
        obtain ⟨bd, hbd⟩ : ∃ x, x = y3.heap.size := ⟨_, rfl⟩
        obtain ⟨y4, hy4⟩ : ∃ x, x = y3.alloc (.cells #[.int .u8 2, .int .i64 0, .string dg] 25) := ⟨_, rfl⟩
        rw [← hbd, ← hy4] at HD0
        rw [← hbd, ← hy4]
        clear hbd hy4 HA1 HA2 HA3 H5
        by_cases hm : i = -9223372036854775808
        · have M0 : (i == -9223372036854775808) = true := by simpa using hm
          clear hm
          have p0 : y4.cell? ⟨bd, 0, none⟩ = some (.int .u8 2) := HD0.out.cell (b := bd) (cs := #[.int .u8 2, .int .i64 0, .string dg]) (t := 25) (fr := (0, 0)) (List.mem_cons_self ..) (0)
          have p1 : y4.cell? ⟨bd, 1, none⟩ = some (.int .i64 0) := HD0.out.cell (b := bd) (cs := #[.int .u8 2, .int .i64 0, .string dg]) (t := 25) (fr := (0, 0)) (List.mem_cons_self ..) (1)
          have p2 : y4.cell? ⟨bd, 2, none⟩ = some (.string dg) := HD0.out.cell (b := bd) (cs := #[.int .u8 2, .int .i64 0, .string dg]) (t := 25) (fr := (0, 0)) (List.mem_cons_self ..) (2)
          have p3 : y4.cell? ⟨w.heap.size, 0, none⟩ = some (.string l0) := HD0.out.cell (b := w.heap.size) (cs := #[.string l0, .string l1, .string l2]) (t := 39) (fr := (0, 0)) (List.mem_cons_of_mem _ (List.mem_cons_of_mem _ (List.mem_cons_of_mem _ (List.mem_cons_of_mem _ (List.mem_cons_of_mem _ (List.mem_cons_self ..)))))) (0)
          have q0 := bwOf_cell y4 _ _ p0
          have q1 := bwOf_cell y4 _ _ p1
          have q2 := bwOf_cell y4 _ _ p2
          have q3 := bwOf_cell y4 _ _ p3
          clear p0 p1 p2 p3
          refine wp_region_bw (w := y4) (by kernel_rfl) (by kernel_rfl) ?_
          repeat (go_big_quiet_step (fail))
          go_big_quiet_step ((go_at_call 15; exact below_of (s_any _ _)))
          repeat (go_big_quiet_step (fail))
          go_big_quiet_step ((go_at_call 15; exact below_of (s_any _ _)))
          repeat (go_big_quiet_step (fail))
          go_big_quiet_step ((go_at_call 15; exact below_of (s_any _ _)))
          repeat (go_big_quiet_step (fail))
          go_big_quiet_step ((go_at_call 12; exact below_of (two_yes 10 2 0 l0 2 0 _ 2 0 l0 0 (by omega) (by omega) (by omega) (by omega) (by omega) (by omega) (by omega) (Kn1.out c512.out) _ (HW.out _ (below_end HD0.out.below (bwOf_below _ _))))))
          repeat (go_big_quiet_step (fail))
          go_big_quiet_step ((go_at_call 15; exact below_of (s_any _ _)))
          repeat (go_big_quiet_step (fail))
          go_big_quiet_step ((go_at_call 15; exact below_of (s_any _ _)))
          repeat (go_big_quiet_step (fail))
          go_big_quiet_step ((go_at_call 15; exact below_of (s_any _ _)))
          repeat (go_big_quiet_step (fail))
          go_big_quiet_step ((go_at_call 12; exact below_of (two_yes 10 2 0 _ 2 0 l0 2 0 l0 0 (by omega) (by omega) (by omega) (by omega) (by omega) (by omega) (by omega) (Kn2.out c512.out) _ (HW.out _ (below_end HD0.out.below (bwOf_below _ _))))))
          repeat (go_big_quiet_step (fail))
          go_big_quiet_step ((go_at_call 15; exact below_of (s_any _ _)))
          repeat (go_big_quiet_step (fail))
          go_big_quiet_step ((go_at_call 11; exact below_of (n_any _ _)))
          repeat (go_big_quiet_step (fail))
          go_big_quiet_step ((go_at_call 12; exact below_of (two_yes 10 2 0 _ 1 i _ 2 0 dg 0 (by omega) (by omega) (by omega) (by omega) (by omega) i0 i1 Kd2.out _ (HW.out _ (below_end HD0.out.below (bwOf_below _ _))))))
          repeat (go_big_quiet_step (fail))
          refine wpQuiet_nil ?_
          rintro y5 ⟨m, rfl⟩
          have H9 := Lib.hid (HD0.out.kept (bwOf_below y4 m))
          clear q0 q1 q2 q3
          generalize bwOf y4 m = y5 at *
          go_wp2
          go_ret
          exact ⟨rfl, H9.out.below⟩
        · have M0 : (i == -9223372036854775808) = false := by simpa using hm
          have KT := Lib.hid (Kdt.out hm)
          clear hm
          have p0 : y4.cell? ⟨bd, 0, none⟩ = some (.int .u8 2) := HD0.out.cell (b := bd) (cs := #[.int .u8 2, .int .i64 0, .string dg]) (t := 25) (fr := (0, 0)) (List.mem_cons_self ..) (0)
          have p1 : y4.cell? ⟨bd, 1, none⟩ = some (.int .i64 0) := HD0.out.cell (b := bd) (cs := #[.int .u8 2, .int .i64 0, .string dg]) (t := 25) (fr := (0, 0)) (List.mem_cons_self ..) (1)
          have p2 : y4.cell? ⟨bd, 2, none⟩ = some (.string dg) := HD0.out.cell (b := bd) (cs := #[.int .u8 2, .int .i64 0, .string dg]) (t := 25) (fr := (0, 0)) (List.mem_cons_self ..) (2)
          have p3 : y4.cell? ⟨w.heap.size, 0, none⟩ = some (.string l0) := HD0.out.cell (b := w.heap.size) (cs := #[.string l0, .string l1, .string l2]) (t := 39) (fr := (0, 0)) (List.mem_cons_of_mem _ (List.mem_cons_of_mem _ (List.mem_cons_of_mem _ (List.mem_cons_of_mem _ (List.mem_cons_of_mem _ (List.mem_cons_self ..)))))) (0)
          have q0 := bwOf_cell y4 _ _ p0
          have q1 := bwOf_cell y4 _ _ p1
          have q2 := bwOf_cell y4 _ _ p2
          have q3 := bwOf_cell y4 _ _ p3
          clear p0 p1 p2 p3
          refine wp_region_bw (w := y4) (by kernel_rfl) (by kernel_rfl) ?_
          repeat (go_big_quiet_step (fail))
          go_big_quiet_step ((go_at_call 15; exact below_of (s_any _ _)))
          repeat (go_big_quiet_step (fail))
          go_big_quiet_step ((go_at_call 15; exact below_of (s_any _ _)))
          repeat (go_big_quiet_step (fail))
          go_big_quiet_step ((go_at_call 15; exact below_of (s_any _ _)))
          repeat (go_big_quiet_step (fail))
          go_big_quiet_step ((go_at_call 12; exact below_of (two_yes 10 2 0 l0 2 0 _ 2 0 l0 0 (by omega) (by omega) (by omega) (by omega) (by omega) (by omega) (by omega) (Kn1.out c512.out) _ (HW.out _ (below_end HD0.out.below (bwOf_below _ _))))))
          repeat (go_big_quiet_step (fail))
          go_big_quiet_step ((go_at_call 15; exact below_of (s_any _ _)))
          repeat (go_big_quiet_step (fail))
          go_big_quiet_step ((go_at_call 15; exact below_of (s_any _ _)))
          repeat (go_big_quiet_step (fail))
          go_big_quiet_step ((go_at_call 15; exact below_of (s_any _ _)))
          repeat (go_big_quiet_step (fail))
          go_big_quiet_step ((go_at_call 12; exact below_of (two_yes 10 2 0 _ 2 0 l0 2 0 l0 0 (by omega) (by omega) (by omega) (by omega) (by omega) (by omega) (by omega) (Kn2.out c512.out) _ (HW.out _ (below_end HD0.out.below (bwOf_below _ _))))))
          repeat (go_big_quiet_step (fail))
          go_big_quiet_step ((go_at_call 11; exact below_of (n_any _ _)))
          repeat (go_big_quiet_step (fail))
          go_big_quiet_step ((go_at_call 16; exact below_of (text_is 1 i _ dg (by omega) i0 i1 KT.out _ (HW.out _ (below_end HD0.out.below (bwOf_below _ _))))))
          repeat (go_big_quiet_step (fail))
          go_big_quiet_step ((go_at_call 15; exact below_of (s_any _ _)))
          repeat (go_big_quiet_step (fail))
          go_big_quiet_step ((go_at_call 11; exact below_of (n_any _ _)))
          repeat (go_big_quiet_step (fail))
          go_big_quiet_step ((go_at_call 12; exact below_of (two_yes 10 2 0 _ 1 i _ 2 0 dg 0 (by omega) (by omega) (by omega) (by omega) (by omega) i0 i1 Kd2.out _ (HW.out _ (below_end HD0.out.below (bwOf_below _ _))))))
          repeat (go_big_quiet_step (fail))
          refine wpQuiet_nil ?_
          rintro y5 ⟨m, rfl⟩
          have H9 := Lib.hid (HD0.out.kept (bwOf_below y4 m))
          clear q0 q1 q2 q3
          generalize bwOf y4 m = y5 at *
          go_wp2
          go_ret
          exact ⟨rfl, H9.out.below⟩
      · clear KG
        have GE : (((g : Nat) : Int) == 0) = false := by rw [beq_eq_false_iff_ne]; omega
        have GN : (((g : Nat) : Int) != 0) = true := by rw [bne_iff_ne]; omega
        clear g0
        have s0 : w5.cell? ⟨w.heap.size, 0, none⟩ = some (.string l0) := H5.out.cell (b := w.heap.size) (cs := #[.string l0, .string l1, .string l2]) (t := 39) (fr := (0, 0)) (List.mem_cons_of_mem _ (List.mem_cons_of_mem _ (List.mem_cons_of_mem _ (List.mem_cons_of_mem _ (List.mem_cons_self ..))))) (0)
        have s1 : w5.cell? ⟨w.heap.size, 1, none⟩ = some (.string l1) := H5.out.cell (b := w.heap.size) (cs := #[.string l0, .string l1, .string l2]) (t := 39) (fr := (0, 0)) (List.mem_cons_of_mem _ (List.mem_cons_of_mem _ (List.mem_cons_of_mem _ (List.mem_cons_of_mem _ (List.mem_cons_self ..))))) (1)
        have s2 : w5.cell? ⟨w.heap.size, 2, none⟩ = some (.string l2) := H5.out.cell (b := w.heap.size) (cs := #[.string l0, .string l1, .string l2]) (t := 39) (fr := (0, 0)) (List.mem_cons_of_mem _ (List.mem_cons_of_mem _ (List.mem_cons_of_mem _ (List.mem_cons_of_mem _ (List.mem_cons_self ..))))) (2)
        have t0 : w5.cell? ⟨bv, 0, none⟩ = some (.int .u8 (uk : Int)) := H5.out.cell (b := bv) (cs := #[.int .u8 (uk : Int), .int .i64 ui, .string us]) (t := 25) (fr := (0, 0)) (List.mem_cons_self ..) (0)
        have t1 : w5.cell? ⟨bv, 1, none⟩ = some (.int .i64 ui) := H5.out.cell (b := bv) (cs := #[.int .u8 (uk : Int), .int .i64 ui, .string us]) (t := 25) (fr := (0, 0)) (List.mem_cons_self ..) (1)
        have t2 : w5.cell? ⟨bv, 2, none⟩ = some (.string us) := H5.out.cell (b := bv) (cs := #[.int .u8 (uk : Int), .int .i64 ui, .string us]) (t := 25) (fr := (0, 0)) (List.mem_cons_self ..) (2)
        have t3 : w5.cell? ⟨bu, 0, none⟩ = some (.int .u8 (uk : Int)) := H5.out.cell (b := bu) (cs := #[.int .u8 (uk : Int), .int .i64 ui, .string us]) (t := 25) (fr := (0, 0)) (List.mem_cons_of_mem _ (List.mem_cons_self ..)) (0)
        have t4 : w5.cell? ⟨bu, 1, none⟩ = some (.int .i64 ui) := H5.out.cell (b := bu) (cs := #[.int .u8 (uk : Int), .int .i64 ui, .string us]) (t := 25) (fr := (0, 0)) (List.mem_cons_of_mem _ (List.mem_cons_self ..)) (1)
        have t5 : w5.cell? ⟨bu, 2, none⟩ = some (.string us) := H5.out.cell (b := bu) (cs := #[.int .u8 (uk : Int), .int .i64 ui, .string us]) (t := 25) (fr := (0, 0)) (List.mem_cons_of_mem _ (List.mem_cons_self ..)) (2)
        go_wp2_with fail
        clear t0 t1 t2 t3 t4 t5
        clear s0 s1 s2
        refine stepF H5.out (fun hB => n_any _ _) ?_
        intro y1 HA1 _
        go_wp2_with fail
        refine stepF HA1.out (fun hB => s_any _ _) ?_
        intro y2 HA2 _
        go_wp2_with fail
        refine stepF HA2.out (fun hB => two_is 10 1 i _ 2 0 _ 2 0 dg 0 (by omega) (by omega) (by omega) i0 i1 (by omega) (by omega) Kd1.out _ (HW.out _ hB)) ?_
        intro y3 HA3 _
        go_wp2_with fail
        have HD0 := Lib.hid (HA3.out.add (below_alloc y3 (.cells #[.int .u8 2, .int .i64 0, .string dg] 25)) (Nat.le_refl _) (heap_alloc_new _ _))
        obtain ⟨bd, hbd⟩ : ∃ x, x = y3.heap.size := ⟨_, rfl⟩
        obtain ⟨y4, hy4⟩ : ∃ x, x = y3.alloc (.cells #[.int .u8 2, .int .i64 0, .string dg] 25) := ⟨_, rfl⟩
        rw [← hbd, ← hy4] at HD0
        rw [← hbd, ← hy4]
        clear hbd hy4 HA1 HA2 HA3 H5
        by_cases hm : i = -9223372036854775808
        · have M0 : (i == -9223372036854775808) = true := by simpa using hm
          clear hm
          have p0 : y4.cell? ⟨bd, 0, none⟩ = some (.int .u8 2) := HD0.out.cell (b := bd) (cs := #[.int .u8 2, .int .i64 0, .string dg]) (t := 25) (fr := (0, 0)) (List.mem_cons_self ..) (0)
          have p1 : y4.cell? ⟨bd, 1, none⟩ = some (.int .i64 0) := HD0.out.cell (b := bd) (cs := #[.int .u8 2, .int .i64 0, .string dg]) (t := 25) (fr := (0, 0)) (List.mem_cons_self ..) (1)
          have p2 : y4.cell? ⟨bd, 2, none⟩ = some (.string dg) := HD0.out.cell (b := bd) (cs := #[.int .u8 2, .int .i64 0, .string dg]) (t := 25) (fr := (0, 0)) (List.mem_cons_self ..) (2)
          have p3 : y4.cell? ⟨w.heap.size, 0, none⟩ = some (.string l0) := HD0.out.cell (b := w.heap.size) (cs := #[.string l0, .string l1, .string l2]) (t := 39) (fr := (0, 0)) (List.mem_cons_of_mem _ (List.mem_cons_of_mem _ (List.mem_cons_of_mem _ (List.mem_cons_of_mem _ (List.mem_cons_of_mem _ (List.mem_cons_self ..)))))) (0)
          have q0 := bwOf_cell y4 _ _ p0
          have q1 := bwOf_cell y4 _ _ p1
          have q2 := bwOf_cell y4 _ _ p2
          have q3 := bwOf_cell y4 _ _ p3
          clear p0 p1 p2 p3
          refine wp_region_bw (w := y4) (by kernel_rfl) (by kernel_rfl) ?_
          repeat (go_big_quiet_step (fail))
          go_big_quiet_step ((go_at_call 15; exact below_of (s_any _ _)))
          repeat (go_big_quiet_step (fail))
          go_big_quiet_step ((go_at_call 15; exact below_of (s_any _ _)))
          repeat (go_big_quiet_step (fail))
          go_big_quiet_step ((go_at_call 15; exact below_of (s_any _ _)))
          repeat (go_big_quiet_step (fail))
          go_big_quiet_step ((go_at_call 12; exact below_of (two_yes 10 2 0 l0 2 0 _ 2 0 l0 0 (by omega) (by omega) (by omega) (by omega) (by omega) (by omega) (by omega) (Kn1.out c512.out) _ (HW.out _ (below_end HD0.out.below (bwOf_below _ _))))))
          repeat (go_big_quiet_step (fail))
          go_big_quiet_step ((go_at_call 15; exact below_of (s_any _ _)))
          repeat (go_big_quiet_step (fail))
          go_big_quiet_step ((go_at_call 15; exact below_of (s_any _ _)))
          repeat (go_big_quiet_step (fail))
          go_big_quiet_step ((go_at_call 15; exact below_of (s_any _ _)))
          repeat (go_big_quiet_step (fail))
          go_big_quiet_step ((go_at_call 12; exact below_of (two_yes 10 2 0 _ 2 0 l0 2 0 l0 0 (by omega) (by omega) (by omega) (by omega) (by omega) (by omega) (by omega) (Kn2.out c512.out) _ (HW.out _ (below_end HD0.out.below (bwOf_below _ _))))))
          repeat (go_big_quiet_step (fail))
          go_big_quiet_step ((go_at_call 15; exact below_of (s_any _ _)))
          repeat (go_big_quiet_step (fail))
          go_big_quiet_step ((go_at_call 11; exact below_of (n_any _ _)))
          repeat (go_big_quiet_step (fail))
          go_big_quiet_step ((go_at_call 12; exact below_of (two_yes 10 2 0 _ 1 i _ 2 0 dg 0 (by omega) (by omega) (by omega) (by omega) (by omega) i0 i1 Kd2.out _ (HW.out _ (below_end HD0.out.below (bwOf_below _ _))))))
          repeat (go_big_quiet_step (fail))
          refine wpQuiet_nil ?_
          rintro y5 ⟨m, rfl⟩
          have H9 := Lib.hid (HD0.out.kept (bwOf_below y4 m))
          clear q0 q1 q2 q3
          generalize bwOf y4 m = y5 at *
          go_wp2
          go_ret
          exact ⟨rfl, H9.out.below⟩
        · have M0 : (i == -9223372036854775808) = false := by simpa using hm
          have KT := Lib.hid (Kdt.out hm)
          clear hm
          have p0 : y4.cell? ⟨bd, 0, none⟩ = some (.int .u8 2) := HD0.out.cell (b := bd) (cs := #[.int .u8 2, .int .i64 0, .string dg]) (t := 25) (fr := (0, 0)) (List.mem_cons_self ..) (0)
          have p1 : y4.cell? ⟨bd, 1, none⟩ = some (.int .i64 0) := HD0.out.cell (b := bd) (cs := #[.int .u8 2, .int .i64 0, .string dg]) (t := 25) (fr := (0, 0)) (List.mem_cons_self ..) (1)
          have p2 : y4.cell? ⟨bd, 2, none⟩ = some (.string dg) := HD0.out.cell (b := bd) (cs := #[.int .u8 2, .int .i64 0, .string dg]) (t := 25) (fr := (0, 0)) (List.mem_cons_self ..) (2)
          have p3 : y4.cell? ⟨w.heap.size, 0, none⟩ = some (.string l0) := HD0.out.cell (b := w.heap.size) (cs := #[.string l0, .string l1, .string l2]) (t := 39) (fr := (0, 0)) (List.mem_cons_of_mem _ (List.mem_cons_of_mem _ (List.mem_cons_of_mem _ (List.mem_cons_of_mem _ (List.mem_cons_of_mem _ (List.mem_cons_self ..)))))) (0)
          have q0 := bwOf_cell y4 _ _ p0
          have q1 := bwOf_cell y4 _ _ p1
          have q2 := bwOf_cell y4 _ _ p2
          have q3 := bwOf_cell y4 _ _ p3
          clear p0 p1 p2 p3
          refine wp_region_bw (w := y4) (by kernel_rfl) (by kernel_rfl) ?_
          repeat (go_big_quiet_step (fail))
          go_big_quiet_step ((go_at_call 15; exact below_of (s_any _ _)))
          repeat (go_big_quiet_step (fail))
          go_big_quiet_step ((go_at_call 15; exact below_of (s_any _ _)))
          repeat (go_big_quiet_step (fail))
          go_big_quiet_step ((go_at_call 15; exact below_of (s_any _ _)))
          repeat (go_big_quiet_step (fail))
          go_big_quiet_step ((go_at_call 12; exact below_of (two_yes 10 2 0 l0 2 0 _ 2 0 l0 0 (by omega) (by omega) (by omega) (by omega) (by omega) (by omega) (by omega) (Kn1.out c512.out) _ (HW.out _ (below_end HD0.out.below (bwOf_below _ _))))))
          repeat (go_big_quiet_step (fail))
          go_big_quiet_step ((go_at_call 15; exact below_of (s_any _ _)))
          repeat (go_big_quiet_step (fail))
          go_big_quiet_step ((go_at_call 15; exact below_of (s_any _ _)))
          repeat (go_big_quiet_step (fail))
          go_big_quiet_step ((go_at_call 15; exact below_of (s_any _ _)))
          repeat (go_big_quiet_step (fail))
          go_big_quiet_step ((go_at_call 12; exact below_of (two_yes 10 2 0 _ 2 0 l0 2 0 l0 0 (by omega) (by omega) (by omega) (by omega) (by omega) (by omega) (by omega) (Kn2.out c512.out) _ (HW.out _ (below_end HD0.out.below (bwOf_below _ _))))))
          repeat (go_big_quiet_step (fail))
          go_big_quiet_step ((go_at_call 11; exact below_of (n_any _ _)))
          repeat (go_big_quiet_step (fail))
          go_big_quiet_step ((go_at_call 16; exact below_of (text_is 1 i _ dg (by omega) i0 i1 KT.out _ (HW.out _ (below_end HD0.out.below (bwOf_below _ _))))))
          repeat (go_big_quiet_step (fail))
          go_big_quiet_step ((go_at_call 15; exact below_of (s_any _ _)))
          repeat (go_big_quiet_step (fail))
          go_big_quiet_step ((go_at_call 11; exact below_of (n_any _ _)))
          repeat (go_big_quiet_step (fail))
          go_big_quiet_step ((go_at_call 12; exact below_of (two_yes 10 2 0 _ 1 i _ 2 0 dg 0 (by omega) (by omega) (by omega) (by omega) (by omega) i0 i1 Kd2.out _ (HW.out _ (below_end HD0.out.below (bwOf_below _ _))))))
          repeat (go_big_quiet_step (fail))
          refine wpQuiet_nil ?_
          rintro y5 ⟨m, rfl⟩
          have H9 := Lib.hid (HD0.out.kept (bwOf_below y4 m))
          clear q0 q1 q2 q3
          generalize bwOf y4 m = y5 at *
          go_wp2
          go_ret
          exact ⟨rfl, H9.out.below⟩
theorem walk_ValuesJoin (l0 l1 l2 : ByteArray) (z0b : l0.size ≤ 140737488351232) (z1b : l1.size ≤ 140737488351232) (z2b : l2.size ≤ 140737488351232) (i : Int) (hi : (Lit.int .i64 i).wf = true) {w : World} (hw : Wd w) :
    Calls Tryd.prog 6 #[.agg #[.string l0, .string l1, .string l2], .int .i64 i] w fun e w' => e = .returned (.bool true) ∧ Below w.heap.size w w' := by
  have i0 := wf_i64 hi
  cases hbig : decide ((2000 : Int) < (l0.size : Int) + (l1.size : Int) + (l2.size : Int)) with
  | true => exact join_long l0 l1 l2 z0b z1b z2b i i0.1 i0.2 hbig w hw
  | false =>
    have hbn : ¬ 2000 < l0.size + l1.size + l2.size := by
      rw [decide_eq_false_iff_not] at hbig
      omega
    obtain ⟨xk, xi, xs, e, yk, yi, ys, f, hr1, hr2, xkb, xib, ykb, yib, hc⟩ := join_cases l0 l1 l2
    obtain ⟨dg, hd1, hd2, hdt⟩ := join_digits i i0.1 i0.2
    exact join_body l0 l1 l2 z0b z1b z2b i i0.1 i0.2 hbig hbn xk xi xs e yk yi ys f dg hr1 hr2 xkb xib.1 xib.2 ykb yib.1 yib.2 hd1 hd2 hdt (fun h => (join_none h).1) (fun h => (join_none h).2) hc w hw
end Go.Proofs.YtjjfmmimmfihgaaDoor
