/-
  WHAT IS PROVED: the walk of RowsKeys: keys stand as their values do.
-/
import Derived.Test.YtjjfmmimmfihgabGreatDoorRowM
import Derived.Test.YtjjfmmimmfihgabGreatDoorBegins
import Derived.Test.YtjjfmmimmfihgabGreatDoorCmp5
namespace Go.Proofs.YtjjfmmimmfihgabGreatDoor
open Go.RowKit Go.Lib
set_option linter.unusedVariables false

theorem cmp_range (u v : Val) : Val.cmp u v = -1 ∨ Val.cmp u v = 0 ∨ Val.cmp u v = 1 := by
  have hc : ∀ (l m : List UInt8), compareBytes l m = -1 ∨ compareBytes l m = 0 ∨ compareBytes l m = 1 := by
    intro l
    induction l with
    | nil => intro m; cases m <;> simp [compareBytes]
    | cons a r ih =>
      intro m
      cases m with
      | nil => simp [compareBytes]
      | cons b s =>
        unfold compareBytes
        split
        · simp
        · split
          · simp
          · exact ih s
  unfold Val.cmp
  split
  · simp
  · split
    · simp
    · split
      · simp
      · split
        · simp
        · exact hc _ _
theorem want_at : ∀ (k : Nat) (l m : List Val) (x y : Val), l.take k = m.take k → l[k]? = some x → m[k]? = some y → Val.cmp x y ≠ 0 → wantL l m = Val.cmp x y
  | 0, l, m, x, y, _, hx, hy, hne => by
    cases l with
    | nil => simp at hx
    | cons u l => cases m with
      | nil => simp at hy
      | cons v m =>
        simp at hx hy
        subst hx hy
        rw [wantL, if_neg hne]
  | k + 1, l, m, x, y, h, hx, hy, hne => by
    cases l with
    | nil => simp at hx
    | cons u l => cases m with
      | nil => simp at hy
      | cons v m =>
        simp only [List.take_succ_cons, List.cons.injEq] at h
        rw [wantL, h.1, if_pos (cmp_self v)]
        exact want_at k l m x y h.2 (by simpa using hx) (by simpa using hy) hne
theorem want_len : ∀ (k : Nat) (l m : List Val), l.take k = m.take k → (l.length ≤ k ∨ m.length ≤ k) → k ≤ l.length → k ≤ m.length → wantL l m = if l.length < m.length then -1 else if m.length < l.length then 1 else 0
  | 0, l, m, _, h, _, _ => by
    cases l with
    | nil => cases m with
      | nil => rfl
      | cons v m => simp [wantL]
    | cons u l => cases m with
      | nil => simp [wantL]
      | cons v m => simp at h
  | k + 1, l, m, h, hk, h1, h2 => by
    cases l with
    | nil => simp at h1
    | cons u l => cases m with
      | nil => simp at h2
      | cons v m =>
        simp only [List.take_succ_cons, List.cons.injEq] at h
        rw [wantL, h.1, if_pos (cmp_self v), want_len k l m h.2 (by simpa using hk) (by simpa using h1) (by simpa using h2)]
        simp
theorem less_key {a b : List Nat} (ha : ∀ x ∈ a, x < 256) (hb : ∀ x ∈ b, x < 256) : Op.bytesLess (strB a).toList (strB b).toList = decide (cmpN a b = -1) := by
  rw [ByteArray.toList_eq, ByteArray.toList_eq]
  have h := cmpN_bytes a b ha hb
  have h2 : ∀ x y : List UInt8, Op.bytesLess x y = decide (compareBytes x y = -1) := by
    intro x
    induction x with
    | nil => intro y; cases y <;> simp [Op.bytesLess, compareBytes]
    | cons c r ih =>
      intro y
      cases y with
      | nil => simp [Op.bytesLess, compareBytes]
      | cons d s =>
        unfold Op.bytesLess compareBytes
        rw [ih s]
        by_cases e1 : c < d
        · simp [e1]
        · by_cases e2 : d < c
          · have e4 : c ≠ d := by
              intro e5
              subst e5
              exact UInt8.lt_irrefl _ e2
            simp [e1, e2, e4]
          · rw [if_neg e1, if_neg e2]
            have e3 : c = d := UInt8.le_antisymm (UInt8.not_lt.1 e2) (UInt8.not_lt.1 e1)
            subst e3
            simp [e1]
  rw [h2]
  show decide (compareBytes (a.map UInt8.ofNat).toArray.toList (b.map UInt8.ofNat).toArray.toList = -1) = _
  rw [List.toList_toArray, List.toList_toArray, h]
theorem cmpN_flip : ∀ a b : List Nat, cmpN b a = - cmpN a b
  | [], [] => rfl
  | [], _ :: _ => rfl
  | _ :: _, [] => rfl
  | x :: a, y :: b => by
    rw [cmpN, cmpN]
    by_cases h1 : x < y
    · rw [if_neg (by omega : ¬ y < x), if_pos h1, if_pos h1]; rfl
    · by_cases h2 : y < x
      · rw [if_pos h2, if_neg h1, if_pos h2]
      · rw [if_neg h2, if_neg h1, if_neg h1, if_neg h2]; exact cmpN_flip a b
theorem cmpN_eq : ∀ a b : List Nat, cmpN a b = 0 → a = b
  | [], [], _ => rfl
  | [], _ :: _, h => by simp [cmpN] at h
  | _ :: _, [], h => by simp [cmpN] at h
  | x :: a, y :: b, h => by
    rw [cmpN] at h
    by_cases h1 : x < y
    · rw [if_pos h1] at h; exact absurd h (by omega)
    · by_cases h2 : y < x
      · rw [if_neg h1, if_pos h2] at h; exact absurd h (by omega)
      · rw [if_neg h1, if_neg h2] at h
        rw [cmpN_eq a b h, show x = y by omega]
set_option maxRecDepth 100000 in
set_option maxHeartbeats 32000000 in
theorem walk_RowsKeys (ao : Option Addr) (n cap : Nat) (vs : List Val) {w : World} (hr : RowV w ao n cap vs) (bo : Option Addr) (m cbp : Nat) (us : List Val) (hs : RowV w bo m cbp us) (hw : Wm w) :
    Calls Tryz.prog 5 #[.slice ao n cap, .slice bo m cbp] w fun e w' => e = .returned (.bool true) ∧ Below w.heap.size w w' := by
  have HW : Hid (∀ x, Below w.heap.size w x → Wm x) := Lib.hid (fun _ h => hw.kept h)
  have HB0 := Lib.hid (Below.refl w.heap.size w)
  have hlen := Lib.hid hr.len
  have hmen := Lib.hid hs.len
  have hroom := hr.room
  have hmost := hr.most
  have hroom2 := hs.room
  have hmost2 := hs.most
  have HV := Lib.hid hr
  have HU := Lib.hid hs
  clear hw hr hs
  go_enter Tryz.func5, Tryz.ntmps5
  go_wp2_with fail
  refine (alive5_yes w (HW.out _ HB0.out)).mono ?_
  rintro e w1 ⟨rfl, hb⟩
  have HB1 := Lib.hid hb
  clear hb
  go_wp2_with fail
  refine (valuesSize_any ao n cap vs w1 (HV.out.kept HB1.out)).mono ?_
  rintro e w2 ⟨r1, rfl, hb⟩
  have HB2 := Lib.hid (below_next HB1.out hb)
  clear hb
  go_wp2_with fail
  refine (valuesSize_any bo m cbp us w2 (HU.out.kept HB2.out)).mono ?_
  rintro e w3 ⟨r2, rfl, hb⟩
  have HB3 := Lib.hid (below_next HB2.out hb)
  clear hb
  obtain ⟨B, hB⟩ : ∃ B, decide ((20000 : Int) < wrap64 (r1 + r2)) = B := ⟨_, rfl⟩
  cases B with
  | true =>
    go_wp2_with fail
    refine (alive5_yes w3 (HW.out _ HB3.out)).mono ?_
    rintro e w4 ⟨rfl, hb⟩
    have HB4 := Lib.hid (below_next HB3.out hb)
    clear hb
    go_wp2
    go_ret
    exact ⟨rfl, HB4.out⟩
  | false =>
    go_wp2_with fail
    have hc := fine5_any ao n cap vs w3 (HV.out.kept HB3.out)
    cases hf : (List.all vs Val.fine && decide (List.length vs ≤ 16)) with
    | false =>
      rw [hf] at hc
      refine hc.mono ?_
      clear hc hf
      rintro e w4 ⟨rfl, hb⟩
      have HB4 := Lib.hid (below_next HB3.out hb)
      clear hb
      go_wp2_with fail
      refine (alive5_yes w4 (HW.out _ HB4.out)).mono ?_
      rintro e w5 ⟨rfl, hb⟩
      have HB5 := Lib.hid (below_next HB4.out hb)
      clear hb
      go_wp2
      go_ret
      exact ⟨rfl, HB5.out⟩
    | true =>
      rw [hf] at hc
      refine hc.mono ?_
      clear hc
      rw [Bool.and_eq_true, decide_eq_true_eq] at hf
      have HCa : Hid (chkV vs = 0) := Lib.hid (by unfold chkV; rw [if_neg (by omega), if_neg (by rw [hf.1]; simp)])
      clear hf
      rintro e w4 ⟨rfl, hb⟩
      have HB4 := Lib.hid (below_next HB3.out hb)
      clear hb
      go_wp2_with fail
      have hc := fine5_any bo m cbp us w4 (HU.out.kept HB4.out)
      cases hf : (List.all us Val.fine && decide (List.length us ≤ 16)) with
      | false =>
        rw [hf] at hc
        refine hc.mono ?_
        clear hc hf
        rintro e w5 ⟨rfl, hb⟩
        have HB5 := Lib.hid (below_next HB4.out hb)
        clear hb
        go_wp2_with fail
        refine (alive5_yes w5 (HW.out _ HB5.out)).mono ?_
        rintro e w6 ⟨rfl, hb⟩
        have HB6 := Lib.hid (below_next HB5.out hb)
        clear hb
        go_wp2
        go_ret
        exact ⟨rfl, HB6.out⟩
      | true =>
        rw [hf] at hc
        refine hc.mono ?_
        clear hc
        rw [Bool.and_eq_true, decide_eq_true_eq] at hf
        have HCb : Hid (chkV us = 0) := Lib.hid (by unfold chkV; rw [if_neg (by omega), if_neg (by rw [hf.1]; simp)])
        clear hf
        rintro e w5 ⟨rfl, hb⟩
        have HB5 := Lib.hid (below_next HB4.out hb)
        clear hb
        go_wp2_with fail
        refine (rkey_ok ao n cap vs w5 (HW.out _ HB5.out) (HV.out.kept HB5.out) HCa.out).mono ?_
        rintro e w6 ⟨a_a, n_a, c_a, rfl, hr, _, hb⟩
        have HB6 := Lib.hid (below_next HB5.out hb)
        have HA6 := Lib.hid hr
        clear hb hr
        go_wp2_with fail
        refine (rkey_ok bo m cbp us w6 (HW.out _ HB6.out) (HU.out.kept HB6.out) HCb.out).mono ?_
        rintro e w7 ⟨a_b, n_b, c_b, rfl, hr, _, hb⟩
        have HB7 := Lib.hid (below_next HB6.out hb)
        have HA7 := Lib.hid (HA6.out.kept hb)
        have HE7 := Lib.hid hr
        clear hb hr HA6
        have FA : Hid (∀ x ∈ vs, x.fine = true ∧ x.In) := Lib.hid (fun x hx => ⟨(chkV_ok HCa.out).2 x hx, HV.out.each x hx⟩)
        have FB : Hid (∀ x ∈ us, x.fine = true ∧ x.In) := Lib.hid (fun x hx => ⟨(chkV_ok HCb.out).2 x hx, HU.out.each x hx⟩)
        have HK : Hid (cmpN (keyL vs) (keyL us) = wantL vs us) := Lib.hid (keys_cmp _ _ FA.out FB.out)
        have HK2 : Hid (cmpN (keyL us) (keyL vs) = - wantL vs us) := Lib.hid (by rw [cmpN_flip, HK.out])
        go_wp2_with fail
        go_loopw [9, 10] (fun t i wr => ∃ (k : Nat) (c : Int), k ≤ n ∧ k ≤ m ∧ i = .int .i64 k ∧ t = .int .i64 c ∧ Hid (c = 0 ∧ vs.take k = us.take k ∨ (c = -1 ∨ c = 1) ∧ wantL vs us = c) ∧ Hid (Below w7.heap.size w7 wr)) (fun _ i _ => n - (RowKit.intOf i).toNat)
        case atStart => exact ⟨0, 0, by omega, by omega, rfl, rfl, Lib.hid (Or.inl ⟨rfl, by simp⟩), Lib.hid (Below.refl _ _)⟩
        case round =>
          obtain ⟨k, c, hk1, hk2, rfl, rfl, HS, HB⟩ := hrel
          have HV2 := Lib.hid (HV.out.kept (below_next HB7.out HB.out))
          have HU2 := Lib.hid (HU.out.kept (below_next HB7.out HB.out))
          rcases HS.out with ⟨hc, htk⟩ | ⟨hc, hwt⟩
          · subst hc
            have HTK := Lib.hid htk
            clear htk
            by_cases hlt : k < n ∧ k < m
            · obtain ⟨hlt1, hlt2⟩ := hlt
              have g1 : decide ((k : Int) < (n : Int)) = true := by rw [decide_eq_true_iff]; omega
              have g2 : decide ((k : Int) < (m : Int)) = true := by rw [decide_eq_true_iff]; omega
              obtain ⟨x, hx⟩ : ∃ x, vs[k]? = some x := ⟨vs[k]'(by rw [hlen.out]; exact hlt1), by simp [hlen.out, hlt1]⟩
              obtain ⟨y, hy⟩ : ∃ y, us[k]? = some y := ⟨us[k]'(by rw [hmen.out]; exact hlt2), by simp [hmen.out, hlt2]⟩
              obtain ⟨b, off, rfl, _, _⟩ := HV2.out.lies (by omega)
              obtain ⟨b', off', rfl, _, _⟩ := HU2.out.lies (by omega)
              obtain ⟨c0, c1, c2⟩ := HV2.out.at3 hx
              obtain ⟨d0, d1, d2⟩ := HU2.out.at3 hy
              obtain ⟨d, hd⟩ : ∃ d, Val.cmp x y = d := ⟨_, rfl⟩
              have HS2 : Hid (d = 0 ∧ vs.take (k + 1) = us.take (k + 1) ∨ (d = -1 ∨ d = 1) ∧ wantL vs us = d) := Lib.hid (by
                subst hd
                by_cases hz : Val.cmp x y = 0
                · exact Or.inl ⟨hz, by rw [List.take_add_one, List.take_add_one, hx, hy, HTK.out, cmp_zero hz]⟩
                · exact Or.inr ⟨by have := cmp_range x y; omega, want_at k vs us x y HTK.out hx hy hz⟩)
              have HD := Lib.hid hd
              obtain ⟨xk, xi, xs⟩ := x
              obtain ⟨yk, yi, ys⟩ := y
              simp only at c0 c1 c2 d0 d1 d2
              have q0 := bwOf_cell wr _ _ c0
              have q1 := bwOf_cell wr _ _ c1
              have q2 := bwOf_cell wr _ _ c2
              have q3 := bwOf_cell wr _ _ d0
              have q4 := bwOf_cell wr _ _ d1
              have q5 := bwOf_cell wr _ _ d2
              have z1 : (k : Int) < (n : Int) := by omega
              have z2 : (k : Int) < (m : Int) := by omega
              clear hx hy hd c0 c1 c2 d0 d1 d2
              go_wp2_with fail
              refine wp_region_bw (w := wr) (by kernel_rfl) (by kernel_rfl) ?_
              repeat (go_big_quiet_step (fail))
              go_big_quiet_step ((go_at_call 17; exact below_of (cmp5_is xk xi xs yk yi ys d HD.out _)))
              repeat (go_big_quiet_step (fail))
              refine wpQuiet_nil ?_
              rintro w8 ⟨q, rfl⟩
              have HB8 := Lib.hid (below_next HB.out (bwOf_below wr q))
              clear q0 q1 q2 q3 q4 q5
              generalize bwOf wr q = w8 at *
              go_wp2
              go_roundw
              case rel => exact ⟨k + 1, d, by omega, by omega, by go_num, rfl, HS2, HB8⟩
              case measure => simp [RowKit.intOf]; omega
            · have hor : vs.length ≤ k ∨ us.length ≤ k := by have h1 := hlen.out; have h2 := hmen.out; omega
              have HWL := Lib.hid (want_len k vs us HTK.out hor (by have h1 := hlen.out; omega) (by have h2 := hmen.out; omega))
              rw [hlen.out, hmen.out] at hor
              rcases (show n < m ∨ m < n ∨ n = m by omega) with hnm | hnm | hnm
              · skip
                have y1 : decide ((n : Int) < (m : Int)) = true := by rw [decide_eq_true_iff]; omega
                have y2 : decide ((m : Int) < (n : Int)) = false := by rw [decide_eq_false_iff_not]; omega
                have y3 : ((n : Int) == (m : Int)) = false := by rw [beq_eq_false_iff_ne]; omega
                have g1 : decide ((k : Int) < (n : Int)) = false := by rw [decide_eq_false_iff_not]; omega
                have g2 : decide ((k : Int) < (m : Int)) = true := by rw [decide_eq_true_iff]; omega
                have HWW : Hid (wantL vs us = (-1)) := Lib.hid (by rw [HWL.out, hlen.out, hmen.out]; rw [if_pos hnm])
                have l1 : Op.bytesLess (strB (keyL vs)).toList (strB (keyL us)).toList = true := by rw [less_key HA7.out.byte HE7.out.byte, HK.out, HWW.out]; rfl
                have l2 : Op.bytesLess (strB (keyL us)).toList (strB (keyL vs)).toList = false := by rw [less_key HE7.out.byte HA7.out.byte, HK2.out, HWW.out]; rfl
                have v1 := conv_row (HA7.out.kept HB.out)
                have v2 := conv_row (HE7.out.kept HB.out)
                have x1 : n < m := by omega
                have x2 : ¬ m < n := by omega
                have x3 : (n : Int) < (m : Int) := by omega
                have x4 : ¬ (m : Int) < (n : Int) := by omega
                have HNM := Lib.hid hnm
                clear hnm
                go_wp2
                all_goals go_ret
                all_goals exact ⟨rfl, below_next HB7.out HB.out⟩
              · skip
                have y1 : decide ((n : Int) < (m : Int)) = false := by rw [decide_eq_false_iff_not]; omega
                have y2 : decide ((m : Int) < (n : Int)) = true := by rw [decide_eq_true_iff]; omega
                have y3 : ((n : Int) == (m : Int)) = false := by rw [beq_eq_false_iff_ne]; omega
                have g1 : decide ((k : Int) < (n : Int)) = true := by rw [decide_eq_true_iff]; omega
                have g2 : decide ((k : Int) < (m : Int)) = false := by rw [decide_eq_false_iff_not]; omega
                have HWW : Hid (wantL vs us = 1) := Lib.hid (by rw [HWL.out, hlen.out, hmen.out]; rw [if_neg (by omega), if_pos hnm])
                have l1 : Op.bytesLess (strB (keyL vs)).toList (strB (keyL us)).toList = false := by rw [less_key HA7.out.byte HE7.out.byte, HK.out, HWW.out]; rfl
                have l2 : Op.bytesLess (strB (keyL us)).toList (strB (keyL vs)).toList = true := by rw [less_key HE7.out.byte HA7.out.byte, HK2.out, HWW.out]; rfl
                have l3 : ((strB (keyL vs)).toList == (strB (keyL us)).toList) = false := by rw [beq_eq_false_iff_ne]; intro h; rw [h] at l1 l2; rw [l1] at l2; exact absurd l2 (by simp)
                have l4 : decide ((strB (keyL vs)).toList = (strB (keyL us)).toList) = false := by rw [decide_eq_false_iff_not]; exact beq_eq_false_iff_ne.1 l3
                have l5 : ¬ (strB (keyL vs)).toList = (strB (keyL us)).toList := beq_eq_false_iff_ne.1 l3
                have v1 := conv_row (HA7.out.kept HB.out)
                have v2 := conv_row (HE7.out.kept HB.out)
                have x1 : ¬ n < m := by omega
                have x2 : m < n := by omega
                have x3 : ¬ (n : Int) < (m : Int) := by omega
                have x4 : (m : Int) < (n : Int) := by omega
                have HNM := Lib.hid hnm
                clear hnm
                go_wp2
                all_goals go_ret
                all_goals exact ⟨rfl, below_next HB7.out HB.out⟩
              · skip
                have y1 : decide ((n : Int) < (m : Int)) = false := by rw [decide_eq_false_iff_not]; omega
                have y2 : decide ((m : Int) < (n : Int)) = false := by rw [decide_eq_false_iff_not]; omega
                have y3 : ((n : Int) == (m : Int)) = true := by rw [beq_iff_eq]; omega
                have g1 : decide ((k : Int) < (n : Int)) = false := by rw [decide_eq_false_iff_not]; omega
                have g2 : decide ((k : Int) < (m : Int)) = false := by rw [decide_eq_false_iff_not]; omega
                have HWW : Hid (wantL vs us = 0) := Lib.hid (by rw [HWL.out, hlen.out, hmen.out]; rw [if_neg (by omega), if_neg (by omega)])
                have l1 : Op.bytesLess (strB (keyL vs)).toList (strB (keyL us)).toList = false := by rw [less_key HA7.out.byte HE7.out.byte, HK.out, HWW.out]; rfl
                have l2 : Op.bytesLess (strB (keyL us)).toList (strB (keyL vs)).toList = false := by rw [less_key HE7.out.byte HA7.out.byte, HK2.out, HWW.out]; rfl
                have l3 : ((strB (keyL vs)).toList == (strB (keyL us)).toList) = true := by rw [cmpN_eq (keyL vs) (keyL us) (by rw [HK.out, HWW.out])]; exact beq_self_eq_true _
                have l4 : decide ((strB (keyL vs)).toList = (strB (keyL us)).toList) = true := by rw [decide_eq_true_iff]; exact beq_iff_eq.1 l3
                have v1 := conv_row (HA7.out.kept HB.out)
                have v2 := conv_row (HE7.out.kept HB.out)
                have x1 : ¬ n < m := by omega
                have x2 : ¬ m < n := by omega
                have x3 : ¬ (n : Int) < (m : Int) := by omega
                have x4 : ¬ (m : Int) < (n : Int) := by omega
                have y4 : (n == m) = true := by rw [beq_iff_eq]; exact hnm
                have y5 : decide (n = m) = true := by rw [decide_eq_true_iff]; exact hnm
                have HNM := Lib.hid hnm
                clear hnm
                go_wp2
                all_goals go_ret
                all_goals exact ⟨rfl, below_next HB7.out HB.out⟩
          · have HWT := Lib.hid hwt
            clear hwt
            rcases hc with rfl | rfl
            · rcases (show n < m ∨ m < n ∨ n = m by omega) with hnm | hnm | hnm
              · skip
                have y1 : decide ((n : Int) < (m : Int)) = true := by rw [decide_eq_true_iff]; omega
                have y2 : decide ((m : Int) < (n : Int)) = false := by rw [decide_eq_false_iff_not]; omega
                have y3 : ((n : Int) == (m : Int)) = false := by rw [beq_eq_false_iff_ne]; omega
                by_cases hg1 : k < n
                · have g1 : decide ((k : Int) < (n : Int)) = true := by rw [decide_eq_true_iff]; omega
                  by_cases hg2 : k < m
                  · have g2 : decide ((k : Int) < (m : Int)) = true := by rw [decide_eq_true_iff]; omega
                    have x1 : n < m := by omega
                    have x2 : ¬ m < n := by omega
                    have x3 : (n : Int) < (m : Int) := by omega
                    have x4 : ¬ (m : Int) < (n : Int) := by omega
                    have HNM := Lib.hid hnm
                    clear hnm
                    have HWW : Hid (wantL vs us = (-1)) := Lib.hid (by exact HWT.out)
                    have l1 : Op.bytesLess (strB (keyL vs)).toList (strB (keyL us)).toList = true := by rw [less_key HA7.out.byte HE7.out.byte, HK.out, HWW.out]; rfl
                    have l2 : Op.bytesLess (strB (keyL us)).toList (strB (keyL vs)).toList = false := by rw [less_key HE7.out.byte HA7.out.byte, HK2.out, HWW.out]; rfl
                    have v1 := conv_row (HA7.out.kept HB.out)
                    have v2 := conv_row (HE7.out.kept HB.out)
                    go_wp2
                    all_goals go_ret
                    all_goals exact ⟨rfl, below_next HB7.out HB.out⟩
                  · have g2 : decide ((k : Int) < (m : Int)) = false := by rw [decide_eq_false_iff_not]; omega
                    have x1 : n < m := by omega
                    have x2 : ¬ m < n := by omega
                    have x3 : (n : Int) < (m : Int) := by omega
                    have x4 : ¬ (m : Int) < (n : Int) := by omega
                    have HNM := Lib.hid hnm
                    clear hnm
                    have HWW : Hid (wantL vs us = (-1)) := Lib.hid (by exact HWT.out)
                    have l1 : Op.bytesLess (strB (keyL vs)).toList (strB (keyL us)).toList = true := by rw [less_key HA7.out.byte HE7.out.byte, HK.out, HWW.out]; rfl
                    have l2 : Op.bytesLess (strB (keyL us)).toList (strB (keyL vs)).toList = false := by rw [less_key HE7.out.byte HA7.out.byte, HK2.out, HWW.out]; rfl
                    have v1 := conv_row (HA7.out.kept HB.out)
                    have v2 := conv_row (HE7.out.kept HB.out)
                    go_wp2
                    all_goals go_ret
                    all_goals exact ⟨rfl, below_next HB7.out HB.out⟩
                · have g1 : decide ((k : Int) < (n : Int)) = false := by rw [decide_eq_false_iff_not]; omega
                  by_cases hg2 : k < m
                  · have g2 : decide ((k : Int) < (m : Int)) = true := by rw [decide_eq_true_iff]; omega
                    have x1 : n < m := by omega
                    have x2 : ¬ m < n := by omega
                    have x3 : (n : Int) < (m : Int) := by omega
                    have x4 : ¬ (m : Int) < (n : Int) := by omega
                    have HNM := Lib.hid hnm
                    clear hnm
                    have HWW : Hid (wantL vs us = (-1)) := Lib.hid (by exact HWT.out)
                    have l1 : Op.bytesLess (strB (keyL vs)).toList (strB (keyL us)).toList = true := by rw [less_key HA7.out.byte HE7.out.byte, HK.out, HWW.out]; rfl
                    have l2 : Op.bytesLess (strB (keyL us)).toList (strB (keyL vs)).toList = false := by rw [less_key HE7.out.byte HA7.out.byte, HK2.out, HWW.out]; rfl
                    have v1 := conv_row (HA7.out.kept HB.out)
                    have v2 := conv_row (HE7.out.kept HB.out)
                    go_wp2
                    all_goals go_ret
                    all_goals exact ⟨rfl, below_next HB7.out HB.out⟩
                  · have g2 : decide ((k : Int) < (m : Int)) = false := by rw [decide_eq_false_iff_not]; omega
                    have x1 : n < m := by omega
                    have x2 : ¬ m < n := by omega
                    have x3 : (n : Int) < (m : Int) := by omega
                    have x4 : ¬ (m : Int) < (n : Int) := by omega
                    have HNM := Lib.hid hnm
                    clear hnm
                    have HWW : Hid (wantL vs us = (-1)) := Lib.hid (by exact HWT.out)
                    have l1 : Op.bytesLess (strB (keyL vs)).toList (strB (keyL us)).toList = true := by rw [less_key HA7.out.byte HE7.out.byte, HK.out, HWW.out]; rfl
                    have l2 : Op.bytesLess (strB (keyL us)).toList (strB (keyL vs)).toList = false := by rw [less_key HE7.out.byte HA7.out.byte, HK2.out, HWW.out]; rfl
                    have v1 := conv_row (HA7.out.kept HB.out)
                    have v2 := conv_row (HE7.out.kept HB.out)
                    go_wp2
                    all_goals go_ret
                    all_goals exact ⟨rfl, below_next HB7.out HB.out⟩
              · skip
                have y1 : decide ((n : Int) < (m : Int)) = false := by rw [decide_eq_false_iff_not]; omega
                have y2 : decide ((m : Int) < (n : Int)) = true := by rw [decide_eq_true_iff]; omega
                have y3 : ((n : Int) == (m : Int)) = false := by rw [beq_eq_false_iff_ne]; omega
                by_cases hg1 : k < n
                · have g1 : decide ((k : Int) < (n : Int)) = true := by rw [decide_eq_true_iff]; omega
                  by_cases hg2 : k < m
                  · have g2 : decide ((k : Int) < (m : Int)) = true := by rw [decide_eq_true_iff]; omega
                    have x1 : ¬ n < m := by omega
                    have x2 : m < n := by omega
                    have x3 : ¬ (n : Int) < (m : Int) := by omega
                    have x4 : (m : Int) < (n : Int) := by omega
                    have HNM := Lib.hid hnm
                    clear hnm
                    have HWW : Hid (wantL vs us = (-1)) := Lib.hid (by exact HWT.out)
                    have l1 : Op.bytesLess (strB (keyL vs)).toList (strB (keyL us)).toList = true := by rw [less_key HA7.out.byte HE7.out.byte, HK.out, HWW.out]; rfl
                    have l2 : Op.bytesLess (strB (keyL us)).toList (strB (keyL vs)).toList = false := by rw [less_key HE7.out.byte HA7.out.byte, HK2.out, HWW.out]; rfl
                    have v1 := conv_row (HA7.out.kept HB.out)
                    have v2 := conv_row (HE7.out.kept HB.out)
                    go_wp2
                    all_goals go_ret
                    all_goals exact ⟨rfl, below_next HB7.out HB.out⟩
                  · have g2 : decide ((k : Int) < (m : Int)) = false := by rw [decide_eq_false_iff_not]; omega
                    have x1 : ¬ n < m := by omega
                    have x2 : m < n := by omega
                    have x3 : ¬ (n : Int) < (m : Int) := by omega
                    have x4 : (m : Int) < (n : Int) := by omega
                    have HNM := Lib.hid hnm
                    clear hnm
                    have HWW : Hid (wantL vs us = (-1)) := Lib.hid (by exact HWT.out)
                    have l1 : Op.bytesLess (strB (keyL vs)).toList (strB (keyL us)).toList = true := by rw [less_key HA7.out.byte HE7.out.byte, HK.out, HWW.out]; rfl
                    have l2 : Op.bytesLess (strB (keyL us)).toList (strB (keyL vs)).toList = false := by rw [less_key HE7.out.byte HA7.out.byte, HK2.out, HWW.out]; rfl
                    have v1 := conv_row (HA7.out.kept HB.out)
                    have v2 := conv_row (HE7.out.kept HB.out)
                    go_wp2
                    all_goals go_ret
                    all_goals exact ⟨rfl, below_next HB7.out HB.out⟩
                · have g1 : decide ((k : Int) < (n : Int)) = false := by rw [decide_eq_false_iff_not]; omega
                  by_cases hg2 : k < m
                  · have g2 : decide ((k : Int) < (m : Int)) = true := by rw [decide_eq_true_iff]; omega
                    have x1 : ¬ n < m := by omega
                    have x2 : m < n := by omega
                    have x3 : ¬ (n : Int) < (m : Int) := by omega
                    have x4 : (m : Int) < (n : Int) := by omega
                    have HNM := Lib.hid hnm
                    clear hnm
                    have HWW : Hid (wantL vs us = (-1)) := Lib.hid (by exact HWT.out)
                    have l1 : Op.bytesLess (strB (keyL vs)).toList (strB (keyL us)).toList = true := by rw [less_key HA7.out.byte HE7.out.byte, HK.out, HWW.out]; rfl
                    have l2 : Op.bytesLess (strB (keyL us)).toList (strB (keyL vs)).toList = false := by rw [less_key HE7.out.byte HA7.out.byte, HK2.out, HWW.out]; rfl
                    have v1 := conv_row (HA7.out.kept HB.out)
                    have v2 := conv_row (HE7.out.kept HB.out)
                    go_wp2
                    all_goals go_ret
                    all_goals exact ⟨rfl, below_next HB7.out HB.out⟩
                  · have g2 : decide ((k : Int) < (m : Int)) = false := by rw [decide_eq_false_iff_not]; omega
                    have x1 : ¬ n < m := by omega
                    have x2 : m < n := by omega
                    have x3 : ¬ (n : Int) < (m : Int) := by omega
                    have x4 : (m : Int) < (n : Int) := by omega
                    have HNM := Lib.hid hnm
                    clear hnm
                    have HWW : Hid (wantL vs us = (-1)) := Lib.hid (by exact HWT.out)
                    have l1 : Op.bytesLess (strB (keyL vs)).toList (strB (keyL us)).toList = true := by rw [less_key HA7.out.byte HE7.out.byte, HK.out, HWW.out]; rfl
                    have l2 : Op.bytesLess (strB (keyL us)).toList (strB (keyL vs)).toList = false := by rw [less_key HE7.out.byte HA7.out.byte, HK2.out, HWW.out]; rfl
                    have v1 := conv_row (HA7.out.kept HB.out)
                    have v2 := conv_row (HE7.out.kept HB.out)
                    go_wp2
                    all_goals go_ret
                    all_goals exact ⟨rfl, below_next HB7.out HB.out⟩
              · skip
                have y1 : decide ((n : Int) < (m : Int)) = false := by rw [decide_eq_false_iff_not]; omega
                have y2 : decide ((m : Int) < (n : Int)) = false := by rw [decide_eq_false_iff_not]; omega
                have y3 : ((n : Int) == (m : Int)) = true := by rw [beq_iff_eq]; omega
                by_cases hg1 : k < n
                · have g1 : decide ((k : Int) < (n : Int)) = true := by rw [decide_eq_true_iff]; omega
                  by_cases hg2 : k < m
                  · have g2 : decide ((k : Int) < (m : Int)) = true := by rw [decide_eq_true_iff]; omega
                    have x1 : ¬ n < m := by omega
                    have x2 : ¬ m < n := by omega
                    have x3 : ¬ (n : Int) < (m : Int) := by omega
                    have x4 : ¬ (m : Int) < (n : Int) := by omega
                    have y4 : (n == m) = true := by rw [beq_iff_eq]; exact hnm
                    have y5 : decide (n = m) = true := by rw [decide_eq_true_iff]; exact hnm
                    have HNM := Lib.hid hnm
                    clear hnm
                    have HWW : Hid (wantL vs us = (-1)) := Lib.hid (by exact HWT.out)
                    have l1 : Op.bytesLess (strB (keyL vs)).toList (strB (keyL us)).toList = true := by rw [less_key HA7.out.byte HE7.out.byte, HK.out, HWW.out]; rfl
                    have l2 : Op.bytesLess (strB (keyL us)).toList (strB (keyL vs)).toList = false := by rw [less_key HE7.out.byte HA7.out.byte, HK2.out, HWW.out]; rfl
                    have v1 := conv_row (HA7.out.kept HB.out)
                    have v2 := conv_row (HE7.out.kept HB.out)
                    have hpp := Lib.hid (keys_parted vs us FA.out FB.out (by have h1 := hlen.out; have h2 := hmen.out; have h3 := HNM.out; omega) (by rw [HWW.out]; omega))
                    have hqq := Lib.hid (keys_parted us vs FB.out FA.out (by have h1 := hlen.out; have h2 := hmen.out; have h3 := HNM.out; omega) (by rw [← keys_cmp us vs FB.out FA.out, HK2.out, HWW.out]; omega))
                    go_wp2_with fail
                    refine (begins_no a_a a_b n_a n_b c_a c_b (keyL vs) (keyL us) wr (HA7.out.kept HB.out) (HE7.out.kept HB.out) (by have h1 := parted_begins hpp.out (by rw [HWW.out]; omega); rw [HA7.out.len] at h1; exact h1)).mono ?_
                    rintro e w8 ⟨rfl, hb⟩
                    have HB8 := Lib.hid (below_next HB.out hb)
                    clear hb v1 v2
                    go_wp2_with fail
                    refine (begins_no a_b a_a n_b n_a c_b c_a (keyL us) (keyL vs) w8 (HE7.out.kept HB8.out) (HA7.out.kept HB8.out) (by have h1 := parted_begins hqq.out (by rw [← keys_cmp us vs FB.out FA.out, HK2.out, HWW.out]; omega); rw [HE7.out.len] at h1; exact h1)).mono ?_
                    rintro e w9 ⟨rfl, hb⟩
                    have HB9 := Lib.hid (below_next HB8.out hb)
                    clear hb
                    go_wp2
                    go_ret
                    exact ⟨rfl, below_next HB7.out HB9.out⟩
                  · have g2 : decide ((k : Int) < (m : Int)) = false := by rw [decide_eq_false_iff_not]; omega
                    have x1 : ¬ n < m := by omega
                    have x2 : ¬ m < n := by omega
                    have x3 : ¬ (n : Int) < (m : Int) := by omega
                    have x4 : ¬ (m : Int) < (n : Int) := by omega
                    have y4 : (n == m) = true := by rw [beq_iff_eq]; exact hnm
                    have y5 : decide (n = m) = true := by rw [decide_eq_true_iff]; exact hnm
                    have HNM := Lib.hid hnm
                    clear hnm
                    exact (show False by have h3 := HNM.out; omega).elim
                · have g1 : decide ((k : Int) < (n : Int)) = false := by rw [decide_eq_false_iff_not]; omega
                  by_cases hg2 : k < m
                  · have g2 : decide ((k : Int) < (m : Int)) = true := by rw [decide_eq_true_iff]; omega
                    have x1 : ¬ n < m := by omega
                    have x2 : ¬ m < n := by omega
                    have x3 : ¬ (n : Int) < (m : Int) := by omega
                    have x4 : ¬ (m : Int) < (n : Int) := by omega
                    have y4 : (n == m) = true := by rw [beq_iff_eq]; exact hnm
                    have y5 : decide (n = m) = true := by rw [decide_eq_true_iff]; exact hnm
                    have HNM := Lib.hid hnm
                    clear hnm
                    exact (show False by have h3 := HNM.out; omega).elim
                  · have g2 : decide ((k : Int) < (m : Int)) = false := by rw [decide_eq_false_iff_not]; omega
                    have x1 : ¬ n < m := by omega
                    have x2 : ¬ m < n := by omega
                    have x3 : ¬ (n : Int) < (m : Int) := by omega
                    have x4 : ¬ (m : Int) < (n : Int) := by omega
                    have y4 : (n == m) = true := by rw [beq_iff_eq]; exact hnm
                    have y5 : decide (n = m) = true := by rw [decide_eq_true_iff]; exact hnm
                    have HNM := Lib.hid hnm
                    clear hnm
                    have HWW : Hid (wantL vs us = (-1)) := Lib.hid (by exact HWT.out)
                    have l1 : Op.bytesLess (strB (keyL vs)).toList (strB (keyL us)).toList = true := by rw [less_key HA7.out.byte HE7.out.byte, HK.out, HWW.out]; rfl
                    have l2 : Op.bytesLess (strB (keyL us)).toList (strB (keyL vs)).toList = false := by rw [less_key HE7.out.byte HA7.out.byte, HK2.out, HWW.out]; rfl
                    have v1 := conv_row (HA7.out.kept HB.out)
                    have v2 := conv_row (HE7.out.kept HB.out)
                    have hpp := Lib.hid (keys_parted vs us FA.out FB.out (by have h1 := hlen.out; have h2 := hmen.out; have h3 := HNM.out; omega) (by rw [HWW.out]; omega))
                    have hqq := Lib.hid (keys_parted us vs FB.out FA.out (by have h1 := hlen.out; have h2 := hmen.out; have h3 := HNM.out; omega) (by rw [← keys_cmp us vs FB.out FA.out, HK2.out, HWW.out]; omega))
                    go_wp2_with fail
                    refine (begins_no a_a a_b n_a n_b c_a c_b (keyL vs) (keyL us) wr (HA7.out.kept HB.out) (HE7.out.kept HB.out) (by have h1 := parted_begins hpp.out (by rw [HWW.out]; omega); rw [HA7.out.len] at h1; exact h1)).mono ?_
                    rintro e w8 ⟨rfl, hb⟩
                    have HB8 := Lib.hid (below_next HB.out hb)
                    clear hb v1 v2
                    go_wp2_with fail
                    refine (begins_no a_b a_a n_b n_a c_b c_a (keyL us) (keyL vs) w8 (HE7.out.kept HB8.out) (HA7.out.kept HB8.out) (by have h1 := parted_begins hqq.out (by rw [← keys_cmp us vs FB.out FA.out, HK2.out, HWW.out]; omega); rw [HE7.out.len] at h1; exact h1)).mono ?_
                    rintro e w9 ⟨rfl, hb⟩
                    have HB9 := Lib.hid (below_next HB8.out hb)
                    clear hb
                    go_wp2
                    go_ret
                    exact ⟨rfl, below_next HB7.out HB9.out⟩
            · rcases (show n < m ∨ m < n ∨ n = m by omega) with hnm | hnm | hnm
              · skip
                have y1 : decide ((n : Int) < (m : Int)) = true := by rw [decide_eq_true_iff]; omega
                have y2 : decide ((m : Int) < (n : Int)) = false := by rw [decide_eq_false_iff_not]; omega
                have y3 : ((n : Int) == (m : Int)) = false := by rw [beq_eq_false_iff_ne]; omega
                by_cases hg1 : k < n
                · have g1 : decide ((k : Int) < (n : Int)) = true := by rw [decide_eq_true_iff]; omega
                  by_cases hg2 : k < m
                  · have g2 : decide ((k : Int) < (m : Int)) = true := by rw [decide_eq_true_iff]; omega
                    have x1 : n < m := by omega
                    have x2 : ¬ m < n := by omega
                    have x3 : (n : Int) < (m : Int) := by omega
                    have x4 : ¬ (m : Int) < (n : Int) := by omega
                    have HNM := Lib.hid hnm
                    clear hnm
                    have HWW : Hid (wantL vs us = 1) := Lib.hid (by exact HWT.out)
                    have l1 : Op.bytesLess (strB (keyL vs)).toList (strB (keyL us)).toList = false := by rw [less_key HA7.out.byte HE7.out.byte, HK.out, HWW.out]; rfl
                    have l2 : Op.bytesLess (strB (keyL us)).toList (strB (keyL vs)).toList = true := by rw [less_key HE7.out.byte HA7.out.byte, HK2.out, HWW.out]; rfl
                    have l3 : ((strB (keyL vs)).toList == (strB (keyL us)).toList) = false := by rw [beq_eq_false_iff_ne]; intro h; rw [h] at l1 l2; rw [l1] at l2; exact absurd l2 (by simp)
                    have l4 : decide ((strB (keyL vs)).toList = (strB (keyL us)).toList) = false := by rw [decide_eq_false_iff_not]; exact beq_eq_false_iff_ne.1 l3
                    have l5 : ¬ (strB (keyL vs)).toList = (strB (keyL us)).toList := beq_eq_false_iff_ne.1 l3
                    have v1 := conv_row (HA7.out.kept HB.out)
                    have v2 := conv_row (HE7.out.kept HB.out)
                    go_wp2
                    all_goals go_ret
                    all_goals exact ⟨rfl, below_next HB7.out HB.out⟩
                  · have g2 : decide ((k : Int) < (m : Int)) = false := by rw [decide_eq_false_iff_not]; omega
                    have x1 : n < m := by omega
                    have x2 : ¬ m < n := by omega
                    have x3 : (n : Int) < (m : Int) := by omega
                    have x4 : ¬ (m : Int) < (n : Int) := by omega
                    have HNM := Lib.hid hnm
                    clear hnm
                    have HWW : Hid (wantL vs us = 1) := Lib.hid (by exact HWT.out)
                    have l1 : Op.bytesLess (strB (keyL vs)).toList (strB (keyL us)).toList = false := by rw [less_key HA7.out.byte HE7.out.byte, HK.out, HWW.out]; rfl
                    have l2 : Op.bytesLess (strB (keyL us)).toList (strB (keyL vs)).toList = true := by rw [less_key HE7.out.byte HA7.out.byte, HK2.out, HWW.out]; rfl
                    have l3 : ((strB (keyL vs)).toList == (strB (keyL us)).toList) = false := by rw [beq_eq_false_iff_ne]; intro h; rw [h] at l1 l2; rw [l1] at l2; exact absurd l2 (by simp)
                    have l4 : decide ((strB (keyL vs)).toList = (strB (keyL us)).toList) = false := by rw [decide_eq_false_iff_not]; exact beq_eq_false_iff_ne.1 l3
                    have l5 : ¬ (strB (keyL vs)).toList = (strB (keyL us)).toList := beq_eq_false_iff_ne.1 l3
                    have v1 := conv_row (HA7.out.kept HB.out)
                    have v2 := conv_row (HE7.out.kept HB.out)
                    go_wp2
                    all_goals go_ret
                    all_goals exact ⟨rfl, below_next HB7.out HB.out⟩
                · have g1 : decide ((k : Int) < (n : Int)) = false := by rw [decide_eq_false_iff_not]; omega
                  by_cases hg2 : k < m
                  · have g2 : decide ((k : Int) < (m : Int)) = true := by rw [decide_eq_true_iff]; omega
                    have x1 : n < m := by omega
                    have x2 : ¬ m < n := by omega
                    have x3 : (n : Int) < (m : Int) := by omega
                    have x4 : ¬ (m : Int) < (n : Int) := by omega
                    have HNM := Lib.hid hnm
                    clear hnm
                    have HWW : Hid (wantL vs us = 1) := Lib.hid (by exact HWT.out)
                    have l1 : Op.bytesLess (strB (keyL vs)).toList (strB (keyL us)).toList = false := by rw [less_key HA7.out.byte HE7.out.byte, HK.out, HWW.out]; rfl
                    have l2 : Op.bytesLess (strB (keyL us)).toList (strB (keyL vs)).toList = true := by rw [less_key HE7.out.byte HA7.out.byte, HK2.out, HWW.out]; rfl
                    have l3 : ((strB (keyL vs)).toList == (strB (keyL us)).toList) = false := by rw [beq_eq_false_iff_ne]; intro h; rw [h] at l1 l2; rw [l1] at l2; exact absurd l2 (by simp)
                    have l4 : decide ((strB (keyL vs)).toList = (strB (keyL us)).toList) = false := by rw [decide_eq_false_iff_not]; exact beq_eq_false_iff_ne.1 l3
                    have l5 : ¬ (strB (keyL vs)).toList = (strB (keyL us)).toList := beq_eq_false_iff_ne.1 l3
                    have v1 := conv_row (HA7.out.kept HB.out)
                    have v2 := conv_row (HE7.out.kept HB.out)
                    go_wp2
                    all_goals go_ret
                    all_goals exact ⟨rfl, below_next HB7.out HB.out⟩
                  · have g2 : decide ((k : Int) < (m : Int)) = false := by rw [decide_eq_false_iff_not]; omega
                    have x1 : n < m := by omega
                    have x2 : ¬ m < n := by omega
                    have x3 : (n : Int) < (m : Int) := by omega
                    have x4 : ¬ (m : Int) < (n : Int) := by omega
                    have HNM := Lib.hid hnm
                    clear hnm
                    have HWW : Hid (wantL vs us = 1) := Lib.hid (by exact HWT.out)
                    have l1 : Op.bytesLess (strB (keyL vs)).toList (strB (keyL us)).toList = false := by rw [less_key HA7.out.byte HE7.out.byte, HK.out, HWW.out]; rfl
                    have l2 : Op.bytesLess (strB (keyL us)).toList (strB (keyL vs)).toList = true := by rw [less_key HE7.out.byte HA7.out.byte, HK2.out, HWW.out]; rfl
                    have l3 : ((strB (keyL vs)).toList == (strB (keyL us)).toList) = false := by rw [beq_eq_false_iff_ne]; intro h; rw [h] at l1 l2; rw [l1] at l2; exact absurd l2 (by simp)
                    have l4 : decide ((strB (keyL vs)).toList = (strB (keyL us)).toList) = false := by rw [decide_eq_false_iff_not]; exact beq_eq_false_iff_ne.1 l3
                    have l5 : ¬ (strB (keyL vs)).toList = (strB (keyL us)).toList := beq_eq_false_iff_ne.1 l3
                    have v1 := conv_row (HA7.out.kept HB.out)
                    have v2 := conv_row (HE7.out.kept HB.out)
                    go_wp2
                    all_goals go_ret
                    all_goals exact ⟨rfl, below_next HB7.out HB.out⟩
              · skip
                have y1 : decide ((n : Int) < (m : Int)) = false := by rw [decide_eq_false_iff_not]; omega
                have y2 : decide ((m : Int) < (n : Int)) = true := by rw [decide_eq_true_iff]; omega
                have y3 : ((n : Int) == (m : Int)) = false := by rw [beq_eq_false_iff_ne]; omega
                by_cases hg1 : k < n
                · have g1 : decide ((k : Int) < (n : Int)) = true := by rw [decide_eq_true_iff]; omega
                  by_cases hg2 : k < m
                  · have g2 : decide ((k : Int) < (m : Int)) = true := by rw [decide_eq_true_iff]; omega
                    have x1 : ¬ n < m := by omega
                    have x2 : m < n := by omega
                    have x3 : ¬ (n : Int) < (m : Int) := by omega
                    have x4 : (m : Int) < (n : Int) := by omega
                    have HNM := Lib.hid hnm
                    clear hnm
                    have HWW : Hid (wantL vs us = 1) := Lib.hid (by exact HWT.out)
                    have l1 : Op.bytesLess (strB (keyL vs)).toList (strB (keyL us)).toList = false := by rw [less_key HA7.out.byte HE7.out.byte, HK.out, HWW.out]; rfl
                    have l2 : Op.bytesLess (strB (keyL us)).toList (strB (keyL vs)).toList = true := by rw [less_key HE7.out.byte HA7.out.byte, HK2.out, HWW.out]; rfl
                    have l3 : ((strB (keyL vs)).toList == (strB (keyL us)).toList) = false := by rw [beq_eq_false_iff_ne]; intro h; rw [h] at l1 l2; rw [l1] at l2; exact absurd l2 (by simp)
                    have l4 : decide ((strB (keyL vs)).toList = (strB (keyL us)).toList) = false := by rw [decide_eq_false_iff_not]; exact beq_eq_false_iff_ne.1 l3
                    have l5 : ¬ (strB (keyL vs)).toList = (strB (keyL us)).toList := beq_eq_false_iff_ne.1 l3
                    have v1 := conv_row (HA7.out.kept HB.out)
                    have v2 := conv_row (HE7.out.kept HB.out)
                    go_wp2
                    all_goals go_ret
                    all_goals exact ⟨rfl, below_next HB7.out HB.out⟩
                  · have g2 : decide ((k : Int) < (m : Int)) = false := by rw [decide_eq_false_iff_not]; omega
                    have x1 : ¬ n < m := by omega
                    have x2 : m < n := by omega
                    have x3 : ¬ (n : Int) < (m : Int) := by omega
                    have x4 : (m : Int) < (n : Int) := by omega
                    have HNM := Lib.hid hnm
                    clear hnm
                    have HWW : Hid (wantL vs us = 1) := Lib.hid (by exact HWT.out)
                    have l1 : Op.bytesLess (strB (keyL vs)).toList (strB (keyL us)).toList = false := by rw [less_key HA7.out.byte HE7.out.byte, HK.out, HWW.out]; rfl
                    have l2 : Op.bytesLess (strB (keyL us)).toList (strB (keyL vs)).toList = true := by rw [less_key HE7.out.byte HA7.out.byte, HK2.out, HWW.out]; rfl
                    have l3 : ((strB (keyL vs)).toList == (strB (keyL us)).toList) = false := by rw [beq_eq_false_iff_ne]; intro h; rw [h] at l1 l2; rw [l1] at l2; exact absurd l2 (by simp)
                    have l4 : decide ((strB (keyL vs)).toList = (strB (keyL us)).toList) = false := by rw [decide_eq_false_iff_not]; exact beq_eq_false_iff_ne.1 l3
                    have l5 : ¬ (strB (keyL vs)).toList = (strB (keyL us)).toList := beq_eq_false_iff_ne.1 l3
                    have v1 := conv_row (HA7.out.kept HB.out)
                    have v2 := conv_row (HE7.out.kept HB.out)
                    go_wp2
                    all_goals go_ret
                    all_goals exact ⟨rfl, below_next HB7.out HB.out⟩
                · have g1 : decide ((k : Int) < (n : Int)) = false := by rw [decide_eq_false_iff_not]; omega
                  by_cases hg2 : k < m
                  · have g2 : decide ((k : Int) < (m : Int)) = true := by rw [decide_eq_true_iff]; omega
                    have x1 : ¬ n < m := by omega
                    have x2 : m < n := by omega
                    have x3 : ¬ (n : Int) < (m : Int) := by omega
                    have x4 : (m : Int) < (n : Int) := by omega
                    have HNM := Lib.hid hnm
                    clear hnm
                    have HWW : Hid (wantL vs us = 1) := Lib.hid (by exact HWT.out)
                    have l1 : Op.bytesLess (strB (keyL vs)).toList (strB (keyL us)).toList = false := by rw [less_key HA7.out.byte HE7.out.byte, HK.out, HWW.out]; rfl
                    have l2 : Op.bytesLess (strB (keyL us)).toList (strB (keyL vs)).toList = true := by rw [less_key HE7.out.byte HA7.out.byte, HK2.out, HWW.out]; rfl
                    have l3 : ((strB (keyL vs)).toList == (strB (keyL us)).toList) = false := by rw [beq_eq_false_iff_ne]; intro h; rw [h] at l1 l2; rw [l1] at l2; exact absurd l2 (by simp)
                    have l4 : decide ((strB (keyL vs)).toList = (strB (keyL us)).toList) = false := by rw [decide_eq_false_iff_not]; exact beq_eq_false_iff_ne.1 l3
                    have l5 : ¬ (strB (keyL vs)).toList = (strB (keyL us)).toList := beq_eq_false_iff_ne.1 l3
                    have v1 := conv_row (HA7.out.kept HB.out)
                    have v2 := conv_row (HE7.out.kept HB.out)
                    go_wp2
                    all_goals go_ret
                    all_goals exact ⟨rfl, below_next HB7.out HB.out⟩
                  · have g2 : decide ((k : Int) < (m : Int)) = false := by rw [decide_eq_false_iff_not]; omega
                    have x1 : ¬ n < m := by omega
                    have x2 : m < n := by omega
                    have x3 : ¬ (n : Int) < (m : Int) := by omega
                    have x4 : (m : Int) < (n : Int) := by omega
                    have HNM := Lib.hid hnm
                    clear hnm
                    have HWW : Hid (wantL vs us = 1) := Lib.hid (by exact HWT.out)
                    have l1 : Op.bytesLess (strB (keyL vs)).toList (strB (keyL us)).toList = false := by rw [less_key HA7.out.byte HE7.out.byte, HK.out, HWW.out]; rfl
                    have l2 : Op.bytesLess (strB (keyL us)).toList (strB (keyL vs)).toList = true := by rw [less_key HE7.out.byte HA7.out.byte, HK2.out, HWW.out]; rfl
                    have l3 : ((strB (keyL vs)).toList == (strB (keyL us)).toList) = false := by rw [beq_eq_false_iff_ne]; intro h; rw [h] at l1 l2; rw [l1] at l2; exact absurd l2 (by simp)
                    have l4 : decide ((strB (keyL vs)).toList = (strB (keyL us)).toList) = false := by rw [decide_eq_false_iff_not]; exact beq_eq_false_iff_ne.1 l3
                    have l5 : ¬ (strB (keyL vs)).toList = (strB (keyL us)).toList := beq_eq_false_iff_ne.1 l3
                    have v1 := conv_row (HA7.out.kept HB.out)
                    have v2 := conv_row (HE7.out.kept HB.out)
                    go_wp2
                    all_goals go_ret
                    all_goals exact ⟨rfl, below_next HB7.out HB.out⟩
              · skip
                have y1 : decide ((n : Int) < (m : Int)) = false := by rw [decide_eq_false_iff_not]; omega
                have y2 : decide ((m : Int) < (n : Int)) = false := by rw [decide_eq_false_iff_not]; omega
                have y3 : ((n : Int) == (m : Int)) = true := by rw [beq_iff_eq]; omega
                by_cases hg1 : k < n
                · have g1 : decide ((k : Int) < (n : Int)) = true := by rw [decide_eq_true_iff]; omega
                  by_cases hg2 : k < m
                  · have g2 : decide ((k : Int) < (m : Int)) = true := by rw [decide_eq_true_iff]; omega
                    have x1 : ¬ n < m := by omega
                    have x2 : ¬ m < n := by omega
                    have x3 : ¬ (n : Int) < (m : Int) := by omega
                    have x4 : ¬ (m : Int) < (n : Int) := by omega
                    have y4 : (n == m) = true := by rw [beq_iff_eq]; exact hnm
                    have y5 : decide (n = m) = true := by rw [decide_eq_true_iff]; exact hnm
                    have HNM := Lib.hid hnm
                    clear hnm
                    have HWW : Hid (wantL vs us = 1) := Lib.hid (by exact HWT.out)
                    have l1 : Op.bytesLess (strB (keyL vs)).toList (strB (keyL us)).toList = false := by rw [less_key HA7.out.byte HE7.out.byte, HK.out, HWW.out]; rfl
                    have l2 : Op.bytesLess (strB (keyL us)).toList (strB (keyL vs)).toList = true := by rw [less_key HE7.out.byte HA7.out.byte, HK2.out, HWW.out]; rfl
                    have l3 : ((strB (keyL vs)).toList == (strB (keyL us)).toList) = false := by rw [beq_eq_false_iff_ne]; intro h; rw [h] at l1 l2; rw [l1] at l2; exact absurd l2 (by simp)
                    have l4 : decide ((strB (keyL vs)).toList = (strB (keyL us)).toList) = false := by rw [decide_eq_false_iff_not]; exact beq_eq_false_iff_ne.1 l3
                    have l5 : ¬ (strB (keyL vs)).toList = (strB (keyL us)).toList := beq_eq_false_iff_ne.1 l3
                    have v1 := conv_row (HA7.out.kept HB.out)
                    have v2 := conv_row (HE7.out.kept HB.out)
                    have hpp := Lib.hid (keys_parted vs us FA.out FB.out (by have h1 := hlen.out; have h2 := hmen.out; have h3 := HNM.out; omega) (by rw [HWW.out]; omega))
                    have hqq := Lib.hid (keys_parted us vs FB.out FA.out (by have h1 := hlen.out; have h2 := hmen.out; have h3 := HNM.out; omega) (by rw [← keys_cmp us vs FB.out FA.out, HK2.out, HWW.out]; omega))
                    go_wp2_with fail
                    refine (begins_no a_a a_b n_a n_b c_a c_b (keyL vs) (keyL us) wr (HA7.out.kept HB.out) (HE7.out.kept HB.out) (by have h1 := parted_begins hpp.out (by rw [HWW.out]; omega); rw [HA7.out.len] at h1; exact h1)).mono ?_
                    rintro e w8 ⟨rfl, hb⟩
                    have HB8 := Lib.hid (below_next HB.out hb)
                    clear hb v1 v2
                    go_wp2_with fail
                    refine (begins_no a_b a_a n_b n_a c_b c_a (keyL us) (keyL vs) w8 (HE7.out.kept HB8.out) (HA7.out.kept HB8.out) (by have h1 := parted_begins hqq.out (by rw [← keys_cmp us vs FB.out FA.out, HK2.out, HWW.out]; omega); rw [HE7.out.len] at h1; exact h1)).mono ?_
                    rintro e w9 ⟨rfl, hb⟩
                    have HB9 := Lib.hid (below_next HB8.out hb)
                    clear hb
                    go_wp2
                    go_ret
                    exact ⟨rfl, below_next HB7.out HB9.out⟩
                  · have g2 : decide ((k : Int) < (m : Int)) = false := by rw [decide_eq_false_iff_not]; omega
                    have x1 : ¬ n < m := by omega
                    have x2 : ¬ m < n := by omega
                    have x3 : ¬ (n : Int) < (m : Int) := by omega
                    have x4 : ¬ (m : Int) < (n : Int) := by omega
                    have y4 : (n == m) = true := by rw [beq_iff_eq]; exact hnm
                    have y5 : decide (n = m) = true := by rw [decide_eq_true_iff]; exact hnm
                    have HNM := Lib.hid hnm
                    clear hnm
                    exact (show False by have h3 := HNM.out; omega).elim
                · have g1 : decide ((k : Int) < (n : Int)) = false := by rw [decide_eq_false_iff_not]; omega
                  by_cases hg2 : k < m
                  · have g2 : decide ((k : Int) < (m : Int)) = true := by rw [decide_eq_true_iff]; omega
                    have x1 : ¬ n < m := by omega
                    have x2 : ¬ m < n := by omega
                    have x3 : ¬ (n : Int) < (m : Int) := by omega
                    have x4 : ¬ (m : Int) < (n : Int) := by omega
                    have y4 : (n == m) = true := by rw [beq_iff_eq]; exact hnm
                    have y5 : decide (n = m) = true := by rw [decide_eq_true_iff]; exact hnm
                    have HNM := Lib.hid hnm
                    clear hnm
                    exact (show False by have h3 := HNM.out; omega).elim
                  · have g2 : decide ((k : Int) < (m : Int)) = false := by rw [decide_eq_false_iff_not]; omega
                    have x1 : ¬ n < m := by omega
                    have x2 : ¬ m < n := by omega
                    have x3 : ¬ (n : Int) < (m : Int) := by omega
                    have x4 : ¬ (m : Int) < (n : Int) := by omega
                    have y4 : (n == m) = true := by rw [beq_iff_eq]; exact hnm
                    have y5 : decide (n = m) = true := by rw [decide_eq_true_iff]; exact hnm
                    have HNM := Lib.hid hnm
                    clear hnm
                    have HWW : Hid (wantL vs us = 1) := Lib.hid (by exact HWT.out)
                    have l1 : Op.bytesLess (strB (keyL vs)).toList (strB (keyL us)).toList = false := by rw [less_key HA7.out.byte HE7.out.byte, HK.out, HWW.out]; rfl
                    have l2 : Op.bytesLess (strB (keyL us)).toList (strB (keyL vs)).toList = true := by rw [less_key HE7.out.byte HA7.out.byte, HK2.out, HWW.out]; rfl
                    have l3 : ((strB (keyL vs)).toList == (strB (keyL us)).toList) = false := by rw [beq_eq_false_iff_ne]; intro h; rw [h] at l1 l2; rw [l1] at l2; exact absurd l2 (by simp)
                    have l4 : decide ((strB (keyL vs)).toList = (strB (keyL us)).toList) = false := by rw [decide_eq_false_iff_not]; exact beq_eq_false_iff_ne.1 l3
                    have l5 : ¬ (strB (keyL vs)).toList = (strB (keyL us)).toList := beq_eq_false_iff_ne.1 l3
                    have v1 := conv_row (HA7.out.kept HB.out)
                    have v2 := conv_row (HE7.out.kept HB.out)
                    have hpp := Lib.hid (keys_parted vs us FA.out FB.out (by have h1 := hlen.out; have h2 := hmen.out; have h3 := HNM.out; omega) (by rw [HWW.out]; omega))
                    have hqq := Lib.hid (keys_parted us vs FB.out FA.out (by have h1 := hlen.out; have h2 := hmen.out; have h3 := HNM.out; omega) (by rw [← keys_cmp us vs FB.out FA.out, HK2.out, HWW.out]; omega))
                    go_wp2_with fail
                    refine (begins_no a_a a_b n_a n_b c_a c_b (keyL vs) (keyL us) wr (HA7.out.kept HB.out) (HE7.out.kept HB.out) (by have h1 := parted_begins hpp.out (by rw [HWW.out]; omega); rw [HA7.out.len] at h1; exact h1)).mono ?_
                    rintro e w8 ⟨rfl, hb⟩
                    have HB8 := Lib.hid (below_next HB.out hb)
                    clear hb v1 v2
                    go_wp2_with fail
                    refine (begins_no a_b a_a n_b n_a c_b c_a (keyL us) (keyL vs) w8 (HE7.out.kept HB8.out) (HA7.out.kept HB8.out) (by have h1 := parted_begins hqq.out (by rw [← keys_cmp us vs FB.out FA.out, HK2.out, HWW.out]; omega); rw [HE7.out.len] at h1; exact h1)).mono ?_
                    rintro e w9 ⟨rfl, hb⟩
                    have HB9 := Lib.hid (below_next HB8.out hb)
                    clear hb
                    go_wp2
                    go_ret
                    exact ⟨rfl, below_next HB7.out HB9.out⟩
end Go.Proofs.YtjjfmmimmfihgabGreatDoor
