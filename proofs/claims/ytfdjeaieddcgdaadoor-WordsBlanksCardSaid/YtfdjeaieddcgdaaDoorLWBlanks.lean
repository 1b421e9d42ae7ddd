/-
  WHAT IS PROVED: the walk of the statement WordsBlanks.
-/
import Derived.Test.YtfdjeaieddcgdaaDoorWoO
import Derived.Test.YtfdjeaieddcgdaaDoorWoLaw
namespace Go.Proofs.YtfdjeaieddcgdaaDoor
open Go.RowKit Go.Shelf
set_option linter.unusedVariables false

/-- blanks in turn -/
def turnB (T : List UInt8) : Nat → List UInt8
  | 0 => []
  | i + 1 => turnB T i ++ [T.getD (i % 4) 32]
theorem turnB_len (T : List UInt8) : ∀ k, (turnB T k).length = k
  | 0 => rfl
  | k + 1 => by rw [turnB, List.length_append, turnB_len T k]; rfl
def t1B : List UInt8 := [32, 9, 10, 13]
def t2B : List UInt8 := [13, 32, 10, 9]
theorem four_cases (d : Nat) (h : d < 4) : d = 0 ∨ d = 1 ∨ d = 2 ∨ d = 3 := by omega
theorem t1_blank (d : Nat) (h : d < 4) : blank (t1B.getD d 32) = true := by
  rcases four_cases d h with rfl | rfl | rfl | rfl <;> decide
theorem t2_blank (d : Nat) (h : d < 4) : blank (t2B.getD d 32) = true := by
  rcases four_cases d h with rfl | rfl | rfl | rfl <;> decide
theorem turnB_blank (T : List UInt8) (h : ∀ d, d < 4 → blank (T.getD d 32) = true) : ∀ k, ∀ c ∈ turnB T k, blank c = true
  | 0, c, hc => by simp [turnB] at hc
  | k + 1, c, hc => by
    rw [turnB] at hc
    rcases List.mem_append.1 hc with hc | hc
    · exact turnB_blank T h k c hc
    · rw [List.mem_singleton.1 hc]; exact h _ (Nat.mod_lt _ (by decide))
theorem t1_ext (d : Nat) (h : d < 4) : (⟨#[32, 9, 10, 13]⟩ : ByteArray).extract d (d + 1) = strU [t1B.getD d 32] := by
  refine strU_at t1B d _ ?_
  rcases four_cases d h with rfl | rfl | rfl | rfl <;> rfl
theorem t2_ext (d : Nat) (h : d < 4) : (⟨#[13, 32, 10, 9]⟩ : ByteArray).extract d (d + 1) = strU [t2B.getD d 32] := by
  refine strU_at t2B d _ ?_
  rcases four_cases d h with rfl | rfl | rfl | rfl <;> rfl
theorem blanks_of (s : ByteArray) (N M : Nat) (hs : s.size ≤ 3000) (hN : N ≤ 255) (hM : M ≤ 255) : ofB (strU (turnB t1B N) ++ s ++ strU (turnB t2B M)).data.toList = (ofB s.data.toList).shift N := by
  have : (strU (turnB t1B N) ++ s ++ strU (turnB t2B M)).data.toList = turnB t1B N ++ s.data.toList ++ turnB t2B M := by
    have h : s = strU s.data.toList := (strU_of s).symm
    conv => lhs; rw [h]
    rw [strU_append, strU_append, strU_data]
  rw [this, ofB_between _ _ _ (turnB_blank _ t1_blank N) (turnB_blank _ t2_blank M) (by rw [turnB_len, turnB_len, str_len]; omega), turnB_len]
theorem ofB_pos6 {s : List UInt8} {p e : Nat} (hs : s.length ≤ 4096) (h : ofB s = .bad p e) : p < s.length ∧ e ≠ 0 := by
  rw [ofB_lex, if_neg (by omega)] at h
  refine ⟨by have := lexB_lt p e (s.length + 1) 0 0 s (by omega) h; omega, lexB_err _ _ _ _ _ h⟩

set_option maxRecDepth 100000 in
set_option maxHeartbeats 8000000 in
theorem blanks_bad (s : ByteArray) (N M : Nat) (w : World) (hw : Wo w) (hN : N ≤ 255) (hM : M ≤ 255) (hs : s.size ≤ 3000) (k e : Nat) (he : e ≠ 0) (hk : k ≤ 3000) (hb : ofB s.data.toList = .bad k e) :
    Calls Tryd.prog 3 #[.string s, .int .u8 (N : Int), .int .u8 (M : Int)] w fun e w' => e = .returned (.bool true) ∧ Below w.heap.size w w' := by
  have h3 : ¬ 3000 < s.size := by omega
  have C1 := fun w hw => of_bad s k e hb w hw
  have C2 := fun w hw => of_bad (strU (turnB t1B N) ++ s ++ strU (turnB t2B M)) (k + N) e (by rw [blanks_of s N M hs hN hM, hb]; rfl) w hw
  clear hb
  have HB0 := Lib.hid (Below.refl w.heap.size w)
  have HW0 := Lib.hid hw
  clear hw
  go_enter Tryd.func3, Tryd.ntmps3
  go_wp2_with fail
  refine (alive_yes6 _ HW0.out).mono ?_
  rintro e w1 ⟨rfl, hb1⟩
  have HB1 := Lib.hid (HB0.out.trans (hb1.mono HB0.out.size))
  have HW1 := Lib.hid (HW0.out.kept hb1)
  clear hb1
  go_wp2_with fail
  go_loop [7, 9] (fun sv iv => ∃ i : Nat, i ≤ N ∧ iv = .int .i64 i ∧ sv = .string (strU (turnB t1B i))) (fun _ iv => N - (intOf iv).toNat)
  case atStart => exact ⟨0, by omega, rfl, rfl⟩
  case round =>
    obtain ⟨i, hi, rfl, rfl⟩ := hrel
    by_cases hlt : i < N
    · have hz : ¬ 9223372036854775807 < (strU (turnB t1B i)).size + (min (i % 4 + 1) 4 - i % 4) := by rw [strU_size, turnB_len]; omega
      have EZ : Hid (strU (turnB t1B i) ++ (⟨#[32, 9, 10, 13]⟩ : ByteArray).extract (i % 4) (i % 4 + 1) = strU (turnB t1B (i + 1))) := by
        show _ = _
        rw [t1_ext _ (Nat.mod_lt _ (by decide)), strU_append, turnB]
      go_wp2_with fail
      go_round
      case rel => exact ⟨i + 1, by omega, by go_num, by rw [EZ.out]⟩
      case measure => simp [intOf]; omega
    · obtain rfl : N = i := by omega
      clear hlt hi
      go_wp2_with fail
      go_loop [8, 10] (fun sv iv => ∃ i : Nat, i ≤ M ∧ iv = .int .i64 i ∧ sv = .string (strU (turnB t2B i))) (fun _ iv => M - (intOf iv).toNat)
      case atStart => exact ⟨0, by omega, rfl, rfl⟩
      case round =>
        obtain ⟨i, hi, rfl, rfl⟩ := hrel
        by_cases hlt : i < M
        · have hz : ¬ 9223372036854775807 < (strU (turnB t2B i)).size + (min (i % 4 + 1) 4 - i % 4) := by rw [strU_size, turnB_len]; omega
          have EZ : Hid (strU (turnB t2B i) ++ (⟨#[13, 32, 10, 9]⟩ : ByteArray).extract (i % 4) (i % 4 + 1) = strU (turnB t2B (i + 1))) := by
            show _ = _
            rw [t2_ext _ (Nat.mod_lt _ (by decide)), strU_append, turnB]
          go_wp2_with fail
          go_round
          case rel => exact ⟨i + 1, by omega, by go_num, by rw [EZ.out]⟩
          case measure => simp [intOf]; omega
        · obtain rfl : M = i := by omega
          clear hlt hi
          obtain ⟨A, hA⟩ : ∃ A, strU (turnB t1B N) = A := ⟨_, rfl⟩
          have hAs : A.size = N := by rw [← hA, strU_size, turnB_len]
          obtain ⟨B, hB⟩ : ∃ B, strU (turnB t2B M) = B := ⟨_, rfl⟩
          have hBs : B.size = M := by rw [← hB, strU_size, turnB_len]
          rw [hA, hB] at C2
          rw [hA, hB]
          clear hA hB
          have hz1 : ¬ 9223372036854775807 < A.size + s.size := by omega
          have hz2 : ¬ 9223372036854775807 < A.size + s.size + B.size := by omega
          go_wp2_with fail
          refine (C1 _ HW1.out).mono ?_
          rintro e w2 ⟨oa, ca, rfl, hb2⟩
          have HB2 := Lib.hid (HB1.out.trans (hb2.mono HB1.out.size))
          have HW2 := Lib.hid (HW1.out.kept hb2)
          clear hb2
          go_wp2_with fail
          refine (C2 _ HW2.out).mono ?_
          rintro e w3 ⟨ob, cb, rfl, hb3⟩
          have HB3 := Lib.hid (HB2.out.trans (hb3.mono HB2.out.size))
          have HW3 := Lib.hid (HW2.out.kept hb3)
          clear hb3
          go_wp2_with fail
          go_loop [17] (fun iv => iv = .int .i64 0) (fun _ => 0)
          case atStart => rfl
          case round =>
            obtain rfl := hrel
            go_wp2_with fail
            go_ret
            exact ⟨rfl, HB3.out⟩

set_option maxRecDepth 100000 in
set_option maxHeartbeats 8000000 in
theorem blanks_ok (s : ByteArray) (N M : Nat) (w : World) (hw : Wo w) (hN : N ≤ 255) (hM : M ≤ 255) (hs : s.size ≤ 3000) (l : List WordM) (hll : l.length ≤ 1024) (hlb : ∀ x ∈ l, x.pos < 3000) (hb : ofB s.data.toList = .ok l) :
    Calls Tryd.prog 3 #[.string s, .int .u8 (N : Int), .int .u8 (M : Int)] w fun e w' => e = .returned (.bool true) ∧ Below w.heap.size w w' := by
  have h3 : ¬ 3000 < s.size := by omega
  have C1 := fun w hw => of_ok s l hb w hw
  have C2 := fun w hw => of_ok (strU (turnB t1B N) ++ s ++ strU (turnB t2B M)) (l.map fun w => { w with pos := w.pos + N }) (by rw [blanks_of s N M hs hN hM, hb]; rfl) w hw
  clear hb
  have HLB := Lib.hid hlb
  clear hlb
  have HB0 := Lib.hid (Below.refl w.heap.size w)
  have HW0 := Lib.hid hw
  clear hw
  go_enter Tryd.func3, Tryd.ntmps3
  go_wp2_with fail
  refine (alive_yes6 _ HW0.out).mono ?_
  rintro e w1 ⟨rfl, hb1⟩
  have HB1 := Lib.hid (HB0.out.trans (hb1.mono HB0.out.size))
  have HW1 := Lib.hid (HW0.out.kept hb1)
  clear hb1
  go_wp2_with fail
  go_loop [7, 9] (fun sv iv => ∃ i : Nat, i ≤ N ∧ iv = .int .i64 i ∧ sv = .string (strU (turnB t1B i))) (fun _ iv => N - (intOf iv).toNat)
  case atStart => exact ⟨0, by omega, rfl, rfl⟩
  case round =>
    obtain ⟨i, hi, rfl, rfl⟩ := hrel
    by_cases hlt : i < N
    · have hz : ¬ 9223372036854775807 < (strU (turnB t1B i)).size + (min (i % 4 + 1) 4 - i % 4) := by rw [strU_size, turnB_len]; omega
      have EZ : Hid (strU (turnB t1B i) ++ (⟨#[32, 9, 10, 13]⟩ : ByteArray).extract (i % 4) (i % 4 + 1) = strU (turnB t1B (i + 1))) := by
        show _ = _
        rw [t1_ext _ (Nat.mod_lt _ (by decide)), strU_append, turnB]
      go_wp2_with fail
      go_round
      case rel => exact ⟨i + 1, by omega, by go_num, by rw [EZ.out]⟩
      case measure => simp [intOf]; omega
    · obtain rfl : N = i := by omega
      clear hlt hi
      go_wp2_with fail
      go_loop [8, 10] (fun sv iv => ∃ i : Nat, i ≤ M ∧ iv = .int .i64 i ∧ sv = .string (strU (turnB t2B i))) (fun _ iv => M - (intOf iv).toNat)
      case atStart => exact ⟨0, by omega, rfl, rfl⟩
      case round =>
        obtain ⟨i, hi, rfl, rfl⟩ := hrel
        by_cases hlt : i < M
        · have hz : ¬ 9223372036854775807 < (strU (turnB t2B i)).size + (min (i % 4 + 1) 4 - i % 4) := by rw [strU_size, turnB_len]; omega
          have EZ : Hid (strU (turnB t2B i) ++ (⟨#[13, 32, 10, 9]⟩ : ByteArray).extract (i % 4) (i % 4 + 1) = strU (turnB t2B (i + 1))) := by
            show _ = _
            rw [t2_ext _ (Nat.mod_lt _ (by decide)), strU_append, turnB]
          go_wp2_with fail
          go_round
          case rel => exact ⟨i + 1, by omega, by go_num, by rw [EZ.out]⟩
          case measure => simp [intOf]; omega
        · obtain rfl : M = i := by omega
          clear hlt hi
          obtain ⟨A, hA⟩ : ∃ A, strU (turnB t1B N) = A := ⟨_, rfl⟩
          have hAs : A.size = N := by rw [← hA, strU_size, turnB_len]
          obtain ⟨B, hB⟩ : ∃ B, strU (turnB t2B M) = B := ⟨_, rfl⟩
          have hBs : B.size = M := by rw [← hB, strU_size, turnB_len]
          rw [hA, hB] at C2
          rw [hA, hB]
          clear hA hB
          have hz1 : ¬ 9223372036854775807 < A.size + s.size := by omega
          have hz2 : ¬ 9223372036854775807 < A.size + s.size + B.size := by omega
          go_wp2_with fail
          refine (C1 _ HW1.out).mono ?_
          rintro e w2 ⟨va, rfl, hra, hb2⟩
          have HB2 := Lib.hid (HB1.out.trans (hb2.mono HB1.out.size))
          have HW2 := Lib.hid (HW1.out.kept hb2)
          clear hb2
          obtain ⟨oa, ca, rfl, hna, hma⟩ := hra.slice
          have Ra := Lib.hid hra
          clear hra
          go_wp2_with fail
          refine (C2 _ HW2.out).mono ?_
          rintro e w3 ⟨vb, rfl, hrb, hb3⟩
          have HB3 := Lib.hid (HB2.out.trans (hb3.mono HB2.out.size))
          have HW3 := Lib.hid (HW2.out.kept hb3)
          have Ra' := Lib.hid (Ra.out.kept hb3)
          clear hb3
          obtain ⟨ob, cb, rfl, hnb, hmb⟩ := hrb.slice
          have Rb := Lib.hid hrb
          clear hrb
          rw [List.length_map] at hnb ⊢
          have HNB := Lib.hid hnb
          go_wp2_with fail
          obtain ⟨n, hn⟩ : ∃ n, l.length = n := ⟨_, rfl⟩
          rw [hn] at HNB hna hnb hll Ra' ⊢
          rw [List.length_map, hn] at Rb
          have HN := Lib.hid hn
          clear hn
          rename World => wq
          go_loopw [17] (fun iv wr => ∃ i : Nat, i ≤ n ∧ iv = .int .i64 i ∧ Hid (Below wq.heap.size wq wr)) (fun iv _ => n - (intOf iv).toNat)
          case atStart => exact ⟨0, by omega, rfl, Lib.hid (Below.refl _ _)⟩
          case round =>
            obtain ⟨i, hi, rfl, HK⟩ := hrel
            by_cases hlt : i < n
            · obtain ⟨x, hx⟩ : ∃ x, l[i]? = some x := ⟨l[i]'(by rw [HN.out]; exact hlt), by simp [HN.out, hlt]⟩
              have hx2 : (l.map fun w => { w with pos := w.pos + N })[i]? = some { x with pos := x.pos + N } := by rw [List.getElem?_map, hx]; rfl
              obtain ⟨g1, c1, e1, p0, p1, p2, p3⟩ := (Ra'.out.kept HK.out).lies hx
              obtain ⟨xk, xs, xi, xp⟩ := x
              obtain ⟨wx, hwx⟩ : ∃ wx, wr.alloc (.cells #[.int .u8 (xk : Int), .string (strU xs), .int .i64 (xi : Int), .int .i64 ((xp : Int) + (N : Int))] 29) = wx := ⟨_, rfl⟩
              have bx : Below wr.heap.size wr wx := by rw [← hwx]; exact below_alloc _ _
              have HKX := Lib.hid (HK.out.trans (bx.mono HK.out.size))
              obtain ⟨q0, q1, q2, q3⟩ := (Four.new wr 29 (.int .u8 (xk : Int)) (.string (strU xs)) (.int .i64 (xi : Int)) (.int .i64 ((xp : Int) + (N : Int)))).cells
              rw [hwx] at q0 q1 q2 q3
              obtain ⟨g2, c2, e2, r0, r1, r2, r3⟩ := (Rb.out.kept HKX.out).lies hx2
              rw [HN.out] at e1
              rw [List.length_map, HN.out] at e2
              cases e1
              cases e2
              have hxp := HLB.out _ (List.mem_of_getElem? hx)
              clear hx hx2 bx
              dsimp only at hxp p0 p1 p2 p3 r0 r1 r2 r3
              rw [Int.natCast_add] at r3
              have a0 := bwOf_cell wx _ _ q0
              have a1 := bwOf_cell wx _ _ q1
              have a2 := bwOf_cell wx _ _ q2
              have a3 := bwOf_cell wx _ _ q3
              have b0 := bwOf_cell wx _ _ r0
              have b1 := bwOf_cell wx _ _ r1
              have b2 := bwOf_cell wx _ _ r2
              have b3 := bwOf_cell wx _ _ r3
              clear q0 q1 q2 q3 r0 r1 r2 r3
              have HWX := Lib.hid hwx
              clear hwx
              have mixed : Tryd.prog.follows .mixedOrders = true := by kernel_rfl
              go_wp2_with fail
              rw [HWX.out]
              refine wp_region_bw (w := wx) (by kernel_rfl) (by kernel_rfl) ?_
              repeat (go_big_quiet_step (fail))
              refine wpQuiet_nil ?_
              rintro w7 ⟨m7, h7⟩
              have B7 : Hid (Below wx.heap.size wx w7) := by rw [h7]; exact bwOf_below wx m7
              clear h7
              go_wp2_with fail
              go_roundw
              case rel => exact ⟨i + 1, by omega, by go_num, Lib.hid (below_next HKX.out B7.out)⟩
              case measure => simp [RowKit.intOf]; omega
            · obtain rfl : i = n := by omega
              go_wp2_with fail
              go_ret
              exact ⟨rfl, HB3.out.trans (HK.out.mono HB3.out.size)⟩

set_option maxRecDepth 100000 in
set_option maxHeartbeats 8000000 in
theorem blanks_0 (s : ByteArray) (N M : Nat) (w : World) (hw : Wo w) (hN : N ≤ 255) (hM : M ≤ 255) (ha : s.size ≤ 140737488351232) (hs : 3000 < s.size) :
    Calls Tryd.prog 3 #[.string s, .int .u8 (N : Int), .int .u8 (M : Int)] w fun e w' => e = .returned (.bool true) ∧ Below w.heap.size w w' := by
  have HB0 := Lib.hid (Below.refl w.heap.size w)
  have HW0 := Lib.hid hw
  clear hw
  go_enter Tryd.func3, Tryd.ntmps3
  go_wp2_with fail
  refine (alive_yes6 _ HW0.out).mono ?_
  rintro e w1 ⟨rfl, hb1⟩
  have HB1 := Lib.hid (HB0.out.trans (hb1.mono HB0.out.size))
  have HW1 := Lib.hid (HW0.out.kept hb1)
  clear hb1
  go_wp2_with fail
  refine (alive_yes6 _ HW1.out).mono ?_
  rintro e w2 ⟨rfl, hb2⟩
  have HB2 := Lib.hid (HB1.out.trans (hb2.mono HB1.out.size))
  have HW2 := Lib.hid (HW1.out.kept hb2)
  clear hb2
  go_wp2_with fail
  go_ret
  exact ⟨rfl, HB2.out⟩

theorem walk_WordsBlanks (s : ByteArray) (ha : s.size ≤ 140737488351232) (n : Int) (hn : (Lit.int .u8 n).wf = true) (k : Int) (hk : (Lit.int .u8 k).wf = true) {w : World} (hw : Wo w) :
    Calls Tryd.prog 3 #[.string s, .int .u8 n, .int .u8 k] w fun e w' => e = .returned (.bool true) ∧ Below w.heap.size w w' := by
  have h1 := wf_u8 hn
  have h2 := wf_u8 hk
  obtain ⟨N, rfl⟩ := Int.eq_ofNat_of_zero_le h1.1
  obtain ⟨M, rfl⟩ := Int.eq_ofNat_of_zero_le h2.1
  by_cases h3 : 3000 < s.size
  · exact blanks_0 s N M w hw (by omega) (by omega) ha h3
  cases hb : ofB s.data.toList with
  | bad k e =>
    have hk := ofB_pos6 (by rw [str_len]; omega) hb
    rw [str_len] at hk
    exact blanks_bad s N M w hw (by omega) (by omega) (by omega) k e hk.2 (by omega) hb
  | ok l =>
    refine blanks_ok s N M w hw (by omega) (by omega) (by omega) l (by have := ofB_len hb; omega) (fun x hx => ?_) hb
    obtain ⟨j, hj⟩ := List.mem_iff_getElem?.1 hx
    have := (ofB_rise hb j x hj).1
    rw [str_len] at this
    omega
end Go.Proofs.YtfdjeaieddcgdaaDoor
