/-
  WHAT IS PROVED: contracts of the statements' own functions on words: digits, alike.
-/
import Derived.Test.YtfdjeaieddcgdaaDoorWoL
namespace Go.Proofs.YtfdjeaieddcgdaaDoor
open Go.RowKit Go.Shelf
set_option linter.unusedVariables false

theorem strU_append (a b : List UInt8) : strU a ++ strU b = strU (a ++ b) := by
  have h : ∀ x y : ByteArray, x.data.toList = y.data.toList → x = y := by
    intro x y h
    rw [← strU_of x, ← strU_of y, h]
  apply h
  rw [ByteArray.data_append, Array.toList_append]
  simp [strU_data]
theorem strU_ext (l : List UInt8) (a b : Nat) : (strU l).extract a b = strU ((l.drop a).take (b - a)) := by
  rw [← strU_of ((strU l).extract a b), Lib.extract_data, strU_data]
theorem strU_at (l : List UInt8) (k : Nat) (c : UInt8) (h : l[k]? = some c) : (strU l).extract k (k + 1) = strU [c] := by
  rw [strU_ext, show k + 1 - k = 1 by omega]
  congr 1
  obtain ⟨hk, hc⟩ := List.getElem?_eq_some_iff.1 h
  rw [List.drop_eq_getElem_cons hk, hc]; rfl

/-- the one sign of a digit -/
def dig1 (d : Nat) : UInt8 := UInt8.ofNat (48 + d)
theorem ten_ext (d : Nat) (h : d < 10) : (⟨#[48, 49, 50, 51, 52, 53, 54, 55, 56, 57]⟩ : ByteArray).extract d (d + 1) = strU [dig1 d] := by
  refine strU_at [48, 49, 50, 51, 52, 53, 54, 55, 56, 57] d (dig1 d) ?_
  have : d = 0 ∨ d = 1 ∨ d = 2 ∨ d = 3 ∨ d = 4 ∨ d = 5 ∨ d = 6 ∨ d = 7 ∨ d = 8 ∨ d = 9 := by omega
  rcases this with rfl | rfl | rfl | rfl | rfl | rfl | rfl | rfl | rfl | rfl <;> rfl

def empV : Value → Nat
  | .string t => if t.size = 0 then 1 else 0
  | _ => 0
theorem empV_no (l : List UInt8) (h : l ≠ []) : empV (.string (strU l)) = 0 := by
  have : (strU l).size ≠ 0 := by rw [strU_size]; exact fun e => h (List.eq_nil_of_length_eq_zero e)
  simp [empV, this]
theorem digF_len : ∀ (f n : Nat) (l : List UInt8), (digF f n l).length ≤ f + l.length
  | 0, _, _ => by simp [digF]
  | f + 1, n, l => by
    unfold digF
    split
    · omega
    · have := digF_len f (n / 10) (UInt8.ofNat (48 + n % 10) :: l)
      simp at this ⊢; omega
theorem digitsB_len (n : Nat) : (digitsB n).length ≤ 20 := by
  unfold digitsB
  split
  · simp
  · have := digF_len 20 n []; simpa using this

set_option maxHeartbeats 2000000 in
theorem digits_any (n0 : Nat) (h0 : n0 < 9223372036854775808) (w : World) : Calls Tryd.prog 17 #[.int .i64 (n0 : Int)] w fun e w' => e = .returned (.string (strU (digitsB n0))) ∧ w = w' := by
  go_enter Tryd.func17, Tryd.ntmps17
  go_wp2
  go_loop [0, 3] (fun nv sv => ∃ (n f : Nat) (l : List UInt8), nv = .int .i64 n ∧ sv = .string (strU l) ∧ n < 9223372036854775808 ∧ l.length + f = 20 ∧ Hid ((l = [] ∧ n = n0 ∧ f = 20) ∨ (l ≠ [] ∧ n < 10 ^ f ∧ digF f n l = digitsB n0))) (fun nv sv => 2 * (intOf nv).toNat + empV sv)
  case atStart => exact ⟨n0, 20, [], rfl, rfl, h0, rfl, Lib.hid (.inl ⟨rfl, rfl, rfl⟩)⟩
  case round =>
    obtain ⟨n, f, l, rfl, rfl, hn, hf, HP⟩ := hrel
    have hstep : ∀ m, m = UInt8.ofNat (48 + n % 10) :: l → n < 10 ^ f ∨ l = [] → f ≠ 0 → (n / 10 < 10 ^ (f - 1)) := by
      intro m _ h hf0
      rcases h with h | h
      · obtain ⟨g, rfl⟩ : ∃ g, f = g + 1 := ⟨f - 1, by omega⟩
        rw [Nat.pow_succ] at h
        simp; omega
      · subst h
        simp at hf
        subst hf
        have : (10 : Nat) ^ (20 - 1) = 10000000000000000000 := by decide
        omega
    have HS := Lib.hid hstep
    clear hstep
    cases l with
    | nil =>
      have he : strU [] = ⟨#[]⟩ := rfl
      rw [he]
      have hd := ten_ext (n % 10) (by omega)
      have HD := Lib.hid hd
      clear hd he
      go_wp2
      go_round
      case rel =>
        refine ⟨n / 10, f - 1, [dig1 (n % 10)], by go_num, by rw [HD.out]; exact congrArg Value.string (strU_append [dig1 (n % 10)] []), by omega, by simp at hf ⊢; omega, Lib.hid (.inr ⟨by simp, ?_, ?_⟩)⟩
        · exact HS.out _ rfl (.inr rfl) (by simp at hf; omega)
        · rcases HP.out with ⟨_, rfl, rfl⟩ | ⟨h, _⟩
          · unfold digitsB
            by_cases h0 : n = 0
            · subst h0; rfl
            · rw [if_neg h0]
              conv => rhs; unfold digF
              rw [if_neg h0]; rfl
          · exact absurd rfl h
      case measure =>
        rw [HD.out, show (⟨#[]⟩ : ByteArray) = strU [] from rfl, strU_append, List.append_nil, empV_no _ (by simp)]
        have : empV (.string (strU [])) = 1 := rfl
        rw [this]
        simp [intOf]; omega
    | cons c r =>
      have hemp : (strU (c :: r)).toList.isEmpty = false := by rw [Lib.toList_data]; rfl
      have hne : (strU (c :: r)).toList = [] → False := by rw [Lib.toList_data]; intro h; cases h
      by_cases hz : n = 0
      · have hd0 : ¬ 0 < n := by omega
        have HZ := Lib.hid hz
        clear hz
        go_wp2
        go_ret
        refine ⟨?_, rfl⟩
        rcases HP.out with ⟨h, _⟩ | ⟨_, _, h⟩
        · cases h
        · rw [← h, HZ.out]
          cases f with
          | zero => rfl
          | succ f => simp [digF]
      · have hd0 : 0 < n := by omega
        have hd := ten_ext (n % 10) (by omega)
        have hk : ¬ 9223372036854775807 < min (n % 10 + 1) 10 - n % 10 + (strU (c :: r)).size := by
          rw [strU_size]
          simp only [List.length_cons] at hf ⊢
          omega
        have HD := Lib.hid hd
        have HZ := Lib.hid hz
        clear hd hz
        go_wp2
        go_round
        case rel =>
          rcases HP.out with ⟨h, _⟩ | ⟨_, h1, h2⟩
          · cases h
          · obtain ⟨g, rfl⟩ : ∃ g, f = g + 1 := ⟨f - 1, by
              have : f ≠ 0 := by intro e; subst e; simp at h1; exact HZ.out h1
              omega⟩
            refine ⟨n / 10, g, dig1 (n % 10) :: c :: r, by go_num, by rw [HD.out]; exact congrArg Value.string (strU_append [dig1 (n % 10)] (c :: r)), by omega, by simp at hf ⊢; omega, Lib.hid (.inr ⟨by simp, ?_, ?_⟩)⟩
            · have := HS.out _ rfl (.inl h1) (by omega)
              simpa using this
            · rw [← h2]
              conv => rhs; unfold digF
              rw [if_neg HZ.out]; rfl
        case measure =>
          rw [HD.out, strU_append, empV_no _ (by simp), empV_no _ (by simp)]
          have := HZ.out
          simp [intOf]; omega

/-! ### Alike -/
theorem alike_at : ∀ (l m : List WordM), Alike l m → l.length = m.length ∧ ∀ (k : Nat) (x y : WordM), l[k]? = some x → m[k]? = some y → SameW x y
  | [], [], _ => ⟨rfl, fun k x y h => by simp at h⟩
  | a :: l, b :: m, h => by
    obtain ⟨h1, h2⟩ := alike_at l m h.2
    refine ⟨by simp [h1], fun k x y hx hy => ?_⟩
    cases k with
    | zero => cases hx; cases hy; exact h.1
    | succ k => exact h2 k x y (by simpa using hx) (by simpa using hy)
  | [], _ :: _, h => h.elim
  | _ :: _, [], h => h.elim

set_option maxRecDepth 100000 in
set_option maxHeartbeats 4000000 in
theorem alike_yes (v u : Value) (l m : List WordM) (h : Alike l m) (w : World) (hv : RowW w v l) (hu : RowW w u m) :
    Calls Tryd.prog 12 #[v, u] w fun e w' => e = .returned (.bool true) ∧ Below w.heap.size w w' := by
  obtain ⟨hlm, hat⟩ := alike_at l m h
  obtain ⟨ao, cap, rfl, hr1, hm1⟩ := hv.slice
  obtain ⟨bo, cap2, rfl, hr2, hm2⟩ := hu.slice
  have HV := Lib.hid hv
  have HU := Lib.hid hu
  have HAT := Lib.hid hat
  obtain ⟨n, hn⟩ : ∃ n, l.length = n := ⟨_, rfl⟩
  rw [hn] at hr1 HV ⊢
  rw [← hlm, hn] at hr2 HU ⊢
  have HN := Lib.hid hn
  have HM := Lib.hid (hlm.symm.trans hn)
  clear hv hu hn hat hlm h
  go_enter Tryd.func12, Tryd.ntmps12
  go_wp2_with fail
  go_loopw [5] (fun i wr => ∃ k : Nat, k ≤ n ∧ i = .int .i64 k ∧ Hid (Below w.heap.size w wr)) (fun i _ => n - (RowKit.intOf i).toNat)
  case atStart => exact ⟨0, by omega, rfl, Lib.hid (Below.refl _ _)⟩
  case round =>
    obtain ⟨k, hk, rfl, HK⟩ := hrel
    by_cases hlt : k < n
    · obtain ⟨x, hx⟩ : ∃ x, l[k]? = some x := ⟨l[k]'(by rw [HN.out]; exact hlt), by simp [HN.out, hlt]⟩
      obtain ⟨y, hy⟩ : ∃ y, m[k]? = some y := ⟨m[k]'(by rw [HM.out]; exact hlt), by simp [HM.out, hlt]⟩
      obtain ⟨g1, c1, e1, p0, p1, p2, p3⟩ := (HV.out.kept HK.out).lies hx
      obtain ⟨g2, c2, e2, r0, r1, r2, r3⟩ := (HU.out.kept HK.out).lies hy
      obtain ⟨s1, s2, s3⟩ := HAT.out k x y hx hy
      rw [← s1] at r0
      rw [← s2] at r1
      rw [← s3] at r2
      cases e1
      rw [HM.out] at e2
      cases e2
      rw [HN.out]
      have q0 := bwOf_cell wr _ _ p0
      have q1 := bwOf_cell wr _ _ p1
      have q2 := bwOf_cell wr _ _ p2
      have t0 := bwOf_cell wr _ _ r0
      have t1 := bwOf_cell wr _ _ r1
      have t2 := bwOf_cell wr _ _ r2
      clear hx hy p0 p1 p2 p3 r0 r1 r2 r3 s1 s2 s3
      have mixed : Tryd.prog.follows .mixedOrders = true := by kernel_rfl
      go_wp2_with fail
      refine wp_region_bw (w := wr) (by kernel_rfl) (by kernel_rfl) ?_
      repeat (go_big_quiet_step (fail))
      refine wpQuiet_nil ?_
      rintro w7 ⟨m7, h7⟩
      have B7 : Hid (Below wr.heap.size wr w7) := by rw [h7]; exact bwOf_below wr m7
      clear h7
      go_wp2_with fail
      go_roundw
      case rel => exact ⟨k + 1, by omega, by go_num, Lib.hid (below_next HK.out B7.out)⟩
      case measure => simp [RowKit.intOf]; omega
    · obtain rfl : k = n := by omega
      go_wp2_with fail
      go_ret
      exact ⟨rfl, HK.out⟩
end Go.Proofs.YtfdjeaieddcgdaaDoor
