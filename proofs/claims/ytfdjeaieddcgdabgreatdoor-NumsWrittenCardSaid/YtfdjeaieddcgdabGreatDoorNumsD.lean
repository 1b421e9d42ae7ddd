/-
  WHAT IS PROVED: contracts of package nums: the digits in bytes, given one by one by a closure; Get.
-/
import Derived.Test.YtfdjeaieddcgdabGreatDoorNumsC
import Derived.Test.YtfdjeaieddcgdabGreatDoorGetPure
namespace Go.Proofs.YtfdjeaieddcgdabGreatDoor
open Go.RowKit

theorem digitsOf_any (ao : Option Addr) (n cap : Nat) (w : World) :
    Calls Tryz.prog 333 #[.slice ao n cap] w fun e w' =>
      e = .returned (.func (.func 347) #[] #[.pointer (some ⟨w.heap.size + 1, 0, none⟩), .pointer (some ⟨w.heap.size, 0, none⟩)]) ∧
      (w.alloc (.cells #[.slice ao n cap] 29)).alloc (.cells #[.int .i64 0] 3) = w' := by
  have hmf : ∀ (fn : Fn) (first cap : Array Value) (w : World), (Instr.makeFunc fn first cap).run Tryz.prog w = .ok (.func fn first cap) w := fun _ _ _ _ => rfl
  go_enter Tryz.func333, Tryz.ntmps333
  go_wp2
  go_ret
  exact ⟨rfl, rfl⟩

/-- the end of the bytes -/
theorem digitsOf1_end (A B n cap : Nat) (ao : Option Addr) (w : World) (_hn : n ≤ 9223372036854775807) (hA : w.heap[A]? = some (.cells #[.int .i64 (n : Int)] 3 (0, 0))) (hB : w.heap[B]? = some (.cells #[.slice ao n cap] 29 (0, 0))) :
    Calls Tryz.prog 347 #[.pointer (some ⟨A, 0, none⟩), .pointer (some ⟨B, 0, none⟩)] w fun e w' =>
      e = .returned (.tuple #[.int .u8 0, .bool false, .bool false]) ∧ w = w' := by
  have ha := cell_of_one hA
  have hb := cell_of_one hB
  clear hA hB
  go_enter Tryz.func347, Tryz.ntmps347
  go_wp2
  go_ret3
  exact ⟨rfl, rfl⟩

/-- one digit more -/
theorem digitsOf1_more (A B n cap k c : Nat) (ao : Option Addr) (l : List Nat) (w : World) (hr : Row8 w ao n cap l) (hc : l[k]? = some c)
    (hA : w.heap[A]? = some (.cells #[.int .i64 (k : Int)] 3 (0, 0))) (hB : w.heap[B]? = some (.cells #[.slice ao n cap] 29 (0, 0))) :
    Calls Tryz.prog 347 #[.pointer (some ⟨A, 0, none⟩), .pointer (some ⟨B, 0, none⟩)] w fun e w' =>
      e = .returned (.tuple #[.int .u8 ((c % 128 : Nat) : Int), .bool (decide (128 ≤ c)), .bool true]) ∧ w'.heap[A]? = some (.cells #[.int .i64 ((k + 1 : Nat) : Int)] 3 (0, 0)) ∧ w.grownBy w' (some A) := by
  have hk : k < n := by have := (List.getElem?_eq_some_iff.1 hc).1; have := hr.len; omega
  have hn := hr.room
  have hm := hr.most
  have hcb : c < 256 := hr.byte c (List.mem_of_getElem? hc)
  obtain ⟨b, off, rfl, hcell⟩ := hr.lies (by omega)
  have hck := hcell k c hc
  have ha := cell_of_one hA
  have hfa := free_of_one hA
  have hb := cell_of_one hB
  have HA := Lib.hid hA
  have hne : ((k : Int) == (n : Int)) = false := by rw [beq_eq_false_iff_ne]; omega
  clear hA hB hcell hr hc
  go_enter Tryz.func347, Tryz.ntmps347
  go_wp2
  go_ret3
  refine ⟨?_, ?_, grownBy_setCell w A _⟩
  · have : decide ((128 : Int) ≤ (c : Int)) = decide (128 ≤ c) := by rw [Bool.eq_iff_iff]; simp; omega
    simp [this]
  · exact one_setCell HA.out

theorem get_or (acc c k : Nat) (x : Int) (ha : acc < 128 ^ k) (hk : k < 10) (h9 : ¬ (k = 9 ∧ 1 < c % 128)) (hx : x = ((c % 128 * 128 ^ k : Nat) : Int)) :
    bits .or .u64 (acc : Int) x = ((acc + c % 128 * 128 ^ k : Nat) : Int) := by
  subst hx
  have h1 := getGo_fit (c % 128) k (Nat.mod_lt _ (by omega)) hk h9
  have h2 : acc < 18446744073709551616 := by
    have : 128 ^ k ≤ 128 ^ 9 := Nat.pow_le_pow_right (by omega) (by omega)
    omega
  rw [bits_or_u64_nat acc _ h2 h1, getGo_or _ _ _ ha]

theorem get_shift (c k : Nat) (hk : k < 10) (h9 : ¬ (k = 9 ∧ 1 < c % 128)) : IntKind.u64.wrap ((c : Int) % 128 * 2 ^ (7 * k)) = ((c % 128 * 128 ^ k : Nat) : Int) := by
  have h1 := getGo_fit (c % 128) k (Nat.mod_lt _ (by omega)) hk h9
  have e : (2 : Nat) ^ (7 * k) = 128 ^ k := by rw [Nat.pow_mul]
  have e2 : (c : Int) % 128 * 2 ^ (7 * k) = ((c % 128 * 128 ^ k : Nat) : Int) := by rw [← e]; simp
  rw [e2, IntKind.wrap_u64]
  omega

theorem getGo_cons (k acc c : Nat) (r : List Nat) (hk : k < 10) : getGo (10 - k) k acc (c :: r) =
    if k = 9 ∧ 1 < c % 128 then (0, 0, 4)
    else if 0 < k ∧ c % 128 = 0 ∧ c < 128 then (0, 0, 4)
    else if c < 128 then (acc + c % 128 * 128 ^ k, k + 1, 0)
    else getGo (10 - (k + 1)) (k + 1) (acc + c % 128 * 128 ^ k) r := by
  rw [show 10 - k = (10 - (k + 1)) + 1 by omega]
  rfl

theorem getGo_nil (k acc : Nat) (hk : k < 10) : getGo (10 - k) k acc [] = (0, 0, 5) := by
  rw [show 10 - k = (10 - (k + 1)) + 1 by omega]
  rfl

/-- what stands ahead of a round of Get -/
def GetRel (w : World) (ao : Option Addr) (n cap : Nat) (l : List Nat) (k acc : Nat) (wr : World) : Prop :=
  getL l = getGo (10 - k) k acc (l.drop k) ∧ acc < 128 ^ k ∧ k ≤ l.length ∧ wr.heap[w.heap.size + 1]? = some (.cells #[.int .i64 (k : Int)] 3 (0, 0)) ∧
    wr.heap[w.heap.size]? = some (.cells #[.slice ao n cap] 29 (0, 0)) ∧ Below w.heap.size w wr ∧ w.heap.size + 2 ≤ wr.heap.size

/-- what Get hands back -/
def Got (l : List Nat) (w : World) (e : Ending) (w' : World) : Prop :=
  ∃ v t er : Nat, getL l = (v, t, er) ∧ e = .returned (.tuple #[.int .u64 (v : Int), .int .i64 (t : Int), .int .i64 (er : Int)]) ∧ Below w.heap.size w w'

set_option maxHeartbeats 1000000 in
theorem get_any (ao : Option Addr) (n cap : Nat) (l : List Nat) (w : World) (hr : Row8 w ao n cap l) :
    Calls Tryz.prog 299 #[.slice ao n cap] w (Got l w) := by
  have HR := Lib.hid hr
  have hlen := Lib.hid hr.len
  have hnm : n ≤ 9223372036854775807 := Nat.le_trans hr.room hr.most
  clear hr
  go_enter Tryz.func299, Tryz.ntmps299
  go_wp2_with (go_at_call 333; refine (digitsOf_any _ _ _ _).mono ?_; rintro e w1 ⟨rfl, rfl⟩)
  go_loopw [2, 12] (fun v i wr => ∃ k acc : Nat, k ≤ 10 ∧ i = .int .i64 k ∧ v = .int .u64 acc ∧ GetRel w ao n cap l k acc wr) (fun _ i _ => 10 - (intOf i).toNat)
  case atStart =>
    refine ⟨0, 0, by omega, rfl, rfl, rfl, by simp, by simp, ?_, ?_, ?_, by simp⟩
    · exact block_new2 w _ _
    · rw [Below.heap_alloc _ _ _ (by simp)]; exact heap_alloc_new w _
    · exact ((Below.refl _ _).alloc (Nat.le_refl _) _).alloc (by simp) _
  case round =>
    obtain ⟨k, acc, hk, rfl, rfl, hg, hacc, hkl, hA, hB, hbel, hsz⟩ := hrel
    have HA := Lib.hid hA
    have HB := Lib.hid hB
    have HG := Lib.hid hg
    have HC := Lib.hid hacc
    clear hA hB hg hacc
    by_cases h10 : k < 10
    · by_cases hlt : k < l.length
      · obtain ⟨c, hc⟩ : ∃ c, l[k]? = some c := ⟨l[k], by simp [hlt]⟩
        have hd : l.drop k = c :: l.drop (k + 1) := by
          rw [List.drop_eq_getElem_cons hlt]; congr 1; simp [hlt] at hc; exact hc
        have HD := Lib.hid hd
        have HCK := Lib.hid hc
        have hcb : c < 256 := HR.out.byte c (List.mem_of_getElem? hc)
        have hstep := getGo_cons k acc c (l.drop (k + 1)) h10
        rw [← HD.out, ← HG.out] at hstep
        have HS := Lib.hid hstep
        clear hd hc hstep
        go_wp2_with (go_at_call 347; refine (digitsOf1_more _ _ n cap k c ao l _ (HR.out.kept hbel) HCK.out HA.out HB.out).mono ?_; rintro e w1 ⟨rfl, hA1, hg1⟩; have HA1 := Lib.hid hA1; clear hA1)
        all_goals
          have hb1 : Below w.heap.size w w1 := hbel.grown hg1 (by omega) (by intro j hj; cases hj; omega)
          have hs1 := hg1.size
          first
          | (go_ret3; refine ⟨0, 0, 4, ?_, rfl, hb1⟩; rw [HS.out, if_pos ⟨by omega, by omega⟩])
          | (have hcl : c < 128 := by
               have : (!decide (128 ≤ c)) = true := by assumption
               simpa using this
             go_ret3
             first
             | (refine ⟨0, 0, 4, ?_, rfl, hb1⟩; rw [HS.out, if_neg (by omega), if_pos ⟨by omega, by omega, by omega⟩])
             | (refine ⟨_, k + 1, 0, (by rw [HS.out, if_neg (by omega), if_neg (by omega), if_pos hcl]), ?_, hb1⟩
                rw [← get_or acc c k _ HC.out h10 (by omega) rfl]
                first
                | (rw [← get_shift c k h10 (by omega)]; rfl)
                | (have hk9 : k = 9 := by omega
                   subst hk9
                   rfl)))
          | (have hcl : ¬ c < 128 := by
               have : (!decide (128 ≤ c)) = false := by assumption
               simpa using this
             have hB1 : w1.heap[w.heap.size]? = some (.cells #[.slice ao n cap] 29 (0, 0)) := (hg1.block _ (by omega) (by simp)).trans HB.out
             have hR : GetRel w ao n cap l (k + 1) (acc + c % 128 * 128 ^ k) w1 :=
               ⟨by rw [HS.out, if_neg (by omega), if_neg (by omega), if_neg hcl], getGo_next c k acc HC.out, by omega, HA1.out, hB1, hb1, by omega⟩
             refine ⟨⟨k + 1, _, by omega, ?_, ?_, hR⟩, ?_⟩
             · first | go_num | (have hk9 : k = 9 := by omega
                                 subst hk9
                                 rfl)
             · rw [← get_or acc c k _ HC.out h10 (by omega) rfl]
               first
               | (rw [← get_shift c k h10 (by omega)]; done)
               | (have hz : c % 128 = 0 := by omega
                  rw [hz]; simp; done)
               | (have hk9 : k = 9 := by omega
                  subst hk9
                  rfl)
             · simp [intOf]; omega)
      · obtain rfl : k = l.length := by omega
        have hln : l.length = n := hlen.out
        have hAn := HA.out
        rw [hln] at hAn
        have HAn := Lib.hid hAn
        have HN := Lib.hid hln
        clear hAn hln
        go_wp2_with (go_at_call 347; refine (digitsOf1_end _ _ n cap ao _ hnm HAn.out HB.out).mono ?_; rintro e w1 ⟨rfl, rfl⟩)
        go_ret3
        refine ⟨0, 0, 5, ?_, rfl, hbel⟩
        rw [HG.out, List.drop_eq_nil_of_le (Nat.le_refl _), getGo_nil _ _ h10]
    · obtain rfl : k = 10 := by omega
      go_wp2
      go_ret3
      refine ⟨0, 0, 4, ?_, rfl, hbel⟩
      rw [HG.out]; rfl
end Go.Proofs.YtfdjeaieddcgdabGreatDoor
