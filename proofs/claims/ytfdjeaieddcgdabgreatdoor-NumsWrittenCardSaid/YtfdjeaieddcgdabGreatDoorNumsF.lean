/-
  WHAT IS PROVED: contracts of the statements' own helpers: SameBytes, Beyond.
-/
import Derived.Test.YtfdjeaieddcgdabGreatDoorNumsE
namespace Go.Proofs.YtfdjeaieddcgdabGreatDoor
open Go.RowKit

set_option maxHeartbeats 1000000 in
theorem sameBytes_any (a b : Option Addr) (n m ca cb : Nat) (l r : List Nat) (w : World) (hl : Row8 w a n ca l) (hr : Row8 w b m cb r) :
    Calls Tryz.prog 19 #[.slice a n ca, .slice b m cb] w (Says (decide (l = r)) w) := by
  have hll := hl.len
  have hrl := hr.len
  have hl1 := hl.room
  have hl2 := hl.most
  have hr1 := hr.room
  have hr2 := hr.most
  by_cases hnm : n = m
  · subst hnm
    have HL := Lib.hid hll
    have HR := Lib.hid hrl
    clear hll hrl
    rcases Nat.eq_zero_or_pos n with rfl | hn
    · have h1 : l = r := by rw [List.eq_nil_of_length_eq_zero HL.out, List.eq_nil_of_length_eq_zero HR.out]
      have h2 : decide (l = r) = true := by simpa using h1
      rw [h2]
      clear h1 h2 hl hr
      go_enter Tryz.func19, Tryz.ntmps19
      go_wp2
      refine wp_loop_rounds 1 ?_
      rw [rounds_succ]
      go_wp2
      go_ret
      exact ⟨rfl, 0, rfl⟩
    · obtain ⟨ba, oa, rfl, hca⟩ := hl.lies hn
      obtain ⟨bb, ob, rfl, hcb⟩ := hr.lies hn
      have HA := Lib.hid hca
      have HB := Lib.hid hcb
      clear hl hr hca hcb
      go_enter Tryz.func19, Tryz.ntmps19
      go_wp2
      go_loopw [5] (fun i wr => ∃ k j : Nat, k ≤ n ∧ i = .int .i64 k ∧ Hid (l.take k = r.take k) ∧ wr = w.drewN j) (fun i _ => n - (intOf i).toNat)
      case atStart => exact ⟨0, 0, by omega, rfl, Lib.hid rfl, rfl⟩
      case round =>
        obtain ⟨k, j, hk, rfl, HT, rfl⟩ := hrel
        by_cases hlt : k < n
        · obtain ⟨c, hc⟩ : ∃ c, l[k]? = some c := ⟨l[k]'(by rw [HL.out]; exact hlt), by simp [HL.out, hlt]⟩
          obtain ⟨d, hd⟩ : ∃ d, r[k]? = some d := ⟨r[k]'(by rw [HR.out]; exact hlt), by simp [HR.out, hlt]⟩
          have h1 := HA.out k c hc
          have h2 := HB.out k d hd
          have HC := Lib.hid hc
          have HD := Lib.hid hd
          clear hc hd
          by_cases hcd : c = d
          · subst hcd
            go_wp2
            go_quiet (fail)
            go_wp2
            go_roundw
            case rel => exact ⟨k + 1, _, by omega, by go_num, Lib.hid (same_next HT.out HC.out HD.out), rfl⟩
            case measure => simp [intOf]; omega
          · have hne : ((c : Int) != (d : Int)) = true := by simp; omega
            go_wp2
            go_quiet (fail)
            go_wp2
            go_ret
            have h3 : ¬ l = r := by
              intro h
              have := HC.out
              rw [h, HD.out] at this
              exact hcd (Option.some.inj this).symm
            exact ⟨by simp [h3], _, (drewN_add w j _).symm⟩
        · obtain rfl : k = n := by omega
          go_wp2
          go_ret
          have h3 : l = r := by
            have := HT.out
            rwa [List.take_of_length_le (by rw [HL.out]; omega), List.take_of_length_le (by rw [HR.out]; omega)] at this
          exact ⟨by simp [h3], _, rfl⟩
  · have hne : ((n : Int) != (m : Int)) = true := by simp; omega
    have h3 : ¬ l = r := by intro h; subst h; omega
    have h4 : decide (l = r) = false := by simpa using h3
    rw [h4]
    clear h3 h4 hll hrl hl hr
    go_enter Tryz.func19, Tryz.ntmps19
    go_wp2
    go_ret
    exact ⟨rfl, 0, rfl⟩

/-- the numbers of a list that lies in a block of its own, as Beyond is handed them -/
structure RowI (w : World) (b : Nat) (l : List Nat) : Prop where
  cell : ∀ (j : Nat) c, l[j]? = some c → w.cell? ⟨b, j, none⟩ = some (.int .i64 (c : Int))

theorem rowI_one (w : World) (c : Nat) (t : TypeId) : RowI (w.alloc (.cells #[.int .i64 (c : Int)] t)) w.heap.size [c] := by
  refine ⟨fun j x hx => ?_⟩
  match j, hx with
  | 0, hx => simp at hx; subst hx; rw [World.cell?_alloc_at _ _ _ _ rfl]; rfl
  | j + 1, hx => simp at hx

theorem sum_take_next (l : List Nat) (k c : Nat) (h : l[k]? = some c) : (l.take (k + 1)).sum = (l.take k).sum + c := by
  rw [List.take_add_one, h]; simp
theorem sum_take_le (l : List Nat) (k : Nat) : (l.take k).sum ≤ l.sum := by
  have h : (l.take k ++ l.drop k).sum = l.sum := by rw [List.take_append_drop]
  rw [List.sum_append] at h; omega

set_option maxHeartbeats 1000000 in
theorem beyond_any (b cap : Nat) (l : List Nat) (w : World) (hr : RowI w b l) (hlen : l.length ≤ 1000) (hsum : l.sum ≤ 9223372036854775807) :
    Calls Tryz.prog 52 #[.slice (some ⟨b, 0, none⟩) l.length cap] w fun e w' => e = .returned (.bool (decide (1048576 < l.sum))) ∧ w = w' := by
  have HR := Lib.hid hr
  clear hr
  go_enter Tryz.func52, Tryz.ntmps52
  go_wp2
  go_loop [3, 4] (fun t i => ∃ k s : Nat, k ≤ l.length ∧ i = .int .i64 k ∧ t = .int .i64 s ∧ Hid (s = (l.take k).sum) ∧ s ≤ 1048576) (fun _ i => l.length - (intOf i).toNat)
  case atStart => exact ⟨0, 0, by omega, rfl, rfl, Lib.hid (by simp), by omega⟩
  case round =>
    obtain ⟨k, s, hk, rfl, rfl, HS, hs⟩ := hrel
    by_cases hlt : k < l.length
    · obtain ⟨c, hc⟩ : ∃ c, l[k]? = some c := ⟨l[k], by simp [hlt]⟩
      have hcell := HR.out.cell k c hc
      have HN := Lib.hid (sum_take_next l k c hc)
      have hle := sum_take_le l (k + 1)
      rw [HN.out, ← HS.out] at hle
      have hle2 : s + c ≤ 9223372036854775807 := by omega
      have HL := Lib.hid hle
      clear hc hle
      by_cases hb : s + c ≤ 1048576
      · go_wp2
        go_round
        case rel => exact ⟨k + 1, s + c, by omega, by go_num, by go_num, Lib.hid (by rw [HN.out, HS.out]), by omega⟩
        case measure => simp [intOf]; omega
      · go_wp2
        go_ret
        have h3 : 1048576 < l.sum := by have := HL.out; omega
        exact ⟨by simp [h3], rfl⟩
    · obtain rfl : k = l.length := by omega
      go_wp2
      go_ret
      have h3 : ¬ 1048576 < l.sum := by have := HS.out; rw [List.take_length] at this; omega
      exact ⟨by simp [h3], rfl⟩

end Go.Proofs.YtfdjeaieddcgdabGreatDoor
