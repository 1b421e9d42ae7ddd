/-
  WHAT IS PROVED: contracts of package files: valid, the comparison of names, place, missing.
-/
import Derived.Test.YtkmanpmaflpgoaaDiskA
import Derived.Deep.LoopGhost
namespace Go.Proofs.Ytkmanpmaflpgoaa
open Go.RowKit Go.Lib

theorem strN_get (s : ByteArray) (k : Nat) (c : UInt8) (h : s.data.toList[k]? = some c) : (strN s)[k]? = some c.toNat := by
  simp only [strN, List.getElem?_map, h, Option.map_some]

theorem all_next (l : List UInt8) (k : Nat) (c : UInt8) (h : l[k]? = some c) (ha : (l.take k).all okSign = true) (hc : okSign c = true) : (l.take (k + 1)).all okSign = true := by
  rw [List.take_add_one, h, List.all_append, ha]; simp [hc]
theorem all_stop (l : List UInt8) (k : Nat) (c : UInt8) (h : l[k]? = some c) (hc : okSign c = false) : l.all okSign = false := by
  rw [Bool.eq_false_iff]
  intro ha
  rw [List.all_eq_true] at ha
  rw [ha c (List.mem_of_getElem? h)] at hc; cases hc

theorem sign_cases (c : UInt8) : (okSign c = true ∧ ((97 ≤ c.toNat ∧ c.toNat ≤ 122) ∨ (c.toNat < 97 ∧ 48 ≤ c.toNat ∧ c.toNat ≤ 57) ∨ c.toNat = 45 ∨ c.toNat = 46)) ∨
    (okSign c = false ∧ (c.toNat < 48 ∧ c.toNat ≠ 45 ∧ c.toNat ≠ 46 ∨ (57 < c.toNat ∧ c.toNat < 97) ∨ 122 < c.toNat)) := by
  unfold okSign
  by_cases a : 97 ≤ c.toNat ∧ c.toNat ≤ 122
  · left; simp [a]
  · by_cases b : 48 ≤ c.toNat ∧ c.toNat ≤ 57
    · left; exact ⟨by simp [b], .inr (.inl ⟨by omega, b⟩)⟩
    · by_cases d : c.toNat = 45
      · left; simp [d]
      · by_cases e : c.toNat = 46
        · left; simp [e]
        · right
          refine ⟨?_, by omega⟩
          simp [d, e]
          omega

set_option maxRecDepth 100000 in
set_option maxHeartbeats 4000000 in
theorem valid_any (s : ByteArray) (w : World) (hs : s.size ≤ 4294967296) :
    Calls Try.prog 49 #[.string s] w fun e w' => e = .returned (.bool (okName s)) ∧ Below w.heap.size w w' := by
  have hcv := fun w : World => run_bytes_of_string (P := Try.prog) w 9 22 5 s Try.underlying9 Try.underlying22 Try.underlying5
  have hlen : s.data.toList.length = s.size := Array.length_toList
  have HL := Lib.hid hlen
  clear hlen
  go_enter Try.func49, Try.ntmps49
  go_wp2
  have h2 := (row_of_str w s hs).drew
  obtain ⟨cap, hcap⟩ : ∃ cap, cap = grownCap w s.size 0 5 := ⟨_, rfl⟩
  obtain ⟨W, hW⟩ : ∃ W, W = (w.alloc (.cells (bytesRow s (grownCap w s.size 0 5)) 5 ((bytesRow s (grownCap w s.size 0 5)).size, (bytesRow s (grownCap w s.size 0 5)).size + 1))).drew := ⟨_, rfl⟩
  have hb : Below w.heap.size w W := by rw [hW]; exact (below_alloc w _).drew
  rw [← hW, ← hcap] at h2
  rw [← hW, ← hcap]
  have HR := Lib.hid h2
  have HB := Lib.hid hb
  have hr1 := h2.room
  have hr2 := h2.most
  clear h2 hb hW hcap hcv
  go_loop [4, 8] (fun _ i => ∃ k : Nat, k ≤ s.size ∧ i = .int .i64 k ∧ Hid ((s.data.toList.take k).all okSign = true)) (fun _ i => s.size - (intOf i).toNat)
  case atStart => exact ⟨0, by omega, rfl, Lib.hid (by simp)⟩
  case round =>
    obtain ⟨k, hk, rfl, HA⟩ := hrel
    by_cases hlt : k < s.size
    · obtain ⟨c, hc⟩ : ∃ c, s.data.toList[k]? = some c := ⟨s.data.toList[k]'(by rw [HL.out]; exact hlt), by simp⟩
      obtain ⟨b, off, he, hcell⟩ := HR.out.lies (by omega)
      simp only [Option.some.injEq, Addr.mk.injEq, and_true] at he
      obtain ⟨rfl, rfl⟩ := he
      have hx := hcell k c.toNat (strN_get s k c hc)
      rw [Nat.zero_add] at hx
      have HC := Lib.hid hc
      obtain ⟨n, hn⟩ : ∃ n, n = c.toNat := ⟨_, rfl⟩
      have hcs := sign_cases c
      rw [← hn] at hx hcs
      clear hcell hc hn
      rcases hcs with ⟨hok, hcs⟩ | ⟨hok, hcs⟩
      · have HN := Lib.hid (all_next _ k c HC.out HA.out hok)
        clear hok HC
        rcases hcs with ⟨h1, h2⟩ | ⟨h1, h2, h3⟩ | rfl | rfl
        all_goals
          go_wp2
          go_round
          case rel => exact ⟨k + 1, by omega, by go_num, HN⟩
          case measure => simp [intOf]; omega
      · have HN : Hid (okName s = false) := by
          show _ = _
          unfold okName
          rw [all_stop _ k c HC.out hok]; rfl
        have e1 : ((n : Int) == 45) = false := by rw [beq_eq_false_iff_ne]; omega
        have e2 : ((n : Int) == 46) = false := by rw [beq_eq_false_iff_ne]; omega
        clear hok HC
        rcases hcs with ⟨h1, h2, h3⟩ | ⟨h1, h2⟩ | h1
        · clear h2 h3
          go_wp2
          go_ret
          exact ⟨by rw [HN.out]; rfl, HB.out⟩
        all_goals
          go_wp2
          go_ret
          exact ⟨by rw [HN.out]; rfl, HB.out⟩
    · obtain rfl : k = s.size := by omega
      have HA2 : Hid (s.data.toList.all okSign = true) := by
        have := HA.out
        rw [List.take_of_length_le (by rw [HL.out]; omega)] at this
        exact this
      clear HA HR
      have key : okName s = (decide (0 < s.size) && decide (s.size ≤ 16)) := by unfold okName; rw [HA2.out]; simp
      have HK := Lib.hid key
      clear key
      by_cases h0 : 0 < s.size
      · by_cases h16 : s.size ≤ 16
        · go_wp2
          go_ret
          exact ⟨by rw [HK.out]; simp [h0, h16]; try omega, HB.out⟩
        · go_wp2
          go_ret
          exact ⟨by rw [HK.out]; simp [h16]; try omega, HB.out⟩
      · go_wp2
        go_ret
        exact ⟨by rw [HK.out]; simp [h0], HB.out⟩

/-! ### names compared -/
theorem compare_any (a b : ByteArray) (w : World) : Calls Try.prog 58 #[.string a, .string b] w fun e w' => e = .returned (.int .i64 (cmpS a b)) ∧ w = w' := by
  go_enter Try.func58, Try.ntmps58
  go_wp2
  rw [run_callFunc_extern Try.func64 (by kernel_rfl) (by kernel_rfl) (by kernel_rfl) (e := Extern.BytealgCompare.compare) (by kernel_rfl), Lib.run_compareString]
  simp only [Result.andThen]
  rw [Oper.upon_value]
  go_wp2
  go_ret
  exact ⟨rfl, rfl⟩

theorem place1_any (nm b : ByteArray) (p : Value) (w : World) : Calls Try.prog 57 #[.agg #[.string nm, p], .string b] w fun e w' => e = .returned (.int .i64 (cmpS nm b)) ∧ Below w.heap.size w w' := by
  go_enter Try.func57, Try.ntmps57
  go_wp2_with fail
  refine (compare_any _ _ _).mono ?_
  rintro e w' ⟨rfl, rfl⟩
  go_wp2
  go_ret
  exact ⟨rfl, below_alloc _ _⟩
end Go.Proofs.Ytkmanpmaflpgoaa
