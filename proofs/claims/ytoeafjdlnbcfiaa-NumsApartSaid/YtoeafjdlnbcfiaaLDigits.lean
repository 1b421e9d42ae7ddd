/-
  WHAT IS PROVED: the walk of NumsDigits.
-/
import Derived.Test.YtoeafjdlnbcfiaaNumsG
import Derived.Test.YtoeafjdlnbcfiaaVbPure
namespace Go.Proofs.Ytoeafjdlnbcfiaa
open Go.RowKit

theorem wf_u64 {a : Int} (h : (Lit.int .u64 a).wf = true) : 0 ≤ a ∧ a ≤ 18446744073709551615 := by simpa [Lit.wf, IntKind.min, IntKind.max, IntKind.signed, IntKind.bits] using h
theorem wf_i64 {a : Int} (h : (Lit.int .i64 a).wf = true) : -9223372036854775808 ≤ a ∧ a ≤ 9223372036854775807 := by simpa [Lit.wf, IntKind.min, IntKind.max, IntKind.signed, IntKind.bits] using h
theorem wf_u16 {a : Int} (h : (Lit.int .u16 a).wf = true) : 0 ≤ a ∧ a ≤ 65535 := by simpa [Lit.wf, IntKind.min, IntKind.max, IntKind.signed, IntKind.bits] using h
theorem wf_u8 {a : Int} (h : (Lit.int .u8 a).wf = true) : 0 ≤ a ∧ a ≤ 255 := by simpa [Lit.wf, IntKind.min, IntKind.max, IntKind.signed, IntKind.bits] using h

/-- a slice of bytes that came in -/
theorem row_in (W : World) (x : Addr) (l c : Nat) (zs : List Int) (hl : l ≤ c) (hm : c ≤ maxLen) (hz : zs.length = c) (hcell : ∀ i, i < zs.length → W.cell? (x.add i) = some (.int .u8 (zs.getD i 0)))
    (hwz : ∀ n ∈ zs, (Lit.int .u8 n).wf = true) : Row8 W (some x) l c ((zs.take l).map Int.toNat) := by
  refine ⟨by simp; omega, hl, by unfold maxLen at hm; exact hm, fun h => by simp at h, fun a ha j hj => ?_, fun y hy => ?_⟩
  · obtain rfl := Option.some.inj ha
    rw [hcell j (by omega)]
    have hw := wf_u8 (hwz (zs[j]'(by omega)) (List.getElem_mem _))
    have : j < zs.length := by omega
    simp [List.getD, this, hj]
    omega
  · obtain ⟨z, hz', rfl⟩ := List.mem_map.1 hy
    have := wf_u8 (hwz z (List.mem_of_mem_take hz'))
    omega

set_option maxHeartbeats 1000000 in
theorem walkN_NumsDigits (n : Nat) (hn : n < 18446744073709551616) (w : World) :
    Calls Try.prog 4 #[.int .u64 (n : Int)] w fun e w' => e = .returned (.bool true) ∧ Below w.heap.size w w' := by
  have hpos := vb_pos n
  have hl10 := vb_len64 hn
  go_enter Try.func4, Try.ntmps4
  go_wp2_with fail
  refine (new8_at (List.nil_append _) (put_any none 0 0 [] n hn w (row_nil w) (by omega))).mono ?_
  rintro e w1 ⟨a, m, cap, rfl, hr, _, hb⟩
  have hm : (vb n).length = m := hr.len
  have HM := Lib.hid hm
  have hroom := hr.room
  have hmost := hr.most
  rw [hm] at hpos hl10
  obtain ⟨B, off, rfl, hcell⟩ := hr.lies hpos
  have HR := Lib.hid hr
  have HC := Lib.hid hcell
  have HB := Lib.hid hb
  clear hm hr hcell hb
  go_wp2
  go_loop [4, 5, 6] (fun s p i => ∃ k S Q : Nat, k ≤ m ∧ i = .int .i64 k ∧ s = .int .u64 S ∧ p = .int .u64 Q ∧ Hid (S = n % 128 ^ k) ∧ Hid (Q = 128 ^ k % 18446744073709551616)) (fun _ _ i => m - (intOf i).toNat)
  case atStart => exact ⟨0, 0, 1, by omega, rfl, rfl, rfl, Lib.hid (by omega), Lib.hid (by omega)⟩
  case round =>
    obtain ⟨k, S, Q, hk, rfl, rfl, rfl, hS, hQ⟩ := hrel
    by_cases hlt : k < m
    · obtain ⟨c, hc⟩ : ∃ c, (vb n)[k]? = some c := ⟨(vb n)[k]'(by rw [HM.out]; exact hlt), by simp [HM.out, hlt]⟩
      have hcc := HC.out k c hc
      obtain ⟨g1, g2, _⟩ := vb_get k n c hc
      have G1 := Lib.hid g1
      have hcb : c < 256 := vb_byte n c (List.mem_of_getElem? hc)
      rw [HM.out] at g2
      have hmul : Q * (c % 128) = n / 128 ^ k % 128 * 128 ^ k ∧ S + Q * (c % 128) = n % 128 ^ (k + 1) := by
        have e : Q = 128 ^ k := by
          rw [hQ.out]
          have : 128 ^ k ≤ 128 ^ 9 := Nat.pow_le_pow_right (by omega) (by omega)
          exact Nat.mod_eq_of_lt (by omega)
        rw [mod_next, hS.out, e, G1.out, Nat.mul_comm]
        exact ⟨rfl, rfl⟩
      have hsum : S + Q * (c % 128) < 18446744073709551616 := by rw [hmul.2]; exact Nat.lt_of_le_of_lt (Nat.mod_le _ _) hn
      have hw : IntKind.u64.wrap ((Q : Int) * ((c : Int) % 128)) = ((Q * (c % 128) : Nat) : Int) := by
        rw [IntKind.wrap_u64]
        have : ((Q : Int) * ((c : Int) % 128)) = ((Q * (c % 128) : Nat) : Int) := by simp
        rw [this]; omega
      obtain ⟨z, hz⟩ : ∃ z, z = Q * (c % 128) := ⟨_, rfl⟩
      rw [← hz] at hw hsum
      have HZ := Lib.hid hz
      have HMul := Lib.hid hmul
      have hq : IntKind.u64.wrap ((Q : Int) * 128) = (((Q * 128) % 18446744073709551616 : Nat) : Int) := by rw [IntKind.wrap_u64]; omega
      obtain ⟨q, hqq⟩ : ∃ q, q = (Q * 128) % 18446744073709551616 := ⟨_, rfl⟩
      rw [← hqq] at hq
      have HQ := Lib.hid hqq
      clear hc g1 hz hmul hqq
      by_cases hlast : k + 1 < m
      · have hd1 : decide ((128 : Int) ≤ (c : Int)) = true := by simp; omega
        have hd2 : decide ((k : Int) < (m : Int) - 1) = true := by simp; omega
        clear g2
        go_wp2
        go_round
        case rel => exact ⟨k + 1, S + z, q, by omega, by go_num, by go_num, rfl, Lib.hid (by rw [HZ.out, HMul.out.2]), Lib.hid (by rw [HQ.out, hQ.out, Nat.pow_succ]; omega)⟩
        case measure => simp [intOf]; omega
      · have hd1 : decide ((128 : Int) ≤ (c : Int)) = false := by simp; omega
        have hd2 : decide ((k : Int) < (m : Int) - 1) = false := by simp; omega
        clear g2
        go_wp2
        go_round
        case rel => exact ⟨k + 1, S + z, q, by omega, by go_num, by go_num, rfl, Lib.hid (by rw [HZ.out, HMul.out.2]), Lib.hid (by rw [HQ.out, hQ.out, Nat.pow_succ]; omega)⟩
        case measure => simp [intOf]; omega
    · obtain rfl : k = m := by omega
      obtain ⟨c, hc⟩ : ∃ c, (vb n)[k - 1]? = some c := ⟨(vb n)[k - 1]'(by rw [HM.out]; omega), by rw [List.getElem?_eq_getElem]⟩
      have hS' : S = n := by
        have := vb_bound n
        rw [HM.out] at this
        rw [hS.out, Nat.mod_eq_of_lt this]
      subst hS'
      have g3 := (vb_get (k - 1) S c hc).2.2
      have hne : c ≠ 0 ∨ k = 1 := by
        by_cases h : c = 0
        · have := (g3 (by rw [HM.out]; omega)).2 h; omega
        · exact .inl h
      have HNE := Lib.hid hne
      have HCC := Lib.hid hc
      clear hc g3 hne
      go_wp2_with fail
      refine (alive_any w1).mono ?_
      rintro e w2 ⟨rfl, hb2⟩
      have HB2 := Lib.hid hb2
      have hcc := ((HR.out.kept hb2))
      clear hb2
      obtain ⟨B', off', hBB, hcell2⟩ := hcc.lies hpos
      obtain ⟨rfl, rfl⟩ : B = B' ∧ off = off' := by simpa using hBB
      have hck := hcell2 (k - 1) c HCC.out
      have hcast : ((k : Int) - 1) = ((k - 1 : Nat) : Int) := by omega
      have HR2 := Lib.hid hcc
      clear hcc hcell2 hBB
      have HG := Lib.hid (show getL (vb S) = (S, k, 0) by
        have := getL_vb S hn []
        rw [List.append_nil, HM.out] at this
        exact this)
      by_cases h0 : c = 0
      · obtain rfl : k = 1 := by have := HNE.out; omega
        simp only [Nat.sub_self, Nat.add_zero] at hck
        go_wp2_with fail
        refine (reads_yes _ 1 cap (vb S) w2 HR2.out S 1 0 HG.out).mono ?_
        rintro e w3 ⟨rfl, hb3⟩
        go_wp2
        go_ret
        exact ⟨rfl, below_next (below_next HB.out HB2.out) hb3⟩
      · go_wp2_with fail
        refine (reads_yes _ k cap (vb S) w2 HR2.out S k 0 HG.out).mono ?_
        rintro e w3 ⟨rfl, hb3⟩
        go_wp2
        go_ret
        exact ⟨rfl, below_next (below_next HB.out HB2.out) hb3⟩

theorem walk_NumsDigits (a : Int) (h : (Lit.int .u64 a).wf = true) (w : World) :
    Calls Try.prog 4 #[.int .u64 a] w fun e w' => e = .returned (.bool true) ∧ Below w.heap.size w w' := by
  have hb := wf_u64 h
  obtain ⟨n, rfl⟩ := Int.eq_ofNat_of_zero_le hb.1
  exact walkN_NumsDigits n (by omega) w
end Go.Proofs.Ytoeafjdlnbcfiaa
