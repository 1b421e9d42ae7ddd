/-
  WHAT IS PROVED: the walk of NumsCarry.
-/
import Derived.Test.YtoeafjdlnbcfiaaQuiet
import Derived.Test.YtoeafjdlnbcfiaaLDigits
namespace Go.Proofs.Ytoeafjdlnbcfiaa
open Go.RowKit

set_option maxHeartbeats 2000000 in
theorem walkN_NumsCarry (n : Nat) (hn : n < 18446744073709551616) (w : World) :
    Calls Try.prog 5 #[.int .u64 (n : Int)] w fun e w' => e = .returned (.bool true) ∧ Below w.heap.size w w' := by
  by_cases hmax : n = 18446744073709551615
  · subst hmax
    go_enter Try.func5, Try.ntmps5
    go_wp2_with fail
    refine (alive_any w).mono ?_
    rintro e w2 ⟨rfl, hb2⟩
    go_wp2
    go_ret
    exact ⟨rfl, hb2⟩
  · have hn1 : n + 1 < 18446744073709551616 := by omega
    have hne : (((n : Int) + 1) == 0) = false := by rw [beq_eq_false_iff_ne]; omega
    have hla := vb_len64 hn
    have hlb := vb_len64 hn1
    obtain ⟨i0, c1, c2, c3, c4⟩ := vb_carry n
    have C2 := Lib.hid c2
    have C3 := Lib.hid c3
    have C4 := Lib.hid c4
    clear c2 c3 c4 hmax
    go_enter Try.func5, Try.ntmps5
    go_wp2_with fail
    refine (new8_at (List.nil_append _) (put_any none 0 0 [] n hn w (row_nil w) (by omega))).mono ?_
    rintro e w1 ⟨a, m, ca, rfl, hr, _, hb⟩
    have HR1 := Lib.hid hr
    have HB1 := Lib.hid hb
    clear hr hb
    go_wp2_with fail
    refine (new8_at (List.nil_append _) (put_any none 0 0 [] (n + 1) hn1 w1 (row_nil w1) (by omega))).mono ?_
    rintro e w2 ⟨b, k, cb, rfl, hr, _, hb⟩
    have hm1 : (vb n).length = m := HR1.out.len
    have hk1 : (vb (n + 1)).length = k := hr.len
    have hmp := vb_pos n
    have hkp := vb_pos (n + 1)
    rw [hm1] at hmp hla c1
    rw [hk1] at hkp hlb
    have HM := Lib.hid hm1
    have HK := Lib.hid hk1
    have HRA := Lib.hid (HR1.out.kept hb)
    have HRB := Lib.hid hr
    have HB2 := Lib.hid (below_next HB1.out hb)
    obtain ⟨ba, oa, rfl, hca⟩ := HRA.out.lies hmp
    obtain ⟨bb, ob, rfl, hcb⟩ := HRB.out.lies hkp
    have HCA := Lib.hid hca
    have HCB := Lib.hid hcb
    have ra1 := HRA.out.room
    have ra2 := HRA.out.most
    have rb1 := HRB.out.room
    have rb2 := HRB.out.most
    clear hm1 hk1 hr hb hca hcb HR1 HB1
    go_wp2
    go_loop [5] (fun i => ∃ j : Nat, j ≤ i0 ∧ i = .int .i64 j) (fun i => i0 - (intOf i).toNat)
    case atStart => exact ⟨0, by omega, rfl⟩
    case round =>
      obtain ⟨j, hj, rfl⟩ := hrel
      by_cases hlt : j < i0
      · obtain ⟨c, hc⟩ : ∃ c, (vb n)[j]? = some c := ⟨(vb n)[j]'(by rw [HM.out]; omega), by rw [List.getElem?_eq_getElem]⟩
        obtain ⟨hc7, d, hd, hd0⟩ := C2.out j c hlt hc
        have h1 := HCA.out j c hc
        have h2 := HCB.out j d hd
        have hjk : j < k := by have := (List.getElem?_eq_some_iff.1 hd).1; rw [HK.out] at this; exact this
        have hcb : c < 256 := vb_byte n c (List.mem_of_getElem? hc)
        have hdb : d < 256 := vb_byte _ d (List.mem_of_getElem? hd)
        have e1 : (((c : Int) % 128) == 127) = true := by rw [beq_iff_eq]; omega
        have e2 : (((d : Int) % 128) != 0) = false := by simp; omega
        clear hc hd hc7 hd0
        go_wp2
        go_round
        case rel => exact ⟨j + 1, by omega, by go_num⟩
        case measure => simp [intOf]; omega
      · obtain rfl : j = i0 := by omega
        by_cases hend : j = m
        · subst hend
          obtain ⟨g1, g2⟩ := C3.out HM.out.symm
          have g1' : k = j + 1 := by rw [HK.out, HM.out] at g1; exact g1
          subst g1'
          clear g1
          have G2 := Lib.hid g2
          clear g2
          go_wp2_with fail
          refine (alive_any w2).mono ?_
          rintro e w3 ⟨rfl, hb3⟩
          have h2 := (hb3.cell (World.block_lt_of_cell? w2 _ (HCB.out j 1 G2.out))).trans (HCB.out j 1 G2.out)
          have HB3 := Lib.hid hb3
          clear hb3
          go_wp2
          go_ret
          exact ⟨rfl, below_next HB2.out HB3.out⟩
        · obtain ⟨c, hc⟩ : ∃ c, (vb n)[j]? = some c := ⟨(vb n)[j]'(by rw [HM.out]; omega), by rw [List.getElem?_eq_getElem]⟩
          obtain ⟨hc7, g1, g2, g3⟩ := C4.out c hc
          have g1' : k = m := by rw [HK.out, HM.out] at g1; exact g1
          subst g1'
          clear g1
          have h1 := HCA.out j c hc
          have h2 := HCB.out j (c + 1) g2
          have hcb1 : c + 1 < 256 := vb_byte _ _ (List.mem_of_getElem? g2)
          have e1 : (((c : Int) % 128) == 127) = false := by rw [beq_eq_false_iff_ne]; omega
          have G3 := Lib.hid g3
          have hjm : j < k := by omega
          have hx1 := bwOf_cell w2 _ _ h1
          have hx2 := bwOf_cell w2 _ _ h2
          have hjc : ((j : Int) == (k : Int)) = false := by rw [beq_eq_false_iff_ne]; omega
          clear g2 g3 hc hc7
          go_wp2_with fail
          by_cases hca : ca = j + 1
          · obtain rfl : k = j + 1 := by omega
            subst hca
            by_cases hcb : cb = j + 1
            · subst hcb
              have RA := Lib.hid (Row8.empty (w := w2) (ao := some ⟨ba, oa, none⟩) (cap := 0) (fun h => by simp at h) (by omega))
              have RB := Lib.hid (Row8.empty (w := w2) (ao := some ⟨bb, ob, none⟩) (cap := 0) (fun h => by simp at h) (by omega))
              refine wp_region_bw (w := w2) (by kernel_rfl) (by kernel_rfl) ?_
              repeat (go_big_quiet_step ((first | (go_at_call 20; exact below_of (alive_any _)) | (go_at_call 22; exact below_of (sameBytes_at _ _ _ _ _ _ _ _ (bwOf_row RA.out _) (bwOf_row RB.out _))))))
              refine wpQuiet_nil ?_
              rintro w3 ⟨m3, rfl⟩
              go_wp2
              go_ret
              exact ⟨rfl, below_next HB2.out (bwOf_below w2 m3)⟩
            · have hd0 : (vb (n + 1)).drop (j + 1) = [] := List.drop_eq_nil_of_le (by rw [HK.out]; omega)
              have hrb := HRB.out.from (j + 1) (by omega) (by omega)
              rw [hd0, Nat.sub_self] at hrb
              have RA := Lib.hid (Row8.empty (w := w2) (ao := some ⟨ba, oa, none⟩) (cap := 0) (fun h => by simp at h) (by omega))
              have RB := Lib.hid hrb
              clear hrb hd0
              refine wp_region_bw (w := w2) (by kernel_rfl) (by kernel_rfl) ?_
              repeat (go_big_quiet_step ((first | (go_at_call 20; exact below_of (alive_any _)) | (go_at_call 22; exact below_of (sameBytes_at _ _ _ _ _ _ _ _ (bwOf_row RA.out _) (bwOf_row RB.out _))))))
              refine wpQuiet_nil ?_
              rintro w3 ⟨m3, rfl⟩
              go_wp2
              go_ret
              exact ⟨rfl, below_next HB2.out (bwOf_below w2 m3)⟩
          · have hra := HRA.out.from (j + 1) (by omega) (by omega)
            rw [G3.out] at hra
            have RA := Lib.hid hra
            clear hra
            by_cases hcb : cb = j + 1
            · obtain rfl : k = j + 1 := by omega
              subst hcb
              have hd0 : (vb (n + 1)).drop (j + 1) = [] := List.drop_eq_nil_of_le (by rw [HK.out]; omega)
              have hra := RA.out
              rw [hd0, Nat.sub_self] at hra
              clear RA
              have RA := Lib.hid hra
              clear hra hd0
              have RB := Lib.hid (Row8.empty (w := w2) (ao := some ⟨bb, ob, none⟩) (cap := 0) (fun h => by simp at h) (by omega))
              refine wp_region_bw (w := w2) (by kernel_rfl) (by kernel_rfl) ?_
              repeat (go_big_quiet_step ((first | (go_at_call 20; exact below_of (alive_any _)) | (go_at_call 22; exact below_of (sameBytes_at _ _ _ _ _ _ _ _ (bwOf_row RA.out _) (bwOf_row RB.out _))))))
              refine wpQuiet_nil ?_
              rintro w3 ⟨m3, rfl⟩
              go_wp2
              go_ret
              exact ⟨rfl, below_next HB2.out (bwOf_below w2 m3)⟩
            · have hrb := HRB.out.from (j + 1) (by omega) (by omega)
              have RB := Lib.hid hrb
              clear hrb
              refine wp_region_bw (w := w2) (by kernel_rfl) (by kernel_rfl) ?_
              repeat (go_big_quiet_step ((first | (go_at_call 20; exact below_of (alive_any _)) | (go_at_call 22; exact below_of (sameBytes_at _ _ _ _ _ _ _ _ (bwOf_row RA.out _) (bwOf_row RB.out _))))))
              refine wpQuiet_nil ?_
              rintro w3 ⟨m3, rfl⟩
              go_wp2
              go_ret
              exact ⟨rfl, below_next HB2.out (bwOf_below w2 m3)⟩

theorem walk_NumsCarry (a : Int) (h : (Lit.int .u64 a).wf = true) (w : World) :
    Calls Try.prog 5 #[.int .u64 a] w fun e w' => e = .returned (.bool true) ∧ Below w.heap.size w w' := by
  have hb := wf_u64 h
  obtain ⟨n, rfl⟩ := Int.eq_ofNat_of_zero_le hb.1
  exact walkN_NumsCarry n (by omega) w
end Go.Proofs.Ytoeafjdlnbcfiaa
