/-
  WHAT IS PROVED: the walk of NumsTexts.
-/
import Derived.Test.YtoeafjdlnbcfiaaTextPure
namespace Go.Proofs.Ytoeafjdlnbcfiaa
open Go.RowKit

/-- what stands ahead of a round of the loop that writes -/
def TxRel (w : World) (ss : List ByteArray) (k : Nat) (v : Value) (wr : World) : Prop :=
  ∃ ao m cap, v = .slice ao m cap ∧ Row8 wr ao m cap (tbs (ss.take k)) ∧ Below w.heap.size w wr

set_option maxRecDepth 100000 in
set_option maxHeartbeats 4000000 in
theorem walkN_NumsTexts (ao : Option Addr) (n cap c : Nat) (hc : c ≤ 65535) (ss : List ByteArray) (w : World) (hr : RowS w ao n cap ss) :
    Calls Try.prog 9 #[.slice ao n cap, .int .u16 (c : Int)] w fun e w' => e = .returned (.bool true) ∧ Below w.heap.size w w' := by
  have hlen := Lib.hid hr.len
  have hroom := hr.room
  have hmost := hr.most
  have HSz := Lib.hid hr.size
  have HR := Lib.hid hr
  by_cases h40 : 40 < n
  · clear hr
    go_enter Try.func9, Try.ntmps9
    go_wp2_with (go_at_call 20; refine (alive_any _).mono ?_; rintro e w2 ⟨rfl, hb2⟩)
    go_ret
    exact ⟨rfl, hb2⟩
  · by_cases hbig : 20000 < n + letters ss
    · clear hr
      go_enter Try.func9, Try.ntmps9
      go_wp2_with fail
      refine (textsSize_any ao n cap ss w HR.out (by omega)).mono ?_
      rintro e w' ⟨v, rfl, hv, rfl⟩
      have hv2 : 20000 < v := by omega
      clear hv
      go_wp2_with (go_at_call 20; refine (alive_any _).mono ?_; rintro e w2 ⟨rfl, hb2⟩)
      go_ret
      exact ⟨rfl, hb2⟩
    · clear hr
      have HL := Lib.hid (tbs_len ss (fun s hs => by have := HSz.out s hs; omega))
      go_enter Try.func9, Try.ntmps9
      go_wp2_with fail
      refine (textsSize_any ao n cap ss w HR.out (by omega)).mono ?_
      rintro e w' ⟨v, rfl, hv, rfl⟩
      have hv2 : v ≤ 20000 := by omega
      clear hv
      go_wp2_with fail
      go_loopw [5, 6] (fun l i wr => ∃ k : Nat, k ≤ n ∧ i = .int .i64 k ∧ TxRel w ss k l wr) (fun _ i _ => n - (intOf i).toNat)
      case atStart => exact ⟨0, by omega, rfl, none, 0, 0, rfl, row_nil w, Below.refl _ _⟩
      case round =>
        obtain ⟨k, hk, rfl, aa, m, ca, rfl, hra, hbel⟩ := hrel
        have HA := Lib.hid hra
        have HB := Lib.hid hbel
        have ra1 := hra.room
        have ra2 := hra.most
        have hml : (tbs (ss.take k)).length = m := hra.len
        have hmt := tbs_take_len ss k
        have hL := HL.out
        rw [hlen.out] at hL
        rw [hml] at hmt
        have hmle : m ≤ 20400 := by omega
        have HMl := Lib.hid hml
        clear hra hbel hml hmt hL
        by_cases hlt : k < n
        · obtain ⟨s, hs⟩ : ∃ s, ss[k]? = some s := ⟨ss[k]'(by rw [hlen.out]; exact hlt), by simp [hlen.out, hlt]⟩
          obtain ⟨bs, os, rfl, hcell⟩ := (HR.out.kept HB.out).lies (by omega)
          have hck := hcell k s hs
          have hssz := letters_le ss (k + 1)
          rw [letters_next ss k s hs] at hssz
          have HN := Lib.hid (tbs_next ss k s hs)
          clear hs hcell
          go_wp2_with fail
          refine (putText_any aa m ca _ s wr HA.out (by omega) (by omega)).mono ?_
          rintro e w1 ⟨a1, n1, c1, rfl, h1, _, h3⟩
          have hR : TxRel w ss (k + 1) (.slice a1 n1 c1) w1 := by
            refine ⟨a1, n1, c1, rfl, ?_, below_next HB.out h3⟩
            rw [HN.out]
            unfold tb
            rw [← List.append_assoc]
            exact h1
          clear h1 h3
          go_wp2
          go_roundw
          case rel => exact ⟨k + 1, by omega, by go_num, hR⟩
          case measure => simp [intOf]; omega
        · obtain rfl : k = n := by omega
          have HA2 : Hid (Row8 wr aa m ca (tbs ss)) := by
            have := HA.out
            rw [List.take_of_length_le (by rw [hlen.out]; omega)] at this
            exact this
          clear HA HMl
          obtain ⟨E, hE1, hE2⟩ : ∃ E : Nat, (0 < m → ((c : Int) % ((m : Int) + 1)) = (E : Int)) ∧ E ≤ m ∧ (m = 0 → E = 0) := by
            by_cases h0 : m = 0
            · exact ⟨0, by omega, by omega, by omega⟩
            · have := Nat.mod_lt c (show 0 < m + 1 by omega)
              exact ⟨c % (m + 1), fun _ => by simp, by omega, by omega⟩
          rcases Nat.eq_zero_or_pos m with rfl | hmp
          · have hk0 : k = 0 := by
              rcases Nat.eq_zero_or_pos k with h | h
              · exact h
              · exfalso
                have hml : (tbs ss).length = 0 := HA2.out.len
                obtain ⟨r, hrr⟩ := tbs_drop ss 0 (ss[0]'(by rw [hlen.out]; exact h)) (by rw [List.getElem?_eq_getElem])
                rw [hrr] at hml
                have := vb_pos (ss[0]'(by rw [hlen.out]; exact h)).size
                rw [List.length_append, List.length_append, tb_length] at hml
                omega
            subst hk0
            clear hE1 hE2
            go_wp2_with fail
            refine wp_loop_rounds 1 ?_
            rw [rounds_succ]
            go_wp2_with (go_at_call 20; refine (alive_any _).mono ?_; rintro e w3 ⟨rfl, hb3⟩)
            go_ret
            exact ⟨rfl, below_next HB.out hb3⟩
          · have hE := hE1 hmp
            clear hE1
            go_wp2_with fail
            rw [hE]
            have HE := Lib.hid hE
            obtain ⟨wo, rfl⟩ : ∃ wo : World, wo = wr := ⟨_, rfl⟩
            obtain ⟨hE2, _⟩ := hE2
            clear hE
            go_loopw [8, 9] (fun t i wx => ∃ j p : Nat, j ≤ k ∧ i = .int .i64 j ∧ t = .int .i64 p ∧ Hid (p = (tbs (ss.take j)).length) ∧ p ≤ E ∧ Hid (Below wo.heap.size wo wx)) (fun _ i _ => k - (intOf i).toNat)
            case atStart => exact ⟨0, 0, by omega, rfl, rfl, Lib.hid (by simp [tbs]), by omega, Lib.hid (Below.refl _ _)⟩
            case round =>
              obtain ⟨wx, rfl⟩ : ∃ wx : World, wx = wr := ⟨_, rfl⟩
              obtain ⟨j, p, hj, rfl, rfl, hp, hpE, hbx⟩ := hrel
              by_cases hlt2 : j < k
              · obtain ⟨s, hs⟩ : ∃ s, ss[j]? = some s := ⟨ss[j]'(by rw [hlen.out]; exact hlt2), by simp [hlen.out, hlt2]⟩
                obtain ⟨r, hrr⟩ := tbs_drop ss j s hs
                have hssz := HSz.out s (List.mem_of_getElem? hs)
                have hml : (tbs ss).length = m := HA2.out.len
                have hpl := hp.out
                have hsum : p + (tb s).length + r.length = m := by rw [← hml, hrr, hpl]; simp; omega
                have htl := tb_length s
                have htp := vb_pos s.size
                obtain ⟨z, hz⟩ : ∃ z, z = (tb s).length := ⟨_, rfl⟩
                rw [← hz] at hsum htl
                have hzp : 0 < z := by omega
                have hzs : s.size ≤ z := by omega
                have hzm : p + z ≤ m := by omega
                obtain ⟨ba, oa, rfl, _⟩ := HA2.out.lies hmp
                have RW : Hid (Row8 wx (some ⟨ba, oa + p, none⟩) (E - p) (ca - p) ((tb s ++ r).take (E - p))) := by
                  have h1 := ((HA2.out.kept hbx.out).from p (by omega) (by omega)).upto (E - p) (by omega)
                  rw [hrr, hpl, List.drop_left] at h1
                  rw [hpl]
                  exact h1
                have HZ := Lib.hid hz
                have HS := Lib.hid hs
                have HTN := Lib.hid (tbs_next ss j s hs)
                have hbelow := below_next HB.out hbx.out
                have HBx := Lib.hid hbelow
                clear hz hs hrr hml hpl hsum htl htp hbelow
                by_cases hcut : p + z ≤ E
                · have HG : Hid (gtL ((tb s ++ r).take (E - p)) = (strN s, z, 0)) := by
                    have e : (tb s ++ r).take (E - p) = tb s ++ r.take (E - p - (tb s).length) := by
                      rw [List.take_append, List.take_of_length_le (by have := HZ.out; omega)]
                    rw [e, HZ.out]
                    exact gtL_text s (by omega) _
                  go_wp2_with fail
                  refine (getText_at _ _ _ _ _ RW.out _ _ _ s HG.out (strB_strN s)).mono ?_
                  rintro e w1 ⟨rfl, hb1⟩
                  have HB1 := Lib.hid (below_next HBx.out hb1)
                  have HBr1 := Lib.hid (below_next hbx.out hb1)
                  clear hb1
                  obtain ⟨bs, os, rfl, hcell⟩ := (HR.out.kept HB1.out).lies (by omega)
                  have hck := hcell j s HS.out
                  clear hcell
                  go_wp2_with fail
                  refine (putText_any none 0 0 [] s w1 (row_nil w1) (by omega) (by omega)).mono ?_
                  rintro e w2 ⟨a2, n2, c2, rfl, h1, _, hb2⟩
                  have hn2 : n2 = z := by
                    have := h1.len
                    rw [← this, HZ.out]
                    unfold tb
                    simp
                  subst hn2
                  have hck2 := (hb2.cell (World.block_lt_of_cell? w1 _ hck)).trans hck
                  have HB2 := Lib.hid (below_next HBr1.out hb2)
                  clear h1 hb2
                  go_wp2
                  go_roundw
                  case rel => exact ⟨j + 1, p + n2, by omega, by go_num, by go_num, Lib.hid (by rw [HTN.out, List.length_append, hp.out, HZ.out]), by omega, HB2⟩
                  case measure => simp [intOf]; omega
                · have HG : Hid (gtL ((tb s ++ r).take (E - p)) = ([], 0, 5)) := gtL_cut s (by omega) r (E - p) (by have := HZ.out; omega)
                  go_wp2_with fail
                  refine (getText_at _ _ _ _ _ RW.out _ _ _ ⟨#[]⟩ HG.out al_s1).mono ?_
                  rintro e w1 ⟨rfl, hb1⟩
                  have HB1 := Lib.hid (below_next HBx.out hb1)
                  clear hb1
                  obtain ⟨bs, os, rfl, hcell⟩ := (HR.out.kept HB1.out).lies (by omega)
                  have hck := hcell j s HS.out
                  clear hcell
                  go_wp2_with fail
                  refine (putText_any none 0 0 [] s w1 (row_nil w1) (by omega) (by omega)).mono ?_
                  rintro e w2 ⟨a2, n2, c2, rfl, h1, _, hb2⟩
                  have hn2 : n2 = z := by
                    have := h1.len
                    rw [← this, HZ.out]
                    unfold tb
                    simp
                  subst hn2
                  have HB2 := Lib.hid (below_next HB1.out hb2)
                  clear h1 hb2 hck
                  go_wp2_with (go_at_call 20; refine (alive_any _).mono ?_; rintro e w3 ⟨rfl, hb3⟩)
                  go_ret
                  exact ⟨rfl, below_next HB2.out hb3⟩
              · obtain rfl : j = k := by omega
                have hfull : p = m := by
                  have := hp.out
                  rw [List.take_of_length_le (by rw [hlen.out]; omega)] at this
                  rw [this]; exact HA2.out.len
                have hpE2 : E = m := by omega
                have hpE3 : p = E := by omega
                subst hpE3
                have HBx := Lib.hid (below_next HB.out hbx.out)
                clear hfull hpE2 hp
                go_wp2_with (go_at_call 20; refine (alive_any _).mono ?_; rintro e w3 ⟨rfl, hb3⟩)
                go_ret
                exact ⟨rfl, below_next HBx.out hb3⟩

theorem walk_NumsTexts (ao : Option Addr) (n cap : Nat) (ss : List ByteArray) (w : World) (hr : RowS w ao n cap ss) (c : Int) (hc : (Lit.int .u16 c).wf = true) :
    Calls Try.prog 9 #[.slice ao n cap, .int .u16 c] w fun e w' => e = .returned (.bool true) ∧ Below w.heap.size w w' := by
  have hb := wf_u16 hc
  obtain ⟨k, rfl⟩ := Int.eq_ofNat_of_zero_le hb.1
  exact walkN_NumsTexts ao n cap k (by omega) ss w hr
end Go.Proofs.Ytoeafjdlnbcfiaa
