/-
  WHAT IS PROVED: contracts of the reference's Get, GetSigned, GetText.
-/
import Derived.Deep.RegionWith
import Derived.Test.YtoeafjdlnbcfiaaRefA
namespace Go.Proofs.Ytoeafjdlnbcfiaa
open Go.RowKit

theorem hv_step (l : List Nat) (m j c : Nat) (hj : j ≤ m) (hc : l[j]? = some c) : hv ((l.take (m + 1)).drop j) = c % 128 + 128 * hv ((l.take (m + 1)).drop (j + 1)) := by
  have h1 : (l.take (m + 1))[j]? = some c := by rw [List.getElem?_take]; simp [show j < m + 1 by omega, hc]
  have hjl := (List.getElem?_eq_some_iff.1 h1).1
  rw [List.drop_eq_getElem_cons hjl, (List.getElem?_eq_some_iff.1 h1).2]
  rfl

theorem strB_inj (l m : List Nat) (hl : ∀ x ∈ l, x < 256) (hm : ∀ x ∈ m, x < 256) (h : strB l = strB m) : l = m := by
  have h1 : l.map UInt8.ofNat = m.map UInt8.ofNat := by
    have := congrArg (fun s => s.data.toList) h
    simpa [strB] using this
  have key : ∀ (a : List Nat), (∀ x ∈ a, x < 256) → (a.map UInt8.ofNat).map UInt8.toNat = a := by
    intro a ha
    rw [List.map_map]
    conv => rhs; rw [← List.map_id a]
    apply List.map_congr_left
    intro x hx
    have := ha x hx
    simp
    omega
  rw [← key l hl, h1, key m hm]

/-- a conversion of bytes that read as a list -/
theorem conv_row {w : World} {ao : Option Addr} {n cap : Nat} {l : List Nat} (h : Row8 w ao n cap l) :
    (convert 22 9 (.slice ao n cap)).run Try.prog w = .ok (.string (strB l)) w := by
  rcases Nat.eq_zero_or_pos n with rfl | hn
  · have hl := List.eq_nil_of_length_eq_zero h.len
    subst hl
    cases ao with
    | none => exact run_convert_bytes_nil w 22 5 Try.underlying22 Try.underlying5 0 cap 9 Try.underlying9
    | some a =>
      rw [run_convert_bytes_string w 22 9 5 _ 0 cap Try.underlying22 Try.underlying5 Try.underlying9]
      have := run_bytesToString (P := Try.prog) w a 0 cap [] (by
        have := run_loadCells_list (P := Try.prog) w a [] (fun j v hj => by simp at hj)
        simpa using this)
      exact this
  · obtain ⟨b, off, rfl, hc⟩ := h.lies hn
    have := run_convert_bytes_arg (P := Try.prog) w 22 5 Try.underlying22 Try.underlying5 b off n cap (l.map fun x : Nat => (x : Int)) (by simp [h.len])
      (fun i hi => by
        have hil : i < l.length := by rw [h.len]; exact hi
        rw [hc i (l[i]) (by simp [hil])]
        simp [List.getD, hil]) 9 Try.underlying9
    rw [strB_eq] at this
    exact this

theorem toList_ne {a b : ByteArray} (h : ¬ a = b) : (a.toList == b.toList) = false := by
  rw [beq_eq_false_iff_ne]
  intro e
  apply h
  rw [ByteArray.toList_eq, ByteArray.toList_eq] at e
  cases a; cases b
  simp at e
  rw [e]

set_option maxRecDepth 100000 in
set_option maxHeartbeats 4000000 in
theorem refGet_any (ao : Option Addr) (n cap : Nat) (l : List Nat) (w : World) (hr : Row8 w ao n cap l) :
    Calls Try.prog 13 #[.slice ao n cap] w (Got l w) := by
  have HR := Lib.hid hr
  have hlen := Lib.hid hr.len
  have hbyte := Lib.hid hr.byte
  have hroom := hr.room
  have hmost := hr.most
  rcases Nat.eq_zero_or_pos n with rfl | hpos
  · obtain rfl := List.eq_nil_of_length_eq_zero hlen.out
    clear hr
    go_enter Try.func13, Try.ntmps13
    go_wp2
    refine wp_loop_rounds 1 ?_
    rw [rounds_succ]
    go_wp2
    go_ret3
    exact ⟨0, 0, 5, rfl, rfl, Below.refl _ _⟩
  · obtain ⟨b, off, rfl, hcell⟩ := hr.lies hpos
    have HC := Lib.hid hcell
    clear hr hcell
    go_enter Try.func13, Try.ntmps13
    go_wp2
    go_loop [5] (fun i => ∃ k : Nat, k ≤ n ∧ k ≤ 10 ∧ i = .int .i64 k ∧ Hid (∀ j c, j < k → l[j]? = some c → 128 ≤ c)) (fun i => 10 - (intOf i).toNat)
    case atStart => exact ⟨0, by omega, by omega, rfl, Lib.hid (fun j c hj => by omega)⟩
    case round =>
      obtain ⟨k, hk, hk10, rfl, hall⟩ := hrel
      by_cases h10 : k < 10
      · by_cases hlt : k < n
        · obtain ⟨c, hc⟩ : ∃ c, l[k]? = some c := ⟨l[k]'(by rw [hlen.out]; exact hlt), by rw [List.getElem?_eq_getElem]⟩
          have hck := HC.out k c hc
          have HK := Lib.hid hc
          have hcb : c < 256 := hbyte.out c (List.mem_of_getElem? hc)
          clear hc
          by_cases hge : 128 ≤ c
          · have hd : decide ((128 : Int) ≤ (c : Int)) = true := by simp; omega
            go_wp2
            go_round
            case rel =>
              refine ⟨k + 1, by omega, by omega, by go_num, Lib.hid fun j d hj hd' => ?_⟩
              by_cases hjk : j = k
              · subst hjk
                have := HK.out
                rw [this] at hd'
                simp at hd'; omega
              · exact hall.out j d (by omega) hd'
            case measure => simp [intOf]; omega
          · have hd : decide ((128 : Int) ≤ (c : Int)) = false := by simp; omega
            have hne1 : ((k : Int) == 10) = false := by rw [beq_eq_false_iff_ne]; omega
            have hne2 : ((k : Int) == (n : Int)) = false := by rw [beq_eq_false_iff_ne]; omega
            go_wp2
            go_loop [6, 7] (fun t i => ∃ j N : Nat, j ≤ k + 1 ∧ i = .int .i64 ((j : Int) - 1) ∧ t = .int .u64 N ∧ Hid (N = hv ((l.take (k + 1)).drop j) % 18446744073709551616)) (fun _ i => ((intOf i) + 1).toNat)
            case atStart => exact ⟨k + 1, 0, by omega, by go_num, rfl, Lib.hid (by rw [List.drop_eq_nil_of_le (by simp; omega)]; simp [hv])⟩
            case round =>
              obtain ⟨j, N, hj, rfl, rfl, hN⟩ := hrel
              have hNlt : N < 18446744073709551616 := by have := hN.out; omega
              by_cases hj0 : 0 < j
              · obtain ⟨i, rfl⟩ : ∃ i, j = i + 1 := ⟨j - 1, by omega⟩
                obtain ⟨d, hd0⟩ : ∃ d, l[i]? = some d := ⟨l[i]'(by rw [hlen.out]; omega), by rw [List.getElem?_eq_getElem]⟩
                have hdk := HC.out i d hd0
                have hdb : d < 256 := hbyte.out d (List.mem_of_getElem? hd0)
                have HN := Lib.hid (hv_step l k i d (by omega) hd0)
                have hcast : (((i + 1 : Nat) : Int) - 1) = (i : Int) := by omega
                rw [hcast]
                obtain ⟨M, hM⟩ : ∃ M, M = 128 * N % 18446744073709551616 := ⟨_, rfl⟩
                obtain ⟨N', hN'⟩ : ∃ N', N' = (M + d % 128) % 18446744073709551616 := ⟨_, rfl⟩
                have hw1 : IntKind.u64.wrap (128 * (N : Int)) = (M : Int) := by rw [IntKind.wrap_u64]; omega
                have hw2 : IntKind.u64.wrap ((M : Int) + (d : Int) % 128) = (N' : Int) := by rw [IntKind.wrap_u64]; omega
                have HNN : Hid (N' = hv ((l.take (k + 1)).drop i) % 18446744073709551616) := by
                  have h1 := hN.out
                  have h2 := HN.out
                  show _ = _
                  rw [h2]
                  omega
                clear hd0 hcast hM hN'
                go_wp2
                go_round
                case rel => exact ⟨i, N', by omega, by go_num, rfl, HNN⟩
                case measure => simp [intOf]
              · obtain rfl : j = 0 := by omega
                have HN0 : Hid (N = hv (l.take (k + 1)) % 18446744073709551616) := by
                  have := hN.out
                  rw [List.drop_zero] at this
                  exact this
                have hend := getL_ends hbyte.out k hall.out c HK.out (by omega) N HN0.out
                have HE := Lib.hid hend
                have RB := Lib.hid (HR.out.upto (k + 1) (by omega))
                clear hend hN hck
                go_wp2_with fail
                have hq1 : (0 : Int) ≤ (k : Int) + 1 := by omega
                have hq2 : (k : Int) + 1 ≤ (cap : Int) := by omega
                have hq3 : IntKind.i64.wrap ((k : Int) + 1) = (k : Int) + 1 := IntWalk.i64_in _ (by omega)
                have hq4 : ((k : Int) + 1).toNat = k + 1 := by omega
                have hb' : ∀ x ∈ l.take (k + 1), x < 256 := fun x hx => hbyte.out x (List.mem_of_mem_take hx)
                have HST := Lib.hid (strB_inj (vb N) (l.take (k + 1)) (vb_byte N) hb')
                obtain ⟨s1, hs1⟩ : ∃ s1, s1 = strB (vb N) := ⟨_, rfl⟩
                obtain ⟨s2, hs2⟩ : ∃ s2, s2 = strB (l.take (k + 1)) := ⟨_, rfl⟩
                have hcv0 := conv_row RB.out.drew
                rw [← hs2] at hcv0
                have HS1 := Lib.hid hs1
                have HS2 := Lib.hid hs2
                clear hs1 hs2 hb'
                by_cases heq : s1 = s2
                · subst heq
                  go_region_with (go_at_call 27; refine (new8_at (List.nil_append _) (refPut_any none 0 0 [] N hNlt _ (row_nil _) (by omega))).mono ?_; rintro e w1 ⟨a1, n1, c1, rfl, hr1, _, hb1⟩; have hbw : Below w.heap.size w w1 := ⟨hb1.os, hb1.tape, hb1.output, hb1.size, hb1.block⟩; have hcv1 := conv_row hr1; rw [← HS1.out] at hcv1; have hcv2 := conv_row (RB.out.kept hbw); rw [← HS2.out] at hcv2; have HBW := Lib.hid hbw; clear hr1 hb1 hbw)
                  all_goals
                    go_wp2
                    go_ret3
                    refine ⟨N, k + 1, 0, ?_, rfl, HBW.out⟩
                    rw [HE.out, if_pos (HST.out (HS1.out ▸ HS2.out))]
                · have htl := toList_ne heq
                  go_region_with (go_at_call 27; refine (new8_at (List.nil_append _) (refPut_any none 0 0 [] N hNlt _ (row_nil _) (by omega))).mono ?_; rintro e w1 ⟨a1, n1, c1, rfl, hr1, _, hb1⟩; have hbw : Below w.heap.size w w1 := ⟨hb1.os, hb1.tape, hb1.output, hb1.size, hb1.block⟩; have hcv1 := conv_row hr1; rw [← HS1.out] at hcv1; have hcv2 := conv_row (RB.out.kept hbw); rw [← HS2.out] at hcv2; have HBW := Lib.hid hbw; clear hr1 hb1 hbw)
                  all_goals
                    go_wp2
                    go_ret3
                    refine ⟨0, 0, 4, ?_, rfl, HBW.out⟩
                    rw [HE.out, if_neg (fun h => heq (by rw [HS1.out, HS2.out, h]))]
        · obtain rfl : k = n := by omega
          have hne1 : ((k : Int) == 10) = false := by rw [beq_eq_false_iff_ne]; omega
          go_wp2
          go_ret3
          exact ⟨0, 0, 5, getL_short (by rw [hlen.out]; omega) (fun i c hi hc => hall.out i c (by rw [hlen.out] at hi; exact hi) hc), rfl, Below.refl _ _⟩
      · obtain rfl : k = 10 := by omega
        go_wp2
        all_goals
          go_ret3
          exact ⟨0, 0, 4, getL_many hbyte.out (by rw [hlen.out]; omega) hall.out, rfl, Below.refl _ _⟩

theorem refGetSigned_any (ao : Option Addr) (n cap : Nat) (l : List Nat) (w : World) (hr : Row8 w ao n cap l) :
    Calls Try.prog 15 #[.slice ao n cap] w (GotSigned l w) := by
  have HR := Lib.hid hr
  clear hr
  go_enter Try.func15, Try.ntmps15
  go_wp2_with fail
  refine (refGet_any ao n cap l w HR.out).mono ?_
  rintro e w1 ⟨v, t, er, hg, rfl, hb⟩
  have HG := Lib.hid hg
  have hv : v < 18446744073709551616 := by rcases getL_facts hg with h | h <;> omega
  clear hg
  by_cases hodd : v % 2 = 1
  · have h1 : (((v : Int) % 2) == 1) = true := by rw [beq_iff_eq]; omega
    have hu : unfoldN v = -1 - (v : Int) / 2 := by unfold unfoldN; rw [if_neg (by omega)]; omega
    clear hodd
    have HU := Lib.hid hu
    clear hu
    go_wp2
    go_ret3
    refine ⟨v, t, er, HG.out, ?_, hb⟩
    rw [HU.out]; rfl
  · have h1 : (((v : Int) % 2) == 1) = false := by rw [beq_eq_false_iff_ne]; omega
    have hu : unfoldN v = (v : Int) / 2 := by unfold unfoldN; rw [if_pos (by omega)]; omega
    clear hodd
    have HU := Lib.hid hu
    clear hu
    go_wp2
    go_ret3
    refine ⟨v, t, er, HG.out, ?_, hb⟩
    rw [HU.out]; rfl

set_option maxHeartbeats 1000000 in
theorem refGetText_any (ao : Option Addr) (n cap : Nat) (l : List Nat) (w : World) (hr : Row8 w ao n cap l) :
    Calls Try.prog 17 #[.slice ao n cap] w (GotText l w) := by
  have HR := Lib.hid hr
  have hlen := Lib.hid hr.len
  have hroom := hr.room
  have hmost := hr.most
  clear hr
  go_enter Try.func17, Try.ntmps17
  go_wp2_with fail
  refine (refGet_any ao n cap l w HR.out).mono ?_
  rintro e w1 ⟨v, t, er, hg, rfl, hb⟩
  have HG := Lib.hid hg
  rcases getL_facts hg with ⟨rfl, h1, h2, h3⟩ | ⟨rfl, rfl, h1⟩
  · have hln : l.length = n := hlen.out
    rw [hln] at h2
    have HN := Lib.hid hln
    have RB1 := Lib.hid (HR.out.kept hb)
    obtain ⟨b, off, rfl, hcell⟩ := (HR.out.kept hb).lies (by omega)
    clear hg hln hcell
    by_cases hv : n - t < v
    · have hfin := Lib.hid (gtL_short HG.out (by rw [HN.out]; exact hv))
      by_cases hov : t + v < 18446744073709551616
      · have hw : IntKind.u64.wrap ((t : Int) + (v : Int)) = (t : Int) + (v : Int) := by rw [IntKind.wrap_u64]; omega
        go_wp2
        all_goals
          go_ret3
          exact ⟨[], 0, 5, hfin.out, rfl, hb⟩
      · obtain ⟨W, hW⟩ : ∃ W : Nat, W = t + v - 18446744073709551616 := ⟨_, rfl⟩
        have hw : IntKind.u64.wrap ((t : Int) + (v : Int)) = (W : Int) := by rw [IntKind.wrap_u64]; omega
        have hnv : n < v := by omega
        clear hW hov
        by_cases hWn : n < W
        all_goals
          go_wp2
          all_goals
            go_ret3
            exact ⟨[], 0, 5, hfin.out, rfl, hb⟩
    · have hfin := Lib.hid (gtL_ok HG.out (by rw [HN.out]; exact hv))
      have hw : IntKind.u64.wrap ((t : Int) + (v : Int)) = (t : Int) + (v : Int) := by rw [IntKind.wrap_u64]; omega
      by_cases hcap : cap = t
      · obtain rfl : n = t := by omega
        obtain rfl : v = 0 := by omega
        subst hcap
        have hcv := conv_row (w := w1) (Row8.empty (w := w1) (ao := some ⟨b, off, none⟩) (cap := 0) (fun h => by simp at h) (by omega))
        rw [show strB [] = ⟨#[]⟩ from al_s1] at hcv
        go_wp2
        go_ret3
        refine ⟨[], _, 0, ?_, rfl, hb⟩
        rw [hfin.out]; simp
      · have hrow : Row8 w1 (some ⟨b, off + t, none⟩) v (cap - t) ((l.drop t).take v) := (RB1.out.from t (by omega) (by omega)).upto v (by omega)
        have hcv := conv_row hrow
        clear hrow
        go_wp2
        go_ret3
        exact ⟨_, t + v, 0, hfin.out, rfl, hb⟩
  · clear hg
    rcases h1 with rfl | rfl
    all_goals
      go_wp2
      go_ret3
      exact ⟨[], 0, _, gtL_err HG.out (by decide), rfl, hb⟩
end Go.Proofs.Ytoeafjdlnbcfiaa
