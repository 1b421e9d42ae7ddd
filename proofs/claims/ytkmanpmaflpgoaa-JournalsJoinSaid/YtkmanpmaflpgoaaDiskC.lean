/-
  WHAT IS PROVED: contracts: slices.BinarySearchFunc at a directory, place, missing.
-/
import Derived.Test.YtkmanpmaflpgoaaDiskB
namespace Go.Proofs.Ytkmanpmaflpgoaa
open Go.RowKit Go.Lib

theorem place_mid {l : Dir} (hr : Rise l) {nm : ByteArray} {m : Nat} {e : ByteArray × Nat} (he : l[m]? = some e) :
    (cmpS e.1 nm < 0 → ∀ t x, t < m + 1 → l[t]? = some x → cmpS x.1 nm < 0) ∧ (0 ≤ cmpS e.1 nm → ∀ t x, m ≤ t → l[t]? = some x → 0 ≤ cmpS x.1 nm) := by
  refine ⟨fun h t x ht hx => ?_, fun h t x ht hx => Int.not_lt.1 fun hc => Int.not_lt.2 h ?_⟩
  · rcases Nat.lt_or_eq_of_le (Nat.le_of_lt_succ ht) with hlt | rfl
    · exact cmpS_trans (rise_get hr hlt hx he) h
    · rw [hx] at he; cases he; exact h
  · rcases Nat.lt_or_eq_of_le ht with hlt | rfl
    · exact cmpS_trans (rise_get hr hlt he hx) hc
    · rw [hx] at he; cases he; exact hc

set_option maxRecDepth 100000 in
set_option maxHeartbeats 4000000 in
theorem search_any (fb : List Nat) (v : Value) (l : Dir) (nm : ByteArray) (w : World) (hE : RowE w fb v l) (hr : Rise l) (hl : l.length ≤ 1000) :
    Calls Try.prog 56 #[v, .string nm, .func (.func 57) #[] #[]] w fun e w' =>
      e = .returned (.tuple #[.int .i64 (place l nm : Nat), .bool (there l nm)]) ∧ Below w.heap.size w w' := by
  have HR := Lib.hid hr
  have HE := Lib.hid hE
  obtain ⟨ao, cap, rfl, hc1, hc2, _⟩ := hE
  clear hr
  go_enter Try.func56, Try.ntmps56
  go_wp2
  go_loopw [9, 10, 11] (fun a b _ wr => ∃ lo hi : Nat, a = .int .i64 lo ∧ b = .int .i64 hi ∧ lo ≤ hi ∧ hi ≤ l.length ∧ Hid (∀ t e, t < lo → l[t]? = some e → cmpS e.1 nm < 0) ∧ Hid (∀ t e, hi ≤ t → l[t]? = some e → 0 ≤ cmpS e.1 nm) ∧ Hid (Below w.heap.size w wr)) (fun a b _ _ => (intOf b).toNat - (intOf a).toNat)
  case atStart => exact ⟨0, l.length, rfl, rfl, by omega, by omega, Lib.hid (fun t e ht => by omega), Lib.hid (fun t e ht he => by have := (List.getElem?_eq_some_iff.1 he).1; omega), Lib.hid (Below.refl _ _)⟩
  case round =>
    obtain ⟨lo, hi, rfl, rfl, h1, h2, HL, HH, HB⟩ := hrel
    by_cases hlt : lo < hi
    · obtain ⟨e, he⟩ : ∃ e, l[(lo + hi) / 2]? = some e := ⟨l[(lo + hi) / 2]'(by omega), by simp⟩
      obtain ⟨g, cap', hv, hc3, hc4, hcell⟩ := (HE.out.kept HB.out).lies (by omega)
      simp only [Value.slice.injEq, true_and] at hv
      obtain ⟨rfl, rfl⟩ := hv
      obtain ⟨hx1, hx2⟩ := hcell _ e he
      have HM := Lib.hid (place_mid (nm := nm) HR.out he)
      obtain ⟨en, ei⟩ := e
      clear hcell he
      go_wp2_with fail
      refine (place1_any _ _ _ _).mono ?_
      rintro e w1 ⟨rfl, hb1⟩
      have HB1 := Lib.hid (below_next HB.out hb1)
      clear hb1
      by_cases hneg : cmpS en nm < 0
      · have HL2 := Lib.hid (HM.out.1 hneg)
        go_wp2
        go_roundw
        case rel => exact ⟨(lo + hi) / 2 + 1, hi, by go_num, rfl, by omega, h2, HL2, HH, HB1⟩
        case measure => simp [intOf]; omega
      · have HH2 := Lib.hid (HM.out.2 (Int.not_lt.1 hneg))
        go_wp2
        go_roundw
        case rel => exact ⟨lo, (lo + hi) / 2, rfl, by go_num, by omega, by omega, HL, HH2, HB1⟩
        case measure => simp [intOf]; omega
    · obtain rfl : hi = lo := by omega
      have hp := place_of l nm hi h2 HL.out (fun t e h1 h2 => Int.not_lt.2 (HH.out t e h1 h2))
      have HP := Lib.hid hp
      by_cases hn : hi < l.length
      · obtain ⟨e, he⟩ : ∃ e, l[hi]? = some e := ⟨l[hi]'(by omega), by simp⟩
        have HT : Hid (there l nm = decide (cmpS e.1 nm = 0)) := by
          show _ = _
          unfold there
          rw [hp, he]
        obtain ⟨g, cap', hv, hc3, hc4, hcell⟩ := (HE.out.kept HB.out).lies (by omega)
        simp only [Value.slice.injEq, true_and] at hv
        obtain ⟨rfl, rfl⟩ := hv
        obtain ⟨hx1, hx2⟩ := hcell _ e he
        obtain ⟨en, ei⟩ := e
        clear hcell he hp
        go_wp2_with fail
        refine (place1_any _ _ _ _).mono ?_
        rintro e w1 ⟨rfl, hb1⟩
        have HB1 := Lib.hid (below_next HB.out hb1)
        clear hb1
        go_wp2
        go_ret2
        exact ⟨by rw [HT.out, HP.out]; rfl, HB1.out⟩
      · have HT : Hid (there l nm = false) := by
          show _ = _
          unfold there
          rw [hp, List.getElem?_eq_none (by omega)]
        clear hp
        go_wp2
        go_ret2
        exact ⟨by rw [HT.out, HP.out]; rfl, HB.out⟩

theorem place_any (fb : List Nat) (v : Value) (l : Dir) (nm : ByteArray) (w : World) (hE : RowE w fb v l) (hr : Rise l) (hl : l.length ≤ 1000) :
    Calls Try.prog 50 #[v, .string nm] w fun e w' => e = .returned (.tuple #[.int .i64 (place l nm : Nat), .bool (there l nm)]) ∧ Below w.heap.size w w' := by
  have HE := Lib.hid hE
  have HR := Lib.hid hr
  clear hE hr
  go_enter Try.func50, Try.ntmps50
  go_wp2_with fail
  refine (search_any fb v l nm w HE.out HR.out hl).mono ?_
  rintro e w' ⟨rfl, hb⟩
  go_wp2
  go_ret2
  exact ⟨rfl, hb⟩

def DiskM.idx (M : DiskM) (nm : ByteArray) : Nat := if M.miss nm = 0 then place M.now nm else 0

def DiskM.idx2 (M : DiskM) (nm to : ByteArray) : Nat := if M.renameE nm to = 0 then place M.now nm else 0

theorem missing_nil (nm x : Value) (w : World) : Calls Try.prog 36 #[.pointer none, nm, x] w fun e w' => e = .returned (.tuple #[.int .i64 0, .int .i64 2]) ∧ w = w' := by
  go_enter Try.func36, Try.ntmps36
  go_wp2_with fail
  refine (none_nil w).mono ?_
  rintro e w' ⟨rfl, rfl⟩
  go_wp2
  go_ret2
  exact ⟨rfl, rfl⟩
theorem missing_zero (d : Nat) (nm x : Value) (w : World) (hc : w.cell? ⟨d, 0, none⟩ = some (.int .i64 0)) : Calls Try.prog 36 #[.pointer (some ⟨d, 0, none⟩), nm, x] w fun e w' => e = .returned (.tuple #[.int .i64 0, .int .i64 2]) ∧ w = w' := by
  go_enter Try.func36, Try.ntmps36
  go_wp2_with fail
  refine (none_zero d w hc).mono ?_
  rintro e w' ⟨rfl, rfl⟩
  go_wp2
  go_ret2
  exact ⟨rfl, rfl⟩

set_option maxRecDepth 100000 in
set_option maxHeartbeats 4000000 in
theorem missing_any (L : LayD) (M : DiskM) (nm : ByteArray) (w : World) (h : DiskAt w L M) (hs : nm.size ≤ 4294967296) :
    Calls Try.prog 36 #[.pointer (some ⟨L.d, 0, none⟩), .string nm, .slice none 0 0] w fun e w' => e = .returned (.tuple #[.int .i64 (M.idx nm : Nat), .int .i64 (M.miss nm : Nat)]) ∧ Below w.heap.size w w' := by
  have H := Lib.hid h
  have hc := h.cell0
  have hsz := h.fine.size.1
  clear h
  go_enter Try.func36, Try.ntmps36
  go_wp2_with fail
  refine (none_no L.d M.size w hc hsz).mono ?_
  rintro e w' ⟨rfl, rfl⟩
  clear hc
  cases hok : okName nm with
  | false =>
    have HO := Lib.hid hok
    clear hok
    go_wp2_with fail
    refine (valid_any nm w hs).mono ?_
    rintro e w1 ⟨rfl, hb1⟩
    rw [HO.out]
    go_wp2
    go_ret2
    exact ⟨by unfold DiskM.idx DiskM.miss; rw [HO.out]; rfl, hb1⟩
  | true =>
    have HO := Lib.hid hok
    clear hok
    go_wp2_with fail
    refine (valid_any nm w hs).mono ?_
    rintro e w1 ⟨rfl, hb1⟩
    rw [HO.out]
    have H1 := Lib.hid (H.out.below hb1)
    have HB := Lib.hid hb1
    have hc1 := H1.out.cell1
    clear hb1
    go_wp2_with fail
    refine wp_loop_rounds 1 ?_
    rw [rounds_succ]
    go_wp2_with fail
    refine (place_any L.fb L.vn M.now nm w1 (rowE_of H1.out.now) H.out.fine.rise.1 (by have := H.out.fine.few.1; omega)).mono ?_
    rintro e w2 ⟨rfl, hb2⟩
    have HB2 := Lib.hid (below_next HB.out hb2)
    clear hb2 hc1
    cases hth : there M.now nm with
    | false =>
      have HT := Lib.hid hth
      clear hth
      go_wp2
      go_ret2
      exact ⟨by unfold DiskM.idx DiskM.miss; rw [HO.out, HT.out]; rfl, HB2.out⟩
    | true =>
      have HT := Lib.hid hth
      clear hth
      go_wp2
      go_ret2
      exact ⟨by unfold DiskM.idx DiskM.miss; rw [HO.out, HT.out]; rfl, HB2.out⟩

set_option maxRecDepth 100000 in
set_option maxHeartbeats 4000000 in
theorem missing_two (L : LayD) (M : DiskM) (nm to : ByteArray) (B : Nat) (w : World) (h : DiskAt w L M) (hs : nm.size ≤ 4294967296) (ht : to.size ≤ 4294967296) (hB : w.cell? ⟨B, 0, none⟩ = some (.string to)) :
    Calls Try.prog 36 #[.pointer (some ⟨L.d, 0, none⟩), .string nm, .slice (some ⟨B, 0, none⟩) 1 1] w fun e w' =>
      e = .returned (.tuple #[.int .i64 (M.idx2 nm to : Nat), .int .i64 (M.renameE nm to : Nat)]) ∧ Below w.heap.size w w' := by
  have H := Lib.hid h
  have hc := h.cell0
  have hsz := h.fine.size.1
  have HC := Lib.hid hB
  clear h hB
  go_enter Try.func36, Try.ntmps36
  go_wp2_with fail
  refine (none_no L.d M.size w hc hsz).mono ?_
  rintro e w' ⟨rfl, rfl⟩
  clear hc
  cases hok : okName nm with
  | false =>
    have HO := Lib.hid hok
    clear hok
    go_wp2_with fail
    refine (valid_any nm w hs).mono ?_
    rintro e w1 ⟨rfl, hb1⟩
    rw [HO.out]
    go_wp2
    go_ret2
    exact ⟨by unfold DiskM.idx2 DiskM.renameE; rw [HO.out]; rfl, hb1⟩
  | true =>
    have HO := Lib.hid hok
    clear hok
    go_wp2_with fail
    refine (valid_any nm w hs).mono ?_
    rintro e w1 ⟨rfl, hb1⟩
    rw [HO.out]
    have H1 := Lib.hid (H.out.below hb1)
    have HB := Lib.hid hb1
    have hcB : w1.cell? ⟨B, 0, none⟩ = some (.string to) := (hb1.cell (p := ⟨B, 0, none⟩) (World.block_lt_of_cell? w _ HC.out)).trans HC.out
    clear hb1
    go_wp2_with fail
    refine wp_loop_rounds 2 ?_
    rw [rounds_succ]
    cases hok2 : okName to with
    | false =>
      have HO2 := Lib.hid hok2
      clear hok2
      go_wp2_with fail
      refine (valid_any to w1 ht).mono ?_
      rintro e w2 ⟨rfl, hb2⟩
      rw [HO2.out]
      have HB2 := Lib.hid (below_next HB.out hb2)
      clear hb2
      go_wp2
      go_ret2
      exact ⟨by unfold DiskM.idx2 DiskM.renameE; rw [HO.out, HO2.out]; rfl, HB2.out⟩
    | true =>
      have HO2 := Lib.hid hok2
      clear hok2
      go_wp2_with fail
      refine (valid_any to w1 ht).mono ?_
      rintro e w2 ⟨rfl, hb2⟩
      rw [HO2.out]
      have H2 := Lib.hid (H1.out.below hb2)
      have HB2 := Lib.hid (below_next HB.out hb2)
      have hc1 := H2.out.cell1
      clear hb2 hcB
      go_wp2_with fail
      rw [rounds_succ]
      go_wp2_with fail
      refine (place_any L.fb L.vn M.now nm w2 (rowE_of H2.out.now) H.out.fine.rise.1 (by have := H.out.fine.few.1; omega)).mono ?_
      rintro e w3 ⟨rfl, hb3⟩
      have HB3 := Lib.hid (below_next HB2.out hb3)
      clear hb3 hc1
      cases hth : there M.now nm with
      | false =>
        have HT := Lib.hid hth
        clear hth
        go_wp2
        go_ret2
        exact ⟨by unfold DiskM.idx2 DiskM.renameE; rw [HO.out, HO2.out, HT.out]; rfl, HB3.out⟩
      | true =>
        have HT := Lib.hid hth
        clear hth
        go_wp2
        go_ret2
        exact ⟨by unfold DiskM.idx2 DiskM.renameE; rw [HO.out, HO2.out, HT.out]; rfl, HB3.out⟩
end Go.Proofs.Ytkmanpmaflpgoaa
