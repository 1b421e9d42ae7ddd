/-
  WHAT IS PROVED: the walk of JournalsAlike.
-/
import Derived.Test.YtkmanpmaflpgoaaJFiles
namespace Go.Proofs.Ytkmanpmaflpgoaa
open Go.RowKit Go.Lib

theorem HasS.base {w0 w1 w : World} {d : Nat} {M : DiskM} {X : List (Nat × Obj)} {S : Nat → Prop} (h : HasS w1 w d M X S) (hb : Below w0.heap.size w0 w1) : HasS w0 w d M X S := by
  have hs := hb.size
  obtain ⟨L, h1, h2, h3, h4, h5⟩ := h
  exact ⟨L, h1, h2, h3, fun k hk => by have := h4 k hk; omega, below_next hb h5⟩

/-- two disks of the call's own, side by side -/
def PairS (w0 w : World) (c : Nat) (M : DiskM) (X : List (Nat × Obj)) (d : Nat) (N : DiskM) (Y : List (Nat × Obj)) (S T : Nat → Prop) : Prop := HasS w0 w c M X S ∧ HasS w0 w d N Y T ∧ ∀ k, S k → ¬ T k
section
variable {w0 w w' : World} {c d : Nat} {M M' N N' : DiskM} {X X' Y Y' : List (Nat × Obj)} {S T S' T' : Nat → Prop}
theorem PairS.one (h : PairS w0 w c M X d N Y S T) (h' : HasS w0 w' c M' X' S') (hm : MovesX S w S' w') : PairS w0 w' c M' X' d N Y S' T := by
  obtain ⟨h1, h2, h3⟩ := h
  have := h2.beside h' hm (fun k hk hs => h3 k hs hk)
  exact ⟨h', this.1, fun k hk ht => this.2 k ht hk⟩
theorem PairS.two (h : PairS w0 w c M X d N Y S T) (h' : HasS w0 w' d N' Y' T') (hm : MovesX T w T' w') : PairS w0 w' c M X d N' Y' S T' := by
  obtain ⟨h1, h2, h3⟩ := h
  have := h1.beside h' hm h3
  exact ⟨this.1, h', this.2⟩
theorem PairS.kept (h : PairS w0 w c M X d N Y S T) (hb : Below w.heap.size w w') : PairS w0 w' c M X d N Y S T := ⟨h.1.kept hb, h.2.1.kept hb, h.2.2⟩
end

/-- between two rounds -/
def AlRel (w : World) (c d i0 j1 : Nat) (rs : List (List Nat)) (k : Nat) (wr : World) : Prop :=
  ∃ (s : Nat) (q : Dir) (S T : Nat → Prop), PairS w wr c (jN 1000000 (allB 0 (rs.take k)) 0 []) [(i0, jObj c nJ (allB 0 (rs.take k)).length)] d (jN 8000000 (allB 0 (rs.take k)) s q) [(j1, jObj d nJ (allB 0 (rs.take k)).length)] S T

set_option maxRecDepth 100000 in
set_option maxHeartbeats 8000000 in
theorem walk_JournalsAlike (ao : Option Addr) (n cap : Nat) (rs : List (List Nat)) {w : World} (hr : RowB w ao n cap rs) (bo : Option Addr) (m cap2 : Nat) (l : List Nat) (hl : Row8 w bo m cap2 l) :
    Calls Try.prog 4 #[.slice ao n cap, .slice bo m cap2] w fun e w' => e = .returned (.bool true) ∧ Below w.heap.size w w' := by
  have HRB := Lib.hid hr
  have HL := Lib.hid hl
  have hml := hl.len
  obtain rfl := hr.row.len
  by_cases hbig : bigR rs
  · have HBIG := Lib.hid hbig
    clear hr hbig hl
    go_enter Try.func4, Try.ntmps4
    go_wp2_with fail
    refine (many_yes1 _ ao rs.length cap rs _ (by exact cell_one_new _ _ _ 0 _ rfl) (HRB.out.kept (below_alloc _ _)) HBIG.out).mono ?_
    rintro e w1 ⟨rfl, b1⟩
    have B1 := Lib.hid (below_next (below_alloc _ _) b1)
    clear b1
    go_wp2_with fail
    refine (alive_yes w1).mono ?_
    rintro e w2 ⟨rfl, b2⟩
    have B2 := Lib.hid (below_next B1.out b2)
    clear b2
    go_wp2
    go_ret
    exact ⟨rfl, B2.out⟩
  · obtain ⟨h40, hea⟩ := few_each hbig
    have HEA := Lib.hid hea
    have HBIG := Lib.hid hbig
    clear hr hbig hea hl
    have hm6 : ∀ W : World, (Instr.makeSlice 22 (.int .i64 65537) (.int .i64 65537)).run Try.prog W = .ok (.slice (some ⟨W.heap.size, 0, none⟩) 65537 65537) (W.alloc (.cells (zeros8 65537) 5)) := run_make8 65537 (by omega)
    go_enter Try.func4, Try.ntmps4
    go_wp2_with fail
    refine (many_no1 _ ao rs.length cap rs _ (by exact cell_one_new _ _ _ 0 _ rfl) (HRB.out.kept (below_alloc _ _)) HBIG.out).mono ?_
    rintro e w1 ⟨rfl, b1⟩
    have B1 := Lib.hid (below_next (below_alloc _ _) b1)
    clear b1
    go_wp2_with fail
    refine (opened_x w w1 B1.out 1000000 (by omega) (by omega)).mono ?_
    rintro e w2 ⟨c, j0, rfl, h2⟩
    obtain ⟨S2, h2⟩ := h2.s
    have H2 := Lib.hid h2
    clear h2
    go_wp2_with fail
    refine (opened_x w2 w2 (Below.refl _ _) 8000000 (by omega) (by omega)).mono ?_
    rintro e w3 ⟨d, j1, rfl, h3⟩
    obtain ⟨S3, h3⟩ := h3.s
    have H3 := Lib.hid h3
    clear h3
    go_wp2_with fail
    go_loopw [8, 9] (fun jv i wr => ∃ (k j1 : Nat), k ≤ rs.length ∧ i = .int .i64 k ∧ jv = .pointer (some ⟨j1, 0, none⟩) ∧ Hid (AlRel w c d j0 j1 rs k wr)) (fun _ i _ => rs.length - (RowKit.intOf i).toNat)
    case atStart => exact ⟨0, j1, by omega, rfl, rfl, Lib.hid ⟨0, [], S2, S3, H2.out.kept H3.out.below, H3.out.base H2.out.below, fun k h1 h2 => by have := H2.out.lt k h1; have := H3.out.from k h2; omega⟩⟩
    case round =>
      clear H2 H3 B1
      obtain ⟨k, j1, hk, rfl, rfl, HREL⟩ := hrel
      obtain ⟨s, q, S, T, hp⟩ := HREL.out
      have HP := Lib.hid hp
      have hroomk := few_room HBIG.out k
      clear HREL hp
      by_cases hlt : k < rs.length
      · obtain ⟨b, off, x, aj, cj, rfl, hx, hcell, hxr⟩ := HRB.out.row.one k hlt
        have hx4 := HEA.out x (List.mem_of_getElem? hx)
        have HC := Lib.hid hcell
        have HXR := Lib.hid hxr
        have HNX := Lib.hid (take_next hx)
        have hfit := few_room HBIG.out (k + 1)
        have hcb := HRB.out.row.most
        have hcr := HRB.out.row.room
        rw [HNX.out] at hfit
        clear hcell hxr hx
        generalize hdone : rs.take k = done at *
        have c1 := HC.out wr HP.out.1.below
        by_cases hby : k < m
        · obtain ⟨cb, off2, rfl, hbyc⟩ := HL.out.lies (by omega)
          obtain ⟨v, hv⟩ : ∃ v, l[k]? = some v := ⟨l[k]'(by omega), List.getElem?_eq_getElem _⟩
          have hv256 : v < 256 := HL.out.byte v (List.mem_of_getElem? hv)
          have hcb0 := hbyc k v hv
          have c0 : wr.cell? ⟨cb, off2 + k, none⟩ = some (.int .u8 (v : Int)) := (HP.out.1.below.cell (p := ⟨cb, off2 + k, none⟩) (World.block_lt_of_cell? w _ hcb0)).trans hcb0
          clear hbyc hv hcb0
          have hq : v % 4 = 0 ∨ v % 4 = 1 ∨ v % 4 = 2 ∨ v % 4 = 3 := by omega
          rcases hq with h4 | h4 | h4 | h4
          · have h4' : (v : Int) % 4 = 0 := by omega
            have haddc := Lib.hid (jN_add 1000000 done 0 [] x (by omega) (by omega) (by omega))
            have haddd := Lib.hid (jN_add 8000000 done s q x (by omega) (by omega) (by omega))
            go_wp2_with fail
            refine (add_s HP.out.1 (by decide) aj x.length cj x (HXR.out.kept HP.out.1.below) (k := 0) (by rw [haddc.out.1]; rfl) haddc.out.2.1 haddc.out.2.2).mono ?_
            rintro e wa ⟨rfl, SA, hsa, ma⟩
            have HA := Lib.hid (HP.out.one hsa ma)
            have c2 := HC.out wa hsa.below
            clear hsa ma
            go_wp2_with fail
            refine (add_s HA.out.2.1 (by decide) aj x.length cj x (HXR.out.kept HA.out.1.below) (k := 0) (by rw [haddd.out.1]; rfl) haddd.out.2.1 haddd.out.2.2).mono ?_
            rintro e wb ⟨rfl, SB, hsb, mb⟩
            have HB := Lib.hid (HA.out.two hsb mb)
            clear hsb mb HA HP haddc haddd
            go_wp2
            go_roundw
            case rel => exact ⟨k + 1, j1, by omega, by go_num, rfl, Lib.hid ⟨_, _, SA, SB, by rw [HNX.out]; exact HB.out⟩⟩
            case measure => simp [RowKit.intOf]; omega
          · have h4' : (v : Int) % 4 = 1 := by omega
            go_wp2_with fail
            refine (open_s HP.out.2.1 nJ (by decide) (jN_miss _ _ _ _) (rs := done) (stop := (allB 0 done).length) (by rw [jN_all]; exact (read_all done).1) (by rw [jN_all]; exact (read_all done).2)).mono ?_
            rintro e w4 ⟨jn, a4, q4, S4, he, h4s, m4, r4, _, _⟩
            have hdl : done.length = k := by rw [← hdone, List.length_take]; omega
            rw [hdl] at he r4
            subst he
            have HP4 := Lib.hid (HP.out.two h4s m4)
            have HR4 := Lib.hid r4
            clear h4s m4 r4 HP c1 c0
            go_wp2_with fail
            refine (sameRecords_same a4 (some ⟨b, off, none⟩) k q4 cap done w4 HR4.out (by have := (HRB.out.row.kept HP4.out.1.below).upto k hk; rwa [hdone] at this)).mono ?_
            rintro e wr ⟨rfl, b5⟩
            have HP5 := HP4.out.kept b5
            obtain ⟨S5, h5, l5⟩ := (HP5.2.1.perm (List.Perm.swap _ _ _)).drop
            have HP : Hid (PairS w wr c (jN 1000000 (allB 0 done) 0 []) [(j0, jObj c nJ (allB 0 done).length)] d (jN 8000000 (allB 0 done) s q) [(jn, jObj d nJ (allB 0 done).length)] S S5) := Lib.hid ⟨HP5.1, h5, fun k hk ht => HP5.2.2 k hk (l5 k ht)⟩
            have c1 := HC.out wr HP5.1.below
            clear b5 HP5 h5 l5 HP4 HR4 hdl
            have haddc := Lib.hid (jN_add 1000000 done 0 [] x (by omega) (by omega) (by omega))
            have haddd := Lib.hid (jN_add 8000000 done s q x (by omega) (by omega) (by omega))
            go_wp2_with fail
            refine (add_s HP.out.1 (by decide) aj x.length cj x (HXR.out.kept HP.out.1.below) (k := 0) (by rw [haddc.out.1]; rfl) haddc.out.2.1 haddc.out.2.2).mono ?_
            rintro e wa ⟨rfl, SA, hsa, ma⟩
            have HA := Lib.hid (HP.out.one hsa ma)
            have c2 := HC.out wa hsa.below
            clear hsa ma
            go_wp2_with fail
            refine (add_s HA.out.2.1 (by decide) aj x.length cj x (HXR.out.kept HA.out.1.below) (k := 0) (by rw [haddd.out.1]; rfl) haddd.out.2.1 haddd.out.2.2).mono ?_
            rintro e wb ⟨rfl, SB, hsb, mb⟩
            have HB := Lib.hid (HA.out.two hsb mb)
            clear hsb mb HA HP haddc haddd
            go_wp2
            go_roundw
            case rel => exact ⟨k + 1, jn, by omega, by go_num, rfl, Lib.hid ⟨_, _, SA, SB, by rw [HNX.out]; exact HB.out⟩⟩
            case measure => simp [RowKit.intOf]; omega
          · have h4' : (v : Int) % 4 = 2 := by omega
            go_wp2_with fail
            refine (jsync_s HP.out.2.1 (by decide) (k := 0) (by rw [jN_miss]; rfl) (jN_sync _ _ _ _)).mono ?_
            rintro e wr ⟨rfl, S4, h4s, m4⟩
            have HP4 := HP.out.two h4s m4
            clear HP c1
            have HP := Lib.hid HP4
            have c1 := HC.out wr HP4.1.below
            clear HP4 h4s m4
            have haddc := Lib.hid (jN_add 1000000 done 0 [] x (by omega) (by omega) (by omega))
            have haddd := Lib.hid (jN_add 8000000 done (allB 0 done).length q x (by omega) (by omega) (by omega))
            go_wp2_with fail
            refine (add_s HP.out.1 (by decide) aj x.length cj x (HXR.out.kept HP.out.1.below) (k := 0) (by rw [haddc.out.1]; rfl) haddc.out.2.1 haddc.out.2.2).mono ?_
            rintro e wa ⟨rfl, SA, hsa, ma⟩
            have HA := Lib.hid (HP.out.one hsa ma)
            have c2 := HC.out wa hsa.below
            clear hsa ma
            go_wp2_with fail
            refine (add_s HA.out.2.1 (by decide) aj x.length cj x (HXR.out.kept HA.out.1.below) (k := 0) (by rw [haddd.out.1]; rfl) haddd.out.2.1 haddd.out.2.2).mono ?_
            rintro e wb ⟨rfl, SB, hsb, mb⟩
            have HB := Lib.hid (HA.out.two hsb mb)
            clear hsb mb HA HP haddc haddd
            go_wp2
            go_roundw
            case rel => exact ⟨k + 1, j1, by omega, by go_num, rfl, Lib.hid ⟨_, _, SA, SB, by rw [HNX.out]; exact HB.out⟩⟩
            case measure => simp [RowKit.intOf]; omega
          · have h4' : (v : Int) % 4 = 3 := by omega
            go_wp2_with fail
            refine (names_s HP.out.2.1 (jN_names _ _ _ _)).mono ?_
            rintro e w4 ⟨rfl, S4, h4s, m4⟩
            have HP4 := Lib.hid (HP.out.two h4s m4)
            clear HP c1 h4s m4 c0
            have hlg := Lib.hid (jN_large 8000000 (allB 0 done) s [(nJ, 0)] (allB 0 done).length (List.replicate 65537 0) (by rw [List.length_replicate]; omega))
            go_wp2_with fail
            refine (add_s (HP4.out.2.1.alloc _) (by decide) _ 65537 65537 (List.replicate 65537 0) (row_zeros _ 65537 _ _ rfl (by omega)) (k := 3) (by rw [hlg.out.1]; rfl) hlg.out.2.1 hlg.out.2.2).mono ?_
            rintro e wr ⟨rfl, S5, h5s, m5⟩
            have HP5 := (HP4.out.kept (below_alloc _ _)).two h5s m5
            clear HP4 hlg
            have HP := Lib.hid HP5
            have c1 := HC.out wr HP5.1.below
            clear HP5 h5s m5
            have haddc := Lib.hid (jN_add 1000000 done 0 [] x (by omega) (by omega) (by omega))
            have haddd := Lib.hid (jN_add 8000000 done s [(nJ, 0)] x (by omega) (by omega) (by omega))
            go_wp2_with fail
            refine (add_s HP.out.1 (by decide) aj x.length cj x (HXR.out.kept HP.out.1.below) (k := 0) (by rw [haddc.out.1]; rfl) haddc.out.2.1 haddc.out.2.2).mono ?_
            rintro e wa ⟨rfl, SA, hsa, ma⟩
            have HA := Lib.hid (HP.out.one hsa ma)
            have c2 := HC.out wa hsa.below
            clear hsa ma
            go_wp2_with fail
            refine (add_s HA.out.2.1 (by decide) aj x.length cj x (HXR.out.kept HA.out.1.below) (k := 0) (by rw [haddd.out.1]; rfl) haddd.out.2.1 haddd.out.2.2).mono ?_
            rintro e wb ⟨rfl, SB, hsb, mb⟩
            have HB := Lib.hid (HA.out.two hsb mb)
            clear hsb mb HA HP haddc haddd
            go_wp2
            go_roundw
            case rel => exact ⟨k + 1, j1, by omega, by go_num, rfl, Lib.hid ⟨_, _, SA, SB, by rw [HNX.out]; exact HB.out⟩⟩
            case measure => simp [RowKit.intOf]; omega
        · skip
          have haddc := Lib.hid (jN_add 1000000 done 0 [] x (by omega) (by omega) (by omega))
          have haddd := Lib.hid (jN_add 8000000 done s q x (by omega) (by omega) (by omega))
          go_wp2_with fail
          refine (add_s HP.out.1 (by decide) aj x.length cj x (HXR.out.kept HP.out.1.below) (k := 0) (by rw [haddc.out.1]; rfl) haddc.out.2.1 haddc.out.2.2).mono ?_
          rintro e wa ⟨rfl, SA, hsa, ma⟩
          have HA := Lib.hid (HP.out.one hsa ma)
          have c2 := HC.out wa hsa.below
          clear hsa ma
          go_wp2_with fail
          refine (add_s HA.out.2.1 (by decide) aj x.length cj x (HXR.out.kept HA.out.1.below) (k := 0) (by rw [haddd.out.1]; rfl) haddd.out.2.1 haddd.out.2.2).mono ?_
          rintro e wb ⟨rfl, SB, hsb, mb⟩
          have HB := Lib.hid (HA.out.two hsb mb)
          clear hsb mb HA HP haddc haddd
          go_wp2
          go_roundw
          case rel => exact ⟨k + 1, j1, by omega, by go_num, rfl, Lib.hid ⟨_, _, SA, SB, by rw [HNX.out]; exact HB.out⟩⟩
          case measure => simp [RowKit.intOf]; omega
      · obtain rfl : k = rs.length := by omega
        rw [List.take_length] at HP hroomk
        go_wp2_with fail
        refine (tells_x HP.out.1.x nJ (by decide) (jN_miss _ _ _ _) (rs := rs) (by rw [jN_all]; exact (read_all rs).1) _ _ _ (HRB.out.row.kept HP.out.1.below)).mono ?_
        rintro e w4 ⟨rfl, b4⟩
        have HP4 := Lib.hid (HP.out.kept b4)
        clear b4 HP
        go_wp2_with fail
        refine (tells_x HP4.out.2.1.x nJ (by decide) (jN_miss _ _ _ _) (rs := rs) (by rw [jN_all]; exact (read_all rs).1) _ _ _ (HRB.out.row.kept HP4.out.1.below)).mono ?_
        rintro e w5 ⟨rfl, b5⟩
        have HP5 := Lib.hid (HP4.out.kept b5)
        clear b5 HP4
        go_wp2_with fail
        refine (bytes_x HP5.out.1.x nJ (by decide) (jN_all _ _ _ _)).mono ?_
        rintro e w6 ⟨a6, q6, rfl, r6, b6, _⟩
        have HP6 := Lib.hid (HP5.out.kept b6)
        have HR6 := Lib.hid r6
        clear b6 r6 HP5
        go_wp2_with fail
        refine (bytes_x HP6.out.2.1.x nJ (by decide) (jN_all _ _ _ _)).mono ?_
        rintro e w7 ⟨a7, q7, rfl, r7, b7, _⟩
        have HP7 := Lib.hid (HP6.out.kept b7)
        have HR7 := Lib.hid r7
        have HR6b := Lib.hid (HR6.out.kept b7)
        clear b7 r7 HP6 HR6
        go_wp2_with fail
        refine (sameBytes_same _ _ _ _ _ _ w7 HR6b.out HR7.out).mono ?_
        rintro e w8 ⟨rfl, b8⟩
        have HP8 := Lib.hid (HP7.out.kept b8)
        clear b8
        go_wp2
        go_ret
        exact ⟨rfl, HP8.out.1.below⟩
end Go.Proofs.Ytkmanpmaflpgoaa
