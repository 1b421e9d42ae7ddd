/-
  WHAT IS PROVED: the walk of FilesChange.
-/
import Derived.Test.YtdeggklfjdgfjaaChPure
namespace Go.Proofs.Ytdeggklfjdgfjaa
open Go.RowKit Go.Lib

/-- the disk behind k rounds -/
def chAt (a0 a1 b0 b1 : ByteArray) : Nat → DiskM
  | 0 => newM 20000
  | 1 => ch1 (two a0 a1)
  | _ => ch2 (two a0 a1) (two b0 b1)

set_option maxRecDepth 100000 in
set_option maxHeartbeats 8000000 in
theorem walkN_FilesChange (a0 a1 b0 b1 : ByteArray) (sure : Bool) (keep : Nat) (hk : keep < 256) (ha0 : a0.size ≤ 140737488351232) (ha1 : a1.size ≤ 140737488351232) (hb0 : b0.size ≤ 140737488351232) (hb1 : b1.size ≤ 140737488351232) (w : World) :
    Calls Try.prog 6 #[.agg #[.string a0, .string a1, .string b0, .string b1], .bool sure, .int .u8 (keep : Int)] w fun e w' => e = .returned (.bool true) ∧ Below w.heap.size w w' := by
  obtain ⟨W, hW⟩ : ∃ W, W = w.alloc (.cells #[.string a0, .string a1, .string b0, .string b1] 55) := ⟨_, rfl⟩
  have hz : ∀ wk, Below W.heap.size W wk → wk.cell? ⟨w.heap.size, 0, none⟩ = some (.string a0) ∧ wk.cell? ⟨w.heap.size, 1, none⟩ = some (.string a1) ∧ wk.cell? ⟨w.heap.size, 2, none⟩ = some (.string b0) ∧ wk.cell? ⟨w.heap.size, 3, none⟩ = some (.string b1) := by
    intro wk hb
    have hh : wk.heap[w.heap.size]? = some (.cells #[.string a0, .string a1, .string b0, .string b1] 55 (0, 0)) := by
      rw [hb.block w.heap.size (by rw [hW]; simp), hW]; exact heap_alloc_new w _
    exact ⟨cell_of_block hh 0, cell_of_block hh 1, cell_of_block hh 2, cell_of_block hh 3⟩
  have HZ := Lib.hid hz
  have hend : ∀ wk, Below W.heap.size W wk → Below w.heap.size w wk := fun wk hb => by rw [hW] at hb; exact below_alloc_trans hb
  have HEND := Lib.hid hend
  have hcv := fun (w : World) (s : ByteArray) => run_bytes_of_string (P := Try.prog) w 9 22 5 s Try.underlying9 Try.underlying22 Try.underlying5
  have HCV := Lib.hid hcv
  clear hz hend hcv
  by_cases hbig : 20000 < a0.size + a1.size + b0.size + b1.size
  · go_enter Try.func6, Try.ntmps6
    go_wp2_with fail
    rw [← hW]
    refine (alive_yes W).mono ?_
    rintro e w1 ⟨rfl, b1⟩
    have B1 := Lib.hid b1
    obtain ⟨z0, z1, z2, z3⟩ := HZ.out _ b1
    clear b1
    go_wp2_with fail
    refine (alive_yes w1).mono ?_
    rintro e w2 ⟨rfl, b2⟩
    have B2 := Lib.hid (below_next B1.out b2)
    clear b2
    go_wp2
    go_ret
    exact ⟨rfl, HEND.out _ B2.out⟩
  · have hA0 : (strN a0).length = a0.size := strN_length a0
    have hA1 : (strN a1).length = a1.size := strN_length a1
    have hB0 : (strN b0).length = b0.size := strN_length b0
    have hB1 : (strN b1).length = b1.size := strN_length b1
    have HA0 := Lib.hid hA0
    have HA1 := Lib.hid hA1
    have HB0 := Lib.hid hB0
    have HB1 := Lib.hid hB1
    clear hA0 hA1 hB0 hB1
    go_enter Try.func6, Try.ntmps6
    go_wp2_with fail
    rw [← hW]
    refine (alive_yes W).mono ?_
    rintro e w1 ⟨rfl, b1⟩
    have B1 := Lib.hid b1
    obtain ⟨z0, z1, z2, z3⟩ := HZ.out _ b1
    clear b1 hW
    go_wp2_with fail
    refine (new_h (M := newM 20000) 20000 W w1 B1.out (by omega) (by omega) rfl).mono ?_
    rintro e w2 ⟨d, rfl, h2, _⟩
    have H2 := Lib.hid h2
    clear h2 z0 z1 z2 z3
    go_wp2_with fail
    obtain ⟨r, hr⟩ : ∃ r, r = w2.heap.size := ⟨_, rfl⟩
    rw [← hr]
    obtain ⟨w3, hw3⟩ : ∃ w3, w3 = w2.alloc (Obj.cells #[.string nA, .string nB] 9) := ⟨_, rfl⟩
    have hK3 : Hid (HasK W w3 d (newM 20000) r #[.string nA, .string nB]) := by
      rw [hw3, hr]
      exact ⟨(H2.out.alloc _), heap_alloc_new w2 _⟩
    rw [← hw3]
    clear hr hw3 H2
    go_loopw [10] (fun i wr => ∃ k : Nat, k ≤ 2 ∧ i = .int .i64 k ∧ Hid (HasK W wr d (chAt a0 a1 b0 b1 k) r #[.string nA, .string nB])) (fun i _ => 2 - (RowKit.intOf i).toNat)
    case atStart => exact ⟨0, by omega, rfl, hK3⟩
    case round =>
      obtain ⟨k, hk2, rfl, HK⟩ := hrel
      obtain rfl | rfl | rfl : k = 0 ∨ k = 1 ∨ k = 2 := by omega
      · have hcv0 := fun (w : World) => HCV.out w a0
        have hcv1 := fun (w : World) => HCV.out w a1
        have hss : ∀ (x : World) M, HasK W x d M r #[.string nA, .string nB] → x.cell? ⟨r, 0, none⟩ = some (.string nA) ∧ x.cell? ⟨w.heap.size, 0, none⟩ = some (.string a0) ∧ x.cell? ⟨w.heap.size, 1, none⟩ = some (.string a1) := fun x M h => ⟨h.cell 0, (HZ.out _ h.below).1, (HZ.out _ h.below).2.1⟩
        have HSS := Lib.hid hss
        obtain ⟨l0, z0, z1⟩ := hss _ _ HK.out
        clear hss
        have mixed : Try.prog.follows .mixedOrders = true := by kernel_rfl
        go_wp2_with fail
        go_region_held (fun x => x.cell? ⟨r, 0, none⟩ = some (.string nA) ∧ x.cell? ⟨w.heap.size, 0, none⟩ = some (.string a0) ∧ x.cell? ⟨w.heap.size, 1, none⟩ = some (.string a1))
          (first | exact S7.out | exact S6.out | exact S5.out | exact S4.out | go_keep)
          ((first
          | (go_at_call 15; refine (create_k HK.out.drew nA (by decide) (k := 0) (M' := ch1 ⟨[], 0⟩) (by show (((chAt a0 a1 b0 b1 0).createE nA : Nat) : Int) = 0; rw [show (chAt a0 a1 b0 b1 0).createE nA = 0 from ch_c1.1]; rfl) ch_c1.2).mono ?_; rintro e w4 ⟨rfl, h4⟩; have H4 := Lib.hid h4; have S4 := Lib.hid (HSS.out _ _ h4); clear h4)
          | (go_at_call 18; guard_hyp H6; refine (append_k (H6.out.alloc _).drew nA (by decide) _ _ _ (strN a1) (row_of_str _ a1 (by omega)).drew (k := 0) (M' := ch1 (two a0 a1)) (by rw [(r_a2 a0 a1 (by omega)).1]; rfl) (r_a2 a0 a1 (by omega)).2).mono ?_; rintro e w7 ⟨rfl, h7⟩; have H7 := Lib.hid h7; have S7 := Lib.hid (HSS.out _ _ h7); clear h7)
          | (go_at_call 18; refine (append_k (H4.out.alloc _).drew nA (by decide) _ _ _ (strN a0) (row_of_str _ a0 (by omega)).drew (k := 0) (M' := ch1 ⟨strN a0, 0⟩) (by rw [(r_a1 a0 (by omega)).1]; rfl) (r_a1 a0 (by omega)).2).mono ?_; rintro e w5 ⟨rfl, h5⟩; have H5 := Lib.hid h5; have S5 := Lib.hid (HSS.out _ _ h5); clear h5)
          | (go_at_call 19; refine (sync_k H5.out nA (by decide) (k := 0) (M' := ch1 ⟨strN a0, (strN a0).length⟩) (by rw [(ch_s1 (strN a0) 0).1]; rfl) (ch_s1 (strN a0) 0).2).mono ?_; rintro e w6 ⟨rfl, h6⟩; have H6 := Lib.hid h6; have S6 := Lib.hid (HSS.out _ _ h6); clear h6)))
        go_wp2
        go_roundw
        case rel => exact ⟨1, by omega, rfl, H7⟩
        case measure => simp [RowKit.intOf]
      · have hcv0 := fun (w : World) => HCV.out w b0
        have hcv1 := fun (w : World) => HCV.out w b1
        have hss : ∀ (x : World) M, HasK W x d M r #[.string nA, .string nB] → x.cell? ⟨r, 1, none⟩ = some (.string nB) ∧ x.cell? ⟨w.heap.size, 2, none⟩ = some (.string b0) ∧ x.cell? ⟨w.heap.size, 3, none⟩ = some (.string b1) := fun x M h => ⟨h.cell 1, (HZ.out _ h.below).2.2.1, (HZ.out _ h.below).2.2.2⟩
        have HSS := Lib.hid hss
        obtain ⟨l0, z0, z1⟩ := hss _ _ HK.out
        clear hss
        have mixed : Try.prog.follows .mixedOrders = true := by kernel_rfl
        go_wp2_with fail
        go_region_held (fun x => x.cell? ⟨r, 1, none⟩ = some (.string nB) ∧ x.cell? ⟨w.heap.size, 2, none⟩ = some (.string b0) ∧ x.cell? ⟨w.heap.size, 3, none⟩ = some (.string b1))
          (first | exact S7.out | exact S6.out | exact S5.out | exact S4.out | go_keep)
          ((first
          | (go_at_call 15; refine (create_k HK.out.drew nB (by decide) (k := 0) (M' := ch2 (two a0 a1) ⟨[], 0⟩) (by show (((chAt a0 a1 b0 b1 1).createE nB : Nat) : Int) = 0; rw [show (chAt a0 a1 b0 b1 1).createE nB = 0 from (ch_c2 (two a0 a1)).1]; rfl) (ch_c2 (two a0 a1)).2).mono ?_; rintro e w4 ⟨rfl, h4⟩; have H4 := Lib.hid h4; have S4 := Lib.hid (HSS.out _ _ h4); clear h4)
          | (go_at_call 18; guard_hyp H6; refine (append_k (H6.out.alloc _).drew nB (by decide) _ _ _ (strN b1) (row_of_str _ b1 (by omega)).drew (k := 0) (M' := ch2 (two a0 a1) (two b0 b1)) (by rw [(r_b2 (two a0 a1) b0 b1 (by rw [two_length]; omega)).1]; rfl) (r_b2 (two a0 a1) b0 b1 (by rw [two_length]; omega)).2).mono ?_; rintro e w7 ⟨rfl, h7⟩; have H7 := Lib.hid h7; have S7 := Lib.hid (HSS.out _ _ h7); clear h7)
          | (go_at_call 18; refine (append_k (H4.out.alloc _).drew nB (by decide) _ _ _ (strN b0) (row_of_str _ b0 (by omega)).drew (k := 0) (M' := ch2 (two a0 a1) ⟨strN b0, 0⟩) (by rw [(r_b1 (two a0 a1) b0 (by rw [two_length]; omega)).1]; rfl) (r_b1 (two a0 a1) b0 (by rw [two_length]; omega)).2).mono ?_; rintro e w5 ⟨rfl, h5⟩; have H5 := Lib.hid h5; have S5 := Lib.hid (HSS.out _ _ h5); clear h5)
          | (go_at_call 19; refine (sync_k H5.out nB (by decide) (k := 0) (M' := ch2 (two a0 a1) ⟨strN b0, (strN b0).length⟩) (by rw [(ch_s2 (two a0 a1) (strN b0) 0).1]; rfl) (ch_s2 (two a0 a1) (strN b0) 0).2).mono ?_; rintro e w6 ⟨rfl, h6⟩; have H6 := Lib.hid h6; have S6 := Lib.hid (HSS.out _ _ h6); clear h6)))
        go_wp2
        go_roundw
        case rel => exact ⟨2, by omega, rfl, H7⟩
        case measure => simp [RowKit.intOf]
      · have HK2 : Hid (HasK W wr d (ch2 (two a0 a1) (two b0 b1)) r #[.string nA, .string nB]) := HK
        clear HK
        go_wp2_with fail
        refine (names_k HK2.out (ch_n _ _)).mono ?_
        rintro e w4 ⟨rfl, h4⟩
        have H4 := Lib.hid h4
        clear h4 HK2
        go_wp2_with fail
        refine (rename_k H4.out nA nC (by decide) (by decide) (k := 0) (by rw [(ch_x _ _).1]; rfl) (ch_x _ _).2).mono ?_
        rintro e w5 ⟨rfl, h5⟩
        have H5 := Lib.hid h5
        clear h5 H4
        go_wp2_with fail
        refine (rename_k H5.out nB nA (by decide) (by decide) (k := 0) (by rw [(ch_y _ _).1]; rfl) (ch_y _ _).2).mono ?_
        rintro e w6 ⟨rfl, h6⟩
        have H6 := Lib.hid h6
        clear h6 H5
        go_wp2_with fail
        refine (rename_k H6.out nC nB (by decide) (by decide) (k := 0) (by rw [(ch_z _ _).1]; rfl) (ch_z _ _).2).mono ?_
        rintro e w7 ⟨rfl, h7⟩
        have H7 := Lib.hid h7
        clear h7 H6
        obtain ⟨ma, hma⟩ : ∃ m, m = min keep a1.size := ⟨_, rfl⟩
        obtain ⟨mb, hmb⟩ : ∃ m, m = min keep b1.size := ⟨_, rfl⟩
        have Hma := Lib.hid hma
        have Hmb := Lib.hid hmb
        clear hma hmb
        cases sure
        · have HM : Hid (HasK W w7 d (chE false (two a0 a1) (two b0 b1)) r #[.string nA, .string nB]) := H7
          clear H7
          go_wp2_with fail
          go_loopw [11] (fun i wr => ∃ k : Nat, k ≤ 2 ∧ i = .int .i64 k ∧ Hid (HasK W wr d (chE false (two a0 a1) (two b0 b1)) r #[.string nA, .string nB])) (fun i _ => 2 - (RowKit.intOf i).toNat)
          case atStart => exact ⟨0, by omega, rfl, HM⟩
          case round =>
            clear HM
            obtain ⟨k, hk2, rfl, HM⟩ := hrel
            obtain rfl | rfl | rfl : k = 0 ∨ k = 1 ∨ k = 2 := by omega
            · obtain ⟨hl2, hxa, hxb⟩ := ch_fail (two a0 a1) (two b0 b1) keep false false
              have HXA : Hid (strB (((chE false (two a0 a1) (two b0 b1)).failM keep false).all nA) = a0 ++ a1.extract 0 ma) := by
                show _ = _
                rw [hxa]; exact two_left _ _ _ _ Hma.out
              have HXB : Hid (strB (((chE false (two a0 a1) (two b0 b1)).failM keep false).all nB) = b0 ++ b1.extract 0 mb) := by
                show _ = _
                rw [hxb]; exact two_left _ _ _ _ Hmb.out
              have HL2 := Lib.hid hl2
              clear hl2 hxa hxb
              go_wp2_with fail
              refine (fail_h HM.out.has keep false (by omega) rfl).mono ?_
              rintro e w9 ⟨dx, rfl, x9, b9⟩
              have X9 := Lib.hid x9
              have M9 := Lib.hid (HM.out.kept b9)
              clear x9 b9 HM
              go_wp2_with fail
              refine (list_h X9.out HL2.out).mono ?_
              rintro e w10 ⟨ao, cap, rfl, _, _, b10⟩
              have X10 := Lib.hid (X9.out.kept b10)
              have M10 := Lib.hid (M9.out.kept b10)
              clear b10 X9 M9
              go_wp2_with fail
              go_loopw [14] (fun i wr => ∃ k : Nat, k ≤ 2 ∧ i = .int .i64 k ∧ Hid (HasK W wr d (chE false (two a0 a1) (two b0 b1)) r #[.string nA, .string nB]) ∧ Hid (Has W wr dx ((chE false (two a0 a1) (two b0 b1)).failM keep false))) (fun i _ => 2 - (RowKit.intOf i).toNat)
              case atStart => exact ⟨0, by omega, rfl, M10, X10⟩
              case round =>
                clear M10 X10
                obtain ⟨i, hi2, rfl, HM, HX⟩ := hrel
                obtain rfl | rfl | rfl : i = 0 ∨ i = 1 ∨ i = 2 := by omega
                · have l0 : wr.cell? ⟨r, 0, none⟩ = some (.string nA) := HM.out.cell 0
                  obtain ⟨z0, z1, _, _⟩ := HZ.out _ HM.out.below
                  have q0 := bwOf_cell wr _ _ l0
                  have q1 := bwOf_cell wr _ _ z0
                  have q2 := bwOf_cell wr _ _ z1
                  have hmin : min (keep : Int) (a1.size : Int) = (ma : Int) := by have := Hma.out; omega
                  have hml : ma ≤ a1.size := by have := Hma.out; omega
                  have kadd : ¬ 9223372036854775807 < a0.size + (a1.extract 0 ma).size := by rw [ByteArray.size_extract]; omega
                  go_wp2_with fail
                  refine wp_region_bw (w := wr) (by kernel_rfl) (by kernel_rfl) ?_
                  repeat (go_big_quiet_step ((go_at_call 23; exact below_of (all_h (HX.out.kept (bwOf_below _ _)) nA (by decide) HXA.out))))
                  refine wpQuiet_nil ?_
                  rintro w14 ⟨m14, rfl⟩
                  go_wp2
                  go_roundw
                  case rel => exact ⟨1, by omega, rfl, Lib.hid (HM.out.kept (bwOf_below _ m14)), Lib.hid (HX.out.kept (bwOf_below _ m14))⟩
                  case measure => simp [RowKit.intOf]
                · have l0 : wr.cell? ⟨r, 1, none⟩ = some (.string nB) := HM.out.cell 1
                  obtain ⟨_, _, z0, z1⟩ := HZ.out _ HM.out.below
                  have q0 := bwOf_cell wr _ _ l0
                  have q1 := bwOf_cell wr _ _ z0
                  have q2 := bwOf_cell wr _ _ z1
                  have hmin : min (keep : Int) (b1.size : Int) = (mb : Int) := by have := Hmb.out; omega
                  have hml : mb ≤ b1.size := by have := Hmb.out; omega
                  have kadd : ¬ 9223372036854775807 < b0.size + (b1.extract 0 mb).size := by rw [ByteArray.size_extract]; omega
                  go_wp2_with fail
                  refine wp_region_bw (w := wr) (by kernel_rfl) (by kernel_rfl) ?_
                  repeat (go_big_quiet_step ((go_at_call 23; exact below_of (all_h (HX.out.kept (bwOf_below _ _)) nB (by decide) HXB.out))))
                  refine wpQuiet_nil ?_
                  rintro w14 ⟨m14, rfl⟩
                  go_wp2
                  go_roundw
                  case rel => exact ⟨2, by omega, rfl, Lib.hid (HM.out.kept (bwOf_below _ m14)), Lib.hid (HX.out.kept (bwOf_below _ m14))⟩
                  case measure => simp [RowKit.intOf]
                · go_wp2_with fail
                  go_roundw
                  case rel => exact ⟨1, by omega, rfl, HM⟩
                  case measure => simp [RowKit.intOf]
            · obtain ⟨hl2, hxa, hxb⟩ := ch_fail (two a0 a1) (two b0 b1) keep false true
              have HXA : Hid (strB (((chE false (two a0 a1) (two b0 b1)).failM keep true).all nA) = b0 ++ b1.extract 0 mb) := by
                show _ = _
                rw [hxa]; exact two_left _ _ _ _ Hmb.out
              have HXB : Hid (strB (((chE false (two a0 a1) (two b0 b1)).failM keep true).all nB) = a0 ++ a1.extract 0 ma) := by
                show _ = _
                rw [hxb]; exact two_left _ _ _ _ Hma.out
              have HL2 := Lib.hid hl2
              clear hl2 hxa hxb
              go_wp2_with fail
              refine (fail_h HM.out.has keep true (by omega) rfl).mono ?_
              rintro e w9 ⟨dx, rfl, x9, b9⟩
              have X9 := Lib.hid x9
              have M9 := Lib.hid (HM.out.kept b9)
              clear x9 b9 HM
              go_wp2_with fail
              refine (list_h X9.out HL2.out).mono ?_
              rintro e w10 ⟨ao, cap, rfl, _, _, b10⟩
              have X10 := Lib.hid (X9.out.kept b10)
              have M10 := Lib.hid (M9.out.kept b10)
              clear b10 X9 M9
              go_wp2_with fail
              go_loopw [14] (fun i wr => ∃ k : Nat, k ≤ 2 ∧ i = .int .i64 k ∧ Hid (HasK W wr d (chE false (two a0 a1) (two b0 b1)) r #[.string nA, .string nB]) ∧ Hid (Has W wr dx ((chE false (two a0 a1) (two b0 b1)).failM keep true))) (fun i _ => 2 - (RowKit.intOf i).toNat)
              case atStart => exact ⟨0, by omega, rfl, M10, X10⟩
              case round =>
                clear M10 X10
                obtain ⟨i, hi2, rfl, HM, HX⟩ := hrel
                obtain rfl | rfl | rfl : i = 0 ∨ i = 1 ∨ i = 2 := by omega
                · have l0 : wr.cell? ⟨r, 0, none⟩ = some (.string nA) := HM.out.cell 0
                  obtain ⟨_, _, z0, z1⟩ := HZ.out _ HM.out.below
                  have q0 := bwOf_cell wr _ _ l0
                  have q1 := bwOf_cell wr _ _ z0
                  have q2 := bwOf_cell wr _ _ z1
                  have hmin : min (keep : Int) (b1.size : Int) = (mb : Int) := by have := Hmb.out; omega
                  have hml : mb ≤ b1.size := by have := Hmb.out; omega
                  have kadd : ¬ 9223372036854775807 < b0.size + (b1.extract 0 mb).size := by rw [ByteArray.size_extract]; omega
                  go_wp2_with fail
                  refine wp_region_bw (w := wr) (by kernel_rfl) (by kernel_rfl) ?_
                  repeat (go_big_quiet_step ((go_at_call 23; exact below_of (all_h (HX.out.kept (bwOf_below _ _)) nA (by decide) HXA.out))))
                  refine wpQuiet_nil ?_
                  rintro w14 ⟨m14, rfl⟩
                  go_wp2
                  go_roundw
                  case rel => exact ⟨1, by omega, rfl, Lib.hid (HM.out.kept (bwOf_below _ m14)), Lib.hid (HX.out.kept (bwOf_below _ m14))⟩
                  case measure => simp [RowKit.intOf]
                · have l0 : wr.cell? ⟨r, 1, none⟩ = some (.string nB) := HM.out.cell 1
                  obtain ⟨z0, z1, _, _⟩ := HZ.out _ HM.out.below
                  have q0 := bwOf_cell wr _ _ l0
                  have q1 := bwOf_cell wr _ _ z0
                  have q2 := bwOf_cell wr _ _ z1
                  have hmin : min (keep : Int) (a1.size : Int) = (ma : Int) := by have := Hma.out; omega
                  have hml : ma ≤ a1.size := by have := Hma.out; omega
                  have kadd : ¬ 9223372036854775807 < a0.size + (a1.extract 0 ma).size := by rw [ByteArray.size_extract]; omega
                  go_wp2_with fail
                  refine wp_region_bw (w := wr) (by kernel_rfl) (by kernel_rfl) ?_
                  repeat (go_big_quiet_step ((go_at_call 23; exact below_of (all_h (HX.out.kept (bwOf_below _ _)) nB (by decide) HXB.out))))
                  refine wpQuiet_nil ?_
                  rintro w14 ⟨m14, rfl⟩
                  go_wp2
                  go_roundw
                  case rel => exact ⟨2, by omega, rfl, Lib.hid (HM.out.kept (bwOf_below _ m14)), Lib.hid (HX.out.kept (bwOf_below _ m14))⟩
                  case measure => simp [RowKit.intOf]
                · go_wp2_with fail
                  go_roundw
                  case rel => exact ⟨2, by omega, rfl, HM⟩
                  case measure => simp [RowKit.intOf]
            · obtain ⟨_, hxa, hxb⟩ := ch_end (two a0 a1) (two b0 b1) false
              have HXA : Hid (strB ((chE false (two a0 a1) (two b0 b1)).all nA) = b0 ++ b1) := by
                show _ = _
                rw [hxa]; exact two_bytes _ _
              have HXB : Hid (strB ((chE false (two a0 a1) (two b0 b1)).all nB) = a0 ++ a1) := by
                show _ = _
                rw [hxb]; exact two_bytes _ _
              clear hxa hxb
              obtain ⟨z0, z1, z2, z3⟩ := HZ.out _ HM.out.below
              have q0 := bwOf_cell wr _ _ z0
              have q1 := bwOf_cell wr _ _ z1
              have q2 := bwOf_cell wr _ _ z2
              have q3 := bwOf_cell wr _ _ z3
              have kadd : ¬ 9223372036854775807 < a0.size + a1.size := by omega
              have kadd2 : ¬ 9223372036854775807 < b0.size + b1.size := by omega
              go_wp2_with fail
              refine wp_region_bw (w := wr) (by kernel_rfl) (by kernel_rfl) ?_
              iterate 4 (go_big_quiet_step ((go_at_call 23; exact below_of (all_h (HM.out.has.kept (bwOf_below _ _)) nA (by decide) HXA.out))))
              repeat (go_big_quiet_step ((go_at_call 23; exact below_of (all_h (HM.out.has.kept (bwOf_below _ _)) nB (by decide) HXB.out))))
              refine wpQuiet_nil ?_
              rintro w14 ⟨m14, rfl⟩
              go_wp2
              go_ret
              exact ⟨rfl, HEND.out _ (HM.out.kept (bwOf_below _ m14)).below⟩
        · go_wp2_with fail
          refine (names_k H7.out (ch_s _ _)).mono ?_
          rintro e w8 ⟨rfl, h8⟩
          have HM : Hid (HasK W w8 d (chE true (two a0 a1) (two b0 b1)) r #[.string nA, .string nB]) := Lib.hid h8
          clear h8 H7
          go_wp2_with fail
          go_loopw [11] (fun i wr => ∃ k : Nat, k ≤ 2 ∧ i = .int .i64 k ∧ Hid (HasK W wr d (chE true (two a0 a1) (two b0 b1)) r #[.string nA, .string nB])) (fun i _ => 2 - (RowKit.intOf i).toNat)
          case atStart => exact ⟨0, by omega, rfl, HM⟩
          case round =>
            clear HM
            obtain ⟨k, hk2, rfl, HM⟩ := hrel
            obtain rfl | rfl | rfl : k = 0 ∨ k = 1 ∨ k = 2 := by omega
            · obtain ⟨hl2, hxa, hxb⟩ := ch_fail (two a0 a1) (two b0 b1) keep true false
              have HXA : Hid (strB (((chE true (two a0 a1) (two b0 b1)).failM keep false).all nA) = b0 ++ b1.extract 0 mb) := by
                show _ = _
                rw [hxa]; exact two_left _ _ _ _ Hmb.out
              have HXB : Hid (strB (((chE true (two a0 a1) (two b0 b1)).failM keep false).all nB) = a0 ++ a1.extract 0 ma) := by
                show _ = _
                rw [hxb]; exact two_left _ _ _ _ Hma.out
              have HL2 := Lib.hid hl2
              clear hl2 hxa hxb
              go_wp2_with fail
              refine (fail_h HM.out.has keep false (by omega) rfl).mono ?_
              rintro e w9 ⟨dx, rfl, x9, b9⟩
              have X9 := Lib.hid x9
              have M9 := Lib.hid (HM.out.kept b9)
              clear x9 b9 HM
              go_wp2_with fail
              refine (list_h X9.out HL2.out).mono ?_
              rintro e w10 ⟨ao, cap, rfl, _, _, b10⟩
              have X10 := Lib.hid (X9.out.kept b10)
              have M10 := Lib.hid (M9.out.kept b10)
              clear b10 X9 M9
              go_wp2_with fail
              go_loopw [14] (fun i wr => ∃ k : Nat, k ≤ 2 ∧ i = .int .i64 k ∧ Hid (HasK W wr d (chE true (two a0 a1) (two b0 b1)) r #[.string nA, .string nB]) ∧ Hid (Has W wr dx ((chE true (two a0 a1) (two b0 b1)).failM keep false))) (fun i _ => 2 - (RowKit.intOf i).toNat)
              case atStart => exact ⟨0, by omega, rfl, M10, X10⟩
              case round =>
                clear M10 X10
                obtain ⟨i, hi2, rfl, HM, HX⟩ := hrel
                obtain rfl | rfl | rfl : i = 0 ∨ i = 1 ∨ i = 2 := by omega
                · have l0 : wr.cell? ⟨r, 0, none⟩ = some (.string nA) := HM.out.cell 0
                  obtain ⟨_, _, z0, z1⟩ := HZ.out _ HM.out.below
                  have q0 := bwOf_cell wr _ _ l0
                  have q1 := bwOf_cell wr _ _ z0
                  have q2 := bwOf_cell wr _ _ z1
                  have hmin : min (keep : Int) (b1.size : Int) = (mb : Int) := by have := Hmb.out; omega
                  have hml : mb ≤ b1.size := by have := Hmb.out; omega
                  have kadd : ¬ 9223372036854775807 < b0.size + (b1.extract 0 mb).size := by rw [ByteArray.size_extract]; omega
                  go_wp2_with fail
                  refine wp_region_bw (w := wr) (by kernel_rfl) (by kernel_rfl) ?_
                  repeat (go_big_quiet_step ((go_at_call 23; exact below_of (all_h (HX.out.kept (bwOf_below _ _)) nA (by decide) HXA.out))))
                  refine wpQuiet_nil ?_
                  rintro w14 ⟨m14, rfl⟩
                  go_wp2
                  go_roundw
                  case rel => exact ⟨1, by omega, rfl, Lib.hid (HM.out.kept (bwOf_below _ m14)), Lib.hid (HX.out.kept (bwOf_below _ m14))⟩
                  case measure => simp [RowKit.intOf]
                · have l0 : wr.cell? ⟨r, 1, none⟩ = some (.string nB) := HM.out.cell 1
                  obtain ⟨z0, z1, _, _⟩ := HZ.out _ HM.out.below
                  have q0 := bwOf_cell wr _ _ l0
                  have q1 := bwOf_cell wr _ _ z0
                  have q2 := bwOf_cell wr _ _ z1
                  have hmin : min (keep : Int) (a1.size : Int) = (ma : Int) := by have := Hma.out; omega
                  have hml : ma ≤ a1.size := by have := Hma.out; omega
                  have kadd : ¬ 9223372036854775807 < a0.size + (a1.extract 0 ma).size := by rw [ByteArray.size_extract]; omega
                  go_wp2_with fail
                  refine wp_region_bw (w := wr) (by kernel_rfl) (by kernel_rfl) ?_
                  repeat (go_big_quiet_step ((go_at_call 23; exact below_of (all_h (HX.out.kept (bwOf_below _ _)) nB (by decide) HXB.out))))
                  refine wpQuiet_nil ?_
                  rintro w14 ⟨m14, rfl⟩
                  go_wp2
                  go_roundw
                  case rel => exact ⟨2, by omega, rfl, Lib.hid (HM.out.kept (bwOf_below _ m14)), Lib.hid (HX.out.kept (bwOf_below _ m14))⟩
                  case measure => simp [RowKit.intOf]
                · go_wp2_with fail
                  go_roundw
                  case rel => exact ⟨1, by omega, rfl, HM⟩
                  case measure => simp [RowKit.intOf]
            · obtain ⟨hl2, hxa, hxb⟩ := ch_fail (two a0 a1) (two b0 b1) keep true true
              have HXA : Hid (strB (((chE true (two a0 a1) (two b0 b1)).failM keep true).all nA) = b0 ++ b1.extract 0 mb) := by
                show _ = _
                rw [hxa]; exact two_left _ _ _ _ Hmb.out
              have HXB : Hid (strB (((chE true (two a0 a1) (two b0 b1)).failM keep true).all nB) = a0 ++ a1.extract 0 ma) := by
                show _ = _
                rw [hxb]; exact two_left _ _ _ _ Hma.out
              have HL2 := Lib.hid hl2
              clear hl2 hxa hxb
              go_wp2_with fail
              refine (fail_h HM.out.has keep true (by omega) rfl).mono ?_
              rintro e w9 ⟨dx, rfl, x9, b9⟩
              have X9 := Lib.hid x9
              have M9 := Lib.hid (HM.out.kept b9)
              clear x9 b9 HM
              go_wp2_with fail
              refine (list_h X9.out HL2.out).mono ?_
              rintro e w10 ⟨ao, cap, rfl, _, _, b10⟩
              have X10 := Lib.hid (X9.out.kept b10)
              have M10 := Lib.hid (M9.out.kept b10)
              clear b10 X9 M9
              go_wp2_with fail
              go_loopw [14] (fun i wr => ∃ k : Nat, k ≤ 2 ∧ i = .int .i64 k ∧ Hid (HasK W wr d (chE true (two a0 a1) (two b0 b1)) r #[.string nA, .string nB]) ∧ Hid (Has W wr dx ((chE true (two a0 a1) (two b0 b1)).failM keep true))) (fun i _ => 2 - (RowKit.intOf i).toNat)
              case atStart => exact ⟨0, by omega, rfl, M10, X10⟩
              case round =>
                clear M10 X10
                obtain ⟨i, hi2, rfl, HM, HX⟩ := hrel
                obtain rfl | rfl | rfl : i = 0 ∨ i = 1 ∨ i = 2 := by omega
                · have l0 : wr.cell? ⟨r, 0, none⟩ = some (.string nA) := HM.out.cell 0
                  obtain ⟨_, _, z0, z1⟩ := HZ.out _ HM.out.below
                  have q0 := bwOf_cell wr _ _ l0
                  have q1 := bwOf_cell wr _ _ z0
                  have q2 := bwOf_cell wr _ _ z1
                  have hmin : min (keep : Int) (b1.size : Int) = (mb : Int) := by have := Hmb.out; omega
                  have hml : mb ≤ b1.size := by have := Hmb.out; omega
                  have kadd : ¬ 9223372036854775807 < b0.size + (b1.extract 0 mb).size := by rw [ByteArray.size_extract]; omega
                  go_wp2_with fail
                  refine wp_region_bw (w := wr) (by kernel_rfl) (by kernel_rfl) ?_
                  repeat (go_big_quiet_step ((go_at_call 23; exact below_of (all_h (HX.out.kept (bwOf_below _ _)) nA (by decide) HXA.out))))
                  refine wpQuiet_nil ?_
                  rintro w14 ⟨m14, rfl⟩
                  go_wp2
                  go_roundw
                  case rel => exact ⟨1, by omega, rfl, Lib.hid (HM.out.kept (bwOf_below _ m14)), Lib.hid (HX.out.kept (bwOf_below _ m14))⟩
                  case measure => simp [RowKit.intOf]
                · have l0 : wr.cell? ⟨r, 1, none⟩ = some (.string nB) := HM.out.cell 1
                  obtain ⟨z0, z1, _, _⟩ := HZ.out _ HM.out.below
                  have q0 := bwOf_cell wr _ _ l0
                  have q1 := bwOf_cell wr _ _ z0
                  have q2 := bwOf_cell wr _ _ z1
                  have hmin : min (keep : Int) (a1.size : Int) = (ma : Int) := by have := Hma.out; omega
                  have hml : ma ≤ a1.size := by have := Hma.out; omega
                  have kadd : ¬ 9223372036854775807 < a0.size + (a1.extract 0 ma).size := by rw [ByteArray.size_extract]; omega
                  go_wp2_with fail
                  refine wp_region_bw (w := wr) (by kernel_rfl) (by kernel_rfl) ?_
                  repeat (go_big_quiet_step ((go_at_call 23; exact below_of (all_h (HX.out.kept (bwOf_below _ _)) nB (by decide) HXB.out))))
                  refine wpQuiet_nil ?_
                  rintro w14 ⟨m14, rfl⟩
                  go_wp2
                  go_roundw
                  case rel => exact ⟨2, by omega, rfl, Lib.hid (HM.out.kept (bwOf_below _ m14)), Lib.hid (HX.out.kept (bwOf_below _ m14))⟩
                  case measure => simp [RowKit.intOf]
                · go_wp2_with fail
                  go_roundw
                  case rel => exact ⟨2, by omega, rfl, HM⟩
                  case measure => simp [RowKit.intOf]
            · obtain ⟨_, hxa, hxb⟩ := ch_end (two a0 a1) (two b0 b1) true
              have HXA : Hid (strB ((chE true (two a0 a1) (two b0 b1)).all nA) = b0 ++ b1) := by
                show _ = _
                rw [hxa]; exact two_bytes _ _
              have HXB : Hid (strB ((chE true (two a0 a1) (two b0 b1)).all nB) = a0 ++ a1) := by
                show _ = _
                rw [hxb]; exact two_bytes _ _
              clear hxa hxb
              obtain ⟨z0, z1, z2, z3⟩ := HZ.out _ HM.out.below
              have q0 := bwOf_cell wr _ _ z0
              have q1 := bwOf_cell wr _ _ z1
              have q2 := bwOf_cell wr _ _ z2
              have q3 := bwOf_cell wr _ _ z3
              have kadd : ¬ 9223372036854775807 < a0.size + a1.size := by omega
              have kadd2 : ¬ 9223372036854775807 < b0.size + b1.size := by omega
              go_wp2_with fail
              refine wp_region_bw (w := wr) (by kernel_rfl) (by kernel_rfl) ?_
              iterate 4 (go_big_quiet_step ((go_at_call 23; exact below_of (all_h (HM.out.has.kept (bwOf_below _ _)) nA (by decide) HXA.out))))
              repeat (go_big_quiet_step ((go_at_call 23; exact below_of (all_h (HM.out.has.kept (bwOf_below _ _)) nB (by decide) HXB.out))))
              refine wpQuiet_nil ?_
              rintro w14 ⟨m14, rfl⟩
              go_wp2
              go_ret
              exact ⟨rfl, HEND.out _ (HM.out.kept (bwOf_below _ m14)).below⟩
theorem walk_FilesChange (a0 a1 b0 b1 : ByteArray) (ha0 : a0.size ≤ 140737488351232) (ha1 : a1.size ≤ 140737488351232) (hb0 : b0.size ≤ 140737488351232) (hb1 : b1.size ≤ 140737488351232) (sure : Bool) (c : Int) (hc : (Lit.int .u8 c).wf = true) (w : World) :
    Calls Try.prog 6 #[.agg #[.string a0, .string a1, .string b0, .string b1], .bool sure, .int .u8 c] w fun e w' => e = .returned (.bool true) ∧ Below w.heap.size w w' := by
  have h1 := wf_u8 hc
  obtain ⟨c, rfl⟩ := Int.eq_ofNat_of_zero_le h1.1
  exact walkN_FilesChange a0 a1 b0 b1 sure c (by omega) ha0 ha1 hb0 hb1 w
end Go.Proofs.Ytdeggklfjdgfjaa
