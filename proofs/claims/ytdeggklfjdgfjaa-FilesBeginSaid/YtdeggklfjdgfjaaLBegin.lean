/-
  WHAT IS PROVED: the walk of FilesBegin.
-/
import Derived.Test.YtdeggklfjdgfjaaBegPure
import Derived.Test.YtdeggklfjdgfjaaLAnew
namespace Go.Proofs.Ytdeggklfjdgfjaa
open Go.RowKit Go.Lib

set_option maxRecDepth 100000 in
set_option maxHeartbeats 8000000 in
theorem walkN_FilesBegin (ao : Option Addr) (n cap : Nat) (l : List ActM) (w : World) (hr : RowAct w ao n cap l) (k0 k1 : Nat) (hk0 : k0 < 256) (hk1 : k1 < 256) :
    Calls Try.prog 8 #[.slice ao n cap, .agg #[.int .u8 (k0 : Int), .int .u8 (k1 : Int)]] w fun e w' => e = .returned (.bool true) ∧ Below w.heap.size w w' := by
  obtain ⟨W, hW⟩ : ∃ W, W = w.alloc (.cells #[.int .u8 (k0 : Int), .int .u8 (k1 : Int)] 60) := ⟨_, rfl⟩
  have hz : ∀ wk, Below W.heap.size W wk → wk.cell? ⟨w.heap.size, 0, none⟩ = some (.int .u8 (k0 : Int)) ∧ wk.cell? ⟨w.heap.size, 1, none⟩ = some (.int .u8 (k1 : Int)) := by
    intro wk hb
    have hh : wk.heap[w.heap.size]? = some (.cells #[.int .u8 (k0 : Int), .int .u8 (k1 : Int)] 60 (0, 0)) := by
      rw [hb.block w.heap.size (by rw [hW]; simp), hW]; exact heap_alloc_new w _
    exact ⟨cell_of_block hh 0, cell_of_block hh 1⟩
  have HZ := Lib.hid hz
  have hend : ∀ wk, Below W.heap.size W wk → Below w.heap.size w wk := fun wk hb => by rw [hW] at hb; exact below_alloc_trans hb
  have HEND := Lib.hid hend
  have hrW : RowAct W ao n cap l := by rw [hW]; exact hr.kept (below_alloc w _)
  have hroom := hr.room
  have hmost := hr.most
  clear hz hend hr
  go_enter Try.func8, Try.ntmps8
  go_wp2_with fail
  rw [← hW]
  refine (done_any ao n cap l W hrW).mono ?_
  clear hrW hW
  rintro e w1 (⟨rfl, b1⟩ | ⟨d, M, rfl, hM, h1⟩)
  · have B1 := Lib.hid b1
    clear b1
    go_wp2_with fail
    refine (alive_yes w1).mono ?_
    rintro e w2 ⟨rfl, b2⟩
    have B2 := Lib.hid (below_next B1.out b2)
    clear b2
    go_wp2_with fail
    refine (alive_yes w2).mono ?_
    rintro e w3 ⟨rfl, b3⟩
    have B3 := Lib.hid (below_next B2.out b3)
    clear b3
    go_wp2
    go_ret
    exact ⟨rfl, HEND.out _ B3.out⟩
  · have H1 := Lib.hid h1
    have HF := Lib.hid h1.fine
    clear h1
    go_wp2_with fail
    refine (alive_yes w1).mono ?_
    rintro e w2 ⟨rfl, b2⟩
    have H2 := Lib.hid (H1.out.kept b2)
    obtain ⟨z0, z1⟩ := HZ.out _ H2.out.below
    clear b2 H1
    go_wp2_with fail
    refine (fail_h H2.out k0 true (by omega) rfl).mono ?_
    rintro e w3 ⟨c, rfl, x3, b3⟩
    have X3 := Lib.hid x3
    have H3 := Lib.hid (H2.out.kept b3)
    have XF := Lib.hid x3.fine
    clear x3 b3 H2 z0 z1
    obtain ⟨ns, hns⟩ : ∃ ns, M.now.map (·.1) = ns := ⟨_, rfl⟩
    have HNS := Lib.hid hns
    clear hns
    go_wp2_with fail
    refine (list_h X3.out ((fail_names M k0).trans HNS.out)).mono ?_
    rintro e w4 ⟨a4, c4, rfl, r4, _, b4⟩
    have R4 := Lib.hid r4
    have X4 := Lib.hid (X3.out.kept b4)
    have H4 := Lib.hid (H3.out.kept b4)
    clear r4 b4 X3 H3
    go_wp2_with fail
    refine (list_h H4.out HNS.out).mono ?_
    rintro e w5 ⟨a5, c5, rfl, r5, _, b5⟩
    have R5 := Lib.hid r5
    have R45 := Lib.hid (R4.out.kept b5)
    have X5 := Lib.hid (X4.out.kept b5)
    have H5 := Lib.hid (H4.out.kept b5)
    clear r5 b5 X4 H4 R4
    go_wp2_with fail
    refine (sameTexts_same _ _ _ _ _ ns w5 R45.out R5.out).mono ?_
    rintro e w6 ⟨rfl, b6⟩
    have X6 := Lib.hid (X5.out.kept b6)
    have H6 := Lib.hid (H5.out.kept b6)
    obtain ⟨z0, z1⟩ := HZ.out _ H6.out.below
    clear b6 X5 H5 R5 R45
    go_wp2_with fail
    refine (fail_h X6.out k1 _ (by omega) rfl).mono ?_
    rintro e w7 ⟨o, rfl, y7, b7⟩
    have Y7 := Lib.hid y7
    have X7 := Lib.hid (X6.out.kept b7)
    have H7 := Lib.hid (H6.out.kept b7)
    clear y7 b7 X6 H6 z0 z1
    go_wp2_with fail
    refine (list_h Y7.out ((fail_names2 M k0 k1 _).trans HNS.out)).mono ?_
    rintro e w8 ⟨a8, c8, rfl, r8, _, b8⟩
    have R8 := Lib.hid r8
    have Y8 := Lib.hid (Y7.out.kept b8)
    have X8 := Lib.hid (X7.out.kept b8)
    have H8 := Lib.hid (H7.out.kept b8)
    clear r8 b8 X7 H7 Y7
    go_wp2_with fail
    refine (list_h X8.out ((fail_names M k0).trans HNS.out)).mono ?_
    rintro e w9 ⟨a9, c9, rfl, r9, _, b9⟩
    have R9 := Lib.hid r9
    have R89 := Lib.hid (R8.out.kept b9)
    have Y9 := Lib.hid (Y8.out.kept b9)
    have X9 := Lib.hid (X8.out.kept b9)
    have H9 := Lib.hid (H8.out.kept b9)
    clear r9 b9 X8 H8 Y8 R8
    go_wp2_with fail
    refine (sameTexts_same _ _ _ _ _ ns w9 R89.out R9.out).mono ?_
    rintro e w10 ⟨rfl, b10⟩
    have X10 := Lib.hid (X9.out.kept b10)
    have H10 := Lib.hid (H9.out.kept b10)
    have Y10 := Lib.hid (Y9.out.kept b10)
    clear b10 X9 H9 Y9 R9 R89
    go_wp2_with fail
    refine (list_h X10.out ((fail_names M k0).trans HNS.out)).mono ?_
    rintro e w11 ⟨an, cn, rfl, rn, _, b11⟩
    have RN := Lib.hid rn
    have Y11 := Lib.hid (Y10.out.kept b11)
    have X11 := Lib.hid (X10.out.kept b11)
    have H11 := Lib.hid (H10.out.kept b11)
    have hcn := rn.room
    have hcm := rn.most
    clear rn b11 X10 H10 Y10
    go_wp2_with fail
    go_loopw [10] (fun i wr => ∃ k : Nat, k ≤ ns.length ∧ i = .int .i64 k ∧ Hid (Below w11.heap.size w11 wr)) (fun i _ => ns.length - (RowKit.intOf i).toNat)
    case atStart => exact ⟨0, by omega, rfl, Lib.hid (Below.refl _ _)⟩
    case round =>
      obtain ⟨k, hkn, rfl, HB⟩ := hrel
      by_cases hlt : k < ns.length
      · obtain ⟨e0, he0⟩ : ∃ e, M.now[k]? = some e := ⟨M.now[k]'(by have := HNS.out; rw [← this] at hlt; simpa using hlt), by simp⟩
        have hnk : ns[k]? = some e0.1 := by rw [← HNS.out, List.getElem?_map, he0]; rfl
        have hsz : e0.1.size ≤ 4294967296 := by have := (name_at M HF.out k e0 he0).2.2.2; omega
        have Y12 := Lib.hid (Y11.out.kept HB.out)
        have X12 := Lib.hid (X11.out.kept HB.out)
        have H12 := Lib.hid (H11.out.kept HB.out)
        have hA := all_at M HF.out k e0 he0
        have hB := (all_at _ X12.out.fine k (e0.1, k) (fail_at M k0 k e0 he0).1).trans (congrArg FileM.bytes (fail_at M k0 k e0 he0).2)
        have hO := ((all_at _ Y12.out.fine k (e0.1, k) (fail_again M k0 k1 _ k e0 he0).1).trans (congrArg FileM.bytes (fail_again M k0 k1 _ k e0 he0).2)).trans (left_left _ _ _)
        have hL : ((M.file e0.2).left k0).bytes = (M.file e0.2).bytes.take ((M.file e0.2).sure + k0) := rfl
        rw [hL] at hB hO
        have hmost1 := (name_at M HF.out k e0 he0).2.2.1
        obtain ⟨sa, hsa⟩ : ∃ s, s = strB (M.file e0.2).bytes := ⟨_, rfl⟩
        obtain ⟨sb, hsb⟩ : ∃ s, s = strB ((M.file e0.2).bytes.take ((M.file e0.2).sure + k0)) := ⟨_, rfl⟩
        have hext : sa.extract 0 sb.size = sb := by rw [hsa, hsb]; exact strB_take _ _
        have hs1 : sa.size = (M.file e0.2).bytes.length := by rw [hsa, strB_size']
        have hs2 : sb.size = min ((M.file e0.2).sure + k0) (M.file e0.2).bytes.length := by rw [hsb, strB_size', List.length_take]
        have HA : Hid (strB (M.all e0.1) = sa) := by show _ = _; rw [hA, hsa]
        have HBb : Hid (strB ((M.failM k0 true).all e0.1) = sb) := by show _ = _; rw [hB, hsb]
        have HO := Lib.hid ((congrArg strB hO).trans hsb.symm)
        have hle1 : sb.size ≤ sa.size := by omega
        have hle2 : min sa.size k0 ≤ sb.size := by omega
        have hle3 : sa.size ≤ 1048576 := by omega
        clear hA hB hO hL hsa hsb hs1 hs2
        obtain ⟨bn, on, rfl, hcell⟩ := (RN.out.kept HB.out).lies (by omega)
        have z0 : wr.cell? ⟨bn, on + k, none⟩ = some (.string e0.1) := hcell k _ hnk
        clear hcell
        go_wp2_with fail
        refine (all_h H12.out e0.1 hsz HA.out).mono ?_
        rintro e w13 ⟨rfl, b13⟩
        have B13 := Lib.hid b13
        have z1 := cell_kept z0 b13
        clear b13 z0
        go_wp2_with fail
        refine (all_h (X12.out.kept B13.out) e0.1 hsz HBb.out).mono ?_
        rintro e w14 ⟨rfl, b14⟩
        have B14 := Lib.hid (below_next B13.out b14)
        have z2 := cell_kept z1 b14
        clear b14 z1
        have q2 := bwOf_cell w14 _ _ z2
        obtain ⟨y0, y1⟩ := HZ.out _ (H12.out.kept B14.out).below
        have q3 := bwOf_cell w14 _ _ y0
        go_wp2_with fail
        refine (all_h (Y12.out.kept B14.out) e0.1 hsz HO.out).mono ?_
        rintro e w15 ⟨rfl, b15⟩
        have B15 := Lib.hid b15
        clear b15
        go_wp2_with fail
        go_roundw
        case rel => exact ⟨k + 1, by omega, by go_num, Lib.hid (below_next HB.out (below_next B14.out B15.out))⟩
        case measure => simp [RowKit.intOf]; omega
      · obtain rfl : k = ns.length := by omega
        go_wp2_with fail
        go_ret
        exact ⟨rfl, HEND.out _ (H11.out.kept HB.out).below⟩
theorem walk_FilesBegin (ao : Option Addr) (n cap : Nat) (l : List ActM) (w : World) (hr : RowAct w ao n cap l) (c0 c1 : Int) (h0 : (Lit.int .u8 c0).wf = true) (h1 : (Lit.int .u8 c1).wf = true) :
    Calls Try.prog 8 #[.slice ao n cap, .agg #[.int .u8 c0, .int .u8 c1]] w fun e w' => e = .returned (.bool true) ∧ Below w.heap.size w w' := by
  have k0 := wf_u8 h0
  have k1 := wf_u8 h1
  obtain ⟨c0, rfl⟩ := Int.eq_ofNat_of_zero_le k0.1
  obtain ⟨c1, rfl⟩ := Int.eq_ofNat_of_zero_le k1.1
  exact walkN_FilesBegin ao n cap l w hr c0 c1 (by omega) (by omega)
end Go.Proofs.Ytdeggklfjdgfjaa
