/-
  WHAT IS PROVED: the walk of FilesAnew.
-/
import Derived.Test.YtdeggklfjdgfjaaLInstead
namespace Go.Proofs.Ytdeggklfjdgfjaa
open Go.RowKit Go.Lib

def anA : DiskM := ⟨20000, [(⟨#[120]⟩, 0)], [], [⟨[], 0⟩]⟩
def anB (o : List Nat) : DiskM := ⟨20000, [(⟨#[120]⟩, 0)], [], [⟨o, 0⟩]⟩
def anC (o : List Nat) : DiskM := ⟨20000, [(⟨#[120]⟩, 0)], [], [⟨o, o.length⟩]⟩
def anD (o : List Nat) : DiskM := ⟨20000, [(⟨#[120]⟩, 0)], [(⟨#[120]⟩, 0)], [⟨o, o.length⟩]⟩
def anE (o : List Nat) : DiskM := ⟨20000, [], [(⟨#[120]⟩, 0)], [⟨o, o.length⟩]⟩
def anF (o : List Nat) : DiskM := ⟨20000, [(⟨#[120]⟩, 1)], [(⟨#[120]⟩, 0)], [⟨o, o.length⟩, ⟨[], 0⟩]⟩
def anG (o n : List Nat) : DiskM := ⟨20000, [(⟨#[120]⟩, 1)], [(⟨#[120]⟩, 0)], [⟨o, o.length⟩, ⟨n, 0⟩]⟩

theorem an_a : (newM 20000).createE ⟨#[120]⟩ = 0 ∧ (newM 20000).createM ⟨#[120]⟩ = anA := ⟨by kernel_rfl, by kernel_rfl⟩
theorem an_b (o : List Nat) (h : o.length ≤ 20000) : anA.appendE ⟨#[120]⟩ o.length = 0 ∧ anA.appendM ⟨#[120]⟩ o = anB o :=
  append_eq anA _ o 0 ⟨[], 0⟩ (by kernel_rfl) (by kernel_rfl) rfl (by show o.length ≤ 20000 - 0; omega) (by show 0 + o.length ≤ _; omega)
theorem an_c (o : List Nat) : (anB o).miss ⟨#[120]⟩ = 0 ∧ (anB o).syncM ⟨#[120]⟩ = anC o := ⟨by kernel_rfl, by kernel_rfl⟩
theorem an_d (o : List Nat) : (anC o).namesM = anD o := rfl
theorem an_e (o : List Nat) : (anD o).miss ⟨#[120]⟩ = 0 ∧ (anD o).removeM ⟨#[120]⟩ = anE o := ⟨by kernel_rfl, by kernel_rfl⟩
theorem an_f (o : List Nat) : (anE o).createE ⟨#[120]⟩ = 0 ∧ (anE o).createM ⟨#[120]⟩ = anF o := ⟨by kernel_rfl, by kernel_rfl⟩
theorem an_f2 (o : List Nat) : (anF o).left = 20000 := by kernel_rfl
theorem an_g (o n : List Nat) (h : n.length ≤ 20000) : (anF o).appendE ⟨#[120]⟩ n.length = 0 ∧ (anF o).appendM ⟨#[120]⟩ n = anG o n :=
  append_eq (anF o) _ n 1 ⟨[], 0⟩ (by kernel_rfl) (by kernel_rfl) rfl (by show n.length ≤ 20000 - 0; omega) (by show 0 + n.length ≤ _; omega)
theorem an_g2 (o n : List Nat) : (anG o n).left = 20000 - n.length := by show 20000 - (n.length + 0) = _; omega
theorem an_x (o n : List Nat) (keep : Nat) : ((anG o n).failM keep false).all ⟨#[120]⟩ = o := by
  have : ((anG o n).failM keep false).all ⟨#[120]⟩ = ((⟨o, o.length⟩ : FileM).left keep).bytes := by kernel_rfl
  rw [this, left_all]
theorem an_y (o n : List Nat) (keep : Nat) : ((anG o n).failM keep true).all ⟨#[120]⟩ = n.take keep := by
  have : ((anG o n).failM keep true).all ⟨#[120]⟩ = ((⟨n, 0⟩ : FileM).left keep).bytes := by kernel_rfl
  rw [this]
  show n.take (0 + keep) = _
  rw [Nat.zero_add]

theorem take_extract (s : ByteArray) (k : Nat) : strB ((strN s).take k) = s.extract 0 (min k s.size) := by
  have h : (strN s).take k = strN (s.extract 0 (min k s.size)) := by
    unfold strN
    rw [← List.map_take]
    congr 1
    have hs : s.data.toList.length = s.size := Array.length_toList
    simp
  rw [h, strB_of]

set_option maxRecDepth 100000 in
set_option maxHeartbeats 8000000 in
theorem walkN_FilesAnew (so sn : ByteArray) (keep : Nat) (hk : keep < 256) (hso : so.size ≤ 140737488351232) (hsn : sn.size ≤ 140737488351232) (w : World) :
    Calls Try.prog 5 #[.agg #[.string so, .string sn], .int .u8 (keep : Int)] w fun e w' => e = .returned (.bool true) ∧ Below w.heap.size w w' := by
  obtain ⟨W, hW⟩ : ∃ W, W = w.alloc (.cells #[.string so, .string sn] 53) := ⟨_, rfl⟩
  have hz : ∀ wk, Below W.heap.size W wk → wk.cell? ⟨w.heap.size, 0, none⟩ = some (.string so) ∧ wk.cell? ⟨w.heap.size, 1, none⟩ = some (.string sn) := by
    intro wk hb
    have hh : wk.heap[w.heap.size]? = some (.cells #[.string so, .string sn] 53 (0, 0)) := by
      rw [hb.block w.heap.size (by rw [hW]; simp), hW]; exact heap_alloc_new w _
    exact ⟨cell_of_block hh 0, cell_of_block hh 1⟩
  have HZ := Lib.hid hz
  have hend : ∀ wk, Below W.heap.size W wk → Below w.heap.size w wk := fun wk hb => by rw [hW] at hb; exact below_alloc_trans hb
  have HEND := Lib.hid hend
  have hcv := fun (w : World) (s : ByteArray) => run_bytes_of_string (P := Try.prog) w 9 22 5 s Try.underlying9 Try.underlying22 Try.underlying5
  have HCV := Lib.hid hcv
  clear hz hend hcv
  by_cases hbig : 20000 < so.size + sn.size
  · go_enter Try.func5, Try.ntmps5
    go_wp2_with fail
    rw [← hW]
    refine (alive_yes W).mono ?_
    rintro e w1 ⟨rfl, b1⟩
    have B1 := Lib.hid b1
    obtain ⟨z0, z1⟩ := HZ.out _ b1
    clear b1
    go_wp2_with fail
    refine (alive_yes w1).mono ?_
    rintro e w2 ⟨rfl, b2⟩
    have B2 := Lib.hid (below_next B1.out b2)
    clear b2
    go_wp2
    go_ret
    exact ⟨rfl, HEND.out _ B2.out⟩
  · have hoN : (strN so).length = so.size := strN_length so
    have hnN : (strN sn).length = sn.size := strN_length sn
    have HON := Lib.hid hoN
    have HNN := Lib.hid hnN
    have hss : so.size ≤ 20000 := by omega
    have hss2 : sn.size ≤ 20000 := by omega
    clear hoN hnN hso hsn
    go_enter Try.func5, Try.ntmps5
    go_wp2_with fail
    rw [← hW]
    refine (alive_yes W).mono ?_
    rintro e w1 ⟨rfl, b1⟩
    have B1 := Lib.hid b1
    obtain ⟨z0, z1⟩ := HZ.out _ b1
    clear b1 hW
    go_wp2_with fail
    refine (new_h (M := newM 20000) 20000 W w1 B1.out (by omega) (by omega) rfl).mono ?_
    rintro e w2 ⟨d, rfl, h2, _⟩
    have H2 := Lib.hid h2
    clear h2 z0 z1
    go_wp2_with fail
    refine (create_h H2.out ⟨#[120]⟩ (by decide) (k := 0) (by rw [an_a.1]; rfl) an_a.2).mono ?_
    rintro e w3 ⟨rfl, h3⟩
    have H3 := Lib.hid h3
    obtain ⟨z0, z1⟩ := HZ.out _ h3.below
    clear h3
    have hcv := fun (w : World) => HCV.out w so
    go_wp2_with fail
    refine (append_h (H3.out.alloc _).drew ⟨#[120]⟩ (by decide) _ _ _ (strN so) (row_of_str w3 so (by omega)).drew (k := 0) (M' := anB (strN so)) (by rw [← HON.out, (an_b _ (by have := HON.out; omega)).1]; rfl) (an_b _ (by have := HON.out; omega)).2).mono ?_
    rintro e w4 ⟨rfl, h4⟩
    have H4 := Lib.hid h4
    clear h4 hcv z0 z1
    go_wp2_with fail
    refine (sync_h H4.out ⟨#[120]⟩ (by decide) (k := 0) (M' := anC (strN so)) (by rw [(an_c _).1]; rfl) (an_c _).2).mono ?_
    rintro e w5 ⟨rfl, h5⟩
    have H5 := Lib.hid h5
    clear h5
    go_wp2_with fail
    refine (names_h H5.out (M' := anD (strN so)) (an_d _)).mono ?_
    rintro e w6 ⟨rfl, h6⟩
    have H6 := Lib.hid h6
    clear h6
    have hcv := fun (w : World) => HCV.out w sn
    obtain ⟨z0, z1⟩ := HZ.out _ H6.out.below
    have mixed : Try.prog.follows .mixedOrders = true := by kernel_rfl
    have hwr : IntKind.i64.wrap (20000 - (sn.size : Int)) = 20000 - (sn.size : Int) := by rw [IntKind.wrap_i64]; omega
    go_wp2_with fail
    go_region_with ((first
      | (go_at_call 16; refine (remove_h H6.out.drew ⟨#[120]⟩ (by decide) (k := 0) (M' := anE (strN so)) (by rw [(an_e _).1]; rfl) (an_e _).2).mono ?_; rintro e w7 ⟨rfl, h7⟩; have H7 := Lib.hid h7; clear h7)
      | (go_at_call 15; refine (create_h H7.out ⟨#[120]⟩ (by decide) (k := 0) (M' := anF (strN so)) (by rw [(an_f _).1]; rfl) (an_f _).2).mono ?_; rintro e w8 ⟨rfl, h8⟩; have H8 := Lib.hid h8; clear h8)
      | (go_at_call 14; guard_hyp H10; refine (room_h H10.out (k := 20000 - (sn.size : Int)) (by rw [an_g2, HNN.out]; omega)).mono ?_; rintro e w11 ⟨rfl, b11⟩; have H11 := Lib.hid (H10.out.kept b11); obtain ⟨z0, z1⟩ := HZ.out _ H11.out.below; clear b11)
      | (go_at_call 14; refine (room_h H8.out (k := 20000) (by rw [an_f2]; rfl)).mono ?_; rintro e w9 ⟨rfl, b9⟩; have H9 := Lib.hid (H8.out.kept b9); clear z0 z1; obtain ⟨z0, z1⟩ := HZ.out _ H9.out.below; clear b9)
      | (go_at_call 18; refine (append_h (H9.out.alloc _).drew ⟨#[120]⟩ (by decide) _ _ _ (strN sn) (row_of_str _ sn (by omega)).drew (k := 0) (M' := anG (strN so) (strN sn)) (by rw [← HNN.out, (an_g _ _ (by have := HNN.out; omega)).1]; rfl) (an_g _ _ (by have := HNN.out; omega)).2).mono ?_; rintro e w10 ⟨rfl, h10⟩; have H10 := Lib.hid h10; clear z0 z1; obtain ⟨z0, z1⟩ := HZ.out _ h10.below; clear h10)))
    all_goals
      clear hwr
      go_wp2_with fail
      refine (fail_h H11.out keep false (by omega) rfl).mono ?_
      rintro e w12 ⟨dx, rfl, x12, b12⟩
      have X12 := Lib.hid x12
      have H12 := Lib.hid (H11.out.kept b12)
      clear x12 b12
      go_wp2_with fail
      refine (fail_h H12.out keep true (by omega) rfl).mono ?_
      rintro e w13 ⟨dy, rfl, y13, b13⟩
      have Y13 := Lib.hid y13
      have X13 := Lib.hid (X12.out.kept b13)
      clear z0 z1
      obtain ⟨z0, z1⟩ := HZ.out _ y13.below
      have q0 := bwOf_cell w13 _ _ z0
      have q1 := bwOf_cell w13 _ _ z1
      obtain ⟨m, hm⟩ : ∃ m, m = min keep sn.size := ⟨_, rfl⟩
      have hmin : min (keep : Int) (sn.size : Int) = (m : Int) := by omega
      have hml : m ≤ sn.size := by omega
      have HY : Hid (strB (((anG (strN so) (strN sn)).failM keep true).all ⟨#[120]⟩) = sn.extract 0 m) := by
        show _ = _
        rw [an_y, hm, take_extract]
      clear y13 b13 z0 z1 hm
      go_wp2_with fail
      refine wp_region_bw (w := w13) (by kernel_rfl) (by kernel_rfl) ?_
      repeat (go_big_quiet_step ((first | (go_at_call_of 23 (Value.pointer (some ⟨dx, 0, none⟩)); exact below_of (all_h (X13.out.kept (bwOf_below _ _)) ⟨#[120]⟩ (by decide) (s := so) (by rw [an_x, strB_of]))) | (go_at_call_of 23 (Value.pointer (some ⟨dy, 0, none⟩)); exact below_of (all_h (Y13.out.kept (bwOf_below _ _)) ⟨#[120]⟩ (by decide) HY.out)))))
      refine wpQuiet_nil ?_
      rintro w14 ⟨m14, rfl⟩
      go_wp2
      go_ret
      exact ⟨rfl, HEND.out _ (Y13.out.kept (bwOf_below _ m14)).below⟩
theorem walk_FilesAnew (so sn : ByteArray) (hso : so.size ≤ 140737488351232) (hsn : sn.size ≤ 140737488351232) (c : Int) (hc : (Lit.int .u8 c).wf = true) (w : World) :
    Calls Try.prog 5 #[.agg #[.string so, .string sn], .int .u8 c] w fun e w' => e = .returned (.bool true) ∧ Below w.heap.size w w' := by
  have h1 := wf_u8 hc
  obtain ⟨c, rfl⟩ := Int.eq_ofNat_of_zero_le h1.1
  exact walkN_FilesAnew so sn c (by omega) hso hsn w
end Go.Proofs.Ytdeggklfjdgfjaa
