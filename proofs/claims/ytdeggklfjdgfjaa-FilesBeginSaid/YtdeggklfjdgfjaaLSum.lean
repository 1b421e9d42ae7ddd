/-
  WHAT IS PROVED: the walk of FilesSum.
-/
import Derived.Test.YtdeggklfjdgfjaaDone
import Derived.Test.YtdeggklfjdgfjaaAlive2
namespace Go.Proofs.Ytdeggklfjdgfjaa
open Go.RowKit Go.Lib

/-- what the first k names have -/
def DiskM.has (M : DiskM) (k : Nat) : Nat := ((M.now.take k).map fun e => (M.file e.2).bytes.length).sum
theorem has_next (M : DiskM) (k : Nat) (e : ByteArray × Nat) (h : M.now[k]? = some e) : M.has (k + 1) = M.has k + (M.file e.2).bytes.length := by
  unfold DiskM.has
  rw [List.take_add_one, h]
  simp
theorem name_at (M : DiskM) (hf : M.Fine) (k : Nat) (e : ByteArray × Nat) (h : M.now[k]? = some e) : M.miss e.1 = 0 ∧ M.sizeN e.1 = (M.file e.2).bytes.length ∧ (M.file e.2).bytes.length ≤ 1048576 ∧ e.1.size ≤ 16 := by
  have hm := List.mem_of_getElem? h
  obtain ⟨h1, h2⟩ := hf.id e (.inl hm)
  obtain ⟨h3, h4⟩ := place_at hf.rise.1 h
  have h5 : M.miss e.1 = 0 := by unfold DiskM.miss; rw [h2, h4]; rfl
  have h6 : M.of e.1 = e.2 := by unfold DiskM.of; rw [h3]; simp [List.getD, h]
  refine ⟨h5, by unfold DiskM.sizeN; rw [if_pos h5, h6], ?_, by simp [okName] at h2; omega⟩
  unfold DiskM.file
  have : M.files[e.2]? = some M.files[e.2] := by simp [h1]
  simp only [List.getD, this, Option.getD_some]
  exact (hf.file _ (List.getElem_mem h1)).2.1
theorem has_le (M : DiskM) (hf : M.Fine) (k : Nat) (hk : k ≤ M.now.length) : M.has k ≤ k * 1048576 := by
  induction k with
  | zero => simp [DiskM.has]
  | succ k ih =>
    have h : M.now[k]? = some M.now[k] := by simp
    have := name_at M hf k _ h
    rw [has_next M k _ h]
    have := ih (by omega)
    omega
theorem has_all (M : DiskM) : M.has M.now.length = M.used := by unfold DiskM.has DiskM.used; rw [List.take_length]
theorem rise_names (M : DiskM) (hf : M.Fine) (k : Nat) (a b : ByteArray × Nat) (ha : M.now[k]? = some a) (hb : M.now[k + 1]? = some b) : cmpS a.1 b.1 < 0 := rise_get hf.rise.1 (by omega) ha hb

theorem less_of_cmp : ∀ (a b : List UInt8), compareBytes a b < 0 → Op.bytesLess a b = true
  | [], [], h => by simp [compareBytes] at h
  | [], _ :: _, _ => rfl
  | _ :: _, [], h => by simp [compareBytes] at h
  | x :: a, y :: b, h => by
    rw [compareBytes] at h
    unfold Op.bytesLess
    split at h
    · rename_i h1; simp [h1]
    · split at h
      · simp at h
      · rename_i h1 h2
        have : x = y := UInt8.le_antisymm (UInt8.not_lt.1 h2) (UInt8.not_lt.1 h1)
        subst this
        simp [less_of_cmp a b h]
theorem less_names (a b : ByteArray) (h : cmpS a b < 0) : Op.bytesLess a.toList b.toList = true := by
  rw [ByteArray.toList_eq, ByteArray.toList_eq]; exact less_of_cmp _ _ h
theorem left_is (M : DiskM) (h : M.size = 1000000) : ((M.left : Nat) : Int) = max 0 (1000000 - (M.has M.now.length : Int)) := by
  rw [has_all]; unfold DiskM.left; rw [h]; omega

theorem Has.fine {w0 w : World} {d : Nat} {M : DiskM} (h : Has w0 w d M) : M.Fine := by obtain ⟨L, _, h, _⟩ := h; exact h.fine

theorem cell_kept {w w' : World} {a : Addr} {v : Value} (h : w.cell? a = some v) (hb : Below w.heap.size w w') : w'.cell? a = some v := (hb.cell (World.block_lt_of_cell? w a h)).trans h

set_option maxRecDepth 100000 in
set_option maxHeartbeats 8000000 in
theorem walkN_FilesSum (ao : Option Addr) (n cap : Nat) (l : List ActM) (w : World) (hr : RowAct w ao n cap l) (keep : Nat) (hk : keep < 256) (names : Bool) :
    Calls Try.prog 7 #[.slice ao n cap, .int .u8 (keep : Int), .bool names] w fun e w' => e = .returned (.bool true) ∧ Below w.heap.size w w' := by
  have hroom := hr.room
  have hmost := hr.most
  go_enter Try.func7, Try.ntmps7
  go_wp2_with fail
  refine (done_any ao n cap l w hr).mono ?_
  clear hr
  rintro e w1 (⟨rfl, b1⟩ | ⟨d, M, rfl, hM, h1⟩)
  · have B1 := Lib.hid b1
    clear b1
    go_wp2_with fail
    refine (alive_yes w1).mono ?_
    rintro e w2 ⟨rfl, b2⟩
    have B2 := Lib.hid (below_next B1.out b2)
    clear b2
    go_wp2_with fail
    refine (alive_yes w2).mono ?_
    rintro e w3 ⟨rfl, b3⟩
    have B3 := Lib.hid (below_next B2.out b3)
    clear b3
    go_wp2
    go_ret
    exact ⟨rfl, B3.out⟩
  · have H1 := Lib.hid h1
    have HF := Lib.hid h1.fine
    clear h1
    go_wp2_with fail
    refine (alive_yes w1).mono ?_
    rintro e w2 ⟨rfl, b2⟩
    have H2 := Lib.hid (H1.out.kept b2)
    clear b2 H1
    go_wp2_with fail
    refine (fail_h H2.out keep names (by omega) rfl).mono ?_
    rintro e w3 ⟨c, rfl, x3, b3⟩
    have X3 := Lib.hid x3
    have H3 := Lib.hid (H2.out.kept b3)
    have XF := Lib.hid x3.fine
    clear x3 b3 H2
    have hM2 : (M.failM keep names).size = 1000000 := hM
    generalize M.failM keep names = M' at *
    go_wp2_with fail
    obtain ⟨r, hr⟩ : ∃ r, r = w3.heap.size := ⟨_, rfl⟩
    rw [← hr]
    obtain ⟨w4, hw4⟩ : ∃ w4, w4 = w3.alloc (Obj.cells #[.pointer (some ⟨d, 0, none⟩), .pointer (some ⟨c, 0, none⟩)] 29) := ⟨_, rfl⟩
    have hR4 : w4.cell? ⟨r, 0, none⟩ = some (.pointer (some ⟨d, 0, none⟩)) ∧ w4.cell? ⟨r, 1, none⟩ = some (.pointer (some ⟨c, 0, none⟩)) := by
      have hh := heap_alloc_new w3 (Obj.cells #[.pointer (some ⟨d, 0, none⟩), .pointer (some ⟨c, 0, none⟩)] 29)
      rw [← hw4, ← hr] at hh
      exact ⟨cell_of_block hh 0, cell_of_block hh 1⟩
    have HR4 := Lib.hid hR4
    have H4 : Hid (Has w w4 d M) := by rw [hw4]; exact H3.out.alloc _
    have X4 : Hid (Has w w4 c M') := by rw [hw4]; exact X3.out.alloc _
    rw [← hw4]
    clear hr hw4 hR4 H3 X3
    go_loopw [11] (fun i wr => ∃ k : Nat, k ≤ 2 ∧ i = .int .i64 k ∧ Hid (Has w wr d M) ∧ Hid (Has w wr c M') ∧ Hid (wr.cell? ⟨r, 0, none⟩ = some (.pointer (some ⟨d, 0, none⟩)) ∧ wr.cell? ⟨r, 1, none⟩ = some (.pointer (some ⟨c, 0, none⟩)))) (fun i _ => 2 - (RowKit.intOf i).toNat)
    case atStart => exact ⟨0, by omega, rfl, H4, X4, HR4⟩
    case round =>
      clear H4 X4 HR4
      obtain ⟨k, hk2, rfl, HD, HC, HR⟩ := hrel
      obtain rfl | rfl | rfl : k = 0 ∨ k = 1 ∨ k = 2 := by omega
      · have l0 : wr.cell? ⟨r, 0, none⟩ = some (.pointer (some ⟨d, 0, none⟩)) := HR.out.1
        have hlenM : M.now.length ≤ 64 := HF.out.few.1
        have mixed : Try.prog.follows .mixedOrders = true := by kernel_rfl
        go_wp2_with fail
        refine (list_h HD.out rfl).mono ?_
        rintro e w5 ⟨an, cn, rfl, hrow, _, b5⟩
        rw [List.length_map] at hrow
        rw [List.length_map]
        have RN := Lib.hid hrow
        have B5 := Lib.hid b5
        clear hrow b5
        go_wp2_with fail
        go_loopw [12, 14] (fun t i wr => ∃ k : Nat, k ≤ M.now.length ∧ i = .int .i64 k ∧ t = .int .i64 (M.has k : Int) ∧ Hid (Below w5.heap.size w5 wr)) (fun _ i _ => M.now.length - (RowKit.intOf i).toNat)
        case atStart => exact ⟨0, by omega, rfl, rfl, Lib.hid (Below.refl _ _)⟩
        case round =>
          obtain ⟨k, hkn, rfl, rfl, HB⟩ := hrel
          have HDk := Lib.hid ((HD.out.kept B5.out).kept HB.out)
          have l1 := cell_kept (cell_kept l0 B5.out) HB.out
          have RNk := Lib.hid ((RN.out.kept HB.out))
          by_cases hlt : k < M.now.length
          · obtain ⟨e0, he0⟩ : ∃ e, M.now[k]? = some e := ⟨M.now[k], by simp [hlt]⟩
            obtain ⟨f1, f2, f3, f4⟩ := name_at M HF.out k e0 he0
            obtain ⟨bn, on, rfl, hcell⟩ := RNk.out.lies (by omega)
            have z0 : wr.cell? ⟨bn, on + k, none⟩ = some (.string e0.1) := hcell k _ (by simp [he0])
            have q0 := bwOf_cell wr _ _ l1
            have q1 := bwOf_cell wr _ _ z0
            have hsz := has_le M HF.out k (by omega)
            have HNX := Lib.hid (has_next M k e0 he0)
            go_wp2_with fail
            refine wp_region_bw (w := wr) (by kernel_rfl) (by kernel_rfl) ?_
            repeat (go_big_quiet_step ((go_at_call 11; exact below_of (size_h (HDk.out.kept (bwOf_below _ _)) e0.1 (by omega) (n := ((M.file e0.2).bytes.length : Int)) (k := 0) (by rw [f2]) (by rw [f1]; rfl)))))
            refine wpQuiet_nil ?_
            rintro w6 ⟨m6, h6⟩
            have B6 : Hid (Below wr.heap.size wr w6) := by rw [h6]; exact bwOf_below wr m6
            have z6 := cell_kept z0 B6.out
            have p0 := bwOf_cell w6 _ _ z6
            rcases Nat.eq_zero_or_pos k with rfl | hkpos
            · clear h6 q0 q1 hcell z0
              go_wp2_with fail
              refine wp_region_bw (w := w6) (by kernel_rfl) (by kernel_rfl) ?_
              repeat (go_big_quiet_step (fail))
              refine wpQuiet_nil ?_
              rintro w7 ⟨m7, h7⟩
              have B7 : Hid (Below w6.heap.size w6 w7) := by rw [h7]; exact bwOf_below w6 m7
              clear h7
              go_wp2_with fail
              go_roundw
              case rel => exact ⟨0 + 1, by omega, by go_num, by rw [HNX.out, Int.natCast_add], Lib.hid (below_next HB.out (below_next B6.out B7.out))⟩
              case measure => simp [RowKit.intOf]; omega
            · obtain ⟨j, rfl⟩ : ∃ j, k = j + 1 := ⟨k - 1, by omega⟩
              obtain ⟨e1, he1⟩ : ∃ e, M.now[j]? = some e := ⟨M.now[j]'(by omega), by simp⟩
              have z1 : wr.cell? ⟨bn, on + j, none⟩ = some (.string e1.1) := hcell j _ (by simp [he1])
              have p1 := bwOf_cell w6 _ _ (cell_kept z1 B6.out)
              have hlt2 := less_names _ _ (rise_names M HF.out j e1 e0 he1 he0)
              clear h6 q0 q1 hcell z0 z1
              go_wp2_with fail
              refine wp_region_bw (w := w6) (by kernel_rfl) (by kernel_rfl) ?_
              repeat (go_big_quiet_step (fail))
              refine wpQuiet_nil ?_
              rintro w7 ⟨m7, h7⟩
              have B7 : Hid (Below w6.heap.size w6 w7) := by rw [h7]; exact bwOf_below w6 m7
              clear h7
              go_wp2_with fail
              go_roundw
              case rel => exact ⟨j + 1 + 1, by omega, by go_num, by rw [HNX.out, Int.natCast_add], Lib.hid (below_next HB.out (below_next B6.out B7.out))⟩
              case measure => simp [RowKit.intOf]; omega
          · obtain rfl : k = M.now.length := by omega
            have q0 := bwOf_cell wr _ _ l1
            have hsz := has_le M HF.out M.now.length (Nat.le_refl _)
            have hwr : IntKind.i64.wrap (1000000 - (M.has M.now.length : Int)) = 1000000 - (M.has M.now.length : Int) := by rw [IntKind.wrap_i64]; omega
            go_wp2_with fail
            refine (room_h HDk.out (left_is M hM)).mono ?_
            rintro e w7 ⟨rfl, b7⟩
            have B7 := Lib.hid b7
            clear b7
            have BB := Lib.hid (below_next B5.out (below_next HB.out B7.out))
            go_wp2_with fail
            go_roundw
            case rel => exact ⟨0 + 1, by omega, by go_num, Lib.hid (HD.out.kept BB.out), Lib.hid (HC.out.kept BB.out), Lib.hid ⟨cell_kept HR.out.1 BB.out, cell_kept HR.out.2 BB.out⟩⟩
            case measure => simp [RowKit.intOf]
      · have l0 : wr.cell? ⟨r, 1, none⟩ = some (.pointer (some ⟨c, 0, none⟩)) := HR.out.2
        have hlenM : M'.now.length ≤ 64 := XF.out.few.1
        have mixed : Try.prog.follows .mixedOrders = true := by kernel_rfl
        go_wp2_with fail
        refine (list_h HC.out rfl).mono ?_
        rintro e w5 ⟨an, cn, rfl, hrow, _, b5⟩
        rw [List.length_map] at hrow
        rw [List.length_map]
        have RN := Lib.hid hrow
        have B5 := Lib.hid b5
        clear hrow b5
        go_wp2_with fail
        go_loopw [12, 14] (fun t i wr => ∃ k : Nat, k ≤ M'.now.length ∧ i = .int .i64 k ∧ t = .int .i64 (M'.has k : Int) ∧ Hid (Below w5.heap.size w5 wr)) (fun _ i _ => M'.now.length - (RowKit.intOf i).toNat)
        case atStart => exact ⟨0, by omega, rfl, rfl, Lib.hid (Below.refl _ _)⟩
        case round =>
          obtain ⟨k, hkn, rfl, rfl, HB⟩ := hrel
          have HDk := Lib.hid ((HC.out.kept B5.out).kept HB.out)
          have l1 := cell_kept (cell_kept l0 B5.out) HB.out
          have RNk := Lib.hid ((RN.out.kept HB.out))
          by_cases hlt : k < M'.now.length
          · obtain ⟨e0, he0⟩ : ∃ e, M'.now[k]? = some e := ⟨M'.now[k], by simp [hlt]⟩
            obtain ⟨f1, f2, f3, f4⟩ := name_at M' XF.out k e0 he0
            obtain ⟨bn, on, rfl, hcell⟩ := RNk.out.lies (by omega)
            have z0 : wr.cell? ⟨bn, on + k, none⟩ = some (.string e0.1) := hcell k _ (by simp [he0])
            have q0 := bwOf_cell wr _ _ l1
            have q1 := bwOf_cell wr _ _ z0
            have hsz := has_le M' XF.out k (by omega)
            have HNX := Lib.hid (has_next M' k e0 he0)
            go_wp2_with fail
            refine wp_region_bw (w := wr) (by kernel_rfl) (by kernel_rfl) ?_
            repeat (go_big_quiet_step ((go_at_call 11; exact below_of (size_h (HDk.out.kept (bwOf_below _ _)) e0.1 (by omega) (n := ((M'.file e0.2).bytes.length : Int)) (k := 0) (by rw [f2]) (by rw [f1]; rfl)))))
            refine wpQuiet_nil ?_
            rintro w6 ⟨m6, h6⟩
            have B6 : Hid (Below wr.heap.size wr w6) := by rw [h6]; exact bwOf_below wr m6
            have z6 := cell_kept z0 B6.out
            have p0 := bwOf_cell w6 _ _ z6
            rcases Nat.eq_zero_or_pos k with rfl | hkpos
            · clear h6 q0 q1 hcell z0
              go_wp2_with fail
              refine wp_region_bw (w := w6) (by kernel_rfl) (by kernel_rfl) ?_
              repeat (go_big_quiet_step (fail))
              refine wpQuiet_nil ?_
              rintro w7 ⟨m7, h7⟩
              have B7 : Hid (Below w6.heap.size w6 w7) := by rw [h7]; exact bwOf_below w6 m7
              clear h7
              go_wp2_with fail
              go_roundw
              case rel => exact ⟨0 + 1, by omega, by go_num, by rw [HNX.out, Int.natCast_add], Lib.hid (below_next HB.out (below_next B6.out B7.out))⟩
              case measure => simp [RowKit.intOf]; omega
            · obtain ⟨j, rfl⟩ : ∃ j, k = j + 1 := ⟨k - 1, by omega⟩
              obtain ⟨e1, he1⟩ : ∃ e, M'.now[j]? = some e := ⟨M'.now[j]'(by omega), by simp⟩
              have z1 : wr.cell? ⟨bn, on + j, none⟩ = some (.string e1.1) := hcell j _ (by simp [he1])
              have p1 := bwOf_cell w6 _ _ (cell_kept z1 B6.out)
              have hlt2 := less_names _ _ (rise_names M' XF.out j e1 e0 he1 he0)
              clear h6 q0 q1 hcell z0 z1
              go_wp2_with fail
              refine wp_region_bw (w := w6) (by kernel_rfl) (by kernel_rfl) ?_
              repeat (go_big_quiet_step (fail))
              refine wpQuiet_nil ?_
              rintro w7 ⟨m7, h7⟩
              have B7 : Hid (Below w6.heap.size w6 w7) := by rw [h7]; exact bwOf_below w6 m7
              clear h7
              go_wp2_with fail
              go_roundw
              case rel => exact ⟨j + 1 + 1, by omega, by go_num, by rw [HNX.out, Int.natCast_add], Lib.hid (below_next HB.out (below_next B6.out B7.out))⟩
              case measure => simp [RowKit.intOf]; omega
          · obtain rfl : k = M'.now.length := by omega
            have q0 := bwOf_cell wr _ _ l1
            have hsz := has_le M' XF.out M'.now.length (Nat.le_refl _)
            have hwr : IntKind.i64.wrap (1000000 - (M'.has M'.now.length : Int)) = 1000000 - (M'.has M'.now.length : Int) := by rw [IntKind.wrap_i64]; omega
            go_wp2_with fail
            refine (room_h HDk.out (left_is M' hM2)).mono ?_
            rintro e w7 ⟨rfl, b7⟩
            have B7 := Lib.hid b7
            clear b7
            have BB := Lib.hid (below_next B5.out (below_next HB.out B7.out))
            go_wp2_with fail
            go_roundw
            case rel => exact ⟨1 + 1, by omega, by go_num, Lib.hid (HD.out.kept BB.out), Lib.hid (HC.out.kept BB.out), Lib.hid ⟨cell_kept HR.out.1 BB.out, cell_kept HR.out.2 BB.out⟩⟩
            case measure => simp [RowKit.intOf]
      · go_wp2_with fail
        go_ret
        exact ⟨rfl, HD.out.below⟩
theorem walk_FilesSum (ao : Option Addr) (n cap : Nat) (l : List ActM) (w : World) (hr : RowAct w ao n cap l) (c : Int) (hc : (Lit.int .u8 c).wf = true) (names : Bool) :
    Calls Try.prog 7 #[.slice ao n cap, .int .u8 c, .bool names] w fun e w' => e = .returned (.bool true) ∧ Below w.heap.size w w' := by
  have h1 := wf_u8 hc
  obtain ⟨c, rfl⟩ := Int.eq_ofNat_of_zero_le h1.1
  exact walkN_FilesSum ao n cap l w hr c (by omega) names
end Go.Proofs.Ytdeggklfjdgfjaa
