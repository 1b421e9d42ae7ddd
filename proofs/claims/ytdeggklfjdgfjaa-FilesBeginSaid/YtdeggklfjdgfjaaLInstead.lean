/-
  WHAT IS PROVED: the walk of FilesInstead.
-/
import Derived.Test.YtdeggklfjdgfjaaAlive2
namespace Go.Proofs.Ytdeggklfjdgfjaa
open Go.RowKit Go.Lib

theorem strB_of (s : ByteArray) : strB (strN s) = s := by
  unfold strB strN
  have : (s.data.toList.map UInt8.toNat).map UInt8.ofNat = s.data.toList := by
    rw [List.map_map]
    conv => rhs; rw [← List.map_id s.data.toList]
    apply List.map_congr_left
    intro x _
    simp
  rw [this]
theorem strN_length (s : ByteArray) : (strN s).length = s.size := by simp [strN]

theorem append_eq (M : DiskM) (nm : ByteArray) (b : List Nat) (i : Nat) (f : FileM) (hm : M.miss nm = 0) (ho : M.of nm = i) (hf : M.file i = f) (hl : b.length ≤ M.left) (h20 : f.bytes.length + b.length ≤ 1048576) :
    M.appendE nm b.length = 0 ∧ M.appendM nm b = { M with files := M.files.set i { f with bytes := f.bytes ++ b } } := by
  have hE : M.appendE nm b.length = 0 := by
    unfold DiskM.appendE
    rw [if_pos hm, ho, hf, if_neg (by omega)]
  exact ⟨hE, by unfold DiskM.appendM; rw [hE, if_pos rfl, ho, hf]⟩

def nmIt : ByteArray := ⟨#[105, 116]⟩
def nmNew : ByteArray := ⟨#[105, 116, 46, 110, 101, 119]⟩
def insA : DiskM := ⟨50000, [(⟨#[105, 116]⟩, 0)], [], [⟨[], 0⟩]⟩
def insB (o : List Nat) : DiskM := ⟨50000, [(⟨#[105, 116]⟩, 0)], [], [⟨o, 0⟩]⟩
def insC (o : List Nat) : DiskM := ⟨50000, [(⟨#[105, 116]⟩, 0)], [], [⟨o, o.length⟩]⟩
/-- the disk behind so many steps -/
def ins (o n : List Nat) : Nat → DiskM
  | 0 => ⟨50000, [(⟨#[105, 116]⟩, 0)], [(⟨#[105, 116]⟩, 0)], [⟨o, o.length⟩]⟩
  | 1 => ⟨50000, [(⟨#[105, 116]⟩, 0), (⟨#[105, 116, 46, 110, 101, 119]⟩, 1)], [(⟨#[105, 116]⟩, 0)], [⟨o, o.length⟩, ⟨[], 0⟩]⟩
  | 2 => ⟨50000, [(⟨#[105, 116]⟩, 0), (⟨#[105, 116, 46, 110, 101, 119]⟩, 1)], [(⟨#[105, 116]⟩, 0)], [⟨o, o.length⟩, ⟨n, 0⟩]⟩
  | 3 => ⟨50000, [(⟨#[105, 116]⟩, 0), (⟨#[105, 116, 46, 110, 101, 119]⟩, 1)], [(⟨#[105, 116]⟩, 0)], [⟨o, o.length⟩, ⟨n, n.length⟩]⟩
  | 4 => ⟨50000, [(⟨#[105, 116]⟩, 1)], [(⟨#[105, 116]⟩, 0)], [⟨o, o.length⟩, ⟨n, n.length⟩]⟩
  | _ => ⟨50000, [(⟨#[105, 116]⟩, 1)], [(⟨#[105, 116]⟩, 1)], [⟨o, o.length⟩, ⟨n, n.length⟩]⟩

theorem ins_first : (newM 50000).createE ⟨#[105, 116]⟩ = 0 ∧ (newM 50000).createM ⟨#[105, 116]⟩ = insA := ⟨by kernel_rfl, by kernel_rfl⟩
theorem ins_app (o : List Nat) (h : o.length ≤ 20000) : insA.appendE ⟨#[105, 116]⟩ o.length = 0 ∧ insA.appendM ⟨#[105, 116]⟩ o = insB o :=
  append_eq insA _ o 0 ⟨[], 0⟩ (by kernel_rfl) (by kernel_rfl) rfl (by show o.length ≤ 50000 - 0; omega) (by show 0 + o.length ≤ _; omega)
theorem ins_sync (o : List Nat) : (insB o).miss ⟨#[105, 116]⟩ = 0 ∧ (insB o).syncM ⟨#[105, 116]⟩ = insC o := by
  have hm : (insB o).miss ⟨#[105, 116]⟩ = 0 := by kernel_rfl
  refine ⟨hm, ?_⟩
  have ho : (insB o).of ⟨#[105, 116]⟩ = 0 := by kernel_rfl
  unfold DiskM.syncM
  rw [if_pos hm, ho]; rfl
theorem ins_names (o n : List Nat) : (insC o).namesM = ins o n 0 := rfl
theorem ins_s0 (o n : List Nat) : (ins o n 0).createE ⟨#[105, 116, 46, 110, 101, 119]⟩ = 0 ∧ (ins o n 0).createM ⟨#[105, 116, 46, 110, 101, 119]⟩ = ins o n 1 := by
  have hE : (ins o n 0).createE ⟨#[105, 116, 46, 110, 101, 119]⟩ = 0 := by kernel_rfl
  have hl : lay [(⟨#[105, 116]⟩, 0)] ⟨#[105, 116, 46, 110, 101, 119]⟩ 1 = [(⟨#[105, 116]⟩, 0), (⟨#[105, 116, 46, 110, 101, 119]⟩, 1)] := by kernel_rfl
  refine ⟨hE, ?_⟩
  unfold DiskM.createM
  rw [if_pos hE]
  show DiskM.mk 50000 (lay [(⟨#[105, 116]⟩, 0)] ⟨#[105, 116, 46, 110, 101, 119]⟩ 1) _ _ = _
  rw [hl]; rfl
theorem ins_s1 (o n : List Nat) (h : o.length + n.length ≤ 20000) : (ins o n 1).appendE ⟨#[105, 116, 46, 110, 101, 119]⟩ n.length = 0 ∧ (ins o n 1).appendM ⟨#[105, 116, 46, 110, 101, 119]⟩ n = ins o n 2 :=
  append_eq (ins o n 1) _ n 1 ⟨[], 0⟩ (by kernel_rfl) (by kernel_rfl) rfl (by show n.length ≤ 50000 - (o.length + 0); omega) (by show 0 + n.length ≤ _; omega)
theorem ins_s2 (o n : List Nat) : (ins o n 2).miss ⟨#[105, 116, 46, 110, 101, 119]⟩ = 0 ∧ (ins o n 2).syncM ⟨#[105, 116, 46, 110, 101, 119]⟩ = ins o n 3 := by
  have hm : (ins o n 2).miss ⟨#[105, 116, 46, 110, 101, 119]⟩ = 0 := by kernel_rfl
  have ho : (ins o n 2).of ⟨#[105, 116, 46, 110, 101, 119]⟩ = 1 := by kernel_rfl
  refine ⟨hm, ?_⟩
  unfold DiskM.syncM
  rw [if_pos hm, ho]; rfl
theorem ins_s3 (o n : List Nat) : (ins o n 3).renameE ⟨#[105, 116, 46, 110, 101, 119]⟩ ⟨#[105, 116]⟩ = 0 ∧ (ins o n 3).renameM ⟨#[105, 116, 46, 110, 101, 119]⟩ ⟨#[105, 116]⟩ = ins o n 4 := by
  have hE : (ins o n 3).renameE ⟨#[105, 116, 46, 110, 101, 119]⟩ ⟨#[105, 116]⟩ = 0 := by kernel_rfl
  have ho : (ins o n 3).of ⟨#[105, 116, 46, 110, 101, 119]⟩ = 1 := by kernel_rfl
  have hl : lay (List.eraseIdx [(⟨#[105, 116]⟩, 0), (⟨#[105, 116, 46, 110, 101, 119]⟩, 1)] (place [(⟨#[105, 116]⟩, 0), (⟨#[105, 116, 46, 110, 101, 119]⟩, 1)] ⟨#[105, 116, 46, 110, 101, 119]⟩)) ⟨#[105, 116]⟩ 1 = [(⟨#[105, 116]⟩, 1)] := by kernel_rfl
  refine ⟨hE, ?_⟩
  unfold DiskM.renameM
  rw [if_pos hE, if_neg (by decide), ho]
  show DiskM.mk 50000 (lay (List.eraseIdx [(⟨#[105, 116]⟩, 0), (⟨#[105, 116, 46, 110, 101, 119]⟩, 1)] (place [(⟨#[105, 116]⟩, 0), (⟨#[105, 116, 46, 110, 101, 119]⟩, 1)] ⟨#[105, 116, 46, 110, 101, 119]⟩)) ⟨#[105, 116]⟩ 1) _ _ = _
  rw [hl]; rfl
theorem ins_s4 (o n : List Nat) : (ins o n 4).namesM = ins o n 5 := rfl

theorem left_all (o : List Nat) (keep : Nat) : ((⟨o, o.length⟩ : FileM).left keep).bytes = o := by
  show o.take (o.length + keep) = o
  exact List.take_of_length_le (by omega)

/-- what is there behind a failure -/
theorem ins_left (o n : List Nat) (keep k : Nat) (names : Bool) (hk : k ≤ 5) : ((ins o n k).failM keep names).all ⟨#[105, 116]⟩ = if k = 5 ∨ (k = 4 ∧ names = true) then n else o := by
  have key : ∀ (M : DiskM) (f : FileM), M.miss ⟨#[105, 116]⟩ = 0 → M.file (M.of ⟨#[105, 116]⟩) = f → M.all ⟨#[105, 116]⟩ = f.bytes := fun M f h1 h2 => by unfold DiskM.all; rw [if_pos h1, h2]
  match k, hk, names with
  | 0, _, true => rw [key _ ((⟨o, o.length⟩ : FileM).left keep) (by kernel_rfl) (by kernel_rfl), left_all]; rfl
  | 0, _, false => rw [key _ ((⟨o, o.length⟩ : FileM).left keep) (by kernel_rfl) (by kernel_rfl), left_all]; rfl
  | 1, _, true => rw [key _ ((⟨o, o.length⟩ : FileM).left keep) (by kernel_rfl) (by kernel_rfl), left_all]; rfl
  | 1, _, false => rw [key _ ((⟨o, o.length⟩ : FileM).left keep) (by kernel_rfl) (by kernel_rfl), left_all]; rfl
  | 2, _, true => rw [key _ ((⟨o, o.length⟩ : FileM).left keep) (by kernel_rfl) (by kernel_rfl), left_all]; rfl
  | 2, _, false => rw [key _ ((⟨o, o.length⟩ : FileM).left keep) (by kernel_rfl) (by kernel_rfl), left_all]; rfl
  | 3, _, true => rw [key _ ((⟨o, o.length⟩ : FileM).left keep) (by kernel_rfl) (by kernel_rfl), left_all]; rfl
  | 3, _, false => rw [key _ ((⟨o, o.length⟩ : FileM).left keep) (by kernel_rfl) (by kernel_rfl), left_all]; rfl
  | 4, _, true => rw [key _ ((⟨n, n.length⟩ : FileM).left keep) (by kernel_rfl) (by kernel_rfl), left_all]; rfl
  | 4, _, false => rw [key _ ((⟨o, o.length⟩ : FileM).left keep) (by kernel_rfl) (by kernel_rfl), left_all]; rfl
  | 5, _, true => rw [key _ ((⟨n, n.length⟩ : FileM).left keep) (by kernel_rfl) (by kernel_rfl), left_all]; rfl
  | 5, _, false => rw [key _ ((⟨n, n.length⟩ : FileM).left keep) (by kernel_rfl) (by kernel_rfl), left_all]; rfl
  | k + 6, hk, _ => omega

theorem below_alloc_trans {w w' : World} {o : Obj} (h : Below (w.alloc o).heap.size (w.alloc o) w') : Below w.heap.size w w' := (below_alloc w o).trans (h.mono (by simp))

set_option maxRecDepth 100000 in
set_option maxHeartbeats 8000000 in
theorem walkN_FilesInstead (so sn : ByteArray) (c : Nat) (keep : Int) (names : Bool) (hc : c < 256) (hso : so.size ≤ 140737488351232) (hsn : sn.size ≤ 140737488351232) (hk1 : -9223372036854775808 ≤ keep) (hk2 : keep ≤ 9223372036854775807) (w : World) :
    Calls Try.prog 4 #[.agg #[.string so, .string sn, .int .u8 (c : Int), .int .i64 keep, .bool names]] w fun e w' => e = .returned (.bool true) ∧ Below w.heap.size w w' := by
  obtain ⟨W, hW⟩ : ∃ W, W = w.alloc (.cells #[.string so, .string sn, .int .u8 (c : Int), .int .i64 keep, .bool names] 48) := ⟨_, rfl⟩
  have hz : ∀ wk, Below W.heap.size W wk → wk.cell? ⟨w.heap.size, 0, none⟩ = some (.string so) ∧ wk.cell? ⟨w.heap.size, 1, none⟩ = some (.string sn) ∧ wk.cell? ⟨w.heap.size, 2, none⟩ = some (.int .u8 (c : Int)) ∧ wk.cell? ⟨w.heap.size, 3, none⟩ = some (.int .i64 keep) ∧ wk.cell? ⟨w.heap.size, 4, none⟩ = some (.bool names) := by
    intro wk hb
    have hh : wk.heap[w.heap.size]? = some (.cells #[.string so, .string sn, .int .u8 (c : Int), .int .i64 keep, .bool names] 48 (0, 0)) := by
      rw [hb.block w.heap.size (by rw [hW]; simp), hW]; exact heap_alloc_new w _
    exact ⟨cell_of_block hh 0, cell_of_block hh 1, cell_of_block hh 2, cell_of_block hh 3, cell_of_block hh 4⟩
  have HZ := Lib.hid hz
  have hend : ∀ wk, Below W.heap.size W wk → Below w.heap.size w wk := fun wk hb => by rw [hW] at hb; exact below_alloc_trans hb
  have HEND := Lib.hid hend
  have hcv := fun (w : World) (s : ByteArray) => run_bytes_of_string (P := Try.prog) w 9 22 5 s Try.underlying9 Try.underlying22 Try.underlying5
  have HCV := Lib.hid hcv
  clear hz hend hcv
  by_cases hbig : 20000 < so.size + sn.size
  · go_enter Try.func4, Try.ntmps4
    go_wp2_with fail
    rw [← hW]
    refine (alive_yes W).mono ?_
    rintro e w1 ⟨rfl, b1⟩
    have B1 := Lib.hid b1
    obtain ⟨z0, z1, z2, z3, z4⟩ := HZ.out _ b1
    clear b1
    go_wp2_with fail
    refine (alive_yes w1).mono ?_
    rintro e w2 ⟨rfl, b2⟩
    have B2 := Lib.hid (below_next B1.out b2)
    clear b2
    go_wp2
    go_ret
    exact ⟨rfl, HEND.out _ B2.out⟩
  · by_cases hneg : keep < 0
    · go_enter Try.func4, Try.ntmps4
      go_wp2_with fail
      rw [← hW]
      refine (alive_yes W).mono ?_
      rintro e w1 ⟨rfl, b1⟩
      have B1 := Lib.hid b1
      obtain ⟨z0, z1, z2, z3, z4⟩ := HZ.out _ b1
      clear b1
      go_wp2_with fail
      refine (alive_yes w1).mono ?_
      rintro e w2 ⟨rfl, b2⟩
      have B2 := Lib.hid (below_next B1.out b2)
      clear b2
      go_wp2
      go_ret
      exact ⟨rfl, HEND.out _ B2.out⟩
    · obtain ⟨kp, rfl⟩ := Int.eq_ofNat_of_zero_le (Int.not_lt.1 hneg)
      have hoN : (strN so).length = so.size := strN_length so
      have hnN : (strN sn).length = sn.size := strN_length sn
      have HON := Lib.hid hoN
      have HNN := Lib.hid hnN
      have hss : so.size ≤ 20000 := by omega
      have hss2 : sn.size ≤ 20000 := by omega
      clear hoN hnN hso hsn
      go_enter Try.func4, Try.ntmps4
      go_wp2_with fail
      rw [← hW]
      refine (alive_yes W).mono ?_
      rintro e w1 ⟨rfl, b1⟩
      have B1 := Lib.hid b1
      obtain ⟨z0, z1, z2, z3, z4⟩ := HZ.out _ b1
      clear b1 hW
      go_wp2_with fail
      refine (new_h (M := newM 50000) 50000 W w1 B1.out (by omega) (by omega) rfl).mono ?_
      rintro e w2 ⟨d, rfl, h2, _⟩
      have H2 := Lib.hid h2
      clear h2 z0 z1 z2 z3 z4
      go_wp2_with fail
      refine (create_h H2.out ⟨#[105, 116]⟩ (by decide) (k := 0) (by rw [ins_first.1]; rfl) ins_first.2).mono ?_
      rintro e w3 ⟨rfl, h3⟩
      have H3 := Lib.hid h3
      obtain ⟨z0, z1, z2, z3, z4⟩ := HZ.out _ h3.below
      clear h3
      have hcv := fun (w : World) => HCV.out w so
      go_wp2_with fail
      refine (append_h (H3.out.alloc _).drew ⟨#[105, 116]⟩ (by decide) _ _ _ (strN so) (row_of_str w3 so (by omega)).drew (k := 0) (M' := insB (strN so)) (by rw [← HON.out, (ins_app _ (by have := HON.out; omega)).1]; rfl) (ins_app _ (by have := HON.out; omega)).2).mono ?_
      rintro e w4 ⟨rfl, h4⟩
      have H4 := Lib.hid h4
      clear h4 hcv z0 z1 z2 z3 z4
      go_wp2_with fail
      refine (sync_h H4.out ⟨#[105, 116]⟩ (by decide) (k := 0) (M' := insC (strN so)) (by rw [(ins_sync _).1]; rfl) (ins_sync _).2).mono ?_
      rintro e w5 ⟨rfl, h5⟩
      have H5 := Lib.hid h5
      clear h5
      go_wp2_with fail
      refine (names_h H5.out (M' := ins (strN so) (strN sn) 0) (ins_names _ _)).mono ?_
      rintro e w6 ⟨rfl, h6⟩
      have H6 := Lib.hid h6
      obtain ⟨z0, z1, z2, z3, z4⟩ := HZ.out _ h6.below
      obtain ⟨st, hst, hst5⟩ : ∃ st : Nat, ((c : Int) % 6) = (st : Int) ∧ st ≤ 5 := ⟨c % 6, by omega, by omega⟩
      clear h6
      go_wp2_with fail
      rw [hst]
      clear hst z0 z1 z2 z3 z4
      go_loopw [6, 7] (fun o i wr => ∃ k : Nat, k ≤ st ∧ i = .int .i64 k ∧ o = .bool true ∧ Hid (Has W wr d (ins (strN so) (strN sn) k))) (fun _ i _ => st - (RowKit.intOf i).toNat)
      case atStart => exact ⟨0, by omega, rfl, rfl, H6⟩
      case round =>
        obtain ⟨k, hk, rfl, rfl, HR⟩ := hrel
        by_cases hlt : k < st
        · obtain rfl | rfl | rfl | rfl | rfl : k = 0 ∨ k = 1 ∨ k = 2 ∨ k = 3 ∨ k = 4 := by omega
          · go_wp2_with fail
            refine (create_h HR.out ⟨#[105, 116, 46, 110, 101, 119]⟩ (by decide) (k := 0) (by rw [(ins_s0 _ _).1]; rfl) (ins_s0 _ _).2).mono ?_
            rintro e w7 ⟨rfl, h7⟩
            have H7 := Lib.hid h7
            clear h7
            go_wp2
            go_roundw
            case rel => exact ⟨1, by omega, rfl, rfl, H7⟩
            case measure => simp [RowKit.intOf]; omega
          · obtain ⟨z0, z1, z2, z3, z4⟩ := HZ.out _ HR.out.below
            have hcv := fun (w : World) => HCV.out w sn
            go_wp2_with fail
            refine (append_h (HR.out.alloc _).drew ⟨#[105, 116, 46, 110, 101, 119]⟩ (by decide) _ _ _ (strN sn) (row_of_str wr sn (by omega)).drew (k := 0) (by rw [← HNN.out, (ins_s1 _ _ (by have := HON.out; have := HNN.out; omega)).1]; rfl) (ins_s1 _ _ (by have := HON.out; have := HNN.out; omega)).2).mono ?_
            rintro e w7 ⟨rfl, h7⟩
            have H7 := Lib.hid h7
            clear h7 hcv z0 z1 z2 z3 z4
            go_wp2
            go_roundw
            case rel => exact ⟨2, by omega, rfl, rfl, H7⟩
            case measure => simp [RowKit.intOf]; omega
          · go_wp2_with fail
            refine (sync_h HR.out ⟨#[105, 116, 46, 110, 101, 119]⟩ (by decide) (k := 0) (by rw [(ins_s2 _ _).1]; rfl) (ins_s2 _ _).2).mono ?_
            rintro e w7 ⟨rfl, h7⟩
            have H7 := Lib.hid h7
            clear h7
            go_wp2
            go_roundw
            case rel => exact ⟨3, by omega, rfl, rfl, H7⟩
            case measure => simp [RowKit.intOf]; omega
          · go_wp2_with fail
            refine (rename_h HR.out ⟨#[105, 116, 46, 110, 101, 119]⟩ ⟨#[105, 116]⟩ (by decide) (by decide) (k := 0) (by rw [(ins_s3 _ _).1]; rfl) (ins_s3 _ _).2).mono ?_
            rintro e w7 ⟨rfl, h7⟩
            have H7 := Lib.hid h7
            clear h7
            go_wp2
            go_roundw
            case rel => exact ⟨4, by omega, rfl, rfl, H7⟩
            case measure => simp [RowKit.intOf]; omega
          · go_wp2_with fail
            refine (names_h HR.out (ins_s4 _ _)).mono ?_
            rintro e w7 ⟨rfl, h7⟩
            have H7 := Lib.hid h7
            clear h7
            go_wp2
            go_roundw
            case rel => exact ⟨5, by omega, rfl, rfl, H7⟩
            case measure => simp [RowKit.intOf]; omega
        · obtain rfl : k = st := by omega
          obtain ⟨z0, z1, z2, z3, z4⟩ := HZ.out _ HR.out.below
          go_wp2_with fail
          refine (fail_h HR.out kp names (by omega) rfl).mono ?_
          rintro e w7 ⟨d7, rfl, h7, b7⟩
          have H7 := Lib.hid h7
          have HALL := Lib.hid (ins_left (strN so) (strN sn) kp k names hst5)
          clear z0 z1 z2 z3 z4
          obtain ⟨z0, z1, z2, z3, z4⟩ := HZ.out _ h7.below
          clear h7 b7
          by_cases h5 : k = 5
          · subst h5
            have hall : strB (((ins (strN so) (strN sn) 5).failM kp names).all ⟨#[105, 116]⟩) = sn := by rw [HALL.out, if_pos (.inl rfl), strB_of]
            have HS := Lib.hid hall
            clear hall
            go_wp2_with fail
            refine (all_h H7.out ⟨#[105, 116]⟩ (by decide) HS.out).mono ?_
            rintro e w8 ⟨rfl, b8⟩
            have H8 := Lib.hid (H7.out.kept b8)
            clear b8
            go_wp2
            go_ret
            exact ⟨rfl, HEND.out _ H8.out.below⟩
          · have h5b : ((k : Int) == 5) = false := by rw [beq_eq_false_iff_ne]; omega
            by_cases h4 : k = 4
            · subst h4
              cases names with
              | true =>
                have hall : strB (((ins (strN so) (strN sn) 4).failM kp true).all ⟨#[105, 116]⟩) = sn := by rw [HALL.out, if_pos (.inr ⟨rfl, rfl⟩), strB_of]
                have HS := Lib.hid hall
                clear hall h5b
                go_wp2_with fail
                refine (all_h H7.out ⟨#[105, 116]⟩ (by decide) HS.out).mono ?_
                rintro e w8 ⟨rfl, b8⟩
                have H8 := Lib.hid (H7.out.kept b8)
                clear b8
                go_wp2
                go_ret
                exact ⟨rfl, HEND.out _ H8.out.below⟩
              | false =>
                have hall : strB (((ins (strN so) (strN sn) 4).failM kp false).all ⟨#[105, 116]⟩) = so := by rw [HALL.out, if_neg (by decide), strB_of]
                have HS := Lib.hid hall
                clear hall h5b
                go_wp2_with fail
                refine (all_h H7.out ⟨#[105, 116]⟩ (by decide) HS.out).mono ?_
                rintro e w8 ⟨rfl, b8⟩
                have H8 := Lib.hid (H7.out.kept b8)
                clear b8
                go_wp2
                go_ret
                exact ⟨rfl, HEND.out _ H8.out.below⟩
            · have h4b : ((k : Int) == 4) = false := by rw [beq_eq_false_iff_ne]; omega
              have hall : strB (((ins (strN so) (strN sn) k).failM kp names).all ⟨#[105, 116]⟩) = so := by rw [HALL.out, if_neg (by omega), strB_of]
              have HS := Lib.hid hall
              clear hall
              go_wp2_with fail
              refine (all_h H7.out ⟨#[105, 116]⟩ (by decide) HS.out).mono ?_
              rintro e w8 ⟨rfl, b8⟩
              have H8 := Lib.hid (H7.out.kept b8)
              clear b8
              go_wp2
              go_ret
              exact ⟨rfl, HEND.out _ H8.out.below⟩
theorem walk_FilesInstead (so sn : ByteArray) (c keep : Int) (names : Bool) (hso : so.size ≤ 140737488351232) (hsn : sn.size ≤ 140737488351232) (hc : (Lit.int .u8 c).wf = true) (hk : (Lit.int .i64 keep).wf = true) (w : World) :
    Calls Try.prog 4 #[.agg #[.string so, .string sn, .int .u8 c, .int .i64 keep, .bool names]] w fun e w' => e = .returned (.bool true) ∧ Below w.heap.size w w' := by
  have h1 := wf_u8 hc
  have h2 := wf_i64 hk
  obtain ⟨c, rfl⟩ := Int.eq_ofNat_of_zero_le h1.1
  exact walkN_FilesInstead so sn c keep names (by omega) hso hsn h2.1 h2.2 w
end Go.Proofs.Ytdeggklfjdgfjaa
