/-
  WHAT IS PROVED: done: a disk on which acts were done.
-/
import Derived.Test.YtdeggklfjdgfjaaHas
import Derived.Test.YtdeggklfjdgfjaaActs
namespace Go.Proofs.Ytdeggklfjdgfjaa
open Go.RowKit Go.Lib

theorem size_create (M : DiskM) (nm : ByteArray) : (M.createM nm).size = M.size := by unfold DiskM.createM; split <;> rfl
theorem size_remove (M : DiskM) (nm : ByteArray) : (M.removeM nm).size = M.size := by unfold DiskM.removeM; split <;> rfl
theorem size_rename (M : DiskM) (nm to : ByteArray) : (M.renameM nm to).size = M.size := by
  unfold DiskM.renameM; split
  · split <;> rfl
  · rfl
theorem size_append (M : DiskM) (nm : ByteArray) (b : List Nat) : (M.appendM nm b).size = M.size := by unfold DiskM.appendM; split <;> rfl
theorem size_sync (M : DiskM) (nm : ByteArray) : (M.syncM nm).size = M.size := by unfold DiskM.syncM; split <;> rfl

/-- what done leaves -/
def DoneR (w : World) (e : Ending) (w' : World) : Prop :=
  (e = .returned (.pointer none) ∧ Below w.heap.size w w') ∨ ∃ d M, e = .returned (.pointer (some ⟨d, 0, none⟩)) ∧ M.size = 1000000 ∧ Has w w' d M

set_option maxRecDepth 100000 in
set_option maxHeartbeats 8000000 in
theorem done_any (ao : Option Addr) (n cap : Nat) (l : List ActM) (w : World) (hr : RowAct w ao n cap l) :
    Calls Try.prog 24 #[.slice ao n cap] w (DoneR w) := by
  have hlen := Lib.hid hr.len
  have hroom := hr.room
  have hmost := hr.most
  have HR := Lib.hid hr
  clear hr
  go_enter Try.func24, Try.ntmps24
  go_wp2_with fail
  refine (new_h (M := newM 1000000) 1000000 w w (Below.refl _ _) (by omega) (by omega) rfl).mono ?_
  rintro e w2 ⟨d, rfl, h2, b2⟩
  have H2 := Lib.hid h2
  have B2 := Lib.hid b2
  clear h2 b2
  go_wp2_with fail
  refine (great_any ao n cap l w2 (HR.out.kept B2.out)).mono ?_
  rintro e w3 ⟨v, rfl, hv, b3⟩
  have H3 := Lib.hid (H2.out.kept b3)
  have HV := Lib.hid hv
  clear b3 hv H2 B2
  cases v
  · have HSM := Lib.hid (HV.out rfl)
    clear HV
    go_wp2_with fail
    go_loopw [5] (fun i wr => ∃ (k : Nat) (M : DiskM), k ≤ n ∧ i = .int .i64 k ∧ M.size = 1000000 ∧ Hid (Has w wr d M)) (fun i _ => n - (RowKit.intOf i).toNat)
    case atStart => exact ⟨0, newM 1000000, by omega, rfl, rfl, H3⟩
    case round =>
      clear H3
      obtain ⟨k, M, hk, rfl, hM, HK⟩ := hrel
      by_cases hlt : k < n
      · obtain ⟨x, hx⟩ : ∃ x, l[k]? = some x := ⟨l[k]'(by rw [hlen.out]; exact hlt), by simp [hlen.out, hlt]⟩
        obtain ⟨b, off, rfl, hcell⟩ := (HR.out.kept HK.out.below).lies (by omega)
        have c0 : wr.cell? ⟨b, off + k * 7, none⟩ = some (.int .u8 x.kind) := hcell k x hx 0 _ rfl
        have c1 : wr.cell? ⟨b, off + k * 7 + 1, none⟩ = some (.string x.nm) := by rw [Nat.add_assoc]; exact hcell k x hx 1 _ rfl
        have c2 : wr.cell? ⟨b, off + k * 7 + 2, none⟩ = some (.string x.to) := by rw [Nat.add_assoc]; exact hcell k x hx 2 _ rfl
        have c3 : wr.cell? ⟨b, off + k * 7 + 3, none⟩ = some (.slice x.bo x.bn x.bc) := by rw [Nat.add_assoc]; exact hcell k x hx 3 _ rfl
        have c4 : wr.cell? ⟨b, off + k * 7 + 4, none⟩ = some (.int .i64 x.at_) := by rw [Nat.add_assoc]; exact hcell k x hx 4 _ rfl
        have c5 : wr.cell? ⟨b, off + k * 7 + 5, none⟩ = some (.int .i64 x.n) := by rw [Nat.add_assoc]; exact hcell k x hx 5 _ rfl
        have c6 : wr.cell? ⟨b, off + k * 7 + 6, none⟩ = some (.bool x.names) := by rw [Nat.add_assoc]; exact hcell k x hx 6 _ rfl
        have hxm := List.mem_of_getElem? hx
        have hkd := (HR.out.each x hxm).2.1
        have HSX := Lib.hid (HSM.out.2 x hxm)
        have HRX := Lib.hid ((HR.out.kept HK.out.below).each x hxm).1
        clear hcell hx hxm
        obtain ⟨kd, nm, to, bo, bn, bc, z, at_, n', names⟩ := x
        simp only at c0 c1 c2 c3 c4 c5 c6 hkd HSX HRX
        have hs1 : nm.size ≤ 4294967296 := by have := HSX.out.2.1; omega
        have hs2 : to.size ≤ 4294967296 := by have := HSX.out.2.2; omega
        go_wp2_with fail
        · refine (create_h (HK.out.alloc _) nm hs1 rfl rfl).mono ?_
          rintro e w5 ⟨rfl, h5⟩
          have H5 := Lib.hid h5
          clear h5
          go_wp2_with fail
          go_roundw
          case rel => exact ⟨k + 1, _, by omega, by go_num, by rw [size_create]; exact hM, H5⟩
          case measure => simp [RowKit.intOf]; omega
        · refine (remove_h (HK.out.alloc _) nm hs1 rfl rfl).mono ?_
          rintro e w5 ⟨rfl, h5⟩
          have H5 := Lib.hid h5
          clear h5
          go_wp2_with fail
          go_roundw
          case rel => exact ⟨k + 1, _, by omega, by go_num, by rw [size_remove]; exact hM, H5⟩
          case measure => simp [RowKit.intOf]; omega
        · refine (rename_h (HK.out.alloc _) nm to hs1 hs2 rfl rfl).mono ?_
          rintro e w5 ⟨rfl, h5⟩
          have H5 := Lib.hid h5
          clear h5
          go_wp2_with fail
          go_roundw
          case rel => exact ⟨k + 1, _, by omega, by go_num, by rw [size_rename]; exact hM, H5⟩
          case measure => simp [RowKit.intOf]; omega
        · refine (append_h (HK.out.alloc _) nm hs1 bo bn bc z (HRX.out.kept (below_alloc wr _)) rfl rfl).mono ?_
          rintro e w5 ⟨rfl, h5⟩
          have H5 := Lib.hid h5
          clear h5
          go_wp2_with fail
          go_roundw
          case rel => exact ⟨k + 1, _, by omega, by go_num, by rw [size_append]; exact hM, H5⟩
          case measure => simp [RowKit.intOf]; omega
        · refine (append_h (HK.out.alloc _) nm hs1 bo bn bc z (HRX.out.kept (below_alloc wr _)) rfl rfl).mono ?_
          rintro e w5 ⟨rfl, h5⟩
          have H5 := Lib.hid h5
          clear h5
          go_wp2_with fail
          go_roundw
          case rel => exact ⟨k + 1, _, by omega, by go_num, by rw [size_append]; exact hM, H5⟩
          case measure => simp [RowKit.intOf]; omega
        · refine (sync_h (HK.out.alloc _) nm hs1 rfl rfl).mono ?_
          rintro e w5 ⟨rfl, h5⟩
          have H5 := Lib.hid h5
          clear h5
          go_wp2_with fail
          go_roundw
          case rel => exact ⟨k + 1, _, by omega, by go_num, by rw [size_sync]; exact hM, H5⟩
          case measure => simp [RowKit.intOf]; omega
        · refine (names_h (HK.out.alloc _) rfl).mono ?_
          rintro e w5 ⟨rfl, h5⟩
          have H5 := Lib.hid h5
          clear h5
          go_wp2_with fail
          go_roundw
          case rel => exact ⟨k + 1, M.namesM, by omega, by go_num, hM, H5⟩
          case measure => simp [RowKit.intOf]; omega
        · go_roundw
          case rel => exact ⟨k + 1, M, by omega, by go_num, hM, Lib.hid (HK.out.alloc _)⟩
          case measure => simp [RowKit.intOf]; omega
      · obtain rfl : k = n := by omega
        go_wp2_with fail
        go_ret
        exact .inr ⟨d, M, rfl, hM, HK.out⟩
  · clear HV
    go_wp2_with fail
    go_ret
    exact .inl ⟨rfl, H3.out.below⟩
end Go.Proofs.Ytdeggklfjdgfjaa
