/-
  WHAT IS PROVED: contracts: what is left of a file; New; how much room is left.
-/
import Derived.Test.YtkmanpmaflpgoaaWith
namespace Go.Proofs.Ytkmanpmaflpgoaa
open Go.RowKit Go.Lib

/-- a file in new memory -/
def NewFile (f : FileM) (w : World) (e : Ending) (w' : World) : Prop :=
  ∃ B v', e = .returned (.pointer (some ⟨B, 0, none⟩)) ∧ w'.heap[B]? = some (.cells #[v', .int .i64 (f.sure : Int)] 77 (0, 0)) ∧ w'.ownsRow w.heap.size 5 1 v' f.bytes.length (cells8 f.bytes) ∧ w.heap.size ≤ B ∧ Below w.heap.size w w'

theorem own_slice {w : World} {base e size n : Nat} {v : Value} {xs : List Value} (h : w.ownsRow base e size v n xs) : ∃ ao cap, v = .slice ao n cap := by
  rcases h.2 with ⟨rfl, rfl⟩ | ⟨g, cap, cur, rfl, _⟩
  · exact ⟨_, _, rfl⟩
  · exact ⟨_, _, rfl⟩

theorem Below.drewN_refl (w : World) (k : Nat) : Below w.heap.size w (w.drewN k) := ⟨rfl, rfl, rfl, Nat.le_refl _, fun _ _ => rfl⟩

set_option maxRecDepth 100000 in
set_option maxHeartbeats 2000000 in
theorem left_any (b : Nat) (v : Value) (f : FileM) (keep : Nat) (w : World) (hb : w.heap[b]? = some (.cells #[v, .int .i64 (f.sure : Int)] 77 (0, 0))) (hv : w.ownsRow 0 5 1 v f.bytes.length (cells8 f.bytes))
    (hs : f.sure ≤ f.bytes.length) (hlen : f.bytes.length ≤ 1048576) (hby : ∀ x ∈ f.bytes, x < 256) (hk : keep ≤ 9223372036854775807) :
    Calls Try.prog 39 #[.pointer (some ⟨b, 0, none⟩), .int .i64 keep] w (NewFile (f.left keep) w) := by
  obtain ⟨ao, cap, rfl, hr, ha⟩ := Row8.of_owns hv hby
  have hc0 : w.cell? ⟨b, 0, none⟩ = some (.slice ao f.bytes.length cap) := cell_of_block hb 0
  have hc1 : w.cell? ⟨b, 1, none⟩ = some (.int .i64 (f.sure : Int)) := cell_of_block hb 1
  obtain ⟨n, hn⟩ : ∃ n, n = min f.bytes.length (f.sure + keep) := ⟨_, rfl⟩
  have hnl : n ≤ f.bytes.length := by omega
  have hr1 := hr.room
  have hr2 := hr.most
  have HR := Lib.hid (hr.upto n hnl)
  have HF : Hid ((f.left keep).bytes = f.bytes.take n ∧ (f.left keep).sure = n) := by
    refine ⟨?_, hn.symm⟩
    show f.bytes.take (f.sure + keep) = f.bytes.take n
    rw [hn]
    rcases Nat.le_total f.bytes.length (f.sure + keep) with h | h
    · rw [Nat.min_eq_left h, List.take_of_length_le h, List.take_of_length_le (Nat.le_refl _)]
    · rw [Nat.min_eq_right h]
  clear hv hr ha
  have HL : Hid ((f.bytes.take n).length = n) := by show _ = _; rw [List.length_take]; omega
  have mixed : Try.prog.follows .mixedOrders = true := by kernel_rfl
  generalize f.bytes.length = len at *
  generalize f.sure = sure at *
  have he : ((sure : Int) + min (keep : Int) ((len : Int) - (sure : Int))) = (n : Int) := by omega
  have HE := Lib.hid he
  clear he hn
  go_enter Try.func39, Try.ntmps39
  go_wp2
  go_quiet (fail)
  go_wp2_with fail
  rw [HE.out, Int.toNat_natCast]
  refine (bytesClone_any ao n cap (f.bytes.take n) (w.drewN nq) (HR.out.kept (Below.drewN_refl w nq)) (by omega)).mono ?_
  rintro e w1 ⟨v', rfl, h1, h2⟩
  have hb1 : Below w.heap.size w w1 := below_next (Below.drewN_refl w nq) h2
  have HB1 := Lib.hid hb1
  rw [HL.out] at h1
  have H1 := Lib.hid h1
  obtain ⟨ao2, cap2, rfl⟩ := own_slice h1
  clear h1 h2 hb1
  go_wp2
  go_ret
  have hb1 := HB1.out
  refine ⟨w1.heap.size, .slice ao2 n cap2, rfl, ?_, ?_, hb1.size, hb1.trans ((Below.refl w.heap.size w1).alloc hb1.size _)⟩
  · rw [HF.out.2]; exact heap_alloc_new w1 _
  · rw [HF.out.1, HL.out]; exact (ownsRow_base (H1.out.alloc _) (fun k hk => by have := (H1.out.lt k hk).1; have := (Below.drewN_refl w nq).size; omega))

/-! ### New, Left -/
theorem newM_fine {n : Nat} (h1 : 1 ≤ n) (h2 : n ≤ 8388608) : (newM n).Fine where
  size := ⟨h1, h2⟩
  rise := ⟨List.Pairwise.nil, List.Pairwise.nil⟩
  few := ⟨Nat.zero_le _, Nat.zero_le _⟩
  id := fun e he => by rcases he with he | he <;> exact absurd he (List.not_mem_nil)
  file := fun f hf => absurd hf (List.not_mem_nil)

/-- a disk in new memory -/
def NewDisk (M : DiskM) (w : World) (e : Ending) (w' : World) : Prop :=
  ∃ L : LayD, e = .returned (.tuple #[.pointer (some ⟨L.d, 0, none⟩), .int .i64 0]) ∧ DiskAt w' L M ∧ (∀ k, L.own k → w.heap.size ≤ k) ∧ Below w.heap.size w w'

theorem new_yes (n : Nat) (w : World) (h1 : 1 ≤ n) (h2 : n ≤ 8388608) : Calls Try.prog 32 #[.int .i64 n] w (NewDisk (newM n) w) := by
  go_enter Try.func32, Try.ntmps32
  go_wp2
  go_ret2
  refine ⟨⟨w.heap.size, .slice none 0 0, .slice none 0 0, [], []⟩, rfl, ⟨newM_fine h1 h2, heap_alloc_new w _, World.ownsRow_nil _ _ _ _, World.ownsRow_nil _ _ _ _, fun k hk => by simp [Value.ownBlock] at hk, rfl, rfl, fun i f b v hf => by simp [newM] at hf, fun i j b hi => by simp at hi, fun i j v v' k hi => by simp at hi⟩, ?_, below_alloc w _⟩
  rintro k (rfl | hk | hk | hk | ⟨v, hv, _⟩)
  · exact Nat.le_refl _
  · simp [Value.ownBlock] at hk
  · simp [Value.ownBlock] at hk
  · simp at hk
  · simp at hv

theorem new_no (n : Int) (w : World) (h : n < 1 ∨ 8388608 < n) : Calls Try.prog 32 #[.int .i64 n] w fun e w' => e = .returned (.tuple #[.pointer none, .int .i64 1]) ∧ w = w' := by
  rcases h with h | h
  · go_enter Try.func32, Try.ntmps32
    go_wp2
    go_ret2
    exact ⟨rfl, rfl⟩
  · have h3 : ¬ n < 1 := by omega
    go_enter Try.func32, Try.ntmps32
    go_wp2
    go_ret2
    exact ⟨rfl, rfl⟩

/-- how many bytes the first ones have -/
def DiskM.usedUpto (M : DiskM) (k : Nat) : Nat := ((M.now.take k).map fun e => (M.file e.2).bytes.length).sum
theorem used_next (M : DiskM) (k : Nat) (e : ByteArray × Nat) (h : M.now[k]? = some e) : M.usedUpto (k + 1) = M.usedUpto k + (M.file e.2).bytes.length := by
  unfold DiskM.usedUpto
  rw [List.take_add_one, h]; simp
theorem used_all (M : DiskM) : M.usedUpto M.now.length = M.used := by unfold DiskM.usedUpto DiskM.used; rw [List.take_length]

theorem DiskAt.of {w : World} {L : LayD} {M : DiskM} (h : DiskAt w L M) {e : ByteArray × Nat} (he : e ∈ M.now ∨ e ∈ M.sure) : ∃ v, w.heap[L.fb.getD e.2 0]? = some (.cells #[v, .int .i64 ((M.file e.2).sure : Int)] 77 (0, 0)) ∧ w.ownsRow 0 5 1 v (M.file e.2).bytes.length (cells8 (M.file e.2).bytes) ∧
    (M.file e.2).bytes.length ≤ 1048576 ∧ (M.file e.2).sure ≤ (M.file e.2).bytes.length ∧ (∀ x ∈ (M.file e.2).bytes, x < 256) ∧ L.vb[e.2]? = some v ∧ L.fb[e.2]? = some (L.fb.getD e.2 0) ∧ M.files[e.2]? = some (M.file e.2) := by
  have hi := (h.fine.id e he).1
  obtain ⟨f, b, v, h1, h2, h3⟩ := h.filed hi
  have e1 : M.file e.2 = f := by simp [DiskM.file, List.getD, h1]
  have e2 : L.fb.getD e.2 0 = b := by simp [List.getD, h2]
  rw [e1, e2]
  obtain ⟨a1, a2⟩ := h.file _ _ _ _ h1 h2 h3
  obtain ⟨b1, b2, b3⟩ := h.fine.file f (List.mem_of_getElem? h1)
  exact ⟨v, a1, a2, b2, b1, b3, h3, h2, h1⟩

theorem left_nil (w : World) : Calls Try.prog 38 #[.pointer none] w fun e w' => e = .returned (.int .i64 0) ∧ w = w' := by
  go_enter Try.func38, Try.ntmps38
  go_wp2_with fail
  refine (none_nil w).mono ?_
  rintro e w' ⟨rfl, rfl⟩
  go_wp2
  go_ret
  exact ⟨rfl, rfl⟩
theorem left_zero (d : Nat) (w : World) (hc : w.cell? ⟨d, 0, none⟩ = some (.int .i64 0)) : Calls Try.prog 38 #[.pointer (some ⟨d, 0, none⟩)] w fun e w' => e = .returned (.int .i64 0) ∧ w = w' := by
  go_enter Try.func38, Try.ntmps38
  go_wp2_with fail
  refine (none_zero d w hc).mono ?_
  rintro e w' ⟨rfl, rfl⟩
  go_wp2
  go_ret
  exact ⟨rfl, rfl⟩

set_option maxRecDepth 100000 in
set_option maxHeartbeats 2000000 in
theorem room_any (L : LayD) (M : DiskM) (w : World) (h : DiskAt w L M) : Calls Try.prog 38 #[.pointer (some ⟨L.d, 0, none⟩)] w fun e w' => e = .returned (.int .i64 (M.left : Nat)) ∧ Below w.heap.size w w' := by
  have H := Lib.hid h
  have hc := h.cell0
  have hsz := h.fine.size.1
  have hsz2 := h.fine.size.2
  have hc1 := h.cell1
  have hfew := h.fine.few.1
  obtain ⟨ao, cap, hvn⟩ := own_slice h.now
  rw [hvn] at hc1
  have HV := Lib.hid hvn
  clear h hvn
  go_enter Try.func38, Try.ntmps38
  go_wp2_with fail
  refine (none_no L.d M.size w hc hsz).mono ?_
  rintro e w' ⟨rfl, rfl⟩
  go_wp2
  go_loopw [3, 5, 17] (fun t _ i wr => ∃ k : Nat, k ≤ M.now.length ∧ i = .int .i64 k ∧ t = .int .i64 ((M.size : Int) - (M.usedUpto k : Int)) ∧ M.usedUpto k ≤ k * 1048576 ∧ Hid (Below w.heap.size w wr)) (fun _ _ i _ => M.now.length - (RowKit.intOf i).toNat)
  case atStart => exact ⟨0, by omega, rfl, by simp [DiskM.usedUpto], by simp [DiskM.usedUpto], Lib.hid (Below.refl _ _)⟩
  case round =>
    obtain ⟨k, hk, rfl, rfl, hu, HB⟩ := hrel
    by_cases hlt : k < M.now.length
    · obtain ⟨e, he⟩ : ∃ e, M.now[k]? = some e := ⟨M.now[k], by simp [hlt]⟩
      have H1 := H.out.below HB.out
      obtain ⟨g, cap', hv, hc3, hc4, hcell⟩ := (rowE_of H1.now).lies (by omega)
      rw [HV.out] at hv
      simp only [Value.slice.injEq, true_and] at hv
      obtain ⟨rfl, rfl⟩ := hv
      obtain ⟨hx1, hx2⟩ := hcell _ e he
      obtain ⟨v, hf1, hf2, hf3, _⟩ := H1.of (.inl (List.mem_of_getElem? he))
      obtain ⟨ao2, cap2, rfl⟩ := own_slice hf2
      have hy : (wr.alloc (.cells #[.string e.1, .pointer (some ⟨L.fb.getD e.2 0, 0, none⟩)] 72)).cell? ⟨L.fb.getD e.2 0, 0, none⟩ = some (.slice ao2 (M.file e.2).bytes.length cap2) := by
        rw [World.cell?_of_block (w := wr) (Below.heap_alloc _ _ _ (lt_of_block hf1))]
        exact cell_of_block hf1 0
      have HU := Lib.hid (used_next M k e he)
      have HB2 := Lib.hid (HB.out.trans ((Below.refl w.heap.size wr).alloc HB.out.size (.cells #[.string e.1, .pointer (some ⟨L.fb.getD e.2 0, 0, none⟩)] 72)))
      obtain ⟨en, ei⟩ := e
      generalize (M.file ei).bytes.length = q at *
      generalize L.fb.getD ei 0 = fbi at *
      clear hf1 hf2 hcell he H1
      go_wp2_with fail
      go_roundw
      case rel => exact ⟨k + 1, by omega, by go_num, by rw [HU.out]; congr 1; omega, by rw [HU.out]; omega, HB2⟩
      case measure => simp [RowKit.intOf]; omega
    · obtain rfl : k = M.now.length := by omega
      rw [used_all] at hu
      have hfin : ∀ z : Int, z = max ((M.size : Int) - (M.usedUpto M.now.length : Int)) 0 → z = (M.left : Int) := by
        intro z hz
        rw [hz, used_all]
        unfold DiskM.left
        omega
      have HF := Lib.hid hfin
      rw [used_all]
      clear hfin
      generalize hus : M.used = u at *
      have HUS := Lib.hid hus
      clear hus
      go_wp2
      go_ret
      refine ⟨?_, HB.out⟩
      have := HF.out _ rfl
      rw [used_all, HUS.out] at this
      rw [← this]
      rfl
end Go.Proofs.Ytkmanpmaflpgoaa
