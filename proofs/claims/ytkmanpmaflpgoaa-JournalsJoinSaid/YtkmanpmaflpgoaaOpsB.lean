/-
  WHAT IS PROVED: contracts of a disk's calls: Remove, Rename, Sync, Names, Size.
-/
import Derived.Test.YtkmanpmaflpgoaaOpsA
namespace Go.Proofs.Ytkmanpmaflpgoaa
open Go.RowKit Go.Lib

theorem DiskAt.after {w w' : World} {L : LayD} {M : DiskM} (h : DiskAt w L M) (hg : w.grownBy w' L.vn.ownBlock) : w'.cell? ⟨L.d, 1, none⟩ = some L.vn ∧ w'.frozen? ⟨L.d, 1, none⟩ = false := by
  have hdb : w'.heap[L.d]? = some (.cells #[.int .i64 (M.size : Int), L.vn, L.vs] 29 (0, 0)) := (hg.block L.d (lt_of_block h.disk) (fun he => by
    obtain ⟨cur, hc⟩ := ownsRow_block h.now he.symm
    exact ne_of_block hc h.disk (by decide) rfl)).trans h.disk
  exact ⟨cell_of_block hdb 1, by simp [World.frozen?, hdb]⟩

theorem grown_two {w w2 w3 : World} {r1 r2 : Option Nat} (h : w.grownBy w2 r1) (h' : w2.grownBy w3 r2) (hr : r2 = r1 ∨ ∃ b, r2 = some b ∧ w.heap.size ≤ b) : w.grownBy w3 r1 :=
  ⟨h'.os.trans h.os, h'.tape.trans h.tape, h'.output.trans h.output, Nat.le_trans h.size h'.size, fun k hk hn => (h'.block k (Nat.lt_of_lt_of_le hk h.size) (fun he => by
    rcases hr with rfl | ⟨b, rfl, hb⟩
    · exact hn he
    · cases he; omega)).trans (h.block k hk hn)⟩

theorem ents_erase (fb : List Nat) (l : Dir) (k : Nat) : ents fb (l.eraseIdx k) = (ents fb l).take (k * 2) ++ (ents fb l).drop ((k + 1) * 2) := by
  rw [List.eraseIdx_eq_take_drop_succ, ents_append, ents_take, ents_drop]

theorem fine_now {M : DiskM} (h : M.Fine) {now' : Dir} (hr : Rise now') (hl : now'.length ≤ 64) (hi : ∀ e ∈ now', e.2 < M.files.length ∧ okName e.1 = true) : DiskM.Fine { M with now := now' } :=
  ⟨h.size, ⟨hr, h.rise.2⟩, ⟨hl, h.few.2⟩, fun e he => by
    rcases he with he | he
    · exact hi e he
    · exact h.id e (.inr he), h.file⟩

theorem rename_cases (M : DiskM) (nm to : ByteArray) : (M.renameE nm to = 0 ∧ okName nm = true ∧ okName to = true ∧ there M.now nm = true) ∨ M.renameE nm to = 1 ∨ M.renameE nm to = 7 := by
  unfold DiskM.renameE
  cases okName nm <;> cases okName to <;> cases there M.now nm <;> simp

theorem rename_at (L : LayD) (M : DiskM) (nm to : ByteArray) (B : Nat) (w : World) (h : DiskAt w L M) (hs : nm.size ≤ 4294967296) (ht : to.size ≤ 4294967296) (hB : w.cell? ⟨B, 0, none⟩ = some (.string to)) (n : Nat) (k : Nat) (hn : M.renameE nm to = n) (hk : M.idx2 nm to = k) :
    Calls Try.prog 36 #[.pointer (some ⟨L.d, 0, none⟩), .string nm, .slice (some ⟨B, 0, none⟩) 1 1] w fun e w' => e = .returned (.tuple #[.int .i64 (k : Int), .int .i64 (n : Int)]) ∧ Below w.heap.size w w' :=
  (missing_two L M nm to B w h hs ht hB).mono fun e w' ⟨he, hb⟩ => ⟨by rw [he, hn, hk], hb⟩

theorem str_new (w : World) (s : ByteArray) (t : TypeId) : (w.alloc (.cells #[.string s] t)).cell? ⟨w.heap.size, 0, none⟩ = some (.string s) := cell_of_block (heap_alloc_new w _) 0

set_option maxRecDepth 100000 in
set_option maxHeartbeats 2000000 in
theorem rename_any (L : LayD) (M : DiskM) (nm to : ByteArray) (w : World) (h : DiskAt w L M) (hs : nm.size ≤ 4294967296) (ht : to.size ≤ 4294967296) :
    Calls Try.prog 23 #[.pointer (some ⟨L.d, 0, none⟩), .string nm, .string to] w (Turns L (M.renameM nm to) (M.renameE nm to) w) := by
  have H := Lib.hid h
  have h0 := h.below (below_alloc w (.cells #[.string to] 9))
  have H0 := Lib.hid h0
  clear h h0
  rcases rename_cases M nm to with ⟨hm, hok, hok2, hth⟩ | hm
  · have hidx : M.idx2 nm to = place M.now nm := by unfold DiskM.idx2; rw [hm, if_pos rfl]
    have HM := Lib.hid hm
    have HI := Lib.hid hidx
    obtain ⟨x, hx, hxn⟩ := there_get hth
    have hpl : place M.now nm < M.now.length := (List.getElem?_eq_some_iff.1 hx).1
    have hfew := H.out.fine.few.1
    have HOT := Lib.hid hok2
    have HX := Lib.hid hx
    have hof : M.of nm = x.2 := by unfold DiskM.of; simp [List.getD, hx]
    have HOF := Lib.hid hof
    clear hm hok hok2 hth hx hidx hxn hof
    by_cases hnt : nm = to
    · have HE : Hid (M.renameM nm to = M) := by show _ = _; unfold DiskM.renameM; rw [HM.out, if_pos rfl, if_pos hnt]
      subst hnt
      go_enter Try.func23, Try.ntmps23
      go_wp2_with fail
      refine (rename_at L M nm nm _ _ H0.out hs ht (str_new _ _ _) 0 _ HM.out HI.out).mono ?_
      rintro e w1 ⟨rfl, hb⟩
      have HB := Lib.hid ((below_alloc w _).trans (hb.mono (by simp)))
      clear hb
      go_wp2
      go_ret
      rw [HE.out, HM.out]
      exact turns_same H.out rfl HB.out
    · have hne := toList_ne hnt
      have HE : Hid (M.renameM nm to = { M with now := lay (M.now.eraseIdx (place M.now nm)) to x.2 }) := by show _ = _; unfold DiskM.renameM; rw [HM.out, if_pos rfl, if_neg hnt, HOF.out]
      clear hnt
      go_enter Try.func23, Try.ntmps23
      go_wp2_with fail
      refine (rename_at L M nm to _ _ H0.out hs ht (str_new _ _ _) 0 _ HM.out HI.out).mono ?_
      rintro e w1 ⟨rfl, hb⟩
      have hb1 : Below w.heap.size w w1 := (below_alloc w _).trans (hb.mono (by simp))
      have HB := Lib.hid hb1
      have H1 := Lib.hid (H.out.below hb1)
      have hc1 := H1.out.cell1
      obtain ⟨g, cap, hvn, _, _, hcell⟩ := (rowE_of H1.out.now).lies (by omega)
      have HV := Lib.hid hvn
      rw [hvn] at hc1
      obtain ⟨hx1, hx2⟩ := hcell _ _ HX.out
      obtain ⟨fbi, hfbi⟩ : ∃ fbi, fbi = L.fb.getD x.2 0 := ⟨_, rfl⟩
      rw [← hfbi] at hx2
      have HFB := Lib.hid hfbi
      clear hb hb1 hvn hcell hfbi
      go_wp2_with fail
      rw [← HV.out]
      refine (without_any L.vn M.now.length (place M.now nm) (ents L.fb M.now) w1 H1.out.now (by omega) (ents_one _ _) hpl).mono ?_
      rintro e w2 ⟨v2, rfl, h3, h4, h5⟩
      obtain ⟨ao2, cap2, hv2⟩ := own_slice h3
      have hle : (M.now.eraseIdx (place M.now nm)).length = M.now.length - 1 := by rw [List.length_eraseIdx, if_pos hpl]
      rw [← ents_erase, ← hle] at h3
      have H3 := Lib.hid h3
      have H4 := Lib.hid h4
      have H5 := Lib.hid h5
      have HLE := Lib.hid hle
      have HV2 := Lib.hid hv2
      subst hv2
      clear hx1 hx2 hc1 h3 h4 h5 hle
      go_wp2_with fail
      refine (with_any L.fb _ (M.now.eraseIdx (place M.now nm)) to x.2 fbi w2 H3.out (by rw [HLE.out]; omega) (rise_erase H.out.fine.rise.1 _) ht HFB.out.symm).mono ?_
      rintro e w3 ⟨v3, rfl, k3, k4, k5⟩
      obtain ⟨ao3, cap3, hv3⟩ := own_slice k3
      have hg : w1.grownBy w3 L.vn.ownBlock := grown_two H4.out k4 H5.out
      have hv5 : v3.ownBlock = L.vn.ownBlock ∨ ∃ b, v3.ownBlock = some b ∧ w1.heap.size ≤ b := by
        rcases k5 with k5 | ⟨b, k5, k6⟩
        · rcases H5.out with h5 | ⟨b, h5, h6⟩
          · exact .inl (k5.trans h5)
          · exact .inr ⟨b, k5.trans h5, h6⟩
        · exact .inr ⟨b, k5, by have := H4.out.size; omega⟩
      obtain ⟨hd3, hfz⟩ := H1.out.after hg
      obtain ⟨h6, m6⟩ := H1.out.store hg k3 hv5 (fine_now H.out.fine (lay_rise (rise_erase H.out.fine.rise.1 _) to _) (by rw [lay_length, HLE.out]; split <;> omega) (fun e he => by
        rcases lay_mem he with rfl | he
        · exact ⟨(H.out.fine.id x (.inl (List.mem_of_getElem? HX.out))).1, HOT.out⟩
        · exact H.out.fine.id e (.inl (List.mem_of_mem_eraseIdx he))))
      have HF : Hid (Turns L (M.renameM nm to) (M.renameE nm to) w (.returned (.int .i64 0)) (w3.setCell ⟨L.d, 1, none⟩ v3)) := by
        rw [HE.out, HM.out]
        exact ⟨rfl, _, (Moves.of_below HB.out).trans m6, h6⟩
      subst hv3
      clear k3 k4 k5 h6 m6 hg hv5
      go_wp2
      go_ret
      exact HF.out
  · have hidx : M.idx2 nm to = 0 := by unfold DiskM.idx2; rcases hm with hm | hm <;> rw [hm] <;> rfl
    have HE : Hid (M.renameM nm to = M) := by show _ = _; unfold DiskM.renameM; rcases hm with hm | hm <;> rw [hm] <;> rfl
    have HI := Lib.hid hidx
    clear hidx
    rcases hm with hm | hm
    · have HM := Lib.hid hm
      clear hm
      go_enter Try.func23, Try.ntmps23
      go_wp2_with fail
      refine (rename_at L M nm to _ _ H0.out hs ht (str_new _ _ _) 1 0 HM.out HI.out).mono ?_
      rintro e w1 ⟨rfl, hb⟩
      have HB := Lib.hid ((below_alloc w _).trans (hb.mono (by simp)))
      clear hb
      go_wp2
      go_ret
      rw [HE.out, HM.out]
      exact turns_same H.out rfl HB.out
    · have HM := Lib.hid hm
      clear hm
      go_enter Try.func23, Try.ntmps23
      go_wp2_with fail
      refine (rename_at L M nm to _ _ H0.out hs ht (str_new _ _ _) 7 0 HM.out HI.out).mono ?_
      rintro e w1 ⟨rfl, hb⟩
      have HB := Lib.hid ((below_alloc w _).trans (hb.mono (by simp)))
      clear hb
      go_wp2
      go_ret
      rw [HE.out, HM.out]
      exact turns_same H.out rfl HB.out
end Go.Proofs.Ytkmanpmaflpgoaa
