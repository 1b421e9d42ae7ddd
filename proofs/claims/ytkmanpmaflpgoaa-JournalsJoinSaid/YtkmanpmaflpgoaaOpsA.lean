/-
  WHAT IS PROVED: contracts of a disk's calls: Create, Remove, Rename, Sync, Names, Size.
-/
import Derived.Test.YtkmanpmaflpgoaaStore
namespace Go.Proofs.Ytkmanpmaflpgoaa
open Go.RowKit Go.Lib

theorem miss_cases (M : DiskM) (nm : ByteArray) : (M.miss nm = 0 ∧ okName nm = true ∧ there M.now nm = true) ∨ (M.miss nm = 1 ∧ okName nm = false) ∨ (M.miss nm = 7 ∧ okName nm = true ∧ there M.now nm = false) := by
  unfold DiskM.miss
  cases okName nm <;> cases there M.now nm <;> simp

theorem missing_0 (L : LayD) (M : DiskM) (nm : ByteArray) (w : World) (h : DiskAt w L M) (hs : nm.size ≤ 4294967296) (hm : M.miss nm = 0) :
    Calls Try.prog 36 #[.pointer (some ⟨L.d, 0, none⟩), .string nm, .slice none 0 0] w fun e w' => e = .returned (.tuple #[.int .i64 (place M.now nm : Nat), .int .i64 0]) ∧ Below w.heap.size w w' :=
  (missing_any L M nm w h hs).mono fun e w' ⟨he, hb⟩ => ⟨by rw [he]; unfold DiskM.idx; rw [hm]; rfl, hb⟩
theorem missing_1 (L : LayD) (M : DiskM) (nm : ByteArray) (w : World) (h : DiskAt w L M) (hs : nm.size ≤ 4294967296) (hm : M.miss nm = 1) :
    Calls Try.prog 36 #[.pointer (some ⟨L.d, 0, none⟩), .string nm, .slice none 0 0] w fun e w' => e = .returned (.tuple #[.int .i64 0, .int .i64 1]) ∧ Below w.heap.size w w' :=
  (missing_any L M nm w h hs).mono fun e w' ⟨he, hb⟩ => ⟨by rw [he]; unfold DiskM.idx; rw [hm]; rfl, hb⟩
theorem missing_7 (L : LayD) (M : DiskM) (nm : ByteArray) (w : World) (h : DiskAt w L M) (hs : nm.size ≤ 4294967296) (hm : M.miss nm = 7) :
    Calls Try.prog 36 #[.pointer (some ⟨L.d, 0, none⟩), .string nm, .slice none 0 0] w fun e w' => e = .returned (.tuple #[.int .i64 0, .int .i64 7]) ∧ Below w.heap.size w w' :=
  (missing_any L M nm w h hs).mono fun e w' ⟨he, hb⟩ => ⟨by rw [he]; unfold DiskM.idx; rw [hm]; rfl, hb⟩

/-- what a call that tells an error leaves of a disk -/
def Turns (L : LayD) (M' : DiskM) (n : Nat) (w : World) (e : Ending) (w' : World) : Prop :=
  e = .returned (.int .i64 (n : Int)) ∧ ∃ L', Moves L w L' w' ∧ DiskAt w' L' M'

theorem turns_same {L : LayD} {M : DiskM} {n : Nat} {w w' : World} {e : Ending} (h : DiskAt w L M) (he : e = .returned (.int .i64 (n : Int))) (hb : Below w.heap.size w w') : Turns L M n w e w' :=
  ⟨he, L, Moves.of_below hb, h.below hb⟩

/-- where a file is made that no name leads to yet -/
theorem DiskAt.more {w : World} {L : LayD} {M : DiskM} (h : DiskAt w L M) :
    DiskAt (w.alloc (.cells #[.slice none 0 0, .int .i64 0] 77)) { L with fb := L.fb ++ [w.heap.size], vb := L.vb ++ [.slice none 0 0] } { M with files := M.files ++ [⟨[], 0⟩] } ∧
      Moves L w { L with fb := L.fb ++ [w.heap.size], vb := L.vb ++ [.slice none 0 0] } (w.alloc (.cells #[.slice none 0 0, .int .i64 0] 77)) := by
  have old : ∀ k, k < w.heap.size → (w.alloc (.cells #[.slice none 0 0, .int .i64 0] 77)).heap[k]? = w.heap[k]? := fun k hk => Below.heap_alloc _ _ _ hk
  have hget : ∀ e, e ∈ M.now ∨ e ∈ M.sure → (L.fb ++ [w.heap.size]).getD e.2 0 = L.fb.getD e.2 0 := fun e he => by
    have := (h.fine.id e he).1
    rw [← h.nfb] at this
    simp only [List.getD, List.getElem?_append_left this]
  refine ⟨⟨⟨h.fine.size, h.fine.rise, h.fine.few, ?_, ?_⟩, (old _ (lt_of_block h.disk)).trans h.disk, ?_, ?_, h.ap, by simp [h.nfb], by simp [h.nvb], ?_, ?_, ?_⟩, ⟨rfl, rfl, rfl, by simp, fun k hk _ => old k hk, ?_, rfl⟩⟩
  · intro e he
    have := h.fine.id e he
    exact ⟨by simp; omega, this.2⟩
  · intro f hf
    rcases List.mem_append.1 hf with hf | hf
    · exact h.fine.file f hf
    · simp at hf; subst hf; exact ⟨Nat.le_refl _, Nat.zero_le _, fun x hx => by simp at hx⟩
  · show World.ownsRow _ _ _ _ _ _ (ents (L.fb ++ [w.heap.size]) M.now)
    rw [ents_more _ _ _ (fun e he => hget e (.inl he))]
    exact h.now.alloc _
  · show World.ownsRow _ _ _ _ _ _ (ents (L.fb ++ [w.heap.size]) M.sure)
    rw [ents_more _ _ _ (fun e he => hget e (.inr he))]
    exact h.sure.alloc _
  · intro i f b v h1 h2 h3
    by_cases hi : i < M.files.length
    · have h1' : M.files[i]? = some f := by rw [← h1]; exact (List.getElem?_append_left hi).symm
      have h2' : L.fb[i]? = some b := by rw [← h2]; exact (List.getElem?_append_left (by rw [h.nfb]; exact hi)).symm
      have h3' : L.vb[i]? = some v := by rw [← h3]; exact (List.getElem?_append_left (by rw [h.nvb]; exact hi)).symm
      obtain ⟨a1, a2⟩ := h.file i f b v h1' h2' h3'
      exact ⟨(old b (lt_of_block a1)).trans a1, a2.alloc _⟩
    · have hi2 : i = M.files.length := by
        have := (List.getElem?_eq_some_iff.1 h1).1
        simp at this; omega
      subst hi2
      have e1 : (L.fb ++ [w.heap.size])[M.files.length]? = some w.heap.size := by rw [← h.nfb]; simp
      have e2 : (L.vb ++ [.slice none 0 0])[M.files.length]? = some (.slice none 0 0) := by rw [← h.nvb]; simp
      have e3 : (M.files ++ [⟨[], 0⟩])[M.files.length]? = some (⟨[], 0⟩ : FileM) := by simp
      have h1' : (M.files ++ [⟨[], 0⟩])[M.files.length]? = some f := h1
      have h2' : (L.fb ++ [w.heap.size])[M.files.length]? = some b := h2
      have h3' : (L.vb ++ [.slice none 0 0])[M.files.length]? = some v := h3
      rw [e3] at h1'; rw [e1] at h2'; rw [e2] at h3'
      cases h1'; cases h2'; cases h3'
      exact ⟨heap_alloc_new w _, World.ownsRow_nil _ _ _ _⟩
  · have lt : ∀ k ∈ L.fb, k < w.heap.size := fun k hk => h.lt k (.inr (.inr (.inr (.inl hk))))
    intro i j b hi hj
    have hi' : (L.fb ++ [w.heap.size])[i]? = some b := hi
    have hj' : (L.fb ++ [w.heap.size])[j]? = some b := hj
    rw [List.getElem?_append] at hi' hj'
    split at hi'
    · split at hj'
      · exact h.fbs i j b hi' hj'
      · simp only [List.getElem?_singleton] at hj'
        split at hj'
        · simp at hj'; have := lt b (List.mem_of_getElem? hi'); omega
        · simp at hj'
    · split at hj'
      · simp only [List.getElem?_singleton] at hi'
        split at hi'
        · simp at hi'; have := lt b (List.mem_of_getElem? hj'); omega
        · simp at hi'
      · simp only [List.getElem?_singleton] at hi' hj'
        split at hi' <;> split at hj' <;> simp at hi' hj'
        omega
  · intro i j v v' k hi hj hv hv'
    have hi' : (L.vb ++ [.slice none 0 0])[i]? = some v := hi
    have hj' : (L.vb ++ [.slice none 0 0])[j]? = some v' := hj
    rw [List.getElem?_append] at hi' hj'
    split at hi'
    · split at hj'
      · exact h.vbs i j v v' k hi' hj' hv hv'
      · simp only [List.getElem?_singleton] at hj'
        split at hj'
        · cases hj'; simp [Value.ownBlock] at hv'
        · simp at hj'
    · simp only [List.getElem?_singleton] at hi'
      split at hi'
      · cases hi'; simp [Value.ownBlock] at hv
      · simp at hi'
  · rintro k (hk | hk | hk | hk | ⟨v, hv, hk⟩)
    · exact .inl (.inl hk)
    · exact .inl (.inr (.inl hk))
    · exact .inl (.inr (.inr (.inl hk)))
    · rcases List.mem_append.1 hk with hk | hk
      · exact .inl (.inr (.inr (.inr (.inl hk))))
      · simp at hk; exact .inr (by omega)
    · rcases List.mem_append.1 hv with hv | hv
      · exact .inl (.inr (.inr (.inr (.inr ⟨v, hv, hk⟩))))
      · simp at hv; subst hv; simp [Value.ownBlock] at hk

set_option maxRecDepth 100000 in
set_option maxHeartbeats 2000000 in
theorem create_any (L : LayD) (M : DiskM) (nm : ByteArray) (w : World) (h : DiskAt w L M) (hs : nm.size ≤ 4294967296) :
    Calls Try.prog 20 #[.pointer (some ⟨L.d, 0, none⟩), .string nm] w (Turns L (M.createM nm) (M.createE nm) w) := by
  have H := Lib.hid h
  clear h
  rcases miss_cases M nm with ⟨hm, hok, hth⟩ | ⟨hm, hok⟩ | ⟨hm, hok, hth⟩
  · have HE : Hid (M.createE nm = 8 ∧ M.createM nm = M) := by
      have e1 : M.createE nm = 8 := by unfold DiskM.createE; rw [hok, hth]; rfl
      exact ⟨e1, by unfold DiskM.createM; rw [e1]; rfl⟩
    have HM := Lib.hid hm
    clear hm hok hth
    go_enter Try.func20, Try.ntmps20
    go_wp2_with fail
    refine (missing_0 L M nm w H.out hs HM.out).mono ?_
    rintro e w1 ⟨rfl, hb⟩
    have HB := Lib.hid hb
    clear hb
    go_wp2
    go_ret
    rw [HE.out.1, HE.out.2]
    exact turns_same H.out rfl HB.out
  · have HE : Hid (M.createE nm = 1 ∧ M.createM nm = M) := by
      have e1 : M.createE nm = 1 := by unfold DiskM.createE; rw [hok]; rfl
      exact ⟨e1, by unfold DiskM.createM; rw [e1]; rfl⟩
    have HM := Lib.hid hm
    clear hm hok
    go_enter Try.func20, Try.ntmps20
    go_wp2_with fail
    refine (missing_1 L M nm w H.out hs HM.out).mono ?_
    rintro e w1 ⟨rfl, hb⟩
    have HB := Lib.hid hb
    clear hb
    go_wp2
    go_ret
    rw [HE.out.1, HE.out.2]
    exact turns_same H.out rfl HB.out
  · have HM := Lib.hid hm
    have HT := Lib.hid hth
    have HO := Lib.hid hok
    clear hm hth hok
    by_cases hfull : 64 ≤ M.now.length
    · have HE : Hid (M.createE nm = 6 ∧ M.createM nm = M) := by
        have e1 : M.createE nm = 6 := by unfold DiskM.createE; rw [HO.out, HT.out, if_pos hfull]; rfl
        exact ⟨e1, by unfold DiskM.createM; rw [e1]; rfl⟩
      go_enter Try.func20, Try.ntmps20
      go_wp2_with fail
      refine (missing_7 L M nm w H.out hs HM.out).mono ?_
      rintro e w1 ⟨rfl, hb⟩
      have HB := Lib.hid hb
      have hc1 := (H.out.below hb).cell1
      obtain ⟨ao, cap, hvn⟩ := own_slice H.out.now
      rw [hvn] at hc1
      clear hb hvn
      go_wp2
      go_ret
      rw [HE.out.1, HE.out.2]
      exact turns_same H.out rfl HB.out
    · have hE : M.createE nm = 0 := by unfold DiskM.createE; rw [HO.out, HT.out, if_neg hfull]; rfl
      have HE : Hid (M.createE nm = 0 ∧ M.createM nm = { M with now := lay M.now nm M.files.length, files := M.files ++ [⟨[], 0⟩] }) := ⟨hE, by unfold DiskM.createM; rw [hE]; rfl⟩
      clear hE
      go_enter Try.func20, Try.ntmps20
      go_wp2_with fail
      refine (missing_7 L M nm w H.out hs HM.out).mono ?_
      rintro e w1 ⟨rfl, hb⟩
      have H1 := Lib.hid (H.out.below hb)
      have HB := Lib.hid hb
      have hc1 := H1.out.cell1
      obtain ⟨ao, cap, hvn⟩ := own_slice H.out.now
      have HV := Lib.hid hvn
      rw [hvn] at hc1
      clear hb hvn
      go_wp2_with fail
      obtain ⟨h2, m2⟩ := H1.out.more
      have H2 := Lib.hid h2
      have M2 := Lib.hid m2
      have hnew : (L.fb ++ [w1.heap.size]).getD M.files.length 0 = w1.heap.size := by simp [List.getD, ← H.out.nfb]
      rw [← HV.out]
      refine (with_any (L.fb ++ [w1.heap.size]) L.vn M.now nm M.files.length w1.heap.size _ h2.now (by omega) H.out.fine.rise.1 hs hnew).mono ?_
      rintro e w3 ⟨v', rfl, h3, h4, h5⟩
      obtain ⟨ao3, cap3, hv3⟩ := own_slice h3
      obtain ⟨h6, m6⟩ := H2.out.store h4 h3 h5 (by
        refine ⟨H2.out.fine.size, ⟨lay_rise H.out.fine.rise.1 nm _, H.out.fine.rise.2⟩, ⟨?_, H.out.fine.few.2⟩, ?_, H2.out.fine.file⟩
        · show (lay M.now nm M.files.length).length ≤ 64
          rw [lay_length, HT.out]; simp; omega
        · rintro e (he | he)
          · rcases lay_mem he with rfl | he
            · exact ⟨by simp, HO.out⟩
            · exact H2.out.fine.id e (.inl he)
          · exact H2.out.fine.id e (.inr he))
      have HF : Hid (Turns L (M.createM nm) (M.createE nm) w (.returned (.int .i64 0)) (w3.setCell ⟨L.d, 1, none⟩ v')) := by
        rw [HE.out.1, HE.out.2]
        exact ⟨rfl, _, ((Moves.of_below HB.out).trans M2.out).trans m6, h6⟩
      have hd3 : w3.cell? ⟨L.d, 1, none⟩ = some L.vn := by
        have hdb : w3.heap[L.d]? = some (.cells #[.int .i64 (M.size : Int), L.vn, L.vs] 29 (0, 0)) := (h4.block L.d (lt_of_block H2.out.disk) (fun he => by
          obtain ⟨cur, hc⟩ := ownsRow_block H2.out.now he.symm
          exact ne_of_block hc H2.out.disk (by decide) rfl)).trans H2.out.disk
        exact cell_of_block hdb 1
      have hfz : w3.frozen? ⟨L.d, 1, none⟩ = false := by
        have hdb : w3.heap[L.d]? = some (.cells #[.int .i64 (M.size : Int), L.vn, L.vs] 29 (0, 0)) := (h4.block L.d (lt_of_block H2.out.disk) (fun he => by
          obtain ⟨cur, hc⟩ := ownsRow_block H2.out.now he.symm
          exact ne_of_block hc H2.out.disk (by decide) rfl)).trans H2.out.disk
        simp [World.frozen?, hdb]
      subst hv3
      clear h2 m2 h3 h4 h5 h6 m6
      go_wp2
      go_ret
      exact HF.out
end Go.Proofs.Ytkmanpmaflpgoaa
