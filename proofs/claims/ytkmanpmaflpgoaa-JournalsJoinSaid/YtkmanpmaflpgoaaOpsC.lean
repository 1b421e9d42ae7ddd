/-
  WHAT IS PROVED: contracts of a disk's calls: Size, Sync, Names, Append, Read.
-/
import Derived.Test.YtkmanpmaflpgoaaOpsB
namespace Go.Proofs.Ytkmanpmaflpgoaa
open Go.RowKit Go.Lib

set_option maxRecDepth 100000 in
set_option maxHeartbeats 2000000 in
theorem size_any (L : LayD) (M : DiskM) (nm : ByteArray) (w : World) (h : DiskAt w L M) (hs : nm.size ≤ 4294967296) :
    Calls Try.prog 28 #[.pointer (some ⟨L.d, 0, none⟩), .string nm] w fun e w' => e = .returned (.tuple #[.int .i64 (M.sizeN nm : Nat), .int .i64 (M.miss nm : Nat)]) ∧ Below w.heap.size w w' := by
  have H := Lib.hid h
  clear h
  rcases miss_cases M nm with ⟨hm, hok, hth⟩ | ⟨hm, hok⟩ | ⟨hm, hok, hth⟩
  · have HM := Lib.hid hm
    obtain ⟨x, hx, hxn⟩ := there_get hth
    have hpl : place M.now nm < M.now.length := (List.getElem?_eq_some_iff.1 hx).1
    have hof : M.of nm = x.2 := by unfold DiskM.of; simp [List.getD, hx]
    have HE : Hid (M.sizeN nm = (M.file x.2).bytes.length) := by show _ = _; unfold DiskM.sizeN; rw [hm, if_pos rfl, hof]
    have HX := Lib.hid hx
    clear hm hok hth hx hxn hof
    go_enter Try.func28, Try.ntmps28
    go_wp2_with fail
    refine (missing_0 L M nm w H.out hs HM.out).mono ?_
    rintro e w1 ⟨rfl, hb⟩
    have H1 := Lib.hid (H.out.below hb)
    have HB := Lib.hid hb
    have hc1 := H1.out.cell1
    obtain ⟨g, cap, hvn, _, _, hcell⟩ := (rowE_of H1.out.now).lies (by omega)
    rw [hvn] at hc1
    obtain ⟨hx1, hx2⟩ := hcell _ _ HX.out
    obtain ⟨v, hf1, hf2, hf3, _⟩ := H1.out.of (.inl (List.mem_of_getElem? HX.out))
    obtain ⟨ao2, cap2, rfl⟩ := own_slice hf2
    generalize L.fb.getD x.2 0 = fbi at *
    have hy := cell_of_block hf1 0
    simp only [List.getElem?_toArray, List.getElem?_cons_zero] at hy
    clear hb hvn hcell hf1 hf2
    go_wp2
    go_ret2
    exact ⟨by rw [HE.out, HM.out]; rfl, HB.out⟩
  · have HM := Lib.hid hm
    have HE : Hid (M.sizeN nm = 0) := by show _ = _; unfold DiskM.sizeN; rw [hm]; rfl
    clear hm hok
    go_enter Try.func28, Try.ntmps28
    go_wp2_with fail
    refine (missing_1 L M nm w H.out hs HM.out).mono ?_
    rintro e w1 ⟨rfl, hb⟩
    have HB := Lib.hid hb
    clear hb
    go_wp2
    go_ret2
    exact ⟨by rw [HE.out, HM.out]; rfl, HB.out⟩
  · have HM := Lib.hid hm
    have HE : Hid (M.sizeN nm = 0) := by show _ = _; unfold DiskM.sizeN; rw [hm]; rfl
    clear hm hok hth
    go_enter Try.func28, Try.ntmps28
    go_wp2_with fail
    refine (missing_7 L M nm w H.out hs HM.out).mono ?_
    rintro e w1 ⟨rfl, hb⟩
    have HB := Lib.hid hb
    clear hb
    go_wp2
    go_ret2
    exact ⟨by rw [HE.out, HM.out]; rfl, HB.out⟩

/-- a disk behind a turn of one file -/
theorem DiskAt.refile {w w' : World} {L : LayD} {M : DiskM} (h : DiskAt w L M) {i : Nat} {f f' : FileM} {b : Nat} {v v' : Value} (h1 : M.files[i]? = some f) (h2 : L.fb[i]? = some b) (h3 : L.vb[i]? = some v)
    (hos : w'.os = w.os) (htp : w'.tape = w.tape) (hou : w'.output = w.output) (hsz : w.heap.size ≤ w'.heap.size)
    (hb : w'.heap[b]? = some (.cells #[v', .int .i64 (f'.sure : Int)] 77 (0, 0))) (old : ∀ k, k < w.heap.size → k ≠ b → v.ownBlock ≠ some k → w'.heap[k]? = w.heap[k]?)
    (hown : w'.ownsRow 0 5 1 v' f'.bytes.length (cells8 f'.bytes)) (hv : v'.ownBlock = v.ownBlock ∨ ∃ g, v'.ownBlock = some g ∧ w.heap.size ≤ g)
    (hf : f'.sure ≤ f'.bytes.length ∧ f'.bytes.length ≤ 1048576 ∧ ∀ x ∈ f'.bytes, x < 256) :
    DiskAt w' { L with vb := L.vb.set i v' } { M with files := M.files.set i f' } ∧ Moves L w { L with vb := L.vb.set i v' } w' := by
  obtain ⟨a1, a2⟩ := h.file i f b v h1 h2 h3
  have hil := (List.getElem?_eq_some_iff.1 h1).1
  have hvt : ∀ k, v.ownBlock = some k → ∃ cur, w.heap[k]? = some (.cells cur 5 (0, 0)) := fun k hk => ownsRow_block a2 hk
  have keep : ∀ {k : Nat} {c : Array Value} {t : TypeId} {fr : Nat × Nat}, w.heap[k]? = some (.cells c t fr) → t ≠ 77 → t ≠ 5 → w'.heap[k]? = w.heap[k]? := fun hk ht1 ht2 =>
    old _ (lt_of_block hk) (ne_of_block hk a1 ht1) (fun hv => by obtain ⟨cur, hc⟩ := hvt _ hv; exact ne_of_block hk hc ht2 rfl)
  refine ⟨⟨⟨h.fine.size, h.fine.rise, h.fine.few, fun e he => ?_, fun x hx => ?_⟩, (keep h.disk (by decide) (by decide)).trans h.disk, ?_, ?_, h.ap, by simp [h.nfb], by simp [h.nvb], ?_, h.fbs, ?_⟩, ⟨hos, htp, hou, hsz, fun k hk hn => ?_, ?_, rfl⟩⟩
  · have := h.fine.id e he
    exact ⟨by simpa using this.1, this.2⟩
  · rcases List.mem_or_eq_of_mem_set hx with hx | rfl
    · exact h.fine.file x hx
    · exact hf
  · exact ownsRow_same h.now fun k hk => by obtain ⟨cur, hc⟩ := ownsRow_block h.now hk; exact keep hc (by decide) (by decide)
  · exact ownsRow_same h.sure fun k hk => by obtain ⟨cur, hc⟩ := ownsRow_block h.sure hk; exact keep hc (by decide) (by decide)
  · intro j fj bj vj g1 g2 g3
    have g1' : (M.files.set i f')[j]? = some fj := g1
    have g2' : L.fb[j]? = some bj := g2
    have g3' : (L.vb.set i v')[j]? = some vj := g3
    by_cases hij : i = j
    · subst hij
      rw [List.getElem?_set_self hil] at g1'
      rw [List.getElem?_set_self (by rw [h.nvb]; exact hil)] at g3'
      rw [h2] at g2'
      cases g1'; cases g2'; cases g3'
      exact ⟨hb, hown⟩
    · rw [List.getElem?_set_ne hij] at g1' g3'
      obtain ⟨c1, c2⟩ := h.file j fj bj vj g1' g2' g3'
      have hbj : bj ≠ b := fun he => hij (h.fbs i j b h2 (he ▸ g2'))
      refine ⟨(old bj (lt_of_block c1) hbj (fun he => by obtain ⟨cur, hc⟩ := hvt _ he; exact ne_of_block c1 hc (by decide) rfl)).trans c1, ownsRow_same c2 (fun k hk => ?_)⟩
      obtain ⟨cur, hc⟩ := ownsRow_block c2 hk
      exact old k (lt_of_block hc) (ne_of_block hc a1 (by decide)) (fun he => hij (h.vbs i j v vj k h3 g3' he hk))
  · intro j k vj vk q hj hk hvj hvk
    have hj' : (L.vb.set i v')[j]? = some vj := hj
    have hk' : (L.vb.set i v')[k]? = some vk := hk
    have lt : ∀ (m : Nat) (u : Value), L.vb[m]? = some u → u.ownBlock = some q → q < w.heap.size := fun m u hm hu => h.lt q (.inr (.inr (.inr (.inr ⟨u, List.mem_of_getElem? hm, hu⟩))))
    have hvl : i < L.vb.length := by rw [h.nvb]; exact hil
    by_cases hij : i = j
    · by_cases hik : i = k
      · omega
      · subst hij
        rw [List.getElem?_set_self hvl] at hj'
        rw [List.getElem?_set_ne hik] at hk'
        cases hj'
        rcases hv with hv | ⟨g, hv, hg⟩
        · exact h.vbs i k v vk q h3 hk' (hv ▸ hvj) hvk
        · rw [hv] at hvj; cases hvj
          have := lt k vk hk' hvk
          omega
    · rw [List.getElem?_set_ne hij] at hj'
      by_cases hik : i = k
      · subst hik
        rw [List.getElem?_set_self hvl] at hk'
        cases hk'
        rcases hv with hv | ⟨g, hv, hg⟩
        · exact h.vbs j i vj v q hj' h3 hvj (hv ▸ hvk)
        · rw [hv] at hvk; cases hvk
          have := lt j vj hj' hvj
          omega
      · rw [List.getElem?_set_ne hik] at hk'
        exact h.vbs j k vj vk q hj' hk' hvj hvk
  · exact old k hk (fun he => hn (.inr (.inr (.inr (.inl (he ▸ List.mem_of_getElem? h2)))))) (fun he => hn (.inr (.inr (.inr (.inr ⟨v, List.mem_of_getElem? h3, he⟩)))))
  · rintro k (hk | hk | hk | hk | ⟨u, hu, hk⟩)
    · exact .inl (.inl hk)
    · exact .inl (.inr (.inl hk))
    · exact .inl (.inr (.inr (.inl hk)))
    · exact .inl (.inr (.inr (.inr (.inl hk))))
    · rcases List.mem_or_eq_of_mem_set hu with hu | rfl
      · exact .inl (.inr (.inr (.inr (.inr ⟨u, hu, hk⟩))))
      · rcases hv with hv | ⟨g, hv, hg⟩
        · exact .inl (.inr (.inr (.inr (.inr ⟨v, List.mem_of_getElem? h3, hv ▸ hk⟩))))
        · rw [hv] at hk; cases hk; exact .inr hg

set_option maxRecDepth 100000 in
set_option maxHeartbeats 2000000 in
theorem sync_any (L : LayD) (M : DiskM) (nm : ByteArray) (w : World) (h : DiskAt w L M) (hs : nm.size ≤ 4294967296) :
    Calls Try.prog 30 #[.pointer (some ⟨L.d, 0, none⟩), .string nm] w (Turns L (M.syncM nm) (M.miss nm) w) := by
  have H := Lib.hid h
  clear h
  rcases miss_cases M nm with ⟨hm, hok, hth⟩ | ⟨hm, hok⟩ | ⟨hm, hok, hth⟩
  · have HM := Lib.hid hm
    obtain ⟨x, hx, hxn⟩ := there_get hth
    have hpl : place M.now nm < M.now.length := (List.getElem?_eq_some_iff.1 hx).1
    have hof : M.of nm = x.2 := by unfold DiskM.of; simp [List.getD, hx]
    have HE : Hid (M.syncM nm = { M with files := M.files.set x.2 { M.file x.2 with sure := (M.file x.2).bytes.length } }) := by show _ = _; unfold DiskM.syncM; rw [hm, if_pos rfl, hof]
    have HX := Lib.hid hx
    clear hm hok hth hx hxn hof
    go_enter Try.func30, Try.ntmps30
    go_wp2_with fail
    refine (missing_0 L M nm w H.out hs HM.out).mono ?_
    rintro e w1 ⟨rfl, hb⟩
    have H1 := Lib.hid (H.out.below hb)
    have HB := Lib.hid hb
    have hc1 := H1.out.cell1
    obtain ⟨g, cap, hvn, _, _, hcell⟩ := (rowE_of H1.out.now).lies (by omega)
    rw [hvn] at hc1
    obtain ⟨hx1, hx2⟩ := hcell _ _ HX.out
    obtain ⟨v, hf1, hf2, hf3, hf4, hf5, hf6, hf7, hf8⟩ := H1.out.of (.inl (List.mem_of_getElem? HX.out))
    obtain ⟨ao2, cap2, hv2⟩ := own_slice hf2
    generalize L.fb.getD x.2 0 = fbi at *
    have hy := cell_of_block hf1 0
    have hy1 := cell_of_block hf1 1
    have hfz : w1.frozen? ⟨fbi, 1, none⟩ = false := by simp [World.frozen?, hf1]
    simp only [List.getElem?_toArray, List.getElem?_cons_zero, List.getElem?_cons_succ] at hy hy1
    obtain ⟨r1, r2⟩ := H1.out.refile (w' := w1.setCell ⟨fbi, 1, none⟩ (.int .i64 ((M.file x.2).bytes.length : Int))) (f' := { M.file x.2 with sure := (M.file x.2).bytes.length }) (v' := v) hf8 hf7 hf6 rfl rfl rfl (by simp [World.setCell])
      (by rw [heap_setCell_same w1 (fbi) 1 _ _ _ hf1]; rfl) (fun k _ hk _ => Below.heap_setCell w1 ⟨fbi, 1, none⟩ _ k hk)
      (ownsRow_set hf2 (fun he => by obtain ⟨cur, hc⟩ := ownsRow_block hf2 he; exact ne_of_block hc hf1 (by decide) rfl)) (.inl rfl) ⟨Nat.le_refl _, hf3, hf5⟩
    have HF : Hid (Turns L (M.syncM nm) (M.miss nm) w (.returned (.int .i64 0)) (w1.setCell ⟨fbi, 1, none⟩ (.int .i64 ((M.file x.2).bytes.length : Int)))) := by
      rw [HE.out, HM.out]
      exact ⟨rfl, _, (Moves.of_below HB.out).trans r2, r1⟩
    subst hv2
    clear hb hvn hcell hf1 hf2 hf6 hf7 hf8 r1 r2 hf5
    go_wp2
    go_ret
    exact HF.out
  · have HM := Lib.hid hm
    have HE : Hid (M.syncM nm = M) := by show _ = _; unfold DiskM.syncM; rw [hm]; rfl
    clear hm hok
    go_enter Try.func30, Try.ntmps30
    go_wp2_with fail
    refine (missing_1 L M nm w H.out hs HM.out).mono ?_
    rintro e w1 ⟨rfl, hb⟩
    have HB := Lib.hid hb
    clear hb
    go_wp2
    go_ret
    rw [HE.out, HM.out]
    exact turns_same H.out rfl HB.out
  · have HM := Lib.hid hm
    have HE : Hid (M.syncM nm = M) := by show _ = _; unfold DiskM.syncM; rw [hm]; rfl
    clear hm hok hth
    go_enter Try.func30, Try.ntmps30
    go_wp2_with fail
    refine (missing_7 L M nm w H.out hs HM.out).mono ?_
    rintro e w1 ⟨rfl, hb⟩
    have HB := Lib.hid hb
    clear hb
    go_wp2
    go_ret
    rw [HE.out, HM.out]
    exact turns_same H.out rfl HB.out
end Go.Proofs.Ytkmanpmaflpgoaa
