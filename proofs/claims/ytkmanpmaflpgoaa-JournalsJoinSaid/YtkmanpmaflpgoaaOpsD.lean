/-
  WHAT IS PROVED: contracts of a disk's calls: Names, Append, Read.
-/
import Derived.Test.YtkmanpmaflpgoaaOpsC
namespace Go.Proofs.Ytkmanpmaflpgoaa
open Go.RowKit Go.Lib

/-- a disk behind a turn of its durable directory -/
theorem DiskAt.storeSure {w w' : World} {L : LayD} {M : DiskM} (h : DiskAt w L M) (hb : Below w.heap.size w w') {v' : Value} {l : Dir} (hown : w'.ownsRow w.heap.size 72 2 v' l.length (ents L.fb l)) (hf : DiskM.Fine { M with sure := l }) :
    DiskAt (w'.setCell ⟨L.d, 2, none⟩ v') { L with vs := v' } { M with sure := l } ∧ Moves L w { L with vs := v' } (w'.setCell ⟨L.d, 2, none⟩ v') := by
  have hdl := lt_of_block h.disk
  have setd : ∀ k, k ≠ L.d → (w'.setCell ⟨L.d, 2, none⟩ v').heap[k]? = w'.heap[k]? := fun k hk => Below.heap_setCell w' ⟨L.d, 2, none⟩ v' k hk
  have hd' : w'.heap[L.d]? = some (.cells #[.int .i64 (M.size : Int), L.vn, L.vs] 29 (0, 0)) := (hb.block _ hdl).trans h.disk
  have hnew : ∀ k, v'.ownBlock = some k → w.heap.size ≤ k := fun k hk => (hown.lt k hk).1
  have keep : ∀ {k : Nat} {c : Array Value} {t : TypeId} {fr : Nat × Nat}, w.heap[k]? = some (.cells c t fr) → t ≠ 29 → (w'.setCell ⟨L.d, 2, none⟩ v').heap[k]? = w.heap[k]? := fun hk ht => by
    rw [setd _ (ne_of_block hk h.disk ht)]; exact hb.block _ (lt_of_block hk)
  refine ⟨⟨hf, ?_, ?_, ?_, ?_, h.nfb, h.nvb, ?_, h.fbs, h.vbs⟩, ⟨hb.os, hb.tape, hb.output, by simpa [World.setCell] using hb.size, ?_, ?_, rfl⟩⟩
  · rw [heap_setCell_same w' L.d 2 _ _ v' hd']; rfl
  · exact ownsRow_same h.now fun k hk => by obtain ⟨cur, hc⟩ := ownsRow_block h.now hk; exact keep hc (by decide)
  · exact ownsRow_base (ownsRow_set hown (fun he => by have := hnew _ he; omega)) (fun _ _ => Nat.zero_le _)
  · intro k hk hs
    have := (h.now.lt k hk).2
    have := hnew k hs
    omega
  · intro i f b v h1 h2 h3
    obtain ⟨a1, a2⟩ := h.file i f b v h1 h2 h3
    exact ⟨(keep a1 (by decide)).trans a1, ownsRow_same a2 fun k hk => by obtain ⟨cur, hc⟩ := ownsRow_block a2 hk; exact keep hc (by decide)⟩
  · intro k hk hn
    rw [setd k (fun he => hn (.inl he))]
    exact hb.block k hk
  · rintro k (hk | hk | hk | hk | hk)
    · exact .inl (.inl hk)
    · exact .inl (.inr (.inl hk))
    · exact .inr (hnew k hk)
    · exact .inl (.inr (.inr (.inr (.inl hk))))
    · exact .inl (.inr (.inr (.inr (.inr hk))))

theorem DiskAt.frozen {w : World} {L : LayD} {M : DiskM} (h : DiskAt w L M) (j : Nat) : w.frozen? ⟨L.d, j, none⟩ = false := by simp [World.frozen?, h.disk]

set_option maxRecDepth 100000 in
set_option maxHeartbeats 2000000 in
theorem names_any (L : LayD) (M : DiskM) (w : World) (h : DiskAt w L M) : Calls Try.prog 16 #[.pointer (some ⟨L.d, 0, none⟩)] w (Turns L M.namesM 0 w) := by
  have H := Lib.hid h
  have hc := h.cell0
  have hsz := h.fine.size.1
  have hfew := h.fine.few.1
  clear h
  go_enter Try.func16, Try.ntmps16
  go_wp2_with fail
  refine (none_no L.d M.size w hc hsz).mono ?_
  rintro e w' ⟨rfl, rfl⟩
  have hc1 := H.out.cell1
  go_wp2_with fail
  refine (clone_any L.fb L.vn M.now w (rowE_of H.out.now) (by omega)).mono ?_
  rintro e w1 ⟨v', rfl, h1, h2⟩
  have hc2 := (H.out.below h2).cell2
  have hfz := (H.out.below h2).frozen 2
  obtain ⟨r1, r2⟩ := H.out.storeSure h2 h1 ⟨H.out.fine.size, ⟨H.out.fine.rise.1, H.out.fine.rise.1⟩, ⟨H.out.fine.few.1, H.out.fine.few.1⟩, fun e he => H.out.fine.id e (.inl (by rcases he with he | he <;> exact he)), H.out.fine.file⟩
  have HF : Hid (Turns L M.namesM 0 w (.returned (.int .i64 0)) (w1.setCell ⟨L.d, 2, none⟩ v')) := ⟨rfl, _, r2, r1⟩
  obtain ⟨ao, cap, rfl⟩ := own_slice h1
  clear h1 h2 r1 r2 hc hc1
  go_wp2
  go_ret
  exact HF.out

theorem names_nil (w : World) : Calls Try.prog 16 #[.pointer none] w fun e w' => e = .returned (.int .i64 2) ∧ w = w' := by
  go_enter Try.func16, Try.ntmps16
  go_wp2_with fail
  refine (none_nil w).mono ?_
  rintro e w' ⟨rfl, rfl⟩
  go_wp2
  go_ret
  exact ⟨rfl, rfl⟩
theorem names_zero (d : Nat) (w : World) (hc : w.cell? ⟨d, 0, none⟩ = some (.int .i64 0)) : Calls Try.prog 16 #[.pointer (some ⟨d, 0, none⟩)] w fun e w' => e = .returned (.int .i64 2) ∧ w = w' := by
  go_enter Try.func16, Try.ntmps16
  go_wp2_with fail
  refine (none_zero d w hc).mono ?_
  rintro e w' ⟨rfl, rfl⟩
  go_wp2
  go_ret
  exact ⟨rfl, rfl⟩

/-- where an append to an own row of bytes lies -/
theorem wpList_append_bytes {w : World} {ops : Array Oper} {rest : List Oper} {o : Oper} {a : Act} {Q : Exit → Act → World → Prop} (hgd : o.guard = none) (s x : Operand)
    (ho : o.op = .call { callee := .builtin .append, args := #[s, x], argTypes := #[22, 22] })
    (v : Value) (k : Nat) (xs : List Nat) (hs : a.eval s = v) (hown : w.ownsRow 0 5 1 v k (cells8 xs))
    (ao : Option Addr) (n cap : Nat) (l : List Nat) (hx : a.eval x = .slice ao n cap) (hr : Row8 w ao n cap l) (hbytes : k + n ≤ 1099511627776)
    (h : ∀ v' w', w'.ownsRow 0 5 1 v' (k + n) (cells8 (xs ++ l)) → w.grownBy w' v.ownBlock → (v'.ownBlock = v.ownBlock ∨ ∃ b, v'.ownBlock = some b ∧ w.heap.size ≤ b) → wpList Try.prog ops Q rest (a.put o.dst v') w') : wpList Try.prog ops Q (o :: rest) a w := by
  obtain ⟨i0, hi, hz0, hz1, hz2⟩ := info_parts Try.info8
  cases ao with
  | none =>
    have hc := hr.nil rfl
    have hrm := hr.room
    obtain rfl : n = 0 := by omega
    subst hc
    have hl := List.eq_nil_of_length_eq_zero hr.len
    subst hl
    exact wpList_append_own_none hgd s x 22 ho 0 5 i0 1 Try.underlying22 hi v k (cells8 xs) hs hown hx (h v w (by simpa using hown) (World.grownBy.refl _ _) (.inl rfl))
  | some ad =>
    have hl := hr.len
    have hnews : ∀ j u, (cells8 l)[j]? = some u → w.cell? (ad.add j) = some u := fun j u hu => by
      have hj : j < l.length := by have := (List.getElem?_eq_some_iff.1 hu).1; simpa [cells8] using this
      rw [cells8_getElem? _ _ hj] at hu
      rw [hr.cell ad rfl j (by omega)]; exact hu
    have hnl : (cells8 l).length = n * 1 := by simp [cells8_length, hl]
    have hnl2 : (cells8 l).length = n * i0.size := by rw [hz1]; exact hnl
    obtain ⟨v', w', hrun, h2, h3, h4⟩ := run_append_own (P := Try.prog) w 0 22 o.type 5 i0 (.int .u8 0) 1 1 Try.underlying22 hi hz0 hz1 hz2 rfl (by decide) v k (cells8 xs) hown ad n cap (cells8 l) hnl hnews (cells8_one _) (by unfold maxLen; omega) (by omega) (Nat.zero_le _)
    rw [cells8_append] at h2
    refine wpList_append_run w hgd s x 22 22 ho v _ hs hx v' w' hrun (h v' w' h2 h3 ?_)
    rcases hown.2 with ⟨rfl, rfl⟩ | ⟨g, c, cur, rfl, _, hh, hnc, _, hcs, _⟩
    · rcases Nat.eq_zero_or_pos n with rfl | hn
      · have := h4.2 ⟨rfl, rfl⟩
        subst this; exact .inl rfl
      · have hr2 := run_append_nil (P := Try.prog) w 22 o.type 5 i0 _ Try.underlying22 hi hz0 ad n cap (cells8 l) hnl2 hnews hn (by omega) (by rw [hz2]; omega)
        rw [hr2] at hrun
        simp only [Result.ok.injEq] at hrun
        rw [← hrun.1]
        exact .inr ⟨w.heap.size, rfl, Nat.le_refl _⟩
    · by_cases hroom : k + n ≤ c
      · have hrr := run_append_room (P := Try.prog) w 22 o.type 5 i0 Try.underlying22 hi g k c cur hh ad n cap (cells8 l) hnl2 hnews (cells8_one _) hroom (by rw [hz1, hnl, hcs]; omega)
        rw [hrr] at hrun
        simp only [Result.ok.injEq] at hrun
        rw [← hrun.1]
        exact .inl rfl
      · have holds : ∀ j u, (cells8 xs)[j]? = some u → w.cell? ((⟨g, 0, none⟩ : Addr).add j) = some u := hown.cells (g := g) rfl
        have hgr := run_append_grow (P := Try.prog) w 22 o.type 5 i0 _ Try.underlying22 hi hz0 ⟨g, 0, none⟩ k c (cells8 xs) (by rw [hown.1, hz1]) holds ad n cap (cells8 l) hnl2 hnews (by omega) (by omega) (by rw [hz2]; exact growslice_fits (by omega) (by omega))
        rw [hgr] at hrun
        simp only [Result.ok.injEq] at hrun
        rw [← hrun.1]
        exact .inr ⟨w.heap.size, rfl, Nat.le_refl _⟩

set_option maxRecDepth 100000 in
set_option maxHeartbeats 4000000 in
theorem append_any (L : LayD) (M : DiskM) (nm : ByteArray) (ao : Option Addr) (n cap : Nat) (l : List Nat) (w : World) (h : DiskAt w L M) (hs : nm.size ≤ 4294967296) (hr : Row8 w ao n cap l) :
    Calls Try.prog 21 #[.pointer (some ⟨L.d, 0, none⟩), .string nm, .slice ao n cap] w (Turns L (M.appendM nm l) (M.appendE nm n) w) := by
  have H := Lib.hid h
  have HR := Lib.hid hr
  have hn63 : n ≤ 9223372036854775807 := Nat.le_trans hr.room hr.most
  have hll := hr.len
  have HLL := Lib.hid hll
  clear h hr hll
  have hErr : M.appendE nm n ≠ 0 → M.appendM nm l = M := fun hne => by unfold DiskM.appendM; rw [HLL.out, if_neg hne]
  have HErr := Lib.hid hErr
  clear hErr
  rcases miss_cases M nm with ⟨hm, hok, hth⟩ | ⟨hm, hok⟩ | ⟨hm, hok, hth⟩
  · have HM := Lib.hid hm
    obtain ⟨x, hx, hxn⟩ := there_get hth
    have hpl : place M.now nm < M.now.length := (List.getElem?_eq_some_iff.1 hx).1
    have hof : M.of nm = x.2 := by unfold DiskM.of; simp [List.getD, hx]
    have HX := Lib.hid hx
    have HO := Lib.hid hof
    have hleft : M.left ≤ 8388608 := by have := H.out.fine.size.2; unfold DiskM.left; omega
    clear hm hok hth hx hxn hof
    go_enter Try.func21, Try.ntmps21
    go_wp2_with fail
    refine (missing_0 L M nm w H.out hs HM.out).mono ?_
    rintro e w1 ⟨rfl, hb⟩
    have H1 := Lib.hid (H.out.below hb)
    have HB := Lib.hid hb
    have hc1 := H1.out.cell1
    obtain ⟨g, cp, hvn, _, _, hcell⟩ := (rowE_of H1.out.now).lies (by omega)
    rw [hvn] at hc1
    obtain ⟨hx1, hx2⟩ := hcell _ _ HX.out
    obtain ⟨v, hf1, hf2, hf3, hf4, hf5, hf6, hf7, hf8⟩ := H1.out.of (.inl (List.mem_of_getElem? HX.out))
    generalize L.fb.getD x.2 0 = fbi at *
    have HF1 := Lib.hid hf1
    clear hb hvn hcell hf1
    go_wp2_with fail
    refine (room_any L M w1 H1.out).mono ?_
    rintro e w2 ⟨rfl, hb2⟩
    have H2 := Lib.hid (H1.out.below hb2)
    have HB2 := Lib.hid (below_next HB.out hb2)
    have HR2 := Lib.hid (HR.out.kept HB2.out)
    have hf1' : w2.heap[fbi]? = some (.cells #[v, .int .i64 ((M.file x.2).sure : Int)] 77 (0, 0)) := (hb2.block fbi (lt_of_block HF1.out)).trans HF1.out
    have hf2' : w2.ownsRow 0 5 1 v (M.file x.2).bytes.length (cells8 (M.file x.2).bytes) := ownsRow_same hf2 (fun k hk => hb2.block k (hf2.lt k hk).2)
    obtain ⟨ao2, cap2, hv2⟩ := own_slice hf2
    have hy := cell_of_block hf1' 0
    have hfz : w2.frozen? ⟨fbi, 0, none⟩ = false := by simp [World.frozen?, hf1']
    simp only [List.getElem?_toArray, List.getElem?_cons_zero] at hy
    rw [hv2] at hy
    have HF2 := Lib.hid hf2'
    have HFB := Lib.hid hf1'
    have HV2 := Lib.hid hv2
    have HF6 := Lib.hid hf6
    have HF7 := Lib.hid hf7
    have HF8 := Lib.hid hf8
    have HF5 := Lib.hid hf5
    generalize hle : (M.file x.2).bytes.length = len at *
    have HLE := Lib.hid hle
    generalize hlf : M.left = lf at *
    have HLF := Lib.hid hlf
    clear hb2 hf2 hf1' hf2' hf6 hf7 hf8 hf5 hv2 hle hlf hx1 hx2 hc1
    by_cases hfull : lf < n
    · have hE : M.appendE nm n = 6 := by unfold DiskM.appendE; rw [HM.out, if_pos rfl, HLF.out, if_pos (.inl hfull)]
      have HE := Lib.hid hE
      clear hE
      go_wp2
      go_ret
      rw [HE.out, HErr.out (by rw [HE.out]; decide)]
      exact turns_same H.out rfl HB2.out
    · by_cases hfull2 : 1048576 < len + n
      · have hE : M.appendE nm n = 6 := by unfold DiskM.appendE; rw [HM.out, if_pos rfl, HO.out, HLE.out, if_pos (.inr hfull2)]
        have HE := Lib.hid hE
        have hd : decide ((1048576 : Int) - (len : Int) < (n : Int)) = true := by simp; omega
        clear hE
        go_wp2
        go_ret
        rw [HE.out, HErr.out (by rw [HE.out]; decide)]
        exact turns_same H.out rfl HB2.out
      · have hE : M.appendE nm n = 0 := by unfold DiskM.appendE; rw [HM.out, if_pos rfl, HO.out, HLE.out, HLF.out, if_neg (by omega)]
        have HE : Hid (M.appendM nm l = { M with files := M.files.set x.2 { M.file x.2 with bytes := (M.file x.2).bytes ++ l } }) := by
          show _ = _; unfold DiskM.appendM; rw [HLL.out, hE, if_pos rfl, HO.out]
        have HE0 := Lib.hid hE
        have hd : decide ((1048576 : Int) - (len : Int) < (n : Int)) = false := by simp; omega
        clear hE
        have hv2 := HV2.out
        go_wp2_with (at_builtin; refine wpList_append_bytes rfl _ _ rfl _ _ (M.file x.2).bytes rfl (by rw [← HV2.out]; exact HF2.out) _ _ _ l rfl HR2.out (by omega) ?_)
        intro v' w3 h3 h4 h5
        rw [← HV2.out] at h4 h5
        have hfb3 : w3.heap[fbi]? = some (.cells #[v, .int .i64 ((M.file x.2).sure : Int)] 77 (0, 0)) := (h4.block fbi (lt_of_block HFB.out) (fun he => by
          obtain ⟨cur, hc⟩ := ownsRow_block HF2.out he.symm
          exact ne_of_block hc HFB.out (by decide) rfl)).trans HFB.out
        have hy3 := cell_of_block hfb3 0
        have hfz3 : w3.frozen? ⟨fbi, 0, none⟩ = false := by simp [World.frozen?, hfb3]
        simp only [List.getElem?_toArray, List.getElem?_cons_zero] at hy3
        have hll := HLL.out
        have hbl : (({ M.file x.2 with bytes := (M.file x.2).bytes ++ l } : FileM).bytes).length = len + n := by show ((M.file x.2).bytes ++ l).length = _; rw [List.length_append, HLE.out, hll]
        have hv'f : v'.ownBlock ≠ some fbi := fun he => by
          obtain ⟨cur, hc⟩ := ownsRow_block h3 he
          exact ne_of_block hc hfb3 (by decide) rfl
        obtain ⟨r1, r2⟩ := H2.out.refile (w' := w3.setCell ⟨fbi, 0, none⟩ v') (f' := { M.file x.2 with bytes := (M.file x.2).bytes ++ l }) (v' := v') HF8.out HF7.out HF6.out h4.os h4.tape h4.output (by simpa [World.setCell] using h4.size)
          (by rw [heap_setCell_same w3 fbi 0 _ _ _ hfb3]; rfl) (fun k hk hkb hkv => by rw [Below.heap_setCell w3 ⟨fbi, 0, none⟩ _ k hkb]; exact h4.block k hk (fun he => hkv he.symm))
          (ownsRow_set (by rw [hbl]; exact h3) hv'f) h5 ⟨by rw [hbl]; have := hf4; show (M.file x.2).sure ≤ _; omega, by rw [hbl]; omega, fun y hy => by
            rcases List.mem_append.1 hy with hy | hy
            · exact HF5.out y hy
            · exact HR.out.byte y hy⟩
        have HF : Hid (Turns L (M.appendM nm l) (M.appendE nm n) w (.returned (.int .i64 0)) (w3.setCell ⟨fbi, 0, none⟩ v')) := by
          rw [HE.out, HE0.out]
          exact ⟨rfl, _, (Moves.of_below HB2.out).trans r2, r1⟩
        obtain ⟨ao3, cap3, rfl⟩ := own_slice h3
        clear h3 h4 h5 hfb3 hll hbl hv'f r1 r2
        go_wp2
        go_ret
        exact HF.out
  · have hE : M.appendE nm n = 1 := by unfold DiskM.appendE; rw [hm]; rfl
    have HM := Lib.hid hm
    have HE := Lib.hid hE
    clear hm hok hE
    go_enter Try.func21, Try.ntmps21
    go_wp2_with fail
    refine (missing_1 L M nm w H.out hs HM.out).mono ?_
    rintro e w1 ⟨rfl, hb⟩
    have HB := Lib.hid hb
    clear hb
    go_wp2
    go_ret
    rw [HE.out, HErr.out (by rw [HE.out]; decide)]
    exact turns_same H.out rfl HB.out
  · have hE : M.appendE nm n = 7 := by unfold DiskM.appendE; rw [hm]; rfl
    have HM := Lib.hid hm
    have HE := Lib.hid hE
    clear hm hok hE hth
    go_enter Try.func21, Try.ntmps21
    go_wp2_with fail
    refine (missing_7 L M nm w H.out hs HM.out).mono ?_
    rintro e w1 ⟨rfl, hb⟩
    have HB := Lib.hid hb
    clear hb
    go_wp2
    go_ret
    rw [HE.out, HErr.out (by rw [HE.out]; decide)]
    exact turns_same H.out rfl HB.out
end Go.Proofs.Ytkmanpmaflpgoaa
