/-
  WHAT IS PROVED: contracts of journals: none, Add, Sync.
-/
import Derived.Test.YtkmanpmaflpgoaaJOpen
namespace Go.Proofs.Ytkmanpmaflpgoaa
open Go.RowKit Go.Lib

theorem jnone_nil (w : World) : Calls Try.prog 27 #[.pointer none] w fun e w' => e = .returned (.bool true) ∧ w = w' := by
  go_enter Try.func27, Try.ntmps27
  go_wp2
  go_ret
  exact ⟨rfl, rfl⟩
theorem jnone_zero (j : Nat) (w : World) (hc : w.cell? ⟨j, 0, none⟩ = some (.pointer none)) : Calls Try.prog 27 #[.pointer (some ⟨j, 0, none⟩)] w fun e w' => e = .returned (.bool true) ∧ w = w' := by
  go_enter Try.func27, Try.ntmps27
  go_wp2
  go_ret
  exact ⟨rfl, rfl⟩
theorem jnone_no (j d : Nat) (w : World) (hc : w.cell? ⟨j, 0, none⟩ = some (.pointer (some ⟨d, 0, none⟩))) : Calls Try.prog 27 #[.pointer (some ⟨j, 0, none⟩)] w fun e w' => e = .returned (.bool false) ∧ w = w' := by
  go_enter Try.func27, Try.ntmps27
  go_wp2
  go_ret
  exact ⟨rfl, rfl⟩

def DiskM.addE (M : DiskM) (nm : ByteArray) (stop : Nat) (r : List Nat) : Nat := if 65536 < r.length then 3 else if M.miss nm ≠ 0 then M.miss nm else if M.sizeN nm ≠ stop then 9 else M.appendE nm (writtenB r stop).length
def DiskM.addM (M : DiskM) (nm : ByteArray) (stop : Nat) (r : List Nat) : DiskM := if M.addE nm stop r = 0 then M.appendM nm (writtenB r stop) else M
def DiskM.addS (M : DiskM) (nm : ByteArray) (stop : Nat) (r : List Nat) : Nat := if M.addE nm stop r = 0 then stop + (writtenB r stop).length else stop

/-- what a journal's Add leaves -/
def AddDone (L : LayD) (M : DiskM) (nm : ByteArray) (j stop : Nat) (r : List Nat) (X : List (Nat × Obj)) (w : World) (e : Ending) (w' : World) : Prop :=
  e = .returned (.int .i64 (M.addE nm stop r : Nat)) ∧ ∃ L', L'.d = L.d ∧ Held w' L' (M.addM nm stop r) ((j, jObj L.d nm (M.addS nm stop r)) :: X) ∧ MovesX (ownX L ((j, jObj L.d nm stop) :: X)) w (ownX L' ((j, jObj L.d nm (M.addS nm stop r)) :: X)) w'

theorem addDone_no {L : LayD} {M : DiskM} {nm : ByteArray} {j stop : Nat} {r : List Nat} {X : List (Nat × Obj)} {w w' : World} {e : Ending} {k : Nat} (h : Held w L M ((j, jObj L.d nm stop) :: X)) (hb : Below w.heap.size w w') (hE : M.addE nm stop r = k) (hk : k ≠ 0) (he : e = .returned (.int .i64 (k : Int))) :
    AddDone L M nm j stop r X w e w' := by
  have h0 : M.addE nm stop r ≠ 0 := by omega
  refine ⟨by rw [hE]; exact he, L, rfl, ?_, ?_⟩
  · unfold DiskM.addM DiskM.addS
    rw [if_neg h0, if_neg h0]
    exact h.kept hb
  · unfold DiskM.addS
    rw [if_neg h0]
    exact MovesX.of_below hb

theorem Held.jcell {w : World} {L : LayD} {M : DiskM} {nm : ByteArray} {j d stop : Nat} {X : List (Nat × Obj)} (h : Held w L M ((j, jObj d nm stop) :: X)) :
    w.cell? ⟨j, 0, none⟩ = some (.pointer (some ⟨d, 0, none⟩)) ∧ w.cell? ⟨j, 1, none⟩ = some (.string nm) ∧ w.cell? ⟨j, 2, none⟩ = some (.int .i64 (stop : Int)) ∧ w.frozen? ⟨j, 2, none⟩ = false := by
  have hh : w.heap[j]? = some (jObj d nm stop) := (h.item (j, jObj d nm stop) (by simp)).1
  exact ⟨cell_of_block hh 0, cell_of_block hh 1, cell_of_block hh 2, by simp [World.frozen?, hh, jObj]⟩

theorem box3_set2 {w : World} {B d : Nat} {nm : ByteArray} {s : Nat} (z : Value) (h : w.heap[B]? = some (jObj d nm s)) : (w.setCell ⟨B, 2, none⟩ z).heap[B]? = some (.cells #[.pointer (some ⟨d, 0, none⟩), .string nm, z] 25 (0, 0)) := by
  obtain ⟨hlt, hk⟩ := Array.getElem?_eq_some_iff.1 h
  show (w.heap.modify B _)[B]? = _
  rw [Array.getElem?_eq_getElem (by rw [Array.size_modify]; exact hlt), Array.getElem_modify_self, hk]
  rfl

set_option maxRecDepth 100000 in
set_option maxHeartbeats 4000000 in
theorem add_any (L : LayD) (M : DiskM) (nm : ByteArray) (j stop : Nat) (ao : Option Addr) (n cap : Nat) (r : List Nat) (X : List (Nat × Obj)) (w : World) (h : Held w L M ((j, jObj L.d nm stop) :: X)) (hs : nm.size ≤ 4294967296) (hr : Row8 w ao n cap r) :
    Calls Try.prog 10 #[.pointer (some ⟨j, 0, none⟩), .slice ao n cap] w (AddDone L M nm j stop r X w) := by
  have H := Lib.hid h
  have HR := Lib.hid hr
  have HLEN := Lib.hid hr.len
  have hrm := hr.room
  have hmo := hr.most
  obtain ⟨c0, c1, c2, f2⟩ := h.jcell
  clear h hr
  by_cases hbig : 65536 < n
  · have HE : Hid (M.addE nm stop r = 3) := by show _ = _; unfold DiskM.addE; rw [if_pos (by rw [HLEN.out]; exact hbig)]
    go_enter Try.func10, Try.ntmps10
    go_wp2_with fail
    refine (jnone_no j L.d w c0).mono ?_
    rintro e w' ⟨rfl, rfl⟩
    go_wp2
    go_ret
    exact addDone_no H.out (Below.refl _ _) HE.out (by decide) rfl
  · have q0 := bwOf_cell w _ _ c0
    have q1 := bwOf_cell w _ _ c1
    have hsize := size_any L M nm
    go_enter Try.func10, Try.ntmps10
    go_wp2_with fail
    refine (jnone_no j L.d w c0).mono ?_
    rintro e w' ⟨rfl, rfl⟩
    go_wp2_with fail
    refine wp_region_bw (w := w) (by kernel_rfl) (by kernel_rfl) ?_
    repeat (go_big_quiet_step ((go_at_call 28; exact below_of (size_any L M nm _ (H.out.kept (bwOf_below _ _)).disk hs))))
    refine wpQuiet_nil ?_
    rintro w1 ⟨m1, rfl⟩
    have HB1 := Lib.hid (bwOf_below w m1)
    generalize bwOf w m1 = w1 at *
    have H1 := Lib.hid (H.out.kept HB1.out)
    clear q0 q1 hsize
    obtain ⟨d0, d1, d2, g2⟩ := H1.out.jcell
    by_cases hm : M.miss nm = 0
    · have hm2 : (((M.miss nm : Nat) : Int) != 0) = false := by rw [hm]; rfl
      by_cases hst : M.sizeN nm = stop
      · have hst2 : (((M.sizeN nm : Nat) : Int) != (stop : Int)) = false := by rw [hst]; simp
        have hsz := sizeN_le H.out.disk nm
        have HM := Lib.hid hm
        have HST := Lib.hid hst
        have hle := (writtenB_len r stop).1
        have hrl := HLEN.out
        have hwl : (writtenB r stop).length ≤ 1000000 := by omega
        have HEQ : Hid (M.addE nm stop r = M.appendE nm (writtenB r stop).length) := by
          show _ = _
          unfold DiskM.addE
          rw [if_neg (by rw [HLEN.out]; exact hbig), if_neg (by simp [hm]), if_neg (by simp [hst])]
        have hstop : stop ≤ 1048576 := by omega
        clear hm hst hsz hle hrl c0 c1 c2 f2
        go_wp2_with fail
        refine (written_n r stop ao n cap w1 (HR.out.kept HB1.out) (by omega) (by omega)).mono ?_
        rintro e w2 ⟨v, rfl, hown, _, hb2⟩
        have H2 := Lib.hid (H1.out.kept hb2)
        have HB2 := Lib.hid (below_next HB1.out hb2)
        obtain ⟨bo, bc, rfl, hrow, _⟩ := Row8.of_owns hown (writtenB_byte stop HR.out.byte)
        have HROW := Lib.hid hrow
        clear hown hb2 hrow d0 d1 d2 g2
        obtain ⟨e0, e1, e2, k2⟩ := H2.out.jcell
        generalize hwb : writtenB r stop = wb at *
        have HWB := Lib.hid hwb
        clear hwb
        go_wp2_with fail
        go_region_held3 (fun x => x.cell? ⟨j, 0, none⟩ = some (.pointer (some ⟨L.d, 0, none⟩)) ∧ x.cell? ⟨j, 1, none⟩ = some (.string nm)) (first | exact ⟨e0, e1⟩ | exact SS.out) ((first
          | (go_at_call 21; refine (append_any L M nm bo wb.length bc wb _ (H2.out.kept (Below.refl _ _).drew).disk hs HROW.out.drew).mono ?_; rintro e w3 ⟨rfl, L', hmv, hd⟩; have hmm := (H2.out.kept (Below.refl _ _).drew).moves hmv hd; have H3 := Lib.hid hmm.1; have MV := Lib.hid hmm.2; have HLD := Lib.hid hmv.d; have SS := Lib.hid (And.intro hmm.1.jcell.1 hmm.1.jcell.2.1); clear hmm hmv hd)))
        obtain ⟨y0, y1, y2, yf⟩ := H3.out.jcell
        have hnl : L'.d = L.d := HLD.out
        by_cases hE : M.appendE nm wb.length = 0
        · have hE2 : (((M.appendE nm wb.length : Nat) : Int) != 0) = false := by rw [hE]; rfl
          have HE := Lib.hid hE
          clear hE
          go_wp2
          go_ret
          have h0 : M.addE nm stop r = 0 := HEQ.out.trans HE.out
          have hlt : j < w3.heap.size := World.block_lt_of_cell? w3 _ y0
          refine ⟨by rw [h0]; rfl, L', hnl, ?_, ?_⟩
          · unfold DiskM.addM DiskM.addS
            rw [if_pos h0, if_pos h0, HWB.out]
            have hj : w3.heap[j]? = some (jObj L.d nm stop) := (H3.out.item (j, jObj L.d nm stop) (by simp)).1
            refine H3.out.turn ?_ (fun i hi => Below.heap_setCell w3 ⟨j, 2, none⟩ _ i hi)
            rw [box3_set2 _ hj]
            unfold jObj
            rw [show ((stop + wb.length : Nat) : Int) = (stop : Int) + (wb.length : Int) by omega]
          · refine (MovesX.of_below (HB2.out.drew)).trans (MV.out.trans ⟨rfl, rfl, rfl, by simp, fun k hk hn => Below.heap_setCell w3 ⟨j, 2, none⟩ _ k (fun e => hn (.inr ⟨(j, jObj L.d nm stop), by simp, e.symm⟩)), fun k hk => .inl ?_⟩)
            rcases hk with hk | ⟨x, hx, rfl⟩
            · exact .inl hk
            · rcases List.mem_cons.1 hx with rfl | hx
              · exact .inr ⟨(j, jObj L.d nm stop), by simp, rfl⟩
              · exact .inr ⟨x, by simp [hx], rfl⟩
        · have hE2 : (((M.appendE nm wb.length : Nat) : Int) != 0) = true := by simp; omega
          have HE := Lib.hid hE
          clear hE
          go_wp2
          go_ret
          have h0 : M.addE nm stop r ≠ 0 := by rw [HEQ.out]; exact HE.out
          have hM : M.appendM nm wb = M := by unfold DiskM.appendM; rw [if_neg HE.out]
          refine ⟨by rw [HEQ.out]; rfl, L', hnl, ?_, ?_⟩
          · unfold DiskM.addM DiskM.addS
            rw [if_neg h0, if_neg h0]
            have := H3.out
            rw [hM] at this
            exact this
          · unfold DiskM.addS
            rw [if_neg h0]
            exact (MovesX.of_below (HB2.out.drew)).trans MV.out
      · have hst2 : (((M.sizeN nm : Nat) : Int) != (stop : Int)) = true := by simp; omega
        have HE : Hid (M.addE nm stop r = 9) := by show _ = _; unfold DiskM.addE; rw [if_neg (by rw [HLEN.out]; exact hbig), if_neg (by simp [hm]), if_pos hst]
        clear hm hst
        go_wp2
        go_ret
        exact addDone_no H.out HB1.out HE.out (by decide) rfl
    · have hm2 : (((M.miss nm : Nat) : Int) != 0) = true := by simp; omega
      have HE : Hid (M.addE nm stop r = M.miss nm) := by show _ = _; unfold DiskM.addE; rw [if_neg (by rw [HLEN.out]; exact hbig), if_pos hm]
      have HM := Lib.hid hm
      clear hm
      go_wp2
      go_ret
      exact addDone_no H.out HB1.out HE.out HM.out rfl
end Go.Proofs.Ytkmanpmaflpgoaa
