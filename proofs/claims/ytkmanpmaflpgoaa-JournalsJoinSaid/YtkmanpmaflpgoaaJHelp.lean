/-
  WHAT IS PROVED: contracts of journals beside a disk of the call's own: Open, Add, Sync; of the statements' helpers: opened, bytes, tells.
-/
import Derived.Test.YtkmanpmaflpgoaaJSame
import Derived.Test.YtkmanpmaflpgoaaJAdd
namespace Go.Proofs.Ytkmanpmaflpgoaa
open Go.RowKit Go.Lib

section
variable {w0 w : World} {d : Nat} {M M' : DiskM} {k : Int} {X : List (Nat × Obj)}

theorem add_x {j stop stop' : Nat} {nm : ByteArray} (h : HasX w0 w d M ((j, jObj d nm stop) :: X)) (hs : nm.size ≤ 4294967296) (ao : Option Addr) (n cap : Nat) (r : List Nat) (hr : Row8 w ao n cap r)
    (hk : (M.addE nm stop r : Int) = k) (hM : M.addM nm stop r = M') (hS : M.addS nm stop r = stop') :
    Calls Try.prog 10 #[.pointer (some ⟨j, 0, none⟩), .slice ao n cap] w (DoesX w0 d M' ((j, jObj d nm stop') :: X) k) := by
  obtain ⟨L, rfl, h2, h3, h4⟩ := h
  refine (add_any L M nm j stop ao n cap r X w h2 hs hr).mono ?_
  rintro e w' ⟨he, L', hd, hh, hm⟩
  subst hM hS hk
  exact ⟨he, HasX.of hd hh hm h3 h4⟩

theorem add_nil (v : Value) (w : World) : Calls Try.prog 10 #[.pointer none, v] w fun e w' => e = .returned (.int .i64 2) ∧ w = w' := by
  go_enter Try.func10, Try.ntmps10
  go_wp2_with fail
  refine (jnone_nil w).mono ?_
  rintro e w' ⟨rfl, rfl⟩
  go_wp2
  go_ret
  exact ⟨rfl, rfl⟩
theorem add_zero (j : Nat) (v : Value) (w : World) (hc : w.cell? ⟨j, 0, none⟩ = some (.pointer none)) : Calls Try.prog 10 #[.pointer (some ⟨j, 0, none⟩), v] w fun e w' => e = .returned (.int .i64 2) ∧ w = w' := by
  go_enter Try.func10, Try.ntmps10
  go_wp2_with fail
  refine (jnone_zero j w hc).mono ?_
  rintro e w' ⟨rfl, rfl⟩
  go_wp2
  go_ret
  exact ⟨rfl, rfl⟩
theorem jsync_nil (w : World) : Calls Try.prog 11 #[.pointer none] w fun e w' => e = .returned (.int .i64 2) ∧ w = w' := by
  go_enter Try.func11, Try.ntmps11
  go_wp2_with fail
  refine (jnone_nil w).mono ?_
  rintro e w' ⟨rfl, rfl⟩
  go_wp2
  go_ret
  exact ⟨rfl, rfl⟩
theorem jsync_zero (j : Nat) (w : World) (hc : w.cell? ⟨j, 0, none⟩ = some (.pointer none)) : Calls Try.prog 11 #[.pointer (some ⟨j, 0, none⟩)] w fun e w' => e = .returned (.int .i64 2) ∧ w = w' := by
  go_enter Try.func11, Try.ntmps11
  go_wp2_with fail
  refine (jnone_zero j w hc).mono ?_
  rintro e w' ⟨rfl, rfl⟩
  go_wp2
  go_ret
  exact ⟨rfl, rfl⟩

theorem HasX.jcell {j stop : Nat} {nm : ByteArray} (h : HasX w0 w d M ((j, jObj d nm stop) :: X)) :
    w.cell? ⟨j, 0, none⟩ = some (.pointer (some ⟨d, 0, none⟩)) ∧ w.cell? ⟨j, 1, none⟩ = some (.string nm) := by
  obtain ⟨L, rfl, h2, _, _⟩ := h
  exact ⟨h2.jcell.1, h2.jcell.2.1⟩

set_option maxRecDepth 100000 in
set_option maxHeartbeats 2000000 in
theorem jsync_x {j stop : Nat} {nm : ByteArray} (h : HasX w0 w d M ((j, jObj d nm stop) :: X)) (hs : nm.size ≤ 4294967296) (hk : (M.miss nm : Int) = k) (hM : M.syncM nm = M') :
    Calls Try.prog 11 #[.pointer (some ⟨j, 0, none⟩)] w (DoesX w0 d M' ((j, jObj d nm stop) :: X) k) := by
  obtain ⟨c0, c1⟩ := h.jcell
  have H := Lib.hid h
  clear h
  go_enter Try.func11, Try.ntmps11
  go_wp2_with fail
  refine (jnone_no j d w c0).mono ?_
  rintro e w' ⟨rfl, rfl⟩
  go_wp2_with fail
  go_region_held3 (fun x => x.cell? ⟨j, 0, none⟩ = some (.pointer (some ⟨d, 0, none⟩)) ∧ x.cell? ⟨j, 1, none⟩ = some (.string nm)) (first | exact ⟨c0, c1⟩ | exact SS.out) ((first
    | (go_at_call 30; refine (sync_x H.out.drew nm hs hk hM).mono ?_; rintro e w3 ⟨rfl, h3⟩; have H3 := Lib.hid h3; have SS := Lib.hid h3.jcell; clear h3)))
  go_wp2
  go_ret
  exact ⟨rfl, H3.out⟩

/-- a journal is opened of a file that is there -/
def OpensX (w0 w : World) (d : Nat) (M : DiskM) (X : List (Nat × Obj)) (nm : ByteArray) (rs : List (List Nat)) (stop : Nat) (e : Ending) (w' : World) : Prop :=
  ∃ j ao cap, e = .returned (.tuple #[.pointer (some ⟨j, 0, none⟩), .slice ao rs.length cap, .int .i64 0]) ∧ HasX w0 w' d M ((j, jObj d nm stop) :: X) ∧ RowR w' ao rs.length cap rs ∧ w.heap.size ≤ j

theorem open_x (h : HasX w0 w d M X) (nm : ByteArray) (hs : nm.size ≤ 4294967296) (hm : M.miss nm = 0) {rs : List (List Nat)} {stop : Nat} (h1 : (readM (M.all nm)).recs = rs) (h2 : (readM (M.all nm)).stop = stop) :
    Calls Try.prog 9 #[.pointer (some ⟨d, 0, none⟩), .string nm] w fun e w' => OpensX w0 w d M X nm rs stop e w' ∧ Below w.heap.size w w' := by
  subst h1 h2
  have h' := h
  obtain ⟨L, rfl, h2, h3, h4⟩ := h
  refine (open_0 L M nm w h2.disk hs hm).mono ?_
  rintro e w' ⟨⟨j, ao, cap, he, hj, hjl, hr⟩, hb⟩
  exact ⟨⟨j, ao, cap, he, h'.add hb hjl hj, hr, hjl⟩, hb⟩

theorem open_new_x (h : HasX w0 w d M X) (nm : ByteArray) (hs : nm.size ≤ 4294967296) (hm : M.miss nm = 7) (hc : M.createE nm = 0) (hM : M.createM nm = M') :
    Calls Try.prog 9 #[.pointer (some ⟨d, 0, none⟩), .string nm] w (OpensX w0 w d M' X nm [] 0) := by
  subst hM
  obtain ⟨L, rfl, h2, h3, h4⟩ := h
  refine (open_7 L M nm w h2.disk hs hm hc).mono ?_
  rintro e w' ⟨⟨j, ao, cap, he, hj, hjl, hr⟩, L', w1, hmv, hd, hb, hjw⟩
  rw [readM_nil.1] at he hr
  rw [readM_nil.2] at hj
  obtain ⟨hh, hm2⟩ := h2.moves hmv hd
  have hx1 : HasX w0 w1 L.d (M.createM nm) X := HasX.of hmv.d hh hm2 h3 h4
  exact ⟨j, ao, cap, he, hx1.add hb (hjw _ _ _ he) hj, hr, hjl⟩

/-- the statements' bytes: all of a file's -/
theorem bytes_x (h : HasX w0 w d M X) (nm : ByteArray) (hs : nm.size ≤ 4294967296) {l : List Nat} (hl : M.all nm = l) :
    Calls Try.prog 19 #[.pointer (some ⟨d, 0, none⟩), .string nm] w fun e w' => ∃ ao cap, e = .returned (.slice ao l.length cap) ∧ Row8 w' ao l.length cap l ∧ Below w.heap.size w w' ∧ ∀ a, ao = some a → w.heap.size ≤ a.block ∧ a.off = 0 ∧ a.spot = none ∧ ∃ cs, w'.heap[a.block]? = some (.cells cs 5 (0, 0)) := by
  subst hl
  obtain ⟨L, rfl, h2, h3, h4⟩ := h
  have H := Lib.hid h2.disk
  have hsz := sizeN_le h2.disk nm
  clear h2 h3 h4
  go_enter Try.func19, Try.ntmps19
  go_wp2_with fail
  refine (size_any L M nm w H.out hs).mono ?_
  rintro e w1 ⟨rfl, hb1⟩
  have H1 := Lib.hid (H.out.below hb1)
  have HB1 := Lib.hid hb1
  clear hb1
  go_wp2_with fail
  refine (read_any L M nm 0 (M.sizeN nm) (by omega) (by omega) w1 H1.out hs).mono ?_
  rintro e w2 ⟨v, rfl, hown, hb2⟩
  rw [all_read] at hown
  have HOWN := Lib.hid hown
  obtain ⟨ao, cap, rfl, hrow, ha⟩ := Row8.of_owns hown (all_byte H1.out nm).1
  have HR := Lib.hid hrow
  have HA := Lib.hid ha
  have HB2 := Lib.hid (below_next HB1.out hb2)
  clear hown hb2 hrow ha
  go_wp2
  go_ret
  refine ⟨_, _, rfl, HR.out, HB2.out, fun a ha => ?_⟩
  obtain ⟨a1, a2, a3⟩ := HA.out a ha
  obtain ⟨cs, hcs⟩ := ownsRow_block HOWN.out (k := a.block) (by rw [ha]; obtain ⟨b, off, sp⟩ := a; simp only at a2 a3; subst a2 a3; rfl)
  exact ⟨Nat.le_trans HB1.out.size a1, a2, a3, cs, hcs⟩

theorem tells_x (h : HasX w0 w d M X) (nm : ByteArray) (hs : nm.size ≤ 4294967296) (hm : M.miss nm = 0) {rs : List (List Nat)} (h1 : (readM (M.all nm)).recs = rs) (ao : Option Addr) (n cap : Nat) (hr : RowR w ao n cap rs) :
    Calls Try.prog 17 #[.pointer (some ⟨d, 0, none⟩), .string nm, .slice ao n cap] w fun e w' => e = .returned (.bool true) ∧ Below w.heap.size w w' := by
  obtain rfl := hr.len
  have H := Lib.hid h
  have HM := Lib.hid hm
  have H1 := Lib.hid h1
  have HR := Lib.hid hr
  clear h hm h1 hr
  go_enter Try.func17, Try.ntmps17
  go_wp2_with fail
  refine (open_x H.out nm hs HM.out H1.out rfl).mono ?_
  rintro e w1 ⟨⟨j, ao2, cap2, rfl, _, hrow, _⟩, hb1⟩
  have HROW := Lib.hid hrow
  have HR1 := Lib.hid (HR.out.kept hb1)
  have HB1 := Lib.hid hb1
  clear hrow hb1
  go_wp2_with fail
  refine (sameRecords_same ao2 ao rs.length cap2 cap rs w1 HROW.out HR1.out).mono ?_
  rintro e w2 ⟨rfl, hb2⟩
  have HB2 := Lib.hid (below_next HB1.out hb2)
  clear hb2
  go_wp2
  go_ret
  exact ⟨rfl, HB2.out⟩
end

abbrev nJ : ByteArray := ⟨#[106]⟩
/-- a disk with a journal's file -/
def jM (n : Nat) (b : List Nat) (s : Nat) : DiskM := ⟨n, [(nJ, 0)], [], [⟨b, s⟩]⟩
theorem jM_open (n : Nat) : (newM n).miss nJ = 7 ∧ (newM n).createE nJ = 0 ∧ (newM n).createM nJ = jM n [] 0 := ⟨by kernel_rfl, by kernel_rfl, by kernel_rfl⟩

/-- the statements' opened -/
theorem opened_x (w0 w : World) (hb : Below w0.heap.size w0 w) (n : Nat) (h1 : 1 ≤ n) (h2 : n ≤ 8388608) :
    Calls Try.prog 14 #[.int .i64 n] w fun e w' => ∃ d j, e = .returned (.tuple #[.pointer (some ⟨d, 0, none⟩), .pointer (some ⟨j, 0, none⟩)]) ∧ HasX w0 w' d (jM n [] 0) [(j, jObj d nJ 0)] := by
  have HB := Lib.hid hb
  have HJ := Lib.hid (jM_open n)
  clear hb
  go_enter Try.func14, Try.ntmps14
  go_wp2_with fail
  refine (new_h (M := newM n) n w0 w HB.out h1 h2 rfl).mono ?_
  rintro e w1 ⟨d, rfl, hh, _⟩
  have H1 := Lib.hid hh.x
  clear hh
  go_wp2_with fail
  refine (open_new_x H1.out nJ (by decide) HJ.out.1 HJ.out.2.1 HJ.out.2.2).mono ?_
  rintro e w2 ⟨j, ao, cap, rfl, hx, _, _⟩
  have H2 := Lib.hid hx
  clear hx
  go_wp2
  go_ret2
  exact ⟨d, j, rfl, H2.out⟩
end Go.Proofs.Ytkmanpmaflpgoaa
